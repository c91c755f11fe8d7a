/-
  The examples ('works').
-/
import Derived.Test.YtdllncbacbpedaaB13
namespace Go.Proofs.Ytdllncbacbpedaa.Wire
open Go.RowKit

def L9 : List UInt8 := [1, 2, 2, 97, 98, 2, 1, 0, 0]
theorem L9_eq : (([] ++ fixB 2 258) ++ textB ⟨#[97, 98]⟩) ++ lowB 258 = L9 := by decide +kernel
theorem tx1 : txR ⟨#[2, 97, 98]⟩ 0 0 1 = (⟨#[]⟩, 0, 40) := by decide +kernel
theorem tx2 : txR ⟨#[2, 97]⟩ 0 0 9 = (⟨#[]⟩, 0, 8) := by decide +kernel
def nines : ByteArray := ⟨#[255, 255, 255, 255, 255, 255, 255, 255, 255, 2]⟩
theorem wr1 : shR ⟨#[128, 0]⟩ 0 0 9 = (0, 0, 4) := by decide +kernel
theorem wr2 : shR ⟨#[255, 255, 255, 255, 255, 255, 255, 255, 255, 2]⟩ 0 0 18446744073709551615 = (0, 0, 4) := by decide +kernel
theorem sh1 (w : World) : Calls Try.prog 10 #[.int .u64 0] w fun e w' => e = .returned (.string ⟨#[0]⟩) ∧ Below w.heap.size w w' := short_lit 0 0 rfl (by decide) _ (by decide +kernel) w
theorem sh2 (w : World) : Calls Try.prog 10 #[.int .u64 127] w fun e w' => e = .returned (.string ⟨#[127]⟩) ∧ Below w.heap.size w w' := short_lit 127 127 rfl (by decide) _ (by decide +kernel) w
theorem sh3 (w : World) : Calls Try.prog 10 #[.int .u64 128] w fun e w' => e = .returned (.string ⟨#[128, 1]⟩) ∧ Below w.heap.size w w' := short_lit 128 128 rfl (by decide) _ (by decide +kernel) w
theorem sh4 (w : World) : Calls Try.prog 10 #[.int .u64 300] w fun e w' => e = .returned (.string ⟨#[172, 2]⟩) ∧ Below w.heap.size w w' := short_lit 300 300 rfl (by decide) _ (by decide +kernel) w
theorem sh5 (w : World) : Calls Try.prog 10 #[.int .u64 18446744073709551615] w fun e w' => e = .returned (.string ⟨#[255, 255, 255, 255, 255, 255, 255, 255, 255, 1]⟩) ∧ Below w.heap.size w w' := short_lit 18446744073709551615 18446744073709551615 rfl (by decide) _ (by decide +kernel) w
theorem wg1 (w : World) : Calls Try.prog 17 #[.string ⟨#[128, 0]⟩, .int .u64 9, .int .i64 4] w fun e w' => e = .returned (.bool true) ∧ Below w.heap.size w w' := wrong_law _ 9 9 rfl 4 4 rfl (by decide) (by decide) wr1 w
theorem wg2 (w : World) : Calls Try.prog 17 #[.string ⟨#[255, 255, 255, 255, 255, 255, 255, 255, 255, 2]⟩, .int .u64 18446744073709551615, .int .i64 4] w fun e w' => e = .returned (.bool true) ∧ Below w.heap.size w w' := wrong_law _ 18446744073709551615 18446744073709551615 rfl 4 4 rfl (by decide) (by decide) wr2 w
theorem hid_lt {a b : Nat} (h : a < b) : Hid (a < b) := h

set_option maxRecDepth 100000 in
set_option maxHeartbeats 1000000 in
theorem works_any (w : World) :
    Calls Try.prog 9 #[] w fun e w' => e = .returned (.bool true) ∧ Below w.heap.size w w' := by
  have HI := Lib.hid (Inv.new w)
  have HT1 := Lib.hid tx1
  have HT2 := Lib.hid tx2
  have HL := Lib.hid L9_eq
  have hn1 : Hid (258 < 65536) := by show _ < _; omega
  have hn2 : Hid (258 < 4294967296) := by show _ < _; omega
  have hB : Hid (w.heap.size ≤ w.heap.size) := Nat.le_refl _
  go_enter Try.func9, Try.ntmps9
  go_wp2_with fail
  refine (u16_any _ w.heap.size w.heap.size [] 258 HI.out.wr (by decide) 258 rfl hn1).mono ?_; rintro e w1 ⟨rfl, h1, o1⟩
  have HI1 := Lib.hid (HI.out.put h1 o1); clear h1 o1
  go_wp2_with fail
  refine (text_any _ w.heap.size w.heap.size _ ⟨#[97, 98]⟩ HI1.out.wr (by decide)).mono ?_; rintro e w2 ⟨rfl, h1, o1⟩
  have HI2 := Lib.hid (HI1.out.put h1 o1); clear h1 o1
  go_wp2_with fail
  refine (low_any _ w.heap.size w.heap.size _ 258 HI2.out.wr (by decide) 258 rfl hn2).mono ?_; rintro e w3 ⟨rfl, h1, o1⟩
  rw [HL.out] at h1
  have HI3 := Lib.hid (HI2.out.put h1 o1); clear h1 o1
  go_wp2_with fail
  refine (new_any _ w3).mono ?_; rintro e w4 ⟨rfl, rfl⟩
  have HI4 := Lib.hid (HI3.out.alloc (.cells (rdS ⟨#[2, 97, 98]⟩ 0 0) 73))
  have HR1 := Lib.hid (Rd.new ⟨#[2, 97, 98]⟩ w3)
  have hBr : Hid (w.heap.size ≤ w3.heap.size) := HI3.out.wr.low
  go_wp2_with fail
  refine (rtext_any w3.heap.size ⟨#[2, 97, 98]⟩ 0 0 1 _ HR1.out (by decide) (by decide) (by decide)).mono ?_; rintro e w5 ⟨rfl, hst⟩
  have e1 : (1 : Int).toNat = 1 := rfl
  rw [e1, HT1.out] at hst ⊢
  have HST1 := Lib.hid hst
  have HI5 := Lib.hid (HI4.out.step hBr.out HR1.out hst); clear hst
  go_wp2_with fail
  refine (err_any w3.heap.size _ 0 40 w5 HST1.out.1).mono ?_; rintro e w6 ⟨rfl, n6, rfl⟩
  have HI6 := Lib.hid (HI5.out.drewN n6)
  go_wp2_with fail
  refine (new_any _ (w5.drewN n6)).mono ?_; rintro e w7 ⟨rfl, rfl⟩
  have HI7 := Lib.hid (HI6.out.alloc (.cells (rdS ⟨#[2, 97]⟩ 0 0) 73))
  have HR2 := Lib.hid (Rd.new ⟨#[2, 97]⟩ (w5.drewN n6))
  have hBr2 : Hid (w.heap.size ≤ w5.heap.size) := HI5.out.wr.low
  go_wp2_with fail
  refine (rtext_any w5.heap.size ⟨#[2, 97]⟩ 0 0 9 _ HR2.out (by decide) (by decide) (by decide)).mono ?_; rintro e w8 ⟨rfl, hst⟩
  have e9 : (9 : Int).toNat = 9 := rfl
  rw [e9, HT2.out] at hst ⊢
  have HST2 := Lib.hid hst
  have HI8 := Lib.hid (HI7.out.step hBr2.out HR2.out hst); clear hst
  go_wp2_with fail
  refine (err_any w5.heap.size _ 0 8 w8 HST2.out.1).mono ?_; rintro e w9 ⟨rfl, n9, rfl⟩
  have HI9 := Lib.hid (HI8.out.drewN n9)
  clear e1 e9 HI HI1 HI2 HI3 HI4 HI5 HI6 HI7 HI8
  go_wp2_with fail
  go_outline
  refine (sh1 _).mono ?_; rintro e wa ⟨rfl, hb⟩
  have HIa := Lib.hid (HI9.out.below hb); clear hb
  go_wp2_with fail
  refine (sh2 _).mono ?_; rintro e wb ⟨rfl, hb⟩
  have HIb := Lib.hid (HIa.out.below hb); clear hb
  go_wp2_with fail
  refine (sh3 _).mono ?_; rintro e wc ⟨rfl, hb⟩
  have HIc := Lib.hid (HIb.out.below hb); clear hb
  go_wp2_with fail
  refine (sh4 _).mono ?_; rintro e wd ⟨rfl, hb⟩
  have HId := Lib.hid (HIc.out.below hb); clear hb
  go_wp2_with fail
  refine (sh5 _).mono ?_; rintro e we ⟨rfl, hb⟩
  have HIe := Lib.hid (HId.out.below hb); clear hb
  go_wp2_with fail
  refine (wg1 _).mono ?_; rintro e wf ⟨rfl, hb⟩
  have HIf := Lib.hid (HIe.out.below hb); clear hb
  go_wp2_with fail
  refine (wg2 _).mono ?_; rintro e wg ⟨rfl, hb⟩
  have HIg := Lib.hid (HIf.out.below hb); clear hb
  go_wp2_with fail
  refine (bytes_any wg w.heap.size w.heap.size L9 HIg.out.wr).mono ?_; rintro e wh ⟨rfl, nh, rfl⟩
  have hL : S L9 = ⟨#[1, 2, 2, 97, 98, 2, 1, 0, 0]⟩ := rfl
  rw [hL]
  go_wp2_with fail
  go_ret
  exact ⟨rfl, (HIg.out.drewN nh).bel⟩

end Go.Proofs.Ytdllncbacbpedaa.Wire
