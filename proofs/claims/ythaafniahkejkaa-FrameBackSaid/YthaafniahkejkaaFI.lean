import Derived.Test.YthaafniahkejkaaFG
import Derived.Test.YthaafniahkejkaaFH
/-
  The law's own helpers: made, refused; and works: are the examples as they are told?
-/
namespace Go.Proofs.Ythaafniahkejkaa.Frame
open Go Go.RowKit
open Go.Proofs.Ythaafniahkejkaa.Wire (S S_list S_size S_append)

theorem S_take (l : List UInt8) (n : Nat) : (S l).extract 0 n = S (l.take n) := by rw [S_mid, List.drop_zero, Nat.sub_zero]
theorem slice_to (l : List UInt8) (k : Nat) (h : k ≤ l.length) (W : World) : (Instr.slice 9 (.string (S l)) none (some (.int .i64 (k : Int))) none).run Try.prog W = .ok (.string (S (l.take k))) W := by
  have y0 : (0 : Int) ≤ (k : Int) := by omega
  have y1 : (k : Int) ≤ ((S l).size : Int) := by have := S_size l; omega
  have y2 : k ≤ (S l).size := by rw [S_size]; exact h
  rw [← S_take]
  go_simp
theorem made_any (q : Int) (s : ByteArray) (hs : s.size ≤ 1000000000000) (w : World) :
    Calls Try.prog 11 #[.int .i64 q, .string s] w fun e w' => e = .returned (.string (S (mkB q s.data.toList))) ∧ Below w.heap.size w w' := by
  have HM := Lib.hid (fun W => Make_any q s hs W)
  clear hs
  go_enter Try.func11, Try.ntmps11
  go_wp2_with fail
  refine (HM.out _).mono ?_
  rintro e w1 ⟨rfl, hb⟩
  have HB := Lib.hid hb
  clear hb
  unfold mkV
  go_wp2_with fail
  go_ret
  exact ⟨rfl, HB.out⟩

/-! ### the examples -/
def ab : List UInt8 := [97, 98]
def E7 : List UInt8 := frB 7 ab
def E8 : List UInt8 := frB 8 ab
theorem E7_len : E7.length = 18 := frB_length 7 ab
theorem E8_len : E8.length = 18 := frB_length 8 ab
theorem E7_head : E7.take 12 = [0, 0, 0, 2, 0, 0, 0, 0, 0, 0, 0, 7] := by
  have := fr_take12 7 ab []
  rw [List.append_nil] at this
  exact this.trans (by decide +kernel)
theorem E7_tail : E7.drop 16 = ab := by
  unfold E7 frB
  rw [show (16 : Nat) = 12 + 4 from rfl, ← List.drop_drop, drop_front (headB_length _ _), drop_front (fourL_length _)]
theorem mk7 : mkB 7 ab = E7 := by unfold mkB; rw [if_pos (by decide +kernel)]; rfl
theorem mk8 : mkB 8 ab = E8 := by unfold mkB; rw [if_pos (by decide +kernel)]; rfl
def E78 : List UInt8 := E7 ++ E8.take 17
theorem E78_len : E78.length = 35 := by unfold E78; rw [List.length_append, E7_len, List.length_take, E8_len]; rfl
theorem scan7 : scanF E78 0 7 = [⟨7, ab, 0⟩] := by
  unfold E78 E7
  rw [show (7 : Int) = ((7 : Nat) : Int) from rfl, scan_fr 7 ab _ 0 (by decide) (by decide) (by decide)]
  rw [scan_none (fun h => by have := rd_cut 8 ab 17 (by decide) (by decide) (by decide) (by decide); unfold E8 at h; rw [this] at h; exact absurd h.1 (by decide))]
theorem scan8 : scanF E78 0 8 = [] := by
  refine scan_none (fun h => ?_)
  obtain ⟨_, b, _, _⟩ := fr_parts 7 ab (E8.take 17) (by decide) (by decide)
  have h2 := h.2
  unfold E78 E7 at h2
  rw [b] at h2
  exact absurd h2 (by decide)

set_option maxRecDepth 100000 in
set_option maxHeartbeats 2000000 in
/-- **works** -/
theorem works_any (w : World) : Calls Try.prog 9 #[] w fun e w' => e = .returned (.bool true) ∧ Below w.heap.size w w' := by
  have h7 := fun W => made_any 7 (S ab) (by decide) W
  have h8 := fun W => made_any 8 (S ab) (by decide) W
  rw [S_list, mk7] at h7
  rw [S_list, mk8] at h8
  have s7 := fun W => Scan_any (S E78) 0 (Nat.zero_le _) (by rw [S_size, E78_len]; decide) 7 (by decide) W
  have s8 := fun W => Scan_any (S E78) 0 (Nat.zero_le _) (by rw [S_size, E78_len]; decide) 8 (by decide) W
  unfold ScR at s7 s8
  rw [S_list, List.drop_zero, scan7] at s7
  rw [S_list, List.drop_zero, scan8] at s8
  have z7 : (S E7).size = 18 := by rw [S_size, E7_len]
  have z8 : (S E8).size = 18 := by rw [S_size, E8_len]
  have t1 : (S E7).extract 0 12 = S [0, 0, 0, 2, 0, 0, 0, 0, 0, 0, 0, 7] := by rw [S_take, E7_head]
  have t2 : (S E7).extract 16 18 = S ab := by rw [S_mid, E7_tail]; rfl
  have t3 : (S E8).extract 0 17 = S (E8.take 17) := S_take _ _
  have hcat : S E7 ++ S (E8.take 17) = S E78 := S_append _ _
  have z9 : (S (E8.take 17)).size = 17 := by rw [S_size, List.length_take, E8_len]; rfl
  have H7 := Lib.hid h7
  have H8 := Lib.hid h8
  have S7 := Lib.hid s7
  have S8 := Lib.hid s8
  clear h7 h8 s7 s8
  rw [show S ab = ⟨#[97, 98]⟩ from rfl] at H7 H8 t2
  rw [show S [0, 0, 0, 2, 0, 0, 0, 0, 0, 0, 0, 7] = ⟨#[0, 0, 0, 2, 0, 0, 0, 0, 0, 0, 0, 7]⟩ from rfl] at t1
  generalize S E7 = A at *
  generalize S (E8.take 17) = B17 at *
  generalize S E8 = B at *
  generalize S E78 = T at *
  go_enter Try.func9, Try.ntmps9
  go_wp2_with fail
  refine (H7.out _).mono ?_
  rintro e w1 ⟨rfl, hb⟩
  have HB1 := Lib.hid hb; clear hb
  go_wp2_with fail
  refine (H8.out _).mono ?_
  rintro e w2 ⟨rfl, hb⟩
  have HB2 := Lib.hid (HB1.out.trans (hb.mono HB1.out.size)); clear hb HB1
  go_wp2_with fail
  refine (S7.out _).mono ?_
  rintro e w3 ⟨v, rfl, ho, hb⟩
  obtain ⟨A1, c1, rfl, -, -, hr, -⟩ := ho.row
  obtain ⟨b, o, rfl, hlt, k0, k1, k2⟩ := hr 0 (by decide)
  have HB3 := Lib.hid (HB2.out.trans (hb.mono HB2.out.size)); clear hb HB2 ho
  have HR := Lib.hid hr
  clear hr
  simp only [List.length_cons, List.length_nil, List.getElem_cons_zero, Nat.zero_mul, Nat.add_zero, Nat.zero_add] at k0 k1 k2 ⊢
  have HLT := Lib.hid hlt
  clear hlt
  go_wp2_with fail
  refine (S8.out _).mono ?_
  rintro e w4 ⟨v, rfl, ho, hb⟩
  obtain ⟨A2, c2, rfl, -, -, -, -⟩ := ho.row
  have k0' := (hb.cell (p := ⟨b, o, none⟩) HLT.out).trans k0
  have k1' := (hb.cell (p := ⟨b, o + 1, none⟩) HLT.out).trans k1
  have k2' := (hb.cell (p := ⟨b, o + 2, none⟩) HLT.out).trans k2
  have HB4 := Lib.hid (HB3.out.trans (hb.mono HB3.out.size)); clear hb HB3 ho k0 k1 k2
  rw [show S ab = ⟨#[97, 98]⟩ from rfl] at k1'
  go_wp2_with fail
  go_ret
  exact ⟨rfl, HB4.out⟩
end Go.Proofs.Ythaafniahkejkaa.Frame
