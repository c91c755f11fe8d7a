import Derived.Test.YtiibeemjkdipnaaGreatDoorB8
import Derived.Test.YtiibeemjkdipnaaGreatDoorB12
import Derived.Test.YtiibeemjkdipnaaGreatDoorE26
/-
  Events as bytes: plain mathematics on the values.
-/
namespace Go.Proofs.YtiibeemjkdipnaaGreatDoor.Codec
open Go Go.RowKit
open Go.Proofs.YtiibeemjkdipnaaGreatDoor.Wire (Wr Only Rd Step U fixB shortB textB sizeN fxV shR txR tkI tkE tkT)
open Go.Proofs.YtiibeemjkdipnaaGreatDoor.Schema

/-- numbers as bytes, texts as bytes -/
def nsB (xs : List Int) : List UInt8 := xs.flatMap fun n => shortB n.toNat
def tsB (ts : List ByteArray) : List UInt8 := ts.flatMap textB
/-- an event's bytes without its version -/
def bare (e : Ev) : List UInt8 := fixB 1 e.k ++ nsB e.ns ++ tsB e.ts
/-- what is put of an event, and what is answered -/
def putB (e : Ev) : List UInt8 := if may e then bare e else []
def putE (e : Ev) : Nat := if may e then 0 else 4
/-- an event's bytes -/
def encB (e : Ev) : List UInt8 := if may e then fixB 1 e.v ++ bare e else []
theorem nsB_snoc (xs : List Int) (k : Nat) (h : k < xs.length) : nsB (xs.take (k + 1)) = nsB (xs.take k) ++ shortB (xs.getD k 0).toNat := by
  unfold nsB
  rw [List.take_succ_eq_append_getElem h, List.flatMap_append, List.getD_eq_getElem?_getD, List.getElem?_eq_getElem h]
  simp
theorem tsB_snoc (xs : List ByteArray) (k : Nat) (h : k < xs.length) : tsB (xs.take (k + 1)) = tsB (xs.take k) ++ textB (xs.getD k ByteArray.empty) := by
  unfold tsB
  rw [List.take_succ_eq_append_getElem h, List.flatMap_append, List.getD_eq_getElem?_getD, List.getElem?_eq_getElem h]
  simp
theorem nsB_len (xs : List Int) : (nsB xs).length ≤ 11 * xs.length := by
  unfold nsB
  induction xs with
  | nil => simp
  | cons x xs ih =>
    rw [List.flatMap_cons, List.length_append, List.length_cons]
    have := Wire.shortB_le x.toNat
    omega
theorem nsB_zero (xs : List Int) : nsB (xs.take 0) = [] := rfl
theorem tsB_zero (xs : List ByteArray) : tsB (xs.take 0) = [] := rfl

/-- each number of an event that may be is one from 0 on -/
theorem bnd_low (v c : Int) : 0 ≤ (bnd v c).low := by
  rcases bnd_cases v c with h | ⟨k, hk, h⟩
  · rw [h]; decide
  · rw [h]
    have := bd_all (p := fun r => decide (0 ≤ r.low)) (by decide +kernel) k hk
    simpa using this
theorem fits_range {v c n : Int} (h : fits v c n = true) : 0 ≤ n ∧ n ≤ 1125899906842624 := by
  unfold fits at h
  simp only [Bool.and_eq_true, decide_eq_true_eq] at h
  have h1 := bnd_low v c
  have h2 := bnd_wf v c
  omega
theorem may_range {e : Ev} (h : may e = true) (j : Nat) (hj : j < e.ns.length) : 0 ≤ e.ns.getD j 0 ∧ e.ns.getD j 0 ≤ 1125899906842624 := by
  obtain ⟨_, h2, h3, _⟩ := may_parts h
  exact fits_range (h3 j (by omega))
theorem may_lens {e : Ev} (h : may e = true) : e.ns.length ≤ 20 ∧ e.ts.length ≤ 1 := by
  obtain ⟨_, h2, _, h4⟩ := may_parts h
  have := (lets_ok e.v e.k).1
  exact ⟨by omega, (mayT_len h4).1⟩
theorem may_text {e : Ev} (h : may e = true) (j : Nat) (hj : j < e.ts.length) : (e.ts.getD j ByteArray.empty).size ≤ 24 := by
  have h4 := (may_parts h).2.2.2
  have hl := mayT_len h4
  obtain rfl : j = 0 := by omega
  unfold mayT at h4
  rw [if_pos (hl.2.1 (by omega))] at h4
  rw [Bool.and_eq_true] at h4
  have h5 := h4.2
  unfold mayName at h5
  simp only [Bool.and_eq_true, decide_eq_true_eq] at h5
  exact h5.1.2
theorem conv64 (x : Int) (h0 : 0 ≤ x) (h1 : x ≤ 1125899906842624) : IntKind.u64.wrap x = U x.toNat := by rw [IntKind.wrap_u64]; unfold U; omega

end Go.Proofs.YtiibeemjkdipnaaGreatDoor.Codec

/-
  The walks of Put, Encode, Size.
-/
namespace Go.Proofs.YtiibeemjkdipnaaGreatDoor.Codec
open Go Go.RowKit
open Go.Proofs.YtiibeemjkdipnaaGreatDoor.Wire (Wr Only Rd Step U fixB shortB textB sizeN fxV shR txR tkI tkE tkT cell_row u8_any short_any text_any shortB_le bytes_any shortB_size)
open Go.Proofs.YtiibeemjkdipnaaGreatDoor.Schema

theorem ret_int {k : IntKind} {a b : Int} (h : a = b) : Ending.returned (.int k a) = .returned (.int k b) := by rw [h]
theorem only_below {B n : Nat} {w0 w w' : World} (h : Below n w0 w) (ho : Only B w w') (hn : n ≤ B) : Below n w0 w' := h.trans (ho.below.mono hn)

set_option maxRecDepth 100000 in
set_option maxHeartbeats 1000000 in
theorem Put_any (w0 w : World) (B p : Nat) (l : List UInt8) (A : Option Addr) (ca : Nat) (C : Option Addr) (cc : Nat) (e : Ev) (h0 : Below w0.heap.size w0 w) (hB : w0.heap.size ≤ B) (hw : Wr B w p l) (hl : l.length ≤ 100000000000) (hn : e.ns.length ≤ 1000000) (hA : EvAt w0 A ca C cc e) (E : Env w0) :
    Calls Tryz.prog 46 #[.pointer (some ⟨p, 0, none⟩), evV A ca C cc e] w fun z w' => z = .returned (.int .i64 (putE e : Int)) ∧ Wr B w' p (l ++ putB e) ∧ Only B w w' := by
  have HE := Lib.hid E
  have HA := Lib.hid hA
  have HBB := Lib.hid hB
  have HLL := Lib.hid hl
  have hv := hA.v
  have hk := hA.k
  have HW := Lib.hid (hw.alloc (.cells #[.int .u8 e.v, .int .u8 e.k, .slice A e.ns.length ca, .slice C e.ts.length cc] 39))
  have HO := Lib.hid ((Only.refl B w).alloc hw.low (.cells #[.int .u8 e.v, .int .u8 e.k, .slice A e.ns.length ca, .slice C e.ts.length cc] 39))
  have HX := Lib.hid (heap_alloc_new w (.cells #[.int .u8 e.v, .int .u8 e.k, .slice A e.ns.length ca, .slice C e.ts.length cc] 39))
  have HZ := Lib.hid h0
  have HPE := Lib.hid (show putE e = if may e then 0 else 4 from rfl)
  have HPB := Lib.hid (show putB e = if may e then bare e else [] from rfl)
  have HBR := Lib.hid (show bare e = fixB 1 e.k ++ nsB e.ns ++ tsB e.ts from rfl)
  have HRG := Lib.hid (fun h => may_range (e := e) h)
  have HLN := Lib.hid (fun h => may_lens (e := e) h)
  have HTX := Lib.hid (fun h => may_text (e := e) h)
  clear hA E h0 hB hl hw
  unfold evV
  go_enter Tryz.func46, Tryz.ntmps46
  go_upto_region 1 with (fail)
  generalize w.alloc (.cells #[.int .u8 e.v, .int .u8 e.k, .slice A e.ns.length ca, .slice C e.ts.length cc] 39) = W at HW HO HX ⊢
  have HZ1 := Lib.hid (only_below HZ.out HO.out HBB.out)
  have x0 := cell_row HX.out 0
  have x1 := cell_row HX.out 1
  have x2 := cell_row HX.out 2
  have x3 := cell_row HX.out 3
  go_wp2_with fail
  clear x0 x1 x2 x3
  refine (may_any A ca C cc e hn W (HE.out.below HZ1.out) (HA.out.below HZ1.out)).mono ?_
  rintro z W1 ⟨rfl, hb⟩
  have HW1 := Lib.hid (HW.out.below hb)
  have HO1 := Lib.hid (HO.out.trans (Only.of_below hb HW.out.low))
  have HX1 := Lib.hid ((hb.block _ (Wire.row_lt HX.out)).trans HX.out)
  clear hb HW HO HX HZ1
  cases hm : may e with
  | false =>
    have HR := Lib.hid hm
    clear hm
    go_wp2_with fail
    go_ret
    refine ⟨ret_int (by rw [HPE.out, HR.out]; rfl), ?_, HO1.out⟩
    rw [HPB.out, HR.out]
    simpa using HW1.out
  | true =>
    obtain ⟨n1, n2⟩ := HLN.out hm
    have HRR := Lib.hid (HRG.out hm)
    have HTT := Lib.hid (HTX.out hm)
    have HP2 : Hid (putB e = bare e) := by rw [HPB.out, hm]; simp [Hid]
    have HP3 : Hid (putE e = 0) := by rw [HPE.out, hm]; simp [Hid]
    clear hm HRG HLN HTX
    have x1 := cell_row HX1.out 1
    go_wp2_with fail
    clear x1
    refine (u8_any W1 B p l e.k HW1.out (by have := HLL.out; omega) _ rfl (Lib.hid hk)).mono ?_
    rintro z W2 ⟨rfl, hw2, ho2⟩
    have HW2 := Lib.hid hw2
    have HO2 := Lib.hid (HO1.out.trans ho2)
    have HX2 := Lib.hid (ho2.same _ _ _ _ HX1.out (by decide) (by decide) (by decide))
    clear hw2 ho2 HW1 HO1 HX1
    have x2 := cell_row HX2.out 2
    go_wp2_with fail
    clear x2
    go_loopw [19] (fun i wr => ∃ k : Nat, k ≤ e.ns.length ∧ i = .int .i64 k ∧ Hid (Wr B wr p ((l ++ fixB 1 e.k) ++ nsB (e.ns.take k))) ∧ Hid (Only B w wr) ∧ Hid (wr.heap[w.heap.size]? = some (.cells #[.int .u8 e.v, .int .u8 e.k, .slice A e.ns.length ca, .slice C e.ts.length cc] 39 (0, 0)))) (fun i _ => e.ns.length - (intOf i).toNat)
    case atStart => exact ⟨0, Nat.zero_le _, rfl, Lib.hid (by rw [nsB_zero, List.append_nil]; exact HW2.out), HO2, HX2⟩
    case round =>
      clear HW2 HO2 HX2
      obtain ⟨k, hkl, rfl, HWk, HOk, HXk⟩ := hrel
      by_cases hlt : k < e.ns.length
      · have z0 : (0 : Int) ≤ (k : Int) := by omega
        have z1 : (k : Int) < (e.ns.length : Int) := by omega
        obtain ⟨r0, r1⟩ := HRR.out k hlt
        obtain ⟨b, o, hAe, c0⟩ := (HA.out.below (only_below HZ.out HOk.out HBB.out)).ns k _ (nums_at e.ns k hlt)
        subst hAe
        have HS := Lib.hid (nsB_snoc e.ns k hlt)
        have hlen := Lib.hid (nsB_len (e.ns.take k))
        have hlt2 : (e.ns.take k).length ≤ 20 := by rw [List.length_take]; omega
        have HL2 := Lib.hid hlt2
        clear hlt2
        generalize e.ns.getD k 0 = x at c0 r0 r1 HS
        have hcv := conv64 x r0 r1
        have HXB := Lib.hid (show x.toNat < 18446744073709551616 from by omega)
        go_wp2_with fail
        refine (short_any wr B p _ x.toNat HWk.out (by have h1 := hlen.out; have h2 := HL2.out; have h3 := HLL.out; simp only [List.length_append, Wire.fixB_length]; omega) HXB _ rfl).mono ?_
        rintro z W3 ⟨rfl, hw3, ho3⟩
        have HW3 := Lib.hid hw3
        have HO3 := Lib.hid (HOk.out.trans ho3)
        have HX3 := Lib.hid (ho3.same _ _ _ _ HXk.out (by decide) (by decide) (by decide))
        clear hw3 ho3 hcv r0 r1 c0
        go_wp2_with fail
        go_roundw
        case rel => exact ⟨k + 1, by omega, by go_num, Lib.hid (by rw [HS.out, ← List.append_assoc]; exact HW3.out), HO3, HX3⟩
        case measure => simp [intOf] <;> omega
      · obtain rfl : k = e.ns.length := by omega
        have z1 : ¬ (e.ns.length : Int) < (e.ns.length : Int) := by omega
        have HWn : Hid (Wr B wr p ((l ++ fixB 1 e.k) ++ nsB e.ns)) := by have h := HWk.out; rw [List.take_length] at h; exact h
        have x3 := cell_row HXk.out 3
        clear HWk
        go_wp2_with fail
        clear x3
        go_loopw [31] (fun i wr => ∃ k : Nat, k ≤ e.ts.length ∧ i = .int .i64 k ∧ Hid (Wr B wr p (((l ++ fixB 1 e.k) ++ nsB e.ns) ++ tsB (e.ts.take k))) ∧ Hid (Only B w wr)) (fun i _ => e.ts.length - (intOf i).toNat)
        case atStart => exact ⟨0, Nat.zero_le _, rfl, Lib.hid (by rw [tsB_zero, List.append_nil]; exact HWn.out), HOk⟩
        case round =>
          clear HWn HOk HXk
          obtain ⟨k, hkl, rfl, HWk, HOk⟩ := hrel
          by_cases hlt : k < e.ts.length
          · have z0 : (0 : Int) ≤ (k : Int) := by omega
            have z1 : (k : Int) < (e.ts.length : Int) := by omega
            have r0 := HTT.out k hlt
            obtain ⟨b, o, hAe, c0⟩ := (HA.out.below (only_below HZ.out HOk.out HBB.out)).ts k _ (texts_at e.ts k hlt)
            subst hAe
            have HS := Lib.hid (tsB_snoc e.ts k hlt)
            obtain rfl : k = 0 := by omega
            have hlen := Lib.hid (nsB_len e.ns)
            generalize e.ts.getD 0 ByteArray.empty = x at c0 r0 HS
            have c1 : wr.cell? ⟨b, o, none⟩ = some (.string x) := c0
            have z2 : (0 : Int) < (e.ts.length : Int) := by omega
            go_wp2_with fail
            refine (text_any wr B p _ x HWk.out (by have h1 := hlen.out; have h3 := HLL.out; simp only [List.length_append, Wire.fixB_length, tsB_zero, List.length_nil]; omega)).mono ?_
            rintro z W3 ⟨rfl, hw3, ho3⟩
            have HW3 := Lib.hid hw3
            have HO3 := Lib.hid (HOk.out.trans ho3)
            clear hw3 ho3 c0 c1
            go_wp2_with fail
            go_roundw
            case rel => exact ⟨1, by omega, by go_num, Lib.hid (by rw [HS.out, ← List.append_assoc]; exact HW3.out), HO3⟩
            case measure => simp [intOf] <;> omega
          · obtain rfl : k = e.ts.length := by omega
            have z1 : ¬ (e.ts.length : Int) < (e.ts.length : Int) := by omega
            have HWn : Hid (Wr B wr p (l ++ putB e)) := by
              have h := HWk.out
              rw [List.take_length] at h
              show Wr B wr p (l ++ putB e)
              rw [HP2.out, HBR.out]
              simpa [List.append_assoc] using h
            clear HWk
            go_wp2_with fail
            go_ret
            exact ⟨ret_int (by rw [HP3.out]; rfl), HWn.out, HOk.out⟩

end Go.Proofs.YtiibeemjkdipnaaGreatDoor.Codec

/-
  The walks of Encode, Size.
-/
namespace Go.Proofs.YtiibeemjkdipnaaGreatDoor.Codec
open Go Go.RowKit
open Go.Proofs.YtiibeemjkdipnaaGreatDoor.Wire (Wr Only Rd Step U fixB shortB textB sizeN fxV shR txR tkI tkE tkT cell_row u8_any short_any text_any shortB_le bytes_any shortB_size)
open Go.Proofs.YtiibeemjkdipnaaGreatDoor.Schema

theorem ret_se {s t : ByteArray} {a b : Int} (h1 : s = t) (h2 : a = b) : Ending.returned (.tuple #[.string s, .int .i64 a]) = .returned (.tuple #[.string t, .int .i64 b]) := by rw [h1, h2]

theorem encB_len {e : Ev} (h : may e = true) : (encB e).length = 2 + (nsB e.ns).length + (tsB e.ts).length := by
  unfold encB bare
  rw [h]
  simp only [if_true, List.length_append, Wire.fixB_length]
  omega
theorem textB_len (s : ByteArray) : (textB s).length = (shortB s.size).length + s.size := by unfold Wire.textB; rw [List.length_append]; rfl

end Go.Proofs.YtiibeemjkdipnaaGreatDoor.Codec
