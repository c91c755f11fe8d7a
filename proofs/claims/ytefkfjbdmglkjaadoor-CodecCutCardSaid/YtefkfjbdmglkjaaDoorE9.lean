/-
  The walks of Fields and Command.
-/
import Derived.Test.YtefkfjbdmglkjaaDoorE8
import Derived.Deep.RegionHeld3
namespace Go.Proofs.YtefkfjbdmglkjaaDoor.Schema
open Go Go.RowKit

/-- letters of a table: ASCII, and few -/
def okL (s : ByteArray) : Prop := s.size ≤ 10 ∧ ascii s
def okB (s : ByteArray) : Bool := decide (s.size ≤ 10) && s.data.toList.all fun b => decide (b.toNat < 128)
theorem okL_of {s : ByteArray} (h : okB s = true) : okL s := by
  unfold okB at h
  simp only [Bool.and_eq_true, decide_eq_true_eq, List.all_eq_true] at h
  exact h
theorem ev_all {p : EvR → Bool} (h : evL.all p = true) (h0 : p (evR [] [] [] [] false) = true) (k : Nat) : p (evAt k) = true := by
  by_cases hk : k < 24
  · exact List.all_eq_true.1 h _ (List.mem_of_getElem? (ev_row k hk))
  · rw [evAt_out k hk]; exact h0
theorem cm_all {p : CmR → Bool} (h : cmL.all p = true) (h0 : p (cmR [] [] false) = true) (k : Nat) : p (cmAt k) = true := by
  by_cases hk : k < 21
  · exact List.all_eq_true.1 h _ (List.mem_of_getElem? (cm_row k hk))
  · rw [cmAt_out k hk]; exact h0
theorem lets_ok (v k : Nat) : okL (lets v k) := by
  have h := ev_all (p := fun r => okB r.f1 && okB r.f2 && okB r.f3) (by decide +kernel) (by decide +kernel) k
  simp only [Bool.and_eq_true] at h
  unfold lets
  split
  · exact okL_of h.1.1
  · split
    · exact okL_of h.1.2
    · split
      · exact okL_of h.2
      · exact okL_of (by decide +kernel)
theorem asks_ok (k : Nat) : okL (asks k) := okL_of (cm_all (p := fun r => okB r.fields) (by decide +kernel) (by decide +kernel) k)
theorem size_pos_iff (s : ByteArray) : s.toList.isEmpty = !decide (0 < s.size) := by
  rw [ByteArray.toList_eq]
  rw [show s.size = s.data.toList.length from rfl]
  cases s.data.toList <;> simp

/-- a slice of the call's own, and two bools, are handed back -/
def TwoRes (w : World) (vs : List Value) (t b : Bool) (e : Ending) (w' : World) : Prop := ∃ v, e = .returned (.tuple #[v, .bool t, .bool b]) ∧ Own w' w.heap.size 81 v vs ∧ Below w.heap.size w w'
theorem cell_kept {w w' : World} {b o : Nat} {v : Value} (h : w.cell? ⟨b, o, none⟩ = some v) (hb : Below w.heap.size w w') : w'.cell? ⟨b, o, none⟩ = some v := (World.cell?_of_block (hb.block _ (cell_lt h))).trans h
theorem below_drew (n : Nat) (w : World) : Below n w w.drew := ⟨rfl, rfl, rfl, Nat.le_refl _, fun _ _ => rfl⟩
theorem tall_lt {v k : Nat} (h : tall v k = true) : k < 24 := by
  rcases Nat.lt_or_ge k 24 with h1 | h1
  · exact h1
  · unfold tall at h
    rw [lets_out v k (by omega)] at h
    exact absurd h (by decide)

set_option maxRecDepth 100000 in
set_option maxHeartbeats 400000 in
theorem Fields_any (v k : Nat) (hv : v < 256) (hk : k < 256) (w : World) (E : Env w) :
    Calls Tryd.prog 42 #[.int .u8 v, .int .u8 k] w (TwoRes w (clsV (lets v k)) (tall v k && tru k) (tall v k)) := by
  have HF := Lib.hid (fields_any v k hv hk w E)
  have HE := Lib.hid E
  have HO := Lib.hid (lets_ok v k)
  have HT := Lib.hid (show tall v k = decide (0 < (lets v k).size) from rfl)
  cases ht : tall v k with
  | false =>
    have e0 : (lets v k).toList.isEmpty = true := by rw [size_pos_iff, ← HT.out, ht]; rfl
    have HC : Hid (clsV (lets v k) = []) := by
      have h := (size_pos_iff (lets v k)).symm.trans e0
      unfold clsV
      rw [ByteArray.toList_eq] at e0
      rw [List.isEmpty_iff.1 e0]; rfl
    clear E
    generalize lets v k = s at HF e0 HC
    have e1 : s.toList = [] := List.isEmpty_iff.1 e0
    go_enter Tryd.func42, Tryd.ntmps42
    go_wp2_with (go_at_call 60; refine HF.out.mono ?_; rintro e w' ⟨rfl, rfl⟩)
    go_ret3
    exact ⟨_, rfl, by rw [HC.out]; exact Own.nil _ _ _, Below.refl _ _⟩
  | true =>
    have hlt := tall_lt ht
    obtain ⟨_, _, _, _, c4⟩ := E.f k hlt
    have e0 : (lets v k).toList.isEmpty = false := by rw [size_pos_iff, ← HT.out, ht]; rfl
    have HU := Lib.hid (show tru k = (evAt k).text from rfl)
    generalize (evAt k).text = t at c4 HU
    clear E HT ht
    generalize lets v k = s at HF e0 HO
    have e1 : ¬ s.toList = [] := by intro h; rw [h] at e0; cases e0
    have HC := Lib.hid (classes_any s (Nat.le_trans HO.out.1 (by decide)) HO.out.2)
    have g1 : Below w.heap.size w w.drew := below_drew _ _
    have z0 : (0 : Int) ≤ (k : Int) := by omega
    have z1 : (k : Int) < 24 := by omega
    go_enter Tryd.func42, Tryd.ntmps42
    go_wp2_with (go_at_call 60; refine HF.out.mono ?_; rintro e w' ⟨rfl, rfl⟩)
    go_region_held3 (fun w' => w'.cell? ⟨0, k * 5 + 4, none⟩ = some (.bool t) ∧ Below w.heap.size w w')
      (first | assumption | (refine ⟨?_, ?_⟩ <;> first | assumption | exact cell_kept (by assumption) (by assumption)) | go_keep)
      ((first | (go_at_call 66; refine (HC.out _).mono ?_; rintro z w' ⟨u, rfl, hO, hb⟩; (have k1 : Below w.heap.size w w' := below_step g1 hb); (have k2 : w'.cell? ⟨0, k * 5 + 4, none⟩ = some (.bool t) := cell_kept c4 k1))))
    go_wp2
    go_ret3
    exact ⟨u, by rw [HU.out]; rfl, hO, k1⟩

end Go.Proofs.YtefkfjbdmglkjaaDoor.Schema
