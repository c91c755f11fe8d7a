/-
  Kinds; what is skipped behind an error; what is read of an event, as plain mathematics.
-/
import Derived.Test.YtefkfjbdmglkjaaDoorG7
namespace Go.Proofs.YtefkfjbdmglkjaaDoor.Codec
open Go Go.RowKit
open Go.Proofs.YtefkfjbdmglkjaaDoor.Wire (Wr Only Rd Step U cell_row rdS fxV shR txR tkI tkE tkT)
open Go.Proofs.YtefkfjbdmglkjaaDoor.Schema

theorem infoB : (Tryd.prog.info? 5).map (fun i => (i.zero, i.size, i.bytes)) = some (some (.int .u8 0), 1, 1) := by kernel_rfl
def KindsRes (v : Nat) (w : World) (z : Ending) (w' : World) : Prop := ∃ A n cap, z = .returned (.slice A n cap) ∧ (n = 0 ↔ ¬ (1 ≤ v ∧ v ≤ 3)) ∧ Below w.heap.size w w'
theorem tall_some (v : Nat) : (∀ j, j < 24 → tall v j = false) ↔ ¬ (1 ≤ v ∧ v ≤ 3) := by
  constructor
  · intro h hv
    have h1 := h 1 (by decide)
    obtain rfl | rfl | rfl : v = 1 ∨ v = 2 ∨ v = 3 := by omega
    all_goals exact absurd h1 (by decide +kernel)
  · intro h j _
    unfold tall
    rw [lets_out v j (by omega)]; rfl
theorem nil_step {v : Nat} {k : Nat} {xs : List Value} (h : xs = [] ↔ ∀ j, j < k → tall v j = false) (hk : tall v k = false) : xs = [] ↔ ∀ j, j < k + 1 → tall v j = false := by
  rw [h]
  constructor
  · intro h1 j hj
    by_cases e : j = k
    · exact e ▸ hk
    · exact h1 j (by omega)
  · intro h1 j hj; exact h1 j (by omega)
theorem some_step {v : Nat} {k : Nat} {xs : List Value} {u : Value} (hk : tall v k = true) : xs ++ [u] = [] ↔ ∀ j, j < k + 1 → tall v j = false := by
  constructor
  · intro h; simp at h
  · intro h; rw [h k (by omega)] at hk; cases hk

set_option maxRecDepth 100000 in
set_option maxHeartbeats 1000000 in
theorem kinds_any (v : Nat) (hv : v < 256) (w : World) (E : Env w) : Calls Tryd.prog 39 #[.int .u8 (v : Int)] w (KindsRes v w) := by
  have HE := Lib.hid E
  clear E
  go_enter Tryd.func39, Tryd.ntmps39
  go_wp2
  go_loopw [3, 5] (fun l i wr => ∃ (k : Nat) (xs : List Value), k ≤ 24 ∧ i = .int .u8 k ∧ Hid (Own wr w.heap.size 5 l xs) ∧ Hid (xs.length ≤ k ∧ (xs = [] ↔ ∀ j, j < k → tall v j = false)) ∧ Hid (Below w.heap.size w wr)) (fun _ i _ => 24 - (intOf i).toNat)
  case atStart => exact ⟨0, [], Nat.zero_le _, rfl, Lib.hid (Own.nil _ _ _), Lib.hid ⟨Nat.le_refl _, by simp⟩, Lib.hid (Below.refl _ _)⟩
  case round =>
    obtain ⟨k, xs, hk, rfl, HO, HL, HB⟩ := hrel
    by_cases hlt : k < 24
    · have HF := Lib.hid (fields_any v k hv (by omega) wr (HE.out.below HB.out))
      have HT := Lib.hid (show tall v k = decide (0 < (lets v k).size) from rfl)
      generalize lets v k = s at HF HT
      have z1 : (k : Int) < 24 := by omega
      have hm : (k + 1 : Nat) < 256 := by omega
      cases ht : tall v k with
      | false =>
        have e0 : s.toList.isEmpty = true := by rw [size_pos_iff, ← HT.out, ht]; rfl
        have e1 : s.toList = [] := List.isEmpty_iff.1 e0
        have HN := Lib.hid (nil_step HL.out.2 ht)
        clear ht
        go_wp2_with (go_at_call 60; refine HF.out.mono ?_; rintro z w1 ⟨rfl, rfl⟩)
        go_roundw
        case rel => exact ⟨k + 1, xs, by omega, by go_num, HO, Lib.hid ⟨by have := HL.out.1; omega, HN.out⟩, HB⟩
        case measure => simp [intOf] <;> omega
      | true =>
        have e0 : s.toList.isEmpty = false := by rw [size_pos_iff, ← HT.out, ht]; rfl
        have e1 : ¬ s.toList = [] := by intro h; rw [h] at e0; cases e0
        have HN := Lib.hid (some_step (xs := xs) (u := .int .u8 (k : Int)) ht)
        clear ht
        have hb := (Below.refl wr.heap.size wr).alloc (Nat.le_refl _) (.cells #[.int .u8 (k : Int)] 5)
        have HO2 := Lib.hid (HO.out.below hb)
        have HB2 := Lib.hid (below_step HB.out hb)
        have hs2 : wr.heap.size ≤ (wr.alloc (.cells #[.int .u8 (k : Int)] 5)).heap.size := by simp
        have HS2 := Lib.hid (Nat.le_trans HB.out.size hs2)
        clear hb hs2
        go_wp2_with (first
          | (go_at_call 60; refine HF.out.mono ?_; rintro z w1 ⟨rfl, rfl⟩)
          | (at_builtin; refine wpList_append_vals 70 5 (.int .u8 0) 1 Tryd.underlying70 infoB rfl (by decide) rfl _ _ rfl w.heap.size _ _ rfl HO2.out (some ⟨wr.heap.size, 0, none⟩) 1 1 [.int .u8 (k : Int)] rfl rfl (vat_new wr _ _) (by simp; rfl) (by simp) (by have := HL.out.1; simp; omega) HS2.out ?_))
        intro v' w1 hO1 hg
        have HO3 := Lib.hid hO1
        have HB3 := Lib.hid (HB2.out.trans (below_grown HO2.out (Nat.le_refl _) HS2.out hg))
        clear hO1 hg
        go_wp2
        go_roundw
        case rel => exact ⟨k + 1, _, by omega, by go_num, HO3, Lib.hid ⟨by have := HL.out.1; simp; omega, HN.out⟩, HB3⟩
        case measure => simp [intOf] <;> omega
    · obtain rfl : k = 24 := by omega
      obtain ⟨A, cap, rfl, _⟩ := HO.out.vat
      have HQ := Lib.hid (HL.out.2.trans (tall_some v))
      have HLn := Lib.hid (show xs.length = 0 ↔ xs = [] from List.length_eq_zero_iff)
      go_wp2
      go_ret
      exact ⟨_, _, _, rfl, HLn.out.trans HQ.out, HB.out⟩

set_option maxRecDepth 100000 in
theorem readN_skip (g x : Nat) (bg bh bn bl : Nat) (a0 a1 a2 a3 a4 : Value) (w : World) (hx : Six w g a0 a1 a2 a3 a4 (.int .i64 (x : Int))) (h : x ≠ 0) :
    Calls Tryd.prog 40 #[.pointer (some ⟨g, 0, none⟩), .agg #[.func (.func 68) #[] #[.pointer (some ⟨bg, 0, none⟩), .pointer (some ⟨bh, 0, none⟩), .pointer (some ⟨bn, 0, none⟩)], .func (.func 70) #[] #[.pointer (some ⟨bn, 0, none⟩), .pointer (some ⟨bl, 0, none⟩)]]] w fun z w' => z = .returned (.tuple #[]) ∧ Below w.heap.size w w' := by
  have hb := (Below.refl w.heap.size w).alloc (Nat.le_refl _) (.cells #[.func (.func 68) #[] #[.pointer (some ⟨bg, 0, none⟩), .pointer (some ⟨bh, 0, none⟩), .pointer (some ⟨bn, 0, none⟩)], .func (.func 70) #[] #[.pointer (some ⟨bn, 0, none⟩), .pointer (some ⟨bl, 0, none⟩)]] 76)
  have c5 := (hx.below hb).2.2.2.2.2
  have HB := Lib.hid hb
  have e1 : ((x : Int) == 0) = false := beq_eq_false_iff_ne.2 (by omega)
  have e2 : (x == 0) = false := beq_eq_false_iff_ne.2 h
  clear hb hx h
  go_enter Tryd.func40, Tryd.ntmps40
  go_wp2_with fail
  first | (go_end0; exact ⟨rfl, HB.out⟩) | exact bodyPost_ret (by simp [results, Tryd.results40, go_sem]) rfl ⟨rfl, HB.out⟩

set_option maxRecDepth 100000 in
theorem readT_skip (g x : Nat) (bg bs : Nat) (a0 a1 a2 a3 a4 : Value) (w : World) (hx : Six w g a0 a1 a2 a3 a4 (.int .i64 (x : Int))) (h : x ≠ 0) :
    Calls Tryd.prog 40 #[.pointer (some ⟨g, 0, none⟩), .agg #[.func (.func 71) #[] #[.pointer (some ⟨bg, 0, none⟩), .pointer (some ⟨bs, 0, none⟩)], .func (.func 73) #[] #[.pointer (some ⟨bs, 0, none⟩)]]] w fun z w' => z = .returned (.tuple #[]) ∧ Below w.heap.size w w' := by
  have hb := (Below.refl w.heap.size w).alloc (Nat.le_refl _) (.cells #[.func (.func 71) #[] #[.pointer (some ⟨bg, 0, none⟩), .pointer (some ⟨bs, 0, none⟩)], .func (.func 73) #[] #[.pointer (some ⟨bs, 0, none⟩)]] 76)
  have c5 := (hx.below hb).2.2.2.2.2
  have HB := Lib.hid hb
  have e1 : ((x : Int) == 0) = false := beq_eq_false_iff_ne.2 (by omega)
  have e2 : (x == 0) = false := beq_eq_false_iff_ne.2 h
  clear hb hx h
  go_enter Tryd.func40, Tryd.ntmps40
  go_wp2_with fail
  first | (go_end0; exact ⟨rfl, HB.out⟩) | exact bodyPost_ret (by simp [results, Tryd.results40, go_sem]) rfl ⟨rfl, HB.out⟩

/-- how far it is read -/
structure RS where
  i : Nat
  e : Nat
  w : Nat
  ns : List Int
def stepR (v : Nat) (s : ByteArray) (st : RS) (c : Nat) : RS := if st.w = 0 then ⟨(nx s st.i st.e (bnd v c).high).2.1, (nx s st.i st.e (bnd v c).high).2.2, wrN (nx s st.i st.e (bnd v c).high) (bnd v c).low, st.ns ++ [((nx s st.i st.e (bnd v c).high).1 : Int)]⟩ else st
def foldR (v : Nat) (s l : ByteArray) (k : Nat) (st : RS) : RS := (List.range k).foldl (fun st j => stepR v s st (byteAt l j)) st
theorem foldR_zero (v : Nat) (s l : ByteArray) (st : RS) : foldR v s l 0 st = st := rfl
theorem foldR_succ (v : Nat) (s l : ByteArray) (k : Nat) (st : RS) : foldR v s l (k + 1) st = stepR v s (foldR v s l k st) (byteAt l k) := by unfold foldR; rw [List.range_succ, List.foldl_append]; rfl
theorem stepR_skip {v : Nat} {s : ByteArray} {st : RS} {c : Nat} (h : st.w ≠ 0) : stepR v s st c = st := if_neg h
theorem stepR_go {v : Nat} {s : ByteArray} {st : RS} {c : Nat} (h : st.w = 0) : stepR v s st c = ⟨(nx s st.i st.e (bnd v c).high).2.1, (nx s st.i st.e (bnd v c).high).2.2, wrN (nx s st.i st.e (bnd v c).high) (bnd v c).low, st.ns ++ [((nx s st.i st.e (bnd v c).high).1 : Int)]⟩ := if_pos h
/-- behind the kind -/
def rs0 (s : ByteArray) (i e v : Nat) : RS := ⟨tkI s i e 1, tkE s i e 1, wrK s i e v, []⟩
def kd (s : ByteArray) (i e : Nat) : Nat := fxV s i e 1
/-- behind the numbers -/
def rs1 (s : ByteArray) (i e v : Nat) : RS := foldR v s (lets v (kd s i e)) (lets v (kd s i e)).size (rs0 s i e v)
/-- (where it stands then, the Reader's error, what is wrong, the texts), behind the name -/
def rs2 (s : ByteArray) (i e v : Nat) : Nat × Nat × Nat × List ByteArray :=
  if tall v (kd s i e) && tru (kd s i e) then (if (rs1 s i e v).w = 0 then ((tx s (rs1 s i e v).i (rs1 s i e v).e).2.1, (tx s (rs1 s i e v).i (rs1 s i e v).e).2.2, wrT (tx s (rs1 s i e v).i (rs1 s i e v).e), [(tx s (rs1 s i e v).i (rs1 s i e v).e).1]) else ((rs1 s i e v).i, (rs1 s i e v).e, (rs1 s i e v).w, []))
  else ((rs1 s i e v).i, (rs1 s i e v).e, (rs1 s i e v).w, [])
def noEv : Ev := ⟨0, 0, [], []⟩
/-- what Get tells: the event, what is wrong; where the Reader stands then, and its error -/
def getW (s : ByteArray) (i e v : Nat) : Nat := if 1 ≤ v ∧ v ≤ 3 then (rs2 s i e v).2.2.1 else 43
def getE (s : ByteArray) (i e v : Nat) : Ev := if getW s i e v = 0 then ⟨v, kd s i e, (rs1 s i e v).ns, (rs2 s i e v).2.2.2⟩ else noEv
def getI (s : ByteArray) (i e v : Nat) : Nat := if 1 ≤ v ∧ v ≤ 3 then (rs2 s i e v).1 else i
def getF (s : ByteArray) (i e v : Nat) : Nat := if 1 ≤ v ∧ v ≤ 3 then (rs2 s i e v).2.1 else e

end Go.Proofs.YtefkfjbdmglkjaaDoor.Codec
