/-
  A Builder's String; an Error's own text.
-/
import Derived.Test.YtdaeiapogipjbaaDoorD11
namespace Go.Proofs.YtdaeiapogipjbaaDoor.Fault
open Go Go.RowKit

/-- a list as a text -/
def S (l : List UInt8) : ByteArray := ⟨l.toArray⟩
theorem cellsByte : Tryd.prog.cellsOf 5 = 1 := by kernel_rfl
set_option maxHeartbeats 2000000 in
set_option maxRecDepth 100000 in
/-- **String**, of a Builder that holds a byte at least -/
theorem string_any {hi b : Nat} {p : Value} (l : List UInt8) {w : World} (h : Bld hi b p (Lib.byteCells l) w) (h0 : l ≠ []) :
    Calls Tryd.prog 83 #[.pointer (some ⟨b, 0, none⟩)] w fun e w' => e = .returned (.string (S l)) ∧ Below hi w w' := by
  unfold S
  obtain ⟨v, hbk, hown⟩ := h
  have hl0 : l.length ≠ 0 := by simpa using h0
  rw [Lib.byteCells_length] at hown
  obtain ⟨g, cap, cur, rfl, hbg, hg, hnc, hcm, hcs, htake⟩ : ∃ g cap cur, v = .slice (some ⟨g, 0, none⟩) l.length cap ∧ hi ≤ g ∧ w.heap[g]? = some (.cells cur 5 (0, 0)) ∧ l.length ≤ cap ∧ cap ≤ maxLen ∧ cur.size = cap * 1 ∧ cur.toList.take (l.length * 1) = Lib.byteCells l := by
    rcases hown.2 with ⟨_, hz⟩ | ⟨g, cap, cur, hv, r⟩
    · exact absurd hz hl0
    · exact ⟨g, cap, cur, hv, r⟩
  have c1 : w.drew.cell? ⟨b, 1, none⟩ = some (.slice (some ⟨g, 0, none⟩) l.length cap) := by
    have : w.drew.heap[b]? = some (.cells #[p, .slice (some ⟨g, 0, none⟩) l.length cap] 133 (0, 0)) := hbk
    rw [Lib.cell_of_heap this]; rfl
  have hSD : (Builtin.unsafeSliceData_ #[103] 126 #[.slice (some ⟨g, 0, none⟩) l.length cap]).run Tryd.prog w.drew = .ok (.pointer (some ⟨g, 0, none⟩)) w.drew :=
    Lib.run_unsafeSliceData_row _ _ _ _ _ _ (by omega)
  have hUS : (Builtin.unsafeString_ #[126, 3] 9 #[.pointer (some ⟨g, 0, none⟩), .int .i64 l.length]).run Tryd.prog w.drew = .ok (.string ⟨l.toArray⟩) (w.drew.freeze ⟨g, 0, none⟩ l.length) := by
    refine Lib.run_unsafeString_row w.drew 126 3 9 5 Tryd.underlying126 cellsByte g cur.size (by have hg' : w.drew.heap[g]? = some (.cells cur 5 (0, 0)) := hg; simp [World.shape?, hg']) l h0 (by omega) (by unfold maxLen at hcm; omega) ?_
    intro j x hx
    exact hown.cells (g := g) rfl j (.int .u8 x.toNat) (by simp [Lib.byteCells, hx])
  have HB := Lib.hid hbg
  clear hown hbk htake hcs hcm hg hnc h0
  go_enter Tryd.func83, Tryd.ntmps83
  go_wp2
  go_region
  all_goals (go_wp2; go_ret; exact ⟨rfl, Lib.below_freeze (Below.drew (Below.refl hi w)) (p := ⟨g, 0, none⟩) HB.out _⟩)

/-- the bytes of the heads -/
def heads (f : Int → ByteArray) : List Wr → List UInt8
  | [] => []
  | x :: xs => (headB f x).data.toList ++ heads f xs
theorem heads_append (f : Int → ByteArray) (xs ys : List Wr) : heads f (xs ++ ys) = heads f xs ++ heads f ys := by
  induction xs with
  | nil => rfl
  | cons x xs ih => simp [heads, ih]
theorem heads_take (f : Int → ByteArray) (xs : List Wr) (i : Nat) (hi : i < xs.length) : heads f (xs.take (i + 1)) = heads f (xs.take i) ++ (headB f (xs.getD i default)).data.toList := by
  have e : xs.take (i + 1) = xs.take i ++ [xs.getD i default] := by
    rw [List.take_add_one, List.getElem?_eq_getElem hi]
    simp [List.getD_eq_getElem?_getD, List.getElem?_eq_getElem hi]
  rw [e, heads_append]; simp [heads]
theorem heads_le (f : Int → ByteArray) (xs : List Wr) (i : Nat) : (heads f (xs.take i)).length ≤ (heads f xs).length := by
  conv => rhs; rw [← List.take_append_drop i xs, heads_append]
  simp
theorem heads_ne (f : Int → ByteArray) (xs : List Wr) (h : xs ≠ []) (t : List UInt8) : heads f xs ++ t ≠ [] := by
  cases xs with
  | nil => exact absurd rfl h
  | cons x xs =>
    intro hh
    have h1 := congrArg List.length hh
    have h2 : 2 ≤ (headB f x).data.toList.length := by
      unfold headB
      show 2 ≤ (_ ++ (⟨#[58, 32]⟩ : ByteArray)).size
      rw [ByteArray.size_append]
      show 2 ≤ _ + 2
      omega
    simp only [heads, List.length_append, List.length_nil] at h1
    omega

theorem stays_bld {T : Nat → Prop} {hi c : Nat} {p : Value} {bs : List Value} (hc : ¬ T c) (hT : ∀ r, T r → r < hi) : Stays T (Bld hi c p bs) := by
  rintro W W' row ⟨v, hb, hown⟩ hg hr
  refine ⟨v, (hg.block c (Array.getElem?_eq_some_iff.1 hb).1 (fun e => hc (hr c e.symm))).trans hb, hown.kept hg ?_⟩
  rcases hown.2 with ⟨rfl, _⟩ | ⟨g, cap, cur, rfl, hg', _⟩
  · exact .inl rfl
  · refine .inr fun e => ?_
    have := hT g (hr g (by rw [← e]; rfl))
    omega
theorem stays_chain {T : Nat → Prop} {o : Nat} {p : Nat → Nat} {e : Nat → Value} {xs : List Wr} (hT : ∀ r, T r → o ≤ r) : Stays T (fun W => Chain o W p e xs) := fun W W' row hs hg hr =>
  ⟨hs.head, hs.lt, hs.dec, fun i hi => (hg.block _ (Array.getElem?_eq_some_iff.1 (hs.obj i hi)).1 (fun e => by have h1 := hT _ (hr _ e.symm); have h2 := hs.lt i hi; omega)).trans (hs.obj i hi)⟩

end Go.Proofs.YtdaeiapogipjbaaDoor.Fault
