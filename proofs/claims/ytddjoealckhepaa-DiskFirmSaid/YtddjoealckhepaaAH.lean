import Derived.Test.YtddjoealckhepaaAF
import Derived.Test.YtddjoealckhepaaQ
/-
  What a crash leaves of the files that are told.
-/
namespace Go.Proofs.Ytddjoealckhepaa.Disk
open Go Go.RowKit Go.Maps Go.Shelf Go.Proofs

theorem crash_len (l : List (Nm × F)) (ks : List Int) : (crashL l ks).length = l.length := by
  induction l generalizing ks with
  | nil => rfl
  | cons p r ih => simp only [crashL, List.length_cons, ih]
theorem crash_get (l : List (Nm × F)) (ks : List Int) (i : Nat) (hi : i < l.length) : (crashL l ks)[i]? = some (l[i].1, (crashF l[i].2 (crashK (l.take i) ks)).1) := by
  induction l generalizing ks i with
  | nil => simp at hi
  | cons p r ih =>
    cases i with
    | zero => rfl
    | succ i => simp only [crashL, List.getElem?_cons_succ, List.getElem_cons_succ, List.take_succ_cons, crashK]; exact ih _ i (by simpa using hi)
/-- how many of a file's pending bytes stay -/
def stay (f : F) (ks : List Int) (t : Nat) : Nat := match ks[t]? with
  | some k => (k % 18446744073709551616).toNat % (f.b.length - f.g + 1)
  | none => 0
theorem crashF_all {f : F} (ks : List Int) (h : f.b.length = f.g) : crashF f ks = (f, ks) := by unfold crashF; rw [if_pos h]
theorem crashF_some {f : F} (ks : List Int) (t : Nat) (h : f.b.length ≠ f.g) : crashF f (ks.drop t) = (⟨f.b.take (f.g + stay f ks t), f.g + stay f ks t⟩, ks.drop (t + 1)) := by
  unfold crashF stay
  rw [if_neg h]
  by_cases ht : t < ks.length
  · rw [List.drop_eq_getElem_cons ht, List.getElem?_eq_getElem ht]
  · rw [List.drop_eq_nil_of_le (by omega), List.drop_eq_nil_of_le (by omega), List.getElem?_eq_none (by omega)]
    simp
theorem stay_le {f : F} (ks : List Int) (t : Nat) : stay f ks t ≤ f.b.length - f.g := by
  unfold stay
  split
  · have := Nat.mod_lt ((‹Int› % 18446744073709551616).toNat) (show 0 < f.b.length - f.g + 1 by omega); omega
  · omega
theorem tell_some {n : Nm} {f : F} (h : f.g ≤ f.b.length) (m : Nat) (hm : m ≤ f.b.length - f.g) : tell (n, (⟨f.b.take (f.g + m), f.g + m⟩ : F)) = ⟨n, (tell (n, f)).d ++ ((tell (n, f)).p).take m, []⟩ := by
  unfold tell
  simp only
  have h2 : (f.b.take (f.g + m)).drop (f.g + m) = [] := List.drop_eq_nil_of_le (by rw [List.length_take]; omega)
  rw [h2, List.take_take, Nat.min_self, List.take_add]
theorem tell_all {n : Nm} {f : F} (h : f.b.length = f.g) : (tell (n, f)).p = [] ∧ tell (n, f) = ⟨n, (tell (n, f)).d ++ ((tell (n, f)).p).take 0, []⟩ := by
  have hp : f.b.drop f.g = [] := List.drop_eq_nil_of_le (by omega)
  unfold tell
  simp [hp]
end Go.Proofs.Ytddjoealckhepaa.Disk
