/-
  What is asked of a Reader ('get'), as a value.
-/
import Derived.Test.YtefkfjbdmglkjaaDoorB16
namespace Go.Proofs.YtefkfjbdmglkjaaDoor.Wire
open Go.RowKit

/-- ((number, text), where it stands then, the error) -/
def gt (s : ByteArray) (i e : Nat) (x : It) : (Nat × ByteArray) × Nat × Nat :=
  if x.k % 8 = 0 then ((fxV s i e 1, ⟨#[]⟩), tkI s i e 1, tkE s i e 1) else if x.k % 8 = 1 then ((fxV s i e 2, ⟨#[]⟩), tkI s i e 2, tkE s i e 2) else
    if x.k % 8 = 2 then ((fxV s i e 4, ⟨#[]⟩), tkI s i e 4, tkE s i e 4) else if x.k % 8 = 3 then ((fxV s i e 8, ⟨#[]⟩), tkI s i e 8, tkE s i e 8) else
      if x.k % 8 = 4 then (((shR s i e x.n).1, ⟨#[]⟩), (shR s i e x.n).2.1, (shR s i e x.n).2.2) else
        if x.k % 8 = 5 then ((0, (txR s i e x.m.toNat).1), (txR s i e x.m.toNat).2.1, (txR s i e x.m.toNat).2.2) else
          if x.k % 8 = 6 then ((revN (fxV s i e 4), ⟨#[]⟩), tkI s i e 4, tkE s i e 4) else ((0, tkT s i e x.m.toNat), tkI s i e x.m.toNat, tkE s i e x.m.toNat)
theorem tkI_le (s : ByteArray) (i e n : Nat) (h : i ≤ s.size) : tkI s i e n ≤ s.size := by
  unfold tkI; split
  · rename_i hh; exact hh.2
  · exact h
theorem tkI_ge (s : ByteArray) (i e n : Nat) : i ≤ tkI s i e n := by
  unfold tkI; split
  · omega
  · exact Nat.le_refl _
theorem txR_le (s : ByteArray) (i e m : Nat) (h : i ≤ s.size) : (txR s i e m).2.1 ≤ s.size := by
  unfold txR
  show (if _ then _ else _) ≤ _
  split
  · exact tkI_le _ _ _ _ (shR_le s i e m h)
  · exact h
theorem gt_le (s : ByteArray) (i e : Nat) (x : It) (h : i ≤ s.size) : (gt s i e x).2.1 ≤ s.size := by
  unfold gt
  repeat' split
  all_goals first | exact tkI_le _ _ _ _ h | exact shR_le _ _ _ _ h | exact txR_le _ _ _ _ h
/-- the contract's end -/
theorem get_end {w w1 : World} {r : Nat} {s : ByteArray} {i e : Nat} {o : Obj} {i' e' : Nat} (k : Step (w.alloc o) w1 r s i' e') (G : (Nat × ByteArray) × Nat × Nat) (hG : G.2 = (i', e')) : Step w w1 r s G.2.1 G.2.2 := by
  rw [hG]
  exact ⟨k.1, grown_trans (grown_below ((Below.refl _ _).alloc (Nat.le_refl _) _)) k.2⟩
theorem rd_alloc {w : World} {r : Nat} {s : ByteArray} {i e : Nat} (h : Rd w r s i e) (o : Obj) : Rd (w.alloc o) r s i e := (Below.heap_alloc w o r (row_lt h)).trans h

end Go.Proofs.YtefkfjbdmglkjaaDoor.Wire
