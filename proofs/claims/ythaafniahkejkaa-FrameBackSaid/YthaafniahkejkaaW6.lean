/-
  The walks over the table: forward and back, over bytes in memory.
-/
import Derived.Test.YthaafniahkejkaaW5
namespace Go.Proofs.Ythaafniahkejkaa.Crc
open Go.RowKit

/-- bytes in a row of cells -/
def Row8 (w : World) (b off : Nat) (l : List UInt8) : Prop := b < w.heap.size ∧ ∀ i (h : i < l.length), w.cell? ⟨b, off + i, none⟩ = some (.int .u8 (l[i].toNat : Int))
theorem Row8.below {w w' : World} {b off : Nat} {l : List UInt8} (h : Row8 w b off l) (hb : Below w.heap.size w w') : Row8 w' b off l :=
  ⟨Nat.lt_of_lt_of_le h.1 hb.size, fun i hi => by rw [hb.cell (p := ⟨b, off + i, none⟩) h.1]; exact h.2 i hi⟩
theorem raw_takeL (c : W) (l : List UInt8) (k : Nat) (h : k < l.length) : raw c (l.take (k + 1)) = step (raw c (l.take k)) l[k] := by
  rw [List.take_succ_eq_append_getElem h, raw_append]; rfl
theorem raw_allL (c : W) (l : List UInt8) (k : Nat) (h : l.length ≤ k) : raw c (l.take k) = raw c l := by
  rw [List.take_of_length_le h]
theorem unraw_dropL (c : W) (l : List UInt8) (k : Nat) (h : k < l.length) : unraw c (l.drop k) = unstep (unraw c (l.drop (k + 1))) l[k] := by
  rw [List.drop_eq_getElem_cons h]; rfl
theorem unraw_noneL (c : W) (l : List UInt8) : unraw c (l.drop l.length) = c := by
  rw [List.drop_length]; rfl

end Go.Proofs.Ythaafniahkejkaa.Crc
