/-
  What is cut of a slice of numbers.
-/
import Derived.Test.YtefkfjbdmglkjaaDoorE21
namespace Go.Proofs.YtefkfjbdmglkjaaDoor.Schema
open Go Go.RowKit

/-- the address of a slice cut from k on -/
def cutA (A : Option Addr) (cap k : Nat) : Option Addr := if cap = k then A else A.map (·.add (k * 1))
theorem cutA_none {A : Option Addr} {cap k : Nat} (h : A = none → cap = 0) (e : cutA A cap k = none) : cap - k = 0 := by
  unfold cutA at e
  split at e
  · have := h e; omega
  · cases A with
    | none => have := h rfl; omega
    | some a => cases e
theorem VAt.cut {w : World} {A : Option Addr} {vs : List Value} (h : VAt w A vs) (cap k : Nat) (hc : vs.length ≤ cap) : VAt w (cutA A cap k) (vs.drop k) := fun j u hu => by
  rw [List.getElem?_drop] at hu
  obtain ⟨b, o, e, hv⟩ := h (k + j) u hu
  have hlt := (List.getElem?_eq_some_iff.1 hu).1
  refine ⟨b, o + k, ?_, ?_⟩
  · unfold cutA
    rw [if_neg (by omega), e, Option.map_some, Nat.mul_one, addr_add]
  · rw [Nat.add_assoc]; exact hv
theorem VAt.head {w : World} {A : Option Addr} {vs : List Value} (h : VAt w A vs) (cap k : Nat) (hc : vs.length ≤ cap) : VAt w (cutA A cap 0) (vs.take k) := fun j u hu => by
  rw [List.getElem?_take] at hu
  split at hu
  · obtain ⟨b, o, e, hv⟩ := h j u hu
    have hlt := (List.getElem?_eq_some_iff.1 hu).1
    refine ⟨b, o, ?_, hv⟩
    unfold cutA
    rw [if_neg (by omega), e, Option.map_some, Nat.zero_mul, addr_add]; rfl
  · cases hu
theorem run_tail (A : Option Addr) (n cap k : Nat) (hk : k ≤ n) (hc : n ≤ cap) (w : World) :
    (Instr.slice 23 (.slice A n cap) (some (.int .i64 (k : Int))) none none).run Tryd.prog w = .ok (.slice (cutA A cap k) (n - k) (cap - k)) w := by
  obtain ⟨i0, hi, hz0, hz1, hz2⟩ := info_parts infoN
  rw [run_slice_l w 23 A n cap (by kernel_rfl) .i64 (k : Int) (by omega) (by omega)]
  have he : Tryd.prog.elem 23 = 2 := by kernel_rfl
  simp [he, sizeOf, typeInfo, hi, hz1, Result.andThen, sliced, cutA]
theorem run_head (A : Option Addr) (n cap k : Nat) (hk : k ≤ n) (hc : n ≤ cap) (w : World) :
    (Instr.slice 23 (.slice A n cap) none (some (.int .i64 (k : Int))) none).run Tryd.prog w = .ok (.slice (cutA A cap 0) k cap) w := by
  obtain ⟨i0, hi, hz0, hz1, hz2⟩ := info_parts infoN
  rw [run_slice_h w 23 A n cap (by kernel_rfl) .i64 (k : Int) (by omega) (by omega)]
  have he : Tryd.prog.elem 23 = 2 := by kernel_rfl
  simp [he, sizeOf, typeInfo, hi, hz1, Result.andThen, sliced, cutA]
theorem clsV_at (s : ByteArray) (k : Nat) (h : k < s.size) : (clsV s)[k]? = some (.int .u8 (byteAt s k : Int)) := by
  unfold clsV byteAt
  rw [List.getElem?_map, List.getD_eq_getElem?_getD, List.getElem?_eq_getElem (show k < s.data.toList.length from h)]; rfl

end Go.Proofs.YtefkfjbdmglkjaaDoor.Schema
