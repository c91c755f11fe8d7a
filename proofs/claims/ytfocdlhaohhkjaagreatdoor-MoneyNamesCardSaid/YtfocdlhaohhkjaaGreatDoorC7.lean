/-
  Numbers that lie in memory.
-/
import Derived.Test.YtfocdlhaohhkjaaGreatDoorC6
import Derived.Laws.Bits128
namespace Go.Proofs.YtfocdlhaohhkjaaGreatDoor.Money
open Go.RowKit

theorem Fits2 {a b : Int} (h0 : (Lit.int .i64 a).wf = true) (h1 : (Lit.int .i64 b).wf = true) : Fits [a, b] := by
  simp [Lit.wf, IntKind.min, IntKind.max, IntKind.bits, IntKind.signed] at h0 h1
  intro x hx
  simp at hx
  rcases hx with rfl | rfl <;> omega
/-- an int64 -/
def I64 (n : Int) : Prop := -9223372036854775808 ≤ n ∧ n ≤ 9223372036854775807
theorem I64.of_wf {n : Int} (h : (Lit.int .i64 n).wf = true) : I64 n := by
  simp [Lit.wf, IntKind.min, IntKind.max, IntKind.bits, IntKind.signed] at h
  unfold I64; omega
theorem I64.fits {a b : Int} (h : I64 a) (k : I64 b) : Fits [a, b] := by
  intro x hx
  simp at hx
  rcases hx with rfl | rfl
  · exact h
  · exact k
theorem I64.fits3 {a b c : Int} (h : I64 a) (k : I64 b) (l : I64 c) : Fits [a, b, c] := by
  intro x hx
  simp at hx
  rcases hx with rfl | rfl | rfl
  · exact h
  · exact k
  · exact l
theorem tN_i64 (n : Int) : I64 (tN n) := by have := tN_wf n; unfold I64; omega

/-- numbers that were just laid -/
theorem Nums.new (w : World) (cs : Array Value) (T : TypeId) (xs : List Int) (hl : xs.length ≤ 4611686018427387903) (hf : Fits xs) (h : ∀ k, k < xs.length → cs[k]? = some (.int .i64 (xs.getD k 0))) : Nums (w.alloc (.cells cs T)) (some ⟨w.heap.size, 0, none⟩) xs :=
  ⟨hl, hf, fun k hk => ⟨w.heap.size, 0, rfl, by
    rw [World.cell?_alloc_new, Nat.zero_add]; exact h k hk⟩⟩
theorem Nums.two (w : World) (T : TypeId) (a b : Int) (ha : I64 a) (hb : I64 b) : Nums (w.alloc (.cells #[.int .i64 a, .int .i64 b] T)) (some ⟨w.heap.size, 0, none⟩) [a, b] :=
  Nums.new w _ T _ (by show 2 ≤ _; omega) (ha.fits hb) fun k hk => by
    have hk2 : k < 2 := hk
    rcases k with _ | _ | k
    · rfl
    · rfl
    · omega
theorem Nums.three (w : World) (T : TypeId) (a b c : Int) (ha : I64 a) (hb : I64 b) (hc : I64 c) : Nums (w.alloc (.cells #[.int .i64 a, .int .i64 b, .int .i64 c] T)) (some ⟨w.heap.size, 0, none⟩) [a, b, c] :=
  Nums.new w _ T _ (by show 3 ≤ _; omega) (ha.fits3 hb hc) fun k hk => by
    have hk2 : k < 3 := hk
    rcases k with _ | _ | _ | k
    · rfl
    · rfl
    · rfl
    · omega
theorem Below.lay (w : World) (o : Obj) : Below w.heap.size w (w.alloc o) := (Below.refl _ _).alloc (Nat.le_refl _) _

end Go.Proofs.YtfocdlhaohhkjaaGreatDoor.Money
