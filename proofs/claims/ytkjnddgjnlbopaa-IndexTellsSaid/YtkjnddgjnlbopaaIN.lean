import Derived.Test.YtkjnddgjnlbopaaIM
/-
  Ahead of Get: the iterator that is told, the frames' numbers; Get where there is no such frame.
-/
namespace Go.Proofs.Ytkjnddgjnlbopaa.Index
open Go Go.RowKit
open Go.Proofs.Ytkjnddgjnlbopaa.Wire (S S_list S_size cell_row frozen_row row_lt heap_set heap_far)
open Go.Proofs.Ytkjnddgjnlbopaa.Frame Go.Proofs.Ytkjnddgjnlbopaa.Seg Go.Proofs.Ytkjnddgjnlbopaa.Ranges
attribute [local go_sem] Oper.semAt_some

theorem iframes_in (n : Nat) (s : ByteArray) (q p : Int) (w : World) :
    CallsIn Fence.wide n Try.prog 39 #[.string s, .agg #[.int .i64 q, .int .i64 p]] w fun e w' => e = .returned (.func (.func 65) #[] #[.pointer (some ⟨w.heap.size + 1, 0, none⟩), .pointer (some ⟨w.heap.size, 0, none⟩)]) ∧ w' = (w.alloc (.cells #[.string s] 9)).alloc (.cells #[.int .i64 q, .int .i64 p] 46) := by
  refine callsIn_of_wp Try.func39 rfl trivial ?_ rfl
  simp only [Try.ntmps39, List.size_toArray, List.length_cons, List.length_nil, Nat.reduceAdd, Nat.reduceSub, Array.replicate_succ, Array.replicate_zero, List.push_toArray, List.append_toArray, List.nil_append, List.cons_append]
  have hmf : ∀ (fn : Fn) (first cap : Array Value) (w : World), (Instr.makeFunc fn first cap).run Try.prog w = .ok (.func fn first cap) w := fun _ _ _ _ => rfl
  gi_wp2
  go_ret
  exact ⟨rfl, rfl⟩
/-- the frames that are handed over are numbered on -/
theorem isL_q (s : ByteArray) (p q : Nat) (hq : q ≤ 1048576) (i : Nat) (hi : i < (isL s p q).length) : ((isL s p q).getD i fr0).q = q + i := by
  obtain ⟨h1, h2, _, _⟩ := scan_again _ (s.data.toList.drop p) p q (Nat.le_refl _) hq
  unfold isL at *
  have hl : i < (pays (scanF (s.data.toList.drop p) p (q : Int))).length := by rw [pays_len]; exact hi
  have h3 := rowF_at (pays (scanF (s.data.toList.drop p) p (q : Int))) q p i hl
  rw [h2] at h3
  rw [List.getD_eq_getElem?_getD, h3]; rfl
theorem get_nil (s : ByteArray) (q : Int) (w : World) : Calls Try.prog 15 #[.pointer none, .string s, .int .i64 q] w fun e w' => e = .returned (.tuple #[.string ⟨#[]⟩, .int .i64 2]) ∧ Below w.heap.size w w' := by
  have hb := (Below.refl w.heap.size w).alloc (Nat.le_refl _) (.cells #[.int .i64 q] 2)
  go_enter Try.func15, Try.ntmps15
  go_wp2_with fail
  go_ret2
  exact ⟨rfl, hb⟩
theorem get_none (w : World) (base b ev a : Nat) (ats : List Nat) (g : Nat) (s : ByteArray) (q : Int) (h : Ix w base b ev a ats g) (hq : ¬ ((a : Int) ≤ q ∧ q < ((a + ats.length : Nat) : Int))) : Calls Try.prog 15 #[.pointer (some ⟨b, 0, none⟩), .string s, .int .i64 q] w fun e w' => e = .returned (.tuple #[.string ⟨#[]⟩, .int .i64 5]) ∧ Below w.heap.size w w' := by
  have hb := (Below.refl w.heap.size w).alloc (Nat.le_refl _) (.cells #[.int .i64 q] 2)
  obtain ⟨v, h1, -⟩ := h
  have HH := Lib.hid (has_x (w.alloc (.cells #[.int .i64 q] 2)) b ev a (a + ats.length) v g q ((hb.block _ (row_lt h1)).trans h1))
  rw [decide_eq_false hq] at HH
  have c0 : (w.alloc (.cells #[.int .i64 q] 2)).cell? ⟨w.heap.size, 0, none⟩ = some (.int .i64 q) := cell_row (heap_alloc_new w (.cells #[.int .i64 q] 2)) 0
  have HB := Lib.hid hb
  clear h1 hq hb
  go_enter Try.func15, Try.ntmps15
  go_wp2_with fail
  refine HH.out.mono ?_
  rintro e w1 ⟨rfl, rfl⟩
  go_wp2_with fail
  go_ret2
  exact ⟨rfl, HB.out⟩
end Go.Proofs.Ytkjnddgjnlbopaa.Index
