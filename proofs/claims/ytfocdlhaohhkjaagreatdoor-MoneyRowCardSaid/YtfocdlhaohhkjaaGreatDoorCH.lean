/-
  Append, of numbers, as one step of a region that draws; what is cut of a slice of numbers.
-/
import Derived.Test.YtfocdlhaohhkjaaGreatDoorCG
import Derived.Deep.RegionHeld3
import Derived.Deep.DeepCutAuto
namespace Go.Proofs.YtfocdlhaohhkjaaGreatDoor.Money
open Go.RowKit

set_option maxRecDepth 100000 in
theorem wp_append_nums {o : Oper} {a : Act} {w : World} {K : Act → World → Prop} {Q : Exit → Act → World → Prop} (s x : Operand)
    (ho : o.op = .call { callee := .builtin .append, args := #[s, x], argTypes := #[31, 31] })
    (base : Nat) (v : Value) (xs : List Int) (hs : a.eval s = v) (hown : Own w base v xs)
    (A : Option Addr) (m cap : Nat) (ys : List Int) (hx : a.eval x = .slice A m cap) (hm : m = ys.length) (hn : Nums w A ys) (hA : A = none → cap = 0)
    (hlen : xs.length + ys.length ≤ 1000000) (hbase : base ≤ w.heap.size)
    (h : ∀ v' w', Own w' base v' (xs ++ ys) → w.grownBy w' v.ownBlock → K (a.put o.dst v') w') : o.wp Tryz.prog a w K Q := by
  subst hm
  obtain ⟨i0, hi, hz0, hz1, hz2⟩ := info_parts info64
  cases A with
  | none =>
    have hc := hA rfl
    have hy : ys = [] := by
      cases ys with
      | nil => rfl
      | cons y r => obtain ⟨b, o, e, _⟩ := hn.2.2 0 (Nat.succ_pos _); cases e
    subst hy; subst hc
    have hrun := run_append_owned_none (P := Tryz.prog) (w := w) base 31 o.type 2 i0 1 Tryz.underlying31 hi v xs.length (vals xs) hown
    have hx' : a.eval x = .slice none 0 0 := hx
    unfold Oper.wp
    simp [execOp, ho, resolve, invoke, builtin, hs, hx', hrun, Result.andThen]
    exact h v w (by rw [List.append_nil]; exact hown) ⟨rfl, rfl, rfl, Nat.le_refl _, fun _ _ _ => rfl⟩
  | some ad =>
    refine wp_append_own w s x 31 ho base 2 i0 (.int .i64 0) 1 8 Tryz.underlying31 hi hz0 hz1 hz2 rfl (by decide) v xs.length (vals xs) hs hown ad ys.length cap (vals ys) hx (by rw [vals_length, Nat.mul_one]) ?_ ?_ (by unfold maxLen; omega) (by omega) hbase ?_
    · intro j u hj
      have hjl : j < ys.length := by have := (List.getElem?_eq_some_iff.1 hj).1; rw [vals_length] at this; exact this
      obtain ⟨b, o, e, hc⟩ := hn.2.2 j hjl
      injection e with e; subst e
      rw [Lib.add_plain, hc]
      unfold vals at hj
      rw [List.getElem?_map, List.getElem?_eq_getElem hjl] at hj
      rw [← hj, List.getD_eq_getElem?_getD, List.getElem?_eq_getElem hjl]; rfl
    · intro u hu
      unfold vals at hu
      obtain ⟨z, _, rfl⟩ := List.mem_map.1 hu
      rfl
    · intro v' w' hown' hg _
      exact h v' w' (by unfold Own; rw [List.length_append, vals_append]; exact hown') hg

theorem step_append_nums {ops : Array Oper} {o : Oper} {a : Act} {w : World} {K : Act → World → Prop} {Q : Exit → Act → World → Prop} {E : Prop} (hgd : o.guard = none) (s x : Operand)
    (ho : o.op = .call { callee := .builtin .append, args := #[s, x], argTypes := #[31, 31] })
    (base : Nat) (v : Value) (xs : List Int) (hs : a.eval s = v) (hown : Own w base v xs)
    (A : Option Addr) (m cap : Nat) (ys : List Int) (hx : a.eval x = .slice A m cap) (hm : m = ys.length) (hn : Nums w A ys) (hA : A = none → cap = 0)
    (hlen : xs.length + ys.length ≤ 1000000) (hbase : base ≤ w.heap.size)
    (h : ∀ v' w', Own w' base v' (xs ++ ys) → w.grownBy w' v.ownBlock → K (a.put o.dst v') w') :
    if Region.wanted o (yielded ops a.tmps) = true then Oper.wp Tryz.prog o a w K Q else E := by
  rw [if_pos (by simp [Region.wanted, hgd])]
  exact wp_append_nums s x ho base v xs hs hown A m cap ys hx hm hn hA hlen hbase h

/-- the address of a slice cut from k on -/
def cutA (A : Option Addr) (cap k : Nat) : Option Addr := if cap = k then A else A.map (·.add (k * 1))
theorem cutA_none {A : Option Addr} {cap k : Nat} (h : A = none → cap = 0) (e : cutA A cap k = none) : cap - k = 0 := by
  unfold cutA at e
  split at e
  · have := h e; omega
  · cases A with
    | none => have := h rfl; omega
    | some a => cases e
theorem Nums.cut {w : World} {A : Option Addr} {xs : List Int} (h : Nums w A xs) (cap k : Nat) (hk : k ≤ xs.length) (hc : xs.length ≤ cap) : Nums w (cutA A cap k) (xs.drop k) := by
  refine ⟨by rw [List.length_drop]; have := h.1; omega, fun x hx => h.2.1 x (List.mem_of_mem_drop hx), fun j hj => ?_⟩
  rw [List.length_drop] at hj
  obtain ⟨b, o, e, hv⟩ := h.2.2 (k + j) (by omega)
  refine ⟨b, o + k, ?_, ?_⟩
  · unfold cutA
    rw [if_neg (by omega), e, Option.map_some, Nat.mul_one, Lib.add_plain]
  · rw [Nat.add_assoc, hv, List.getD_eq_getElem?_getD, List.getD_eq_getElem?_getD, List.getElem?_drop]
theorem Nums.head {w : World} {A : Option Addr} {xs : List Int} (h : Nums w A xs) (cap k : Nat) (hc : xs.length ≤ cap) : Nums w (cutA A cap 0) (xs.take k) := by
  refine ⟨by rw [List.length_take]; have := h.1; omega, fun x hx => h.2.1 x (List.mem_of_mem_take hx), fun j hj => ?_⟩
  rw [List.length_take] at hj
  obtain ⟨b, o, e, hv⟩ := h.2.2 j (by omega)
  refine ⟨b, o, ?_, ?_⟩
  · unfold cutA
    rw [if_neg (by omega), e, Option.map_some, Nat.zero_mul, Lib.add_plain]; rfl
  · rw [hv, List.getD_eq_getElem?_getD, List.getD_eq_getElem?_getD, List.getElem?_take, if_pos (by omega)]
theorem run_tail (A : Option Addr) (n cap k : Nat) (hk : k ≤ n) (hc : n ≤ cap) (w : World) :
    (Instr.slice 31 (.slice A n cap) (some (.int .i64 (k : Int))) none none).run Tryz.prog w = .ok (.slice (cutA A cap k) (n - k) (cap - k)) w := by
  obtain ⟨i0, hi, hz0, hz1, hz2⟩ := info_parts info64
  rw [run_slice_l w 31 A n cap (by kernel_rfl) .i64 (k : Int) (by omega) (by omega)]
  have he : Tryz.prog.elem 31 = 2 := by kernel_rfl
  simp [he, sizeOf, typeInfo, hi, hz1, Result.andThen, sliced, cutA]
theorem run_head (A : Option Addr) (n cap k : Nat) (hk : k ≤ n) (hc : n ≤ cap) (w : World) :
    (Instr.slice 31 (.slice A n cap) none (some (.int .i64 (k : Int))) none).run Tryz.prog w = .ok (.slice (cutA A cap 0) k cap) w := by
  obtain ⟨i0, hi, hz0, hz1, hz2⟩ := info_parts info64
  rw [run_slice_h w 31 A n cap (by kernel_rfl) .i64 (k : Int) (by omega) (by omega)]
  have he : Tryz.prog.elem 31 = 2 := by kernel_rfl
  simp [he, sizeOf, typeInfo, hi, hz1, Result.andThen, sliced, cutA]
theorem k_of (v : Int) (n : Nat) (h0 : 0 < n) (h : n ≤ 1000) : ∃ k : Nat, wrap64 ((IntKind.u64.wrap v).tmod (n : Int)) = (k : Int) ∧ k ≤ n ∧ (n : Int) ≠ 0 := by
  have h3 : 0 ≤ IntKind.u64.wrap v := by rw [IntKind.wrap_u64]; omega
  rw [Int.tmod_eq_emod_of_nonneg h3]
  have h4 := Int.emod_nonneg (IntKind.u64.wrap v) (b := (n : Int)) (by omega)
  have h5 := Int.emod_lt_of_pos (IntKind.u64.wrap v) (b := (n : Int)) (by omega)
  refine ⟨(IntKind.u64.wrap v % (n : Int)).toNat, ?_, by omega, by omega⟩
  have h6 : wrap64 (IntKind.u64.wrap v % (n : Int)) = IntKind.u64.wrap v % (n : Int) := by unfold RowKit.wrap64; omega
  rw [h6]; omega
theorem drop_rev (xs : List Int) (q : Nat) (h : q < xs.length) : (xs.drop (q + 1)).reverse ++ [xs.getD q 0] = (xs.drop q).reverse := by
  rw [List.drop_eq_getElem_cons h, List.reverse_cons, List.getD_eq_getElem?_getD, List.getElem?_eq_getElem h]; rfl

end Go.Proofs.YtfocdlhaohhkjaaGreatDoor.Money
