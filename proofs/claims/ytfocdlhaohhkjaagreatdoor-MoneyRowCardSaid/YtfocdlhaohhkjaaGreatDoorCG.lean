/-
  Append, of numbers, to a slice of the call's own.
-/
import Derived.Test.YtfocdlhaohhkjaaGreatDoorCF
import Derived.Laws.AppendOwn
import Derived.Laws.AppendOwnNone
import Derived.OwnWalk
namespace Go.Proofs.YtfocdlhaohhkjaaGreatDoor.Money
open Go.RowKit

def vals (xs : List Int) : List Value := xs.map (Value.int .i64)
theorem vals_append (a b : List Int) : vals (a ++ b) = vals a ++ vals b := List.map_append
theorem vals_length (a : List Int) : (vals a).length = a.length := List.length_map _
/-- v is a slice of the call's own (in a block from base on) that holds these numbers -/
def Own (w : World) (base : Nat) (v : Value) (xs : List Int) : Prop := w.ownsRow base 2 1 v xs.length (vals xs)
theorem info64 : (Tryz.prog.info? 2).map (fun i => (i.zero, i.size, i.bytes)) = some (some (.int .i64 0), 1, 8) := by kernel_rfl
theorem Own.nil (w : World) (base : Nat) : Own w base (.slice none 0 0) [] := World.ownsRow_nil w base _ _
theorem Own.made (w : World) (base : Nat) (hb : base ≤ w.heap.size) : Own (w.alloc (.cells #[] 2)) base (.slice (some ⟨w.heap.size, 0, none⟩) 0 0) [] :=
  World.ownsRow_made w #[] 0 hb (Nat.zero_le _) rfl
/-- what such a slice reads as -/
theorem Own.nums {w : World} {base : Nat} {v : Value} {xs : List Int} (h : Own w base v xs) (hf : Fits xs) (hl : xs.length ≤ 4611686018427387903) : ∃ (A : Option Addr) (cap : Nat), v = .slice A xs.length cap ∧ Nums w A xs ∧ (A = none → cap = 0) ∧ ∀ a, A = some a → base ≤ a.block ∧ a.block < w.heap.size ∧ a = ⟨a.block, 0, none⟩ := by
  obtain ⟨_, h⟩ := h
  rcases h with ⟨rfl, h0⟩ | ⟨g, cap, cur, rfl, hb, hg, hn, hc, hs, ht⟩
  · have : xs = [] := List.eq_nil_of_length_eq_zero h0
    subst this
    exact ⟨none, 0, rfl, ⟨hl, hf, fun k hk => absurd hk (by simp)⟩, fun _ => rfl, fun a h => by cases h⟩
  · refine ⟨_, cap, rfl, ⟨hl, hf, fun k hk => ⟨g, 0, rfl, ?_⟩⟩, (fun h => by cases h), fun a h => ?_⟩
    · have hk' : k < (vals xs).length := by rw [vals_length]; exact hk
      have e : cur[k]? = some (.int .i64 (xs.getD k 0)) := by
        rw [Nat.mul_one] at ht
        have h1 : (vals xs)[k]? = cur.toList[k]? := by rw [← ht, List.getElem?_take, if_pos hk]
        rw [← Array.getElem?_toList, ← h1]
        unfold vals
        rw [List.getElem?_map, List.getElem?_eq_getElem hk, List.getD_eq_getElem?_getD, List.getElem?_eq_getElem hk]; rfl
      simp [World.cell?, hg, e]
    · injection h with h; subst h
      exact ⟨hb, (Array.getElem?_eq_some_iff.1 hg).1, rfl⟩
set_option maxRecDepth 100000 in
/-- append, whatever numbers lie in the second slice -/
theorem wpList_append_nums {ops : Array Oper} {rest : List Oper} {o : Oper} {a : Act} {w : World} {Q : Exit → Act → World → Prop} (hgd : o.guard = none) (s x : Operand)
    (ho : o.op = .call { callee := .builtin .append, args := #[s, x], argTypes := #[31, 31] })
    (base : Nat) (v : Value) (xs : List Int) (hs : a.eval s = v) (hown : Own w base v xs)
    (A : Option Addr) (cap : Nat) (ys : List Int) (hx : a.eval x = .slice A ys.length cap) (hn : Nums w A ys) (hA : A = none → cap = 0)
    (hlen : xs.length + ys.length ≤ 1000000) (hbase : base ≤ w.heap.size)
    (h : ∀ v' w', Own w' base v' (xs ++ ys) → w.grownBy w' v.ownBlock → wpList Tryz.prog ops Q rest (a.put o.dst v') w') : wpList Tryz.prog ops Q (o :: rest) a w := by
  obtain ⟨i0, hi, hz0, hz1, hz2⟩ := info_parts info64
  cases A with
  | none =>
    have hc := hA rfl
    have hy : ys = [] := by
      cases ys with
      | nil => rfl
      | cons y r => obtain ⟨b, o, e, _⟩ := hn.2.2 0 (Nat.succ_pos _); cases e
    subst hy; subst hc
    refine wpList_append_own_none hgd s x 31 ho base 2 i0 1 Tryz.underlying31 hi v xs.length (vals xs) hs hown hx ?_
    exact h v w (by rw [List.append_nil]; exact hown) ⟨rfl, rfl, rfl, Nat.le_refl _, fun _ _ _ => rfl⟩
  | some ad =>
    refine wpList_append_own w hgd s x 31 ho base 2 i0 (.int .i64 0) 1 8 Tryz.underlying31 hi hz0 hz1 hz2 rfl (by decide) v xs.length (vals xs) hs hown ad ys.length cap (vals ys) hx (by rw [vals_length, Nat.mul_one]) ?_ ?_ (by unfold maxLen; omega) (by omega) hbase ?_
    · intro j u hj
      have hjl : j < ys.length := by have := (List.getElem?_eq_some_iff.1 hj).1; rw [vals_length] at this; exact this
      obtain ⟨b, o, e, hc⟩ := hn.2.2 j hjl
      injection e with e; subst e
      rw [Lib.add_plain, hc]
      unfold vals at hj
      rw [List.getElem?_map, List.getElem?_eq_getElem hjl] at hj
      rw [← hj, List.getD_eq_getElem?_getD, List.getElem?_eq_getElem hjl]; rfl
    · intro u hu
      unfold vals at hu
      obtain ⟨z, _, rfl⟩ := List.mem_map.1 hu
      rfl
    · intro v' w' hown' hg _
      exact h v' w' (by unfold Own; rw [List.length_append, vals_append]; exact hown') hg

theorem Nums.below {w w' : World} {A : Option Addr} {xs : List Int} (h : Nums w A xs) (hb : Below w.heap.size w w') : Nums w' A xs :=
  ⟨h.1, h.2.1, fun k hk => by
    obtain ⟨b, o, e, hc⟩ := h.2.2 k hk
    exact ⟨b, o, e, by rw [hb.cell (show b < w.heap.size from cell_lt hc)]; exact hc⟩⟩
theorem Own.below {w w' : World} {base : Nat} {v : Value} {xs : List Int} (h : Own w base v xs) (hb : Below w.heap.size w w') : Own w' base v xs := by
  obtain ⟨h1, h2⟩ := h
  refine ⟨h1, ?_⟩
  rcases h2 with h2 | ⟨g, cap, cur, e, hbg, hg, r⟩
  · exact Or.inl h2
  · have hlt : g < w.heap.size := (Array.getElem?_eq_some_iff.1 hg).1
    exact Or.inr ⟨g, cap, cur, e, hbg, by rw [hb.block g hlt]; exact hg, r⟩

end Go.Proofs.YtfocdlhaohhkjaaGreatDoor.Money
