/-
  Slices: what lies in one; slices of the call's own; append.
-/
import Derived.Test.YtefkfjbdmglkjaaDoorE6
import Derived.Laws.AppendOwn
import Derived.Laws.AppendOwnNone
import Derived.OwnWalk
import Derived.Lib.OthersKept
namespace Go.Proofs.YtefkfjbdmglkjaaDoor.Schema
open Go Go.RowKit

theorem addr_add (b o i : Nat) : (⟨b, o, none⟩ : Addr).add i = ⟨b, o + i, none⟩ := by simp [Addr.add]
theorem cell_lt {w : World} {b o : Nat} {v : Value} (h : w.cell? ⟨b, o, none⟩ = some v) : b < w.heap.size := by
  rcases Nat.lt_or_ge b w.heap.size with h1 | h1
  · exact h1
  · unfold World.cell? at h
    rw [show w.heap[(⟨b, o, none⟩ : Addr).block]? = none from Array.getElem?_eq_none h1] at h
    cases h
/-- these values lie one behind the other from A on -/
def VAt (w : World) (A : Option Addr) (vs : List Value) : Prop := ∀ (k : Nat) (u : Value), vs[k]? = some u → ∃ b o, A = some ⟨b, o, none⟩ ∧ w.cell? ⟨b, o + k, none⟩ = some u
theorem VAt.nil (w : World) (A : Option Addr) : VAt w A [] := fun k u h => by simp at h
theorem VAt.below {w w' : World} {A : Option Addr} {vs : List Value} (h : VAt w A vs) (hb : Below w.heap.size w w') : VAt w' A vs := fun k u hu => by
  obtain ⟨b, o, e, hc⟩ := h k u hu
  exact ⟨b, o, e, by rw [hb.cell (show b < w.heap.size from cell_lt hc)]; exact hc⟩
theorem VAt.nils {w : World} {vs : List Value} (h : VAt w none vs) : vs = [] := by
  cases vs with
  | nil => rfl
  | cons y r => obtain ⟨b, o, e, _⟩ := h 0 y rfl; cases e
/-- v is a slice of the call's own (in a block from base on) that holds these values -/
def Own (w : World) (base : Nat) (E : TypeId) (v : Value) (vs : List Value) : Prop := w.ownsRow base E 1 v vs.length vs
theorem Own.nil (w : World) (base : Nat) (E : TypeId) : Own w base E (.slice none 0 0) [] := World.ownsRow_nil w base _ _
theorem Own.made (w : World) (base : Nat) (E : TypeId) (hb : base ≤ w.heap.size) : Own (w.alloc (.cells #[] E)) base E (.slice (some ⟨w.heap.size, 0, none⟩) 0 0) [] :=
  World.ownsRow_made w #[] 0 hb (Nat.zero_le _) rfl
theorem Own.less {w : World} {base base' : Nat} {E : TypeId} {v : Value} {vs : List Value} (h : Own w base E v vs) (hb : base' ≤ base) : Own w base' E v vs := by
  obtain ⟨h1, h2⟩ := h
  refine ⟨h1, ?_⟩
  rcases h2 with h2 | ⟨g, cap, cur, e, hbg, r⟩
  · exact Or.inl h2
  · exact Or.inr ⟨g, cap, cur, e, Nat.le_trans hb hbg, r⟩
theorem Own.below {w w' : World} {base : Nat} {E : TypeId} {v : Value} {vs : List Value} (h : Own w base E v vs) (hb : Below w.heap.size w w') : Own w' base E v vs := by
  obtain ⟨h1, h2⟩ := h
  refine ⟨h1, ?_⟩
  rcases h2 with h2 | ⟨g, cap, cur, e, hbg, hg, r⟩
  · exact Or.inl h2
  · have hlt : g < w.heap.size := (Array.getElem?_eq_some_iff.1 hg).1
    exact Or.inr ⟨g, cap, cur, e, hbg, by rw [hb.block g hlt]; exact hg, r⟩
/-- what such a slice reads as -/
theorem Own.vat {w : World} {base : Nat} {E : TypeId} {v : Value} {vs : List Value} (h : Own w base E v vs) : ∃ (A : Option Addr) (cap : Nat), v = .slice A vs.length cap ∧ VAt w A vs ∧ (A = none → cap = 0) ∧ vs.length ≤ cap ∧ cap ≤ maxLen ∧ ∀ a, A = some a → base ≤ a.block ∧ a.block < w.heap.size ∧ a = ⟨a.block, 0, none⟩ ∧ ∃ cur : Array Value, w.heap[a.block]? = some (.cells cur E (0, 0)) ∧ cur.size = cap ∧ cur.toList.take vs.length = vs := by
  obtain ⟨_, h⟩ := h
  rcases h with ⟨rfl, h0⟩ | ⟨g, cap, cur, rfl, hb, hg, hn, hc, hs, ht⟩
  · have : vs = [] := List.eq_nil_of_length_eq_zero h0
    subst this
    exact ⟨none, 0, rfl, VAt.nil _ _, fun _ => rfl, Nat.le_refl _, Nat.zero_le _, fun a h => by cases h⟩
  · rw [Nat.mul_one] at hs ht
    refine ⟨_, cap, rfl, fun k u hu => ⟨g, 0, rfl, ?_⟩, (fun h => by cases h), hn, hc, fun a h => ?_⟩
    · have hk : k < vs.length := (List.getElem?_eq_some_iff.1 hu).1
      have e : cur[k]? = some u := by
        have h1 : vs[k]? = cur.toList[k]? := by
          conv => lhs; rw [← ht]
          rw [List.getElem?_take, if_pos hk]
        rw [← Array.getElem?_toList, ← h1, hu]
      simp [World.cell?, hg, e]
    · injection h with h; subst h
      exact ⟨hb, (Array.getElem?_eq_some_iff.1 hg).1, rfl, cur, hg, hs, ht⟩
theorem Own.cells {w : World} {base : Nat} {E : TypeId} {v : Value} {vs : List Value} (h : Own w base E v vs) (h0 : 0 < vs.length) : ∃ g cap, v = .slice (some ⟨g, 0, none⟩) vs.length cap ∧ base ≤ g ∧ g < w.heap.size ∧ vs.length ≤ cap ∧ ∀ (k : Nat) (u : Value), vs[k]? = some u → w.cell? ⟨g, k, none⟩ = some u := by
  obtain ⟨A, cap, rfl, hv, _, hn, _, ha⟩ := h.vat
  obtain ⟨b, o, rfl, _⟩ := hv 0 vs[0] (List.getElem?_eq_getElem h0)
  obtain ⟨h1, h2, h3, _⟩ := ha _ rfl
  simp only [Addr.mk.injEq, and_true, true_and] at h3
  subst h3
  exact ⟨b, cap, rfl, h1, h2, hn, fun k u hu => by
    obtain ⟨b', o', e, hc⟩ := hv k u hu
    injection e with e; injection e with e1 e2; subst e1; subst e2
    simpa using hc⟩

set_option maxRecDepth 100000 in
/-- append, whatever lies in the second slice -/
theorem wp_append_vals {o : Oper} {a : Act} {w : World} {K : Act → World → Prop} {Q : Exit → Act → World → Prop} (T E : TypeId) (z : Value) (bytes : Nat) (hT : Tryd.prog.underlying T = some (.slice E))
    (hinfo : (Tryd.prog.info? E).map (fun i => (i.zero, i.size, i.bytes)) = some (some z, 1, bytes)) (hzs : z.cells.size = 1) (hby : bytes ≤ 16) (s x : Operand)
    (ho : o.op = .call { callee := .builtin .append, args := #[s, x], argTypes := #[T, T] })
    (base : Nat) (v : Value) (xs : List Value) (hs : a.eval s = v) (hown : Own w base E v xs)
    (A : Option Addr) (m cap : Nat) (ys : List Value) (hx : a.eval x = .slice A m cap) (hm : m = ys.length) (hn : VAt w A ys) (h1 : ∀ u ∈ ys, u.oneCell' = true) (hA : A = none → cap = 0)
    (hlen : xs.length + ys.length ≤ 1000000) (hbase : base ≤ w.heap.size)
    (h : ∀ v' w', Own w' base E v' (xs ++ ys) → w.grownBy w' v.ownBlock → K (a.put o.dst v') w') : o.wp Tryd.prog a w K Q := by
  subst hm
  obtain ⟨i0, hi, hz0, hz1, hz2⟩ := info_parts hinfo
  cases A with
  | none =>
    have hc := hA rfl
    have hy := hn.nils
    subst hy; subst hc
    have hrun := run_append_owned_none (P := Tryd.prog) (w := w) base T o.type E i0 1 hT hi v xs.length xs hown
    have hx' : a.eval x = .slice none 0 0 := hx
    unfold Oper.wp
    simp [execOp, ho, resolve, invoke, builtin, hs, hx', hrun, Result.andThen]
    exact h v w (by rw [List.append_nil]; exact hown) ⟨rfl, rfl, rfl, Nat.le_refl _, fun _ _ _ => rfl⟩
  | some ad =>
    refine wp_append_own w s x T ho base E i0 z 1 bytes hT hi hz0 hz1 hz2 hzs (by decide) v xs.length xs hs hown ad ys.length cap ys hx (by rw [Nat.mul_one]) ?_ h1 (by unfold maxLen; omega) ?_ hbase ?_
    · intro j u hj
      obtain ⟨b, o, e, hc⟩ := hn j u hj
      injection e with e; subst e
      rw [addr_add, hc]
    · exact Nat.le_trans (Nat.mul_le_mul hlen hby) (by decide)
    · intro v' w' hown' hg _
      exact h v' w' (by unfold Own; rw [List.length_append]; exact hown') hg
theorem wpList_append_vals {ops : Array Oper} {rest : List Oper} {o : Oper} {a : Act} {w : World} {Q : Exit → Act → World → Prop} (T E : TypeId) (z : Value) (bytes : Nat) (hT : Tryd.prog.underlying T = some (.slice E))
    (hinfo : (Tryd.prog.info? E).map (fun i => (i.zero, i.size, i.bytes)) = some (some z, 1, bytes)) (hzs : z.cells.size = 1) (hby : bytes ≤ 16) (hgd : o.guard = none) (s x : Operand)
    (ho : o.op = .call { callee := .builtin .append, args := #[s, x], argTypes := #[T, T] })
    (base : Nat) (v : Value) (xs : List Value) (hs : a.eval s = v) (hown : Own w base E v xs)
    (A : Option Addr) (m cap : Nat) (ys : List Value) (hx : a.eval x = .slice A m cap) (hm : m = ys.length) (hn : VAt w A ys) (h1 : ∀ u ∈ ys, u.oneCell' = true) (hA : A = none → cap = 0)
    (hlen : xs.length + ys.length ≤ 1000000) (hbase : base ≤ w.heap.size)
    (h : ∀ v' w', Own w' base E v' (xs ++ ys) → w.grownBy w' v.ownBlock → wpList Tryd.prog ops Q rest (a.put o.dst v') w') : wpList Tryd.prog ops Q (o :: rest) a w :=
  wpList_plain hgd fun _ hK => wp_append_vals T E z bytes hT hinfo hzs hby s x ho base v xs hs hown A m cap ys hx hm hn h1 hA hlen hbase fun v' w' h2 h3 => hK _ _ (h v' w' h2 h3)
theorem step_append_vals {ops : Array Oper} {o : Oper} {a : Act} {w : World} {K : Act → World → Prop} {Q : Exit → Act → World → Prop} {X : Prop} (T E : TypeId) (z : Value) (bytes : Nat) (hT : Tryd.prog.underlying T = some (.slice E))
    (hinfo : (Tryd.prog.info? E).map (fun i => (i.zero, i.size, i.bytes)) = some (some z, 1, bytes)) (hzs : z.cells.size = 1) (hby : bytes ≤ 16) (hgd : o.guard = none) (s x : Operand)
    (ho : o.op = .call { callee := .builtin .append, args := #[s, x], argTypes := #[T, T] })
    (base : Nat) (v : Value) (xs : List Value) (hs : a.eval s = v) (hown : Own w base E v xs)
    (A : Option Addr) (m cap : Nat) (ys : List Value) (hx : a.eval x = .slice A m cap) (hm : m = ys.length) (hn : VAt w A ys) (h1 : ∀ u ∈ ys, u.oneCell' = true) (hA : A = none → cap = 0)
    (hlen : xs.length + ys.length ≤ 1000000) (hbase : base ≤ w.heap.size)
    (h : ∀ v' w', Own w' base E v' (xs ++ ys) → w.grownBy w' v.ownBlock → K (a.put o.dst v') w') :
    if Region.wanted o (yielded ops a.tmps) = true then Oper.wp Tryd.prog o a w K Q else X := by
  rw [if_pos (by simp [Region.wanted, hgd])]
  exact wp_append_vals T E z bytes hT hinfo hzs hby s x ho base v xs hs hown A m cap ys hx hm hn h1 hA hlen hbase h
theorem infoC : (Tryd.prog.info? 81).map (fun i => (i.zero, i.size, i.bytes)) = some (some (.int .u8 0), 1, 1) := by kernel_rfl
theorem infoN : (Tryd.prog.info? 2).map (fun i => (i.zero, i.size, i.bytes)) = some (some (.int .i64 0), 1, 8) := by kernel_rfl
theorem infoT : (Tryd.prog.info? 9).map (fun i => (i.zero, i.size, i.bytes)) = some (some (.string ByteArray.empty), 1, 16) := by kernel_rfl

/-- below the row's block, and below what was there, nothing turns -/
theorem below_grown {B : Nat} {w w' : World} {v : Value} {E : TypeId} {base : Nat} {xs : List Value} (ho : Own w base E v xs) (hb : B ≤ base) (hB : B ≤ w.heap.size) (h : w.grownBy w' v.ownBlock) : Below B w w' :=
  ⟨h.os, h.tape, h.output, h.size, fun k hk => h.block k (by omega) (fun e => by
    have := World.ownsRow.lt ho k e.symm
    omega)⟩

end Go.Proofs.YtefkfjbdmglkjaaDoor.Schema
