import Derived.Test.YtkccdffccjgajaaGreatDoorRM
import Derived.Test.YtkccdffccjgajaaGreatDoorRL
import Derived.Test.YtkccdffccjgajaaGreatDoorLA
import Derived.Laws.AppendOwnNone
/-
  A row of texts that may be none, appended to one's own; frames that are put behind a segment that was cut: plain mathematics.
-/
namespace Go.Proofs.YtkccdffccjgajaaGreatDoor.Seg
open Go Go.RowKit
open Go.Proofs.YtkccdffccjgajaaGreatDoor.Wire (S S_list S_size S_append cell_row frozen_row row_lt heap_set heap_far U)
open Go.Proofs.YtkccdffccjgajaaGreatDoor.Frame Go.Proofs.YtkccdffccjgajaaGreatDoor.Ranges

theorem OwnS.none {w : World} {base n cap : Nat} {ys : List ByteArray} {A : Option Addr} (h : OwnS w base (.slice A n cap) ys) (ha : A = none) : cap = 0 := by
  rcases h.2 with ⟨e, _⟩ | ⟨g', cap', cur, e, _⟩
  · injection e
  · injection e with e1; rw [ha] at e1; cases e1
theorem wpList_append_row {ops : Array Oper} {rest : List Oper} {o : Oper} {a : Act} {w : World} {Q : Exit → Act → World → Prop} (hgd : o.guard = none) (s x : Operand)
    (ho : o.op = .call { callee := .builtin .append, args := #[s, x], argTypes := #[23, 23] })
    (base : Nat) (v : Value) (ys : List ByteArray) (hs : a.eval s = v) (hown : OwnS w base v ys)
    (A : Option Addr) (cap : Nat) (xs : List ByteArray) (hx : a.eval x = .slice A xs.length cap) (hn : Strs w A xs) (h0 : A = none → cap = 0)
    (hlen : ys.length + xs.length ≤ 1000000) (hbase : base ≤ w.heap.size)
    (h : ∀ v' w', OwnS w' base v' (ys ++ xs) → w.grownBy w' v.ownBlock → wpList Tryz.prog ops Q rest (a.put o.dst v') w') : wpList Tryz.prog ops Q (o :: rest) a w := by
  cases A with
  | none =>
    have hz : xs = [] := by
      cases xs with
      | nil => rfl
      | cons y r => obtain ⟨b, o, e, _⟩ := hn 0 (by simp); cases e
    subst hz
    obtain rfl := h0 rfl
    obtain ⟨i0, hi, hz0, hz1, hz2⟩ := info_parts infoS
    refine wpList_append_own_none hgd s x 23 ho base 9 i0 1 Tryz.underlying23 hi v ys.length (strV ys) hs hown hx ?_
    exact h v w (by rw [List.append_nil]; exact hown) ⟨rfl, rfl, rfl, Nat.le_refl _, fun _ _ _ => rfl⟩
  | some ad => exact wpList_append_all hgd s x ho base v ys hs hown ad cap xs hx hn hlen hbase h
theorem seg_small {most : Int} {q : Nat} {gp : List (List UInt8)} (hm : most ≤ 65536) (h : (segN gp : Int) ≤ most ∨ gp.length = 1) (hok : okP q gp) : segN gp ≤ 65536 := by
  rcases h with h | h
  · omega
  · match gp, h with
    | [p], _ =>
      have := (hok.2 p (List.mem_singleton.2 rfl)).2
      rw [← List.nil_append [p], segN_snoc, segN_nil]; omega
/-- texts that come to few bytes, made frames of -/
theorem RB_sum (xs : List ByteArray) (h : sumM xs ≤ 20000) : ∀ i, RB xs i ≤ 340000 := by
  have key : ∀ (ys : List ByteArray) (q : Nat), (∀ j (hj : j < ys.length), ys[j].size ≤ 20000) → (rowB q (bytesP ys)).length ≤ 17 * sumM ys := by
    intro ys
    induction ys with
    | nil => intro q _; exact Nat.zero_le _
    | cons y r ih =>
      intro q hs
      have h0 := hs 0 (by simp)
      have h1 := ih (q + 1) (fun j hj => by have := hs (j + 1) (by simpa using hj); simpa using this)
      have e : bytesP (y :: r) = y.data.toList :: bytesP r := rfl
      rw [e, rowB, List.length_append, frB_length, sumM, s_len]
      rw [List.getElem_cons_zero] at h0
      omega
  intro i
  have h1 := key xs 0 (sumM_small xs h).2
  have h2 : RB xs i ≤ (rowB 0 (bytesP xs)).length := by
    unfold RB
    have := rowB_len_take_le 0 (bytesP xs) i (max i (bytesP xs).length) (Nat.le_max_left _ _)
    rw [List.take_of_length_le (Nat.le_max_right _ _)] at this
    exact this
  omega
/-- frames that are put behind those of a segment, one by one, those left out that can't be made -/
structure TnW (a : Nat) (ps : List (List UInt8)) (ys : List ByteArray) (i : Nat) (ac : List (List UInt8)) : Prop where
  ok : okP a (ps ++ ac)
  sz : segN (ps ++ ac) ≤ segN ps + RB ys i
  len : ac.length ≤ i
theorem TnW.first {a : Nat} {ps : List (List UInt8)} (h : okP a ps) (ys : List ByteArray) : TnW a ps ys 0 [] :=
  ⟨by rw [List.append_nil]; exact h, by rw [List.append_nil]; omega, Nat.le_refl _⟩
theorem TnW.skip {a : Nat} {ps : List (List UInt8)} {ys : List ByteArray} {i : Nat} {ac : List (List UInt8)} (h : TnW a ps ys i ac) (hi : i < ys.length) : TnW a ps ys (i + 1) ac :=
  ⟨h.ok, by have := h.sz; rw [RB_succ ys i hi]; omega, by have := h.len; omega⟩
theorem TnW.more {a : Nat} {ps : List (List UInt8)} {ys : List ByteArray} {i : Nat} {ac : List (List UInt8)} (h : TnW a ps ys i ac) (hi : i < ys.length) (hm : mkE ((a : Int) + ((ps.length + ac.length : Nat) : Int)) (ys[i]'hi).data.toList = 0) : TnW a ps ys (i + 1) (ac ++ [(ys[i]'hi).data.toList]) := by
  obtain ⟨h1, h2, h3, h4⟩ := mkE_zero hm
  refine ⟨⟨?_, fun p hp => ?_⟩, ?_, ?_⟩
  · rw [List.length_append, List.length_append, List.length_singleton]; omega
  · rw [← List.append_assoc, List.mem_append, List.mem_singleton] at hp
    rcases hp with hp | rfl
    · exact h.ok.2 p hp
    · exact ⟨h3, h4⟩
  · have := h.sz
    rw [← List.append_assoc, segN_snoc, s_len, RB_succ ys i hi]; omega
  · have := h.len
    rw [List.length_append, List.length_singleton]; omega
theorem TnW.bytes {a : Nat} {ps : List (List UInt8)} {ys : List ByteArray} {i : Nat} {ac : List (List UInt8)} (hi : i < ys.length) : segB a (ps ++ (ac ++ [(ys[i]'hi).data.toList])) = segB a (ps ++ ac) ++ frB (a + (ps.length + ac.length)) (ys[i]'hi).data.toList := by
  rw [← List.append_assoc, segB_snoc, List.length_append]
end Go.Proofs.YtkccdffccjgajaaGreatDoor.Seg
