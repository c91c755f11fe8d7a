import Derived.Test.YtkccdffccjgajaaGreatDoorNQ
/-
  A list of texts, appended to one's own.
-/
namespace Go.Proofs.YtkccdffccjgajaaGreatDoor.Seg
open Go Go.RowKit
open Go.Proofs.YtkccdffccjgajaaGreatDoor.Wire (S S_list S_size S_append cell_row frozen_row row_lt heap_set heap_far U)
open Go.Proofs.YtkccdffccjgajaaGreatDoor.Frame Go.Proofs.YtkccdffccjgajaaGreatDoor.Ranges

theorem addr_addk (g o j : Nat) : (Addr.mk g o none).add j = ⟨g, o + j, none⟩ := by
  cases j <;> simp [Addr.add]
theorem strV_append (ys zs : List ByteArray) : strV (ys ++ zs) = strV ys ++ strV zs := by unfold strV; rw [List.map_append]
theorem strV_at {xs : List ByteArray} {j : Nat} {u : Value} (h : (strV xs)[j]? = some u) : ∃ hlt : j < xs.length, u = .string (xs[j]'hlt) := by
  unfold strV at h
  rw [List.getElem?_map] at h
  obtain ⟨y, hy, rfl⟩ := Option.map_eq_some_iff.1 h
  obtain ⟨hlt, hy2⟩ := List.getElem?_eq_some_iff.1 hy
  exact ⟨hlt, by rw [hy2]⟩
theorem wpList_append_all {ops : Array Oper} {rest : List Oper} {o : Oper} {a : Act} {w : World} {Q : Exit → Act → World → Prop} (hgd : o.guard = none) (s x : Operand)
    (ho : o.op = .call { callee := .builtin .append, args := #[s, x], argTypes := #[23, 23] })
    (base : Nat) (v : Value) (ys : List ByteArray) (hs : a.eval s = v) (hown : OwnS w base v ys)
    (ad : Addr) (cap : Nat) (xs : List ByteArray) (hx : a.eval x = .slice (some ad) xs.length cap) (hn : Strs w (some ad) xs)
    (hlen : ys.length + xs.length ≤ 1000000) (hbase : base ≤ w.heap.size)
    (h : ∀ v' w', OwnS w' base v' (ys ++ xs) → w.grownBy w' v.ownBlock → wpList Tryz.prog ops Q rest (a.put o.dst v') w') : wpList Tryz.prog ops Q (o :: rest) a w := by
  obtain ⟨i0, hi, hz0, hz1, hz2⟩ := info_parts infoS
  refine wpList_append_own w hgd s x 23 ho base 9 i0 _ 1 16 Tryz.underlying23 hi hz0 hz1 hz2 rfl (by decide) v ys.length (strV ys) hs hown ad xs.length cap (strV xs) hx (by rw [strV_len, Nat.mul_one]) ?_ (by intro u hu; unfold strV at hu; obtain ⟨y, _, rfl⟩ := List.mem_map.1 hu; rfl) (by unfold maxLen; omega) (by omega) hbase ?_
  · intro j u hj
    obtain ⟨hlt, hu⟩ := strV_at hj
    obtain ⟨b, o2, e, _, _, c⟩ := hn j hlt
    have ea : ad = ⟨b, o2, none⟩ := Option.some.inj e
    rw [ea, addr_addk, hu]; exact c
  · intro v' w' hown' hg _
    exact h v' w' (by unfold OwnS; rw [strV_append, List.length_append]; exact hown') hg
/-- an empty row that is laid out -/
theorem own_none {w : World} {base : Nat} (hb : base ≤ w.heap.size) : OwnS (w.alloc (.cells #[] 9)) base (.slice (some ⟨w.heap.size, 0, none⟩) 0 0) [] :=
  ⟨rfl, Or.inr ⟨w.heap.size, 0, #[], rfl, hb, heap_alloc_new w _, Nat.le_refl _, by decide, rfl, rfl⟩⟩
end Go.Proofs.YtkccdffccjgajaaGreatDoor.Seg
