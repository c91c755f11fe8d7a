import Derived.Test.YticfnfekkmkclaaGreatDoorMF
import Derived.Deep.RegionLaw
import Derived.Deep.RegionWith
import Derived.Laws.AppendOwn
import Derived.Deep.RegionHeldLaw
import Derived.Deep.RegionHeld3
/-
  Segments of one's own: how they lie in memory; append of one.
-/
namespace Go.Proofs.YticfnfekkmkclaaGreatDoor.Manif
open Go Go.RowKit
open Go.Proofs.YticfnfekkmkclaaGreatDoor.Wire (S S_list S_size cell_row frozen_row row_lt heap_set)

def enC (x : Int × Int) : List Value := [.int .i64 x.1, .int .i64 x.2]
def cellsE : List (Int × Int) → List Value
  | [] => []
  | x :: r => enC x ++ cellsE r
theorem cellsE_append (l m : List (Int × Int)) : cellsE (l ++ m) = cellsE l ++ cellsE m := by
  induction l with
  | nil => rfl
  | cons x r ih => rw [List.cons_append, cellsE, cellsE, ih, List.append_assoc]
theorem cellsE_len (l : List (Int × Int)) : (cellsE l).length = l.length * 2 := by
  induction l with
  | nil => rfl
  | cons x r ih => rw [cellsE, List.length_append, ih, List.length_cons]; show 2 + _ = _; omega
theorem cellsE_at (l : List (Int × Int)) (k j : Nat) (hk : k < l.length) (hj : j < 2) : (cellsE l)[k * 2 + j]? = (enC l[k])[j]? := by
  induction l generalizing k with
  | nil => simp at hk
  | cons x r ih =>
    cases k with
    | zero => rw [cellsE, List.getElem?_append_left (by show 0 * 2 + j < 2; omega), Nat.zero_mul, Nat.zero_add]; rfl
    | succ k =>
      rw [cellsE, List.getElem?_append_right (by show 2 ≤ _; omega), show (k + 1) * 2 + j - (enC x).length = k * 2 + j by show (k + 1) * 2 + j - 2 = _; omega, ih k (by simpa using hk)]
      rfl
theorem cellsE_one (l : List (Int × Int)) : ∀ u ∈ cellsE l, u.oneCell' = true := by
  induction l with
  | nil => intro u h; cases h
  | cons x r ih =>
    intro u h
    rw [cellsE, List.mem_append] at h
    rcases h with h | h
    · simp only [enC, List.mem_cons, List.not_mem_nil, or_false] at h
      rcases h with rfl | rfl <;> rfl
    · exact ih u h
/-- segments that are one's own, and segments that are there -/
def OwnE (w : World) (base : Nat) (v : Value) (l : List (Int × Int)) : Prop := w.ownsRow base 27 2 v l.length (cellsE l)
theorem infoE : (Tryz.prog.info? 27).map (fun i => (i.zero, i.size, i.bytes)) = some (some (.agg #[.int .i64 0, .int .i64 0]), 2, 16) := by kernel_rfl
theorem OwnE.nil (w : World) (base : Nat) : OwnE w base (.slice none 0 0) [] := ⟨rfl, Or.inl ⟨rfl, rfl⟩⟩
theorem OwnE.row {w : World} {base : Nat} {v : Value} {l : List (Int × Int)} (h : OwnE w base v l) : ∃ A cap, v = .slice A l.length cap ∧ cap ≤ maxLen ∧ l.length ≤ cap ∧ RowE w A l ∧ (∀ a, A = some a → base ≤ a.block) := by
  rcases h.2 with ⟨rfl, hn⟩ | ⟨g, cap, cur, rfl, hb, hg, h1, h2, h3, h4⟩
  · have hx : l = [] := List.eq_nil_of_length_eq_zero hn
    subst hx
    exact ⟨none, 0, rfl, Nat.zero_le _, Nat.zero_le _, fun i hi => absurd hi (Nat.not_lt_zero _), fun a e => by cases e⟩
  · have hc : ∀ k (hk : k < l.length) j (hj : j < 2) u, (enC l[k])[j]? = some u → w.cell? ⟨g, k * 2 + j, none⟩ = some u := fun k hk j hj u hu => by
      have e : (cellsE l)[k * 2 + j]? = some u := (cellsE_at l k j hk hj).trans hu
      rw [cell_row hg, ← Array.getElem?_toList]
      rw [← h4, List.getElem?_take] at e
      split at e
      · exact e
      · cases e
    exact ⟨some ⟨g, 0, none⟩, cap, rfl, h2, h1, fun k hk => ⟨g, 0, rfl, row_lt hg, by rw [Nat.zero_add]; exact hc k hk 0 (by omega) _ rfl, by rw [Nat.zero_add]; exact hc k hk 1 (by omega) _ rfl⟩, fun a e => by injection e with e; rw [← e]; exact hb⟩
theorem OwnE.keep {w w' : World} {base : Nat} {v : Value} {l : List (Int × Int)} (h : OwnE w base v l) (hk : ∀ g, v.ownBlock = some g → w'.heap[g]? = w.heap[g]?) : OwnE w' base v l := by
  obtain ⟨h1, h2⟩ := h
  refine ⟨h1, ?_⟩
  rcases h2 with h2 | ⟨b, cap, cur, e, hbg, hh, r⟩
  · exact Or.inl h2
  · exact Or.inr ⟨b, cap, cur, e, hbg, (hk b (by rw [e]; rfl)).trans hh, r⟩
theorem OwnE.lt {w : World} {base : Nat} {v : Value} {l : List (Int × Int)} (h : OwnE w base v l) (g : Nat) (hg : v.ownBlock = some g) : g < w.heap.size ∧ base ≤ g := by
  rcases h.2 with ⟨rfl, _⟩ | ⟨b, cap, cur, rfl, hbg, hh, _⟩
  · cases hg
  · have : b = g := by simpa [Value.ownBlock] using hg
    subst this; exact ⟨row_lt hh, hbg⟩
theorem OwnE.below {w w' : World} {base : Nat} {v : Value} {l : List (Int × Int)} (h : OwnE w base v l) (hb : Below w.heap.size w w') : OwnE w' base v l := h.keep (fun g hg => hb.block g (h.lt g hg).1)
theorem OwnE.less {w : World} {base base' : Nat} {v : Value} {l : List (Int × Int)} (h : OwnE w base v l) (hb : base' ≤ base) : OwnE w base' v l := by
  obtain ⟨h1, h2⟩ := h
  refine ⟨h1, ?_⟩
  rcases h2 with h2 | ⟨b, cap, cur, e, hbg, r⟩
  · exact Or.inl h2
  · exact Or.inr ⟨b, cap, cur, e, Nat.le_trans hb hbg, r⟩
theorem addr_z (g j : Nat) : (Addr.mk g 0 none).add j = ⟨g, j, none⟩ := by cases j <;> simp [Addr.add]
theorem wpList_append_e {ops : Array Oper} {rest : List Oper} {o : Oper} {a : Act} {w : World} {Q : Exit → Act → World → Prop} (hgd : o.guard = none) (s x : Operand)
    (ho : o.op = .call { callee := .builtin .append, args := #[s, x], argTypes := #[23, 23] })
    (base : Nat) (v : Value) (xs : List (Int × Int)) (hs : a.eval s = v) (hown : OwnE w base v xs)
    (g : Nat) (cap : Nat) (y : Int × Int) (hx : a.eval x = .slice (some ⟨g, 0, none⟩) 1 cap) (hn : w.heap[g]? = some (.cells (enC y).toArray 27 (0, 0)))
    (hlen : xs.length ≤ 1000000) (hbase : base ≤ w.heap.size)
    (h : ∀ v' w', OwnE w' base v' (xs ++ [y]) → w.grownBy w' v.ownBlock → wpList Tryz.prog ops Q rest (a.put o.dst v') w') : wpList Tryz.prog ops Q (o :: rest) a w := by
  obtain ⟨i0, hi, hz0, hz1, hz2⟩ := info_parts infoE
  refine wpList_append_own w hgd s x 23 ho base 27 i0 _ 2 16 Tryz.underlying23 hi hz0 hz1 hz2 rfl (by decide) v xs.length (cellsE xs) hs hown ⟨g, 0, none⟩ 1 cap (enC y) hx rfl ?_ (fun u hu => cellsE_one [y] u (by rw [cellsE, cellsE, List.append_nil]; exact hu)) (by unfold maxLen; omega) (by omega) hbase ?_
  · intro j u hj
    rw [addr_z, cell_row hn]
    simpa using hj
  · intro v' w' hown' hg _
    exact h v' w' (by unfold OwnE; rw [cellsE_append, List.length_append, cellsE, cellsE, List.append_nil]; exact hown') hg
theorem step_append_e {ops : Array Oper} {o : Oper} {a : Act} {w : World} {K : Act → World → Prop} {Q : Exit → Act → World → Prop} {X : Prop} (hgd : o.guard = none) (s x : Operand)
    (ho : o.op = .call { callee := .builtin .append, args := #[s, x], argTypes := #[23, 23] })
    (base : Nat) (v : Value) (xs : List (Int × Int)) (hs : a.eval s = v) (hown : OwnE w base v xs)
    (g : Nat) (cap : Nat) (y : Int × Int) (hx : a.eval x = .slice (some ⟨g, 0, none⟩) 1 cap) (hn : w.heap[g]? = some (.cells (enC y).toArray 27 (0, 0)))
    (hlen : xs.length ≤ 1000000) (hbase : base ≤ w.heap.size)
    (h : ∀ v' w', OwnE w' base v' (xs ++ [y]) → w.grownBy w' v.ownBlock → K (a.put o.dst v') w') :
    if Region.wanted o (yielded ops a.tmps) = true then Oper.wp Tryz.prog o a w K Q else X := by
  obtain ⟨i0, hi, hz0, hz1, hz2⟩ := info_parts infoE
  rw [if_pos (by simp [Region.wanted, hgd])]
  refine wp_append_own w s x 23 ho base 27 i0 _ 2 16 Tryz.underlying23 hi hz0 hz1 hz2 rfl (by decide) v xs.length (cellsE xs) hs hown ⟨g, 0, none⟩ 1 cap (enC y) hx rfl ?_ (fun u hu => cellsE_one [y] u (by rw [cellsE, cellsE, List.append_nil]; exact hu)) (by unfold maxLen; omega) (by omega) hbase ?_
  · intro j u hj
    rw [addr_z, cell_row hn]
    simpa using hj
  · intro v' w' hown' hg _
    exact h v' w' (by unfold OwnE; rw [cellsE_append, List.length_append, cellsE, cellsE, List.append_nil]; exact hown') hg
end Go.Proofs.YticfnfekkmkclaaGreatDoor.Manif

/-
  Manifests: what bytes say. Plain mathematics.
-/
namespace Go.Proofs.YticfnfekkmkclaaGreatDoor.Manif
open Go Go.RowKit
open Go.Proofs.YticfnfekkmkclaaGreatDoor.Wire (S S_list S_size fixB fixB_length be be_fixB be_lt fixB_be U fxV tkT tkI tkE)

/-- the number of so many bytes at a place -/
def nAt (t : List UInt8) (i k : Nat) : Nat := be ((t.drop i).take k)
theorem nAt_lt (t : List UInt8) (i k : Nat) (h : i + k ≤ t.length) : nAt t i k < 256 ^ k := be_lt k _ (by rw [List.length_take, List.length_drop]; omega)
theorem nAt_mid (a b c : List UInt8) (i k : Nat) (hi : i = a.length) (hk : k = b.length) : nAt (a ++ (b ++ c)) i k = be b := by
  subst hi hk; unfold nAt; rw [List.drop_left, List.take_left]
theorem nAt_fix (a c : List UInt8) (i k n : Nat) (hi : i = a.length) (hn : n < 256 ^ k) : nAt (a ++ (fixB k n ++ c)) i k = n := by
  rw [nAt_mid a (fixB k n) c i k hi (fixB_length k n).symm, be_fixB, Nat.mod_eq_of_lt hn]
theorem fix_nAt (t : List UInt8) (i k : Nat) (h : i + k ≤ t.length) : fixB k (nAt t i k) = (t.drop i).take k := fixB_be k _ (by rw [List.length_take, List.length_drop]; omega)
theorem sgn_small {n : Nat} (h : n < 9223372036854775808) : sgn n = (n : Int) := by unfold sgn U; exact IntWalk.wrap64_in _ ⟨by omega, by omega⟩
theorem sgn_back {n : Nat} (hn : n < 18446744073709551616) (h0 : 0 ≤ sgn n) : (sgn n).toNat = n := by
  by_cases h : n < 9223372036854775808
  · rw [sgn_small h]; exact Int.toNat_natCast n
  · exfalso
    unfold sgn U at h0
    rw [show wrap64 (n : Int) = (n : Int) - 18446744073709551616 by unfold wrap64; omega] at h0
    omega
def rdG (t : List UInt8) : Int := sgn (nAt t 4 8)
def rdN (t : List UInt8) : Nat := nAt t 12 2
def rdE (t : List UInt8) (k : Nat) : Int × Int := (sgn (nAt t (14 + 16 * k) 8), sgn (nAt t (22 + 16 * k) 8))
def rdL (t : List UInt8) : Nat → List (Int × Int)
  | 0 => []
  | n + 1 => rdL t n ++ [rdE t n]
theorem rdL_length (t : List UInt8) : ∀ n, (rdL t n).length = n
  | 0 => rfl
  | n + 1 => by rw [rdL, List.length_append, rdL_length t n]; rfl
theorem rdL_at (t : List UInt8) : ∀ n k (h : k < (rdL t n).length), (rdL t n)[k] = rdE t k
  | 0, k, h => absurd h (Nat.not_lt_zero _)
  | n + 1, k, h => by
    rw [rdL_length] at h
    by_cases hk : k < n
    · simp only [rdL]
      rw [List.getElem_append_left (by rw [rdL_length]; exact hk)]
      exact rdL_at t n k _
    · have : k = n := by omega
      subst this
      simp only [rdL]
      rw [List.getElem_append_right (by rw [rdL_length]; exact Nat.le_refl _)]
      simp [rdL_length]
/-- the manifest that bytes say -/
def okM (t : List UInt8) : Bool := decide (14 ≤ t.length ∧ t.take 4 = word ∧ ((t.length + 4 : Nat) : Int) = szM (rdN t : Int)) && mayM (rdG t) (rdL t (rdN t))
/-- what a manifest's bytes say -/
theorem enB_at (l : List (Int × Int)) (k : Nat) (h : k < l.length) : enB l = enB (l.take k) ++ (fixB 8 (l[k]).1.toNat ++ (fixB 8 (l[k]).2.toNat ++ enB (l.drop (k + 1)))) := by
  conv => lhs; rw [← List.take_append_drop k l]
  rw [enB_append, List.drop_eq_getElem_cons h, enB]
theorem bareM_parts (g : Int) (l : List (Int × Int)) : bareM g l = word ++ (fixB 8 g.toNat ++ (fixB 2 l.length ++ enB l)) := by unfold bareM; simp [List.append_assoc]
theorem small8 {x : Int} (h : x ≤ 100000000) : x.toNat < 256 ^ 8 := by
  have : (256 : Nat) ^ 8 = 18446744073709551616 := by decide
  omega
theorem bareM_reads {g : Int} {l : List (Int × Int)} (h : mayM g l = true) : rdG (bareM g l) = g ∧ rdN (bareM g l) = l.length ∧ rdL (bareM g l) l.length = l := by
  obtain ⟨h1, h2, h3, h4, h5⟩ := mayM_parts h
  rw [bareM_parts]
  refine ⟨?_, ?_, ?_⟩
  · unfold rdG
    rw [nAt_fix word _ 4 8 g.toNat rfl (small8 (by omega)), sgn_small (by omega)]; omega
  · unfold rdN
    rw [← List.append_assoc, nAt_fix (word ++ fixB 8 g.toNat) _ 12 2 l.length (by rw [List.length_append, fixB_length]; rfl) (by omega)]
  · refine List.ext_getElem (rdL_length _ _) (fun k hk hk2 => ?_)
    rw [rdL_at]
    obtain ⟨x1, x2, x3, x4⟩ := h5 k hk2
    have hl : (enB (l.take k)).length = 16 * k := by rw [enB_length, List.length_take]; omega
    have e1 : word ++ (fixB 8 g.toNat ++ (fixB 2 l.length ++ enB l)) = (word ++ (fixB 8 g.toNat ++ (fixB 2 l.length ++ enB (l.take k)))) ++ (fixB 8 (l[k]).1.toNat ++ (fixB 8 (l[k]).2.toNat ++ enB (l.drop (k + 1)))) := by
      rw [enB_at l k hk2]; simp [List.append_assoc]
    have e2 : word ++ (fixB 8 g.toNat ++ (fixB 2 l.length ++ enB l)) = (word ++ (fixB 8 g.toNat ++ (fixB 2 l.length ++ (enB (l.take k) ++ fixB 8 (l[k]).1.toNat)))) ++ (fixB 8 (l[k]).2.toNat ++ enB (l.drop (k + 1))) := by
      rw [enB_at l k hk2]; simp [List.append_assoc]
    have n1 : nAt (word ++ (fixB 8 g.toNat ++ (fixB 2 l.length ++ enB l))) (14 + 16 * k) 8 = (l[k]).1.toNat := by
      rw [e1, nAt_fix _ _ _ 8 _ (by simp only [List.length_append, fixB_length, hl]; show 14 + 16 * k = 4 + _; omega) (small8 (by omega))]
    have n2 : nAt (word ++ (fixB 8 g.toNat ++ (fixB 2 l.length ++ enB l))) (22 + 16 * k) 8 = (l[k]).2.toNat := by
      rw [e2, nAt_fix _ _ _ 8 _ (by simp only [List.length_append, fixB_length, hl]; show 22 + 16 * k = 4 + _; omega) (small8 (by omega))]
    unfold rdE
    rw [n1, n2, sgn_small (by omega), sgn_small (by omega)]
    exact Prod.ext (by show ((l[k]).1.toNat : Int) = _; omega) (by show ((l[k]).2.toNat : Int) = _; omega)
theorem szM_in {n : Nat} (h : 1 ≤ n ∧ n ≤ 64) : szM (n : Int) = 18 + 16 * (n : Int) := by unfold szM; rw [if_pos (by omega)]
theorem bareM_ok {g : Int} {l : List (Int × Int)} (h : mayM g l = true) : okM (bareM g l) = true := by
  obtain ⟨h1, h2, h3, h4, h5⟩ := mayM_parts h
  obtain ⟨r1, r2, r3⟩ := bareM_reads h
  unfold okM
  rw [r1, r2, r3, h, Bool.and_true, decide_eq_true_iff, bareM_length, szM_in ⟨h3, h4⟩]
  refine ⟨by omega, ?_, by omega⟩
  rw [bareM_parts]; rfl
theorem enB_rdL (t : List UInt8) (g : Int) : ∀ n, 14 + 16 * n ≤ t.length → (∀ k, k < n → 0 ≤ (rdE t k).1 ∧ 0 ≤ (rdE t k).2) → enB (rdL t n) = (t.drop 14).take (16 * n)
  | 0, _, _ => rfl
  | n + 1, h, hp => by
    have p := hp n (Nat.lt_succ_self n)
    have q : (256 : Nat) ^ 8 = 18446744073709551616 := by decide
    have l1 := nAt_lt t (14 + 16 * n) 8 (by omega)
    have l2 := nAt_lt t (22 + 16 * n) 8 (by omega)
    rw [q] at l1 l2
    have e1 : (rdE t n).1.toNat = nAt t (14 + 16 * n) 8 := sgn_back l1 p.1
    have e2 : (rdE t n).2.toNat = nAt t (22 + 16 * n) 8 := sgn_back l2 p.2
    rw [rdL, enB_append, enB_rdL t g n (by omega) (fun k hk => hp k (by omega)), enB, enB, List.append_nil, e1, e2, fix_nAt t _ 8 (by omega), fix_nAt t _ 8 (by omega)]
    rw [show 16 * (n + 1) = 16 * n + (8 + 8) by omega, List.take_add, List.take_add, List.drop_drop, List.drop_drop]
    rw [show 14 + 16 * n + 8 = 22 + 16 * n by omega]
theorem okM_back {t : List UInt8} (h : okM t = true) : t = bareM (rdG t) (rdL t (rdN t)) := by
  unfold okM at h
  rw [Bool.and_eq_true, decide_eq_true_iff] at h
  obtain ⟨⟨h1, h2, h3⟩, hm⟩ := h
  obtain ⟨m1, m2, m3, m4, m5⟩ := mayM_parts hm
  have hl := rdL_length t (rdN t)
  rw [hl] at m3 m4
  rw [szM_in ⟨m3, m4⟩] at h3
  have q8 : (256 : Nat) ^ 8 = 18446744073709551616 := by decide
  have l1 := nAt_lt t 4 8 (by omega)
  rw [q8] at l1
  have e1 : (rdG t).toNat = nAt t 4 8 := sgn_back l1 m1
  have e3 := enB_rdL t 0 (rdN t) (by omega) (fun k hk => by
    have := m5 k (by rw [hl]; exact hk)
    rw [rdL_at] at this
    exact ⟨this.1, this.2.2.1⟩)
  rw [bareM_parts, hl, e1, e3, fix_nAt t 4 8 (by omega), show fixB 2 (rdN t) = (t.drop 12).take 2 from fix_nAt t 12 2 (by omega), ← h2]
  have e4 : (t.drop 14).take (16 * rdN t) = t.drop 14 := List.take_of_length_le (by rw [List.length_drop]; omega)
  rw [e4]
  have a1 : (t.drop 12).take 2 ++ t.drop 14 = t.drop 12 := by
    have := List.take_append_drop 2 (t.drop 12); rw [List.drop_drop] at this; exact this
  have a2 : (t.drop 4).take 8 ++ t.drop 12 = t.drop 4 := by
    have := List.take_append_drop 8 (t.drop 4); rw [List.drop_drop] at this; exact this
  rw [a1, a2, List.take_append_drop]
/-! ### what the Reader reads -/
theorem fxV_nAt (T : ByteArray) (i k : Nat) (h : i + k ≤ T.size) : fxV T i 0 k = nAt T.data.toList i k := by
  unfold fxV tkT nAt
  rw [if_pos ⟨rfl, h⟩, Lib.extract_data, show i + k - i = k by omega]
theorem tk_good (T : ByteArray) (i k : Nat) (h : i + k ≤ T.size) : tkI T i 0 k = i + k ∧ tkE T i 0 k = 0 := by
  unfold tkI tkE
  rw [if_pos ⟨rfl, h⟩, if_pos rfl, if_pos h]; exact ⟨rfl, rfl⟩
/-- a manifest's number, or 0 where the bytes end ahead of it -/
def cnM (T : ByteArray) : Nat := fxV T (tkI T (tkI T 0 0 4) (tkE T 0 0 4) 8) (tkE T (tkI T 0 0 4) (tkE T 0 0 4) 8) 2
theorem cnM_good (T : ByteArray) (h : 14 ≤ T.size) : cnM T = rdN T.data.toList := by
  unfold cnM
  obtain ⟨a1, a2⟩ := tk_good T 0 4 (by omega)
  rw [a1, a2]
  obtain ⟨a3, a4⟩ := tk_good T 4 8 (by omega)
  rw [show 0 + 4 = 4 from rfl, a3, a4, fxV_nAt T 12 2 (by omega)]; rfl
theorem cnM_lt (T : ByteArray) : cnM T < 65536 := Wire.fxV_lt _ _ _ 2
end Go.Proofs.YticfnfekkmkclaaGreatDoor.Manif

/-
  Manifests: Read.
-/
namespace Go.Proofs.YticfnfekkmkclaaGreatDoor.Manif
open Go Go.RowKit
open Go.Proofs.YticfnfekkmkclaaGreatDoor.Wire (S S_list S_size cell_row frozen_row row_lt heap_set heap_far U Rd Step fxV tkT tkI tkE new_any rraw_any ru16_any grown_below grown_trans grown_refl grown_drewN rdS)
open Go.Proofs.YticfnfekkmkclaaGreatDoor.Crc (open_any fourL ofW)

/-- a manifest that is stored, where it lies -/
theorem mset {W : World} {b : Nat} {x y : Value} {t : TypeId} (h : W.heap[b]? = some (.cells #[x, y] t (0, 0))) (g v : Value) :
    W.cell? ⟨b, 0, none⟩ = some x ∧ W.frozen? ⟨b, 0, none⟩ = false ∧ (W.setCell ⟨b, 0, none⟩ g).cell? ⟨b, 1, none⟩ = some y ∧ (W.setCell ⟨b, 0, none⟩ g).frozen? ⟨b, 1, none⟩ = false ∧
      ((W.setCell ⟨b, 0, none⟩ g).setCell ⟨b, 1, none⟩ v).cell? ⟨b, 0, none⟩ = some g ∧ ((W.setCell ⟨b, 0, none⟩ g).setCell ⟨b, 1, none⟩ v).cell? ⟨b, 1, none⟩ = some v ∧
      ((W.setCell ⟨b, 0, none⟩ g).setCell ⟨b, 1, none⟩ v).heap[b]? = some (.cells #[g, v] t (0, 0)) := by
  have h5 := heap_set h 0 g
  have h6 := heap_set h5 1 v
  exact ⟨cell_row h 0, frozen_row h 0, cell_row h5 1, frozen_row h5 1, cell_row h6 0, cell_row h6 1, h6⟩
/-- what Read tells: the error, the generation, the segments -/
def rdM (L : List UInt8) : Nat × Int × List (Int × Int) :=
  if L.length < 4 then (8, 0, [])
  else if L.drop (L.length - 4) = fourL (ofW (L.take (L.length - 4))) then
    (if okM (L.take (L.length - 4)) = true then (0, rdG (L.take (L.length - 4)), rdL (L.take (L.length - 4)) (rdN (L.take (L.length - 4)))) else (4, 0, []))
  else (42, 0, [])
def ReadRes (w : World) (r : Nat × Int × List (Int × Int)) (z : Ending) (w' : World) : Prop :=
  ∃ v, z = .returned (.tuple #[.agg #[.int .i64 r.2.1, v], .int .i64 (r.1 : Int)]) ∧ OwnE w' w.heap.size v r.2.2 ∧ Below w.heap.size w w'
theorem entry_good (t : List UInt8) (r j : Nat) (h : 14 + 16 * (j + 1) ≤ t.length) (hs : t.length ≤ 1000000000000) (W : World) (hr : Rd W r (S t) (14 + 16 * j) 0) :
    Calls Tryz.prog 68 #[.pointer (some ⟨r, 0, none⟩)] W fun x w' => x = .returned (.agg #[.int .i64 (rdE t j).1, .int .i64 (rdE t j).2]) ∧ Step W w' r (S t) (14 + 16 * (j + 1)) 0 := by
  have hz : (S t).size = t.length := S_size t
  obtain ⟨a1, a2⟩ := tk_good (S t) (14 + 16 * j) 8 (by omega)
  obtain ⟨a3, a4⟩ := tk_good (S t) (14 + 16 * j + 8) 8 (by omega)
  have h1 : enG (S t) (14 + 16 * j) 0 = (rdE t j).1 := by unfold enG rdE; rw [fxV_nAt _ _ _ (by omega)]; rfl
  have h2 : enF (S t) (14 + 16 * j) 0 = (rdE t j).2 := by unfold enF rdE; rw [a1, a2, fxV_nAt _ _ _ (by omega), show 14 + 16 * j + 8 = 22 + 16 * j by omega]; rfl
  refine (entry_any r (S t) (14 + 16 * j) 0 W hr (by omega) (by omega)).mono ?_
  rintro x w' ⟨rfl, hst⟩
  rw [h1, h2]
  rw [a1, a2, a3, a4] at hst
  exact ⟨rfl, hst⟩
set_option maxRecDepth 100000 in
set_option maxHeartbeats 4000000 in
/-- **Read** of what is not sealed -/
theorem Read_err (L : List UInt8) (hL : L.length ≤ 1000000000) (w : World) (k : Nat) (hk : k ≠ 0)
    (HO : ∀ W, Calls Tryz.prog 63 #[.string (S L)] W fun e w' => e = .returned (.tuple #[.string (S []), .int .i64 (k : Int)]) ∧ Below W.heap.size W w') :
    Calls Tryz.prog 17 #[.string (S L)] w (ReadRes w (k, 0, [])) := by
  obtain ⟨w0, hw0⟩ : ∃ w0, w.alloc (.cells #[.int .i64 0, .slice none 0 0] 25) = w0 := ⟨_, rfl⟩
  have hb0 : Below w.heap.size w w0 := by rw [← hw0]; exact (Below.refl _ _).alloc (Nat.le_refl _) _
  have he0 : w0.heap[w.heap.size]? = some (.cells #[.int .i64 0, .slice none 0 0] 25 (0, 0)) := by rw [← hw0]; exact heap_alloc_new w _
  have HB0 := Lib.hid hb0
  have HE0 := Lib.hid he0
  have HOP := Lib.hid (HO w0)
  have HK := Lib.hid hk
  have k1 : ((k : Int) == 0) = false := beq_eq_false_iff_ne.2 (by omega)
  have k2 : ¬ (k : Int) = 0 := by omega
  clear hb0 he0 HO hL hk
  go_enter Tryz.func17, Tryz.ntmps17
  go_wp2_with fail
  refine HOP.out.mono ?_
  rintro e w1 ⟨rfl, hb⟩
  have HB1 := Lib.hid (HB0.out.trans (hb.mono HB0.out.size))
  have he1 := (hb.block _ (row_lt HE0.out)).trans HE0.out
  obtain ⟨b0, f0, b1, f1, d0, d1, -⟩ := mset he1 (.int .i64 0) (.slice none 0 0)
  have HBF := Lib.hid ((HB1.out.setCell (p := ⟨w.heap.size, 0, none⟩) (Nat.le_refl _) (.int .i64 0)).setCell (p := ⟨w.heap.size, 1, none⟩) (Nat.le_refl _) (.slice none 0 0))
  clear hb he1
  go_wp2_with fail
  refine bodyPost_ret (v := .tuple #[.agg #[.int .i64 0, .slice none 0 0], .int .i64 (k : Int)]) (by simp [results, Tryz.results17, go_sem, d0, d1]) rfl ⟨_, rfl, OwnE.nil _ _, HBF.out⟩
/-- a call within a region whose order is drawn -/
theorem step_call {P : Program} {ops : Array Oper} {o : Oper} {a : Act} {w : World} {K : Act → World → Prop} {Q : Exit → Act → World → Prop} {X : Prop} {f : FuncId} {args : Array Value} {R : Value → World → Prop}
    (hw : Region.wanted o (yielded ops a.tmps) = true) (hrun : (execOp a.eval o).run P w = .ok (.enter f args) w) (hc : Calls P f args w fun e w' => ∃ v, e = .returned v ∧ R v w') (hK : ∀ v w', R v w' → K (a.put o.dst v) w') :
    if Region.wanted o (yielded ops a.tmps) = true then Oper.wp P o a w K Q else X := by
  rw [if_pos hw]
  unfold Oper.wp
  rw [hrun, Oper.upon_enter]
  refine hc.mono ?_
  rintro e w' ⟨v, rfl, h⟩
  exact hK v w' h
/-- a manifest that is made -/
theorem mnew (w : World) (g v : Value) :
    Below w.heap.size w (((w.alloc (.cells #[.int .i64 0, .slice none 0 0] 25)).setCell ⟨w.heap.size, 0, none⟩ g).setCell ⟨w.heap.size, 1, none⟩ v) ∧
      (((w.alloc (.cells #[.int .i64 0, .slice none 0 0] 25)).setCell ⟨w.heap.size, 0, none⟩ g).setCell ⟨w.heap.size, 1, none⟩ v).heap[w.heap.size]? = some (.cells #[g, v] 25 (0, 0)) :=
  ⟨(((Below.refl w.heap.size w).alloc (Nat.le_refl _) _).setCell (p := ⟨w.heap.size, 0, none⟩) (Nat.le_refl _) g).setCell (p := ⟨w.heap.size, 1, none⟩) (Nat.le_refl _) v, heap_set (heap_set (heap_alloc_new w _) 0 g) 1 v⟩
/-- what the reading of a head comes to -/
theorem head_good {t : List UInt8} {n cn i1 e1 i2 e2 i3 e3 : Nat} {X : ByteArray} {G : Int} (hn : n = t.length + 4) (hX : tkT (S t) 0 0 4 = X) (hi1 : tkI (S t) 0 0 4 = i1) (he1 : tkE (S t) 0 0 4 = e1) (hi2 : tkI (S t) i1 e1 8 = i2) (he2 : tkE (S t) i1 e1 8 = e2)
    (hG : sgn (fxV (S t) i1 e1 8) = G) (hcn : fxV (S t) i2 e2 2 = cn) (hi3 : tkI (S t) i2 e2 2 = i3) (he3 : tkE (S t) i2 e2 2 = e3) :
    (X = ⟨#[109, 97, 110, 49]⟩ → (n : Int) = szM (cn : Int) → 14 + 16 * cn = t.length ∧ (1 ≤ cn ∧ cn ≤ 64) ∧ G = rdG t ∧ cn = rdN t ∧ i3 = 14 ∧ e3 = 0 ∧ (okM t = mayM (rdG t) (rdL t (rdN t)))) ∧ (¬ (X = ⟨#[109, 97, 110, 49]⟩ ∧ (n : Int) = szM (cn : Int)) → okM t = false) := by
  have hz : (S t).size = t.length := S_size t
  have key : 14 ≤ t.length → X = S (t.take 4) ∧ G = rdG t ∧ cn = rdN t ∧ i3 = 14 ∧ e3 = 0 := by
    intro h
    obtain ⟨a1, a2⟩ := tk_good (S t) 0 4 (by omega)
    rw [hi1] at a1; rw [he1] at a2
    subst a1 a2
    obtain ⟨a3, a4⟩ := tk_good (S t) (0 + 4) 8 (by omega)
    rw [hi2] at a3; rw [he2] at a4
    subst a3 a4
    obtain ⟨a5, a6⟩ := tk_good (S t) (0 + 4 + 8) 2 (by omega)
    rw [hi3] at a5; rw [he3] at a6
    refine ⟨?_, ?_, ?_, a5, a6⟩
    · rw [← hX]; unfold tkT
      rw [if_pos ⟨rfl, by omega⟩]
      apply ByteArray.ext
      apply Array.toList_inj.1
      rw [Lib.extract_data]; rfl
    · rw [← hG, fxV_nAt _ _ _ (by omega)]; rfl
    · rw [← hcn, fxV_nAt _ _ _ (by omega)]; rfl
  have hw : S (t.take 4) = ⟨#[109, 97, 110, 49]⟩ ↔ t.take 4 = word := ⟨fun h => by have := congrArg (fun x : ByteArray => x.data.toList) h; exact this, fun h => by rw [h]; rfl⟩
  refine ⟨fun h1 h2 => ?_, fun h => ?_⟩
  · have h3 : 1 ≤ cn ∧ cn ≤ 64 := by
      have h4 : ¬ szM (cn : Int) = 0 := by omega
      rw [szM_zero] at h4; omega
    rw [szM_in h3] at h2
    obtain ⟨k1, k2, k3, k4, k5⟩ := key (by omega)
    refine ⟨by omega, h3, k2, k3, k4, k5, ?_⟩
    rw [h1] at k1
    unfold okM
    rw [decide_eq_true ⟨by omega, hw.1 k1.symm, by rw [← k3, szM_in h3]; omega⟩, Bool.true_and]
  · cases hk : okM t with
    | false => rfl
    | true =>
      unfold okM at hk
      rw [Bool.and_eq_true, decide_eq_true_iff] at hk
      obtain ⟨⟨m1, m2, m3⟩, -⟩ := hk
      obtain ⟨k1, k2, k3, k4, k5⟩ := key m1
      exact absurd ⟨k1.trans (hw.2 m2), by rw [k3, ← m3, hn]⟩ h
set_option maxRecDepth 100000 in
set_option maxHeartbeats 4000000 in
/-- **Read** of what is sealed -/
theorem Read_open (L t : List UInt8) (hLt : L.length = t.length + 4) (hL : L.length ≤ 1000000000) (w : World)
    (HO : ∀ W, Calls Tryz.prog 63 #[.string (S L)] W fun e w' => e = .returned (.tuple #[.string (S t), .int .i64 0]) ∧ Below W.heap.size W w') :
    Calls Tryz.prog 17 #[.string (S L)] w (ReadRes w (if okM t = true then (0, rdG t, rdL t (rdN t)) else (4, 0, []))) := by
  obtain ⟨w0, hw0⟩ : ∃ w0, w.alloc (.cells #[.int .i64 0, .slice none 0 0] 25) = w0 := ⟨_, rfl⟩
  have hb0 : Below w.heap.size w w0 := by rw [← hw0]; exact (Below.refl _ _).alloc (Nat.le_refl _) _
  have hq0 : w0.heap[w.heap.size]? = some (.cells #[.int .i64 0, .slice none 0 0] 25 (0, 0)) := by rw [← hw0]; exact heap_alloc_new w _
  have hz : (S L).size = L.length := S_size L
  have hzt : (S t).size = t.length := S_size t
  obtain ⟨X, hX⟩ : ∃ x, tkT (S t) 0 0 4 = x := ⟨_, rfl⟩
  obtain ⟨i1, hi1⟩ : ∃ x, tkI (S t) 0 0 4 = x := ⟨_, rfl⟩
  obtain ⟨e1, he1⟩ : ∃ x, tkE (S t) 0 0 4 = x := ⟨_, rfl⟩
  obtain ⟨i2, hi2⟩ : ∃ x, tkI (S t) i1 e1 8 = x := ⟨_, rfl⟩
  obtain ⟨e2, he2⟩ : ∃ x, tkE (S t) i1 e1 8 = x := ⟨_, rfl⟩
  obtain ⟨G, hG⟩ : ∃ x, sgn (fxV (S t) i1 e1 8) = x := ⟨_, rfl⟩
  obtain ⟨cn, hcn⟩ : ∃ x, fxV (S t) i2 e2 2 = x := ⟨_, rfl⟩
  obtain ⟨i3, hi3⟩ : ∃ x, tkI (S t) i2 e2 2 = x := ⟨_, rfl⟩
  obtain ⟨e3, he3⟩ : ∃ x, tkE (S t) i2 e2 2 = x := ⟨_, rfl⟩
  have hle1 : i1 ≤ (S t).size := by rw [← hi1]; exact tkI_le _ _ _ _ (Nat.zero_le _)
  have hle2 : i2 ≤ (S t).size := by rw [← hi2]; exact tkI_le _ _ _ _ hle1
  have hcl : cn < 65536 := by rw [← hcn]; exact Wire.fxV_lt _ _ _ 2
  have HRAW : Hid (∀ r W, Rd W r (S t) 0 0 → Calls Tryz.prog 65 #[.pointer (some ⟨r, 0, none⟩), .int .i64 4] W fun x w' => x = .returned (.string X) ∧ Step W w' r (S t) i1 e1) := Lib.hid (fun r W h => by
    have := rraw_any r (S t) 0 0 4 W h (Nat.zero_le _) (by omega)
    rw [show (4 : Int).toNat = 4 from rfl, hX, hi1, he1] at this
    exact this)
  have HNUM : Hid (∀ r W, Rd W r (S t) i1 e1 → Calls Tryz.prog 66 #[.pointer (some ⟨r, 0, none⟩)] W fun x w' => x = .returned (.int .i64 G) ∧ Step W w' r (S t) i2 e2) := Lib.hid (fun r W h => by
    have := number_any r (S t) i1 e1 W h hle1 (by omega)
    rw [hG, hi2, he2] at this
    exact this)
  have HU16 : Hid (∀ r W, Rd W r (S t) i2 e2 → Calls Tryz.prog 67 #[.pointer (some ⟨r, 0, none⟩)] W fun x w' => x = .returned (.int .u16 (U cn)) ∧ Step W w' r (S t) i3 e3) := Lib.hid (fun r W h => by
    have := ru16_any r (S t) i2 e2 W h hle2 (by omega)
    rw [hcn, hi3, he3] at this
    exact this)
  have HH := Lib.hid (head_good hLt hX hi1 he1 hi2 he2 hG hcn hi3 he3)
  have HSZ := Lib.hid (fun W => Size_any (cn : Int) W)
  have HZT := Lib.hid hzt
  have HCL := Lib.hid hcl
  have HL := Lib.hid hL
  have HLT := Lib.hid hLt
  have HC1 := Lib.hid (show IntKind.i64.wrap (U cn) = (cn : Int) from IntWalk.i64_in _ (by unfold U; omega))
  have HC2 := Lib.hid (show wrap64 (U cn) = (cn : Int) from IntWalk.wrap64_in _ (by unfold U; omega))
  have HB0 := Lib.hid hb0
  have HE0 := Lib.hid hq0
  have HOP := Lib.hid (HO w0)
  clear hb0 hq0 HO hL hLt hX hi1 he1 hi2 he2 hG hcn hi3 he3 hle1 hle2 hcl hzt
  obtain ⟨T, hT⟩ : ∃ T, S t = T := ⟨_, rfl⟩
  have HT := Lib.hid hT
  rw [hT] at HRAW HNUM HU16 HOP
  obtain ⟨SL, hSL⟩ : ∃ T, S L = T := ⟨_, rfl⟩
  rw [hSL] at HOP hz ⊢
  clear hT hSL
  obtain ⟨nL, hnL⟩ : ∃ n, L.length = n := ⟨_, rfl⟩
  rw [hnL] at HH hz HLT HL
  clear hnL
  obtain ⟨RV, hRV⟩ : ∃ r, (if okM t = true then (0, rdG t, rdL t (rdN t)) else (4, 0, [])) = r := ⟨_, rfl⟩
  have HRV := Lib.hid hRV
  rw [hRV]
  clear hRV
  go_enter Tryz.func17, Tryz.ntmps17
  go_wp2_with fail
  refine HOP.out.mono ?_
  rintro e w1 ⟨rfl, hb⟩
  have HB1 := Lib.hid (HB0.out.trans (hb.mono HB0.out.size))
  have HE1 := Lib.hid ((hb.block _ (row_lt HE0.out)).trans HE0.out)
  clear hb
  go_wp2_with fail
  refine (new_any T w1).mono ?_
  rintro e w2 ⟨rfl, rfl⟩
  have hr2 := Wire.Rd.new T w1
  have hb2 : Below w1.heap.size w1 (w1.alloc (.cells (rdS T 0 0) 155)) := (Below.refl _ _).alloc (Nat.le_refl _) _
  have HB2 := Lib.hid (HB1.out.trans (hb2.mono HB1.out.size))
  have HE2 := Lib.hid ((hb2.block _ (row_lt HE1.out)).trans HE1.out)
  have HR2 := Lib.hid hr2
  have HLR := Lib.hid (row_lt HE1.out)
  clear hr2 hb2
  generalize (w1.alloc (.cells (rdS T 0 0) 155)) = w2 at *
  obtain ⟨r, hr⟩ : ∃ r, w1.heap.size = r := ⟨_, rfl⟩
  rw [hr] at HR2 HLR
  rw [hr]
  clear hr
  go_wp2_with fail
  refine (HRAW.out r w2 HR2.out).mono ?_
  rintro e w3 ⟨rfl, hst⟩
  have HS3 := Lib.hid hst
  have HE3 := Lib.hid ((hst.2.block w.heap.size (row_lt HE2.out) (fun h => by injection h with h; have := HLR.out; omega)).trans HE2.out)
  clear hst
  obtain ⟨bg, hbg⟩ : ∃ b, decide (X = ⟨#[109, 97, 110, 49]⟩) = b := ⟨_, rfl⟩
  have hkx : (X.toList == [109, 97, 110, 49]) = bg := by
    rw [← hbg]
    by_cases h : X = ⟨#[109, 97, 110, 49]⟩
    · rw [decide_eq_true h, h, ByteArray.toList_eq]; rfl
    · rw [decide_eq_false h]
      exact beq_eq_false_iff_ne.2 (fun e => h (ByteArray.ext (Array.toList_inj.1 (by rw [ByteArray.toList_eq] at e; exact e))))
  have kx : (X.toList == (⟨#[109, 97, 110, 49]⟩ : ByteArray).toList) = bg := by rw [ByteArray.toList_eq ⟨#[109, 97, 110, 49]⟩]; exact hkx
  have HBG := Lib.hid hbg
  clear hbg
  go_wp2_with fail
  refine (HNUM.out r w3 HS3.out.1).mono ?_
  rintro e w4 ⟨rfl, hst⟩
  have HR4 := Lib.hid hst.1
  have HE4 := Lib.hid ((hst.2.block w.heap.size (row_lt HE3.out) (fun h => by injection h with h; have := HLR.out; omega)).trans HE3.out)
  have HB4 := Lib.hid (show Below w.heap.size w w4 from HB2.out.grown (grown_trans HS3.out.2 hst.2) HB2.out.size (fun k hk => by injection hk with hk; have := HLR.out; omega))
  clear hst kx hkx
  obtain ⟨hb5, hm5⟩ := mnew w4 (.int .i64 G) (.slice none 0 0)
  obtain ⟨W4, hW4⟩ : ∃ W, w4.alloc (.cells #[.int .i64 0, .slice none 0 0] 25) = W := ⟨_, rfl⟩
  have ha4 : W4.heap[w4.heap.size]? = some (.cells #[.int .i64 0, .slice none 0 0] 25 (0, 0)) := by rw [← hW4]; exact heap_alloc_new w4 _
  rw [hW4] at hb5 hm5
  obtain ⟨b0, f0, b1, f1, d0, d1, -⟩ := mset ha4 (.int .i64 G) (.slice none 0 0)
  have HR5 := Lib.hid (show Rd _ r T i2 e2 from (hb5.block _ (row_lt HR4.out)).trans HR4.out)
  have HE5 := Lib.hid ((hb5.block _ (row_lt HE4.out)).trans HE4.out)
  have HB5 := Lib.hid (HB4.out.trans (hb5.mono HB4.out.size))
  have HM5 := Lib.hid hm5
  have HLM := Lib.hid (row_lt HR4.out)
  obtain ⟨M, hM⟩ : ∃ m, w4.heap.size = m := ⟨_, rfl⟩
  rw [hM] at b0 f0 b1 f1 d0 d1 HM5 HR5 HE5 HB5 HLM
  clear hb5 hm5 ha4
  go_wp2_with fail
  refine (HU16.out r _ HR5.out).mono ?_
  rintro e w6 ⟨rfl, hst⟩
  have HR6 := Lib.hid hst.1
  have HE6 := Lib.hid ((hst.2.block w.heap.size (row_lt HE5.out) (fun h => by injection h with h; have := HLR.out; omega)).trans HE5.out)
  have HM6 := Lib.hid ((hst.2.block M (row_lt HM5.out) (fun h => by injection h with h; have := HLM.out; omega)).trans HM5.out)
  have HB6 := Lib.hid (HB5.out.grown hst.2 HB5.out.size (fun k hk => by injection hk with hk; have := HLR.out; omega))
  have hc1 := HC1.out
  have hc2 := HC2.out
  clear hst b0 f0 b1 f1 d0 d1 hW4
  cases bg with
  | false =>
    have HRF := Lib.hid (show RV = (4, 0, []) by rw [← HRV.out, HH.out.2 (fun h => of_decide_eq_false HBG.out h.1)]; rfl)
    obtain ⟨b0, f0, b1, f1, d0, d1, -⟩ := mset HE6.out (.int .i64 0) (.slice none 0 0)
    have HBF := Lib.hid ((HB6.out.setCell (p := ⟨w.heap.size, 0, none⟩) (Nat.le_refl _) (.int .i64 0)).setCell (p := ⟨w.heap.size, 1, none⟩) (Nat.le_refl _) (.slice none 0 0))
    go_wp2_with fail
    refine bodyPost_ret (v := .tuple #[.agg #[.int .i64 0, .slice none 0 0], .int .i64 4]) (by simp [results, Tryz.results17, go_sem, d0, d1]) rfl ?_
    rw [HRF.out]
    exact ⟨_, rfl, OwnE.nil _ _, HBF.out⟩
  | true =>
    go_wp2_with fail
    refine (HSZ.out w6).mono ?_
    rintro e w7 ⟨rfl, rfl⟩
    clear hc1 hc2
    by_cases hsz : (nL : Int) = szM (cn : Int)
    case neg =>
      have HRF := Lib.hid (show RV = (4, 0, []) by rw [← HRV.out, HH.out.2 (fun h => hsz h.2)]; rfl)
      have k1 : ((nL : Int) == szM (cn : Int)) = false := beq_eq_false_iff_ne.2 hsz
      obtain ⟨b0, f0, b1, f1, d0, d1, -⟩ := mset HE6.out (.int .i64 0) (.slice none 0 0)
      have HBF := Lib.hid ((HB6.out.setCell (p := ⟨w.heap.size, 0, none⟩) (Nat.le_refl _) (.int .i64 0)).setCell (p := ⟨w.heap.size, 1, none⟩) (Nat.le_refl _) (.slice none 0 0))
      generalize szM (cn : Int) = Z at *
      go_wp2_with fail
      refine bodyPost_ret (v := .tuple #[.agg #[.int .i64 0, .slice none 0 0], .int .i64 4]) (by simp [results, Tryz.results17, go_sem, d0, d1]) rfl ?_
      rw [HRF.out]
      exact ⟨_, rfl, OwnE.nil _ _, HBF.out⟩
    have HG := Lib.hid (HH.out.1 (of_decide_eq_true HBG.out) hsz)
    rw [← hsz]
    have hgq := HG.out
    obtain ⟨g1, g2, g3, g4, g5, g6, g7⟩ := hgq
    rw [g5, g6] at HR6
    have HEN : Hid (∀ j, j < cn → ∀ W, Rd W r T (14 + 16 * j) 0 → Calls Tryz.prog 68 #[.pointer (some ⟨r, 0, none⟩)] W fun x w' => x = .returned (.agg #[.int .i64 (rdE t j).1, .int .i64 (rdE t j).2]) ∧ Step W w' r T (14 + 16 * (j + 1)) 0) := Lib.hid (fun j hj W h => by
      have := entry_good t r j (by omega) (by have := HL.out; have := HLT.out; omega) W (by rw [HT.out]; exact h)
      rw [HT.out] at this
      exact this)
    have HCN := Lib.hid g2
    clear g1 g2 g3 g4 g5 g6 g7
    clear hsz
    go_wp2_with fail
    go_loopw [41] (fun y wr => ∃ j : Nat, j ≤ cn ∧ y = .int .i64 (j : Int) ∧ Hid (∃ v, wr.heap[M]? = some (.cells #[.int .i64 G, v] 25 (0, 0)) ∧ OwnE wr (M + 1) v (rdL t j)) ∧ Hid (Rd wr r T (14 + 16 * j) 0) ∧ Hid (wr.heap[w.heap.size]? = some (.cells #[.int .i64 0, .slice none 0 0] 25 (0, 0))) ∧ Hid (Below w.heap.size w wr)) (fun y _ => cn - (intOf y).toNat)
    case atStart => exact ⟨0, Nat.zero_le _, rfl, Lib.hid ⟨_, HM6.out, OwnE.nil _ _⟩, HR6, HE6, HB6⟩
    case round =>
      clear HM6 HR6 HE6 HB6
      obtain ⟨j, hj, rfl, HM, HR, HE, HB⟩ := hrel
      obtain ⟨v, hm, ho⟩ := HM.out
      have HMX := Lib.hid hm
      have HO := Lib.hid ho
      clear HM
      by_cases hlt : j < cn
      · have e1 : decide ((j : Int) < (cn : Int)) = true := decide_eq_true (by omega)
        have HLTJ := Lib.hid hlt
        have HI1 := Lib.hid (show wrap64 ((j : Int) + 1) = (j : Int) + 1 from IntWalk.wrap64_in _ ⟨by omega, by have := HCN.out; omega⟩)
        have HEJ := Lib.hid (HEN.out j hlt)
        have HLJ := Lib.hid (rdL_length t j)
        have c1 : wr.cell? ⟨M, 1, none⟩ = some v := cell_row hm 1
        obtain ⟨y1, hy1⟩ : ∃ a, (rdE t j).1 = a := ⟨_, rfl⟩
        obtain ⟨y2, hy2⟩ : ∃ a, (rdE t j).2 = a := ⟨_, rfl⟩
        have HY := Lib.hid (show rdL t (j + 1) = rdL t j ++ [(y1, y2)] by rw [rdL, ← hy1, ← hy2])
        rw [hy1, hy2] at HEJ
        have HMZ := Lib.hid (row_lt hm)
        clear hm ho hj hlt hy1 hy2
        go_wp2_with fail
        have HEC : Hid (∀ n, Calls Tryz.prog 68 #[.pointer (some ⟨r, 0, none⟩)] (wr.drewN n) fun e w' => ∃ u, e = .returned u ∧ (u = .agg #[.int .i64 y1, .int .i64 y2] ∧ Step wr w' r T (14 + 16 * (j + 1)) 0)) := Lib.hid (fun n => (HEJ.out (wr.drewN n) (Rd.below HR.out ⟨rfl, rfl, rfl, Nat.le_refl _, fun _ _ => rfl⟩)).mono fun e w' ⟨h1, h2⟩ => ⟨_, h1, rfl, h2.1, grown_trans (grown_drewN (grown_refl wr r) n) h2.2⟩)
        have HJ6 := Lib.hid (show (rdL t j).length ≤ 1000000 by rw [HLJ.out]; have := HCN.out; have := HLTJ.out; omega)
        have HKS : Hid (∀ (w5 : World), Step wr w5 r T (14 + 16 * (j + 1)) 0 → (w5.alloc (.cells (enC (y1, y2)).toArray 27)).heap[M]? = some (.cells #[.int .i64 G, v] 25 (0, 0)) ∧ OwnE (w5.alloc (.cells (enC (y1, y2)).toArray 27)) (M + 1) v (rdL t j) ∧ Rd (w5.alloc (.cells (enC (y1, y2)).toArray 27)) r T (14 + 16 * (j + 1)) 0 ∧
            (w5.alloc (.cells (enC (y1, y2)).toArray 27)).heap[w.heap.size]? = some (.cells #[.int .i64 0, .slice none 0 0] 25 (0, 0)) ∧ Below w.heap.size w (w5.alloc (.cells (enC (y1, y2)).toArray 27)) ∧ M + 1 ≤ (w5.alloc (.cells (enC (y1, y2)).toArray 27)).heap.size ∧ w5.cell? ⟨M, 1, none⟩ = some v) := Lib.hid (fun w5 hst => by
          have hal : Below w5.heap.size w5 (w5.alloc (.cells (enC (y1, y2)).toArray 27)) := (Below.refl _ _).alloc (Nat.le_refl _) _
          have h1 := (hst.2.block M HMZ.out (fun h => by injection h with h; have := HLM.out; omega)).trans HMX.out
          have h2 : OwnE w5 (M + 1) v (rdL t j) := HO.out.keep (fun g hg => hst.2.block g (HO.out.lt g hg).1 (fun h => by injection h with h; have := HLM.out; have := (HO.out.lt g hg).2; omega))
          have h4 := (hst.2.block w.heap.size (row_lt HE.out) (fun h => by injection h with h; have := HLR.out; omega)).trans HE.out
          have h5 : Below w.heap.size w w5 := HB.out.grown hst.2 HB.out.size (fun k hk => by injection hk with hk; have := HLR.out; omega)
          exact ⟨(hal.block _ (row_lt h1)).trans h1, h2.below hal, (hal.block _ (row_lt hst.1)).trans hst.1, (hal.block _ (row_lt h4)).trans h4, h5.trans (hal.mono h5.size), Nat.le_trans (row_lt h1) hal.size, cell_row h1 1⟩)
        have HKA : Hid (∀ (w5 w6 : World), Step wr w5 r T (14 + 16 * (j + 1)) 0 → (w5.alloc (.cells (enC (y1, y2)).toArray 27)).grownBy w6 v.ownBlock → w6.heap[M]? = some (.cells #[.int .i64 G, v] 25 (0, 0)) ∧ Rd w6 r T (14 + 16 * (j + 1)) 0 ∧ w6.heap[w.heap.size]? = some (.cells #[.int .i64 0, .slice none 0 0] 25 (0, 0)) ∧ Below w.heap.size w w6) := Lib.hid (fun w5 w6 hst hgr => by
          obtain ⟨a1, a2, a3, a4, a5, a6, -⟩ := HKS.out w5 hst
          have hl1 := HLM.out
          have hl2 := HLR.out
          have hne : ∀ k, k ≤ M → some k ≠ v.ownBlock := fun k hk e => by have := (a2.lt k e.symm).2; omega
          exact ⟨(hgr.block M (row_lt a1) (hne M (Nat.le_refl _))).trans a1, (hgr.block r (row_lt a3) (hne r (by omega))).trans a3, (hgr.block w.heap.size (row_lt a4) (hne _ (by omega))).trans a4, a5.grown hgr a5.size (fun k hk => by have := (a2.lt k hk).2; omega)⟩)
        go_region_law (first
          | (refine step_call (f := 68) (args := #[.pointer (some ⟨r, 0, none⟩)]) (by rfl) (by go_simp) (HEC.out _) ?_; rintro u w5 ⟨rfl, hst⟩; (have HST := Lib.hid hst); (have c5 : w5.cell? ⟨M, 1, none⟩ = some v := (HKS.out w5 hst).2.2.2.2.2.2); (have c7 : (w5.alloc (.cells #[.int .i64 y1, .int .i64 y2] 27)).cell? ⟨M, 1, none⟩ = some v := cell_row (HKS.out w5 hst).1 1); clear hst)
          | (refine step_append_e (by rfl) (.tmp 44) (.tmp 47) (by rfl) (M + 1) v (rdL t j) (by rfl) (HKS.out w5 HST.out).2.1 w5.heap.size 1 (y1, y2) (by rfl) (heap_alloc_new w5 _) HJ6.out (HKS.out w5 HST.out).2.2.2.2.2.1 ?_; intro v' w6 hown hgr; (have HOW := Lib.hid hown); (have HGR := Lib.hid (HKA.out w5 w6 HST.out hgr)); obtain ⟨A4, c4, rfl, -, -, -, -⟩ := hown.row; (have c6 : w6.cell? ⟨M, 1, none⟩ = some v := cell_row HGR.out.1 1); (have f6 : w6.frozen? ⟨M, 1, none⟩ = false := frozen_row HGR.out.1 1); clear hown hgr))
        all_goals
          clear c5 c6 c7 f6 c1
          have HLL := Lib.hid (show (rdL t j ++ [(y1, y2)]).length = (rdL t j).length + 1 by simp)
          obtain ⟨g1, g2, g3, g4⟩ := HGR.out
          have g5 := HOW.out
          rw [← HY.out] at g5
          have g6 := heap_set g1 1 (.slice A4 ((rdL t j).length + 1) c4)
          have g5b : OwnE w6 (M + 1) (.slice A4 ((rdL t j).length + 1) c4) (rdL t (j + 1)) := by
            have h : (rdL t (j + 1)).length = (rdL t j).length + 1 := by rw [rdL_length, rdL_length]
            rw [h] at g5; exact g5
          have hl1 := HLM.out
          have hl2 := HLR.out
          have HM8 := Lib.hid (show ∃ v, (w6.setCell ⟨M, 1, none⟩ (.slice A4 ((rdL t j).length + 1) c4)).heap[M]? = some (.cells #[.int .i64 G, v] 25 (0, 0)) ∧ OwnE (w6.setCell ⟨M, 1, none⟩ (.slice A4 ((rdL t j).length + 1) c4)) (M + 1) v (rdL t (j + 1)) from ⟨_, g6, g5b.keep (fun k hk => heap_far 1 _ (by have := (g5b.lt k hk).2; omega))⟩)
          have HR8 := Lib.hid (show Rd (w6.setCell ⟨M, 1, none⟩ (.slice A4 ((rdL t j).length + 1) c4)) r T (14 + 16 * (j + 1)) 0 from (heap_far 1 _ (by omega)).trans g2)
          have HE8 := Lib.hid ((heap_far (w := w6) (b := M) 1 (.slice A4 ((rdL t j).length + 1) c4) (show w.heap.size ≠ M by omega)).trans g3)
          have HB8 := Lib.hid (g4.setCell (p := ⟨M, 1, none⟩) (show w.heap.size ≤ M by omega) (.slice A4 ((rdL t j).length + 1) c4))
          clear g1 g2 g3 g4 g5 g6 g5b hl1 hl2
          go_wp2_with fail
          go_roundw
          case rel => exact ⟨j + 1, HLTJ.out, by rw [HI1.out]; rfl, HM8, HR8, HE8, HB8⟩
          case measure =>
            rw [HI1.out]
            show cn - ((j : Int) + 1).toNat < cn - (j : Int).toNat
            have := HLTJ.out; omega
      · have e1 : decide ((j : Int) < (cn : Int)) = false := decide_eq_false (by omega)
        obtain rfl : j = cn := by omega
        have HRW : Hid (RV = if mayM G (rdL t j) = true then (0, G, rdL t j) else (4, 0, [])) := Lib.hid (by
          obtain ⟨-, -, g3, g4, -, -, g7⟩ := HG.out
          rw [← HRV.out, g7, ← g3, ← g4])
        obtain ⟨A5, c5, rfl, -, -, hrow, -⟩ := ho.row
        have HMY := Lib.hid (May_any wr G A5 c5 (rdL t j) (by rw [rdL_length]; have := HCN.out; unfold maxLen; omega) hrow)
        have c0 : wr.cell? ⟨M, 0, none⟩ = some (.int .i64 G) := cell_row hm 0
        have c1 : wr.cell? ⟨M, 1, none⟩ = some (.slice A5 (rdL t j).length c5) := cell_row hm 1
        clear hm ho hj hlt hrow
        generalize rdL t j = RL at *
        generalize RL.length = nR at *
        go_wp2_with fail
        refine HMY.out.mono ?_
        rintro e w9 ⟨rfl, hb⟩
        have he9 := (hb.block _ (row_lt HE.out)).trans HE.out
        have hm9 := (hb.block _ (row_lt HMX.out)).trans HMX.out
        have HO9 := Lib.hid (HO.out.below hb)
        have HB9 := Lib.hid (HB.out.trans (hb.mono HB.out.size))
        clear c0 c1 hb
        by_cases hmay : mayM G RL = true
        · have HRF := Lib.hid (show RV = (0, G, RL) by rw [HRW.out, if_pos hmay])
          have c0 : w9.cell? ⟨M, 0, none⟩ = some (.int .i64 G) := cell_row hm9 0
          have c1 : w9.cell? ⟨M, 1, none⟩ = some (.slice A5 nR c5) := cell_row hm9 1
          obtain ⟨b0, f0, b1, f1, d0, d1, -⟩ := mset he9 (.int .i64 G) (.slice A5 nR c5)
          have HBF := Lib.hid ((HB9.out.setCell (p := ⟨w.heap.size, 0, none⟩) (Nat.le_refl _) (.int .i64 G)).setCell (p := ⟨w.heap.size, 1, none⟩) (Nat.le_refl _) (.slice A5 nR c5))
          have HOF : Hid (OwnE ((w9.setCell ⟨w.heap.size, 0, none⟩ (.int .i64 G)).setCell ⟨w.heap.size, 1, none⟩ (.slice A5 nR c5)) w.heap.size (.slice A5 nR c5) RL) := Lib.hid ((HO9.out.keep (fun k hk => by
            have := (HO9.out.lt k hk).2
            have h1 := HLM.out
            have h2 := HLR.out
            rw [heap_far 1 _ (by omega), heap_far 0 _ (by omega)])).less (by have h1 := HLM.out; have h2 := HLR.out; omega))
          rw [hmay]
          clear he9 hm9 hmay
          go_wp2_with fail
          refine bodyPost_ret (v := .tuple #[.agg #[.int .i64 G, .slice A5 nR c5], .int .i64 0]) (by simp [results, Tryz.results17, go_sem, d0, d1]) rfl ?_
          rw [HRF.out]
          exact ⟨_, rfl, HOF.out, HBF.out⟩
        · have HRF := Lib.hid (show RV = (4, 0, []) by rw [HRW.out, if_neg hmay])
          rw [Bool.not_eq_true] at hmay
          rw [hmay]
          obtain ⟨b0, f0, b1, f1, d0, d1, -⟩ := mset he9 (.int .i64 0) (.slice none 0 0)
          have HBF := Lib.hid ((HB9.out.setCell (p := ⟨w.heap.size, 0, none⟩) (Nat.le_refl _) (.int .i64 0)).setCell (p := ⟨w.heap.size, 1, none⟩) (Nat.le_refl _) (.slice none 0 0))
          clear he9 hm9 hmay
          go_wp2_with fail
          refine bodyPost_ret (v := .tuple #[.agg #[.int .i64 0, .slice none 0 0], .int .i64 4]) (by simp [results, Tryz.results17, go_sem, d0, d1]) rfl ?_
          rw [HRF.out]
          exact ⟨_, rfl, OwnE.nil _ _, HBF.out⟩
/-- **Read** -/
theorem Read_any (L : List UInt8) (hL : L.length ≤ 1000000000) (w : World) :
    Calls Tryz.prog 17 #[.string (S L)] w (ReadRes w (rdM L)) := by
  unfold rdM
  by_cases h4 : L.length < 4
  · rw [if_pos h4]
    refine Read_err L hL w 8 (by decide) (fun W => (Crc.open_any (S L) W (by rw [S_size]; omega)).mono ?_)
    rintro e w' ⟨⟨x, k, rfl, h⟩, hb⟩
    rw [S_size] at h
    rcases h with ⟨-, rfl, rfl⟩ | ⟨h, -⟩ | ⟨h, -⟩
    · exact ⟨rfl, hb⟩
    · omega
    · omega
  rw [if_neg h4]
  by_cases hs : L.drop (L.length - 4) = fourL (ofW (L.take (L.length - 4)))
  · rw [if_pos hs]
    refine Read_open L (L.take (L.length - 4)) (by rw [List.length_take]; omega) hL w (fun W => (Crc.open_any (S L) W (by rw [S_size]; omega)).mono ?_)
    rintro e w' ⟨⟨x, k, rfl, h⟩, hb⟩
    rw [S_size, S_list] at h
    rcases h with ⟨h, -⟩ | ⟨-, -, rfl, rfl⟩ | ⟨-, h, -⟩
    · omega
    · exact ⟨rfl, hb⟩
    · exact absurd hs h
  · rw [if_neg hs]
    refine Read_err L hL w 42 (by decide) (fun W => (Crc.open_any (S L) W (by rw [S_size]; omega)).mono ?_)
    rintro e w' ⟨⟨x, k, rfl, h⟩, hb⟩
    rw [S_size, S_list] at h
    rcases h with ⟨h, -⟩ | ⟨-, h, -⟩ | ⟨-, -, rfl, rfl⟩
    · omega
    · exact absurd h hs
    · exact ⟨rfl, hb⟩
end Go.Proofs.YticfnfekkmkclaaGreatDoor.Manif
