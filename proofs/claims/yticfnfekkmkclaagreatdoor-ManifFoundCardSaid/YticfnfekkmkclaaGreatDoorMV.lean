import Derived.Test.YticfnfekkmkclaaGreatDoorMR
/-
  Manifests: With.
-/
namespace Go.Proofs.YticfnfekkmkclaaGreatDoor.Manif
open Go Go.RowKit
open Go.Proofs.YticfnfekkmkclaaGreatDoor.Wire (S S_list S_size cell_row frozen_row row_lt heap_set heap_far)

theorem src_cells {w : World} {base g cap : Nat} {ys : List (Int × Int)} (h : OwnE w base (.slice (some ⟨g, 0, none⟩) ys.length cap) ys) (j : Nat) (u : Value) (hj : (cellsE ys)[j]? = some u) : w.cell? ⟨g, j, none⟩ = some u := by
  rcases h.2 with ⟨e, _⟩ | ⟨g2, cap2, cur, e, hb, hg, h1, h2, h3, h4⟩
  · cases e
  · injection e with e1 e2 e3
    injection e1 with e1
    injection e1 with e1
    subst e1
    rw [cell_row hg, ← Array.getElem?_toList]
    rw [← h4, List.getElem?_take] at hj
    split at hj
    · exact hj
    · cases hj
theorem wpList_append_es {ops : Array Oper} {rest : List Oper} {o : Oper} {a : Act} {w : World} {Q : Exit → Act → World → Prop} (hgd : o.guard = none) (s x : Operand)
    (ho : o.op = .call { callee := .builtin .append, args := #[s, x], argTypes := #[23, 23] })
    (base : Nat) (v : Value) (xs : List (Int × Int)) (hs : a.eval s = v) (hown : OwnE w base v xs)
    (base2 g cap : Nat) (ys : List (Int × Int)) (hx : a.eval x = .slice (some ⟨g, 0, none⟩) ys.length cap) (hsrc : OwnE w base2 (.slice (some ⟨g, 0, none⟩) ys.length cap) ys)
    (hlen : xs.length + ys.length ≤ 1000000) (hbase : base ≤ w.heap.size)
    (h : ∀ v' w', OwnE w' base v' (xs ++ ys) → w.grownBy w' v.ownBlock → wpList Tryz.prog ops Q rest (a.put o.dst v') w') : wpList Tryz.prog ops Q (o :: rest) a w := by
  obtain ⟨i0, hi, hz0, hz1, hz2⟩ := info_parts infoE
  refine wpList_append_own w hgd s x 23 ho base 27 i0 _ 2 16 Tryz.underlying23 hi hz0 hz1 hz2 rfl (by decide) v xs.length (cellsE xs) hs hown ⟨g, 0, none⟩ ys.length cap (cellsE ys) hx (cellsE_len ys) ?_ (cellsE_one ys) (by unfold maxLen; omega) (by omega) hbase ?_
  · intro j u hj
    rw [addr_z]; exact src_cells hsrc j u hj
  · intro v' w' hown' hg _
    exact h v' w' (by unfold OwnE; rw [cellsE_append, List.length_append]; exact hown') hg
theorem ownE_none {w : World} {base : Nat} (hb : base ≤ w.heap.size) : OwnE (w.alloc (.cells #[] 27)) base (.slice (some ⟨w.heap.size, 0, none⟩) 0 0) [] :=
  ⟨rfl, Or.inr ⟨w.heap.size, 0, #[], rfl, hb, heap_alloc_new w _, Nat.le_refl _, by decide, rfl, rfl⟩⟩
set_option maxRecDepth 100000 in
set_option maxHeartbeats 1000000 in
/-- **slices.Clone** of segments -/
theorem cloneE_any (w : World) (base : Nat) (v : Value) (l : List (Int × Int)) (h : OwnE w base v l) (hl : l.length ≤ 1000000) :
    Calls Tryz.prog 44 #[v] w fun e w' => ∃ u, e = .returned u ∧ OwnE w' w.heap.size u l ∧ Below w.heap.size w w' := by
  rcases h.2 with ⟨rfl, hn⟩ | ⟨g, cap, cur, rfl, -⟩
  · have hx : l = [] := List.eq_nil_of_length_eq_zero hn
    subst hx
    have hnil : ∀ W, (binOp .eql 23 (.slice none 0 0) (.slice none 0 0)).run Tryz.prog W = .ok (.bool true) W := fun _ => rfl
    go_enter Tryz.func44, Tryz.ntmps44
    go_wp2_with fail
    go_ret
    exact ⟨_, rfl, OwnE.nil _ _, Below.refl _ _⟩
  · have hbn := (Below.refl w.heap.size w).alloc (Nat.le_refl _) (.cells #[] 27)
    have HS := Lib.hid (h.below hbn)
    have HO := Lib.hid (ownE_none (w := w) (base := w.heap.size) (Nat.le_refl _))
    have HB := Lib.hid hbn
    have HL := Lib.hid (show ([] : List (Int × Int)).length + l.length ≤ 1000000 by show 0 + _ ≤ _; omega)
    clear h hl hbn
    have hnil : ∀ W, (binOp .eql 23 (.slice (some ⟨g, 0, none⟩) l.length cap) (.slice none 0 0)).run Tryz.prog W = .ok (.bool false) W := fun _ => rfl
    go_enter Tryz.func44, Tryz.ntmps44
    go_wp2_with (at_builtin; refine wpList_append_es rfl _ _ rfl w.heap.size (.slice (some ⟨w.heap.size, 0, none⟩) 0 0) [] rfl HO.out base g cap l rfl HS.out HL.out HB.out.size ?_)
    intro v' w2 hown hg
    have HO2 := Lib.hid (show OwnE w2 w.heap.size v' l from hown)
    have HB2 := Lib.hid (HB.out.grown hg HB.out.size (fun r hr => (HO.out.lt r hr).2))
    clear hown hg
    go_wp2_with fail
    go_ret
    exact ⟨_, rfl, HO2.out, HB2.out⟩
theorem heap_new_at {w : World} {o : Obj} {k : Nat} (h : k = w.heap.size) : (w.alloc o).heap[k]? = some o := by subst h; exact heap_alloc_new w o
theorem keepA {w : World} {o o' : Obj} {k : Nat} (h : w.heap[k]? = some o') : (w.alloc o).heap[k]? = some o' := ((Below.refl w.heap.size w).alloc (Nat.le_refl _) o).block k (row_lt h) |>.trans h
theorem keepD {w : World} {o : Obj} {k : Nat} (h : w.heap[k]? = some o) : w.drew.heap[k]? = some o := h
/-- a manifest's block is none of a row's own -/
theorem own_man {w : World} {base : Nat} {v : Value} {l : List (Int × Int)} (h : OwnE w base v l) {k : Nat} {cs : Array Value} (hm : w.heap[k]? = some (.cells cs 25 (0, 0))) : some k ≠ v.ownBlock := by
  intro e
  rcases h.2 with ⟨rfl, _⟩ | ⟨b, cap, cur, rfl, _, hg, _⟩
  · cases e
  · have : k = b := by simpa [Value.ownBlock] using e
    subst this
    rw [hg] at hm
    injection hm with hm
    injection hm with _ hm
    exact absurd hm (by decide)
theorem heap_new_eq {w : World} {o o' : Obj} {k : Nat} (h : k = w.heap.size) (ho : o = o') : (w.alloc o).heap[k]? = some o' := by subst h; subst ho; exact heap_alloc_new w o
theorem grown_man {W w6 : World} {v : Value} {base : Nat} {l : List (Int × Int)} (ho : OwnE W base v l) (hg : W.grownBy w6 v.ownBlock) (k : Nat) (cs : Array Value) (h : W.heap[k]? = some (.cells cs 25 (0, 0))) : w6.heap[k]? = some (.cells cs 25 (0, 0)) :=
  (hg.block k (row_lt h) (own_man ho h)).trans h
theorem own_rowE {w : World} {base : Nat} {A : Option Addr} {cap : Nat} {l : List (Int × Int)} (h : OwnE w base (.slice A l.length cap) l) : RowE w A l := by
  obtain ⟨A2, c2, e, -, -, hr, -⟩ := h.row
  injection e with e1 _ e3
  subst e1; exact hr
/-- where a manifest has been stored -/
theorem put_man {w3 w6 : World} {M n c6 : Nat} {g : Int} {A6 : Option Addr} {RL : List (Int × Int)} (hr : w6.heap[M]? = some (.cells #[.int .i64 0, .slice none 0 0] 25 (0, 0))) (hb : Below w3.heap.size w3 w6) (hM : w3.heap.size ≤ M) (ho : OwnE w6 w3.heap.size (.slice A6 RL.length c6) RL) (hn : RL.length = n) :
    (((w6.setCell ⟨M, 0, none⟩ (.int .i64 g)).setCell ⟨M, 1, none⟩ (.slice A6 n c6)).heap[M]? = some (.cells #[.int .i64 g, .slice A6 n c6] 25 (0, 0))) ∧ Below w3.heap.size w3 ((w6.setCell ⟨M, 0, none⟩ (.int .i64 g)).setCell ⟨M, 1, none⟩ (.slice A6 n c6)) ∧ OwnE ((w6.setCell ⟨M, 0, none⟩ (.int .i64 g)).setCell ⟨M, 1, none⟩ (.slice A6 n c6)) w3.heap.size (.slice A6 RL.length c6) RL := by
  subst hn
  refine ⟨heap_set (heap_set hr 0 _) 1 _, (hb.setCell (p := ⟨M, 0, none⟩) hM _).setCell (p := ⟨M, 1, none⟩) hM _, ho.keep (fun k hk => ?_)⟩
  have hne : k ≠ M := fun e => own_man ho hr (by rw [← e]; exact hk.symm)
  rw [heap_far 1 _ hne, heap_far 0 _ hne]
theorem put_new {w3 w6 : World} {n c6 : Nat} {g : Int} {A6 : Option Addr} {RL : List (Int × Int)} (hb : Below w3.heap.size w3 w6) (ho : OwnE w6 w3.heap.size (.slice A6 RL.length c6) RL) (hn : RL.length = n) :
    ((w6.alloc (.cells #[.int .i64 g, .slice A6 n c6] 25)).heap[w6.heap.size]? = some (.cells #[.int .i64 g, .slice A6 n c6] 25 (0, 0))) ∧ Below w3.heap.size w3 (w6.alloc (.cells #[.int .i64 g, .slice A6 n c6] 25)) ∧ OwnE (w6.alloc (.cells #[.int .i64 g, .slice A6 n c6] 25)) w3.heap.size (.slice A6 RL.length c6) RL :=
  ⟨heap_alloc_new _ _, hb.alloc hb.size _, ho.below ((Below.refl _ _).alloc (Nat.le_refl _) _)⟩
set_option maxRecDepth 100000 in
set_option maxHeartbeats 40000000 in
/-- **With** -/
theorem With_any (w : World) (g : Int) (base : Nat) (v : Value) (l : List (Int × Int)) (h : OwnE w base v l) (hl : l.length ≤ 100000) (x y : Int) :
    Calls Tryz.prog 11 #[.agg #[.int .i64 g, v], .agg #[.int .i64 x, .int .i64 y]] w (ReadRes w (if mayM g (l ++ [(x, y)]) = true then (0, g, l ++ [(x, y)]) else (4, 0, []))) := by
  obtain ⟨A, cap, rfl, -, -, -, -⟩ := h.row
  obtain ⟨w3, hw3⟩ : ∃ w3, ((w.alloc (.cells #[.int .i64 g, .slice A l.length cap] 25)).alloc (.cells #[.int .i64 x, .int .i64 y] 27)).alloc (.cells #[.int .i64 0, .slice none 0 0] 25) = w3 := ⟨_, rfl⟩
  have hz3 : w3.heap.size = w.heap.size + 3 := by rw [← hw3]; simp
  have hb3 : Below w.heap.size w w3 := by rw [← hw3]; exact (((Below.refl _ w).alloc (Nat.le_refl _) _).alloc (by simp) _).alloc (by simp; omega) _
  have e1 : (w.alloc (.cells #[.int .i64 g, .slice A l.length cap] 25)).heap.size = w.heap.size + 1 := by simp
  have e2 : ((w.alloc (.cells #[.int .i64 g, .slice A l.length cap] 25)).alloc (.cells #[.int .i64 x, .int .i64 y] 27)).heap.size = w.heap.size + 1 + 1 := by simp
  have m0 : w3.heap[w.heap.size]? = some (.cells #[.int .i64 g, .slice A l.length cap] 25 (0, 0)) := by
    rw [← hw3]
    exact (Below.heap_alloc _ _ _ (by rw [e2]; omega)).trans ((Below.heap_alloc _ _ _ (by rw [e1]; omega)).trans (heap_alloc_new w _))
  have m1 : w3.heap[w.heap.size + 1]? = some (.cells #[.int .i64 x, .int .i64 y] 27 (0, 0)) := by
    rw [← hw3]
    exact (Below.heap_alloc _ _ _ (by rw [e2]; omega)).trans (by rw [← e1]; exact heap_alloc_new _ _)
  have m2 : w3.heap[w.heap.size + 1 + 1]? = some (.cells #[.int .i64 0, .slice none 0 0] 25 (0, 0)) := by rw [← hw3, ← e2]; exact heap_alloc_new _ _
  have c0 : w3.cell? ⟨w.heap.size, 0, none⟩ = some (.int .i64 g) := cell_row m0 0
  have c1 : w3.cell? ⟨w.heap.size, 1, none⟩ = some (.slice A l.length cap) := cell_row m0 1
  have c2 : w3.cell? ⟨w.heap.size + 1, 0, none⟩ = some (.int .i64 x) := cell_row m1 0
  have c3 : w3.cell? ⟨w.heap.size + 1, 1, none⟩ = some (.int .i64 y) := cell_row m1 1
  have HS0 := Lib.hid (h.below hb3)
  have HB3 := Lib.hid hb3
  have HZ3 := Lib.hid hz3
  have HM := Lib.hid (And.intro m0 (And.intro m1 m2))
  have HL := Lib.hid hl
  obtain ⟨RV, hRV⟩ : ∃ r, (if mayM g (l ++ [(x, y)]) = true then (0, g, l ++ [(x, y)]) else (4, 0, [])) = r := ⟨_, rfl⟩
  have HRV := Lib.hid hRV
  rw [hRV]
  clear hRV h hl hz3 hb3 e1 e2 m0 m1 m2
  have HK : Hid (∀ W, Below w3.heap.size w3 W → W.cell? ⟨w.heap.size, 0, none⟩ = some (.int .i64 g) ∧ W.cell? ⟨w.heap.size, 1, none⟩ = some (.slice A l.length cap) ∧ W.cell? ⟨w.heap.size + 1, 0, none⟩ = some (.int .i64 x) ∧ W.cell? ⟨w.heap.size + 1, 1, none⟩ = some (.int .i64 y) ∧ Below w3.heap.size w3 W) := Lib.hid (fun W hb => by
    have z1 := (hb.block _ (row_lt HM.out.1)).trans HM.out.1
    have z2 := (hb.block _ (row_lt HM.out.2.1)).trans HM.out.2.1
    exact ⟨cell_row z1 0, cell_row z1 1, cell_row z2 0, cell_row z2 1, hb⟩)
  have HD : Hid (∀ W, (W.cell? ⟨w.heap.size, 0, none⟩ = some (.int .i64 g) ∧ W.cell? ⟨w.heap.size, 1, none⟩ = some (.slice A l.length cap) ∧ W.cell? ⟨w.heap.size + 1, 0, none⟩ = some (.int .i64 x) ∧ W.cell? ⟨w.heap.size + 1, 1, none⟩ = some (.int .i64 y) ∧ Below w3.heap.size w3 W) → Below w3.heap.size w3 W) := Lib.hid (fun W h => h.2.2.2.2)
  have HDR := Lib.hid (show Below w3.heap.size w3 w3.drew from (Below.refl _ _).drew)
  have HAL : Hid (∀ W o, Below w3.heap.size w3 W → Below w3.heap.size w3 (W.alloc o)) := Lib.hid (fun W o hb => hb.alloc hb.size o)
  have HST : Hid (∀ W M (a b : Value), w3.heap.size ≤ M → Below w3.heap.size w3 W → Below w3.heap.size w3 ((W.setCell ⟨M, 0, none⟩ a).setCell ⟨M, 1, none⟩ b)) := Lib.hid (fun W M a b hM hb => (hb.setCell (p := ⟨M, 0, none⟩) hM a).setCell (p := ⟨M, 1, none⟩) hM b)
  have HCL : Hid (∀ W, Below w3.heap.size w3 W → Calls Tryz.prog 44 #[.slice A l.length cap] W fun e w' => ∃ u, e = .returned u ∧ (OwnE w' W.heap.size u l ∧ Below W.heap.size W w')) := Lib.hid (fun W hb => cloneE_any W base _ l (HS0.out.below hb) (by have := HL.out; omega))
  have HLL := Lib.hid (show l.length ≤ 1000000 by have := HL.out; omega)
  go_enter Tryz.func11, Tryz.ntmps11
  go_wp2_with fail
  clear hw3
  go_region_held3 (fun w' => w'.cell? ⟨w.heap.size, 0, none⟩ = some (.int .i64 g) ∧ w'.cell? ⟨w.heap.size, 1, none⟩ = some (.slice A l.length cap) ∧ w'.cell? ⟨w.heap.size + 1, 0, none⟩ = some (.int .i64 x) ∧ w'.cell? ⟨w.heap.size + 1, 1, none⟩ = some (.int .i64 y) ∧ Below w3.heap.size w3 w')
    (first | exact HK.out _ HDR.out | exact HK.out _ (by assumption) | exact HK.out _ (HAL.out _ _ (HD.out _ (by assumption))) | exact HK.out _ hs6 | exact HK.out _ (HAL.out _ _ hs6) | (refine HK.out _ ?_; (repeat' (with_reducible first | exact hs6 | exact hs5 | exact Below.refl _ _ | refine HAL.out _ _ ?_ | refine Below.drew ?_)); (first | done | fail "no")) | exact HK.out _ (HST.out _ _ _ _ (by first | exact Nat.le_refl _ | exact hs5.size | exact hs6.size | (have q5 := hs5.size; omega) | (simp; done) | (simp; omega)) (HD.out _ (by assumption))))
    (first
      | (refine step_append_e (by rfl) (.tmp 11) (.tmp 13) (by rfl) w3.heap.size u l (by rfl) (by with_reducible first | exact HO5 | exact HO5.below ((Below.refl _ _).alloc (Nat.le_refl _) _) | exact (HO5.below ((Below.refl _ _).alloc (Nat.le_refl _) _)).below ((Below.refl _ _).alloc (Nat.le_refl _) _)) _ 1 (x, y) (by rfl) (by (repeat' (with_reducible first | exact heap_new_eq (by first | (simp; done) | fail "no") rfl | refine keepA ?_ | refine keepD ?_ | refine hk5 _ _ ?_))) HLL.out (HD.out _ (by assumption)).size ?_; intro v' w6 hown hgr; (have hs6 : Below w3.heap.size w3 w6 := (HD.out _ (by assumption)).grown hgr (HD.out _ (by assumption)).size (fun r hr => (HO5.lt r hr).2)); (have HO6 := Lib.hid hown); (have hrow6 := grown_man (by with_reducible first | exact HO5 | exact HO5.below ((Below.refl _ _).alloc (Nat.le_refl _) _) | exact (HO5.below ((Below.refl _ _).alloc (Nat.le_refl _) _)).below ((Below.refl _ _).alloc (Nat.le_refl _) _)) hgr); obtain ⟨A6, c6, rfl, -, -, -, -⟩ := hown.row; (try (have r1 : w6.heap[w3.heap.size]? = some (.cells #[.int .i64 0, .slice none 0 0] 25 (0, 0)) := hrow6 _ _ (by (repeat' (with_reducible first | exact heap_new_eq (by first | (simp; done) | fail "no") rfl | refine keepA ?_ | refine keepD ?_ | refine hk5 _ _ ?_)); (first | done | fail "no")); have c1a : w6.cell? ⟨w3.heap.size, 0, none⟩ = some (.int .i64 0) := cell_row r1 0; have c1b : w6.cell? ⟨w3.heap.size, 1, none⟩ = some (.slice none 0 0) := cell_row r1 1; have f1a : w6.frozen? ⟨w3.heap.size, 0, none⟩ = false := frozen_row r1 0; have f1b : w6.frozen? ⟨w3.heap.size, 1, none⟩ = false := frozen_row r1 1)); (try (have r2 : w6.heap[w3.heap.size + 1]? = some (.cells #[.int .i64 0, .slice none 0 0] 25 (0, 0)) := hrow6 _ _ (by (repeat' (with_reducible first | exact heap_new_eq (by first | (simp; done) | fail "no") rfl | refine keepA ?_ | refine keepD ?_ | refine hk5 _ _ ?_)); (first | done | fail "no")); have c2a : w6.cell? ⟨w3.heap.size + 1, 0, none⟩ = some (.int .i64 0) := cell_row r2 0; have c2b : w6.cell? ⟨w3.heap.size + 1, 1, none⟩ = some (.slice none 0 0) := cell_row r2 1; have f2a : w6.frozen? ⟨w3.heap.size + 1, 0, none⟩ = false := frozen_row r2 0; have f2b : w6.frozen? ⟨w3.heap.size + 1, 1, none⟩ = false := frozen_row r2 1)); (try (have r3 : w6.heap[w5.heap.size]? = some (.cells #[.int .i64 0, .slice none 0 0] 25 (0, 0)) := hrow6 _ _ (by (repeat' (with_reducible first | exact heap_new_eq (by first | (simp; done) | fail "no") rfl | refine keepA ?_ | refine keepD ?_ | refine hk5 _ _ ?_)); (first | done | fail "no")); have c3a : w6.cell? ⟨w5.heap.size, 0, none⟩ = some (.int .i64 0) := cell_row r3 0; have c3b : w6.cell? ⟨w5.heap.size, 1, none⟩ = some (.slice none 0 0) := cell_row r3 1; have f3a : w6.frozen? ⟨w5.heap.size, 0, none⟩ = false := frozen_row r3 0; have f3b : w6.frozen? ⟨w5.heap.size, 1, none⟩ = false := frozen_row r3 1)); (try (have r4 : w6.heap[w5.heap.size + 1]? = some (.cells #[.int .i64 0, .slice none 0 0] 25 (0, 0)) := hrow6 _ _ (by (repeat' (with_reducible first | exact heap_new_eq (by first | (simp; done) | fail "no") rfl | refine keepA ?_ | refine keepD ?_ | refine hk5 _ _ ?_)); (first | done | fail "no")); have c4a : w6.cell? ⟨w5.heap.size + 1, 0, none⟩ = some (.int .i64 0) := cell_row r4 0; have c4b : w6.cell? ⟨w5.heap.size + 1, 1, none⟩ = some (.slice none 0 0) := cell_row r4 1; have f4a : w6.frozen? ⟨w5.heap.size + 1, 0, none⟩ = false := frozen_row r4 0; have f4b : w6.frozen? ⟨w5.heap.size + 1, 1, none⟩ = false := frozen_row r4 1)); clear hown hgr hrow6)
      | (refine step_call (f := 44) (args := #[.slice A l.length cap]) (by rfl) (by go_simp) (HCL.out _ (HD.out _ (by assumption))) ?_; rintro u w5 ⟨ho5, hb5⟩; (have hs5 := (HD.out _ (by assumption)).trans (hb5.mono (HD.out _ (by assumption)).size)); (have hk5 : ∀ k o, _ → w5.heap[k]? = some o := fun k o h => (hb5.block k (row_lt h)).trans h); (have HO5 : OwnE w5 w3.heap.size u l := ho5.less (HD.out _ (by assumption)).size); clear ho5 hb5))
  all_goals
    have hRL : (l ++ [(x, y)]).length = l.length + 1 := by simp
    first
    | (obtain ⟨W, hW⟩ : ∃ W, w6.alloc (.cells #[.int .i64 g, .slice A6 (l.length + 1) c6] 25) = W := ⟨_, rfl⟩
       rw [hW]
       obtain ⟨p1, p2, p3⟩ := put_new (g := g) (A6 := A6) (c6 := c6) hs6 HO6.out hRL
       rw [hW] at p1 p2 p3
       have HMX := Lib.hid p1
       have HB := Lib.hid p2
       have HO := Lib.hid p3
       have HMM := Lib.hid hs6.size
       clear hW p1 p2 p3 HO6
       generalize w6.heap.size = M at *)
    | (obtain ⟨W, hW⟩ : ∃ W, (w6.setCell ⟨w3.heap.size, 0, none⟩ (.int .i64 g)).setCell ⟨w3.heap.size, 1, none⟩ (.slice A6 (l.length + 1) c6) = W := ⟨_, rfl⟩
       rw [hW]
       obtain ⟨p1, p2, p3⟩ := put_man (g := g) (A6 := A6) (c6 := c6) r1 hs6 (Nat.le_refl _) HO6.out hRL
       rw [hW] at p1 p2 p3
       have HMX := Lib.hid p1
       have HB := Lib.hid p2
       have HO := Lib.hid p3
       obtain ⟨M, hMe⟩ : ∃ M, w3.heap.size = M := ⟨_, rfl⟩
       have HMM : Hid (w3.heap.size ≤ M) := Lib.hid (by rw [← hMe]; exact Nat.le_refl _)
       rw [hMe] at HMX ⊢
       clear hW p1 p2 p3 HO6 hMe)
    | (obtain ⟨W, hW⟩ : ∃ W, (w6.setCell ⟨w3.heap.size + 1, 0, none⟩ (.int .i64 g)).setCell ⟨w3.heap.size + 1, 1, none⟩ (.slice A6 (l.length + 1) c6) = W := ⟨_, rfl⟩
       rw [hW]
       obtain ⟨p1, p2, p3⟩ := put_man (g := g) (A6 := A6) (c6 := c6) r2 hs6 (Nat.le_add_right _ _) HO6.out hRL
       rw [hW] at p1 p2 p3
       have HMX := Lib.hid p1
       have HB := Lib.hid p2
       have HO := Lib.hid p3
       obtain ⟨M, hMe⟩ : ∃ M, w3.heap.size + 1 = M := ⟨_, rfl⟩
       have HMM : Hid (w3.heap.size ≤ M) := Lib.hid (by rw [← hMe]; exact Nat.le_add_right _ _)
       rw [hMe] at HMX ⊢
       clear hW p1 p2 p3 HO6 hMe)
    | (obtain ⟨W, hW⟩ : ∃ W, (w6.setCell ⟨w5.heap.size, 0, none⟩ (.int .i64 g)).setCell ⟨w5.heap.size, 1, none⟩ (.slice A6 (l.length + 1) c6) = W := ⟨_, rfl⟩
       rw [hW]
       obtain ⟨p1, p2, p3⟩ := put_man (g := g) (A6 := A6) (c6 := c6) r3 hs6 (hs5.size) HO6.out hRL
       rw [hW] at p1 p2 p3
       have HMX := Lib.hid p1
       have HB := Lib.hid p2
       have HO := Lib.hid p3
       obtain ⟨M, hMe⟩ : ∃ M, w5.heap.size = M := ⟨_, rfl⟩
       have HMM : Hid (w3.heap.size ≤ M) := Lib.hid (by rw [← hMe]; exact hs5.size)
       rw [hMe] at HMX ⊢
       clear hW p1 p2 p3 HO6 hMe)
    | (obtain ⟨W, hW⟩ : ∃ W, (w6.setCell ⟨w5.heap.size + 1, 0, none⟩ (.int .i64 g)).setCell ⟨w5.heap.size + 1, 1, none⟩ (.slice A6 (l.length + 1) c6) = W := ⟨_, rfl⟩
       rw [hW]
       obtain ⟨p1, p2, p3⟩ := put_man (g := g) (A6 := A6) (c6 := c6) r4 hs6 (Nat.le_succ_of_le hs5.size) HO6.out hRL
       rw [hW] at p1 p2 p3
       have HMX := Lib.hid p1
       have HB := Lib.hid p2
       have HO := Lib.hid p3
       obtain ⟨M, hMe⟩ : ∃ M, w5.heap.size + 1 = M := ⟨_, rfl⟩
       have HMM : Hid (w3.heap.size ≤ M) := Lib.hid (by rw [← hMe]; exact Nat.le_succ_of_le hs5.size)
       rw [hMe] at HMX ⊢
       clear hW p1 p2 p3 HO6 hMe)
  all_goals
    have HML := Lib.hid (row_lt HMX.out)
    have hn2 : W.heap[w.heap.size + 1 + 1]? = some (.cells #[.int .i64 0, .slice none 0 0] 25 (0, 0)) := (HB.out.block _ (row_lt HM.out.2.2)).trans HM.out.2.2
    have HN2 := Lib.hid hn2
    have HMY := Lib.hid (May_any W g A6 c6 (l ++ [(x, y)]) (by rw [hRL]; have := HL.out; unfold maxLen; omega) (own_rowE HO.out))
    have HO7 : Hid (OwnE W w3.heap.size (.slice A6 (l.length + 1) c6) (l ++ [(x, y)])) := Lib.hid (by rw [← hRL]; exact HO.out)
    rw [hRL] at HMY
    have d0 : W.cell? ⟨M, 0, none⟩ = some (.int .i64 g) := cell_row HMX.out 0
    have d1 : W.cell? ⟨M, 1, none⟩ = some (.slice A6 (l.length + 1) c6) := cell_row HMX.out 1
    have HLN := Lib.hid hRL
    clear hRL hn2 HCL HST HAL HDR HD HK HO c0 c1 c2 c3
    go_wp2_with fail
    refine HMY.out.mono ?_
    rintro e w9 ⟨rfl, hb⟩
    have hn9 := (hb.block _ (row_lt HN2.out)).trans HN2.out
    have hm9 := (hb.block _ (row_lt HMX.out)).trans HMX.out
    have hz : w.heap.size + 1 + 1 < w3.heap.size := by have := HZ3.out; omega
    have HO9 := Lib.hid (HO7.out.below hb)
    have HB9 := Lib.hid ((HB3.out.trans (HB.out.mono HB3.out.size)).trans (hb.mono (HB3.out.trans (HB.out.mono HB3.out.size)).size))
    clear d0 d1 hb
    by_cases hmay : mayM g (l ++ [(x, y)]) = true
    · have HRF := Lib.hid (show RV = (0, g, l ++ [(x, y)]) by rw [← HRV.out, if_pos hmay])
      have c0 : w9.cell? ⟨M, 0, none⟩ = some (.int .i64 g) := cell_row hm9 0
      have c1 : w9.cell? ⟨M, 1, none⟩ = some (.slice A6 (l.length + 1) c6) := cell_row hm9 1
      obtain ⟨b0, f0, b1, f1, d0, d1, -⟩ := mset hn9 (.int .i64 g) (.slice A6 (l.length + 1) c6)
      have HBF := Lib.hid ((HB9.out.setCell (p := ⟨w.heap.size + 1 + 1, 0, none⟩) (by show w.heap.size ≤ w.heap.size + 1 + 1; omega) (.int .i64 g)).setCell (p := ⟨w.heap.size + 1 + 1, 1, none⟩) (by show w.heap.size ≤ w.heap.size + 1 + 1; omega) (.slice A6 (l.length + 1) c6))
      have HOF : Hid (OwnE ((w9.setCell ⟨w.heap.size + 1 + 1, 0, none⟩ (.int .i64 g)).setCell ⟨w.heap.size + 1 + 1, 1, none⟩ (.slice A6 (l.length + 1) c6)) w.heap.size (.slice A6 (l.length + 1) c6) (l ++ [(x, y)])) := Lib.hid ((HO9.out.keep (fun k hk => by
        have := (HO9.out.lt k hk).2
        rw [heap_far 1 _ (by omega), heap_far 0 _ (by omega)])).less (by omega))
      rw [hmay]
      clear hn9 hm9 hmay hz
      go_wp2_with fail
      refine bodyPost_ret (v := .tuple #[.agg #[.int .i64 g, .slice A6 (l.length + 1) c6], .int .i64 0]) (by simp [results, Tryz.results11, go_sem, d0, d1]) rfl ?_
      rw [HRF.out]
      exact ⟨_, rfl, HOF.out, HBF.out⟩
    · have HRF := Lib.hid (show RV = (4, 0, []) by rw [← HRV.out, if_neg hmay])
      rw [Bool.not_eq_true] at hmay
      rw [hmay]
      obtain ⟨b0, f0, b1, f1, d0, d1, -⟩ := mset hn9 (.int .i64 0) (.slice none 0 0)
      have HBF := Lib.hid ((HB9.out.setCell (p := ⟨w.heap.size + 1 + 1, 0, none⟩) (by show w.heap.size ≤ w.heap.size + 1 + 1; omega) (.int .i64 0)).setCell (p := ⟨w.heap.size + 1 + 1, 1, none⟩) (by show w.heap.size ≤ w.heap.size + 1 + 1; omega) (.slice none 0 0))
      clear hn9 hm9 hmay hz
      go_wp2_with fail
      refine bodyPost_ret (v := .tuple #[.agg #[.int .i64 0, .slice none 0 0], .int .i64 4]) (by simp [results, Tryz.results11, go_sem, d0, d1]) rfl ?_
      rw [HRF.out]
      exact ⟨_, rfl, OwnE.nil _ _, HBF.out⟩
end Go.Proofs.YticfnfekkmkclaaGreatDoor.Manif
