import Derived.Test.YtddjoealckhepaaK
import Derived.Test.YtddjoealckhepaaD
/-
  All files, as they are told: rows of api.File; Files.
-/
namespace Go.Proofs.Ytddjoealckhepaa.Disk
open Go Go.RowKit Go.Maps Go.Shelf Go.Proofs

/-- a file as it is told: its name, what stands for good, what is pending -/
structure Fi where
  n : Nm
  d : List UInt8
  p : List UInt8
deriving DecidableEq
def fiC (x : Fi) : List Value := [.string (S x.n), .string (S x.d), .string (S x.p)]
def fiV (x : Fi) : Value := .agg (fiC x).toArray
def cellsF : List Fi → List Value
  | [] => []
  | x :: r => fiC x ++ cellsF r
theorem cellsF_len (l : List Fi) : (cellsF l).length = l.length * 3 := by
  induction l with
  | nil => rfl
  | cons x r ih => simp only [cellsF, List.length_append, ih, List.length_cons, fiC, List.length_nil]; omega
theorem cellsF_snoc (l : List Fi) (x : Fi) : cellsF (l ++ [x]) = cellsF l ++ fiC x := by
  induction l with
  | nil => simp [cellsF]
  | cons y r ih => simp only [List.cons_append, cellsF, ih, List.append_assoc]
theorem cellsF_at (l : List Fi) (k j : Nat) (hk : k < l.length) (hj : j < 3) : (cellsF l)[k * 3 + j]? = (fiC l[k])[j]? := by
  induction l generalizing k with
  | nil => simp at hk
  | cons x r ih =>
    cases k with
    | zero =>
      have : j < (fiC x).length := by simpa [fiC] using hj
      simp only [cellsF, Nat.zero_mul, Nat.zero_add, List.getElem_cons_zero]
      rw [List.getElem?_append_left this]
    | succ k =>
      have h := ih k (by simpa using hk)
      have : (k + 1) * 3 + j = (fiC x).length + (k * 3 + j) := by simp [fiC]; omega
      simp only [cellsF, List.getElem_cons_succ]
      rw [this, List.getElem?_append_right (Nat.le_add_right _ _), Nat.add_sub_cancel_left]
      exact h
theorem fiC_cell (x : Fi) : ∀ u ∈ fiC x, u.oneCell' = true := by
  intro u hu
  simp only [fiC, List.mem_cons, List.mem_nil_iff, or_false] at hu
  rcases hu with rfl | rfl | rfl <;> rfl
/-- a row of files that the call itself has made -/
def OwnFi (w : World) (base : Nat) (v : Value) (xs : List Fi) : Prop := w.ownsRow base 59 3 v xs.length (cellsF xs)
/-- a row of files, wherever it lies -/
def RowF (w : World) (A : Option Addr) (xs : List Fi) : Prop := ∀ i (h : i < xs.length), ∃ b o, A = some ⟨b, o, none⟩ ∧ b < w.heap.size ∧ w.cell? ⟨b, o + i * 3, none⟩ = some (.string (S xs[i].n)) ∧ w.cell? ⟨b, o + i * 3 + 1, none⟩ = some (.string (S xs[i].d)) ∧ w.cell? ⟨b, o + i * 3 + 2, none⟩ = some (.string (S xs[i].p))
theorem RowF.below {w w' : World} {A : Option Addr} {xs : List Fi} (h : RowF w A xs) (hb : Below w.heap.size w w') : RowF w' A xs := fun i hi => by
  obtain ⟨b, o, e, h1, h2, h3, h4⟩ := h i hi
  exact ⟨b, o, e, Nat.lt_of_lt_of_le h1 hb.size, (hb.cell h1).trans h2, (hb.cell h1).trans h3, (hb.cell h1).trans h4⟩
theorem OwnFi.row {w : World} {base : Nat} {v : Value} {xs : List Fi} (h : OwnFi w base v xs) : ∃ A cap, v = .slice A xs.length cap ∧ cap ≤ maxLen ∧ xs.length ≤ cap ∧ RowF w A xs ∧ (∀ a, A = some a → base ≤ a.block) := by
  rcases h.2 with ⟨rfl, hn⟩ | ⟨g, cap, cur, rfl, hb, hg, h1, h2, h3, h4⟩
  · have hx : xs = [] := List.eq_nil_of_length_eq_zero hn
    subst hx
    exact ⟨none, 0, rfl, Nat.zero_le _, Nat.zero_le _, fun i hi => absurd hi (Nat.not_lt_zero _), fun a e => by cases e⟩
  · refine ⟨some ⟨g, 0, none⟩, cap, rfl, h2, h1, fun i hi => ?_, fun a e => by injection e with e; subst e; exact hb⟩
    have key : ∀ j, j < 3 → w.cell? ⟨g, 0 + (i * 3 + j), none⟩ = (fiC xs[i])[j]? := fun j hj => by
      rw [cell_row hg, Nat.zero_add, ← cellsF_at xs i j hi hj, ← h4, List.getElem?_take, if_pos (by omega), ← Array.getElem?_toList]
    have k0 := key 0 (by omega)
    have k1 := key 1 (by omega)
    have k2 := key 2 (by omega)
    exact ⟨g, 0, rfl, row_lt hg, k0, k1, k2⟩
theorem infoFi : (Try.prog.info? 59).map (fun i => (i.zero, i.size, i.bytes)) = some (some (.agg #[.string ⟨#[]⟩, .string ⟨#[]⟩, .string ⟨#[]⟩]), 3, 48) := by kernel_rfl
theorem addr_add0 (g j : Nat) : (Addr.mk g 0 none).add j = ⟨g, j, none⟩ := by
  cases j <;> simp [Addr.add]
theorem step_append_fi {ops : Array Oper} {o : Oper} {a : Act} {w : World} {K : Act → World → Prop} {Q : Exit → Act → World → Prop} {X : Prop} (hgd : o.guard = none) (s x : Operand)
    (ho : o.op = .call { callee := .builtin .append, args := #[s, x], argTypes := #[40, 40] })
    (base : Nat) (v : Value) (xs : List Fi) (hs : a.eval s = v) (hown : OwnFi w base v xs)
    (g : Nat) (cap : Nat) (y : Fi) (hx : a.eval x = .slice (some ⟨g, 0, none⟩) 1 cap) (hn : w.heap[g]? = some (.cells (fiC y).toArray 59 (0, 0)))
    (hlen : xs.length ≤ 1000000) (hbase : base ≤ w.heap.size)
    (h : ∀ v' w', OwnFi w' base v' (xs ++ [y]) → w.grownBy w' v.ownBlock → K (a.put o.dst v') w') :
    if Region.wanted o (yielded ops a.tmps) = true then Oper.wp Try.prog o a w K Q else X := by
  rw [if_pos (by simp [Region.wanted, hgd])]
  obtain ⟨i0, hi, hz0, hz1, hz2⟩ := info_parts infoFi
  refine wp_append_own w s x 40 ho base 59 i0 _ 3 48 Try.underlying40 hi hz0 hz1 hz2 rfl (by decide) v xs.length (cellsF xs) hs hown ⟨g, 0, none⟩ 1 cap (fiC y) hx rfl ?_ (fiC_cell y) (by unfold maxLen; omega) (by omega) hbase ?_
  · intro j u hj
    rw [addr_add0, cell_row hn]
    simpa using hj
  · intro v' w' hown' hg _
    exact h v' w' (by unfold OwnFi; rw [cellsF_snoc, List.length_append]; exact hown') hg
theorem own_ne {w : World} {base : Nat} {v : Value} {xs : List Fi} (h : OwnFi w base v xs) {q : Nat} {cs : Array Value} {t : TypeId} {fr : Nat × Nat} (hq : w.heap[q]? = some (.cells cs t fr)) (ht : t ≠ 59) : some q ≠ v.ownBlock := by
  intro e
  rcases h.2 with ⟨rfl, _⟩ | ⟨g, cap, cur, rfl, _, h1, _⟩
  · cases e
  · have : q = g := by simpa [Value.ownBlock] using e
    subst this
    rw [hq] at h1
    injection h1 with h1; injection h1 with _ h2; exact ht h2
theorem wpList_append_fi {ops : Array Oper} {rest : List Oper} {o : Oper} {a : Act} {w : World} {Q : Exit → Act → World → Prop} (hgd : o.guard = none) (s x : Operand)
    (ho : o.op = .call { callee := .builtin .append, args := #[s, x], argTypes := #[40, 40] })
    (base : Nat) (v : Value) (xs : List Fi) (hs : a.eval s = v) (hown : OwnFi w base v xs)
    (g : Nat) (cap : Nat) (y : Fi) (hx : a.eval x = .slice (some ⟨g, 0, none⟩) 1 cap) (hn : w.heap[g]? = some (.cells (fiC y).toArray 59 (0, 0)))
    (hlen : xs.length ≤ 1000000) (hbase : base ≤ w.heap.size)
    (h : ∀ v' w', OwnFi w' base v' (xs ++ [y]) → w.grownBy w' v.ownBlock → wpList Try.prog ops Q rest (a.put o.dst v') w') : wpList Try.prog ops Q (o :: rest) a w := by
  obtain ⟨i0, hi, hz0, hz1, hz2⟩ := info_parts infoFi
  refine wpList_append_own w hgd s x 40 ho base 59 i0 _ 3 48 Try.underlying40 hi hz0 hz1 hz2 rfl (by decide) v xs.length (cellsF xs) hs hown ⟨g, 0, none⟩ 1 cap (fiC y) hx rfl ?_ (fiC_cell y) (by unfold maxLen; omega) (by omega) hbase ?_
  · intro j u hj
    rw [addr_add0, cell_row hn]
    simpa using hj
  · intro v' w' hown' hg _
    exact h v' w' (by unfold OwnFi; rw [cellsF_snoc, List.length_append]; exact hown') hg
theorem OwnFi.below_grown {B : Nat} {w w' : World} {v : Value} {base : Nat} {xs : List Fi} (ho : OwnFi w base v xs) (hb : B ≤ base) (hB : B ≤ w.heap.size) (h : w.grownBy w' v.ownBlock) : Below B w w' :=
  ⟨h.os, h.tape, h.output, h.size, fun k hk => h.block k (by omega) (fun e => by
    rcases ho.2 with ⟨rfl, _⟩ | ⟨g, cap, cur, rfl, h1, _⟩
    · cases e
    · have : k = g := by simpa [Value.ownBlock] using e
      omega)⟩
theorem OwnFi.new {w : World} {base : Nat} {v : Value} {xs : List Fi} (h : OwnFi w base v xs) (o : Obj) : OwnFi (w.alloc o) base v xs := World.ownsRow.alloc h o
theorem OwnFi.dn {w : World} {base : Nat} {v : Value} {xs : List Fi} (h : OwnFi w base v xs) (n : Nat) : OwnFi (w.drewN n) base v xs := h
/-- all files of a disk as they are told -/
def tell (p : Nm × F) : Fi := ⟨p.1, p.2.b.take p.2.g, p.2.b.drop p.2.g⟩
def told (l : List (Nm × F)) : List Fi := l.map tell
/-- the names as a row -/
theorem names_at {w : World} {base : Nat} {v : Value} {ns : List Nm} {n : Nat} (hn : n = ns.length) (h : w.ownsRow base 9 1 v n (ns.map encStr)) :
    ∃ A cap, v = .slice A n cap ∧ ∀ i (hi : i < ns.length), ∃ b, A = some ⟨b, 0, none⟩ ∧ b < w.heap.size ∧ base ≤ b ∧ w.cell? ⟨b, i, none⟩ = some (.string (S ns[i])) ∧ w.frozen? ⟨b, i, none⟩ = false := by
  subst hn
  rcases h.2 with ⟨rfl, hn⟩ | ⟨g, cap, cur, rfl, hb, hg, h1, h2, h3, h4⟩
  · have hx : ns = [] := List.eq_nil_of_length_eq_zero hn
    subst hx
    exact ⟨none, 0, rfl, fun i hi => absurd hi (Nat.not_lt_zero _)⟩
  · refine ⟨some ⟨g, 0, none⟩, cap, rfl, fun i hi => ⟨g, rfl, row_lt hg, hb, ?_, frozen_row hg i⟩⟩
    rw [cell_row hg, ← Array.getElem?_toList]
    have : (ns.map encStr)[i]? = some (.string (S ns[i])) := by rw [List.getElem?_map, List.getElem?_eq_getElem hi]; rfl
    rw [← this, ← h4, List.getElem?_take, if_pos (by omega)]
theorem up_at {l : List (Nm × F)} (h : Up l) (i : Nat) (hi : i < l.length) : get l l[i].1 = some l[i].2 := (get_some h).2 (List.getElem_mem hi)

theorem slice_head (fb : List UInt8) (fg : Nat) (h : fg ≤ fb.length) (W : World) : (Instr.slice 9 (.string (S fb)) none (some (.int .i64 (fg : Int))) none).run Try.prog W = .ok (.string (S (fb.take fg))) W := by
  have y0 : (0 : Int) ≤ (fg : Int) := by omega
  have y1 : (fg : Int) ≤ ((S fb).size : Int) := by have := S_size fb; omega
  have y2 : fg ≤ (S fb).size := h
  rw [← S_take]
  go_simp
theorem slice_tail (fb : List UInt8) (fg : Nat) (h : fg ≤ fb.length) (W : World) : (Instr.slice 9 (.string (S fb)) (some (.int .i64 (fg : Int))) none none).run Try.prog W = .ok (.string (S (fb.drop fg))) W := by
  have y0 : (0 : Int) ≤ (fg : Int) := by omega
  have y1 : (fg : Int) ≤ ((S fb).size : Int) := by have := S_size fb; omega
  have y2 : fg ≤ (S fb).size := h
  rw [← S_drop]
  go_simp

set_option maxRecDepth 100000 in
set_option maxHeartbeats 2000000 in
theorem files_any (a b : Nat) (d : Dk) (w : World) (h : DkAt w a b d) :
    Calls Try.prog 28 #[.pointer (some ⟨a, 0, none⟩)] w fun z w' => ∃ v : Value, z = .returned v ∧ OwnFi w' w.heap.size v (told d.l) ∧ Below w.heap.size w w' := by
  have hmx : Try.prog.follows .mixedOrders = true := by kernel_rfl
  have HD := Lib.hid h
  have HN := Lib.hid (names_any a b d w h)
  clear h
  go_enter Try.func28, Try.ntmps28
  go_wp2_with fail
  refine HN.out.mono ?_
  rintro z W ⟨v, rfl, h1, h2⟩
  obtain ⟨A, cap, rfl, hat⟩ := names_at (List.length_map ..).symm h1
  have HAT := Lib.hid hat
  have HW := Lib.hid h2
  have HDW := Lib.hid (HD.out.below h2)
  have HL := Lib.hid HD.out.ok.len
  clear h1 h2 hat HN
  go_wp2_with fail
  go_loopw [3, 12] (fun x i wr => ∃ k : Nat, k ≤ d.l.length ∧ i = .int .i64 (k : Int) ∧ OwnFi wr W.heap.size x (told (d.l.take k)) ∧ Below W.heap.size W wr) (fun _ i _ => d.l.length - (intOf i).toNat)
  case atStart => exact ⟨0, Nat.zero_le _, rfl, ⟨rfl, Or.inl ⟨rfl, rfl⟩⟩, Below.refl _ _⟩
  case round =>
    obtain ⟨k, hk, rfl, hO, hB⟩ := hrel
    have HO := Lib.hid hO
    have HB := Lib.hid hB
    clear hO hB
    by_cases hlt : k < d.l.length
    · obtain ⟨nb, rfl, hb1, hb2, hc, -⟩ := HAT.out k (by simpa using hlt)
      have cn := (HB.out.cell (p := ⟨nb, k, none⟩) hb1).trans hc
      have hg := up_at HD.out.ok.up k hlt
      have HFO := Lib.hid (HD.out.ok.fs _ (List.getElem_mem hlt))
      have hl := (look_run (HDW.out.below HB.out).mp d.l[k].1 (by have := HD.out.ok.nm _ (List.getElem_mem hlt); simp only [mayN, Bool.and_eq_true, decide_eq_true_eq] at this; unfold maxLen; omega)).2
      obtain ⟨c0, c1, c2, c3, c4⟩ := (HDW.out.below HB.out).cell
      have HE := Lib.hid (show told (d.l.take (k + 1)) = told (d.l.take k) ++ [tell d.l[k]] by unfold told; rw [List.take_add_one, List.getElem?_eq_getElem hlt, List.map_append]; rfl)
      rw [hg] at hl
      simp only [List.getElem_map] at cn
      generalize d.l[k] = p at HFO hl HE cn hg
      obtain ⟨pn, fb, fg⟩ := p
      replace hl : (Instr.lookup 83 (.map (some b)) (.string (S pn)) false).run Try.prog wr = .ok (.agg #[.string (S fb), .int .i64 fg]) wr := hl
      have z0 : (0 : Int) ≤ (k : Int) := by omega
      have z1 : (k : Int) < (d.l.length : Int) := by omega
      have zk : IntKind.i64.wrap ((k : Int) + 1) = (k : Int) + 1 := by rw [IntKind.wrap_i64]; have := HL.out; omega
      have y2 : fg ≤ (S fb).size := HFO.out.1
      have hsl1 := slice_head fb fg HFO.out.1
      have hsl2 := slice_tail fb fg HFO.out.1
      clear hc hg hb2 hlt
      go_wp2_with fail
      clear hl c0 c1 c2 c3 c4 cn
      have f0 : (wr.alloc (.cells #[.string (S fb), .int .i64 (fg : Int)] 78)).cell? ⟨wr.heap.size, 0, none⟩ = some (.string (S fb)) := (bx_new wr _ _).cell 0
      have f1 : (wr.alloc (.cells #[.string (S fb), .int .i64 (fg : Int)] 78)).cell? ⟨wr.heap.size, 1, none⟩ = some (.int .i64 (fg : Int)) := (bx_new wr _ _).cell 1
      have f2 := bx_own wr #[.string (S fb), .int .i64 (fg : Int)] 78
      have hO := HO.out.new (.cells #[.string (S fb), .int .i64 (fg : Int)] 78)
      have hB := HB.out.alloc HB.out.size (.cells #[.string (S fb), .int .i64 (fg : Int)] 78)
      generalize wr.alloc (.cells #[.string (S fb), .int .i64 (fg : Int)] 78) = W1 at f0 f1 f2 hO hB ⊢
      have HOX : Hid (∀ o, OwnFi (W1.alloc o) W.heap.size u3 (told (d.l.take k))) := fun o => hO.new o
      have HXX : Hid (∀ o w', (W1.alloc o).drew.grownBy w' u3.ownBlock → Below W.heap.size W w' ∧ w'.cell? ⟨wr.heap.size, 0, none⟩ = some (.string (S fb)) ∧ w'.cell? ⟨wr.heap.size, 1, none⟩ = some (.int .i64 (fg : Int))) := fun o w' hg0 => by
        have hg : (W1.alloc o).grownBy w' u3.ownBlock := ⟨hg0.os, hg0.tape, hg0.output, hg0.size, hg0.block⟩
        have q := (hg.block wr.heap.size (by have := row_lt f2; simp; omega) (own_ne (hO.new o) ((Below.heap_alloc W1 o _ (row_lt f2)).trans f2) (by decide))).trans ((Below.heap_alloc W1 o _ (row_lt f2)).trans f2)
        exact ⟨(hB.alloc hB.size o).trans ((hO.new o).below_grown (Nat.le_refl _) (by have := hB.size; simp; omega) hg), cell_row q 0, cell_row q 1⟩
      have HSZ := Lib.hid (show (told (d.l.take k)).length ≤ 1000000 by have := HL.out; unfold told; rw [List.length_map, List.length_take]; omega)
      have HSB := Lib.hid (show ∀ o, W.heap.size ≤ (W1.alloc o).heap.size from fun o => by have := hB.size; simp; omega)
      clear hO hB f2
      go_region_held3 (fun w' => w'.cell? ⟨wr.heap.size, 0, none⟩ = some (.string (S fb)) ∧ w'.cell? ⟨wr.heap.size, 1, none⟩ = some (.int .i64 (fg : Int)))
        (first | assumption | (refine ⟨?_, ?_⟩ <;> assumption) | go_keep)
        ((first | (refine step_append_fi rfl _ _ rfl W.heap.size u3 _ rfl (HOX.out _) _ 1 ⟨pn, fb.take fg, fb.drop fg⟩ rfl (MapKept.heap_alloc W1 _).1 HSZ.out (HSB.out _) ?_; intro v' w' hO2 hg2; obtain ⟨hb2, e1, e2⟩ := HXX.out _ _ hg2)))
      all_goals
        have hO3 := (show OwnFi _ W.heap.size _ (told (d.l.take k) ++ [⟨pn, fb.take fg, fb.drop fg⟩]) by assumption)
        have hB3 := (show Below W.heap.size W _ by assumption)
        have HO3 := Lib.hid hO3
        have HB3 := Lib.hid hB3
        clear hO3 hB3
        go_wp2_with fail
        go_roundw
        case rel => exact ⟨k + 1, by omega, by go_num, by rw [HE.out]; exact HO3.out, HB3.out⟩
        case measure => simp [intOf] <;> omega
    · obtain rfl : k = d.l.length := by omega
      have z1 : ¬ ((d.l.length : Nat) : Int) < (d.l.length : Int) := by omega
      rw [List.take_length] at HO
      go_wp2_with fail
      go_ret
      exact ⟨_, rfl, ownsRow_base_a HO.out HW.out.size, HW.out.trans (HB.out.mono HW.out.size)⟩
end Go.Proofs.Ytddjoealckhepaa.Disk
