/-
  Ops: what an error was wrapped with.
-/
import Derived.Test.YtdaeiapogipjbaaDoorD15
namespace Go.Proofs.YtdaeiapogipjbaaDoor.Fault
open Go Go.RowKit
attribute [local go_sem] Oper.semAt_some

/-- the Ops as cells -/
def strs (xs : List Wr) : List Value := xs.map fun x => .string x.op
theorem strs_length (xs : List Wr) : (strs xs).length = xs.length := List.length_map _
theorem strs_take (xs : List Wr) (i : Nat) (hi : i < xs.length) : strs (xs.take (i + 1)) = strs (xs.take i) ++ [.string (xs.getD i default).op] := by
  have e : xs.take (i + 1) = xs.take i ++ [xs.getD i default] := by
    rw [List.take_add_one, List.getElem?_eq_getElem hi]
    simp [List.getD_eq_getElem?_getD, List.getElem?_eq_getElem hi]
  rw [e]; unfold strs; rw [List.map_append]; rfl
theorem infoStr : (Tryd.prog.info? 9).map (fun i => (i.zero, i.size, i.bytes)) = some (some (.string ⟨#[]⟩), 1, 16) := by kernel_rfl
theorem stays_row {T : Nat → Prop} {hi : Nat} {t : TypeId} {v : Value} {k : Nat} {bs : List Value} (hT : ∀ r, T r → r < hi) : Stays T (fun W => W.ownsRow hi t 1 v k bs) := by
  rintro W W' row hown hg hr
  refine hown.kept hg ?_
  rcases hown.2 with ⟨rfl, _⟩ | ⟨g, cap, cur, rfl, hg', _⟩
  · exact .inl rfl
  · refine .inr fun e => ?_
    have := hT g (hr g (by rw [← e]; rfl))
    omega

/-- what a region leaves that ends normally, in just that world, whatever its slots -/
def Landed (Y : World) : Exit → Act → World → Prop
  | .normal, a', X' => X' = Y
  | _, _, _ => False
theorem landed_normal {Y : World} {ex : Exit} {a' : Act} {X' : World} (h : Landed Y ex a' X') : ex = .normal ∧ X' = Y := by
  cases ex <;> first | exact ⟨rfl, h⟩ | exact h.elim

/-- v is a slice in w that holds these Ops -/
def Strs (w : World) (v : Value) (xs : List Wr) : Prop := ∃ A cap, v = .slice A xs.length cap ∧ xs.length ≤ cap ∧ ∀ i, i < xs.length → ∃ g, A = some ⟨g, 0, none⟩ ∧ w.cell? ⟨g, i, none⟩ = some (.string (xs.getD i default).op) ∧ g < w.heap.size
theorem Strs.below {w w' : World} {v : Value} {xs : List Wr} (h : Strs w v xs) (hb : Below w.heap.size w w') : Strs w' v xs := by
  obtain ⟨A, cap, h1, h2, h3⟩ := h
  exact ⟨A, cap, h1, h2, fun i hi => by obtain ⟨g, a, b, c⟩ := h3 i hi; exact ⟨g, a, (World.cell?_of_block (hb.block g c)).trans b, Nat.lt_of_lt_of_le c hb.size⟩⟩
theorem strs_of_row {w : World} {hi : Nat} {v : Value} {xs : List Wr} (h : w.ownsRow hi 9 1 v xs.length (strs xs)) : Strs w v xs := by
  rcases h.2 with ⟨rfl, h0⟩ | ⟨g, cap, cur, rfl, _, hg, hn, _, hcs, ht⟩
  · have : xs = [] := List.eq_nil_of_length_eq_zero h0
    subst this
    exact ⟨none, 0, rfl, Nat.le_refl _, fun i hi => absurd hi (by simp)⟩
  · refine ⟨_, cap, rfl, hn, fun i hi => ⟨g, rfl, ?_, (Array.getElem?_eq_some_iff.1 hg).1⟩⟩
    have e : cur[i]? = some (.string (xs.getD i default).op) := by
      rw [Nat.mul_one] at ht
      have h1 : (strs xs)[i]? = cur.toList[i]? := by rw [← ht, List.getElem?_take, if_pos hi]
      rw [← Array.getElem?_toList, ← h1]
      unfold strs
      rw [List.getElem?_map, List.getElem?_eq_getElem hi, List.getD_eq_getElem?_getD, List.getElem?_eq_getElem hi]; rfl
    simp [World.cell?, hg, e]

theorem step_append_run {F : Fence} {n : Nat} {P : Program} {ops : Array Oper} {o : Oper} {a : Act} {w : World} {K : Act → World → Prop} {Q : Exit → Act → World → Prop} {E : Prop} {t : TypeId} (hgd : o.guard = none) (s x : Operand)
    (ho : o.op = .call { callee := .builtin .append, args := #[s, x], argTypes := #[t, t] }) (v' : Value) (w' : World) (hrun : (Builtin.append_ #[t, t] o.type #[a.eval s, a.eval x]).run P w = .ok v' w') (h : K (a.put o.dst v') w') :
    if Region.wanted o (yielded ops a.tmps) = true then Oper.wpIn F n P o a w K Q else E := by
  rw [if_pos (by simp [Region.wanted, hgd])]
  unfold Oper.wpIn
  refine ⟨?_, ?_⟩
  · simp [Oper.about, ho, resolve, Target.leads, Sem.run_pure]
  · rw [Oper.semAt_plain F _ _ (by rw [ho]; intro c hc'; cases hc')]
    simp [execOp, ho, resolve, invoke, builtin, hrun, Result.andThen]
    exact h

set_option maxRecDepth 100000 in
set_option maxHeartbeats 4000000 in
theorem ops_in (p : Nat → Nat) (e : Nat → Value) (xs : List Wr) (base : Value) (w : World) (C : Chain w.heap.size w p e xs) (hbase : e xs.length = base) (hP : Plain base) (hI : Ifc base) (hN : NoUnw base) (hlen : xs.length < 1099511627776) :
    CallsIn Fence.wide 0 Tryd.prog 14 #[e 0] w fun ev w' => ∃ v, ev = .returned v ∧ Strs w' v xs ∧ Below w.heap.size w w' := by
  have h0 : Ifc (e 0) := C.ifc (by rw [hbase]; exact hI) 0 (Nat.zero_le _)
  have hwr := fun W => wraps_in 0 (e 0) h0 W
  refine callsIn_of_wp_marks Tryd.func14 rfl trivial ?_ rfl
  simp only [Tryd.ntmps14, List.size_toArray, List.length_cons, List.length_nil, Nat.reduceAdd, Nat.reduceSub, Array.replicate_succ, Array.replicate_zero, List.push_toArray, List.append_toArray, List.nil_append, List.cons_append]
  obtain ⟨W0, hW0⟩ : ∃ W0, (w.alloc (.cells #[.slice none 0 0] 31)).alloc (.cells #[e 0] 29) = W0 := ⟨_, rfl⟩
  have hsz : W0.heap.size = w.heap.size + 2 := by rw [← hW0]; simp
  have bL : Boxed W0 w.heap.size 31 (.slice none 0 0) := by rw [← hW0]; exact (Boxed.new w _ _).alloc _
  have bB : Boxed W0 (w.heap.size + 1) 29 (e 0) := by
    rw [← hW0]; have := Boxed.new (w.alloc (.cells #[.slice none 0 0] 31)) 29 (e 0); simpa using this
  have hB0 : Below w.heap.size w W0 := by rw [← hW0]; exact ((Below.refl _ w).alloc (Nat.le_refl _) _).alloc (by simp) _
  have HLEN := Lib.hid hlen
  clear hlen h0
  gi_wp2_with (refine ⟨trivial, rfl, ?_⟩; gi_at_call 26; refine (hwr _).mono ?_; rintro ev w' ⟨rfl, rfl⟩)
  try rw [hW0]
  clear hwr; try clear hW0
  refine ranged (gf := 39) (lb := #[.pointer (some ⟨w.heap.size + 1, 0, none⟩)]) (N := xs.length) (o := w.heap.size) (b := w.heap.size + 1) rfl (enters_of Tryd.func39 (by kernel_rfl) rfl) (by omega) (by omega) rfl
    (wraps_seq w.heap.size (w.heap.size + 1) p e xs base W0 bB (C.below hB0 (Nat.le_refl _)) (by omega) hbase hP hI hN HLEN.out)
    (fun hi i X => ∃ v, Boxed X w.heap.size 31 v ∧ X.ownsRow hi 9 1 v i (strs (xs.take i)) ∧ Below w.heap.size w X) (fun _ _ _ => False)
    (fun hi i hh W W' row hs hg hr => by
      obtain ⟨v, h1⟩ := hs
      exact ⟨v, ((stays_boxed (by omega) _ _).and ((stays_row (fun r hr => by omega)).and (stays_below (Nat.le_refl _) (by omega)))) W W' row h1 hg hr⟩) (fun _ _ _ => stays_pure _ _)
    (fun X hb _ => ⟨.slice none 0 0, (hb.block _ (by omega)).trans bL, World.ownsRow_nil _ _ _ _, hB0.trans (hb.mono (by omega))⟩) ?_ ?assign ?body ?done ?stop
  case assign =>
    intro l2 i X K hi hK
    gi_wp2
    exact hK
  case body =>
    rintro l2 hi i X hh1 hh2 hi' ⟨v, hL, hrow, hBX⟩
    have C2 : Chain w.heap.size X p e xs := C.below hBX (Nat.le_refl _)
    have k0 := C2.c0 i hi'
    have hST := Lib.hid (strs_take xs i hi')
    generalize (xs.getD i default).op = y at k0 hST
    obtain ⟨i0, hi0, hz0, hz1, hz2⟩ := info_parts infoStr
    have hnw : ∀ j u, ([.string y] : List Value)[j]? = some u → ((X.alloc (.cells #[.string y] 9)).drew).cell? ((⟨X.heap.size, 0, none⟩ : Addr).add j) = some u := by
      intro j u hj
      cases j with
      | zero => simp at hj; subst hj; exact (Boxed.new X 9 (.string y)).cell
      | succ j => simp at hj
    have hrowY : ((X.alloc (.cells #[.string y] 9)).drew).ownsRow hi 9 1 v i (strs (xs.take i)) := ((stays_row (T := fun _ => False) (fun _ h => h.elim)).below hrow (((Below.refl _ X).alloc (Nat.le_refl _) _).trans (below_drew _ _)))
    obtain ⟨v', w', hrun, hown', hgrow, _⟩ := run_append_own (w := (X.alloc (.cells #[.string y] 9)).drew) (P := Tryd.prog) hi 31 31 9 i0 (.string ⟨#[]⟩) 1 16 Tryd.underlying31 hi0 hz0 hz1 hz2 rfl (by decide) v i (strs (xs.take i)) hrowY ⟨X.heap.size, 0, none⟩ 1 1 [.string y] rfl hnw
      (fun u hu => by simp at hu; subst hu; rfl) (by have := HLEN.out; unfold maxLen; omega) (by have := HLEN.out; omega) (by show hi ≤ (X.alloc _).heap.size; simp; omega)
    have hrun2 : (Builtin.append_ #[31, 31] 31 #[v, .slice (some ⟨X.heap.size, 0, none⟩) 1 1]).run Tryd.prog (X.drew.alloc (.cells #[.string y] 9)) = .ok v' w' := hrun
    have hne : v.ownBlock ≠ some w.heap.size := row_ne hrow (by omega)
    have hL1 : Boxed ((X.alloc (.cells #[.string y] 9)).drew) w.heap.size 31 v := hL.alloc _
    have hL2 : Boxed w' w.heap.size 31 v := hL1.kept hgrow (fun h => hne h.symm)
    obtain ⟨g', cap', rfl⟩ := ownsRow_succ hown'
    have l1 := hL.cell; have l2' := hL2.cell; have l3 := hL2.frozen; have l4 := (hL.alloc (.cells #[.string y] 9)).cell
    have hmx : Tryd.prog.follows .mixedOrders = true := by kernel_rfl
    have HOWN := Lib.hid hown'
    have HG := Lib.hid hgrow
    have HL2 := Lib.hid hL2
    have HROW := Lib.hid hrow
    have HBX := Lib.hid hBX
    clear hown' hgrow hL2 hL1 hL hrow hBX hrowY hnw C2 hz0 hz1 hz2 hi0
    gi_wp2
    refine wpIn_mono (Q := Landed (w'.setCell ⟨w.heap.size, 0, none⟩ (.slice (some ⟨g', 0, none⟩) (i + 1) cap'))) ?region ?after
    case region =>
      refine wpIn_region_any (by assumption) ?_
      change wpAnyIn _ _ _ _ _ _ _ _ _ (World.drew _)
      refine wpAnyIn_ready (rs := [0, 1]) (by kernel_rfl) (by simp) ?_
      refine AllReadyIn.cons rfl (fun K hK => ?_) ?_
      · go_simp
        refine hK _ _ ?_
        clear hK K
        refine wpAnyIn_ready (rs := [1]) (by kernel_rfl) (by simp) ?_
        refine AllReadyIn.cons rfl (fun K hK => ?_) AllReadyIn.nil
        go_simp
        refine hK _ _ ?_
        clear hK K
        refine wpAnyIn_ready (rs := [2]) (by kernel_rfl) (by simp) ?_
        refine AllReadyIn.cons rfl (fun K hK => ?_) AllReadyIn.nil
        go_simp
        refine hK _ _ ?_
        clear hK K
        refine wpAnyIn_ready (rs := [3]) (by kernel_rfl) (by simp) ?_
        refine AllReadyIn.cons rfl (fun K hK => ?_) AllReadyIn.nil
        go_simp
        refine hK _ _ ?_
        clear hK K
        refine wpAnyIn_ready (rs := [4]) (by kernel_rfl) (by simp) ?_
        refine AllReadyIn.cons rfl (fun K hK => ?_) AllReadyIn.nil
        go_simp
        refine hK _ _ ?_
        clear hK K
        refine wpAnyIn_ready (rs := [5]) (by kernel_rfl) (by simp) ?_
        refine AllReadyIn.cons rfl (fun K hK => ?_) AllReadyIn.nil
        go_simp
        refine hK _ _ ?_
        clear hK K
        refine wpAnyIn_ready (rs := [6]) (by kernel_rfl) (by simp) ?_
        refine AllReadyIn.cons rfl (fun K hK => ?_) AllReadyIn.nil
        refine step_append_run rfl (.tmp 8) (.tmp 13) rfl _ _ hrun ?_
        refine hK _ _ ?_
        clear hK K
        refine wpAnyIn_ready (rs := [7]) (by kernel_rfl) (by simp) ?_
        refine AllReadyIn.cons rfl (fun K hK => ?_) AllReadyIn.nil
        go_simp
        refine hK _ _ ?_
        clear hK K
        exact wpAnyIn_done (by kernel_rfl) rfl _
      refine AllReadyIn.cons rfl (fun K hK => ?_) AllReadyIn.nil
      go_simp
      refine hK _ _ ?_
      clear hK K
      refine wpAnyIn_ready (rs := [0, 2]) (by kernel_rfl) (by simp) ?_
      refine AllReadyIn.cons rfl (fun K hK => ?_) ?_
      · go_simp
        refine hK _ _ ?_
        clear hK K
        refine wpAnyIn_ready (rs := [2]) (by kernel_rfl) (by simp) ?_
        refine AllReadyIn.cons rfl (fun K hK => ?_) AllReadyIn.nil
        go_simp
        refine hK _ _ ?_
        clear hK K
        refine wpAnyIn_ready (rs := [3]) (by kernel_rfl) (by simp) ?_
        refine AllReadyIn.cons rfl (fun K hK => ?_) AllReadyIn.nil
        go_simp
        refine hK _ _ ?_
        clear hK K
        refine wpAnyIn_ready (rs := [4]) (by kernel_rfl) (by simp) ?_
        refine AllReadyIn.cons rfl (fun K hK => ?_) AllReadyIn.nil
        go_simp
        refine hK _ _ ?_
        clear hK K
        refine wpAnyIn_ready (rs := [5]) (by kernel_rfl) (by simp) ?_
        refine AllReadyIn.cons rfl (fun K hK => ?_) AllReadyIn.nil
        go_simp
        refine hK _ _ ?_
        clear hK K
        refine wpAnyIn_ready (rs := [6]) (by kernel_rfl) (by simp) ?_
        refine AllReadyIn.cons rfl (fun K hK => ?_) AllReadyIn.nil
        refine step_append_run rfl (.tmp 8) (.tmp 13) rfl _ _ hrun ?_
        refine hK _ _ ?_
        clear hK K
        refine wpAnyIn_ready (rs := [7]) (by kernel_rfl) (by simp) ?_
        refine AllReadyIn.cons rfl (fun K hK => ?_) AllReadyIn.nil
        go_simp
        refine hK _ _ ?_
        clear hK K
        exact wpAnyIn_done (by kernel_rfl) rfl _
      refine AllReadyIn.cons rfl (fun K hK => ?_) AllReadyIn.nil
      go_simp
      refine hK _ _ ?_
      clear hK K
      refine wpAnyIn_ready (rs := [0, 3]) (by kernel_rfl) (by simp) ?_
      refine AllReadyIn.cons rfl (fun K hK => ?_) ?_
      · go_simp
        refine hK _ _ ?_
        clear hK K
        refine wpAnyIn_ready (rs := [3]) (by kernel_rfl) (by simp) ?_
        refine AllReadyIn.cons rfl (fun K hK => ?_) AllReadyIn.nil
        go_simp
        refine hK _ _ ?_
        clear hK K
        refine wpAnyIn_ready (rs := [4]) (by kernel_rfl) (by simp) ?_
        refine AllReadyIn.cons rfl (fun K hK => ?_) AllReadyIn.nil
        go_simp
        refine hK _ _ ?_
        clear hK K
        refine wpAnyIn_ready (rs := [5]) (by kernel_rfl) (by simp) ?_
        refine AllReadyIn.cons rfl (fun K hK => ?_) AllReadyIn.nil
        go_simp
        refine hK _ _ ?_
        clear hK K
        refine wpAnyIn_ready (rs := [6]) (by kernel_rfl) (by simp) ?_
        refine AllReadyIn.cons rfl (fun K hK => ?_) AllReadyIn.nil
        refine step_append_run rfl (.tmp 8) (.tmp 13) rfl _ _ hrun ?_
        refine hK _ _ ?_
        clear hK K
        refine wpAnyIn_ready (rs := [7]) (by kernel_rfl) (by simp) ?_
        refine AllReadyIn.cons rfl (fun K hK => ?_) AllReadyIn.nil
        go_simp
        refine hK _ _ ?_
        clear hK K
        exact wpAnyIn_done (by kernel_rfl) rfl _
      refine AllReadyIn.cons rfl (fun K hK => ?_) AllReadyIn.nil
      go_simp
      refine hK _ _ ?_
      clear hK K
      refine wpAnyIn_ready (rs := [0, 4]) (by kernel_rfl) (by simp) ?_
      refine AllReadyIn.cons rfl (fun K hK => ?_) ?_
      · go_simp
        refine hK _ _ ?_
        clear hK K
        refine wpAnyIn_ready (rs := [4]) (by kernel_rfl) (by simp) ?_
        refine AllReadyIn.cons rfl (fun K hK => ?_) AllReadyIn.nil
        go_simp
        refine hK _ _ ?_
        clear hK K
        refine wpAnyIn_ready (rs := [5]) (by kernel_rfl) (by simp) ?_
        refine AllReadyIn.cons rfl (fun K hK => ?_) AllReadyIn.nil
        go_simp
        refine hK _ _ ?_
        clear hK K
        refine wpAnyIn_ready (rs := [6]) (by kernel_rfl) (by simp) ?_
        refine AllReadyIn.cons rfl (fun K hK => ?_) AllReadyIn.nil
        refine step_append_run rfl (.tmp 8) (.tmp 13) rfl _ _ hrun ?_
        refine hK _ _ ?_
        clear hK K
        refine wpAnyIn_ready (rs := [7]) (by kernel_rfl) (by simp) ?_
        refine AllReadyIn.cons rfl (fun K hK => ?_) AllReadyIn.nil
        go_simp
        refine hK _ _ ?_
        clear hK K
        exact wpAnyIn_done (by kernel_rfl) rfl _
      refine AllReadyIn.cons rfl (fun K hK => ?_) AllReadyIn.nil
      go_simp
      refine hK _ _ ?_
      clear hK K
      refine wpAnyIn_ready (rs := [0, 5]) (by kernel_rfl) (by simp) ?_
      refine AllReadyIn.cons rfl (fun K hK => ?_) ?_
      · go_simp
        refine hK _ _ ?_
        clear hK K
        refine wpAnyIn_ready (rs := [5]) (by kernel_rfl) (by simp) ?_
        refine AllReadyIn.cons rfl (fun K hK => ?_) AllReadyIn.nil
        go_simp
        refine hK _ _ ?_
        clear hK K
        refine wpAnyIn_ready (rs := [6]) (by kernel_rfl) (by simp) ?_
        refine AllReadyIn.cons rfl (fun K hK => ?_) AllReadyIn.nil
        refine step_append_run rfl (.tmp 8) (.tmp 13) rfl _ _ hrun ?_
        refine hK _ _ ?_
        clear hK K
        refine wpAnyIn_ready (rs := [7]) (by kernel_rfl) (by simp) ?_
        refine AllReadyIn.cons rfl (fun K hK => ?_) AllReadyIn.nil
        go_simp
        refine hK _ _ ?_
        clear hK K
        exact wpAnyIn_done (by kernel_rfl) rfl _
      refine AllReadyIn.cons rfl (fun K hK => ?_) AllReadyIn.nil
      go_simp
      refine hK _ _ ?_
      clear hK K
      refine wpAnyIn_ready (rs := [0]) (by kernel_rfl) (by simp) ?_
      refine AllReadyIn.cons rfl (fun K hK => ?_) AllReadyIn.nil
      go_simp
      refine hK _ _ ?_
      clear hK K
      refine wpAnyIn_ready (rs := [6]) (by kernel_rfl) (by simp) ?_
      refine AllReadyIn.cons rfl (fun K hK => ?_) AllReadyIn.nil
      refine step_append_run rfl (.tmp 8) (.tmp 13) rfl _ _ hrun ?_
      refine hK _ _ ?_
      clear hK K
      refine wpAnyIn_ready (rs := [7]) (by kernel_rfl) (by simp) ?_
      refine AllReadyIn.cons rfl (fun K hK => ?_) AllReadyIn.nil
      go_simp
      refine hK _ _ ?_
      clear hK K
      exact wpAnyIn_done (by kernel_rfl) rfl _
    case after =>
      intro ex a' X' hq
      obtain ⟨rfl, rfl⟩ := landed_normal hq
      have hd : Below X.heap.size X ((X.alloc (.cells #[.string y] 9)).drew) := ((Below.refl _ X).alloc (Nat.le_refl _) _).trans (below_drew _ _)
      have hgw := HG.out
      have hgs : X.heap.size ≤ ((X.alloc (.cells #[.string y] 9)).drew).heap.size := hd.size
      have kr : ∀ r, r < X.heap.size → v.ownBlock ≠ some r → w'.heap[r]? = X.heap[r]? := fun r h1 h2 => (hgw.block r (by omega) (fun h => h2 h.symm)).trans (hd.block r h1)
      have ks : X.heap.size ≤ w'.heap.size := Nat.le_trans hgs hgw.size
      have hvn : ∀ r, r < hi → v.ownBlock ≠ some r := fun r hr => row_ne HROW.out hr
      have kp : Kp w.heap.size W0.heap.size (w.heap.size + 1) hi X w' := ⟨ks, fun r h1 _ => kr r (by omega) (hvn r h1)⟩
      have hs1 := Kp.set (o := w.heap.size) (B := W0.heap.size) (b := w.heap.size + 1) (hi := hi) (c := w.heap.size) (W := w') (by omega) (Nat.le_refl _) (by omega) (by omega) (.slice (some ⟨g', 0, none⟩) (i + 1) cap')
      have hbw : Below w.heap.size X w' := ⟨hgw.os, hgw.tape, hgw.output, ks, fun r h1 => kr r (by omega) (hvn r (by omega))⟩
      have fin : roundP w.heap.size W0.heap.size (w.heap.size + 1) hi (fun X => ∃ v, Boxed X w.heap.size 31 v ∧ X.ownsRow hi 9 1 v (i + 1) (strs (xs.take (i + 1))) ∧ Below w.heap.size w X) (fun _ _ => False) X .normal a' (w'.setCell ⟨w.heap.size, 0, none⟩ (.slice (some ⟨g', 0, none⟩) (i + 1) cap')) := by
        refine ⟨kp.trans hs1, _, HL2.out.set _, ?_, (HBX.out.trans hbw).setCell (p := ⟨w.heap.size, 0, none⟩) (Nat.le_refl _) _⟩
        rw [hST.out]
        exact HOWN.out.kept (grownBy_setCell' w' w.heap.size _) (.inr (row_ne HOWN.out (by omega)))
      exact fin
  case done =>
    rintro hi X hh1 hh2 ⟨v, hL, hrow, hBX⟩ hK
    rw [List.take_length] at hrow
    have l1 := hL.cell
    have HROW := Lib.hid hrow
    have HBX := Lib.hid hBX
    clear hL hrow hBX
    gi_wp2
    refine ⟨by simp, .inl ⟨_, _, rfl, run_takeDeferred hK, ?_⟩⟩
    refine ⟨_, results_tmp rfl _ _ _, v, rfl, ?_, HBX.out.trans (belowK_b (w := w) (Nat.le_refl _) X _ _ _ (by omega) hK rfl rfl)⟩
    exact strs_of_row (ownsRow_putObj HROW.out _ hK rfl)
  case stop =>
    rintro hi c X _ _ h _
    exact h.elim

end Go.Proofs.YtdaeiapogipjbaaDoor.Fault
