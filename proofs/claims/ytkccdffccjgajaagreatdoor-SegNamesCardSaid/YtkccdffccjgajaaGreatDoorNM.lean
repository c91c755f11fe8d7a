import Derived.Test.YtkccdffccjgajaaGreatDoorNK
import Derived.Maps.AppendAt
/-
  The walk of segments: its iterator.
-/
namespace Go.Proofs.YtkccdffccjgajaaGreatDoor.Seg
open Go Go.RowKit
open Go.Proofs.YtkccdffccjgajaaGreatDoor.Wire (S S_list S_size cell_row frozen_row row_lt heap_set U)
open Go.Proofs.YtkccdffccjgajaaGreatDoor.Frame Go.Proofs.YtkccdffccjgajaaGreatDoor.Ranges
attribute [local go_sem] Oper.semAt_some

theorem segs_in (q : Int) (most : Int) (f : FuncId) (lb : Array Value) (w : World) :
    Calls Tryz.prog 51 #[.int .i64 q, .int .i64 most, .func (.func f) #[] lb] w fun e w' => e = .returned (.func (.func 79) #[] #[.pointer (some ⟨w.heap.size, 0, none⟩), .pointer (some ⟨w.heap.size + 2, 0, none⟩), .pointer (some ⟨w.heap.size + 1, 0, none⟩)]) ∧
      w' = ((w.alloc (.cells #[.int .i64 q] 2)).alloc (.cells #[.int .i64 most] 3)).alloc (.cells #[.func (.func f) #[] lb] 93) := by
  go_enter Tryz.func51, Tryz.ntmps51
  go_wp2_with fail
  go_ret
  exact ⟨rfl, rfl⟩
set_option maxRecDepth 100000 in
set_option maxHeartbeats 4000000 in
/-- **segments** -/
theorem segs_seq (most : Int) (hm : (Lit.int .i64 most).wf = true) (q0 : Nat) (xs : List ByteArray) (cap : Nat) (hl : xs.length ≤ 1000000) (hok : okP q0 (bytesP xs)) (A : Option Addr) (bp bf ba bm o m : Nat) (w : World)
    (hx : Strs w A xs) (hA : ∀ a, A = some a → 0 < xs.length → a.block < o) (ho : o ≤ m) (h1 : m ≤ bp) (h2 : m ≤ bf) (h3 : m ≤ ba) (h4 : m ≤ bm)
    (hP : Boxed w bp 23 (.slice A xs.length cap)) (hF : Boxed w bf 2 (.int .i64 (q0 : Int))) (hS : Boxed w ba 93 (.func (.func 82) #[] #[.pointer (some ⟨bp, 0, none⟩)])) (hM : Boxed w bm 3 (.int .i64 most)) :
    Seq2 Tryz.prog 79 #[.pointer (some ⟨bf, 0, none⟩), .pointer (some ⟨ba, 0, none⟩), .pointer (some ⟨bm, 0, none⟩)] (RelS most q0 xs) (grp most q0 xs).length o m w := by
  intro l J W hW hsz hJ hY h0
  have bP : Boxed W bp 23 (.slice A xs.length cap) := (hW.block bp hP.lt).trans hP
  have bF : Boxed W bf 2 (.int .i64 (q0 : Int)) := (hW.block bf hF.lt).trans hF
  have bS : Boxed W ba 93 (.func (.func 82) #[] #[.pointer (some ⟨bp, 0, none⟩)]) := (hW.block ba hS.lt).trans hS
  have bM : Boxed W bm 3 (.int .i64 most) := (hW.block bm hM.lt).trans hM
  have lP := hP.lt; have lF := hF.lt; have lS := hS.lt; have lM := hM.lt
  have hx2 := hx.below hW
  have HBE := Lib.hid (fun W => begin_any q0 (by have := hok.1; omega) W)
  have HSTEP := Lib.hid (fun (bl by_ bw : Nat) a1 a2 a3 a4 => st_step most hm q0 xs hl hok A l bl bm by_ bw o m w.heap.size W.heap.size J hA ho h4 lM (by omega) a1 a2 a3 a4 hJ hY)
  obtain ⟨W1, hW1⟩ : ∃ W1, W.alloc (.cells #[.func (.yield l) #[] #[]] 117) = W1 := ⟨_, rfl⟩
  have hz1 : W1.heap.size = W.heap.size + 1 := by rw [← hW1]; simp
  have hb1 : Below W.heap.size W W1 := by rw [← hW1]; exact (Below.refl _ _).alloc (Nat.le_refl _) _
  have bY : Boxed W1 W.heap.size 117 (.func (.yield l) #[] #[]) := by rw [← hW1]; exact Boxed.new W _ _
  have cF : W1.cell? ⟨bf, 0, none⟩ = some (.int .i64 (q0 : Int)) := (show Boxed W1 bf 2 (.int .i64 (q0 : Int)) from (hb1.block bf bF.lt).trans bF).cell
  have HJ1 := Lib.hid (h0 W1 hb1)
  have HH := Lib.hid (And.intro bP (And.intro bS (And.intro bM (And.intro hb1 (And.intro bY (And.intro hx2 (And.intro hz1 hW)))))))
  have HN := Lib.hid (And.intro hA (And.intro ho (And.intro h1 (And.intro h2 (And.intro h3 (And.intro h4 (And.intro lP (And.intro lF (And.intro lS (And.intro lM (And.intro hsz (And.intro hl hok))))))))))))
  have HY := Lib.hid hY
  clear bP bF bS bM lP lF lS lM hx2 hb1 bY hz1 hA ho h1 h2 h3 h4 hsz hl hok hP hF hS hM hx hW hJ hY h0 hm
  refine callsIn_of_wp Tryz.func79 rfl trivial ?_ rfl
  simp only [Tryz.ntmps79, List.size_toArray, List.length_cons, List.length_nil, Nat.reduceAdd, Nat.reduceSub, Array.replicate_succ, Array.replicate_zero, List.push_toArray, List.append_toArray, List.nil_append, List.cons_append]
  refine wpIn_wide.2 ?_
  go_wp2_with fail
  refine (HBE.out W1).mono ?_
  rintro e W2 ⟨rfl, hw2, hb2⟩
  have h := HH.out
  obtain ⟨bP, bS, bM, hb1, bY, hx2, hz1, hW⟩ := h
  have hz2 := hb2.size
  obtain ⟨W4, hW4⟩ : ∃ W4, (W2.alloc (.cells #[.pointer (some ⟨W1.heap.size, 0, none⟩)] 83)).alloc (.cells #[.bool true] 4) = W4 := ⟨_, rfl⟩
  have hb4 : Below W2.heap.size W2 W4 := by rw [← hW4]; exact ((Below.refl _ _).alloc (Nat.le_refl _) _).alloc (by simp) _
  have hz4 : W4.heap.size = W2.heap.size + 2 := by rw [← hW4]; simp
  have bL4 : Boxed W4 W2.heap.size 83 (.pointer (some ⟨W1.heap.size, 0, none⟩)) := by rw [← hW4]; exact (Boxed.new W2 _ _).alloc _
  have bW4 : Boxed W4 (W2.heap.size + 1) 4 (.bool true) := by
    rw [← hW4]; have := Boxed.new (W2.alloc (.cells #[.pointer (some ⟨W1.heap.size, 0, none⟩)] 83)) 4 (.bool true); simpa using this
  have up : ∀ k, k < W.heap.size → W4.heap[k]? = W.heap[k]? := fun k hk => (hb4.block k (by omega)).trans ((hb2.block k (by omega)).trans (hb1.block k hk))
  have bS4 : Boxed W4 ba 93 (.func (.func 82) #[] #[.pointer (some ⟨bp, 0, none⟩)]) := (up ba bS.lt).trans bS
  have bP4 : Boxed W4 bp 23 (.slice A xs.length cap) := (up bp bP.lt).trans bP
  have bM4 : Boxed W4 bm 3 (.int .i64 most) := (up bm bM.lt).trans bM
  have bY4 : Boxed W4 W.heap.size 117 (.func (.yield l) #[] #[]) := (hb4.block _ (by omega)).trans ((hb2.block _ (by omega)).trans bY)
  have cS := bS4.cell
  have w4 : Opn.Wr (q0 : Int) W1.heap.size W4 W1.heap.size (segH q0) := hw2.below hb4
  have x4 : Strs W4 A xs := strs_over hx2 (by omega) (fun a ha hp => by
    obtain ⟨hA, ho, h1, _, _, _, lP, _, _, _, hsz, _⟩ := HN.out
    have := hA a ha hp
    exact up _ (by omega))
  have HST : Hid (St most q0 xs A l W2.heap.size bm W.heap.size (W2.heap.size + 1) W.heap.size J 0 0 (fun _ => False) q0 [] W1 W4) := Lib.hid {
    strs := x4, wz := by omega, low := fun _ h => h.elim, inn := fun _ h => h.elim, jj := HJ1.out,
    grw := ⟨hb4.os.trans hb2.os, hb4.tape.trans hb2.tape, hb4.output.trans hb2.output, by omega, fun k h1 _ => (hb4.block k (by omega)).trans (hb2.block k h1)⟩,
    nl := fun h => h, nw := fun h => h, ny := fun h => h, ol := by have := hw2.lt; omega, ow := by have := hw2.lt; omega,
    cb := ⟨bL4, bM4, bY4, bW4⟩,
    wr := by rw [segB_nil]; exact w4,
    sp := rfl, num := rfl, len := by rw [segN_nil]; omega }
  have HV := Lib.hid (values_seq A cap xs HN.out.2.2.2.2.2.2.2.2.2.2.2.1 80 (enters_of Tryz.func80 (by kernel_rfl) rfl)
    #[.pointer (some ⟨W2.heap.size, 0, none⟩), .pointer (some ⟨bm, 0, none⟩), .pointer (some ⟨W.heap.size, 0, none⟩), .pointer (some ⟨W2.heap.size + 1, 0, none⟩)]
    (fun j X => ∃ i R q cur W0, St most q0 xs A l W2.heap.size bm W.heap.size (W2.heap.size + 1) W.heap.size J j i R q cur W0 X)
    (fun j wr h => by obtain ⟨_, _, _, _, _, h⟩ := h; exact h.strs)
    (fun j hj X h => HSTEP.out W2.heap.size W.heap.size (W2.heap.size + 1) (Nat.le_refl _) (by omega) (by omega) (by omega) j hj X h)
    bp W4 bP4 ⟨0, _, _, _, _, HST.out⟩)
  have HLT := Lib.hid (show W.heap.size < W2.heap.size by omega)
  clear bP bS bM hb1 bY hx2 hz1 hW hz2 hb4 hz4 bL4 bW4 up bS4 bP4 bM4 bY4 w4 x4 hw2 hb2 HST HH cF HJ1
  go_wp2_with fail
  refine (callsIn_wide.1 HV.out).mono ?_
  rintro e W5 ⟨rfl, i, R, q, cur, W0, h⟩
  have cW := h.cb.wanted.cell
  have cL := h.cb.last.cell
  have cY := h.cb.yld.cell
  have hgi := h.sp
  have hdn : (bytesP xs).drop xs.length = [] := List.drop_of_length_le (by rw [bytesP_len]; exact Nat.le_refl _)
  rw [hdn, spl] at hgi
  obtain ⟨hg, hd, hi⟩ := drop_head hgi
  have hN := congrArg List.length hd
  rw [List.length_drop, List.length_nil] at hN
  have hy : ∀ n, YieldAt Fence.wide 0 Tryz.prog l #[.string (S (segB q cur))] (W5.drewN n) fun e W' => e = .returned (.bool true) ∧ ∃ R', Low W.heap.size R' ∧ In R' W' ∧ J R' (grp most q0 xs).length W' := fun n => by
    obtain ⟨fn, tmps, assign, body, hr, hR⟩ := HY.out R i #[.string (S (segB q cur))] W0 (W5.drewN n) h.low h.inn hi h.jj ⟨h.grw.os, h.grw.tape, h.grw.output, h.grw.size, h.grw.block⟩ ⟨(q, cur), hg, rfl⟩
    refine ⟨fn, tmps, assign, body, hr, hR.mono ?_⟩
    rintro e W' ⟨rfl, R', a1, a2, a3, a4, a5⟩
    exact ⟨rfl, R', a1, a3, by rw [show (grp most q0 xs).length = i + 1 by omega]; exact a4⟩
  have HBY : Hid (∀ n, Calls Tryz.prog 50 #[.pointer (some ⟨W0.heap.size, 0, none⟩)] (W5.drewN n) fun e w' => e = .returned (.string (S (segB q cur))) ∧ ∃ m, w' = W5.drewN m) :=
    Lib.hid (fun n => (Opn.bytes_any (W5.drewN n) _ _ _ (h.wr.drewN n)).mono fun e w' ⟨a, m, hmm⟩ => ⟨a, n + m, by rw [hmm, World.drewN_drewN]⟩)
  obtain ⟨fn, tmps, assign, body, hyr, hR⟩ := yields_all hy
  have HRR := Lib.hid hR
  have HD := Lib.hid h
  clear hR hy hN hd hi hg hgi h
  go_wp2_with fail
  refine (wpIn_wide (n := 0)).1 ?_
  have hfm : Tryz.prog.follows .mixedOrders = true := by kernel_rfl
  gi_region_with_o (first | (refine ⟨trivial, rfl, ?_⟩; gi_at_call 50; refine (callsIn_wide.2 (HBY.out _)).mono ?_; rintro e w' ⟨rfl, nq2, rfl⟩) | (refine ⟨rfl, (HRR.out _).mono ?_⟩; rintro e w' ⟨rfl, hpost⟩; (have HPO := Lib.hid hpost); clear hpost))
  all_goals
    go_wp2_with fail
    go_end0
    exact ⟨⟨_, rfl⟩, HPO.out⟩
end Go.Proofs.YtkccdffccjgajaaGreatDoor.Seg

/-
  The walk of Split.
-/
namespace Go.Proofs.YtkccdffccjgajaaGreatDoor.Seg
open Go Go.RowKit
open Go.Proofs.YtkccdffccjgajaaGreatDoor.Wire (S S_list S_size cell_row frozen_row row_lt heap_set U)
open Go.Proofs.YtkccdffccjgajaaGreatDoor.Frame Go.Proofs.YtkccdffccjgajaaGreatDoor.Ranges
attribute [local go_sem] Oper.semAt_some

/-! ### texts of one's own -/
def strV (ys : List ByteArray) : List Value := ys.map Value.string
def OwnS (w : World) (base : Nat) (v : Value) (ys : List ByteArray) : Prop := w.ownsRow base 9 1 v ys.length (strV ys)
theorem infoS : (Tryz.prog.info? 9).map (fun i => (i.zero, i.size, i.bytes)) = some (some (.string ⟨#[]⟩), 1, 16) := by kernel_rfl
theorem strV_snoc (ys : List ByteArray) (y : ByteArray) : strV (ys ++ [y]) = strV ys ++ [.string y] := by unfold strV; rw [List.map_append]; rfl
theorem strV_len (ys : List ByteArray) : (strV ys).length = ys.length := by unfold strV; simp
theorem OwnS.nil (w : World) (base : Nat) : OwnS w base (.slice none 0 0) [] := ⟨rfl, Or.inl ⟨rfl, rfl⟩⟩
theorem OwnS.keep {w w' : World} {base : Nat} {v : Value} {ys : List ByteArray} (h : OwnS w base v ys) (hk : ∀ g, v.ownBlock = some g → w'.heap[g]? = w.heap[g]?) : OwnS w' base v ys := by
  obtain ⟨h1, h2⟩ := h
  refine ⟨h1, ?_⟩
  rcases h2 with h2 | ⟨b, cap, cur, e, hbg, hh, r⟩
  · exact Or.inl h2
  · exact Or.inr ⟨b, cap, cur, e, hbg, (hk b (by rw [e]; rfl)).trans hh, r⟩
theorem OwnS.less {w : World} {base base' : Nat} {v : Value} {ys : List ByteArray} (h : OwnS w base v ys) (hb : base' ≤ base) : OwnS w base' v ys := by
  obtain ⟨h1, h2⟩ := h
  refine ⟨h1, ?_⟩
  rcases h2 with h2 | ⟨b, cap, cur, e, hbg, r⟩
  · exact Or.inl h2
  · exact Or.inr ⟨b, cap, cur, e, Nat.le_trans hb hbg, r⟩
theorem OwnS.lt {w : World} {base : Nat} {v : Value} {ys : List ByteArray} (h : OwnS w base v ys) (g : Nat) (hg : v.ownBlock = some g) : g < w.heap.size ∧ base ≤ g := by
  rcases h.2 with ⟨rfl, _⟩ | ⟨b, cap, cur, rfl, hbg, hh, _⟩
  · cases hg
  · have : b = g := by simpa [Value.ownBlock] using hg
    subst this; exact ⟨row_lt hh, hbg⟩
theorem OwnS.row {w : World} {base : Nat} {v : Value} {ys : List ByteArray} (h : OwnS w base v ys) : ∃ A cap, v = .slice A ys.length cap ∧ cap ≤ maxLen ∧ ys.length ≤ cap ∧ (∀ j (hj : j < ys.length), ∃ g, A = some ⟨g, 0, none⟩ ∧ g < w.heap.size ∧ base ≤ g ∧ w.cell? ⟨g, j, none⟩ = some (.string ys[j]) ∧ w.frozen? ⟨g, j, none⟩ = false) := by
  rcases h.2 with ⟨rfl, hn⟩ | ⟨g, cap, cur, rfl, hb, hg, h1, h2, h3, h4⟩
  · have hx : ys = [] := List.eq_nil_of_length_eq_zero hn
    subst hx
    exact ⟨none, 0, rfl, Nat.zero_le _, Nat.zero_le _, fun i hi => absurd hi (Nat.not_lt_zero _)⟩
  · refine ⟨some ⟨g, 0, none⟩, cap, rfl, h2, h1, fun j hj => ⟨g, rfl, row_lt hg, hb, ?_, frozen_row hg j⟩⟩
    have e : (strV ys)[j]? = some (.string ys[j]) := by unfold strV; rw [List.getElem?_map, List.getElem?_eq_getElem hj]; rfl
    rw [cell_row hg, ← e, ← h4, List.getElem?_take, if_pos (by omega), ← Array.getElem?_toList]
theorem wpListIn_append_s {F : Fence} {n : Nat} {ops : Array Oper} {rest : List Oper} {o : Oper} {a : Act} {w : World} {Q : Exit → Act → World → Prop} (hgd : o.guard = none) (s x : Operand)
    (ho : o.op = .call { callee := .builtin .append, args := #[s, x], argTypes := #[23, 23] })
    (base : Nat) (v : Value) (ys : List ByteArray) (hs : a.eval s = v) (hown : OwnS w base v ys)
    (g : Nat) (cap : Nat) (y : ByteArray) (hx : a.eval x = .slice (some ⟨g, 0, none⟩) 1 cap) (hn : w.heap[g]? = some (.cells #[.string y] 9 (0, 0)))
    (hlen : ys.length ≤ 1000000) (hbase : base ≤ w.heap.size)
    (h : ∀ v' w', OwnS w' base v' (ys ++ [y]) → w.grownBy w' v.ownBlock → (v'.ownBlock = v.ownBlock ∨ v'.ownBlock = some w.heap.size) → wpListIn F n Tryz.prog ops Q rest (a.put o.dst v') w') : wpListIn F n Tryz.prog ops Q (o :: rest) a w := by
  obtain ⟨i0, hi, hz0, hz1, hz2⟩ := info_parts infoS
  obtain ⟨v', w', hrun, r1, r2, r3, r4⟩ := run_append_own_at (P := Tryz.prog) w base 23 o.type 9 i0 _ 1 16 Tryz.underlying23 hi hz0 hz1 hz2 rfl (by decide) v ys.length (strV ys) hown ⟨g, 0, none⟩ 1 cap [.string y] rfl
    (fun j u hj => by rw [addr_add0, cell_row hn]; simpa using hj) (fun u hu => by obtain rfl := List.mem_singleton.1 hu; rfl) (by unfold maxLen; omega) (by omega) hbase
  refine wpListIn_plain hgd fun K hK' => ?_
  unfold Oper.wpIn
  refine ⟨?_, ?_⟩
  · simp [Oper.about, ho, resolve, Target.leads, Sem.run_pure]
  · rw [Oper.semAt_plain F _ _ (by rw [ho]; intro c hc'; cases hc')]
    simp [execOp, ho, resolve, invoke, builtin, hs, hx, hrun, Result.andThen]
    exact hK' _ _ (h v' w' (by unfold OwnS; rw [strV_snoc, List.length_append]; exact r1) r2 r4)
/-- the segments as texts -/
def outs (most : Int) (q0 : Nat) (xs : List ByteArray) : List ByteArray := (grp most q0 xs).map fun g => S (segB g.1 g.2)
theorem outs_len (most : Int) (q0 : Nat) (xs : List ByteArray) : (outs most q0 xs).length = (grp most q0 xs).length := by unfold outs; simp
theorem spl_len (most : Int) : ∀ (ps : List (List UInt8)) (q : Nat) (cur : List (List UInt8)), (spl most q cur ps).length ≤ ps.length + 1
  | [], q, cur => by simp [spl]
  | p :: r, q, cur => by
    rw [spl]
    split
    · have := spl_len most r q (cur ++ [p]); rw [List.length_cons]; omega
    · have := spl_len most r (q + cur.length) [p]; rw [List.length_cons, List.length_cons]; omega
theorem grp_len (most : Int) (q0 : Nat) (xs : List ByteArray) : (grp most q0 xs).length ≤ xs.length + 1 := by
  have := spl_len most (bytesP xs) q0 []
  rw [bytesP_len] at this; exact this
/-- what stands between two rounds -/
def SpI (most : Int) (q0 : Nat) (xs : List ByteArray) (w : World) (R : Nat → Prop) (i : Nat) (X : World) : Prop :=
  ∃ v, Boxed X w.heap.size 23 v ∧ OwnS X w.heap.size v ((outs most q0 xs).take i) ∧ (∀ g, v.ownBlock = some g → R g) ∧ Below w.heap.size w X
theorem SpI.grw {most : Int} {q0 : Nat} {xs : List ByteArray} {w : World} {R : Nat → Prop} {i : Nat} {X X' : World} {T : Nat → Prop} (h : SpI most q0 xs w R i X) (g : Grw T X X') (hT : ∀ r, T r → w.heap.size < r ∧ ¬ R r) : SpI most q0 xs w R i X' := by
  obtain ⟨v, h1, h2, h3, h4⟩ := h
  exact ⟨v, boxed_grw h1 g (fun h => by have := (hT _ h).1; omega), h2.keep (fun b hb => g.block b (h2.lt b hb).1 (fun h => (hT _ h).2 (h3 b hb))), h3, g.below h4 (Nat.le_refl _) (fun r hr => by have := (hT r hr).1; omega)⟩
/-- the act's slots -/
def acS (q0 : Nat) (most : Int) (A : Option Addr) (xs : List ByteArray) (cap n : Nat) (s : ByteArray) : Act :=
  { tmps := #[.int .i64 (q0 : Int), .slice A xs.length cap, .int .i64 most, undef, undef, undef, .slice none 0 0, .int .i64 0, .int .i64 0, .pointer (some ⟨n, 0, none⟩), .string s, .int .i64 most, .bool false, .bool false, .int .i64 most, .bool false, .bool false, .int .i64 (q0 : Int),
      .slice A xs.length cap, .int .i64 0, .int .i64 0, .bool false, undef, .int .i64 (q0 : Int), .int .i64 most, .slice A xs.length cap, .func (.func 82) #[] #[.pointer (some ⟨n + 1, 0, none⟩)],
      .func (.func 79) #[] #[.pointer (some ⟨n + 1 + 1, 0, none⟩), .pointer (some ⟨n + 1 + 1 + 2, 0, none⟩), .pointer (some ⟨n + 1 + 1 + 1, 0, none⟩)], .string s, undef, undef, undef, undef, undef], defers := [] }
set_option maxRecDepth 100000 in
set_option maxHeartbeats 4000000 in
theorem Split_at (most : Int) (hm : (Lit.int .i64 most).wf = true) (q0 : Nat) (xs : List ByteArray) (cap : Nat) (hl : xs.length ≤ 100000) (A : Option Addr) (w : World) (hx : Strs w A xs) (he : spE (q0 : Int) (bytesP xs) most = 0) :
    CallsIn Fence.wide 0 Tryz.prog 17 #[.int .i64 (q0 : Int), .slice A xs.length cap, .int .i64 most] w fun e w' => ∃ v, e = .returned (.tuple #[v, .int .i64 0]) ∧ OwnS w' w.heap.size v (outs most q0 xs) ∧ Below w.heap.size w w' := by
  have hmm : 64 ≤ most ∧ most ≤ 65536 := by
    unfold spE at he
    by_cases h : 64 ≤ most ∧ most ≤ 65536
    · exact h
    · rw [if_neg h] at he; cases he
  have hw0 : wrE (q0 : Int) (bytesP xs) = 0 := by unfold spE at he; rw [if_pos hmm] at he; exact he
  have hok := (wrE_zero hw0).2
  rw [Int.toNat_natCast] at hok
  have HWR := Lib.hid (wrong_any (q0 : Int) A cap xs (by omega) w hx)
  rw [hw0] at HWR
  have d1 : decide (most < 64) = false := decide_eq_false (by omega)
  have d2 : decide (65536 < most) = false := decide_eq_false (by omega)
  refine callsIn_of_wp_marks Tryz.func17 rfl trivial ?_ rfl
  simp only [Tryz.ntmps17, List.size_toArray, List.length_cons, List.length_nil, Nat.reduceAdd, Nat.reduceSub, Array.replicate_succ, Array.replicate_zero, List.push_toArray, List.append_toArray, List.nil_append, List.cons_append]
  have hmw := hm
  clear he hw0 hmm
  gi_wp2_with fail
  refine ⟨trivial, rfl, ?_⟩
  refine (callsIn_wide.2 HWR.out).mono ?_
  rintro e w1 ⟨rfl, rfl⟩
  gi_wp2_with (first | (refine ⟨trivial, rfl, ?_⟩; gi_at_call 52; refine (callsIn_wide.2 (values_in A cap xs _)).mono ?_; rintro e w2 ⟨rfl, rfl⟩) | (refine ⟨trivial, rfl, ?_⟩; gi_at_call 51; refine (callsIn_wide.2 (segs_in _ _ _ _ _)).mono ?_; rintro e w2 ⟨rfl, rfl⟩))
  obtain ⟨W0, hW0⟩ : ∃ W0, ((((w.alloc (.cells #[.slice none 0 0] 23)).alloc (.cells #[.slice A xs.length cap] 23)).alloc (.cells #[.int .i64 (q0 : Int)] 2)).alloc (.cells #[.int .i64 most] 3)).alloc (.cells #[.func (.func 82) #[] #[.pointer (some ⟨w.heap.size + 1, 0, none⟩)]] 93) = W0 := ⟨_, rfl⟩
  have hz : W0.heap.size = w.heap.size + 5 := by rw [← hW0]; simp
  have hB0 : Below w.heap.size w W0 := by rw [← hW0]; exact (((((Below.refl _ w).alloc (Nat.le_refl _) _).alloc (by simp) _).alloc (by simp; omega) _).alloc (by simp; omega) _).alloc (by simp; omega) _
  have bL : Boxed W0 w.heap.size 23 (.slice none 0 0) := by rw [← hW0]; exact ((((Boxed.new w _ _).alloc _).alloc _).alloc _).alloc _
  have bP : Boxed W0 (w.heap.size + 1) 23 (.slice A xs.length cap) := by
    rw [← hW0]; have := (((Boxed.new (w.alloc (.cells #[.slice none 0 0] 23)) 23 (.slice A xs.length cap)).alloc (.cells #[.int .i64 (q0 : Int)] 2)).alloc (.cells #[.int .i64 most] 3)).alloc (.cells #[.func (.func 82) #[] #[.pointer (some ⟨w.heap.size + 1, 0, none⟩)]] 93); simpa using this
  have bF : Boxed W0 (w.heap.size + 1 + 1) 2 (.int .i64 (q0 : Int)) := by
    rw [← hW0]; have := ((Boxed.new ((w.alloc (.cells #[.slice none 0 0] 23)).alloc (.cells #[.slice A xs.length cap] 23)) 2 (.int .i64 (q0 : Int))).alloc (.cells #[.int .i64 most] 3)).alloc (.cells #[.func (.func 82) #[] #[.pointer (some ⟨w.heap.size + 1, 0, none⟩)]] 93); simpa using this
  have bM : Boxed W0 (w.heap.size + 1 + 1 + 1) 3 (.int .i64 most) := by
    rw [← hW0]; have := (Boxed.new (((w.alloc (.cells #[.slice none 0 0] 23)).alloc (.cells #[.slice A xs.length cap] 23)).alloc (.cells #[.int .i64 (q0 : Int)] 2)) 3 (.int .i64 most)).alloc (.cells #[.func (.func 82) #[] #[.pointer (some ⟨w.heap.size + 1, 0, none⟩)]] 93); simpa using this
  have bA : Boxed W0 (w.heap.size + 1 + 1 + 2) 93 (.func (.func 82) #[] #[.pointer (some ⟨w.heap.size + 1, 0, none⟩)]) := by
    rw [← hW0]; have := Boxed.new ((((w.alloc (.cells #[.slice none 0 0] 23)).alloc (.cells #[.slice A xs.length cap] 23)).alloc (.cells #[.int .i64 (q0 : Int)] 2)).alloc (.cells #[.int .i64 most] 3)) 93 (.func (.func 82) #[] #[.pointer (some ⟨w.heap.size + 1, 0, none⟩)]); simpa using this
  have hseq := segs_seq most hmw q0 xs cap (by omega) hok A (w.heap.size + 1) (w.heap.size + 1 + 1) (w.heap.size + 1 + 1 + 2) (w.heap.size + 1 + 1 + 1) w.heap.size (w.heap.size + 1) W0 (hx.below hB0)
    (fun a ha hp => by obtain ⟨b, o, e, h1, _⟩ := hx 0 hp; rw [e] at ha; injection ha with ha; rw [← ha]; exact h1) (by omega) (by omega) (by omega) (by omega) (by omega) bP bF bA bM
  have HGL := Lib.hid (grp_len most q0 xs)
  rw [hW0]
  refine (ranged2 (gf := 79) (lb := #[.pointer (some ⟨w.heap.size + 1 + 1, 0, none⟩), .pointer (some ⟨w.heap.size + 1 + 1 + 2, 0, none⟩), .pointer (some ⟨w.heap.size + 1 + 1 + 1, 0, none⟩)]) (o := w.heap.size) (m := w.heap.size + 1) ?hg (enters_of Tryz.func79 (by kernel_rfl) rfl) ?ho ?hmm ?ps hseq
    (fun R i X => SpI most q0 xs w R i X) (fun R i a' X => SpI most q0 xs w R i X ∧ ∃ s, (outs most q0 xs)[i]? = some s ∧ a' = acS q0 most A xs cap w.heap.size s) ?sI ?sM ?h0 ?assign ?body ?done)
  case hg => rfl
  case ho => omega
  case hmm => omega
  case ps => rintro i sz args X ⟨g, _, rfl⟩; rfl
  case sI =>
    rintro R i hlow X X' h g
    exact h.grw g (fun r hr => ⟨by omega, hr.2⟩)
  case sM =>
    rintro R i a' hlow X X' ⟨h, hs⟩ g
    exact ⟨h.grw g (fun r hr => ⟨by omega, hr.2⟩), hs⟩
  case h0 =>
    intro X hb hsz
    refine ⟨.slice none 0 0, (hb.block _ (by omega)).trans bL, by rw [List.take_zero]; exact OwnS.nil _ _, (fun g h => by cases h), hB0.trans (hb.mono (by omega))⟩
  case assign =>
    rintro l R i args X0 X K hlow hin hi hI hgrw ⟨g, hg, rfl⟩ hK
    have hI2 := hI.grw hgrw (fun r hr => ⟨by omega, hr.2⟩)
    have hs : (outs most q0 xs)[i]? = some (S (segB g.1 g.2)) := by unfold outs; rw [List.getElem?_map, hg]; rfl
    generalize S (segB g.1 g.2) = s at *
    gi_wp2
    exact hK _ _ ⟨hI2, s, hs, rfl⟩ (Kq.refl _ _ _ _ _ _)
  case body =>
    rintro l R i a' X hlow hin hsz hi ⟨⟨v, h1, h2, h3, h4⟩, s, hs, rfl⟩
    have hi2 : i < (outs most q0 xs).length := by rw [outs_len]; exact hi
    have hsi : (outs most q0 xs)[i] = s := by rw [List.getElem?_eq_getElem hi2] at hs; injection hs
    have htk : (outs most q0 xs).take (i + 1) = (outs most q0 xs).take i ++ [s] := by rw [List.take_succ_eq_append_getElem hi2, hsi]
    have hlen : ((outs most q0 xs).take i).length = i := by rw [List.length_take]; omega
    have hba := (Below.refl X.heap.size X).alloc (Nat.le_refl _) (.cells #[.string s] 9)
    have HBA := Lib.hid hba
    have HY := Lib.hid (heap_alloc_new X (.cells #[.string s] 9))
    have HO := Lib.hid (h2.keep (fun b hb => hba.block b (h2.lt b hb).1))
    have HLN := Lib.hid (show ((outs most q0 xs).take i).length ≤ 1000000 by have := HGL.out; rw [hlen]; omega)
    have HWX := Lib.hid (show w.heap.size ≤ (X.alloc (.cells #[.string s] 9)).heap.size by have := h4.size; simp; omega)
    have cL := h1.cell
    have HI := Lib.hid (And.intro h1 (And.intro h2 (And.intro h3 (And.intro h4 (And.intro hlow (And.intro hin (And.intro hsz (And.intro hi2 (And.intro htk hlen)))))))))
    clear hi2 hsi htk hba h1 h2 h3 h4 hlow hin hsz hs
    simp only [acS]
    gi_wp2_with (gi_at_builtin; refine wpListIn_append_s rfl _ _ rfl w.heap.size v _ rfl HO.out X.heap.size 1 s rfl HY.out HLN.out HWX.out ?_)
    intro v' w1 hO hg hat
    obtain ⟨h1, h2, h3, h4, hlow, hin, hsz, hi2, htk, hlen⟩ := HI.out
    obtain ⟨A', c', hv', -, -, -⟩ := hO.row
    have hlen2 : ((outs most q0 xs).take i ++ [s]).length = i + 1 := by rw [List.length_append, hlen]; rfl
    rw [hlen2] at hv'
    subst hv'
    have hgw : Grw (fun r => v.ownBlock = some r) X w1 := (grw_below HBA.out).trans (grw_grown hg (fun r h => h))
    have b2 : Boxed w1 w.heap.size 23 v := boxed_grw h1 hgw (fun h => by have := hlow _ (h3 _ h); omega)
    have cL1 := b2.cell
    have fL1 := b2.frozen
    have g2 : Grw (fun r => r = w.heap.size) w1 (w1.setCell ⟨w.heap.size, 0, none⟩ (.slice A' (i + 1) c')) := grw_grown (grownBy_setCell' w1 w.heap.size _) (fun r e => by injection e with e; exact e.symm)
    have HF : Hid (roundQ w.heap.size (w.heap.size + 1) W0.heap.size R (fun R' => SpI most q0 xs w R' (i + 1)) X .normal (acS q0 most A xs cap w.heap.size s) (w1.setCell ⟨w.heap.size, 0, none⟩ (.slice A' (i + 1) c'))) := by
      have hxs1 : (X.alloc (.cells #[.string s] 9)).heap.size = X.heap.size + 1 := by simp
      have hs1 : X.heap.size + 1 ≤ w1.heap.size := by have := hg.size; simp at this; exact this
      have hs2 := g2.size
      refine ⟨fun r => R r ∨ (X.heap.size ≤ r ∧ r < (w1.setCell ⟨w.heap.size, 0, none⟩ (.slice A' (i + 1) c')).heap.size), ?_, ?_, ?_, ?_, ?_⟩
      · rintro r (hr | hr)
        · exact hlow r hr
        · omega
      · rintro r (hr | hr)
        · exact Or.inl hr
        · exact Or.inr hr.1
      · rintro r (hr | hr)
        · have := hin r hr; omega
        · exact hr.2
      · exact Kq.grw ((hgw.mono (T' := fun r => v.ownBlock = some r ∨ r = w.heap.size) (fun r h => Or.inl h)).trans (g2.mono (fun r h => Or.inr h))) (fun r hr => by
          rcases hr with hr | rfl
          · exact Or.inl (h3 r hr)
          · exact Or.inr ⟨Nat.le_refl _, by omega, by omega, Nat.le_refl _⟩)
      · refine ⟨.slice A' (i + 1) c', b2.set _, ?_, ?_, g2.below (hgw.below h4 (Nat.le_refl _) (fun r hr => by have := hlow _ (h3 _ hr); omega)) (Nat.le_refl _) (fun r hr => by omega)⟩
        · rw [htk]
          exact hO.keep (fun b hb => g2.block b (hO.lt b hb).1 (fun e => by
            subst e
            rcases hat with e2 | e2
            · rw [hb] at e2
              have := hlow _ (h3 _ e2.symm); omega
            · rw [hb] at e2; injection e2 with e2
              have := h4.size; have := hxs1; omega))
        · intro b hb
          have hlt := (hO.lt b hb).1
          rcases hat with e2 | e2
          · exact Or.inl (h3 _ (by rw [← e2, hb]))
          · rw [hb] at e2; injection e2 with e2
            exact Or.inr ⟨by have := hxs1; omega, by omega⟩
    clear hgw b2 g2 hO hg hat h1 h2 h3 h4 hlow hin hsz hi2 htk hlen hlen2
    gi_wp2
    exact HF.out
  case done =>
    rintro R X hlow hin ⟨v, h1, h2, h3, h4⟩ hD
    have hall : (outs most q0 xs).take (grp most q0 xs).length = outs most q0 xs := by rw [← outs_len, List.take_length]
    rw [hall] at h2
    obtain ⟨A', c', hv, -, -, -⟩ := h2.row
    generalize hn : (outs most q0 xs).length = n at hv
    subst hv
    have hDlt := row_lt hD
    have g2 := grw_grown (T := fun r => r = W0.heap.size) (grownBy_putObj' X W0.heap.size (.deferred none)) (fun r e => by injection e with e; exact e.symm)
    have HF : Hid (OwnS (X.putObj W0.heap.size (.deferred none)) w.heap.size (.slice A' n c') (outs most q0 xs) ∧ Below w.heap.size w (X.putObj W0.heap.size (.deferred none))) :=
      Lib.hid ⟨h2.keep (fun b hb => g2.block b (h2.lt b hb).1 (fun e => by have := hlow _ (h3 b hb); omega)), g2.below h4 (Nat.le_refl _) (fun r hr => by omega)⟩
    have cL := h1.cell
    have cL2 := (boxed_grw h1 g2 (by omega)).cell
    have k1 := hD
    clear h1 h2 h3 h4 hlow hin g2 hD
    gi_wp2
    refine ⟨by simp, .inl ⟨_, _, rfl, run_takeDeferred k1, ?_⟩⟩
    refine ⟨.tuple #[.slice A' n c', .int .i64 0], ?_, ⟨_, rfl, HF.out⟩⟩
    simp [results, Tryz.results17, go_sem]
end Go.Proofs.YtkccdffccjgajaaGreatDoor.Seg
