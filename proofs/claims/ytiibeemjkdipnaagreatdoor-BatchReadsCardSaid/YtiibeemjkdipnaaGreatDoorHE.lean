import Derived.Test.YtiibeemjkdipnaaGreatDoorHD
/-
  Decode: a payload's events, gathered from the function that tells them one by one.
-/
namespace Go.Proofs.YtiibeemjkdipnaaGreatDoor.Batch
open Go Go.RowKit
open Go.Proofs.YtiibeemjkdipnaaGreatDoor.Schema
open Go.Proofs.YtiibeemjkdipnaaGreatDoor.Upcast (ev0 LyAt Apart)
attribute [local go_sem] Oper.semAt_some

/-- what Decode tells -/
def DecR (s : ByteArray) (w : World) (z : Ending) (w' : World) : Prop :=
  ∃ (ys : List Lx) (A : Option Addr) (c : Nat), z = .returned (.tuple #[.slice A ys.length c, .int .i64 (btW s : Int)]) ∧ ys.map (·.e) = btL s ∧ OwnR w' w.heap.size (.slice A ys.length c) ys ∧ (∀ y ∈ ys, LyAt w' w.heap.size y) ∧ Apart ys ∧ Below w.heap.size w w'

theorem ownsRow_grw {T : Nat → Prop} {w w' : World} {base n k : Nat} {E : TypeId} {v : Value} {vs : List Value} (h : w.ownsRow base E n v k vs) (g : Grw T w w') (hT : ∀ r, base ≤ r → ¬ T r) : w'.ownsRow base E n v k vs := by
  obtain ⟨h1, h2⟩ := h
  refine ⟨h1, ?_⟩
  rcases h2 with h2 | ⟨b, cap, cur, e, hbg, hh, r⟩
  · exact Or.inl h2
  · exact Or.inr ⟨b, cap, cur, e, hbg, (g.block b (Wire.row_lt hh) (hT b hbg)).trans hh, r⟩
theorem ownR_grw {T : Nat → Prop} {w w' : World} {base : Nat} {v : Value} {xs : List Lx} (h : OwnR w base v xs) (g : Grw T w w') (hT : ∀ r, base ≤ r → ¬ T r) : OwnR w' base v xs := ownsRow_grw h g hT
theorem ownE_grw {T : Nat → Prop} {w w' : World} {base : Nat} {E : TypeId} {v : Value} {vs : List Value} (h : OwnE w base E v vs) (g : Grw T w w') (hT : ∀ r, base ≤ r → ¬ T r) : OwnE w' base E v vs := h.imp (fun h => ownsRow_grw h g hT) id
theorem lyAt_grw {T : Nat → Prop} {w w' : World} {base : Nat} {y : Lx} (h : LyAt w base y) (g : Grw T w w') (hT : ∀ r, base ≤ r → ¬ T r) : LyAt w' base y := ⟨h.may, h.txt, ownE_grw h.ns g hT, ownE_grw h.ts g hT⟩
theorem lyAt_less {w : World} {base base' : Nat} {y : Lx} (h : LyAt w base y) (hb : base' ≤ base) : LyAt w base' y := ⟨h.may, h.txt, h.ns.less hb, h.ts.less hb⟩
theorem ownR_less {w : World} {base base' : Nat} {v : Value} {xs : List Lx} (h : OwnR w base v xs) (hb : base' ≤ base) : OwnR w base' v xs := by
  obtain ⟨h1, h2⟩ := h
  refine ⟨h1, ?_⟩
  rcases h2 with h2 | ⟨b, cap, cur, e, hbg, r⟩
  · exact Or.inl h2
  · exact Or.inr ⟨b, cap, cur, e, Nat.le_trans hb hbg, r⟩
theorem ownR_ge {w : World} {base : Nat} {v : Value} {xs : List Lx} (h : OwnR w base v xs) (g : Nat) (hg : v.ownBlock = some g) : base ≤ g := by
  rcases h.2 with ⟨rfl, _⟩ | ⟨b, cap, cur, rfl, hbg, _⟩
  · cases hg
  · have : b = g := by simpa [Value.ownBlock] using hg
    omega
theorem boxed_grw {T : Nat → Prop} {w w' : World} {b : Nat} {t : TypeId} {v : Value} (h : Boxed w b t v) (g : Grw T w w') (hT : ¬ T b) : Boxed w' b t v := (g.block b h.lt hT).trans h
theorem four_grw {T : Nat → Prop} {w w' : World} {b : Nat} {a0 a1 a2 a3 : Value} (h : Four w b a0 a1 a2 a3) (g : Grw T w w') (hT : ¬ T b) : Four w' b a0 a1 a2 a3 := by
  have hb : w'.heap[b]? = w.heap[b]? := g.block b (cell_lt h.1) hT
  exact ⟨(World.cell?_of_block hb).trans h.1, (World.cell?_of_block hb).trans h.2.1, (World.cell?_of_block hb).trans h.2.2.1, (World.cell?_of_block hb).trans h.2.2.2⟩
set_option maxRecDepth 100000 in
theorem wpListIn_append_ev {F : Fence} {n : Nat} {ops : Array Oper} {rest : List Oper} {o : Oper} {a : Act} {w : World} {Q : Exit → Act → World → Prop} (hgd : o.guard = none) (s x : Operand)
    (ho : o.op = .call { callee := .builtin .append, args := #[s, x], argTypes := #[22, 22] })
    (base : Nat) (v : Value) (xs : List Lx) (hs : a.eval s = v) (hown : OwnR w base v xs)
    (ad : Addr) (cap : Nat) (y : Lx) (hx : a.eval x = .slice (some ad) 1 cap) (hn : VAt w (some ad) (lxC y))
    (hlen : xs.length ≤ 1000000) (hbase : base ≤ w.heap.size)
    (h : ∀ g' n' cap' w', OwnR w' base (.slice (some ⟨g', 0, none⟩) n' cap') (xs ++ [y]) → w.grownBy w' v.ownBlock → wpListIn F n Tryz.prog ops Q rest (a.put o.dst (.slice (some ⟨g', 0, none⟩) n' cap')) w') : wpListIn F n Tryz.prog ops Q (o :: rest) a w := by
  obtain ⟨i0, hi, hz0, hz1, hz2⟩ := info_parts4 infoE
  refine wpListIn_append_own w hgd s x 22 ho base 39 i0 _ 4 56 Tryz.underlying22 hi hz0 hz1 hz2 rfl (by decide) v xs.length (cellsX xs) hs hown ad 1 cap (lxC y) hx rfl ?_ (lxC_cell y) (by unfold maxLen; omega) (by omega) hbase ?_
  · intro j u hj
    obtain ⟨b, o, e, hc⟩ := hn j u hj
    injection e with e; subst e
    rw [Wire.addr_add, hc]
  · intro v' w' hown' hg _
    have hr : OwnR w' base v' (xs ++ [y]) := by unfold OwnR; rw [cellsX_snoc, List.length_append]; exact hown'
    rcases hr.2 with ⟨_, h0⟩ | ⟨g', cap', cur, rfl, _⟩
    · rw [List.length_append] at h0; cases h0
    · exact h _ _ _ _ hr hg

theorem take_next {l : List Ev} {i : Nat} (h : i < l.length) : l.take (i + 1) = l.take i ++ [l.getD i ev0] := by
  rw [List.take_add_one, List.getElem?_eq_getElem h, List.getD_eq_getElem?_getD, List.getElem?_eq_getElem h]; rfl
/-- what stands between two rounds -/
structure DeI (s : ByteArray) (w : World) (hi i : Nat) (ys : List Lx) (v : Value) (X : World) : Prop where
  le : i ≤ (okL s).length
  bR : Boxed X w.heap.size 22 (.slice none 0 0)
  bE : Boxed X (w.heap.size + 1) 26 (.int .i64 0)
  bL : Boxed X (w.heap.size + 2) 22 v
  own : OwnR X hi v ys
  eq : ys.map (·.e) = (okL s).take i
  at_ : ∀ y ∈ ys, LyAt X hi y
  ap : Apart ys
  bel : Below w.heap.size w X
theorem DeI.grw {s : ByteArray} {w : World} {hi i : Nat} {ys : List Lx} {v : Value} {X X' : World} {T : Nat → Prop} (h : DeI s w hi i ys v X) (g : Grw T X X') (hT : ∀ r, T r → w.heap.size + 4 ≤ r ∧ r < hi) : DeI s w hi i ys v X' :=
  ⟨h.le, boxed_grw h.bR g (fun hq => by have := hT _ hq; omega), boxed_grw h.bE g (fun hq => by have := hT _ hq; omega), boxed_grw h.bL g (fun hq => by have := hT _ hq; omega),
    ownR_grw h.own g (fun r hr hq => by have := hT _ hq; omega), h.eq, fun y hy => lyAt_grw (h.at_ y hy) g (fun r hr hq => by have := hT _ hq; omega), h.ap, g.below h.bel (Nat.le_refl _) (fun r hr => by have := hT _ hr; omega)⟩
/-- what stands when a round's body begins -/
def DeM (s : ByteArray) (w : World) (hi i : Nat) (a' : Act) (X : World) : Prop :=
  ∃ (ys : List Lx) (v : Value) (x : Lx) (k be : Nat), DeI s w hi i ys v X ∧ hi ≤ be ∧ Four X be (.int .u8 x.e.v) (.int .u8 x.e.k) (.slice x.A x.e.ns.length x.ca) (.slice x.C x.e.ts.length x.cc) ∧
    a' = { tmps := #[.string s, undef, .pointer (some ⟨w.heap.size, 0, none⟩), .pointer (some ⟨w.heap.size + 1, 0, none⟩), .pointer (some ⟨w.heap.size + 1 + 1, 0, none⟩), .pointer (some ⟨be, 0, none⟩), .int .i64 (k : Int), .string s, .func (.func 60) #[] #[.pointer (some ⟨w.heap.size + 1 + 1 + 1, 0, none⟩)], evV x.A x.ca x.C x.cc x.e, .int .i64 (k : Int), undef, undef, undef, undef, undef, undef, undef, undef], defers := [] } ∧
    ((i < (okL s).length ∧ k = 0 ∧ x.e = (okL s).getD i ev0 ∧ LyAt X hi x ∧ Apart (ys ++ [x])) ∨ (i = (okL s).length ∧ k = btW s ∧ ¬ k = 0))
theorem stays_deM (s : ByteArray) (w : World) (hi i : Nat) (a' : Act) : Stays (fun r => w.heap.size + 4 ≤ r ∧ r < hi) (DeM s w hi i a') := by
  rintro X X' ⟨ys, v, x, k, be, h1, h2, h3, h4, h5⟩ g
  refine ⟨ys, v, x, k, be, h1.grw g (fun r hr => hr), h2, four_grw h3 g (fun hq => by omega), h4, h5.imp (fun q => ⟨q.1, q.2.1, q.2.2.1, lyAt_grw q.2.2.2.1 g (fun r hr hq => by omega), q.2.2.2.2⟩) id⟩
/-- how it is left early -/
def DeX (s : ByteArray) (w : World) (c : Code) (_ : Nat) (X : World) : Prop :=
  c = .ret ∧ ¬ btW s = 0 ∧ Boxed X w.heap.size 22 (.slice none 0 0) ∧ Boxed X (w.heap.size + 1) 26 (.int .i64 (btW s : Int)) ∧ Below w.heap.size w X

set_option maxRecDepth 100000 in
set_option maxHeartbeats 4000000 in
theorem Decode_in (s : ByteArray) (hs : s.size ≤ 1000000000000) (w : World) (E : Env w) :
    CallsIn Fence.wide 0 Tryz.prog 18 #[.string s] w (DecR s w) := by
  have hev := fun W => events_in 0 s W
  refine callsIn_of_wp_marks Tryz.func18 rfl trivial ?_ rfl
  simp only [Tryz.ntmps18, List.size_toArray, List.length_cons, List.length_nil, Nat.reduceAdd, Nat.reduceSub, Array.replicate_succ, Array.replicate_zero, List.push_toArray, List.append_toArray, List.nil_append, List.cons_append]
  obtain ⟨W0, hW0⟩ : ∃ W0, (((w.alloc (.cells #[.slice none 0 0] 22)).alloc (.cells #[.int .i64 0] 26)).alloc (.cells #[.slice none 0 0] 22)).alloc (.cells #[.string s] 9) = W0 := ⟨_, rfl⟩
  have hsz : W0.heap.size = w.heap.size + 4 := by rw [← hW0]; simp
  have bR : Boxed W0 w.heap.size 22 (.slice none 0 0) := by rw [← hW0]; exact (((Boxed.new w _ _).alloc _).alloc _).alloc _
  have bE : Boxed W0 (w.heap.size + 1) 26 (.int .i64 0) := by
    rw [← hW0]; have := ((Boxed.new (w.alloc (.cells #[.slice none 0 0] 22)) 26 (.int .i64 0)).alloc (.cells #[.slice none 0 0] 22)).alloc (.cells #[.string s] 9); simpa using this
  have bL : Boxed W0 (w.heap.size + 1 + 1) 22 (.slice none 0 0) := by
    rw [← hW0]; have := (Boxed.new ((w.alloc (.cells #[.slice none 0 0] 22)).alloc (.cells #[.int .i64 0] 26)) 22 (.slice none 0 0)).alloc (.cells #[.string s] 9); simpa using this
  have bS : Boxed W0 (w.heap.size + 1 + 1 + 1) 9 (.string s) := by
    rw [← hW0]; have := Boxed.new (((w.alloc (.cells #[.slice none 0 0] 22)).alloc (.cells #[.int .i64 0] 26)).alloc (.cells #[.slice none 0 0] 22)) 9 (.string s); simpa using this
  have hB0 : Below w.heap.size w W0 := by rw [← hW0]; exact ((((Below.refl _ w).alloc (Nat.le_refl _) _).alloc (by simp) _).alloc (by simp; omega) _).alloc (by simp; omega) _
  have h2w := E.2.2
  have E0 := E.below hB0
  gi_wp2_with (refine ⟨trivial, rfl, ?_⟩; gi_at_call 37; refine (hev _).mono ?_; rintro ev w' ⟨rfl, rfl⟩)
  try rw [hW0]
  clear hev hW0
  refine ranged (gf := 60) (lb := #[.pointer (some ⟨w.heap.size + 1 + 1 + 1, 0, none⟩)]) (N := times s) (o := w.heap.size) ?hg (enters_of Tryz.func60 (by kernel_rfl) rfl) (by omega) ?ps
    (events_seq w.heap.size (w.heap.size + 1 + 1 + 1) s hs W0 bS h2w (by omega) E0)
    (fun hi i X => ∃ ys v, DeI s w hi i ys v X) (fun c hi X => DeX s w c hi X) (fun hi i a' X => DeM s w hi i a' X) ?sI ?sX ?sM ?h0 ?assign ?body ?done ?stop
  case hg => rfl
  case ps => rintro i sz args X ⟨x, k, rfl, _⟩; rfl
  case sI =>
    rintro hi i hh X X' ⟨ys, v, h⟩ g
    exact ⟨ys, v, h.grw g (fun r hr => by rw [hsz] at hr; exact hr)⟩
  case sX =>
    rintro c hi hh X X' ⟨h1, h2, h3, h4, h5⟩ g
    exact ⟨h1, h2, boxed_grw h3 g (fun hq => by rw [hsz] at hq; omega), boxed_grw h4 g (fun hq => by rw [hsz] at hq; omega), g.below h5 (Nat.le_refl _) (fun r hr => by rw [hsz] at hr; omega)⟩
  case sM =>
    rintro hi i a' hh
    rw [hsz]
    exact stays_deM s w hi i a'
  case h0 =>
    intro X hb hx
    exact ⟨[], .slice none 0 0, Nat.zero_le _, (hb.block _ (by omega)).trans bR, (hb.block _ (by omega)).trans bE, (hb.block _ (by omega)).trans bL, OwnR.nil _ _, by rw [List.take_zero]; rfl, (fun y hy => by cases hy), Apart.nil, hB0.trans (hb.mono (by omega))⟩
  case assign =>
    rintro l hi i args X0 X K hh1 hh2 hi' ⟨ys, v, hI⟩ hgrw ⟨x, k, rfl, hrel⟩ hK
    have hI2 := hI.grw hgrw (fun r hr => by rw [hsz] at hr; exact hr)
    have hge : hi ≤ X.heap.size := Nat.le_trans hh2 hgrw.size
    simp only [evV] at hK ⊢
    gi_wp2
    have hb := (Below.refl X.heap.size X).alloc (Nat.le_refl _) (.cells #[.int .u8 x.e.v, .int .u8 x.e.k, .slice x.A x.e.ns.length x.ca, .slice x.C x.e.ts.length x.cc] 39)
    refine hK _ _ ⟨ys, v, x, k, X.heap.size, hI2.grw (T := fun _ => False) (grw_below hb) (fun _ h => h.elim), hge, box4 X _ _ _ _ _, rfl, ?_⟩ (Kp.below hb hge)
    rcases hrel with ⟨r1, r2, r3, r4, r5⟩ | ⟨r1, r2, r3, _⟩
    · refine Or.inl ⟨r1, r2, r3, ⟨(okL_all s).2 _ ?_, ?_, (r4.less hh2).below hb, (r5.less hh2).below hb⟩, hI.ap.snoc hI.at_ (Nat.le_refl _) r4 r5⟩
      · rw [r3, List.getD_eq_getElem?_getD, List.getElem?_eq_getElem r1, Option.getD_some]; exact List.getElem_mem _
      · intro z hz
        have hm : may x.e = true := by
          refine (okL_all s).2 _ ?_
          rw [r3, List.getD_eq_getElem?_getD, List.getElem?_eq_getElem r1, Option.getD_some]; exact List.getElem_mem _
        obtain ⟨j, hj, rfl⟩ := List.getElem_of_mem hz
        have h3 := Codec.may_text hm j hj
        rw [List.getD_eq_getElem?_getD, List.getElem?_eq_getElem hj, Option.getD_some] at h3
        unfold maxLen; omega
    · exact Or.inr ⟨r1, r2, r3⟩
  case body =>
    rintro l hi i a' X hh1 hh2 hi' ⟨ys, v, x, k, be, hI, hbe, hX, rfl, hrel⟩
    rw [hsz] at hh1
    have HI := Lib.hid hI
    have HX := Lib.hid hX
    rcases hrel with ⟨r1, rfl, r3, r4, r5⟩ | ⟨r1, r2, r3⟩
    · obtain ⟨x0, x1, x2, x3⟩ := HX.out
      have hcL := hI.bL.cell
      have hfL := hI.bL.frozen
      have hbb := (Below.refl X.heap.size X).alloc (Nat.le_refl _) (.cells #[.int .u8 x.e.v, .int .u8 x.e.k, .slice x.A x.e.ns.length x.ca, .slice x.C x.e.ts.length x.cc] 39)
      have HBB := Lib.hid hbb
      have HO := Lib.hid (hI.own.below hbb)
      have HLN := Lib.hid (lx_new X x)
      have HLEN := Lib.hid (show ys.length ≤ 40 by have h := congrArg List.length hI.eq; rw [List.length_map, List.length_take] at h; have := (okL_all s).1; omega)
      have HR := Lib.hid (And.intro r1 (And.intro r3 (And.intro r4 r5)))
      clear hI hX hbb r1 r3 r4 r5
      gi_wp2_with (gi_at_builtin; refine wpListIn_append_ev rfl _ _ rfl hi v ys rfl HO.out ⟨X.heap.size, 0, none⟩ 1 x rfl HLN.out (by have := HLEN.out; omega) (by have := HBB.out.size; omega) ?_)
      intro g' n' cap' w1 hO hg
      have hnb : ∀ g, v.ownBlock = some g → hi ≤ g := fun g h => ownR_ge HO.out g h
      have hgw : Grw (fun r => hi ≤ r ∧ v.ownBlock = some r) X w1 := (grw_below HBB.out).trans (grw_grown hg (fun r h => ⟨hnb r h, h⟩))
      have k1 : Kp w.heap.size W0.heap.size hi X w1 := (Kp.below HBB.out hh2).trans (Kp.grown hg (Nat.le_trans hh2 HBB.out.size) (fun r h => Or.inl (hnb r h)))
      have b1 := boxed_grw HI.out.bR hgw (fun h => by omega)
      have b2 := boxed_grw HI.out.bE hgw (fun h => by omega)
      have b3 := boxed_grw HI.out.bL hgw (fun h => by omega)
      have hbel := hgw.below HI.out.bel (Nat.le_refl _) (fun r h => by omega)
      have hat : ∀ y ∈ ys ++ [x], LyAt w1 hi y := fun y hy => by
        rcases List.mem_append.1 hy with hy | hy
        · exact (((HI.out.at_ y hy).below HBB.out).grown HO.out hg)
        · rw [List.mem_singleton.1 hy]; exact ((HR.out.2.2.1.below HBB.out).grown HO.out hg)
      have heq : (ys ++ [x]).map (·.e) = (okL s).take (i + 1) := by
        rw [List.map_append, HI.out.eq, List.map_singleton, HR.out.2.1, take_next HR.out.1]
      have hss : hi ≤ w1.heap.size := Nat.le_trans (Nat.le_trans hh2 HBB.out.size) hg.size
      have hcL := b3.cell
      have hfL := b3.frozen
      have B1 := Lib.hid b1
      have B2 := Lib.hid b2
      have B3 := Lib.hid b3
      have KK := Lib.hid k1
      have HH := Lib.hid (And.intro hO (And.intro hbel (And.intro hat (And.intro heq hss))))
      clear hnb hgw k1 b1 b2 b3 hbel hat heq hss hO hg HLN HX x0 x1 x2 x3 HO HBB
      gi_wp2
      have ht := grw_grown (T := fun r => r = w.heap.size + 1 + 1) (grownBy_setCell' w1 (w.heap.size + 1 + 1) (.slice (some ⟨g', 0, none⟩) n' cap')) (fun r e => by injection e with e; exact e.symm)
      exact ⟨KK.out.trans (Kp.set HH.out.2.2.2.2 (by omega) (by omega) _), ys ++ [x], _, HR.out.1, boxed_grw B1.out ht (by omega), boxed_grw B2.out ht (by omega), B3.out.set _, ownR_grw HH.out.1 ht (fun r hr hq => by omega), HH.out.2.2.2.1, fun y hy => lyAt_grw (HH.out.2.2.1 y hy) ht (fun r hr hq => by omega), HR.out.2.2.2, ht.below HH.out.2.1 (Nat.le_refl _) (fun r hr => by omega)⟩
    · obtain ⟨q1, q2, q3, q4, q5⟩ := nat_ne r3
      have cR := HI.out.bR.cell
      have fR := HI.out.bR.frozen
      have cE := HI.out.bE.cell
      have fE := HI.out.bE.frozen
      have HK := Lib.hid (And.intro r2 r3)
      clear hI hX r1 r2 r3
      gi_wp2
      have k1 : Kp w.heap.size W0.heap.size hi X ((X.setCell ⟨w.heap.size, 0, none⟩ (.slice none 0 0)).setCell ⟨w.heap.size + 1, 0, none⟩ (.int .i64 (k : Int))) :=
        (Kp.set hh2 (Nat.le_refl _) (by omega) _).trans (Kp.set (by simpa using hh2) (by omega) (by omega) _)
      have b1 := (HI.out.bR.set (.slice none 0 0)).other (B' := w.heap.size + 1) (by omega) (.int .i64 (k : Int))
      have b2 := (HI.out.bE.other (B' := w.heap.size) (by omega) (.slice none 0 0)).set (.int .i64 (k : Int))
      have b3 := (HI.out.bel.setCell (p := ⟨w.heap.size, 0, none⟩) (Nat.le_refl _) (.slice none 0 0)).setCell (p := ⟨w.heap.size + 1, 0, none⟩) (by show w.heap.size ≤ w.heap.size + 1; omega) (.int .i64 (k : Int))
      exact ⟨k1, rfl, by rw [← HK.out.1]; exact HK.out.2, b1, by rw [← HK.out.1]; exact b2, b3⟩
  case done =>
    rintro hi X hh1 hh2 ⟨ys, v, hI⟩ hK
    have HI := Lib.hid hI
    have HK := Lib.hid hK
    have hw : btW s = 0 ∧ ys.map (·.e) = btL s := by
      have hle := hI.le
      have heq := hI.eq
      unfold times at hle heq
      by_cases h : btW s = 0
      · rw [if_pos h] at heq
        exact ⟨h, by rw [heq, List.take_length]; unfold btL; rw [if_pos h]⟩
      · rw [if_neg h] at hle; omega
    have HW := Lib.hid hw
    obtain ⟨A, c, rfl, -, -, -, -⟩ := hI.own.vat
    have cR := hI.bR.cell
    have fR := hI.bR.frozen
    have cE := hI.bE.cell
    have fE := hI.bE.frozen
    have cL := hI.bL.cell
    clear hI hK hw
    gi_wp2
    have k1 := ((KeepsOthers.setCell X ⟨w.heap.size, 0, none⟩ (.slice A ys.length c)).trans (KeepsOthers.setCell _ ⟨w.heap.size + 1, 0, none⟩ (.int .i64 0))).same _ _ HK.out rfl
    refine ⟨by simp, .inl ⟨_, _, rfl, run_takeDeferred k1, ?_⟩⟩
    have t1 := grw_grown (T := fun r => r = w.heap.size ∨ r = w.heap.size + 1 ∨ r = W0.heap.size) (grownBy_setCell' X w.heap.size (.slice A ys.length c)) (fun r e => by injection e with e; exact Or.inl e.symm)
    have t2 := grw_grown (T := fun r => r = w.heap.size ∨ r = w.heap.size + 1 ∨ r = W0.heap.size) (grownBy_setCell' (X.setCell ⟨w.heap.size, 0, none⟩ (.slice A ys.length c)) (w.heap.size + 1) (.int .i64 0)) (fun r e => by injection e with e; exact Or.inr (Or.inl e.symm))
    have t3 := grw_grown (T := fun r => r = w.heap.size ∨ r = w.heap.size + 1 ∨ r = W0.heap.size) (grownBy_putObj' ((X.setCell ⟨w.heap.size, 0, none⟩ (.slice A ys.length c)).setCell ⟨w.heap.size + 1, 0, none⟩ (.int .i64 0)) W0.heap.size (.deferred none)) (fun r e => by injection e with e; exact Or.inr (Or.inr e.symm))
    have tt := t1.trans (t2.trans t3)
    have b1 := (HI.out.bR.set (.slice A ys.length c)).other (B' := w.heap.size + 1) (by omega) (.int .i64 0)
    have b2 := (HI.out.bE.other (B' := w.heap.size) (by omega) (.slice A ys.length c)).set (.int .i64 0)
    have cn := (b1.kept (grownBy_putObj' _ W0.heap.size (.deferred none)) (fun h => by have := Option.some.inj h; omega)).cell
    have cp := (b2.kept (grownBy_putObj' _ W0.heap.size (.deferred none)) (fun h => by have := Option.some.inj h; omega)).cell
    refine ⟨.tuple #[.slice A ys.length c, .int .i64 0], ?_, ys, A, c, by rw [HW.out.1]; rfl, HW.out.2, ownR_less (ownR_grw HI.out.own tt (fun r hr hq => by omega)) (by omega), (fun y hy => lyAt_less (lyAt_grw (HI.out.at_ y hy) tt (fun r hr hq => by omega)) (by omega)), HI.out.ap, ?_⟩
    · simp [results, Tryz.results18, go_sem, cn, cp]
    · exact tt.below HI.out.bel (Nat.le_refl _) (fun r hr => by omega)
  case stop =>
    rintro hi c X hh1 hh2 ⟨rfl, hw, hR, hE, hB⟩ hK
    have HR := Lib.hid hR
    have HE := Lib.hid hE
    have HB := Lib.hid hB
    have HW := Lib.hid hw
    clear hR hE hB hw
    gi_wp2
    refine ⟨by simp, .inl ⟨_, _, rfl, run_takeDeferred hK, ?_⟩⟩
    have cn := (HR.out.kept (grownBy_putObj' X W0.heap.size (.deferred none)) (fun h => by have := Option.some.inj h; omega)).cell
    have cp := (HE.out.kept (grownBy_putObj' X W0.heap.size (.deferred none)) (fun h => by have := Option.some.inj h; omega)).cell
    refine ⟨.tuple #[.slice none 0 0, .int .i64 (btW s : Int)], ?_, [], none, 0, rfl, by unfold btL; rw [if_neg HW.out]; rfl, OwnR.nil _ _, (fun y hy => by cases hy), Apart.nil, ?_⟩
    · simp [results, Tryz.results18, go_sem, cn, cp]
    · exact (grw_grown (T := fun r => r = W0.heap.size) (grownBy_putObj' X W0.heap.size (.deferred none)) (fun r e => by injection e with e; exact e.symm)).below HB.out (Nat.le_refl _) (fun r hr => by omega)
theorem Decode_any (s : ByteArray) (hs : s.size ≤ 1000000000000) (w : World) (E : Env w) : Calls Tryz.prog 18 #[.string s] w (DecR s w) :=
  callsIn_wide.1 (Decode_in s hs w E)
end Go.Proofs.YtiibeemjkdipnaaGreatDoor.Batch
