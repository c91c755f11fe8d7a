import Derived.Test.YtbjpkffhpdcapaaDoorVE
import Derived.Test.YtbjpkffhpdcapaaDoorVF
/-
  The walk of the statement UpcastSays.
-/
namespace Go.Proofs.YtbjpkffhpdcapaaDoor.Upcast
open Go Go.RowKit
open Go.Proofs.YtbjpkffhpdcapaaDoor.Schema

/-- an event that is told, in memory that may be written over -/
def EvS (o : Except Nat Ev) (w : World) (z : Ending) (w' : World) : Prop :=
  ∃ (u : Ev) (n : Nat) (A : Option Addr) (c : Nat) (C : Option Addr) (d : Nat), z = .returned (.tuple #[evV A c C d u, .int .i64 (n : Int)]) ∧ EvAt w' A c C d u ∧ Spot w' w.heap.size 2 A u.ns.length ∧ Spot w' w.heap.size 9 C u.ts.length ∧ (u.ns.length ≤ 20 ∧ u.ts.length ≤ 1) ∧ Got o u n ∧ Below w.heap.size w w'
theorem evS_of {o : Except Nat Ev} {w : World} {z : Ending} {w' : World} (h : ExV o w z w') (hm : ∀ u, o = .ok u → may u = true ∧ ∀ t ∈ u.ts, t.size ≤ maxLen) (he : ∀ n, o = .error n → 1 ≤ n ∧ n ≤ 100) : EvS o w z w' := by
  cases ho : o with
  | ok u =>
    subst ho
    obtain ⟨A, c, C, d, hz, o1, o2, hb⟩ := h
    have hu := hm u rfl
    have hmo := may_out hu.1
    exact ⟨u, 0, A, c, C, d, hz, evAt_of hu.1 hu.2 o1 o2, spot_of o1 (nums_len _), spot_of o2 (texts_len _), ⟨by rw [hmo.ln]; have := lets_few u.v u.k; omega, hmo.tx⟩, Or.inl ⟨rfl, rfl⟩, hb⟩
  | error n =>
    subst ho
    obtain ⟨hz, hb⟩ := h
    have hn := he n rfl
    exact ⟨ev0, n, none, 0, none, 0, hz, ⟨by decide, by decide, fun x hx => (by cases hx), fun t ht => (by cases ht), VAt.nil _ _, VAt.nil _ _, fun _ => rfl, fun _ => rfl, Nat.le_refl _, Nat.le_refl _⟩, Or.inl rfl, Or.inl rfl, ⟨by decide, by decide⟩, Or.inr ⟨hn.1, hn.2, rfl, rfl⟩, hb⟩
theorem To_sp {A : Option Addr} {ca : Nat} {C : Option Addr} {cc : Nat} {e : Ev} {v : Nat} (hl : e.ns.length ≤ 1000000) (hv : v < 256) {w : World} (hA : EvAt w A ca C cc e) (E : Env w) :
    Calls Tryd.prog 14 #[evV A ca C cc e, .int .u8 (v : Int)] w (EvS (toX e v) w) :=
  (To_any A ca C cc e v hl hv w hA E).mono fun z w' h => evS_of h (fun u hu => by
    obtain ⟨h1, h2⟩ := to_may hu
    exact ⟨h1, by rw [h2]; exact hA.txt⟩) (fun n hn => to_err hn)
/-- what a Lowest tells of a version, an error, and events -/
def LwG (es : List Ev) (v p n : Nat) (l : List Ev) : Prop := (n = 0 ∧ lwX es v = .ok (p, l)) ∨ (1 ≤ n ∧ n ≤ 100 ∧ lwX es v = .error n ∧ p = 0 ∧ l = [])
theorem lwG_like {es : List Ev} {v p n q m : Nat} {l k : List Ev} (h : LwG es v p n l) (h2 : LwG es v q m k) : q = p ∧ m = n ∧ k = l := by
  rcases h with ⟨a1, a2⟩ | ⟨a1, _, a2, a3, a4⟩ <;> rcases h2 with ⟨b1, b2⟩ | ⟨b1, _, b2, b3, b4⟩
  · rw [a2] at b2
    injection b2 with b2; injection b2 with b2 b3
    exact ⟨b2.symm, by omega, b3.symm⟩
  · rw [a2] at b2; cases b2
  · rw [a2] at b2; cases b2
  · rw [a2] at b2
    injection b2 with b2
    exact ⟨by omega, by omega, by rw [a4, b4]⟩
theorem lwG_len {es : List Ev} {v p n : Nat} {l : List Ev} (h : LwG es v p n l) : l.length ≤ es.length := by
  rcases h with ⟨_, a2⟩ | ⟨_, _, _, _, a4⟩
  · rw [(lw_out a2).len]; exact Nat.le_refl _
  · rw [a4]; exact Nat.zero_le _
theorem lwN_G {xs zs : List Lx} {v p n : Nat} (h : (n = 0 ∧ lwX (xs.map (·.e)) v = .ok (p, zs.map (·.e))) ∨ (1 ≤ n ∧ n ≤ 100 ∧ lwX (xs.map (·.e)) v = .error n ∧ p = 0 ∧ zs = [])) : LwG (xs.map (·.e)) v p n (zs.map (·.e)) := by
  rcases h with h | ⟨h1, h2, h3, h4, h5⟩
  · exact Or.inl h
  · exact Or.inr ⟨h1, h2, h3, h4, by rw [h5]; rfl⟩
/-- the events of a list that may be written over, from the i-th one on -/
structure MsI (B : Nat) (X : World) (A : Option Addr) (c : Nat) (ys : List Lx) (i : Nat) (wr : World) : Prop where
  lo : Below X.heap.size X wr
  own : OwnR wr B (.slice A ys.length c) ys
  at_ : ∀ (j : Nat) (hj : j < ys.length), i ≤ j → EvAt wr ys[j].A ys[j].ca ys[j].C ys[j].cc ys[j].e ∧ Spot wr X.heap.size 2 ys[j].A ys[j].e.ns.length ∧ Spot wr X.heap.size 9 ys[j].C ys[j].e.ts.length
theorem MsI.below {B : Nat} {X : World} {A : Option Addr} {c : Nat} {ys : List Lx} {i : Nat} {wr w' : World} (h : MsI B X A c ys i wr) (hb : Below wr.heap.size wr w') : MsI B X A c ys i w' :=
  ⟨below_step h.lo hb, h.own.below hb, fun j hj hij => ⟨(h.at_ j hj hij).1.below hb, (h.at_ j hj hij).2.1.low hb, (h.at_ j hj hij).2.2.low hb⟩⟩
theorem ownR_sp {w w' : World} {base p q : Nat} {v : Value} {xs : List Lx} {A' C' : Option Addr} (h : OwnR w base v xs) (s : Sp A' p C' q w w') (t1 : ∀ k, hit A' p k → BoxT w 2 k) (t2 : ∀ k, hit C' q k → BoxT w 9 k) : OwnR w' base v xs := by
  obtain ⟨h1, h2⟩ := h
  refine ⟨h1, ?_⟩
  rcases h2 with h2 | ⟨g, cap, cur, e, hbg, hh, r⟩
  · exact Or.inl h2
  · exact Or.inr ⟨g, cap, cur, e, hbg, (s.block g (row_lt hh) (fun hk => absurd (boxT_one (t1 g hk) ⟨cur, _, hh⟩) (by decide)) (fun hk => absurd (boxT_one (t2 g hk) ⟨cur, _, hh⟩) (by decide))).trans hh, r⟩
theorem MsI.next {B : Nat} {X : World} {A : Option Addr} {c : Nat} {ys : List Lx} {i : Nat} {wr w' : World} (h : MsI B X A c ys i wr) (ha : Apart ys) (hi : i < ys.length) (s : Sp ys[i].A ys[i].e.ns.length ys[i].C ys[i].e.ts.length wr w') : MsI B X A c ys (i + 1) w' := by
  obtain ⟨e1, s1, s2⟩ := h.at_ i hi (Nat.le_refl _)
  have hlo := s.low h.lo.size s1.ge s2.ge
  refine ⟨h.lo.trans hlo, ownR_sp h.own s (fun k hk => (s1.box k hk).1) (fun k hk => (s2.box k hk).1), fun j hj hij => ?_⟩
  obtain ⟨e3, s3, s4⟩ := h.at_ j hj (by omega)
  have hp := ha i j hi hj (by omega)
  refine evAt_sp e3 s3 s4 s (fun k hk => (s1.box k hk).1) (fun k hk => (s2.box k hk).1) (fun k hk hk2 => ?_) (fun k hk hk2 => ?_)
  · exact hp.1 (fun h0 => hk2.1 (by rw [h0]; rfl)) (fun h0 => hk.1 (by rw [h0]; rfl)) (hk2.2.trans hk.2.symm)
  · exact hp.2 (fun h0 => hk2.1 (by rw [h0]; rfl)) (fun h0 => hk.1 (by rw [h0]; rfl)) (hk2.2.trans hk.2.symm)
/-- what Lowest tells, in memory that may be written over -/
def LwS (es : List Ev) (v : Nat) (w : World) (z : Ending) (w' : World) : Prop :=
  ∃ (p n : Nat) (ys : List Lx) (A : Option Addr) (c : Nat), z = .returned (.tuple #[.int .u8 (p : Int), .slice A ys.length c, .int .i64 (n : Int)]) ∧ MsI w.heap.size w A c ys 0 w' ∧ Apart ys ∧ (∀ y ∈ ys, y.e.ns.length ≤ 20 ∧ y.e.ts.length ≤ 1) ∧ LwG es v p n (ys.map (·.e))
theorem Lowest_sp {A : Option Addr} {cap : Nat} {xs : List Lx} {v : Nat} (hv : v < 256) (hn : xs.length ≤ 100000) (hsm : ∀ x ∈ xs, x.e.ns.length ≤ 1000000) {w : World} (hX : Row w A xs) (E : Env w) :
    Calls Tryd.prog 16 #[.slice A xs.length cap, .int .u8 (v : Int)] w (LwS (xs.map (·.e)) v w) :=
  (Lowest_ap A cap xs v hv hn hsm w hX E).mono fun z w' h => by
    unfold LowA at h
    cases hq : lwX (xs.map (·.e)) v with
    | ok p =>
      rw [hq] at h
      obtain ⟨ys, x, hys, hz, ho, hl, hap, hb⟩ := h
      obtain ⟨A', c', rfl, -, -, -, -⟩ := ho.vat
      refine ⟨p.1, 0, ys, A', c', hz, ⟨hb, ho, fun j hj _ => ?_⟩, hap, fun y hy => ?_, Or.inl ⟨rfl, by rw [hys]; exact hq⟩⟩
      · have hy := hl _ (List.getElem_mem hj)
        exact ⟨hy.lx, spot_of hy.ns (nums_len _), spot_of hy.ts (texts_len _)⟩
      · have hmo := may_out (hl y hy).may
        exact ⟨by rw [hmo.ln]; have := lets_few y.e.v y.e.k; omega, hmo.tx⟩
    | error n =>
      rw [hq] at h
      have hn := lw_err hq
      exact ⟨0, n, [], none, 0, h.1, ⟨h.2, OwnR.nil _ _, fun j hj => by cases hj⟩, Apart.nil, fun y hy => (by cases hy), Or.inr ⟨hn.1, hn.2, hq, rfl, rfl⟩⟩
theorem MsI.row {B : Nat} {X : World} {A : Option Addr} {c : Nat} {ys : List Lx} {i : Nat} {wr : World} (h : MsI B X A c ys i wr) : VAt wr A (cellsX ys) := by
  obtain ⟨A', c', e, hv, -, -, -⟩ := h.own.vat
  injection e with e1 _ _
  subst e1
  exact hv
theorem row_at {w : World} {A : Option Addr} {xs : List Lx} (h : VAt w A (cellsX xs)) (k : Nat) (hk : k < xs.length) : ∃ b o, A = some ⟨b, o, none⟩ ∧ b < w.heap.size ∧
    w.cell? ⟨b, o + k * 4, none⟩ = some (.int .u8 xs[k].e.v) ∧ w.cell? ⟨b, o + k * 4 + 1, none⟩ = some (.int .u8 xs[k].e.k) ∧
    w.cell? ⟨b, o + k * 4 + 2, none⟩ = some (.slice xs[k].A xs[k].e.ns.length xs[k].ca) ∧ w.cell? ⟨b, o + k * 4 + 3, none⟩ = some (.slice xs[k].C xs[k].e.ts.length xs[k].cc) := by
  obtain ⟨b, o, hA, c0⟩ := h (k * 4) (.int .u8 xs[k].e.v) (by have := cellsX_at xs k 0 hk (by omega); simpa [lxC] using this)
  have get : ∀ j u, j < 4 → (lxC xs[k])[j]? = some u → w.cell? ⟨b, o + (k * 4 + j), none⟩ = some u := fun j u hj hu => by
    obtain ⟨b', o', hA', c⟩ := h (k * 4 + j) u (by rw [cellsX_at xs k j hk hj]; exact hu)
    rw [hA] at hA'
    injection hA' with e; injection e with e1 e2; subst e1; subst e2
    exact c
  refine ⟨b, o, hA, cell_lt c0, c0, ?_, ?_, ?_⟩
  · rw [Nat.add_assoc]; exact get 1 _ (by omega) rfl
  · rw [Nat.add_assoc]; exact get 2 _ (by omega) rfl
  · rw [Nat.add_assoc]; exact get 3 _ (by omega) rfl
/-- what stands while the statement goes round -/
structure SaI (w : World) (A : Option Addr) (ca : Nat) (C : Option Addr) (cc : Nat) (e : Ev) (D : Option Addr) (xs : List Lx) (A1 : Option Addr) (c1 : Nat) (C1 : Option Addr) (d1 : Nat) (b7 : Nat) (Dy : Option Addr) (ys : List Lx) (q : Ev) (A2 : Option Addr) (c2 : Nat) (C2 : Option Addr) (d2 : Nat) (b9 : Nat) (Dz : Option Addr) (zs : List Lx) (wr : World) : Prop where
  env : Env wr
  bel : Below w.heap.size w wr
  p : Four wr w.heap.size (.int .u8 e.v) (.int .u8 e.k) (.slice A e.ns.length ca) (.slice C e.ts.length cc)
  fe : EvAt wr A ca C cc e
  fx : Row wr D xs
  p7 : Four wr b7 (.int .u8 e.v) (.int .u8 e.k) (.slice A1 e.ns.length c1) (.slice C1 e.ts.length d1)
  fo : EvAt wr A1 c1 C1 d1 e
  fy : Row wr Dy ys
  p9 : Four wr b9 (.int .u8 q.v) (.int .u8 q.k) (.slice A2 q.ns.length c2) (.slice C2 q.ts.length d2)
  fq : EvAt wr A2 c2 C2 d2 q
  fz : Row wr Dz zs
theorem SaI.below {w : World} {A : Option Addr} {ca : Nat} {C : Option Addr} {cc : Nat} {e : Ev} {D : Option Addr} {xs : List Lx} {A1 : Option Addr} {c1 : Nat} {C1 : Option Addr} {d1 b7 : Nat} {Dy : Option Addr} {ys : List Lx} {q : Ev} {A2 : Option Addr} {c2 : Nat} {C2 : Option Addr} {d2 b9 : Nat} {Dz : Option Addr} {zs : List Lx} {wr w' : World} (h : SaI w A ca C cc e D xs A1 c1 C1 d1 b7 Dy ys q A2 c2 C2 d2 b9 Dz zs wr) (hb : Below wr.heap.size wr w') : SaI w A ca C cc e D xs A1 c1 C1 d1 b7 Dy ys q A2 c2 C2 d2 b9 Dz zs w' :=
  ⟨h.env.below hb, below_step h.bel hb, h.p.below hb, h.fe.below hb, h.fx.below hb, h.p7.below hb, h.fo.below hb, h.fy.below hb, h.p9.below hb, h.fq.below hb, h.fz.below hb⟩

set_option maxRecDepth 100000 in
set_option maxHeartbeats 8000000 in
theorem says_any (A : Option Addr) (ca : Nat) (C : Option Addr) (cc : Nat) (e : Ev) (D : Option Addr) (cd : Nat) (xs : List Lx) (v : Int) (w : World) (hA : EvAt w A ca C cc e) (lA : e.ns.length ≤ 140737488355328 ∧ e.ts.length ≤ 140737488355328) (hx : Row w D xs) (lx : xs.length ≤ cd) (mx : cd ≤ maxLen) (nx : D = none → cd = 0) (rx : xs.length ≤ 2513169434917 ∧ ∀ z ∈ xs, Light z) (wv : (Lit.int .u8 v).wf = true) (E : Env w) :
    Calls Tryd.prog 3 #[evV A ca C cc e, .slice D xs.length cd, .int .u8 v] w fun z w' => z = .returned (.bool true) ∧ Below w.heap.size w w' := by
  have hvb := bounds_u8 wv
  obtain ⟨v, rfl⟩ := Int.eq_ofNat_of_zero_le hvb.1
  have HVB := Lib.hid (show v < 256 by omega)
  clear hvb wv
  have HE := Lib.hid E
  have HA := Lib.hid hA
  have LA := Lib.hid lA
  have HX := Lib.hid hx
  have HR := Lib.hid rx
  clear E hA lA hx rx lx mx nx
  unfold evV
  have hb := (Below.refl w.heap.size w).alloc (Nat.le_refl _) (.cells #[.int .u8 e.v, .int .u8 e.k, .slice A e.ns.length ca, .slice C e.ts.length cc] 25)
  have HP := Lib.hid (show Four _ w.heap.size _ _ _ _ from box4 w (.int .u8 e.v) (.int .u8 e.k) (.slice A e.ns.length ca) (.slice C e.ts.length cc) 25)
  have HB := Lib.hid hb
  replace HE := Lib.hid (HE.out.below hb)
  replace HA := Lib.hid (HA.out.below hb)
  replace HX := Lib.hid (HX.out.below hb)
  clear hb
  go_enter Tryd.func3, Tryd.ntmps3
  go_upto_region 1 with (fail)
  generalize w.alloc (.cells #[.int .u8 e.v, .int .u8 e.k, .slice A e.ns.length ca, .slice C e.ts.length cc] 25) = X1 at HE HA HX HP HB ⊢
  obtain ⟨hp_0, hp_1, hp_2, hp_3⟩ := HP.out
  go_wp2_with fail
  clear hp_0 hp_1 hp_2 hp_3
  refine (long_any A ca C cc e LA.out.1 LA.out.2 X1 HA.out).mono ?_
  rintro z X2 ⟨b1, rfl, hl1, hb⟩
  replace HE := Lib.hid (HE.out.below hb)
  replace HA := Lib.hid (HA.out.below hb)
  replace HX := Lib.hid (HX.out.below hb)
  replace HP := Lib.hid (HP.out.below hb)
  replace HB := Lib.hid (below_step HB.out hb)
  clear hb
  cases b1 with
  | true =>
    clear hl1
    go_wp2_with fail
    refine (awake_any _ HE.out).mono ?_
    rintro z Xz ⟨rfl, hb⟩
    have HZ := Lib.hid (below_step HB.out hb)
    clear hb
    go_wp2_with fail
    go_ret
    exact ⟨rfl, HZ.out⟩
  | false =>
    have SA := Lib.hid (hl1 rfl)
    clear hl1
    go_wp2_with fail
    refine (many_any D cd xs HR.out.1 X2 HX.out HR.out.2).mono ?_
    rintro z X3 ⟨b2, rfl, hl2, hb⟩
    replace HE := Lib.hid (HE.out.below hb)
    replace HA := Lib.hid (HA.out.below hb)
    replace HX := Lib.hid (HX.out.below hb)
    replace HP := Lib.hid (HP.out.below hb)
    replace HB := Lib.hid (below_step HB.out hb)
    clear hb
    cases b2 with
    | true =>
      clear hl2
      go_wp2_with fail
      refine (awake_any _ HE.out).mono ?_
      rintro z Xz ⟨rfl, hb⟩
      have HZ := Lib.hid (below_step HB.out hb)
      clear hb
      go_wp2_with fail
      go_ret
      exact ⟨rfl, HZ.out⟩
    | false =>
      have SX := Lib.hid (hl2 rfl)
      clear hl2
      obtain ⟨hp_0, hp_1, hp_2, hp_3⟩ := HP.out
      go_wp2_with fail
      clear hp_0 hp_1 hp_2 hp_3
      refine (own_x A ca C cc e (by have := SA.out; omega) (by have := SA.out; omega) X3 HA.out).mono ?_
      rintro z X4 ⟨A1, c1, C1, d1, mid, rfl, -, -, h1, h2, hb⟩
      replace HE := Lib.hid (HE.out.below hb)
      replace HA := Lib.hid (HA.out.below hb)
      replace HX := Lib.hid (HX.out.below hb)
      replace HP := Lib.hid (HP.out.below hb)
      replace HB := Lib.hid (below_step HB.out hb)
      have HO := Lib.hid (ev_of HA.out.v HA.out.k HA.out.fit HA.out.txt h1 h2)
      clear h1 h2 hb
      unfold evV
      go_wp2_with fail
      refine (owns_any D cd xs (by have := SX.out.1; omega) (fun x hx => by have := SX.out.2 x hx; omega) X4 HX.out).mono ?_
      rintro z X5 ⟨ys, Dy, cy, rfl, hrow, hmap, -, -, hb⟩
      replace HE := Lib.hid (HE.out.below hb)
      replace HA := Lib.hid (HA.out.below hb)
      replace HX := Lib.hid (HX.out.below hb)
      replace HP := Lib.hid (HP.out.below hb)
      replace HB := Lib.hid (below_step HB.out hb)
      replace HO := Lib.hid (HO.out.below hb)
      have HY := Lib.hid hrow
      have HYX := Lib.hid hmap
      clear hrow hmap hb
      go_upto_region 4 with (fail)
      have hb := (Below.refl X5.heap.size X5).alloc (Nat.le_refl _) (.cells #[.int .u8 e.v, .int .u8 e.k, .slice A1 e.ns.length c1, .slice C1 e.ts.length d1] 25)
      replace HE := Lib.hid (HE.out.below hb)
      replace HA := Lib.hid (HA.out.below hb)
      replace HX := Lib.hid (HX.out.below hb)
      replace HP := Lib.hid (HP.out.below hb)
      replace HB := Lib.hid (below_step HB.out hb)
      replace HO := Lib.hid (HO.out.below hb)
      replace HY := Lib.hid (HY.out.below hb)
      have HPo := Lib.hid (show Four _ X5.heap.size _ _ _ _ from box4 X5 (.int .u8 e.v) (.int .u8 e.k) (.slice A1 e.ns.length c1) (.slice C1 e.ts.length d1) 25)
      clear hb
      generalize X5.alloc (.cells #[.int .u8 e.v, .int .u8 e.k, .slice A1 e.ns.length c1, .slice C1 e.ts.length d1] 25) = X6 at HE HA HX HP HB HO HY HPo ⊢
      generalize hWs : X5.heap.size = bo at HPo ⊢
      clear hWs
      obtain ⟨hp_0, hp_1, hp_2, hp_3⟩ := HP.out
      go_wp2_with fail
      clear hp_0 hp_1 hp_2 hp_3
      refine (rTo_ev HVB.out HA.out).mono ?_
      rintro z X7 ⟨q, a, A2, c2, C2, d2, rfl, hev, hsm, hgot, hb⟩
      replace HE := Lib.hid (HE.out.below hb)
      replace HA := Lib.hid (HA.out.below hb)
      replace HX := Lib.hid (HX.out.below hb)
      replace HP := Lib.hid (HP.out.below hb)
      replace HB := Lib.hid (below_step HB.out hb)
      replace HO := Lib.hid (HO.out.below hb)
      replace HY := Lib.hid (HY.out.below hb)
      replace HPo := Lib.hid (HPo.out.below hb)
      have HQ := Lib.hid hev
      have HQG := Lib.hid hgot
      clear hev hsm hgot hb
      unfold evV
      go_upto_region 5 with (fail)
      have hb := (Below.refl X7.heap.size X7).alloc (Nat.le_refl _) (.cells #[.int .u8 q.v, .int .u8 q.k, .slice A2 q.ns.length c2, .slice C2 q.ts.length d2] 25)
      replace HE := Lib.hid (HE.out.below hb)
      replace HA := Lib.hid (HA.out.below hb)
      replace HX := Lib.hid (HX.out.below hb)
      replace HP := Lib.hid (HP.out.below hb)
      replace HB := Lib.hid (below_step HB.out hb)
      replace HO := Lib.hid (HO.out.below hb)
      replace HY := Lib.hid (HY.out.below hb)
      replace HPo := Lib.hid (HPo.out.below hb)
      replace HQ := Lib.hid (HQ.out.below hb)
      have HPq := Lib.hid (show Four _ X7.heap.size _ _ _ _ from box4 X7 (.int .u8 q.v) (.int .u8 q.k) (.slice A2 q.ns.length c2) (.slice C2 q.ts.length d2) 25)
      clear hb
      generalize X7.alloc (.cells #[.int .u8 q.v, .int .u8 q.k, .slice A2 q.ns.length c2, .slice C2 q.ts.length d2] 25) = X8 at HE HA HX HP HB HO HY HPo HQ HPq ⊢
      generalize hWs : X7.heap.size = bq at HPq ⊢
      clear hWs
      go_wp2_with fail
      refine (rLowest_ev HVB.out (by have := SX.out.1; omega) HX.out).mono ?_
      rintro z X9 ⟨p, k, zs, Dz, cz, rfl, hrow, -, -, -, hgot, hb⟩
      replace HE := Lib.hid (HE.out.below hb)
      replace HA := Lib.hid (HA.out.below hb)
      replace HX := Lib.hid (HX.out.below hb)
      replace HP := Lib.hid (HP.out.below hb)
      replace HB := Lib.hid (below_step HB.out hb)
      replace HO := Lib.hid (HO.out.below hb)
      replace HY := Lib.hid (HY.out.below hb)
      replace HPo := Lib.hid (HPo.out.below hb)
      replace HQ := Lib.hid (HQ.out.below hb)
      replace HPq := Lib.hid (HPq.out.below hb)
      have HZ := Lib.hid hrow
      have HZG := Lib.hid (lwN_G hgot)
      have HZL := Lib.hid (show zs.length ≤ 60 by (have h1 := lwG_len HZG.out; rw [List.length_map, List.length_map] at h1; have := SX.out.1; omega))
      clear hrow hgot hb
      go_wp2_with fail
      have HI : Hid (SaI w A ca C cc e D xs A1 c1 C1 d1 bo Dy ys q A2 c2 C2 d2 bq Dz zs X9) := Lib.hid ⟨HE.out, HB.out, HP.out, HA.out, HX.out, HPo.out, HO.out, HY.out, HPq.out, HQ.out, HZ.out⟩
      clear HE HA HX HP HB HO HY HPo HQ HPq HZ
      go_loopw [14] (fun t wr => ∃ r : Nat, r ≤ 2 ∧ t = .int .i64 r ∧ Hid (SaI w A ca C cc e D xs A1 c1 C1 d1 bo Dy ys q A2 c2 C2 d2 bq Dz zs wr)) (fun t _ => 2 - (intOf t).toNat)
      case atStart => exact ⟨0, by omega, rfl, HI⟩
      case round =>
        clear HI
        obtain ⟨r, hr, rfl, HI⟩ := hrel
        by_cases hlt : r < 2
        case pos =>
          have z1 : (r : Int) < 2 := by omega
          have zk : IntKind.i64.wrap ((r : Int) + 1) = (r : Int) + 1 := by (rw [IntKind.wrap_i64]; omega)
          have HLT := Lib.hid hlt
          have HZK := Lib.hid zk
          clear hr hlt zk
          obtain ⟨y0, y1, y2, y3⟩ := HI.out.p7
          go_wp2_with fail
          clear y0 y1 y2 y3 z1
          refine (To_sp (by have := SA.out; omega) HVB.out HI.out.fo HI.out.env).mono ?_
          rintro z W1 ⟨u, n, A3, c3, C3, d3, rfl, hev, t1, t2, hsm, hgot, hb⟩
          have hlk := got_like hgot HQG.out
          have HT := Lib.hid (show (same u q && decide (n = a)) = true by rw [hlk.1, hlk.2, same_self]; simp)
          clear hlk hgot
          unfold evV
          have hb2 := (Below.refl W1.heap.size W1).alloc (Nat.le_refl _) (.cells #[.int .u8 u.v, .int .u8 u.k, .slice A3 u.ns.length c3, .slice C3 u.ts.length d3] 25)
          have HC := Lib.hid (hev.below hb2)
          have HT1 := Lib.hid (t1.low hb2)
          have HT2 := Lib.hid (t2.low hb2)
          have HP15 := Lib.hid (show Four _ W1.heap.size _ _ _ _ from box4 W1 (.int .u8 u.v) (.int .u8 u.k) (.slice A3 u.ns.length c3) (.slice C3 u.ts.length d3) 25)
          have HBB := Lib.hid (below_step hb hb2)
          have HSM := Lib.hid hsm
          clear hev t1 t2 hb hb2 hsm
          go_upto_region 10 with (fail)
          generalize hWs : W1.heap.size = b15 at HP15 ⊢
          clear hWs
          generalize W1.alloc (.cells #[.int .u8 u.v, .int .u8 u.k, .slice A3 u.ns.length c3, .slice C3 u.ts.length d3] 25) = W2 at HC HT1 HT2 HP15 HBB ⊢
          have HW := Lib.hid (HI.out.fq.below HBB.out)
          obtain ⟨y0, y1, y2, y3⟩ := HP15.out
          obtain ⟨q0, q1, q2, q3⟩ := HI.out.p9.below HBB.out
          go_wp2_with fail
          clear y0 y1 y2 y3 q0 q1 q2 q3
          refine (is_any A3 c3 C3 d3 u n A2 c2 C2 d2 q a wr.heap.size W2 HC.out HW.out HT1.out HT2.out (by have := HSM.out; omega) (by have := HSM.out; omega)).mono ?_
          rintro z W3 ⟨rfl, hsp⟩
          rw [HT.out]
          have HI3 := Lib.hid (HI.out.below (HBB.out.trans (hsp.low HBB.out.size HT1.out.ge HT2.out.ge)))
          clear hsp HC HT1 HT2 HP15 HBB HW HI HT HSM
          go_wp2_with fail
          have hyl : ys.length = xs.length := by (have h := congrArg List.length HYX.out; rw [List.length_map, List.length_map] at h; exact h)
          have HYL := Lib.hid hyl
          have hys : ∀ y ∈ ys, y.e.ns.length ≤ 300 ∧ y.e.ts.length ≤ 300 := fun y hy => by
            have h1 : y.e ∈ xs.map (·.e) := by rw [← HYX.out]; exact List.mem_map_of_mem hy
            obtain ⟨x, hx, h2⟩ := List.mem_map.1 h1
            rw [← h2]; exact SX.out.2 x hx
          have HYS := Lib.hid hys
          clear hyl hys
          refine (Lowest_sp HVB.out (by have := HYL.out; have := SX.out.1; omega) (fun y hy => by have := HYS.out y hy; omega) HI3.out.fy HI3.out.env).mono ?_
          rintro z W4 ⟨p2, n2, ms, Am, cm, rfl, hms, hap, hsm, hgot⟩
          rw [HYX.out] at hgot
          obtain ⟨hp, hn, hmm⟩ := lwG_like HZG.out hgot
          have hml : ms.length = zs.length := by (have h := congrArg List.length hmm; rw [List.length_map, List.length_map] at h; exact h)
          have HMS := Lib.hid hms
          have HAP := Lib.hid hap
          have HSM := Lib.hid hsm
          have HMM := Lib.hid hmm
          have HML := Lib.hid hml
          rw [hp, hn, hml]
          have z5 : ((zs.length : Int) != (zs.length : Int)) = false := by simp
          clear hms hap hsm hgot hp hn hmm hml
          go_wp2_with fail
          clear z5
          have HMI : Hid (MsI W3.heap.size W3 Am cm ms 0 W4) := HMS
          clear HMS
          go_loopw [20] (fun t wx => ∃ i : Nat, i ≤ zs.length ∧ t = .int .i64 i ∧ Hid (MsI W3.heap.size W3 Am cm ms i wx)) (fun t _ => zs.length - (intOf t).toNat)
          case atStart => exact ⟨0, Nat.zero_le _, rfl, HMI⟩
          case round =>
            clear HMI
            obtain ⟨i, hi, rfl, HM⟩ := hrel
            skip
            by_cases hlt : i < zs.length
            case pos =>
              have hlt2 : i < ms.length := by rw [HML.out]; exact hlt
              have z0 : (0 : Int) ≤ (i : Int) := by omega
              have z1 : (i : Int) < (zs.length : Int) := by omega
              have HLT2 := Lib.hid hlt
              obtain ⟨b, o, rfl, hbl, c0, c1', c2', c3'⟩ := row_at HM.out.row i hlt2
              obtain ⟨b2, o2, rfl, hbl2, e0, e1, e2, e3, hat⟩ := HI3.out.fz.at i hlt
              replace e0 := cell_kept e0 HM.out.lo
              replace e1 := cell_kept e1 HM.out.lo
              replace e2 := cell_kept e2 HM.out.lo
              replace e3 := cell_kept e3 HM.out.lo
              have HB2 := Lib.hid hbl2
              replace hat := hat.below HM.out.lo
              clear hbl hbl2
              obtain ⟨hev, t1, t2⟩ := HM.out.at_ i hlt2 (Nat.le_refl _)
              have HNX := Lib.hid (fun w' s => HM.out.next (w' := w') HAP.out hlt2 s)
              have HSS := Lib.hid (HSM.out _ (List.getElem_mem hlt2))
              have HEQ := Lib.hid (map_at HMM.out i hlt2 hlt)
              have HC := Lib.hid hev
              have HT1 := Lib.hid t1
              have HT2 := Lib.hid t2
              have HD := Lib.hid hat
              clear hev t1 t2 hat
              skip
              skip
              generalize ms[i] = x at HNX HSS HEQ HC HT1 HT2 c0 c1' c2' c3'
              generalize zs[i] = y at HEQ HD e0 e1 e2 e3
              go_upto_region 18 with (fail)
              have hg : ∀ W, Below wr.heap.size wr W → (fun w' => w'.cell? ⟨b, o + i * 4, none⟩ = some (.int .u8 x.e.v) ∧ w'.cell? ⟨b, o + i * 4 + 1, none⟩ = some (.int .u8 x.e.k) ∧ w'.cell? ⟨b, o + i * 4 + 2, none⟩ = some (.slice x.A x.e.ns.length x.ca) ∧ w'.cell? ⟨b, o + i * 4 + 3, none⟩ = some (.slice x.C x.e.ts.length x.cc) ∧ w'.cell? ⟨b2, o2 + i * 4, none⟩ = some (.int .u8 y.e.v) ∧ w'.cell? ⟨b2, o2 + i * 4 + 1, none⟩ = some (.int .u8 y.e.k) ∧ w'.cell? ⟨b2, o2 + i * 4 + 2, none⟩ = some (.slice y.A y.e.ns.length y.ca) ∧ w'.cell? ⟨b2, o2 + i * 4 + 3, none⟩ = some (.slice y.C y.e.ts.length y.cc)) W := fun W hW => ⟨cell_kept c0 hW, cell_kept c1' hW, cell_kept c2' hW, cell_kept c3' hW, cell_kept e0 hW, cell_kept e1 hW, cell_kept e2 hW, cell_kept e3 hW⟩
              have HG := Lib.hid hg
              clear hg
              have hc := is_any x.A x.ca x.C x.cc x.e 0 y.A y.ca y.C y.cc y.e 0 W3.heap.size wr.drew (HC.out.below (below_drew _ _)) (HD.out.below (below_drew _ _)) (HT1.out.low (below_drew _ _)) (HT2.out.low (below_drew _ _)) (by have := HSS.out; omega) (by have := HSS.out; omega)
              rw [(same_iff _ _).2 HEQ.out, show (true && decide ((0 : Nat) = 0)) = true from rfl, show ((0 : Nat) : Int) = 0 from rfl] at hc
              have HCC := Lib.hid hc
              simp only [evV] at HCC
              clear hc
              have hbx := HM.out.own
              have HKB := Lib.hid (fun V (s : Sp x.A x.e.ns.length x.C x.e.ts.length wr V) (j : Nat) (u : Value) (h : wr.cell? ⟨b, j, none⟩ = some u) => (show V.cell? ⟨b, j, none⟩ = some u from by
                refine (World.cell?_of_block ?_).trans h
                rcases hbx.2 with ⟨h1, _⟩ | ⟨g, cap, cur, h1, _, h3, _⟩
                · cases h1
                · injection h1 with h1 _ _; injection h1 with h1; injection h1 with h1 _; subst h1
                  exact s.block b (row_lt h3) (fun hk => absurd (boxT_one (HT1.out.box b hk).1 ⟨cur, _, h3⟩) (by decide)) (fun hk => absurd (boxT_one (HT2.out.box b hk).1 ⟨cur, _, h3⟩) (by decide))))
              clear hbx
              have hb3 := HB2.out
              have HKC := Lib.hid (fun V (s : Sp x.A x.e.ns.length x.C x.e.ts.length wr V) (j : Nat) (u : Value) (h : wr.cell? ⟨b2, j, none⟩ = some u) => (show V.cell? ⟨b2, j, none⟩ = some u from (World.cell?_of_block ((s.low HM.out.lo.size HT1.out.ge HT2.out.ge).block b2 hb3)).trans h))
              clear hb3
              refine wp_region_held_drew (S := (fun w' => w'.cell? ⟨b, o + i * 4, none⟩ = some (.int .u8 x.e.v) ∧ w'.cell? ⟨b, o + i * 4 + 1, none⟩ = some (.int .u8 x.e.k) ∧ w'.cell? ⟨b, o + i * 4 + 2, none⟩ = some (.slice x.A x.e.ns.length x.ca) ∧ w'.cell? ⟨b, o + i * 4 + 3, none⟩ = some (.slice x.C x.e.ts.length x.cc) ∧ w'.cell? ⟨b2, o2 + i * 4, none⟩ = some (.int .u8 y.e.v) ∧ w'.cell? ⟨b2, o2 + i * 4 + 1, none⟩ = some (.int .u8 y.e.k) ∧ w'.cell? ⟨b2, o2 + i * 4 + 2, none⟩ = some (.slice y.A y.e.ns.length y.ca) ∧ w'.cell? ⟨b2, o2 + i * 4 + 3, none⟩ = some (.slice y.C y.e.ts.length y.cc))) (by kernel_rfl) (HG.out _ (below_drew _ _)) (fun hHeld => ?_)
              refine wpAnyH_take (i := 0) (oi := { dst := some 89, op := Go.Op.move (Go.Operand.tmp 18), type := 26, pos := "law.go:108", after := #[], guard := none }) (v := ?v1) rfl (by kernel_rfl) (by kernel_rfl) (by kernel_rfl) (fun _ _ _ h => h) (Or.inl ⟨by rfl, ?hy1⟩) (by assumption) ?rest1
              case hy1 => (intro w hSw; obtain ⟨s0, s1, s2, s3, s4, s5, s6, s7⟩ := hSw; go_simp; try with_reducible rfl)
              try simp only [Act.put, List.setIfInBounds_toArray, List.set_cons_zero, List.set_cons_succ]
              refine wpAnyH_take (i := 1) (oi := { dst := some 90, op := Go.Op.move (Go.Operand.tmp 20), type := 3, pos := "law.go:108", after := #[], guard := none }) (v := ?v2) rfl (by kernel_rfl) (by kernel_rfl) (by kernel_rfl) (fun _ _ _ h => h) (Or.inl ⟨by rfl, ?hy2⟩) (by assumption) ?rest2
              case hy2 => (intro w hSw; obtain ⟨s0, s1, s2, s3, s4, s5, s6, s7⟩ := hSw; go_simp; try with_reducible rfl)
              try simp only [Act.put, List.setIfInBounds_toArray, List.set_cons_zero, List.set_cons_succ]
              refine wpAnyH_take (i := 2) (oi := { dst := some 91, op := Go.Op.indexAddr 26 (Go.Operand.tmp 89) (Go.Operand.tmp 90), type := 0, pos := "law.go:108", after := #[{ on := 0, ground := Go.Ground.data }, { on := 1, ground := Go.Ground.data }], guard := none }) (v := ?v3) rfl (by kernel_rfl) (by kernel_rfl) (by kernel_rfl) (fun _ _ _ h => h) (Or.inl ⟨by rfl, ?hy3⟩) (by assumption) ?rest3
              case hy3 => (intro w hSw; obtain ⟨s0, s1, s2, s3, s4, s5, s6, s7⟩ := hSw; go_simp; try with_reducible rfl)
              try simp only [Act.put, List.setIfInBounds_toArray, List.set_cons_zero, List.set_cons_succ]
              refine wpAnyH_take (i := 3) (oi := { dst := some 92, op := Go.Op.load 25 (Go.Operand.tmp 91), type := 25, pos := "law.go:108", after := #[{ on := 2, ground := Go.Ground.data }], guard := none }) (v := ?v4) rfl (by kernel_rfl) (by kernel_rfl) (by kernel_rfl) (fun _ _ _ h => h) (Or.inl ⟨by rfl, ?hy4⟩) (by assumption) ?rest4
              case hy4 => (intro w hSw; obtain ⟨s0, s1, s2, s3, s4, s5, s6, s7⟩ := hSw; go_simp; try with_reducible rfl)
              try simp only [Act.put, List.setIfInBounds_toArray, List.set_cons_zero, List.set_cons_succ]
              refine wpAnyH_take (i := 4) (oi := { dst := some 93, op := Go.Op.move (Go.Operand.tmp 12), type := 26, pos := "law.go:108", after := #[], guard := none }) (v := ?v5) rfl (by kernel_rfl) (by kernel_rfl) (by kernel_rfl) (fun _ _ _ h => h) (Or.inl ⟨by rfl, ?hy5⟩) (by assumption) ?rest5
              case hy5 => (intro w hSw; obtain ⟨s0, s1, s2, s3, s4, s5, s6, s7⟩ := hSw; go_simp; try with_reducible rfl)
              try simp only [Act.put, List.setIfInBounds_toArray, List.set_cons_zero, List.set_cons_succ]
              refine wpAnyH_take (i := 5) (oi := { dst := some 94, op := Go.Op.move (Go.Operand.tmp 20), type := 3, pos := "law.go:108", after := #[], guard := none }) (v := ?v6) rfl (by kernel_rfl) (by kernel_rfl) (by kernel_rfl) (fun _ _ _ h => h) (Or.inl ⟨by rfl, ?hy6⟩) (by assumption) ?rest6
              case hy6 => (intro w hSw; obtain ⟨s0, s1, s2, s3, s4, s5, s6, s7⟩ := hSw; go_simp; try with_reducible rfl)
              try simp only [Act.put, List.setIfInBounds_toArray, List.set_cons_zero, List.set_cons_succ]
              refine wpAnyH_take (i := 6) (oi := { dst := some 95, op := Go.Op.indexAddr 26 (Go.Operand.tmp 93) (Go.Operand.tmp 94), type := 0, pos := "law.go:108", after := #[{ on := 4, ground := Go.Ground.data }, { on := 5, ground := Go.Ground.data }], guard := none }) (v := ?v7) rfl (by kernel_rfl) (by kernel_rfl) (by kernel_rfl) (fun _ _ _ h => h) (Or.inl ⟨by rfl, ?hy7⟩) (by assumption) ?rest7
              case hy7 => (intro w hSw; obtain ⟨s0, s1, s2, s3, s4, s5, s6, s7⟩ := hSw; go_simp; try with_reducible rfl)
              try simp only [Act.put, List.setIfInBounds_toArray, List.set_cons_zero, List.set_cons_succ]
              refine wpAnyH_take (i := 7) (oi := { dst := some 96, op := Go.Op.load 25 (Go.Operand.tmp 95), type := 25, pos := "law.go:108", after := #[{ on := 6, ground := Go.Ground.data }], guard := none }) (v := ?v8) rfl (by kernel_rfl) (by kernel_rfl) (by kernel_rfl) (fun _ _ _ h => h) (Or.inl ⟨by rfl, ?hy8⟩) (by assumption) ?rest8
              case hy8 => (intro w hSw; obtain ⟨s0, s1, s2, s3, s4, s5, s6, s7⟩ := hSw; go_simp; try with_reducible rfl)
              try simp only [Act.put, List.setIfInBounds_toArray, List.set_cons_zero, List.set_cons_succ]
              refine wpAnyH_ready (rs := [8]) (by kernel_rfl) (by simp) ?_
              refine AllReadyH.cons (o := { dst := some 97, op := Go.Op.call { callee := Go.Callee.value (Go.Operand.func 15), args := #[Go.Operand.tmp 92, Go.Operand.const (Go.Value.int Go.IntKind.i64 0), Go.Operand.tmp 96, Go.Operand.const (Go.Value.int Go.IntKind.i64 0)], argTypes := #[25, 32, 25, 32] }, type := 4, pos := "law.go:108", after := #[{ on := 3, ground := Go.Ground.data }, { on := 7, ground := Go.Ground.data }], guard := none }) rfl (fun K hK => ?_) AllReadyH.nil
              go_simp
              go_at_call 15
              refine HCC.out.mono ?_
              rintro z V1 ⟨rfl, hsp⟩
              have hsp2 := (Sp.of (below_drew wr.heap.size wr)).trans hsp
              refine hK.out _ _ ⟨HKB.out _ hsp2 _ _ c0, HKB.out _ hsp2 _ _ c1', HKB.out _ hsp2 _ _ c2', HKB.out _ hsp2 _ _ c3', HKC.out _ hsp2 _ _ e0, HKC.out _ hsp2 _ _ e1, HKC.out _ hsp2 _ _ e2, HKC.out _ hsp2 _ _ e3⟩ (fun hHeld => ?_)
              clear hK K hsp
              try simp only [Act.put, List.setIfInBounds_toArray, List.set_cons_zero, List.set_cons_succ]
              refine wpAnyH_take (i := 9) (oi := { dst := some 98, op := Go.Op.unOp Go.UnOp.not 4 (Go.Operand.tmp 97), type := 4, pos := "law.go:108", after := #[{ on := 8, ground := Go.Ground.data }], guard := none }) (v := ?v9) rfl (by kernel_rfl) (by kernel_rfl) (by kernel_rfl) (fun _ _ _ h => h) (Or.inl ⟨by rfl, ?hy9⟩) (by assumption) ?rest9
              case hy9 => (intro w hSw; obtain ⟨s0, s1, s2, s3, s4, s5, s6, s7⟩ := hSw; go_simp; try with_reducible rfl)
              try simp only [Act.put, List.setIfInBounds_toArray, List.set_cons_zero, List.set_cons_succ]
              refine wpAnyH_done (by kernel_rfl) ?_ _
              have HM2 := Lib.hid (HNX.out _ hsp2)
              clear hHeld hsp2 c0 c1' c2' c3' e0 e1 e2 e3 z0 z1 hlt
              have zk2 : IntKind.i64.wrap ((i : Int) + 1) = (i : Int) + 1 := by (rw [IntKind.wrap_i64]; have := HZL.out; have := HLT2.out; omega)
              go_wp2_with fail
              go_roundw
              case rel => exact ⟨i + 1, by have := HLT2.out; omega, by go_num, HM2⟩
              case measure => simp [intOf] <;> (have := HLT2.out; omega)
            case neg =>
              have z1 : ¬ (i : Int) < (zs.length : Int) := by omega
              have HI5 := Lib.hid (HI3.out.below HM.out.lo)
              have zk := HZK.out
              clear hlt
              go_wp2_with fail
              go_roundw
              case rel => exact ⟨r + 1, by have := HLT.out; omega, by go_num, HI5⟩
              case measure => simp [intOf] <;> (have := HLT.out; omega)
        case neg =>
          have z1 : ¬ (r : Int) < 2 := by omega
          obtain ⟨y0, y1, y2, y3⟩ := HI.out.p7
          obtain ⟨x0, x1, x2, x3⟩ := HI.out.p
          go_wp2_with fail
          clear y0 y1 y2 y3 x0 x1 x2 x3 z1 hlt hr
          refine (rSame_any A1 c1 C1 d1 e A ca C cc e (by have := SA.out; omega) (by have := SA.out; omega) wr HI.out.fo HI.out.fe).mono ?_
          rintro z W6 ⟨rfl, hb⟩
          rw [same_self]
          have HI6 := Lib.hid (HI.out.below hb)
          clear hb HI
          go_wp2_with fail
          have hyl : ys.length = xs.length := by (have h := congrArg List.length HYX.out; rw [List.length_map, List.length_map] at h; exact h)
          have hys : ∀ y ∈ ys, y.e.ns.length ≤ 1000 ∧ y.e.ts.length ≤ 1000 := fun y hy => by
            have h1 : y.e ∈ xs.map (·.e) := by rw [← HYX.out]; exact List.mem_map_of_mem hy
            obtain ⟨x, hx, h2⟩ := List.mem_map.1 h1
            have h3 := SX.out.2 x hx
            rw [← h2]; omega
          refine (sames_any Dy cy ys D cd xs HYX.out (by have := SX.out.1; omega) hys W6 HI6.out.fy HI6.out.fx).mono ?_
          rintro z W7 ⟨rfl, hb⟩
          have HI7 := Lib.hid (HI6.out.below hb)
          clear hb hys hyl HI6
          go_wp2_with fail
          refine (awake_any W7 HI7.out.env).mono ?_
          rintro z W8 ⟨rfl, hb⟩
          have HZZ := Lib.hid (below_step HI7.out.bel hb)
          clear hb HI7
          go_wp2_with fail
          go_ret
          exact ⟨rfl, HZZ.out⟩

end Go.Proofs.YtbjpkffhpdcapaaDoor.Upcast
