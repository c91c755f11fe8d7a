import Derived.Test.YtiibeemjkdipnaaDoorUC
/-
  letDown.
-/
namespace Go.Proofs.YtiibeemjkdipnaaDoor.Upcast
open Go Go.RowKit
open Go.Proofs.YtiibeemjkdipnaaDoor.Schema

theorem kept_ti (v c j : Nat) : 1 ≤ (keptR v c j).ti := by
  unfold keptR
  simp only []
  split
  · omega
  · split <;> omega
theorem fold_ti (v : Nat) (former next : ByteArray) (n : Nat) : ∀ r ∈ (foldU v former next n).2, r.fr ≠ -1 → 1 ≤ r.ti := by
  induction n with
  | zero => intro r hr; cases hr
  | succ n ih =>
    rw [foldU_succ]
    unfold stepU
    split
    · intro r hr
      rcases List.mem_append.1 hr with hr | hr
      · exact ih r hr
      · rw [List.mem_singleton.1 hr]; exact fun _ => kept_ti _ _ _
    · intro r hr
      rcases List.mem_append.1 hr with hr | hr
      · exact ih r hr
      · rw [List.mem_singleton.1 hr]; exact fun h => absurd rfl h
theorem rules_ti (v k : Nat) : ∀ r ∈ rulesL v k, r.fr ≠ -1 → 1 ≤ r.ti := fold_ti _ _ _ _

/-- whether a number is what the rule tells of one; and what it is then -/
def okD (ns : List Int) (i : Nat) (r : Ru) : Bool := if r.fr = -1 then decide (ns.getD i 0 - r.pl = 0) else decide ((ns.getD i 0 - r.pl).tmod r.ti = 0)
def setD (ns : List Int) (i : Nat) (r : Ru) (P : List Int) : List Int := if r.fr = -1 then P else P.set r.fr.toNat ((ns.getD i 0 - r.pl).tdiv r.ti)
def ru0 : Ru := ⟨-1, 0, 0⟩
def foldD (l : List Ru) (ns : List Int) (n : Nat) (P : List Int) : List Int := (List.range n).foldl (fun P i => setD ns i (l.getD i ru0) P) P
theorem foldD_succ (l : List Ru) (ns : List Int) (n : Nat) (P : List Int) : foldD l ns (n + 1) P = setD ns n (l.getD n ru0) (foldD l ns n P) := by unfold foldD; rw [List.range_succ, List.foldl_append]; rfl
def canD (l : List Ru) (ns : List Int) : Bool := (List.range l.length).all fun i => okD ns i (l.getD i ru0)
def downN (l : List Ru) (ns : List Int) (m : Nat) : List Int := foldD l ns l.length (List.replicate m 0)
theorem setD_len (ns : List Int) (i : Nat) (r : Ru) (P : List Int) : (setD ns i r P).length = P.length := by
  unfold setD
  split
  · rfl
  · rw [List.length_set]
theorem foldD_len (l : List Ru) (ns : List Int) (n : Nat) (P : List Int) : (foldD l ns n P).length = P.length := by
  induction n with
  | zero => rfl
  | succ n ih => rw [foldD_succ, setD_len, ih]
/-- an event let down, if it can be -/
def downX (e : Ev) : Except Nat Ev := if goes (e.v - 1) e.k = true ∧ canD (rulesL (e.v - 1) e.k) e.ns = true then .ok ⟨e.v - 1, e.k, downN (rulesL (e.v - 1) e.k) e.ns (lets (e.v - 1) e.k).size, e.ts⟩ else .error 43
/-- an event is told, or what is wrong -/
def ExV (o : Except Nat Ev) (w : World) (z : Ending) (w' : World) : Prop :=
  match o with
  | .ok f => ∃ A1 c1 C1 c2, z = .returned (.tuple #[evV A1 c1 C1 c2 f, .int .i64 0]) ∧ OwnE w' w.heap.size 2 (.slice A1 f.ns.length c1) (nums f.ns) ∧ OwnE w' w.heap.size 9 (.slice C1 f.ts.length c2) (texts f.ts) ∧ Below w.heap.size w w'
  | .error x => z = .returned (.tuple #[.agg #[.int .u8 0, .int .u8 0, .slice none 0 0, .slice none 0 0], .int .i64 (x : Int)]) ∧ Below w.heap.size w w'
theorem down_no {e : Ev} (h : goes (e.v - 1) e.k = false) : downX e = .error 43 := if_neg (by rw [h]; exact fun h => by cases h.1)
theorem down_not {e : Ev} (i : Nat) (hi : i < (rulesL (e.v - 1) e.k).length) (h : okD e.ns i ((rulesL (e.v - 1) e.k).getD i ru0) = false) : downX e = .error 43 := by
  refine if_neg (fun hh => ?_)
  have := List.all_eq_true.1 hh.2 i (List.mem_range.2 hi)
  rw [h] at this; cases this
theorem down_yes {e : Ev} (hg : goes (e.v - 1) e.k = true) (h : ∀ i, i < (rulesL (e.v - 1) e.k).length → okD e.ns i ((rulesL (e.v - 1) e.k).getD i ru0) = true) : downX e = .ok ⟨e.v - 1, e.k, downN (rulesL (e.v - 1) e.k) e.ns (lets (e.v - 1) e.k).size, e.ts⟩ :=
  if_pos ⟨hg, List.all_eq_true.2 fun i hi => h i (List.mem_range.1 hi)⟩
structure DownI (W3 : World) (g m : Nat) (l : List Ru) (ns : List Int) (i : Nat) (wr : World) : Prop where
  ok : ∀ j, j < i → okD ns j (l.getD j ru0) = true
  nm : Nm wr g (foldD l ns i (List.replicate m 0))
  gr : W3.grownBy wr (some g)
theorem tdiv_bound (y t : Int) (hy : -100 ≤ y ∧ y ≤ 1125899906842624) (ht : 1 ≤ t) : -1125899906842624 ≤ y.tdiv t ∧ y.tdiv t ≤ 1125899906842624 := by
  have h := Int.natAbs_tdiv y t
  have h2 : (y.tdiv t).natAbs ≤ y.natAbs := by rw [h]; exact Nat.div_le_self _ _
  omega
theorem tmod_bound (y t : Int) (hy : -100 ≤ y ∧ y ≤ 1125899906842624) (ht : 1 ≤ t) : -1125899906842624 ≤ y.tmod t ∧ y.tmod t ≤ 1125899906842624 := by
  have h := Int.natAbs_tmod y t
  have h2 : (y.tmod t).natAbs ≤ y.natAbs := by rw [h]; exact Nat.mod_le _ _
  omega

set_option maxRecDepth 100000 in
set_option maxHeartbeats 4000000 in
theorem letDown_any (A : Option Addr) (ca : Nat) (C : Option Addr) (cc : Nat) (e : Ev) (w : World) (hA : EvAt w A ca C cc e) (hv1 : 1 ≤ e.v) (hl : e.ns.length = (lets e.v e.k).size) (hr : ∀ j, 0 ≤ e.ns.getD j 0 ∧ e.ns.getD j 0 ≤ 1125899906842624) (hlt : e.ts.length ≤ 1000) (E : Env w) :
    Calls Tryd.prog 51 #[evV A ca C cc e] w (ExV (downX e) w) := by
  have HV := Lib.hid hA.v
  have HK := Lib.hid hA.k
  have HE := Lib.hid E
  have HNs := Lib.hid hA.ns
  have HTs := Lib.hid hA.ts
  have HnC := Lib.hid hA.nB
  have HLT := Lib.hid hlt
  have HR := Lib.hid hr
  have HL := Lib.hid hl
  have HV1 := Lib.hid hv1
  obtain ⟨v, hvv⟩ : ∃ v, v = e.v - 1 := ⟨_, rfl⟩
  have hve : e.v = v + 1 := by omega
  have HVE := Lib.hid hve
  have HVV := Lib.hid hvv
  have HOK := Lib.hid (rules_ok v e.k)
  have HTI := Lib.hid (rules_ti v e.k)
  have HLR := Lib.hid (show (rulesL v e.k).length = e.ns.length from by rw [rules_len, ← hve]; exact hl.symm)
  have HLS := Lib.hid (show e.ns.length ≤ 10 from by rw [hl]; exact (lets_ok _ _).1)
  have HMS := Lib.hid (lets_ok v e.k).1
  have HNO := Lib.hid (fun h => down_no (e := e) h)
  have HNT := Lib.hid (fun i h1 h2 => down_not (e := e) i h1 h2)
  have HYE := Lib.hid (fun h1 h2 => down_yes (e := e) h1 h2)
  rw [← hvv] at HNO HNT HYE
  have hvw : IntKind.u8.wrap ((e.v : Int) - 1) = (v : Int) := by have := HV.out; rw [IntKind.wrap_u8]; omega
  have hvr : v < 256 := by have := HV.out; omega
  have HVR := Lib.hid hvr
  clear hA E hlt hr hl hv1 hvv hve hvr
  unfold evV
  have hb1 := (Below.refl w.heap.size w).alloc (Nat.le_refl _) (.cells #[.int .u8 e.v, .int .u8 e.k, .slice A e.ns.length ca, .slice C e.ts.length cc] 27)
  have hs1 : (w.alloc (.cells #[.int .u8 e.v, .int .u8 e.k, .slice A e.ns.length ca, .slice C e.ts.length cc] 27)).heap.size = w.heap.size + 1 := by simp
  have hb2 := (Below.refl (w.alloc (.cells #[.int .u8 e.v, .int .u8 e.k, .slice A e.ns.length ca, .slice C e.ts.length cc] 27)).heap.size (w.alloc (.cells #[.int .u8 e.v, .int .u8 e.k, .slice A e.ns.length ca, .slice C e.ts.length cc] 27))).alloc (Nat.le_refl _) (.cells #[.int .u8 0, .int .u8 0, .slice none 0 0, .slice none 0 0] 27)
  have hx : Four _ w.heap.size _ _ _ _ := Four.below (box4 w (.int .u8 e.v) (.int .u8 e.k) (.slice A e.ns.length ca) (.slice C e.ts.length cc) 27) hb2
  have HX := Lib.hid hx
  have hp : Four _ (w.alloc (.cells #[.int .u8 e.v, .int .u8 e.k, .slice A e.ns.length ca, .slice C e.ts.length cc] 27)).heap.size _ _ _ _ := box4 (w.alloc (.cells #[.int .u8 e.v, .int .u8 e.k, .slice A e.ns.length ca, .slice C e.ts.length cc] 27)) (.int .u8 0) (.int .u8 0) (.slice none 0 0) (.slice none 0 0) 27
  have hf := free_new (w.alloc (.cells #[.int .u8 e.v, .int .u8 e.k, .slice A e.ns.length ca, .slice C e.ts.length cc] 27)) #[.int .u8 0, .int .u8 0, .slice none 0 0, .slice none 0 0] 27
  rw [hs1] at hp hf
  have HP := Lib.hid hp
  have HPF := Lib.hid hf
  have HB := Lib.hid (below_step hb1 hb2)
  clear hb1 hb2 hs1 hx hp hf
  go_enter Tryd.func51, Tryd.ntmps51
  go_upto_region 1 with (fail)
  generalize ((w.alloc (.cells #[.int .u8 e.v, .int .u8 e.k, .slice A e.ns.length ca, .slice C e.ts.length cc] 27)).alloc (.cells #[.int .u8 0, .int .u8 0, .slice none 0 0, .slice none 0 0] 27)) = W at HX HP HPF HB ⊢
  obtain ⟨x0, x1, x2, x3⟩ := HX.out
  go_wp2_with fail
  clear x0 x1 x2 x3
  refine (Rules_any v e.k HVR.out HK.out W (HE.out.below HB.out)).mono ?_
  rintro z W2 ⟨x, rfl, hou, hb⟩
  replace HX := Lib.hid (HX.out.below hb)
  replace HP := Lib.hid (HP.out.below hb)
  replace HPF := Lib.hid (HPF.out.below hb)
  replace HB := Lib.hid (below_step HB.out hb)
  clear hb
  cases hgo : goes v e.k with
  | false =>
    have HDN := Lib.hid (HNO.out hgo)
    clear hgo hou hvw
    obtain ⟨p0, p1, p2, p3⟩ := HP.out
    have f0 := HPF.out.2 0
    have f1 := HPF.out.2 1
    have f2 := HPF.out.2 2
    have f3 := HPF.out.2 3
    go_wp2_with fail
    clear p0 p1 p2 p3 f0 f1 f2 f3
    obtain ⟨d0, d1, d2, d3⟩ := HP.out.set4 (.int .u8 0) (.int .u8 0) (.slice none 0 0) (.slice none 0 0)
    refine bodyPost_ret (v := .tuple #[.agg #[.int .u8 0, .int .u8 0, .slice none 0 0, .slice none 0 0], .int .i64 43]) (by simp [results, Tryd.results51, go_sem, d0, d1, d2, d3]) rfl ?_
    rw [HDN.out]
    exact ⟨rfl, HB.out.trans ((touch4 W2 (w.heap.size + 1) _ _ _ _).below (Nat.le_succ _) HB.out.size)⟩
  | true =>
    rw [hgo, if_pos rfl] at hou
    obtain ⟨A3, c3, rfl, hrow⟩ := hou.vat
    have HROW := Lib.hid hrow
    have HGO := Lib.hid hgo
    clear hou hrow hgo
    obtain ⟨x0, x1, x2, x3⟩ := HX.out
    go_wp2_with fail
    clear x0 x1 x2 x3
    refine (Fields_any v e.k HVR.out HK.out W2 (HE.out.below HB.out)).mono ?_
    rintro z W4 ⟨xl, rfl, ho, hb⟩
    obtain ⟨A4, c4, rfl, -, -, -⟩ := ho.vat
    simp only [clsV_len]
    replace HX := Lib.hid (HX.out.below hb)
    replace HP := Lib.hid (HP.out.below hb)
    replace HPF := Lib.hid (HPF.out.below hb)
    replace HB := Lib.hid (below_step HB.out hb)
    replace HROW := Lib.hid (show RowU W4 A3 _ from VAt.below HROW.out hb)
    clear hb ho
    generalize (tall v e.k && tru e.k) = ta
    generalize tall v e.k = tb
    generalize hl3 : rulesL v e.k = l at HROW HOK HTI HLR HNT HYE ⊢
    have HL3 := Lib.hid hl3
    clear hl3
    generalize hmm : (lets v e.k).size = m at HOK HMS HYE ⊢
    have HMM := Lib.hid hmm
    clear hmm
    have hmk := run_mkN m (by have := HMS.out; omega)
    have hm10 : m ≤ 10 := HMS.out
    have hl10 : l.length ≤ 10 := by have := HLR.out; have := HLS.out; omega
    have hb := (Below.refl W4.heap.size W4).alloc (Nat.le_refl _) (.cells (mkN m) 2)
    have HN := Lib.hid (nm_new W4 m)
    have hxg : w.heap.size + 1 < W4.heap.size := HPF.out.1
    have HX3 := Lib.hid (HX.out.below hb)
    have HP3 := Lib.hid (HP.out.below hb)
    have HPF3 := Lib.hid (HPF.out.below hb)
    have HB3 := Lib.hid (below_step HB.out hb)
    have HR3 := Lib.hid hb
    clear hb
    go_wp2_with fail
    clear hmk
    generalize W4.alloc (.cells (mkN m) 2) = W3 at HN HX3 HP3 HPF3 HB3 HR3 ⊢
    generalize hgg : W4.heap.size = g at HN hxg HR3 ⊢
    have HGG := Lib.hid hgg
    have HXG := Lib.hid hxg
    clear hgg hxg
    have HI : Hid (DownI W3 g m l e.ns 0 W3) := ⟨fun j hj => absurd hj (by omega), HN.out, gr_below (Below.refl _ _)⟩
    clear HN
    go_loopw [40] (fun t wr => ∃ i : Nat, t = .int .i64 i ∧ i ≤ l.length ∧ Hid (DownI W3 g m l e.ns i wr)) (fun t _ => l.length - (intOf t).toNat)
    case atStart => exact ⟨0, rfl, Nat.zero_le _, HI⟩
    case round =>
      obtain ⟨i, rfl, hi, HIi⟩ := hrel
      have hgs : w.heap.size + 1 < g := HXG.out
      have HXr := Lib.hid (four_gr HX3.out HIi.out.gr (by omega))
      have HPr := Lib.hid (four_gr HP3.out HIi.out.gr (by omega))
      have HPFr := Lib.hid (free_gr HPF3.out HIi.out.gr (by omega))
      have HBr := Lib.hid (bel_gr HB3.out HB3.out.size HIi.out.gr (by omega))
      clear hgs
      by_cases hlt : i < l.length
      · have z0 : (0 : Int) ≤ (i : Int) := by omega
        have z1 : (i : Int) < (l.length : Int) := by omega
        obtain ⟨b3, o3, rfl, hbl, c0, c1, c2⟩ := HROW.out.at i hlt
        have hok := HOK.out _ (List.getElem_mem hlt)
        have hti := HTI.out _ (List.getElem_mem hlt)
        have hgd : l.getD i ru0 = l[i] := by rw [List.getD_eq_getElem?_getD, List.getElem?_eq_getElem hlt]; rfl
        have hne : b3 ≠ g := by have := HGG.out; omega
        have hR3 : Below W4.heap.size W4 W3 := by rw [HGG.out]; exact HR3.out
        have d0 := cell_gr (cell_kept c0 hR3) HIi.out.gr hne
        have d1 := cell_gr (cell_kept c1 hR3) HIi.out.gr hne
        have d2 := cell_gr (cell_kept c2 hR3) HIi.out.gr hne
        clear c0 c1 c2 hbl hne hR3
        have HNI := Lib.hid (HNT.out i hlt)
        have HFS := Lib.hid (foldD_succ l e.ns i (List.replicate m 0))
        rw [hgd] at HNI HFS
        have HGD := Lib.hid hgd
        clear hgd
        generalize l[i] = r at d0 d1 d2 hok hti HNI HFS HGD
        obtain ⟨fr, ti, pl⟩ := r
        simp only [] at d0 d1 d2
        have HOI := Lib.hid hok
        have HT1 := Lib.hid hti
        clear hok hti
        have hfl := foldD_len l e.ns i (List.replicate m 0)
        rw [List.length_replicate] at hfl
        have HFL := Lib.hid hfl
        clear hfl
        have HNMi := Lib.hid HIi.out.nm
        generalize foldD l e.ns i (List.replicate m 0) = P at HFS HFL HNMi
        go_upto_region 9 with (fail)
        clear d0 d1 d2
        have hb := (Below.refl wr.heap.size wr).alloc (Nat.le_refl _) (.cells #[.int .i64 fr, .int .i64 ti, .int .i64 pl] 118)
        have HT := Lib.hid (tri_new wr (.int .i64 fr) (.int .i64 ti) (.int .i64 pl) 118)
        have HNM := Lib.hid (HNMi.out.below hb)
        have HGR := Lib.hid (gr_trans HIi.out.gr (gr_below hb))
        have hgq : g < wr.heap.size := HNMi.out.lt
        replace HXr := Lib.hid (HXr.out.below hb)
        replace HPr := Lib.hid (HPr.out.below hb)
        replace HPFr := Lib.hid (HPFr.out.below hb)
        replace HBr := Lib.hid (below_step HBr.out hb)
        clear hb HNMi
        generalize wr.alloc (.cells #[.int .i64 fr, .int .i64 ti, .int .i64 pl] 118) = V1 at HT HNM HGR HXr HPr HPFr HBr ⊢
        generalize wr.heap.size = q at HT hgq ⊢
        have HGQ := Lib.hid hgq
        clear hgq
        have hin : i < e.ns.length := by have := HLR.out; omega
        obtain ⟨bA, oA, rfl, cA⟩ := (vat_low HNs.out HBr.out) i _ (nums_at e.ns i hin)
        have hrr := HR.out i
        have hti := HOI.out.2.1
        have hpl := HOI.out.2.2
        simp only [] at hti hpl
        have HDEF := Lib.hid (show okD e.ns i ⟨fr, ti, pl⟩ = if fr = -1 then decide (e.ns.getD i 0 - pl = 0) else decide ((e.ns.getD i 0 - pl).tmod ti = 0) from rfl)
        have HSET := Lib.hid (show setD e.ns i ⟨fr, ti, pl⟩ P = if fr = -1 then P else P.set fr.toNat ((e.ns.getD i 0 - pl).tdiv ti) from rfl)
        generalize e.ns.getD i 0 = x at cA hrr HDEF HSET
        obtain ⟨y, hy⟩ : ∃ y, y = x - pl := ⟨_, rfl⟩
        rw [← hy] at HDEF HSET
        have hyw : IntKind.i64.wrap (x - pl) = y := by rw [IntWalk.i64_in _ (by omega)]; exact hy.symm
        have hyb : -100 ≤ y ∧ y ≤ 1125899906842624 := by omega
        have HYB := Lib.hid (And.intro hyb hti)
        clear hy hrr hpl hyb hti
        have z2 : (i : Int) < (e.ns.length : Int) := by omega
        obtain ⟨t0, t1, t2⟩ := HT.out
        obtain ⟨x0, x1, x2, x3⟩ := HXr.out
        clear x0 x1 x3 t0 t1
        go_wp2_with fail
        go_region
        all_goals
          clear t2 x2 cA hyw z2
          have gd := below_drew V1.heap.size V1
          replace HT := Lib.hid (HT.out.below gd)
          replace HNM := Lib.hid (HNM.out.below gd)
          replace HGR := Lib.hid (gr_trans HGR.out (gr_below gd))
          replace HXr := Lib.hid (HXr.out.below gd)
          replace HPr := Lib.hid (HPr.out.below gd)
          replace HPFr := Lib.hid (HPFr.out.below gd)
          replace HBr := Lib.hid (below_step HBr.out gd)
          clear gd
          generalize V1.drew = V2 at HT HNM HGR HXr HPr HPFr HBr ⊢
          rcases HOI.out.1 with hfr | ⟨f, hfr, hfl⟩
          · simp only [] at hfr
            subst hfr
            rw [if_pos rfl] at HDEF HSET
            by_cases hy0 : y = 0
            case pos =>
              have HI2 : Hid (DownI W3 g m l e.ns (i + 1) V2) := ⟨fun j hj => by
                by_cases hji : j = i
                · rw [hji, HGD.out, HDEF.out]; exact decide_eq_true hy0
                · exact HIi.out.ok j (by omega), by rw [HFS.out, HSET.out]; exact HNM.out, HGR.out⟩
              subst hy0
              obtain ⟨t0, t1, t2⟩ := HT.out
              go_wp2_with fail
              clear t0 t1 t2
              go_roundw
              case rel => exact ⟨i + 1, by go_num, by omega, HI2⟩
              case measure => simp [intOf] <;> omega
            have HDN := Lib.hid (HNI.out (HDEF.out.trans (decide_eq_false hy0)))
            have q1 : (y == 0) = false := beq_eq_false_iff_ne.2 hy0
            clear hy0
            obtain ⟨t0, t1, t2⟩ := HT.out
            go_upto_region 10 with (fail)
            clear t0 t1 t2 q1 z0 z1
            obtain ⟨p0, p1, p2, p3⟩ := HPr.out
            have f0 := HPFr.out.2 0
            have f1 := HPFr.out.2 1
            have f2 := HPFr.out.2 2
            have f3 := HPFr.out.2 3
            go_wp2_with fail
            clear p0 p1 p2 p3 f0 f1 f2 f3
            obtain ⟨d0, d1, d2, d3⟩ := HPr.out.set4 (.int .u8 0) (.int .u8 0) (.slice none 0 0) (.slice none 0 0)
            refine bodyPost_ret (v := .tuple #[.agg #[.int .u8 0, .int .u8 0, .slice none 0 0, .slice none 0 0], .int .i64 43]) (by simp [results, Tryd.results51, go_sem, d0, d1, d2, d3]) rfl ?_
            rw [HDN.out]
            exact ⟨rfl, HBr.out.trans ((touch4 V2 (w.heap.size + 1) _ _ _ _).below (Nat.le_succ _) HBr.out.size)⟩
          · simp only [] at hfr
            subst hfr
            have hfn : ¬ (f : Int) = -1 := by omega
            rw [if_neg hfn] at HDEF HSET
            have hti1 : 1 ≤ ti := HT1.out hfn
            have hti2 : ti ≤ 100 := HYB.out.2.2
            have q1 : ((f : Int) == -1) = false := beq_eq_false_iff_ne.2 hfn
            have q2 : ((f : Int) != -1) = true := by rw [bne_iff_ne]; exact hfn
            have q3 : ¬ ti = 0 := by omega
            have q4 : (ti == 0) = false := beq_eq_false_iff_ne.2 q3
            have hyb := HYB.out.1
            skip
            have hq := tdiv_bound y ti hyb hti1
            have hm := tmod_bound y ti hyb hti1
            clear hyb
            have hqw : IntKind.i64.wrap (y.tdiv ti) = y.tdiv ti := IntWalk.i64_in _ (by omega)
            have hmw : IntKind.i64.wrap (y.tmod ti) = y.tmod ti := IntWalk.i64_in _ (by omega)
            by_cases hy0 : y.tmod ti = 0
            case neg =>
              have HDN := Lib.hid (HNI.out (HDEF.out.trans (decide_eq_false hy0)))
              have q5 : (y.tmod ti == 0) = false := beq_eq_false_iff_ne.2 hy0
              obtain ⟨t0, t1, t2⟩ := HT.out
              go_upto_region 10 with (fail)
              clear t0 t1 t2 q1 q2 q3 q4 q5 z0 z1 hq hm hqw hmw hy0 hti1 hti2 hfn
              obtain ⟨p0, p1, p2, p3⟩ := HPr.out
              have f0 := HPFr.out.2 0
              have f1 := HPFr.out.2 1
              have f2 := HPFr.out.2 2
              have f3 := HPFr.out.2 3
              go_wp2_with fail
              clear p0 p1 p2 p3 f0 f1 f2 f3
              obtain ⟨d0, d1, d2, d3⟩ := HPr.out.set4 (.int .u8 0) (.int .u8 0) (.slice none 0 0) (.slice none 0 0)
              refine bodyPost_ret (v := .tuple #[.agg #[.int .u8 0, .int .u8 0, .slice none 0 0, .slice none 0 0], .int .i64 43]) (by simp [results, Tryd.results51, go_sem, d0, d1, d2, d3]) rfl ?_
              rw [HDN.out]
              exact ⟨rfl, HBr.out.trans ((touch4 V2 (w.heap.size + 1) _ _ _ _).below (Nat.le_succ _) HBr.out.size)⟩
            have q5 : (y.tmod ti == 0) = true := by rw [hy0]; rfl
            have hPf : f < P.length := by rw [HFL.out]; exact hfl
            have y0 := HNM.out.cell f hPf
            have fy := HNM.out.fr f
            have hf0 : (0 : Int) ≤ (f : Int) := by omega
            have hf1 : (f : Int) < (m : Int) := by omega
            have HI2 : Hid (DownI W3 g m l e.ns (i + 1) ((V2.setCell ⟨g, f, none⟩ (.int .i64 (y.tdiv ti))).drew)) := ⟨fun j hj => by
              by_cases hji : j = i
              · rw [hji, HGD.out, HDEF.out]; exact decide_eq_true hy0
              · exact HIi.out.ok j (by omega), by rw [HFS.out, HSET.out, Int.toNat_natCast]; exact (HNM.out.set f _).below (below_drew _ _), gr_trans HGR.out (gr_trans (gr_set V2 g f _) (gr_below (below_drew _ _)))⟩
            obtain ⟨t0, t1, t2⟩ := HT.out
            skip
            go_wp2_with fail
            go_region
            all_goals
              clear t0 t1 t2 y0 fy
              go_wp2_with fail
              go_roundw
              case rel => exact ⟨i + 1, by go_num, by omega, HI2⟩
              case measure => simp [intOf] <;> omega
      · have z1 : ¬ (i : Int) < (l.length : Int) := by omega
        have z2 : decide ((i : Int) < (l.length : Int)) = false := decide_eq_false z1
        have hii : i = l.length := by omega
        rw [hii] at HIi
        have HOKS := Lib.hid (HYE.out HGO.out HIi.out.ok)
        have HNM := Lib.hid (show Nm wr g (downN l e.ns m) from HIi.out.nm)
        have hdl : (downN l e.ns m).length = m := by unfold downN; rw [foldD_len, List.length_replicate]
        clear hii HIi
        have hown := HNM.out.own (base := w.heap.size + 2) (by have := HXG.out; omega) (by have := HMS.out; unfold maxLen; omega)
        rw [hdl] at hown
        have HOW := Lib.hid hown
        have HDL := Lib.hid hdl
        clear hown hdl
        obtain ⟨x0, x1, x2, x3⟩ := HXr.out
        go_wp2_with fail
        clear x0 x1 x2 x3 z1 z2 hvw
        refine (like_any A ca C cc e v (some ⟨g, 0, none⟩) m m wr (vat_low HTs.out HBr.out) HnC.out HLT.out).mono ?_
        rintro z V1 ⟨C2, c2, rfl, hoe, hb⟩
        have hsz := HBr.out.size
        have hps := HPFr.out.1
        replace HPr := Lib.hid (HPr.out.below hb)
        replace HPFr := Lib.hid (HPFr.out.below hb)
        replace HBr := Lib.hid (below_step HBr.out hb)
        have HO1 := Lib.hid (show OwnE V1 (w.heap.size + 2) _ _ _ from Or.inl (HOW.out.below hb))
        have HO2 := Lib.hid (hoe.less (show w.heap.size + 2 ≤ _ by omega))
        clear hoe hb hsz hps
        obtain ⟨p0, p1, p2, p3⟩ := HPr.out
        have f0 := HPFr.out.2 0
        have f1 := HPFr.out.2 1
        have f2 := HPFr.out.2 2
        have f3 := HPFr.out.2 3
        go_wp2_with fail
        clear p0 p1 p2 p3 f0 f1 f2 f3
        obtain ⟨d0, d1, d2, d3⟩ := HPr.out.set4 (.int .u8 (v : Int)) (.int .u8 e.k) (.slice (some ⟨g, 0, none⟩) m m) (.slice C2 e.ts.length c2)
        refine bodyPost_ret (v := .tuple #[.agg #[.int .u8 (v : Int), .int .u8 e.k, .slice (some ⟨g, 0, none⟩) m m, .slice C2 e.ts.length c2], .int .i64 0]) (by simp [results, Tryd.results51, go_sem, d0, d1, d2, d3]) rfl ?_
        rw [HOKS.out]
        refine ⟨some ⟨g, 0, none⟩, m, C2, c2, ?_, ?_, ?_, ?_⟩
        · simp only [evV]; rw [HDL.out]
        · simp only []; rw [HDL.out]; exact (ownE_set4 HO1.out (by omega)).less (by omega)
        · exact (ownE_set4 HO2.out (by omega)).less (by omega)
        · exact HBr.out.trans ((touch4 V1 (w.heap.size + 1) _ _ _ _).below (Nat.le_succ _) HBr.out.size)

end Go.Proofs.YtiibeemjkdipnaaDoor.Upcast
