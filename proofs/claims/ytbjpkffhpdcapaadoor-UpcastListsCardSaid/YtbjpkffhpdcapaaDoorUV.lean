import Derived.Test.YtbjpkffhpdcapaaDoorUT
/-
  The walk of the statement UpcastLists.
-/
namespace Go.Proofs.YtbjpkffhpdcapaaDoor.Upcast
open Go Go.RowKit
open Go.Proofs.YtbjpkffhpdcapaaDoor.Schema

theorem row_head {w : World} {A : Option Addr} {xs : List Lx} (h : Row w A xs) (k : Nat) : Row w A (xs.take k) := by
  refine ⟨fun j u hj => h.1 j u ?_, fun x hx => h.2 x (List.mem_of_mem_take hx)⟩
  have hp : cellsX xs = cellsX (xs.take k) ++ cellsX (xs.drop k) := by unfold cellsX; rw [← List.flatMap_append, List.take_append_drop]
  rw [hp, List.getElem?_append_left (List.getElem?_eq_some_iff.1 hj).1]
  exact hj
theorem lw_err0 {n : Nat} (h : 1 ≤ n) : ((n : Int) != 0) = true := by rw [bne_iff_ne]; omega
theorem map_getD (xs : List Lx) (i : Nat) (h : i < xs.length) : (xs.map (·.e)).getD i ev0 = xs[i].e := getD_map xs i h
/-- what is said again is as it was: each event -/
theorem lists_each {xs ys : List Lx} {v p : Nat} (h : lwX (xs.map (·.e)) v = .ok (p, ys.map (·.e))) (i : Nat) (hi : i < xs.length) (hj : i < ys.length) : nwX xs[i].e = .ok (newE xs[i].e) ∧ nwX ys[i].e = .ok (newE xs[i].e) ∧ ys[i].e.v = p := by
  have ho := lw_out h
  have hi' : i < (xs.map (·.e)).length := by rw [List.length_map]; exact hi
  have h1 := ho.may i hi'
  have h2 := ho.each i hi'
  rw [map_getD xs i hi] at h1 h2
  rw [map_getD ys i hj] at h2
  obtain ⟨q1, q2, q3⟩ := to_new h2
  exact ⟨newest_is h1, by rw [newest_is q1, q2], q3⟩
theorem lists_low {xs : List Lx} {v p u : Nat} {out : List Ev} (h : lwX (xs.map (·.e)) v = .ok (p, out)) (h1 : v ≤ u) (h2 : u < p) (ha : ∀ i (hi : i < xs.length), ∃ d, toX xs[i].e u = .ok d) : False := by
  obtain ⟨i, x, hi, he⟩ := (lw_out h).low u h1 h2
  rw [List.length_map] at hi
  rw [map_getD xs i hi] at he
  obtain ⟨d, hd⟩ := ha i hi
  rw [hd] at he
  cases he
theorem lists_len {xs ys : List Lx} {v p : Nat} (h : lwX (xs.map (·.e)) v = .ok (p, ys.map (·.e))) : ys.length = xs.length ∧ 1 ≤ v ∧ v ≤ p ∧ p ≤ 3 := by
  have ho := lw_out h
  have := ho.len
  rw [List.length_map, List.length_map] at this
  exact ⟨this, ho.v1, ho.vw, ho.w3⟩
theorem cut_of (m : Int) (n : Nat) (h : n ≤ 60) : ∃ c : Nat, c ≤ n ∧ (IntKind.u64.wrap m).tmod ((n : Int) + 1) = (c : Int) := by
  have h3 : 0 ≤ IntKind.u64.wrap m := by rw [IntKind.wrap_u64]; omega
  rw [Int.tmod_eq_emod_of_nonneg h3]
  have h4 := Int.emod_nonneg (IntKind.u64.wrap m) (b := (n : Int) + 1) (by omega)
  have h5 := Int.emod_lt_of_pos (IntKind.u64.wrap m) (b := (n : Int) + 1) (by omega)
  exact ⟨(IntKind.u64.wrap m % ((n : Int) + 1)).toNat, by omega, by omega⟩
theorem addr_add0 (A : Option Addr) : A.map (fun x => x.add 0) = A := by cases A <;> simp [Addr.add]
theorem run_headE (A : Option Addr) (n cap k : Nat) (hk : k ≤ n) (hc : n ≤ cap) (w : World) :
    (Instr.slice 26 (.slice A n cap) none (some (.int .i64 (k : Int))) none).run Tryd.prog w = .ok (.slice A k cap) w := by
  obtain ⟨i0, hi, hz0, hz1, hz2⟩ := info_parts4 infoE
  rw [run_slice_h w 26 A n cap (by kernel_rfl) .i64 (k : Int) (by omega) (by omega)]
  have he : Tryd.prog.elem 26 = 25 := by kernel_rfl
  simp [he, sizeOf, typeInfo, hi, hz1, Result.andThen, sliced, addr_add0]
/-- a part of a list -/
theorem lists_part {xs : List Lx} {v p : Nat} {out : List Ev} (h : lwX (xs.map (·.e)) v = .ok (p, out)) (k : Nat) (hk : k ≤ xs.length) {q n : Nat} {ys : List Lx} (hg : (n = 0 ∧ lwX ((xs.take k).map (·.e)) v = .ok (q, ys.map (·.e))) ∨ (1 ≤ n ∧ n ≤ 100 ∧ lwX ((xs.take k).map (·.e)) v = .error n ∧ q = 0 ∧ ys = [])) : n = 0 ∧ q ≤ p ∧ ys.length = k := by
  obtain ⟨x, part, h1, h2, h3⟩ := lw_part h k (by rw [List.length_map]; exact hk)
  rw [← List.map_take] at h1
  rcases hg with ⟨rfl, hg⟩ | ⟨_, _, hg, _⟩
  · rw [h1] at hg
    injection hg with hg
    injection hg with e1 e2
    subst e1
    rw [e2, List.length_map] at h3
    exact ⟨rfl, h2, h3⟩
  · rw [h1] at hg; cases hg
/-- what was said, said again -/
theorem lists_again {xs ys zs : List Lx} {v p q n : Nat} (h : lwX (xs.map (·.e)) v = .ok (p, ys.map (·.e))) (hg : (n = 0 ∧ lwX (ys.map (·.e)) v = .ok (q, zs.map (·.e))) ∨ (1 ≤ n ∧ n ≤ 100 ∧ lwX (ys.map (·.e)) v = .error n ∧ q = 0 ∧ zs = [])) : n = 0 ∧ q = p ∧ zs.map (·.e) = ys.map (·.e) := by
  have h1 := lw_again h
  rcases hg with ⟨rfl, hg⟩ | ⟨_, _, hg, _⟩
  · rw [h1] at hg
    injection hg with hg
    injection hg with e1 e2
    exact ⟨rfl, e1.symm, e2.symm⟩
  · rw [h1] at hg; cases hg
/-- while what was told is read again -/
structure LiI (w : World) (A : Option Addr) (xs : List Lx) (B : Option Addr) (ys : List Lx) (wr : World) : Prop where
  env : Env wr
  bel : Below w.heap.size w wr
  x : Row wr A xs
  y : Row wr B ys
theorem LiI.below {w : World} {A B : Option Addr} {xs ys : List Lx} {wr w' : World} (h : LiI w A xs B ys wr) (hb : Below wr.heap.size wr w') : LiI w A xs B ys w' := ⟨h.env.below hb, below_step h.bel hb, h.x.below hb, h.y.below hb⟩

set_option maxRecDepth 100000 in
set_option maxHeartbeats 8000000 in
theorem lists_any (A : Option Addr) (ca : Nat) (xs : List Lx) (v m : Int) (w : World) (hx : Row w A xs) (lx : xs.length ≤ ca) (mx : ca ≤ maxLen) (nx : A = none → ca = 0) (rx : xs.length ≤ 2513169434917 ∧ ∀ z ∈ xs, Light z) (wv : (Lit.int .u8 v).wf = true) (wm : (Lit.int .i64 m).wf = true) (E : Env w) :
    Calls Tryd.prog 6 #[.slice A xs.length ca, .int .u8 v, .int .i64 m] w fun z w' => z = .returned (.bool true) ∧ Below w.heap.size w w' := by
  have hvb := bounds_u8 wv
  obtain ⟨v, rfl⟩ := Int.eq_ofNat_of_zero_le hvb.1
  have HVB := Lib.hid (show v < 256 by omega)
  clear hvb wv
  have HE := Lib.hid E
  have HX := Lib.hid hx
  have HR := Lib.hid rx
  have HLX := Lib.hid (And.intro lx (And.intro mx nx))
  have HB := Lib.hid (Below.refl w.heap.size w)
  have HWM := Lib.hid wm
  clear E hx rx lx mx nx wm
  go_enter Tryd.func6, Tryd.ntmps6
  go_wp2_with fail
  refine (many_any A ca xs HR.out.1 w HX.out HR.out.2).mono ?_
  rintro z X1 ⟨b1, rfl, hl1, hb⟩
  replace HE := Lib.hid (HE.out.below hb)
  replace HX := Lib.hid (HX.out.below hb)
  replace HB := Lib.hid (below_step HB.out hb)
  clear hb
  cases b1 with
  | true =>
    clear hl1
    go_wp2_with fail
    refine (awake_any _ HE.out).mono ?_
    rintro z Xz ⟨rfl, hb⟩
    have HZ := Lib.hid (below_step HB.out hb)
    clear hb
    go_wp2_with fail
    go_ret
    exact ⟨rfl, HZ.out⟩
  | false =>
    have HS := Lib.hid (hl1 rfl)
    clear hl1
    go_wp2_with fail
    refine (awake_any X1 HE.out).mono ?_
    rintro z X2 ⟨rfl, hb⟩
    replace HE := Lib.hid (HE.out.below hb)
    replace HX := Lib.hid (HX.out.below hb)
    replace HB := Lib.hid (below_step HB.out hb)
    clear hb
    go_wp2_with fail
    refine (Lowest_ev (A := A) (cap := ca) (xs := xs) HVB.out (by have := HS.out.1; omega) (fun x hx => by have := HS.out.2 x hx; omega) HX.out HE.out).mono ?_
    rintro z X3 ⟨p, n, ys, B, cb, rfl, hy, hnB, hlB, hsm, hgot, hb⟩
    replace HE := Lib.hid (HE.out.below hb)
    replace HX := Lib.hid (HX.out.below hb)
    replace HB := Lib.hid (below_step HB.out hb)
    have HY := Lib.hid hy
    have HNB := Lib.hid hnB
    have HSM := Lib.hid hsm
    clear hb hy hnB hsm
    rcases hgot with ⟨rfl, hgot⟩ | ⟨hn1, hn2, hgot, rfl, rfl⟩
    case inr =>
      have z3 := lw_err0 hn1
      have z2 : ¬ (n : Int) = 0 := by omega
      go_wp2_with fail
      go_ret
      exact ⟨by simp, HB.out⟩
    have HG := Lib.hid hgot
    obtain ⟨hyl, hv1, hvp, hp3⟩ := lists_len hgot
    have HYL := Lib.hid hyl
    have HP := Lib.hid (And.intro hv1 (And.intro hvp hp3))
    clear hgot
    have z1 : decide ((p : Int) < (v : Int)) = false := decide_eq_false (by omega)
    have z2 : ¬ (p : Int) < (v : Int) := by omega
    have z3 : decide ((p : Int) > 3) = false := decide_eq_false (by omega)
    have z4 : ¬ (3 : Int) < (p : Int) := by omega
    have z6 : decide (p < v) = false := decide_eq_false (by omega)
    have z7 : decide (3 < p) = false := decide_eq_false (by omega)
    have z5 : ((ys.length : Int) != (xs.length : Int)) = false := by rw [hyl]; simp
    rw [hyl] at hlB
    rw [hyl]
    clear z5 hyl hv1 hvp hp3
    go_upto_region 8 with (fail)
    clear z1 z2 z3 z4 z6 z7
    go_wp2_with fail
    have HI : Hid (LiI w A xs B ys X3) := Lib.hid ⟨HE.out, HB.out, HX.out, HY.out⟩
    clear HE HB HX HY
    go_loopw [10] (fun i wr => ∃ k : Nat, k ≤ xs.length ∧ i = .int .i64 k ∧ Hid (LiI w A xs B ys wr)) (fun i _ => xs.length - (intOf i).toNat)
    case atStart => exact ⟨0, Nat.zero_le _, rfl, HI⟩
    case round =>
      clear HI
      obtain ⟨k, hk, rfl, HI⟩ := hrel
      by_cases hlt : k < xs.length
      case pos =>
        have h60 := HS.out.1
        have zk : IntKind.i64.wrap ((k : Int) + 1) = (k : Int) + 1 := by (rw [IntKind.wrap_i64]; omega)
        have zk2 : RowKit.wrap64 ((k : Int) + 1) = (k : Int) + 1 := by (unfold RowKit.wrap64; omega)
        clear h60
        have z0 : (0 : Int) ≤ (k : Int) := by omega
        have z1 : (k : Int) < (xs.length : Int) := by omega
        have hlt2 : k < ys.length := by (rw [HYL.out]; exact hlt)
        have HEA := Lib.hid (lists_each HG.out k hlt hlt2)
        have HLT := Lib.hid (And.intro hlt hlt2)
        obtain ⟨b, o, rfl, -, c0, c1, c2, c3, hat⟩ := HI.out.x.at k hlt
        have HAT := Lib.hid hat
        have HSX := Lib.hid (HS.out.2 _ (List.getElem_mem hlt))
        clear hat
        have HSY := Lib.hid (HSM.out _ (List.getElem_mem hlt2))
        have HYI := Lib.hid (fun (W : World) (h : LiI w (some ⟨b, o, none⟩) xs B ys W) => h.y.at k hlt2)
        generalize xs[k] = x at HAT HSX HEA c0 c1 c2 c3
        generalize ys[k] = y at HYI HSY HEA
        clear hlt2
        go_wp2_with fail
        clear c0 c1 c2 c3
        refine (Newest_ev (A := x.A) (ca := x.ca) (C := x.C) (cc := x.cc) (e := x.e) (by have := HSX.out; omega) HAT.out HI.out.env).mono ?_
        rintro z X1 ⟨u1, n1, A1, c1, C1, d1, rfl, hev, hsm, hgot, hb⟩
        replace HI := Lib.hid (HI.out.below hb)
        replace HAT := Lib.hid (HAT.out.below hb)
        have HY1 := Lib.hid hev
        have HS1 := Lib.hid hsm
        have HG1 := Lib.hid hgot
        clear hev hsm hgot hb
        unfold evV
        go_upto_region 12 with (fail)
        have hb := (Below.refl X1.heap.size X1).alloc (Nat.le_refl _) (.cells #[.int .u8 u1.v, .int .u8 u1.k, .slice A1 u1.ns.length c1, .slice C1 u1.ts.length d1] 25)
        replace HI := Lib.hid (HI.out.below hb)
        replace HAT := Lib.hid (HAT.out.below hb)
        replace HY1 := Lib.hid (HY1.out.below hb)
        have HP1 := Lib.hid (show Four _ X1.heap.size _ _ _ _ from box4 X1 (.int .u8 u1.v) (.int .u8 u1.k) (.slice A1 u1.ns.length c1) (.slice C1 u1.ts.length d1) 25)
        clear hb
        generalize X1.alloc (.cells #[.int .u8 u1.v, .int .u8 u1.k, .slice A1 u1.ns.length c1, .slice C1 u1.ts.length d1] 25) = X2 at HI HAT HY1 HP1 ⊢
        generalize hWs : X1.heap.size = b1 at HP1 ⊢
        clear hWs
        obtain ⟨rfl, rfl⟩ := HG1.out.of HEA.out.1
        obtain ⟨b2, o2, rfl, -, c0, c1, c2, c3, hat⟩ := HYI.out _ HI.out
        have HAY := Lib.hid hat
        clear hat
        go_wp2_with fail
        clear c0 c1 c2 c3
        refine (Newest_ev (A := y.A) (ca := y.ca) (C := y.C) (cc := y.cc) (e := y.e) (by have := HSY.out; omega) HAY.out HI.out.env).mono ?_
        rintro z X3 ⟨u2, n2, A2, c2, C2, d2, rfl, hev, hsm, hgot, hb⟩
        replace HI := Lib.hid (HI.out.below hb)
        replace HAT := Lib.hid (HAT.out.below hb)
        replace HY1 := Lib.hid (HY1.out.below hb)
        replace HP1 := Lib.hid (HP1.out.below hb)
        replace HAY := Lib.hid (HAY.out.below hb)
        have HY2 := Lib.hid hev
        have HS2 := Lib.hid hsm
        have HG2 := Lib.hid hgot
        clear hev hsm hgot hb
        unfold evV
        go_upto_region 13 with (fail)
        have hb := (Below.refl X3.heap.size X3).alloc (Nat.le_refl _) (.cells #[.int .u8 u2.v, .int .u8 u2.k, .slice A2 u2.ns.length c2, .slice C2 u2.ts.length d2] 25)
        replace HI := Lib.hid (HI.out.below hb)
        replace HAT := Lib.hid (HAT.out.below hb)
        replace HY1 := Lib.hid (HY1.out.below hb)
        replace HP1 := Lib.hid (HP1.out.below hb)
        replace HAY := Lib.hid (HAY.out.below hb)
        replace HY2 := Lib.hid (HY2.out.below hb)
        have HP2 := Lib.hid (show Four _ X3.heap.size _ _ _ _ from box4 X3 (.int .u8 u2.v) (.int .u8 u2.k) (.slice A2 u2.ns.length c2) (.slice C2 u2.ts.length d2) 25)
        clear hb
        generalize X3.alloc (.cells #[.int .u8 u2.v, .int .u8 u2.k, .slice A2 u2.ns.length c2, .slice C2 u2.ts.length d2] 25) = X4 at HI HAT HY1 HP1 HAY HY2 HP2 ⊢
        generalize hWs : X3.heap.size = b2 at HP2 ⊢
        clear hWs
        obtain ⟨rfl, rfl⟩ := HG2.out.of HEA.out.2.1
        have hc := same_any _ _ _ _ (newE x.e) _ _ _ _ (newE x.e) (by have := HS1.out; omega) (by have := HS1.out; omega) (by have := HS1.out; omega) (by have := HS1.out; omega) X4 HY1.out HY2.out
        rw [same_self] at hc
        have HC := Lib.hid hc
        clear hc
        obtain ⟨hp1_0, hp1_1, hp1_2, hp1_3⟩ := HP1.out
        obtain ⟨hp2_0, hp2_1, hp2_2, hp2_3⟩ := HP2.out
        go_wp2_with fail
        refine HC.out.mono ?_
        rintro z X9 ⟨rfl, hb⟩
        clear hp1_0 hp1_1 hp1_2 hp1_3
        clear hp2_0 hp2_1 hp2_2 hp2_3
        replace HI := Lib.hid (HI.out.below hb)
        replace HAT := Lib.hid (HAT.out.below hb)
        replace HY1 := Lib.hid (HY1.out.below hb)
        replace HP1 := Lib.hid (HP1.out.below hb)
        replace HAY := Lib.hid (HAY.out.below hb)
        replace HY2 := Lib.hid (HY2.out.below hb)
        replace HP2 := Lib.hid (HP2.out.below hb)
        clear hb
        have hyv := HEA.out.2.2
        obtain ⟨b3, o3, e1, -, c0, -, -, -, -⟩ := HYI.out _ HI.out
        injection e1 with e1
        injection e1 with e1 e2
        subst e1 e2
        rw [hyv] at c0
        have z2 : ((p : Int) != (p : Int)) = false := by simp
        clear hyv
        go_wp2_with fail
        clear c0
        go_roundw
        case rel => exact ⟨k + 1, by have := HLT.out; omega, by go_num, HI⟩
        case measure => simp [intOf] <;> omega
      case neg =>
        have z1 : ¬ (k : Int) < (xs.length : Int) := by omega
        go_wp2_with fail
        clear z1 hlt hk
        go_loopw [15] (fun i wr => ∃ u : Nat, v ≤ u ∧ u ≤ p ∧ i = .int .u8 u ∧ Hid (LiI w A xs B ys wr)) (fun i _ => p - (intOf i).toNat)
        case atStart => exact ⟨v, Nat.le_refl _, HP.out.2.1, rfl, HI⟩
        case round =>
          clear HI
          obtain ⟨u, hu1, hu2, rfl, HI⟩ := hrel
          by_cases hlu : u < p
          case pos =>
            have z1 : (u : Int) < (p : Int) := by omega
            have HU := Lib.hid (And.intro hu1 (And.intro hu2 hlu))
            have HP3 := Lib.hid (show u < 256 by have := HP.out; omega)
            clear hu1 hu2 hlu
            go_wp2_with fail
            clear z1
            go_loopw [16, 17] (fun b i wr => ∃ (k : Nat) (said : Bool), k ≤ xs.length ∧ i = .int .i64 k ∧ b = .bool said ∧ Hid (said = true → ∀ j (hj : j < xs.length), j < k → ∃ d, toX xs[j].e u = .ok d) ∧ Hid (LiI w A xs B ys wr)) (fun _ i _ => xs.length - (intOf i).toNat)
            case atStart => exact ⟨0, true, Nat.zero_le _, rfl, rfl, Lib.hid (fun _ j _ h => absurd h (Nat.not_lt_zero _)), HI⟩
            case round =>
              clear HI
              obtain ⟨k, said, hk, rfl, rfl, HSD, HI⟩ := hrel
              by_cases hlt : k < xs.length
              case pos =>
                have h60 := HS.out.1
                have zk : IntKind.i64.wrap ((k : Int) + 1) = (k : Int) + 1 := by (rw [IntKind.wrap_i64]; omega)
                have zk2 : RowKit.wrap64 ((k : Int) + 1) = (k : Int) + 1 := by (unfold RowKit.wrap64; omega)
                clear h60
                have z0 : (0 : Int) ≤ (k : Int) := by omega
                have z1 : (k : Int) < (xs.length : Int) := by omega
                obtain ⟨b, o, rfl, -, c0, c1, c2, c3, hat⟩ := HI.out.x.at k hlt
                have HAT := Lib.hid hat
                have HSX := Lib.hid (HS.out.2 _ (List.getElem_mem hlt))
                have HLT := Lib.hid hlt
                clear hat
                have HST := Lib.hid (fun (h1 : said = true) (h : ∃ d, toX xs[k].e u = .ok d) j (hj : j < xs.length) (hjk : j < k + 1) => show ∃ d, toX xs[j].e u = .ok d from by
                  by_cases hq : j = k
                  · subst hq; exact h
                  · exact HSD.out h1 j hj (by omega))
                generalize xs[k] = x at HAT HSX HST c0 c1 c2 c3
                go_wp2_with fail
                clear c0 c1 c2 c3
                refine (To_ev (A := x.A) (ca := x.ca) (C := x.C) (cc := x.cc) (e := x.e) (v := u) (by have := HSX.out; omega) HP3.out HAT.out HI.out.env).mono ?_
                rintro z X5 ⟨ut, nt, At, ct, Ct, dt, rfl, hev, hsm, hgot, hb⟩
                replace HI := Lib.hid (HI.out.below hb)
                replace HAT := Lib.hid (HAT.out.below hb)
                have HYt := Lib.hid hev
                have HSt := Lib.hid hsm
                have HGt := Lib.hid hgot
                clear hev hsm hgot hb
                unfold evV
                go_upto_region 23 with (fail)
                have hb := (Below.refl X5.heap.size X5).alloc (Nat.le_refl _) (.cells #[.int .u8 ut.v, .int .u8 ut.k, .slice At ut.ns.length ct, .slice Ct ut.ts.length dt] 25)
                replace HI := Lib.hid (HI.out.below hb)
                replace HAT := Lib.hid (HAT.out.below hb)
                replace HYt := Lib.hid (HYt.out.below hb)
                have HPt := Lib.hid (show Four _ X5.heap.size _ _ _ _ from box4 X5 (.int .u8 ut.v) (.int .u8 ut.k) (.slice At ut.ns.length ct) (.slice Ct ut.ts.length dt) 25)
                clear hb
                generalize X5.alloc (.cells #[.int .u8 ut.v, .int .u8 ut.k, .slice At ut.ns.length ct, .slice Ct ut.ts.length dt] 25) = X6 at HI HAT HYt HPt ⊢
                generalize hWs : X5.heap.size = bt at HPt ⊢
                clear hWs
                have hq : Hid (∀ b' : Bool, b' = (said && decide (nt = 0)) → b' = true → ∀ j (hj : j < xs.length), j < k + 1 → ∃ d, toX xs[j].e u = .ok d) := Lib.hid (fun b' hb' hb1 => by
                  rw [hb', Bool.and_eq_true, decide_eq_true_iff] at hb1
                  exact HST.out hb1.1 ⟨_, HGt.out.ok hb1.2⟩)
                cases said with
                | false =>
                  go_wp2_with fail
                  go_roundw
                  case rel => exact ⟨k + 1, false, by have := HLT.out; omega, by go_num, rfl, Lib.hid (fun h => by cases h), HI⟩
                  case measure => simp [intOf] <;> omega
                | true =>
                  by_cases hnt : nt = 0
                  case pos =>
                    have HQ2 := Lib.hid (hq.out true (by rw [hnt]; rfl))
                    clear hq
                    subst hnt
                    go_wp2_with fail
                    go_roundw
                    case rel => exact ⟨k + 1, true, by have := HLT.out; omega, by go_num, rfl, HQ2, HI⟩
                    case measure => simp [intOf] <;> omega
                  case neg =>
                    have z5 : ((nt : Int) == 0) = false := by (rw [beq_eq_false_iff_ne]; omega)
                    have z6 : ¬ (nt : Int) = 0 := by omega
                    clear hq
                    go_wp2_with fail
                    go_roundw
                    case rel => exact ⟨k + 1, false, by have := HLT.out; omega, by go_num, rfl, Lib.hid (fun h => by cases h), HI⟩
                    case measure => simp [intOf] <;> omega
              case neg =>
                have z1 : ¬ (k : Int) < (xs.length : Int) := by omega
                cases said with
                | true =>
                  exact absurd (lists_low HG.out HU.out.1 HU.out.2.2 (fun i hi => HSD.out rfl i hi (by omega))) id
                | false =>
                  clear hlt hk
                  have z2 : IntKind.u8.wrap ((u : Int) + 1) = ((u + 1 : Nat) : Int) := by (rw [IntKind.wrap_u8]; have := HU.out; have := HP.out; omega)
                  have z3 : (((u : Int) + 1) % 256) = ((u + 1 : Nat) : Int) := by (have := HU.out; have := HP.out; omega)
                  go_wp2_with fail
                  go_roundw
                  case rel => exact ⟨u + 1, by have := HU.out; omega, by have := HU.out; omega, by first | rfl | go_num, HI⟩
                  case measure => (have := HU.out; simp [intOf] <;> omega)
          case neg =>
            have z1 : ¬ (u : Int) < (p : Int) := by omega
            clear hlu hu1 hu2
            obtain ⟨k, hk1, hk2⟩ := cut_of m xs.length HS.out.1
            have HK := Lib.hid hk1
            have hn60 := HS.out.1
            have z2 : IntKind.i64.wrap ((xs.length : Int) + 1) = (xs.length : Int) + 1 := by (rw [IntKind.wrap_i64]; omega)
            have z3 : IntKind.u64.wrap ((xs.length : Int) + 1) = (xs.length : Int) + 1 := by (rw [IntKind.wrap_u64]; omega)
            have z4 : ¬ (xs.length : Int) + 1 = 0 := by omega
            have z7 : (((xs.length : Int) + 1) == 0) = false := by (rw [beq_eq_false_iff_ne]; omega)
            have z8 : IntKind.i64.wrap (k : Int) = (k : Int) := by (rw [IntKind.wrap_i64]; omega)
            have z9 : IntKind.u64.wrap (k : Int) = (k : Int) := by (rw [IntKind.wrap_u64]; omega)
            clear hn60 hk1
            go_upto_region 27 with (fail)
            clear z1 z2 z3 z4 z7 hk2
            have T1 := fun W => run_headE A xs.length ca k HK.out HLX.out.1 W
            have hc := Lowest_ev (A := A) (cap := ca) (xs := xs.take k) HVB.out (by rw [List.length_take]; have := HS.out.1; omega) (fun x hx => by have := HS.out.2 x (List.mem_of_mem_take hx); omega) (row_head HI.out.x k) HI.out.env
            rw [show (xs.take k).length = k by rw [List.length_take]; have := HK.out; omega] at hc
            have HC := Lib.hid hc
            clear hc
            go_wp2_with fail
            refine HC.out.mono ?_
            rintro z X5 ⟨p2, n2, ys2, B2, cb2, rfl, -, -, -, -, hg2, hb⟩
            replace HI := Lib.hid (HI.out.below hb)
            clear hb HC T1 z8 z9
            obtain ⟨rfl, hp2, hk2⟩ := lists_part HG.out k HK.out hg2
            clear hg2
            rw [hk2]
            have HP2 := Lib.hid hp2
            clear hp2 hk2
            have hc := Lowest_ev (A := B) (cap := cb) (xs := ys) HVB.out (by have := HS.out.1; have := HYL.out; omega) (fun y hy => by have := HSM.out y hy; omega) HI.out.y HI.out.env
            rw [HYL.out] at hc
            have HC := Lib.hid hc
            clear hc
            go_wp2_with fail
            refine HC.out.mono ?_
            rintro z X6 ⟨p3, n3, ys3, B3, cb3, rfl, hy3, -, -, hs3, hg3, hb⟩
            replace HI := Lib.hid (HI.out.below hb)
            clear hb HC
            obtain ⟨rfl, rfl, hag⟩ := lists_again HG.out hg3
            clear hg3
            have hl3 : ys3.length = xs.length := by (have := congrArg List.length hag; simp only [List.length_map] at this; rw [this]; exact HYL.out)
            have hc := sames_any B3 cb3 ys3 B cb ys hag (by rw [hl3]; have := HS.out.1; omega) (fun y hy => by have := hs3 y hy; omega) X6 hy3 HI.out.y
            rw [hl3, HYL.out] at hc
            have HC := Lib.hid hc
            rw [hl3]
            clear hc hl3 hy3 hs3 hag
            have z1 : (p2 : Int) ≤ (p3 : Int) := by have := HP2.out; omega
            have z2 : decide (p2 ≤ p3) = true := decide_eq_true HP2.out
            have z3 : ((k : Int) == (k : Int)) = true := beq_self_eq_true _
            have z4 : ((p3 : Int) == (p3 : Int)) = true := beq_self_eq_true _
            go_wp2_with fail
            refine HC.out.mono ?_
            rintro z X7 ⟨rfl, hb⟩
            replace HI := Lib.hid (HI.out.below hb)
            clear hb
            have HZ := Lib.hid HI.out.bel
            go_wp2_with fail
            go_ret
            exact ⟨by simp, HZ.out⟩

end Go.Proofs.YtbjpkffhpdcapaaDoor.Upcast
