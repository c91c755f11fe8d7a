import Derived.Test.YtiibeemjkdipnaaGreatDoorKB
import Derived.Test.YtiibeemjkdipnaaGreatDoorGR
/-
  The document's own Decode of a batch.
-/
namespace Go.Proofs.YtiibeemjkdipnaaGreatDoor.Batch
open Go Go.RowKit
open Go.Proofs.YtiibeemjkdipnaaGreatDoor.Schema
open Go.Proofs.YtiibeemjkdipnaaGreatDoor.Wire (Dr DStep drS U fxV shR tkI tkE endE dfixed_any dshort_any)
open Go.Proofs.YtiibeemjkdipnaaGreatDoor.Codec (getW getE getI getF get_back getI_le DGetRes DGet_any dr_bel)
open Go.Proofs.YtiibeemjkdipnaaGreatDoor.Upcast (ev0 LyAt)

/-- what the document's Decode tells -/
def DecD (s : ByteArray) (w : World) (z : Ending) (w' : World) : Prop :=
  ∃ (ys : List Lx) (A : Option Addr) (c : Nat), z = .returned (.tuple #[.slice A ys.length c, .int .i64 (btW s : Int)]) ∧ ys.map (·.e) = btL s ∧ Row w' A ys ∧ Below w.heap.size w w'
theorem decD_no {s : ByteArray} {w w' : World} {x : Nat} (h : btW s = x) (h0 : ¬ x = 0) (hb : Below w.heap.size w w') : DecD s w (.returned (.tuple #[.slice none 0 0, .int .i64 (x : Int)])) w' :=
  ⟨[], none, 0, by rw [h]; rfl, by unfold btL; rw [if_neg (by rw [h]; exact h0)]; rfl, Row.nil _ _, hb⟩
theorem bt_e1 {s : ByteArray} (h : ¬ tkE s 0 0 1 = 0) : btW s = tkE s 0 0 1 := by
  have h1 : hd1 s = tkE s 0 0 1 := if_neg h
  have h2 : hdW s = hd1 s := if_neg (by rw [h1]; exact h)
  rw [show btW s = hdW s from if_neg (by rw [h2, h1]; exact h), h2, h1]
theorem bt_v {s : ByteArray} (h : tkE s 0 0 1 = 0) (hv : ¬ (1 ≤ hdV s ∧ hdV s ≤ 3)) : btW s = 43 := by
  have h1 : hd1 s = 43 := (if_pos h).trans (if_neg hv)
  have h2 : hdW s = hd1 s := if_neg (by rw [h1]; decide)
  rw [show btW s = hdW s from if_neg (by rw [h2, h1]; decide), h2, h1]
theorem hd1_yes {s : ByteArray} (h : tkE s 0 0 1 = 0) (hv : 1 ≤ hdV s ∧ hdV s ≤ 3) : hd1 s = 0 := (if_pos h).trans (if_pos hv)
theorem bt_e2 {s : ByteArray} (h : tkE s 0 0 1 = 0) (hv : 1 ≤ hdV s ∧ hdV s ≤ 3) (h2 : ¬ (hdR s).2.2 = 0) : btW s = (hdR s).2.2 := by
  have h3 : hdW s = (hdR s).2.2 := (if_pos (hd1_yes h hv)).trans (if_neg (fun q => h2 q.1))
  rw [show btW s = hdW s from if_neg (by rw [h3]; exact h2), h3]
theorem bt_n {s : ByteArray} (h : tkE s 0 0 1 = 0) (hv : 1 ≤ hdV s ∧ hdV s ≤ 3) (h2 : (hdR s).2.2 = 0) (hn : hdN s = 0) : btW s = 4 := by
  have h3 : hdW s = 4 := (if_pos (hd1_yes h hv)).trans (if_pos ⟨h2, hn⟩)
  rw [show btW s = hdW s from if_neg (by rw [h3]; decide), h3]
theorem hd_run {s : ByteArray} (h : tkE s 0 0 1 = 0) (hv : 1 ≤ hdV s ∧ hdV s ≤ 3) (h2 : (hdR s).2.2 = 0) (hn : ¬ hdN s = 0) : hdW s = 0 := by
  have h3 : hdW s = (hdR s).2.2 := (if_pos (hd1_yes h hv)).trans (if_neg (fun q => hn q.2))
  rw [h3, h2]

/-- the loop: what has been read so far -/
structure RdJ (w : World) (s : ByteArray) (m p : Nat) (v : Value) (ys : List Lx) (wr : World) : Prop where
  bel : Below w.heap.size w wr
  gt : w.heap.size + 1 ≤ wr.heap.size
  own : OwnR wr (w.heap.size + 1) v ys
  ly : ∀ y ∈ ys, LyAt wr (w.heap.size + 1) y
  le : p ≤ s.size
  run : okL s = ys.map (·.e) ++ runE s (hdV s) m p
  rwn : btW s = runW s (hdV s) m p
theorem RdJ.below {w : World} {s : ByteArray} {m p : Nat} {v : Value} {ys : List Lx} {wr w' : World} (h : RdJ w s m p v ys wr) (hb : Below wr.heap.size wr w') : RdJ w s m p v ys w' :=
  ⟨below_step h.bel hb, Nat.le_trans h.gt hb.size, h.own.below hb, fun y hy => (h.ly y hy).below hb, h.le, h.run, h.rwn⟩
theorem grw_one {d : Nat} {w w' : World} (g : w.grownBy w' (some d)) : Grw (fun r => r = d) w w' := ⟨g.os, g.tape, g.output, g.size, fun k hk hT => g.block k hk (fun e => hT (by injection e))⟩
theorem RdJ.got {w : World} {s : ByteArray} {m p : Nat} {v : Value} {ys : List Lx} {wr w' : World} (h : RdJ w s m p v ys wr) (g : wr.grownBy w' (some w.heap.size)) : RdJ w s m p v ys w' :=
  ⟨h.bel.trans ⟨g.os, g.tape, g.output, g.size, fun k hk => g.block k (Nat.lt_of_lt_of_le hk h.bel.size) (fun e => by injection e with e; omega)⟩, Nat.le_trans h.gt g.size, ownR_grw h.own (grw_one g) (fun r hr e => by omega), fun y hy => lyAt_grw (h.ly y hy) (grw_one g) (fun r hr e => by omega), h.le, h.run, h.rwn⟩
theorem rdj_next {w : World} {s : ByteArray} {k p : Nat} {v v' : Value} {ys : List Lx} {W W' : World} {y : Lx} (h : RdJ w s (k + 1) p v ys W) (h0 : getW s p 0 (hdV s) = 0) (hO : OwnR W' (w.heap.size + 1) v' (ys ++ [y])) (hg : W.grownBy W' v.ownBlock) (he : y.e = getE s p 0 (hdV s)) (h1 : OwnE W (w.heap.size + 1) 2 (.slice y.A y.e.ns.length y.ca) (nums y.e.ns)) (h2 : OwnE W (w.heap.size + 1) 9 (.slice y.C y.e.ts.length y.cc) (texts y.e.ts)) : RdJ w s k (getI s p 0 (hdV s)) v' (ys ++ [y]) W' := by
  have hm := (get_back h0).1
  rw [← he] at hm
  refine ⟨h.bel.trans (h.own.below_grown (Nat.le_succ _) h.bel.size hg), Nat.le_trans h.gt hg.size, hO, fun z hz => ?_, getI_le s p 0 (hdV s) h.le, ?_, ?_⟩
  · rcases List.mem_append.1 hz with hz | hz
    · exact (h.ly z hz).grown h.own hg
    · rw [List.mem_singleton.1 hz]
      exact LyAt.grown ⟨hm, (Schema.may_at hm h1 h2).txt, h1, h2⟩ h.own hg
  · have hr : runE s (hdV s) (k + 1) p = getE s p 0 (hdV s) :: runE s (hdV s) k (getI s p 0 (hdV s)) := if_pos h0
    rw [h.run, hr, List.map_append, List.map_cons, List.map_nil, he, List.append_assoc]; rfl
  · rw [h.rwn]; exact if_pos h0
theorem dr_own {s : ByteArray} {p : Nat} {v : Value} {ys : List Lx} {d : Nat} {W W' : World} (h : Dr W d s p 0) (ho : OwnR W (d + 1) v ys) (hg : W.grownBy W' v.ownBlock) : Dr W' d s p 0 :=
  (hg.block d (Wire.row_lt h) (fun e => by have := World.ownsRow.lt ho d e.symm; omega)).trans h

set_option maxRecDepth 100000 in
set_option maxHeartbeats 4000000 in
theorem rDecL_any (s : ByteArray) (hs : s.size ≤ 1000000000000) (w : World) : Calls Tryz.prog 19 #[.string s] w (DecD s w) := by
  have HS := Lib.hid hs
  go_enter Tryz.func19, Tryz.ntmps19
  have HB := Lib.hid ((Below.refl w.heap.size w).alloc (Nat.le_refl _) (.cells #[.string s, .int .i64 0, .int .i64 0, .int .i64 0] 65))
  have HD := Lib.hid (show Dr _ w.heap.size s 0 0 from heap_alloc_new w (.cells #[.string s, .int .i64 0, .int .i64 0, .int .i64 0] 65))
  have HGT := Lib.hid (show w.heap.size + 1 ≤ (w.alloc (.cells #[.string s, .int .i64 0, .int .i64 0, .int .i64 0] 65)).heap.size by simp)
  go_upto_region 2 with (fail)
  generalize w.alloc (.cells #[.string s, .int .i64 0, .int .i64 0, .int .i64 0] 65) = W0 at HB HD HGT ⊢
  have hc : Calls Tryz.prog 38 #[.pointer (some ⟨w.heap.size, 0, none⟩), .int .i64 1] W0 fun x w' => x = .returned (.int .u64 ((hdV s : Nat) : Int)) ∧ DStep W0 w' w.heap.size s (tkI s 0 0 1) (tkE s 0 0 1) := dfixed_any w.heap.size s 0 0 1 1 rfl W0 HD.out (Nat.zero_le _) hs (by omega)
  have HC := Lib.hid hc
  have hvl := Wire.fxV_lt s 0 0 1
  have HVL := Lib.hid (show hdV s < 256 by simpa [hdV] using hvl)
  have zv : IntKind.u8.wrap ((hdV s : Nat) : Int) = ((hdV s : Nat) : Int) := by rw [IntKind.wrap_u8]; have := HVL.out; omega
  clear hc hvl hs
  go_wp2_with fail
  refine HC.out.mono ?_
  rintro z W1 ⟨rfl, hst⟩
  have HB1 := Lib.hid (HB.out.trans (show Below w.heap.size W0 W1 from ⟨hst.2.os, hst.2.tape, hst.2.output, hst.2.size, fun k hk => hst.2.block k (by have := HGT.out; omega) (fun e => by injection e with e; omega)⟩))
  have HD1 := Lib.hid hst.1
  have HGT1 := Lib.hid (Nat.le_trans HGT.out hst.2.size)
  clear hst HC HD HB HGT
  obtain ⟨r0, r1, r2, r3⟩ := HD1.out.cells
  by_cases he : tkE s 0 0 1 = 0
  case neg =>
    have HBT := Lib.hid (bt_e1 he)
    have HNE := Lib.hid he
    obtain ⟨q1, q2, q3, q4, q5⟩ := nat_ne he
    clear he
    generalize tkE s 0 0 1 = x at r2 HBT HNE q1 q2 q3 q4 q5
    clear r0 r1 r3 HD1
    go_upto_region 4 with (fail)
    go_region
    all_goals
      go_wp2_with fail
      go_ret2
      exact decD_no HBT.out HNE.out (HB1.out.trans ((below_drew _ _).mono HB1.out.size))
  case pos =>
    have HT0 := Lib.hid he
    have h1 : tkI s 0 0 1 = 1 := by
      have := he
      unfold Wire.tkE at this
      unfold Wire.tkI
      by_cases hq : (0 : Nat) + 1 ≤ s.size
      · rw [if_pos ⟨rfl, hq⟩]
      · rw [if_pos rfl, if_neg hq] at this; cases this
    have HS1 := Lib.hid (show 1 ≤ s.size by
      have := he
      unfold Wire.tkE at this
      by_cases hq : (0 : Nat) + 1 ≤ s.size
      · omega
      · rw [if_pos rfl, if_neg hq] at this; cases this)
    rw [he] at r2
    rw [h1, he] at HD1
    clear he h1 r0 r1 r3
    by_cases hv : 1 ≤ hdV s ∧ hdV s ≤ 3
    case neg =>
      have HBT := Lib.hid (bt_v HT0.out hv)
      by_cases hv1 : hdV s < 1
      · have y1 : ((hdV s : Nat) : Int) < 1 := by omega
        have y2 : decide (((hdV s : Nat) : Int) < 1) = true := decide_eq_true y1
        have y3 : hdV s = 0 := by omega
        have y4 : hdV s < 1 := hv1
        clear hv hv1
        go_wp2_with fail
        go_ret2
        exact decD_no (x := 43) HBT.out (by decide) HB1.out
      · have y1 : ¬ ((hdV s : Nat) : Int) < 1 := by omega
        have y2 : decide (((hdV s : Nat) : Int) < 1) = false := decide_eq_false y1
        have y3 : (3 : Int) < ((hdV s : Nat) : Int) := by omega
        have y4 : decide ((3 : Int) < ((hdV s : Nat) : Int)) = true := decide_eq_true y3
        have y5 : ¬ hdV s = 0 := by omega
        have y6 : (hdV s == 0) = false := beq_eq_false_iff_ne.2 y5
        have y7 : 3 < hdV s := by omega
        clear hv hv1
        go_wp2_with fail
        go_ret2
        exact decD_no (x := 43) HBT.out (by decide) HB1.out
    case pos =>
      have HV := Lib.hid hv
      have y1 : ¬ ((hdV s : Nat) : Int) < 1 := by omega
      have y2 : decide (((hdV s : Nat) : Int) < 1) = false := decide_eq_false y1
      have y3 : ¬ (3 : Int) < ((hdV s : Nat) : Int) := by omega
      have y4 : decide ((3 : Int) < ((hdV s : Nat) : Int)) = false := decide_eq_false y3
      have y5 : ¬ hdV s = 0 := by omega
      have y6 : (hdV s == 0) = false := beq_eq_false_iff_ne.2 y5
      have y7 : ¬ 3 < hdV s := by omega
      have hc : Calls Tryz.prog 39 #[.pointer (some ⟨w.heap.size, 0, none⟩), .int .u64 40] W1 fun x w' => x = .returned (.int .u64 ((hdN s : Nat) : Int)) ∧ DStep W1 w' w.heap.size s (hdI s) (hdR s).2.2 := dshort_any w.heap.size s 1 0 40 W1 HD1.out HS1.out HS.out
      have HC := Lib.hid hc
      clear hc hv
      go_wp2_with fail
      clear y1 y2 y3 y4 y5 y6 y7 r2
      refine HC.out.mono ?_
      rintro z W2 ⟨rfl, hst⟩
      have HB2 := Lib.hid (HB1.out.trans (show Below w.heap.size W1 W2 from ⟨hst.2.os, hst.2.tape, hst.2.output, hst.2.size, fun k hk => hst.2.block k (by have := HGT1.out; omega) (fun e => by injection e with e; omega)⟩))
      have HD2 := Lib.hid hst.1
      have HGT2 := Lib.hid (Nat.le_trans HGT1.out hst.2.size)
      clear hst HC HD1 HB1 HGT1
      obtain ⟨r0, r1, r2, r3⟩ := HD2.out.cells
      by_cases he : (hdR s).2.2 = 0
      case neg =>
        have HBT := Lib.hid (bt_e2 HT0.out HV.out he)
        have HNE := Lib.hid he
        obtain ⟨q1, q2, q3, q4, q5⟩ := nat_ne he
        clear he
        generalize (hdR s).2.2 = x at r2 HBT HNE q1 q2 q3 q4 q5
        clear r0 r1 r3 HD2
        go_upto_region 9 with (fail)
        go_region
        all_goals
          go_wp2_with fail
          go_ret2
          exact decD_no HBT.out HNE.out (HB2.out.trans ((below_drew _ _).mono HB2.out.size))
      case pos =>
        have HE2 := Lib.hid he
        rw [he] at r2 HD2
        clear he r0 r1 r3
        by_cases hn : hdN s = 0
        case pos =>
          have HBT := Lib.hid (bt_n HT0.out HV.out HE2.out hn)
          rw [hn]
          clear hn
          go_wp2_with fail
          go_ret2
          exact decD_no (x := 4) HBT.out (by decide) HB2.out
        case neg =>
          have hw := hd_run HT0.out HV.out HE2.out hn
          have hb := hd_back hw
          have HNN := Lib.hid (show hdN s ≤ 40 from hb.2.2.2.2.2.1)
          have HI : Hid (RdJ w s (hdN s) (hdI s) (.slice none 0 0) [] W2) := Lib.hid ⟨HB2.out, HGT2.out, OwnR.nil _ _, fun y hy => (by cases hy), hb.2.2.2.2.2.2, by rw [List.map_nil, List.nil_append]; exact if_pos hw, if_pos hw⟩
          obtain ⟨q1, q2, q3, q4, q5⟩ := nat_ne hn
          have HDI : Hid (Dr W2 w.heap.size s (hdI s) 0) := HD2
          clear hw hb hn HD2
          generalize hdN s = n at HNN HI q1 q2 q3 q4 q5 ⊢
          go_wp2_with fail
          clear q1 q2 q3 q4 q5 r2
          have zn : IntKind.i64.wrap (n : Int) = (n : Int) := by (rw [IntKind.wrap_i64]; have := HNN.out; omega)
          go_loopw [7, 8] (fun vx t wr => ∃ (i m p : Nat) (ys : List Lx), t = .int .i64 i ∧ i + m = n ∧ ys.length = i ∧ Hid (RdJ w s m p vx ys wr) ∧ Hid (Dr wr w.heap.size s p 0)) (fun _ t _ => n - (intOf t).toNat)
          case atStart => exact ⟨0, n, hdI s, [], rfl, Nat.zero_add _, rfl, HI, HDI⟩
          case round =>
            clear HI HDI HB2 HGT2
            obtain ⟨i, m, p, ys, rfl, him, hyl, HI, HD⟩ := hrel
            have HYL := Lib.hid hyl
            clear hyl
            cases m with
            | zero =>
              have z1 : ¬ (i : Int) < (n : Int) := by omega
              have z2 : decide ((i : Int) < (n : Int)) = false := decide_eq_false z1
              have z3 : ¬ i < n := by omega
              obtain ⟨c0, c1, c2, c3⟩ := HD.out.cells
              have hrw : btW s = endE s p 0 := HI.out.rwn
              have HRN := Lib.hid (show okL s = ys.map (·.e) by have := HI.out.run; rwa [show runE s (hdV s) 0 p = [] from rfl, List.append_nil] at this)
              clear c0 c2 c3
              by_cases hp : p < s.size
              · have HBT := Lib.hid (show btW s = 4 from hrw.trans (if_pos ⟨rfl, hp⟩))
                have q4 : (p : Int) < (s.size : Int) := by omega
                have q5 : decide ((p : Int) < (s.size : Int)) = true := decide_eq_true q4
                clear hrw hp
                go_wp2_with fail
                go_ret2
                exact decD_no (x := 4) HBT.out (by decide) HI.out.bel
              · have HBT := Lib.hid (show btW s = 0 from hrw.trans (if_neg (fun h => hp h.2)))
                have q4 : ¬ (p : Int) < (s.size : Int) := by omega
                have q5 : decide ((p : Int) < (s.size : Int)) = false := decide_eq_false q4
                obtain ⟨A, c, rfl, hva, -, -, -⟩ := HI.out.own.vat
                have HRW := Lib.hid (show Row wr A ys from ⟨hva, fun y hy => (HI.out.ly y hy).lx⟩)
                clear hrw hp hva
                go_wp2_with fail
                go_ret2
                exact ⟨ys, A, c, by rw [HBT.out]; rfl, by unfold btL; rw [if_pos HBT.out, HRN.out], HRW.out, HI.out.bel⟩
            | succ k =>
              have z1 : (i : Int) < (n : Int) := by omega
              have z2 : decide ((i : Int) < (n : Int)) = true := decide_eq_true z1
              have z3 : i < n := by omega
              have HIM := Lib.hid him
              have HG := Lib.hid (DGet_any w.heap.size s p (hdV s) wr HD.out HI.out.le HS.out HVL.out)
              have zk : IntKind.i64.wrap ((i : Int) + 1) = (i : Int) + 1 := by (rw [IntKind.wrap_i64]; have := HNN.out; have := HIM.out; omega)
              clear him
              go_wp2_with fail
              clear z1 z2 z3
              refine HG.out.mono ?_
              rintro z W3 ⟨A, ca, C, cc, rfl, hn1, hm1, hst, hg⟩
              have HJ := Lib.hid (HI.out.got hg)
              have hgt := HI.out.gt
              have HN1 := Lib.hid (hn1.less hgt)
              have HM1 := Lib.hid (hm1.less hgt)
              clear hn1 hm1 hg hgt HG HI HD
              have HRW := Lib.hid (fun (h : ¬ getW s p 0 (hdV s) = 0) => (show btW s = getW s p 0 (hdV s) from HJ.out.rwn.trans (if_neg h)))
              have HNX := Lib.hid (fun (h : getW s p 0 (hdV s) = 0) (v v' : Value) (W W' : World) (y : Lx) (hj : RdJ w s (k + 1) p v ys W) hO hg he h1 h2 => rdj_next (v := v) (v' := v') (W := W) (W' := W') (y := y) hj h hO hg he h1 h2)
              have HST := Lib.hid hst
              clear hst
              simp only [evV]
              generalize getE s p 0 (hdV s) = e at HN1 HM1 HNX ⊢
              generalize getW s p 0 (hdV s) = g at HRW HNX HST ⊢
              generalize getI s p 0 (hdV s) = p2 at HNX HST
              have hb := (Below.refl W3.heap.size W3).alloc (Nat.le_refl _) (.cells #[.int .u8 e.v, .int .u8 e.k, .slice A e.ns.length ca, .slice C e.ts.length cc] 39)
              have HL := Lib.hid (show Four _ W3.heap.size _ _ _ _ from box4 W3 (.int .u8 e.v) (.int .u8 e.k) (.slice A e.ns.length ca) (.slice C e.ts.length cc) 39)
              replace HJ := Lib.hid (HJ.out.below hb)
              replace HN1 := Lib.hid (HN1.out.below hb)
              replace HM1 := Lib.hid (HM1.out.below hb)
              by_cases h0 : g = 0
              case neg =>
                have HBT := Lib.hid (HRW.out h0)
                have HNE := Lib.hid h0
                obtain ⟨q1, q2, q3, q4, q5⟩ := nat_ne h0
                clear h0 hb HRW HNX HST HN1 HM1 HL
                go_wp2_with fail
                go_ret2
                exact decD_no HBT.out HNE.out HJ.out.bel
              case pos =>
                subst h0
                have HD3 := Lib.hid (dr_bel (HST.out rfl).1 hb)
                replace HNX := Lib.hid (HNX.out rfl)
                clear hb HRW HST
                go_upto_region 17 with (fail)
                generalize hWs : W3.heap.size = b8 at HL ⊢
                clear hWs
                generalize W3.alloc (.cells #[.int .u8 e.v, .int .u8 e.k, .slice A e.ns.length ca, .slice C e.ts.length cc] 39) = W4 at HL HJ HN1 HM1 HD3 ⊢
                have hb3 := (Below.refl W4.heap.size W4).alloc (Nat.le_refl _) (.cells #[.int .u8 e.v, .int .u8 e.k, .slice A e.ns.length ca, .slice C e.ts.length cc] 39)
                replace HJ := Lib.hid (HJ.out.below hb3)
                replace HN1 := Lib.hid (HN1.out.below hb3)
                replace HM1 := Lib.hid (HM1.out.below hb3)
                replace HD3 := Lib.hid (dr_bel HD3.out hb3)
                clear hb3
                have HNEW := Lib.hid (lx_new W4 ⟨A, ca, C, cc, e⟩)
                have HY2 := Lib.hid (show ys.length ≤ 1000000 by (have := HYL.out; have := HIM.out; have := HNN.out; omega))
                obtain ⟨l0, l1, l2, l3⟩ := HL.out
                go_wp2_with (at_builtin; refine wpList_append_ev rfl (.tmp 60) (.tmp 62) rfl (w.heap.size + 1) _ ys rfl HJ.out.own ⟨W4.heap.size, 0, none⟩ 1 ⟨A, ca, C, cc, e⟩ rfl HNEW.out ?c1 ?c2 ?_)
                case c1 => exact HY2.out
                case c2 => first | exact HJ.out.gt | (have hq := HJ.out.gt; simp at hq ⊢; omega)
                intro v' W5 hO hg
                have HD5 := Lib.hid (dr_own HD3.out HJ.out.own hg)
                have HJ5 := Lib.hid (HNX.out _ _ _ _ _ HJ.out hO hg rfl HN1.out HM1.out)
                have HYL5 := Lib.hid (show (ys ++ [(⟨A, ca, C, cc, e⟩ : Lx)]).length = i + 1 by rw [List.length_append, HYL.out]; rfl)
                clear hO hg HJ HNEW l0 l1 l2 l3 HL HD3
                go_wp2_with fail
                go_roundw
                case rel => exact ⟨i + 1, k, _, _, by go_num, by have := HIM.out; omega, HYL5.out, HJ5, HD5⟩
                case measure => simp [intOf] <;> (have := HIM.out; omega)
end Go.Proofs.YtiibeemjkdipnaaGreatDoor.Batch
