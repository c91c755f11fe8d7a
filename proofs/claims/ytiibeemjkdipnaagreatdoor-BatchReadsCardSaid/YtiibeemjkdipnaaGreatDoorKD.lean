import Derived.Test.YtiibeemjkdipnaaGreatDoorKB
import Derived.Test.YtiibeemjkdipnaaGreatDoorVD
/-
  The document's own said and Say.
-/
namespace Go.Proofs.YtiibeemjkdipnaaGreatDoor.Batch
open Go Go.RowKit
open Go.Proofs.YtiibeemjkdipnaaGreatDoor.Schema
open Go.Proofs.YtiibeemjkdipnaaGreatDoor.Upcast (ev0 LyAt toX ExV rTo_any to_may to_err isV lwX lw_out lw_made lw_ver lw_err saidX saidN saidX_at saidX_no saidN_of saidN_bad ext_ev newest_is nwX getD_map)

/-! ### the mathematics -/
theorem lw_hit {es out l : List Ev} {v q u : Nat} (h : lwX es v = .ok (q, out)) (h1 : v ≤ u) (h2 : u ≤ q) (hs : saidX (fun e => toX e u) es = .ok l) : lwX es v = .ok (u, l) := by
  have ho := lw_out h
  obtain ⟨a1, a2⟩ := saidX_at hs
  by_cases hu : u < q
  · obtain ⟨i, x, hi, hx⟩ := ho.low u h1 hu
    have h3 : toX (es.getD i ev0) u = .ok (l.getD i ev0) := a2 i hi
    rw [hx] at h3; cases h3
  have hq : u = q := by omega
  subst hq
  rw [h, ext_ev (a := out) (b := l) (by rw [ho.len, a1]) (fun i hi => ?_)]
  rw [ho.len] at hi
  have h3 : toX (es.getD i ev0) u = .ok (l.getD i ev0) := a2 i hi
  rw [ho.each i hi] at h3
  injection h3
theorem lw_miss {es out : List Ev} {v q u x : Nat} (h : lwX es v = .ok (q, out)) (h2 : u ≤ q) (hs : saidX (fun e => toX e u) es = .error x) : u < q := by
  have ho := lw_out h
  obtain ⟨i, hi, hx⟩ := saidX_no hs
  by_cases hq : u = q
  · subst hq
    have h3 : toX (es.getD i ev0) u = .error x := hx
    rw [ho.each i hi] at h3; cases h3
  · omega
theorem mayL_at {es : List Ev} (h : mayL es = true) : ∀ j, j < es.length → may (es.getD j ev0) = true := fun j hj => by
  rw [List.getD_eq_getElem?_getD, List.getElem?_eq_getElem hj, Option.getD_some]
  exact ((mayL_out h).2.2.1 _ (List.getElem_mem hj)).1
/-- a list that is said in the lowest version that it can be said in -/
theorem say_hit {es out l : List Ev} {v q u : Nat} (hm : mayL es = true) (h : lwX es v = .ok (q, out)) (h1 : v ≤ u) (h2 : u ≤ q) (hs : saidX (fun e => toX e u) es = .ok l) : sayT es v = encT l ∧ sayN es v = refN l := by
  have h3 := lw_hit h h1 h2 hs
  have hl := (low_mayL hm h3).1
  have hr := refN_zero.2 hm
  unfold sayT sayN encT
  rw [if_pos hr, if_pos hr, h3, if_pos hl, refN_zero.2 hl]
  exact ⟨rfl, rfl⟩
/-! ### said -/
/-- what the document's said tells -/
def SaidV (r : Except Nat (List Ev)) (w : World) (z : Ending) (w' : World) : Prop :=
  match r with
  | .ok l => ∃ (ys : List Lx) (A : Option Addr) (c : Nat), z = .returned (.tuple #[.slice A ys.length c, .bool true]) ∧ ys.map (·.e) = l ∧ Row w' A ys ∧ Below w.heap.size w w'
  | .error _ => z = .returned (.tuple #[.slice none 0 0, .bool false]) ∧ Below w.heap.size w w'
structure SdI (w : World) (f : Ev → Except Nat Ev) (es : List Ev) (i : Nat) (v : Value) (ys : List Lx) (wr : World) : Prop where
  bel : Below w.heap.size w wr
  own : OwnR wr w.heap.size v ys
  len : ys.length = i
  yes : saidN f es i = .ok (ys.map (·.e))
  ly : ∀ y ∈ ys, LyAt wr w.heap.size y
theorem SdI.below {w : World} {f : Ev → Except Nat Ev} {es : List Ev} {i : Nat} {v : Value} {ys : List Lx} {wr w' : World} (h : SdI w f es i v ys wr) (hb : Below wr.heap.size wr w') : SdI w f es i v ys w' := ⟨below_step h.bel hb, h.own.below hb, h.len, h.yes, fun y hy => (h.ly y hy).below hb⟩
theorem sd_next {w : World} {f : Ev → Except Nat Ev} {es : List Ev} {i : Nat} {v v' : Value} {ys : List Lx} {W W' : World} {y : Lx} (h : SdI w f es i v ys W) (hO : OwnR W' w.heap.size v' (ys ++ [y])) (hg : W.grownBy W' v.ownBlock) (hf : f (es.getD i ev0) = .ok y.e) (hm : may y.e = true) (ht : ∀ t ∈ y.e.ts, t.size ≤ maxLen) (h1 : OwnE W w.heap.size 2 (.slice y.A y.e.ns.length y.ca) (nums y.e.ns)) (h2 : OwnE W w.heap.size 9 (.slice y.C y.e.ts.length y.cc) (texts y.e.ts)) : SdI w f es (i + 1) v' (ys ++ [y]) W' := by
  refine ⟨h.bel.trans (h.own.below_grown (Nat.le_refl _) h.bel.size hg), hO, by rw [List.length_append, h.len]; rfl, ?_, fun z hz => ?_⟩
  · simp only [saidN, h.yes, hf, List.map_append, List.map_cons, List.map_nil]
  · rcases List.mem_append.1 hz with hz | hz
    · exact (h.ly z hz).grown h.own hg
    · rw [List.mem_singleton.1 hz]
      exact LyAt.grown ⟨hm, ht, h1, h2⟩ h.own hg
theorem sd_bad {w : World} {f : Ev → Except Nat Ev} {es : List Ev} {i n : Nat} {v : Value} {ys : List Lx} {W : World} (h : SdI w f es i v ys W) (hi : i < es.length) (hf : f (es.getD i ev0) = .error n) : saidX f es = .error n := by
  have h1 : saidN f es (i + 1) = .error n := by simp only [saidN, h.yes, hf]
  have := saidN_bad h1 (es.length - (i + 1))
  unfold saidX
  rwa [show i + 1 + (es.length - (i + 1)) = es.length from by omega] at this

set_option maxRecDepth 100000 in
set_option maxHeartbeats 4000000 in
theorem rSaid_any (A : Option Addr) (cap : Nat) (xs : List Lx) (v : Nat) (hv : v < 256) (hn : xs.length ≤ 100000) (w : World) (hX : Row w A xs) :
    Calls Tryz.prog 32 #[.slice A xs.length cap, .int .u8 (v : Int)] w (SaidV (saidX (fun e => toX e v) (xs.map (·.e))) w) := by
  have HX := Lib.hid hX
  have HN := Lib.hid hn
  have HVV := Lib.hid hv
  clear hX hn hv
  obtain ⟨es, hes⟩ : ∃ es, es = xs.map (·.e) := ⟨_, rfl⟩
  rw [← hes]
  have HEL := Lib.hid (show es.length = xs.length by rw [hes, List.length_map])
  have HES := Lib.hid hes
  clear hes
  go_enter Tryz.func32, Tryz.ntmps32
  go_wp2_with fail
  have HI : Hid (SdI w (fun e => toX e v) es 0 (.slice none 0 0) [] w) := Lib.hid ⟨Below.refl _ _, OwnR.nil _ _, rfl, rfl, fun y hy => by cases hy⟩
  go_loopw [6, 7] (fun vx t wr => ∃ (i : Nat) (ys : List Lx), i ≤ xs.length ∧ t = .int .i64 i ∧ Hid (SdI w (fun e => toX e v) es i vx ys wr)) (fun _ t _ => xs.length - (intOf t).toNat)
  case atStart => exact ⟨0, [], Nat.zero_le _, rfl, HI⟩
  case round =>
    clear HI
    obtain ⟨i, ys, hi, rfl, HI⟩ := hrel
    by_cases hlt : i < xs.length
    case pos =>
      have z0 : (0 : Int) ≤ (i : Int) := by omega
      have z1 : (i : Int) < (xs.length : Int) := by omega
      obtain ⟨b, o, rfl, hbl, c0, c1, c2, c3, hat⟩ := (HX.out.below HI.out.bel).at i hlt
      have HAT := Lib.hid hat
      have HGD := Lib.hid (getD_map xs i hlt)
      clear hat hbl
      generalize xs[i] = x at HAT HGD c0 c1 c2 c3
      rw [← HES.out] at HGD
      have HLT := Lib.hid hlt
      have zk : IntKind.i64.wrap ((i : Int) + 1) = (i : Int) + 1 := by (rw [IntKind.wrap_i64]; have := HN.out; omega)
      go_wp2_with fail
      clear c0 c1 c2 c3 z0 z1
      refine (rTo_any HVV.out HAT.out).mono ?_
      rintro z W2 hz
      have HWS := Lib.hid HI.out.bel.size
      cases hq2 : toX x.e v with
      | error n =>
        have hne := to_err hq2
        have HDN := Lib.hid (sd_bad HI.out (by rw [HEL.out]; exact hlt) (by rw [HGD.out]; exact hq2))
        rw [hq2] at hz
        obtain ⟨rfl, hb⟩ := hz
        replace HI := Lib.hid (HI.out.below hb)
        obtain ⟨q1, q2, q3, q4, q5⟩ := nat_ne (show ¬ n = 0 by omega)
        clear hq2 hb hne
        have hb := (Below.refl W2.heap.size W2).alloc (Nat.le_refl _) (.cells #[.int .u8 0, .int .u8 0, .slice none 0 0, .slice none 0 0] 39)
        replace HI := Lib.hid (HI.out.below hb)
        clear hb
        go_wp2_with fail
        go_ret2
        rw [HDN.out]
        exact ⟨rfl, HI.out.bel⟩
      | ok d =>
        have hmd := to_may hq2
        have HDN := Lib.hid hq2
        have HMD := Lib.hid hmd.1
        have HTD := Lib.hid (show ∀ t ∈ d.ts, t.size ≤ maxLen by rw [hmd.2]; exact HAT.out.txt)
        rw [hq2] at hz
        obtain ⟨A3, c3, C3, d3, rfl, ho1, ho2, hb⟩ := hz
        have HO1 := Lib.hid (ho1.less HWS.out)
        have HO2 := Lib.hid (ho2.less HWS.out)
        replace HI := Lib.hid (HI.out.below hb)
        clear hq2 hb hmd ho1 ho2
        unfold evV
        have hb := (Below.refl W2.heap.size W2).alloc (Nat.le_refl _) (.cells #[.int .u8 d.v, .int .u8 d.k, .slice A3 d.ns.length c3, .slice C3 d.ts.length d3] 39)
        have HL := Lib.hid (show Four _ W2.heap.size _ _ _ _ from box4 W2 (.int .u8 d.v) (.int .u8 d.k) (.slice A3 d.ns.length c3) (.slice C3 d.ts.length d3) 39)
        replace HI := Lib.hid (HI.out.below hb)
        replace HO1 := Lib.hid (HO1.out.below hb)
        replace HO2 := Lib.hid (HO2.out.below hb)
        clear hb
        go_upto_region 6 with (fail)
        generalize hWs : W2.heap.size = b8 at HL ⊢
        clear hWs
        generalize W2.alloc (.cells #[.int .u8 d.v, .int .u8 d.k, .slice A3 d.ns.length c3, .slice C3 d.ts.length d3] 39) = W3 at HL HI HO1 HO2 ⊢
        have hb3 := (Below.refl W3.heap.size W3).alloc (Nat.le_refl _) (.cells #[.int .u8 d.v, .int .u8 d.k, .slice A3 d.ns.length c3, .slice C3 d.ts.length d3] 39)
        replace HI := Lib.hid (HI.out.below hb3)
        replace HO1 := Lib.hid (HO1.out.below hb3)
        replace HO2 := Lib.hid (HO2.out.below hb3)
        clear hb3
        have HNEW := Lib.hid (lx_new W3 ⟨A3, c3, C3, d3, d⟩)
        have HYL := Lib.hid (show ys.length ≤ 1000000 by (have := HI.out.len; have := HN.out; omega))
        obtain ⟨l0, l1, l2, l3⟩ := HL.out
        go_wp2_with (at_builtin; refine wpList_append_ev rfl (.tmp 27) (.tmp 29) rfl w.heap.size _ ys rfl HI.out.own ⟨W3.heap.size, 0, none⟩ 1 ⟨A3, c3, C3, d3, d⟩ rfl HNEW.out ?c1 ?c2 ?_)
        case c1 => exact HYL.out
        case c2 => first | exact HI.out.bel.size | exact Nat.le_trans HI.out.bel.size (by simp)
        intro v' W5 hO hg
        have HI5 : Hid (SdI w (fun e => toX e v) es (i + 1) v' (ys ++ [⟨A3, c3, C3, d3, d⟩]) W5) := Lib.hid (sd_next HI.out hO hg (by rw [HGD.out]; exact HDN.out) HMD.out HTD.out HO1.out HO2.out)
        clear hO hg HI HNEW l0 l1 l2 l3 HL HO1 HO2
        go_wp2_with fail
        go_roundw
        case rel => exact ⟨i + 1, _, by have := HLT.out; omega, by go_num, HI5⟩
        case measure => simp [intOf] <;> (have := HLT.out; omega)
    case neg =>
      have z1 : ¬ (i : Int) < (xs.length : Int) := by omega
      obtain ⟨A', c', rfl, hva, -, -, -⟩ := HI.out.own.vat
      have HRW := Lib.hid (show Row wr A' ys from ⟨hva, fun y hy => (HI.out.ly y hy).lx⟩)
      have HDN := Lib.hid (show saidX (fun e => toX e v) es = .ok (ys.map (·.e)) by unfold saidX; rw [show es.length = i by rw [HEL.out]; omega]; exact HI.out.yes)
      clear hva hlt
      go_wp2_with fail
      go_ret2
      rw [HDN.out]
      exact ⟨ys, A', c', rfl, rfl, HRW.out, HI.out.bel⟩

/-! ### Say -/
end Go.Proofs.YtiibeemjkdipnaaGreatDoor.Batch
