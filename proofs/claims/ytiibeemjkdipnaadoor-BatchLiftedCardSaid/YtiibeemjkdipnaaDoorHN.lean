import Derived.Test.YtiibeemjkdipnaaDoorHL
import Derived.Test.YtiibeemjkdipnaaDoorUR
/-
  Batches, lifted and said: the mathematics; the law's lifted.
-/
namespace Go.Proofs.YtiibeemjkdipnaaDoor.Batch
open Go Go.RowKit
open Go.Proofs.YtiibeemjkdipnaaDoor.Schema
open Go.Proofs.YtiibeemjkdipnaaDoor.Upcast (ev0 lwX lw_out LwO lw_made to_new newE nwX toX newest_is to_yes isV dto dto_end new_v new_may Newest_ev Got new_newE getD_map)

theorem to_three {e d : Ev} (h : toX e 3 = .ok d) : d = newE e := by
  obtain ⟨h1, h2, h3⟩ := Upcast.to_out h
  rw [dto_end (by rw [new_v h1]; omega)] at h3
  injection h3 with h3
  exact h3.symm
/-- said in the newest version: each lifted -/
theorem low_three {l : List Ev} (hm : mayL l = true) : lwX l 3 = .ok (3, l.map newE) := by
  have ho := mayL_out hm
  have hg : ∀ i, i < l.length → may (l.getD i ev0) = true := fun i hi => by
    rw [List.getD_eq_getElem?_getD, List.getElem?_eq_getElem hi, Option.getD_some]
    exact (ho.2.2.1 _ (List.getElem_mem hi)).1
  obtain ⟨w, out, hl⟩ := lw_made (es := l) (v := 3) hg (by decide) (by decide)
  have hq := lw_out hl
  obtain rfl : w = 3 := by have := hq.vw; have := hq.w3; omega
  rw [hl]
  congr 2
  refine List.ext_getElem (by rw [List.length_map]; exact hq.len) (fun i h1 h2 => ?_)
  rw [List.length_map] at h2
  have h3 := hq.each i h2
  rw [List.getD_eq_getElem?_getD, List.getD_eq_getElem?_getD, List.getElem?_eq_getElem h1, List.getElem?_eq_getElem h2, Option.getD_some, Option.getD_some] at h3
  rw [List.getElem_map]
  exact to_three h3
theorem map_newE {l : List Ev} (hm : mayL l = true) : mayL (l.map newE) = true ∧ (l.map newE).map newE = l.map newE := by
  have h := low_mayL hm (low_three hm)
  refine ⟨h.1, ?_⟩
  have ho := mayL_out hm
  rw [List.map_map]
  apply List.map_congr_left
  intro e he
  exact new_newE (ho.2.2.1 e he).1
theorem say_three {l : List Ev} (hm : mayL l = true) : sayN l 3 = 0 ∧ sayT l 3 = Wire.S (payB (l.map newE)) := by
  unfold sayN sayT
  rw [if_pos (refN_zero.2 hm), if_pos (refN_zero.2 hm), low_three hm]
  exact ⟨rfl, rfl⟩
theorem new_pay {l : List Ev} (hm : mayL l = true) : newN (Wire.S (payB l)) = 0 ∧ newT (Wire.S (payB l)) = Wire.S (payB (l.map newE)) := by
  obtain ⟨h1, h2⟩ := dec_pay hm
  unfold newN newT
  rw [if_pos h1, if_pos h1, h2]
  exact say_three hm

set_option maxRecDepth 100000 in
set_option maxHeartbeats 2000000 in
theorem lifted_yes (A : Option Addr) (ca : Nat) (xs : List Lx) (C : Option Addr) (cc : Nat) (ys : List Lx) (hn : xs.length ≤ 1000000) (hl : xs.length = ys.length) (hm : ∀ x ∈ xs, may x.e = true) (hq : ∀ (i : Nat) (h1 : i < xs.length) (h2 : i < ys.length), ys[i].e = newE xs[i].e) (w : World) (hX : Row w A xs) (hY : Row w C ys) (E : Env w) :
    Calls Tryd.prog 20 #[.slice A xs.length ca, .slice C ys.length cc] w fun z w' => z = .returned (.bool true) ∧ Below w.heap.size w w' := by
  have HX := Lib.hid hX
  have HY := Lib.hid hY
  have HN := Lib.hid hn
  have HE := Lib.hid E
  have HM := Lib.hid hm
  have HQ := Lib.hid hq
  have HL := Lib.hid hl
  rw [show ys.length = xs.length from hl.symm]
  clear hX hY hn hm hq hl E
  go_enter Tryd.func20, Tryd.ntmps20
  have z3 : ((xs.length : Int) != (xs.length : Int)) = false := by rw [int_ne, decide_eq_true rfl]; rfl
  go_wp2_with fail
  clear z3
  have HI : Hid (Below w.heap.size w w) := Below.refl _ _
  go_loopw [5] (fun t wr => ∃ i : Nat, t = .int .i64 i ∧ i ≤ xs.length ∧ Hid (Below w.heap.size w wr)) (fun t _ => xs.length - (intOf t).toNat)
  case atStart => exact ⟨0, rfl, Nat.zero_le _, HI⟩
  case round =>
    obtain ⟨i, rfl, hi, HB⟩ := hrel
    clear HI
    by_cases hlt : i < xs.length
    · have z0 : (0 : Int) ≤ (i : Int) := by omega
      have z1 : (i : Int) < (xs.length : Int) := by omega
      have hlt2 : i < ys.length := by rw [← HL.out]; exact hlt
      have HMX := Lib.hid (HM.out _ (List.getElem_mem hlt))
      have HQX := Lib.hid (HQ.out i hlt hlt2)
      have HYI := Lib.hid (fun V (hV : Below w.heap.size w V) => (HY.out.below hV).at i hlt2)
      obtain ⟨b, o, rfl, hbl, c0, c1, c2, c3, hat⟩ := (HX.out.below HB.out).at i hlt
      have HAT := Lib.hid hat
      generalize xs[i] = x at HAT HMX HQX c0 c1 c2 c3
      generalize ys[i] = y at HQX HYI
      have HC := Lib.hid (Newest_ev (A := x.A) (ca := x.ca) (C := x.C) (cc := x.cc) (e := x.e) (by have := (Codec.may_lens HMX.out).1; omega) HAT.out (HE.out.below HB.out))
      unfold evV at HC
      clear hbl hat hlt2
      go_wp2_with fail
      clear c0 c1 c2 c3
      refine HC.out.mono ?_
      rintro z V1 ⟨u, n, A1, c1, C1, d1, rfl, hev, hsm, hgot, hb⟩
      obtain ⟨rfl, rfl⟩ := hgot.of (newest_is HMX.out)
      replace HB := Lib.hid (below_step HB.out hb)
      have HU := Lib.hid hev
      have HS := Lib.hid hsm
      clear hb hev hsm hgot
      unfold evV
      go_upto_region 7 with (fail)
      have hb := (Below.refl V1.heap.size V1).alloc (Nat.le_refl _) (.cells #[.int .u8 (newE x.e).v, .int .u8 (newE x.e).k, .slice A1 (newE x.e).ns.length c1, .slice C1 (newE x.e).ts.length d1] 27)
      have hp := box4 V1 (.int .u8 (newE x.e).v) (.int .u8 (newE x.e).k) (.slice A1 (newE x.e).ns.length c1) (.slice C1 (newE x.e).ts.length d1) 27
      replace HB := Lib.hid (below_step HB.out hb)
      replace HU := Lib.hid (HU.out.below hb)
      obtain ⟨p0, p1, p2, p3⟩ := hp
      generalize hW2 : V1.alloc (.cells #[.int .u8 (newE x.e).v, .int .u8 (newE x.e).k, .slice A1 (newE x.e).ns.length c1, .slice C1 (newE x.e).ts.length d1] 27) = V2 at HB HU p0 p1 p2 p3 ⊢
      generalize V1.heap.size = bx at p0 p1 p2 p3 ⊢
      clear hW2 hb
      obtain ⟨b2, o2, rfl, hbl2, d0, d1', d2, d3, hat2⟩ := HYI.out V2 HB.out
      have hc := sameE_any A1 c1 C1 d1 (newE x.e) y.A y.ca y.C y.cc y.e (by have := HS.out.1; omega) (by have := HS.out.2; omega) V2.drew (HU.out.below (below_drew _ _)) (hat2.below (below_drew _ _))
      rw [show same (newE x.e) y.e = true by rw [HQX.out]; exact Upcast.same_self _] at hc
      have HC2 := Lib.hid hc
      unfold evV at HC2
      clear hbl2 hat2 hc HC HYI HU
      go_region_with (refine HC2.out.mono ?_; rintro z V3 ⟨rfl, hbV⟩; have HBV := Lib.hid hbV; clear hbV)
      all_goals
        have HB3 := Lib.hid (below_step HB.out ((below_drew V2.heap.size V2).trans HBV.out))
        have zk : IntKind.i64.wrap ((i : Int) + 1) = (i : Int) + 1 := by (rw [IntKind.wrap_i64]; have := HN.out; omega)
        clear p0 p1 p2 p3 d0 d1' d2 d3 z0 z1
        go_wp2_with fail
        go_roundw
        case rel => exact ⟨i + 1, by go_num, by omega, HB3⟩
        case measure => simp [intOf] <;> omega
    · have z1 : ¬ (i : Int) < (xs.length : Int) := by omega
      go_wp2_with fail
      go_ret
      exact ⟨rfl, HB.out⟩
end Go.Proofs.YtiibeemjkdipnaaDoor.Batch
