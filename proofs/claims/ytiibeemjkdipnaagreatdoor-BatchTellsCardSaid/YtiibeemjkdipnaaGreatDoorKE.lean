import Derived.Test.YtiibeemjkdipnaaGreatDoorKD
/-
  The walk of the statement BatchTells.
-/
namespace Go.Proofs.YtiibeemjkdipnaaGreatDoor.Batch
open Go Go.RowKit
open Go.Proofs.YtiibeemjkdipnaaGreatDoor.Schema
open Go.Proofs.YtiibeemjkdipnaaGreatDoor.Upcast (ev0)

theorem sameL_map {xs ys zs : List Lx} (h : ys.map (·.e) = xs.map (·.e)) : sameL ys zs = sameL xs zs := by
  rw [Bool.eq_iff_iff, sameL_iff, sameL_iff, h]
theorem sameL_like {xs ys : List Lx} (h : ys.map (·.e) = xs.map (·.e)) : sameL ys xs = true := sameL_iff.2 h
/-- what lies as it was throughout -/
structure TlI (w : World) (A : Option Addr) (xs : List Lx) (C : Option Addr) (ys : List Lx) (wr : World) : Prop where
  env : Env wr
  bel : Below w.heap.size w wr
  x : Row wr A xs
  y : Row wr C ys
theorem TlI.below {w : World} {A C : Option Addr} {xs ys : List Lx} {wr w' : World} (h : TlI w A xs C ys wr) (hb : Below wr.heap.size wr w') : TlI w A xs C ys w' := ⟨h.env.below hb, below_step h.bel hb, h.x.below hb, h.y.below hb⟩

set_option maxRecDepth 100000 in
set_option maxHeartbeats 4000000 in
theorem tells_any (A : Option Addr) (ca : Nat) (xs : List Lx) (C : Option Addr) (cc : Nat) (ys : List Lx) (v : Int) (w : World) (hx : Row w A xs) (lx : xs.length ≤ ca) (mx : ca ≤ maxLen) (nx : A = none → ca = 0) (rx : xs.length ≤ 2513169434917 ∧ ∀ z ∈ xs, Light z) (hy : Row w C ys) (ly : ys.length ≤ cc) (my : cc ≤ maxLen) (ny : C = none → cc = 0) (ry : ys.length ≤ 2513169434917 ∧ ∀ z ∈ ys, Light z) (wv : (Lit.int .u8 v).wf = true) (E : Env w) :
    Calls Tryz.prog 3 #[.slice A xs.length ca, .slice C ys.length cc, .int .u8 v] w fun z w' => z = .returned (.bool true) ∧ Below w.heap.size w w' := by
  have hvb := bounds_u8 wv
  obtain ⟨v, rfl⟩ := Int.eq_ofNat_of_zero_le hvb.1
  have HVB := Lib.hid (show v < 256 by omega)
  clear hvb wv
  have HI := Lib.hid (show TlI w A xs C ys w from ⟨E, Below.refl _ _, hx, hy⟩)
  have HRX := Lib.hid rx
  have HRY := Lib.hid ry
  have HBX := Lib.hid (fun x hx => ⟨by have := (rx.2 x hx).1; omega, by have := (rx.2 x hx).2; omega⟩ : Big xs)
  have HBY := Lib.hid (fun x hx => ⟨by have := (ry.2 x hx).1; omega, by have := (ry.2 x hx).2; omega⟩ : Big ys)
  clear E hx lx mx nx rx hy ly my ny ry
  go_enter Tryz.func3, Tryz.ntmps3
  have HW := Lib.hid (heavy_any A ca xs HRX.out.1 HRX.out.2 w HI.out.x)
  go_wp2_with (go_at_call 5; refine HW.out.mono ?_)
  rintro z W1 ⟨b1, rfl, hl1, hb⟩
  replace HI := Lib.hid (HI.out.below hb)
  clear hb HW
  cases b1 with
  | true =>
    clear hl1
    have HW := Lib.hid (works_any W1 HI.out.env)
    go_wp2_with (go_at_call 6; refine HW.out.mono ?_)
    rintro z W3 ⟨rfl, hb⟩
    replace HI := Lib.hid (HI.out.below hb)
    clear hb HW
    go_wp2_with fail
    go_ret
    exact ⟨rfl, HI.out.bel⟩
  | false =>
  have HLX := Lib.hid (hl1 rfl)
  clear hl1
  have HW := Lib.hid (heavy_any C cc ys HRY.out.1 HRY.out.2 W1 HI.out.y)
  go_wp2_with (go_at_call 5; refine HW.out.mono ?_)
  rintro z W2 ⟨b1, rfl, hl1, hb⟩
  replace HI := Lib.hid (HI.out.below hb)
  clear hb HW
  cases b1 with
  | true =>
    clear hl1
    have HW := Lib.hid (works_any W2 HI.out.env)
    go_wp2_with (go_at_call 6; refine HW.out.mono ?_)
    rintro z W3 ⟨rfl, hb⟩
    replace HI := Lib.hid (HI.out.below hb)
    clear hb HW
    go_wp2_with fail
    go_ret
    exact ⟨rfl, HI.out.bel⟩
  | false =>
  have HLY := Lib.hid (hl1 rfl)
  clear hl1
  have HW := Lib.hid (own_list A ca xs (by have := HLX.out; omega) HRX.out.2 W2 HI.out.x)
  go_wp2_with (go_at_call 7; refine HW.out.mono ?_)
  rintro z W3 ⟨ms, M, mc, rfl, hm, hme, -, -, hb⟩
  replace HI := Lib.hid (HI.out.below hb)
  have HM := Lib.hid hm
  have HME := Lib.hid hme
  have HML := Lib.hid (show ms.length = xs.length by have h := congrArg List.length hme; rwa [List.length_map, List.length_map] at h)
  have HBM := Lib.hid (fun m hm => (show m.e.ns.length ≤ 140737488355328 ∧ m.e.ts.length ≤ 140737488355328 from by
    have h1 : m.e ∈ xs.map (·.e) := by rw [← hme]; exact List.mem_map_of_mem hm
    obtain ⟨x, hx, h2⟩ := List.mem_map.1 h1
    rw [← h2]; exact HBX.out x hx) : Big ms)
  clear hb HW hm hme
  have hc := Encode_any M mc ms (by have := HLX.out; have := HML.out; omega) (fun x hx => (HBM.out x hx).1) W3 HM.out HI.out.env
  rw [HME.out] at hc
  have HW := Lib.hid hc
  clear hc
  go_wp2_with (go_at_call 8; refine HW.out.mono ?_)
  rintro z W4 ⟨rfl, hb⟩
  replace HI := Lib.hid (HI.out.below hb)
  replace HM := Lib.hid (HM.out.below hb)
  clear hb HW
  have HW := Lib.hid (rEncL_any A ca xs (by have := HLX.out; omega) W4 HI.out.x)
  go_wp2_with (go_at_call 9; refine HW.out.mono ?_)
  rintro z W5 ⟨rfl, hb⟩
  replace HI := Lib.hid (HI.out.below hb)
  replace HM := Lib.hid (HM.out.below hb)
  clear hb HW
  generalize encT (xs.map (·.e)) = s1
  generalize refN (xs.map (·.e)) = e1
  have hc := Say_any M mc ms v HVB.out (by have := HLX.out; have := HML.out; omega) (fun x hx => (HBM.out x hx).1) W5 HM.out HI.out.env
  rw [HME.out] at hc
  have HW := Lib.hid hc
  clear hc
  go_wp2_with (go_at_call 10; refine HW.out.mono ?_)
  rintro z W6 ⟨rfl, hb⟩
  replace HI := Lib.hid (HI.out.below hb)
  replace HM := Lib.hid (HM.out.below hb)
  clear hb HW
  have HW := Lib.hid (rSay_any A ca xs v HVB.out (by have := HLX.out; omega) W6 HI.out.x)
  go_wp2_with (go_at_call 11; refine HW.out.mono ?_)
  rintro z W7 ⟨rfl, hb⟩
  replace HI := Lib.hid (HI.out.below hb)
  replace HM := Lib.hid (HM.out.below hb)
  clear hb HW
  generalize sayT (xs.map (·.e)) v = s2
  generalize sayN (xs.map (·.e)) v = e2
  have hc := May_any M mc ms (by have := HLX.out; have := HML.out; omega) (fun x hx => (HBM.out x hx).1) W7 HM.out HI.out.env
  rw [HME.out] at hc
  have HW := Lib.hid hc
  clear hc
  go_wp2_with (go_at_call 12; refine HW.out.mono ?_)
  rintro z W8 ⟨rfl, hb⟩
  replace HI := Lib.hid (HI.out.below hb)
  replace HM := Lib.hid (HM.out.below hb)
  clear hb HW
  have HW := Lib.hid (rMayL_any A ca xs W8 HI.out.x)
  go_wp2_with (go_at_call 13; refine HW.out.mono ?_)
  rintro z W9 ⟨rfl, hb⟩
  replace HI := Lib.hid (HI.out.below hb)
  replace HM := Lib.hid (HM.out.below hb)
  clear hb HW
  generalize mayL (xs.map (·.e)) = bm
  have zb : (bm == bm) = true := beq_self_eq_true bm
  have zs1 : (s1.toList == s1.toList) = true := toList_self s1
  have zs2 : (s2.toList == s2.toList) = true := toList_self s2
  have hc := Same_any M mc ms C cc ys (by have := HLX.out; have := HML.out; omega) HBM.out HBY.out W9 HM.out HI.out.y
  rw [sameL_map HME.out] at hc
  have HW := Lib.hid hc
  clear hc
  go_wp2_with (go_at_call 14; refine HW.out.mono ?_)
  rintro z W10 ⟨rfl, hb⟩
  replace HI := Lib.hid (HI.out.below hb)
  replace HM := Lib.hid (HM.out.below hb)
  clear hb HW zb zs1 zs2
  have HW := Lib.hid (lsame_any A ca xs C cc ys (by have := HLX.out; omega) HBX.out W10 HI.out.x HI.out.y)
  go_wp2_with (go_at_call 15; refine HW.out.mono ?_)
  rintro z W11 ⟨rfl, hb⟩
  replace HI := Lib.hid (HI.out.below hb)
  replace HM := Lib.hid (HM.out.below hb)
  clear hb HW
  generalize sameL xs ys = bs
  have zb : (bs == bs) = true := beq_self_eq_true bs
  have hc := Same_any M mc ms A ca xs (by have := HLX.out; have := HML.out; omega) HBM.out HBX.out W11 HM.out HI.out.x
  rw [sameL_like HME.out] at hc
  have HW := Lib.hid hc
  clear hc
  go_wp2_with (go_at_call 14; refine HW.out.mono ?_)
  rintro z W12 ⟨rfl, hb⟩
  replace HI := Lib.hid (HI.out.below hb)
  replace HM := Lib.hid (HM.out.below hb)
  clear hb HW zb
  have hc := lsame_any M mc ms A ca xs (by have := HLX.out; have := HML.out; omega) HBM.out W12 HM.out HI.out.x
  rw [sameL_like HME.out] at hc
  have HW := Lib.hid hc
  clear hc
  go_wp2_with (go_at_call 15; refine HW.out.mono ?_)
  rintro z W13 ⟨rfl, hb⟩
  replace HI := Lib.hid (HI.out.below hb)
  clear hb HW
  have HW := Lib.hid (works_any W13 HI.out.env)
  go_wp2_with (go_at_call 6; refine HW.out.mono ?_)
  rintro z W14 ⟨rfl, hb⟩
  replace HI := Lib.hid (HI.out.below hb)
  clear hb HW
  go_wp2_with fail
  go_ret
  exact ⟨rfl, HI.out.bel⟩
end Go.Proofs.YtiibeemjkdipnaaGreatDoor.Batch
