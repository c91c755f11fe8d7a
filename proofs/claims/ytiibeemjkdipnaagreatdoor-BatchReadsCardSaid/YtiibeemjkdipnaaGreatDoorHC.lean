import Derived.Test.YtiibeemjkdipnaaGreatDoorHA
import Derived.Test.YtiibeemjkdipnaaGreatDoorHB
/-
  What stands ahead of a batch's events: head.
-/
namespace Go.Proofs.YtiibeemjkdipnaaGreatDoor.Batch
open Go Go.RowKit
open Go.Proofs.YtiibeemjkdipnaaGreatDoor.Wire (Rd Step U rdS fxV shR tkI tkE ru8_any err_any rShort_any grown_trans grown_drewN)
open Go.Proofs.YtiibeemjkdipnaaGreatDoor.Schema
open Go.Proofs.YtiibeemjkdipnaaGreatDoor.Codec (touch_step env_touch kinds_any one_back)

/-- what head promises -/
def HeadRes (r : Nat) (s : ByteArray) (w : World) (z : Ending) (w' : World) : Prop :=
  ∃ v n : Nat, z = .returned (.tuple #[.int .u8 (v : Int), .int .u64 (n : Int), .int .i64 (hdW s : Int)]) ∧ (hdW s = 0 → v = hdV s ∧ n = hdN s ∧ Rd w' r s (hdI s) 0) ∧ w.grownBy w' (some r)
theorem nat_ne {e : Nat} (h : ¬ e = 0) : ((e : Int) == 0) = false ∧ ((e : Int) != 0) = true ∧ (e == 0) = false ∧ (e != 0) = true ∧ ¬ (e : Int) = 0 := by
  refine ⟨beq_eq_false_iff_ne.2 (by omega), bne_iff_ne.2 (by omega), beq_eq_false_iff_ne.2 h, bne_iff_ne.2 h, by omega⟩

set_option maxRecDepth 100000 in
set_option maxHeartbeats 4000000 in
theorem head_any (r : Nat) (s : ByteArray) (w : World) (hr : Rd w r s 0 0) (hs : s.size ≤ 1000000000000) (h0 : 2 ≤ r) (E : Env w) :
    Calls Tryz.prog 62 #[.pointer (some ⟨r, 0, none⟩)] w (HeadRes r s w) := by
  have HR := Lib.hid hr
  have HG := Lib.hid (Wire.grown_refl w r)
  have HE := Lib.hid E
  have HW1 := Lib.hid (show hd1 s = if tkE s 0 0 1 = 0 then (if 1 ≤ hdV s ∧ hdV s ≤ 3 then 0 else 43) else tkE s 0 0 1 from rfl)
  have HW := Lib.hid (show hdW s = if hd1 s = 0 then (if (hdR s).2.2 = 0 ∧ (hdR s).1 = 0 then 4 else (hdR s).2.2) else hd1 s from rfl)
  have HVL := Lib.hid (show hdV s < 256 by have h := Wire.fxV_lt s 0 0 1; simpa [hdV] using h)
  clear hr E
  go_enter Tryz.func62, Tryz.ntmps62
  go_wp2_with fail
  refine (ru8_any r s 0 0 w HR.out (Nat.zero_le _) hs).mono ?_
  rintro z W1 ⟨rfl, hst⟩
  replace HE := Lib.hid (env_touch HE.out (touch_step hst) h0)
  replace HG := Lib.hid (grown_trans HG.out hst.2)
  replace HR := Lib.hid hst.1
  clear hst
  rw [show U (fxV s 0 0 1) = (hdV s : Int) from rfl]
  go_wp2_with fail
  refine (err_any r s _ _ W1 HR.out).mono ?_
  rintro z z1 ⟨rfl, nq, rfl⟩
  replace HE := Lib.hid (HE.out.below (below_dn W1.heap.size W1 nq))
  replace HG := Lib.hid (grown_drewN HG.out nq)
  replace HR := Lib.hid (show Rd (W1.drewN nq) r s _ _ from HR.out)
  generalize W1.drewN nq = W2 at HE HG HR ⊢
  by_cases hE : tkE s 0 0 1 = 0
  case neg =>
    have h1 : hd1 s = tkE s 0 0 1 := HW1.out.trans (if_neg hE)
    have h2 : hdW s = tkE s 0 0 1 := by rw [HW.out, if_neg (by rw [h1]; exact hE), h1]
    have HH := Lib.hid h2
    obtain ⟨q1, q2, q3, q4, q5⟩ := nat_ne hE
    clear hE HW HW1 h1 h2
    go_wp2_with fail
    refine bodyPost_ret (v := .tuple #[.int .u8 0, .int .u64 0, .int .i64 ((tkE s 0 0 1 : Nat) : Int)]) (by simp [results, Tryz.results62, go_sem]) rfl ?_
    exact ⟨0, 0, by rw [HH.out]; rfl, fun h => absurd (HH.out.symm.trans h) (by simpa using q3), HG.out⟩
  have hbk := one_back (s := s) (i := 0) hE
  rw [hE, hbk.2.1] at HR
  have HSZ := Lib.hid (show 1 ≤ s.size by omega)
  have hE1 : ((tkE s 0 0 1 : Nat) : Int) = 0 := by omega
  rw [hE1]
  have HW2 := Lib.hid (HW1.out.trans (if_pos hE))
  clear hE hE1 HW1 hbk
  go_wp2_with fail
  refine (kinds_any (hdV s) HVL.out W2 HE.out).mono ?_
  rintro z W3 ⟨A, n, cap, rfl, hn, hb⟩
  replace HE := Lib.hid (HE.out.below hb)
  replace HG := Lib.hid (grown_trans HG.out (Wire.grown_below hb))
  replace HR := Lib.hid ((hb.block r (Wire.row_lt HR.out)).trans HR.out)
  clear hb
  by_cases hv : 1 ≤ hdV s ∧ hdV s ≤ 3
  case neg =>
    have h1 : hd1 s = 43 := HW2.out.trans (if_neg hv)
    have h2 : hdW s = 43 := by rw [HW.out, if_neg (by rw [h1]; decide), h1]
    have HH := Lib.hid h2
    obtain rfl : n = 0 := hn.2 hv
    clear hv HW HW2 h1 h2 hn
    go_wp2_with fail
    refine bodyPost_ret (v := .tuple #[.int .u8 0, .int .u64 0, .int .i64 43]) (by simp [results, Tryz.results62, go_sem]) rfl ?_
    exact ⟨0, 0, by rw [HH.out]; rfl, fun h => absurd (HH.out.symm.trans h) (by decide), HG.out⟩
  have hn0 : ¬ n = 0 := fun h => absurd hv (hn.1 h)
  obtain ⟨q1, q2, q3, q4, q5⟩ := nat_ne hn0
  have h1 : hd1 s = 0 := HW2.out.trans (if_pos hv)
  have HW3 := Lib.hid (HW.out.trans (if_pos h1))
  clear hv HW HW2 h1 hn hn0
  go_wp2_with fail
  clear q1 q2 q3 q4 q5
  refine (rShort_any r s 1 0 40 W3 HR.out HSZ.out hs).mono ?_
  rintro z W4 ⟨rfl, hst⟩
  replace HE := Lib.hid (env_touch HE.out (touch_step hst) h0)
  replace HG := Lib.hid (grown_trans HG.out hst.2)
  replace HR := Lib.hid hst.1
  clear hst
  rw [show shR s 1 0 40 = hdR s from rfl] at HR ⊢
  rw [show U (hdR s).1 = ((hdR s).1 : Int) from rfl]
  go_wp2_with fail
  refine (err_any r s _ _ W4 HR.out).mono ?_
  rintro z z1 ⟨rfl, nq, rfl⟩
  replace HE := Lib.hid (HE.out.below (below_dn W4.heap.size W4 nq))
  replace HG := Lib.hid (grown_drewN HG.out nq)
  replace HR := Lib.hid (show Rd (W4.drewN nq) r s _ _ from HR.out)
  generalize W4.drewN nq = W5 at HE HG HR ⊢
  have HN := Lib.hid (show hdN s = (hdR s).1 from rfl)
  have HI := Lib.hid (show hdI s = (hdR s).2.1 from rfl)
  generalize (hdR s).1 = n1 at HR HW3 HN ⊢
  generalize (hdR s).2.1 = i1 at HR HI ⊢
  generalize (hdR s).2.2 = e1 at HR HW3 ⊢
  by_cases hE : e1 = 0
  case neg =>
    have h2 : hdW s = e1 := by rw [HW3.out, if_neg (fun h => hE h.1)]
    have HH := Lib.hid h2
    obtain ⟨q1, q2, q3, q4, q5⟩ := nat_ne hE
    clear hE HW3 h2
    go_wp2_with fail
    refine bodyPost_ret (v := .tuple #[.int .u8 (hdV s : Int), .int .u64 (n1 : Int), .int .i64 ((e1 : Nat) : Int)]) (by simp [results, Tryz.results62, go_sem]) rfl ?_
    exact ⟨hdV s, n1, by rw [HH.out], fun h => absurd (HH.out.symm.trans h) (by simpa using q3), HG.out⟩
  subst hE
  by_cases hn : n1 = 0
  · subst hn
    have HH := Lib.hid (show hdW s = 4 by rw [HW3.out, if_pos ⟨rfl, rfl⟩])
    clear HW3
    go_wp2_with fail
    refine bodyPost_ret (v := .tuple #[.int .u8 (hdV s : Int), .int .u64 0, .int .i64 4]) (by simp [results, Tryz.results62, go_sem]) rfl ?_
    exact ⟨hdV s, 0, by rw [HH.out]; rfl, fun h => absurd (HH.out.symm.trans h) (by decide), HG.out⟩
  · have HH := Lib.hid (show hdW s = 0 by rw [HW3.out, if_neg (fun h => hn h.2)])
    obtain ⟨q1, q2, q3, q4, q5⟩ := nat_ne hn
    clear HW3 hn
    go_wp2_with fail
    refine bodyPost_ret (v := .tuple #[.int .u8 (hdV s : Int), .int .u64 (n1 : Int), .int .i64 0]) (by simp [results, Tryz.results62, go_sem]) rfl ?_
    exact ⟨hdV s, n1, by rw [HH.out]; rfl, fun _ => ⟨rfl, HN.out.symm, by rw [HI.out]; exact HR.out⟩, HG.out⟩
end Go.Proofs.YtiibeemjkdipnaaGreatDoor.Batch
