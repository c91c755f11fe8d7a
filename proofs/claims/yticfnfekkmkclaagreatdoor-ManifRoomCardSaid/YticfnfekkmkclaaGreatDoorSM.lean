import Derived.Test.YticfnfekkmkclaaGreatDoorMO
import Derived.Test.YticfnfekkmkclaaGreatDoorDX
/-
  A swap on a disk whose power does not go. Plain mathematics.
-/
namespace Go.Proofs.YticfnfekkmkclaaGreatDoor.Manif
open Go Go.RowKit
open Go.Proofs.YticfnfekkmkclaaGreatDoor.Disk

theorem fresh_may : mayN fresh = true := by decide
theorem file_may : mayN file = true := by decide
theorem fresh_ne : ¬ fresh = file := by decide
/-- a disk that is up, whose power does not go -/
def Calm (d : Dk) : Prop := d.gone = false ∧ d.cut = false ∧ d.left = 0
theorem cntE_calm {d : Dk} (h : Calm d) : cntE d = 0 := by unfold cntE; rw [if_neg (by rw [h.2.1]; simp)]
theorem cntD_calm {d : Dk} (h : Calm d) (l : List (Nm × F)) : cntD d l = { d with l := l } := by
  unfold cntD; rw [if_neg (by rw [h.2.1]; simp), h.2.2]
/-- all files but the one that is being made -/
def rest (d : Dk) : List (Nm × F) := del fresh d.l
theorem away_calm {d : Dk} (h : Calm d) : awayD d = (0, { d with l := rest d }) := by
  have e : deleteD d fresh = (5, d) ∧ rest d = d.l ∨ deleteD d fresh = (0, { d with l := rest d }) := by
    unfold deleteD
    rw [if_neg (by rw [h.1]; simp)]
    cases hg : get d.l fresh with
    | none => exact Or.inl ⟨rfl, del_none hg⟩
    | some f => exact Or.inr (by show (cntE d, cntD d (del fresh d.l)) = _; rw [cntE_calm h, cntD_calm h]; rfl)
  unfold awayD
  rcases e with ⟨e, er⟩ | e
  · rw [e, if_pos rfl, er]
  · rw [e, if_neg (by show ¬ (0 : Nat) = 5; decide)]
theorem del_calm {d : Dk} (h : Calm d) : (deleteD d fresh).2 = { d with l := rest d } := by
  unfold deleteD
  rw [if_neg (by rw [h.1]; simp)]
  cases hg : get d.l fresh with
  | none => show d = _; rw [show rest d = d.l from del_none hg]
  | some f => show cntD d (del fresh d.l) = _; rw [cntD_calm h]; rfl
theorem rest_get {d : Dk} (hu : Up d.l) (n : Nm) : get (rest d) n = if n = fresh then none else get d.l n := get_del hu fresh n
/-- the disk behind a swap that is done -/
def doneD (s : List UInt8) (d : Dk) : Dk := { d with l := put file ⟨s, s.length⟩ (rest d) }
theorem swap_calm {d : Dk} (h : Calm d) (hu : Up d.l) (s : List UInt8) (hs : s.length ≤ 1048576) :
    swD s d = if 64 ≤ (rest d).length ∨ d.cap < used (rest d) + s.length then (44, { d with l := rest d }) else (0, doneD s d) := by
  have hr : Up (rest d) := hu.del fresh
  have hgr : get (rest d) fresh = none := by rw [rest_get hu, if_pos rfl]
  have c0 : Calm { d with l := rest d } := h
  have c1 : Calm { d with l := put fresh f0 (rest d) } := h
  have c2 : Calm { d with l := put fresh ⟨s, 0⟩ (put fresh f0 (rest d)) } := h
  have a1 := away_calm h
  have hp1 : Up (put fresh f0 (rest d)) := hr.put _ _
  have g1 : get (put fresh f0 (rest d)) fresh = some f0 := by rw [get_put hr, if_pos rfl]
  have hp2 : put fresh ⟨s, 0⟩ (put fresh f0 (rest d)) = put fresh ⟨s, 0⟩ (rest d) := put_put hr _ _ _
  have g2 : get (put fresh (⟨s, 0⟩ : F) (rest d)) fresh = some ⟨s, 0⟩ := by rw [get_put hr, if_pos rfl]
  have hp3 : put fresh (⟨s, s.length⟩ : F) (put fresh ⟨s, 0⟩ (rest d)) = put fresh ⟨s, s.length⟩ (rest d) := put_put hr _ _ _
  have g3 : get (put fresh (⟨s, s.length⟩ : F) (rest d)) fresh = some ⟨s, s.length⟩ := by rw [get_put hr, if_pos rfl]
  have u1 : used (put fresh f0 (rest d)) = used (rest d) := by
    have := tot_put hr (fun f => f.b.length) fresh f0
    rw [hgr] at this
    simpa [used, f0] using this
  have hend : del fresh (put file (⟨s, s.length⟩ : F) (put fresh ⟨s, s.length⟩ (rest d))) = put file ⟨s, s.length⟩ (rest d) := by
    refine get_ext (((hr.put _ _).put _ _).del _) (hr.put _ _) (fun n => ?_)
    rw [get_del ((hr.put _ _).put _ _), get_put (hr.put _ _), get_put hr, get_put hr]
    by_cases e1 : n = fresh
    · rw [if_pos e1, e1, if_neg fresh_ne, hgr]
    · rw [if_neg e1]
      by_cases e2 : n = file
      · rw [if_pos e2, if_pos e2]
      · rw [if_neg e2, if_neg e2, if_neg e1]
  have hback : ({ d with l := del fresh (rest d) } : Dk) = { d with l := rest d } := by rw [del_none hgr]
  have hback1 : ({ d with l := del fresh (put fresh f0 (rest d)) } : Dk) = { d with l := rest d } := by
    have : del fresh (put fresh f0 (rest d)) = rest d := by
      refine get_ext (hp1.del _) hr (fun n => ?_)
      rw [get_del hp1, get_put hr]
      by_cases e1 : n = fresh
      · rw [if_pos e1, e1, hgr]
      · rw [if_neg e1, if_neg e1]
    rw [this]
  by_cases hf : 64 ≤ (rest d).length
  · rw [if_pos (Or.inl hf)]
    have hrun : runD s d = (44, { d with l := rest d }) := by
      unfold runD swapL
      simp only [stepsD, a1]
      rw [if_pos trivial]
      have hc : createD { d with l := rest d } fresh = (44, { d with l := rest d }) := by
        unfold createD
        rw [if_neg (by rw [c0.1]; simp), if_neg (by rw [fresh_may]; simp), if_neg (by show ¬ (get (rest d) fresh).isSome = true; rw [hgr]; simp), if_pos hf]
      simp only [hc]
      rw [if_neg (by decide)]
    unfold swD
    rw [hrun, if_pos rfl, away_calm c0]
    show (if (0 : Nat) = 45 then 45 else 44, ({ d with l := del fresh (rest d) } : Dk)) = _
    rw [if_neg (by decide), hback]
  have hc : createD { d with l := rest d } fresh = (0, { d with l := put fresh f0 (rest d) }) := by
    unfold createD
    rw [if_neg (by rw [c0.1]; simp), if_neg (by rw [fresh_may]; simp), if_neg (by show ¬ (get (rest d) fresh).isSome = true; rw [hgr]; simp), if_neg hf, cntE_calm c0, cntD_calm c0]
  by_cases hu2 : d.cap < used (rest d) + s.length
  · rw [if_pos (Or.inr hu2)]
    have ha : appendD { d with l := put fresh f0 (rest d) } fresh s = (44, { d with l := put fresh f0 (rest d) }) := by
      unfold appendD
      rw [if_neg (by rw [c1.1]; simp)]
      show (match get (put fresh f0 (rest d)) fresh with | none => _ | some f => _) = _
      rw [g1]
      show (if 1048576 < f0.b.length + s.length ∨ d.cap < used (put fresh f0 (rest d)) + s.length then _ else _) = _
      rw [if_pos (Or.inr (by rw [u1]; exact hu2))]
    have hrun : runD s d = (44, { d with l := put fresh f0 (rest d) }) := by
      unfold runD swapL
      simp only [stepsD, a1]
      rw [if_pos trivial]
      simp only [hc]
      rw [if_pos trivial]
      simp only [ha]
      rw [if_neg (by decide)]
    unfold swD
    rw [hrun, if_pos rfl, away_calm c1]
    show (if (0 : Nat) = 45 then 45 else 44, ({ d with l := del fresh (put fresh f0 (rest d)) } : Dk)) = _
    rw [if_neg (by decide), hback1]
  · rw [if_neg (by rintro (h1 | h1); exact hf h1; exact hu2 h1)]
    have ha : appendD { d with l := put fresh f0 (rest d) } fresh s = (0, { d with l := put fresh ⟨s, 0⟩ (rest d) }) := by
      unfold appendD
      rw [if_neg (by rw [c1.1]; simp)]
      show (match get (put fresh f0 (rest d)) fresh with | none => _ | some f => _) = _
      rw [g1]
      show (if 1048576 < f0.b.length + s.length ∨ d.cap < used (put fresh f0 (rest d)) + s.length then _ else _) = _
      rw [if_neg (by rintro (h1 | h1); (have : f0.b.length = 0 := rfl; omega); (rw [u1] at h1; exact hu2 h1)), cntE_calm c1, cntD_calm c1]
      show (0, ({ d with l := put fresh ⟨[] ++ s, 0⟩ (put fresh f0 (rest d)) } : Dk)) = _
      rw [List.nil_append, hp2]
    have c3 : Calm { d with l := put fresh ⟨s, 0⟩ (rest d) } := h
    have hy : syncD { d with l := put fresh ⟨s, 0⟩ (rest d) } fresh = (0, { d with l := put fresh ⟨s, s.length⟩ (rest d) }) := by
      unfold syncD
      rw [if_neg (by rw [c3.1]; simp)]
      show (match get (put fresh (⟨s, 0⟩ : F) (rest d)) fresh with | none => _ | some f => _) = _
      rw [g2]
      show (cntE _, cntD _ (put fresh ⟨s, s.length⟩ (put fresh ⟨s, 0⟩ (rest d)))) = _
      rw [cntE_calm c3, cntD_calm c3, hp3]
    have c4 : Calm { d with l := put fresh ⟨s, s.length⟩ (rest d) } := h
    have hn : renameD { d with l := put fresh ⟨s, s.length⟩ (rest d) } fresh file = (0, doneD s d) := by
      unfold renameD
      rw [if_neg (by rw [c4.1]; simp)]
      show (match get (put fresh (⟨s, s.length⟩ : F) (rest d)) fresh with | none => _ | some f => _) = _
      rw [g3]
      show (if mayN file = false then _ else if fresh = file then _ else _) = _
      rw [if_neg (by rw [file_may]; simp), if_neg fresh_ne, cntE_calm c4, cntD_calm c4]
      unfold doneD
      show (0, ({ d with l := del fresh (put file ⟨s, s.length⟩ (put fresh ⟨s, s.length⟩ (rest d))) } : Dk)) = _
      rw [hend]
    have hrun : runD s d = (0, doneD s d) := by
      unfold runD swapL
      simp only [stepsD, a1]
      rw [if_pos trivial]
      simp only [hc]
      rw [if_pos trivial]
      simp only [ha]
      rw [if_pos trivial]
      simp only [hy]
      rw [if_pos trivial]
      simp only [hn]
      rw [if_pos trivial]
    unfold swD
    rw [hrun, if_neg (by show ¬ (0 : Nat) = 44; decide)]
end Go.Proofs.YticfnfekkmkclaaGreatDoor.Manif
