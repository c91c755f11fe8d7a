import Derived.Test.YtiibeemjkdipnaaGreatDoorGLCut
import Derived.Test.YtiibeemjkdipnaaGreatDoorUO
/-
  Batches: what events may be one, its payload, what is read of a payload. Plain mathematics on the values.
-/
namespace Go.Proofs.YtiibeemjkdipnaaGreatDoor.Batch
open Go Go.RowKit
open Go.Proofs.YtiibeemjkdipnaaGreatDoor.Wire (fixB shortB be fxV shR tkI tkE tkT endE tk_is tk_cut tk_ok sh_is sh_cut sh_ok fixB_length be_fixB fixB_be size_list ba_ext scan_backB shR_le shortB_size sizeN sizeN_mono textB)
open Go.Proofs.YtiibeemjkdipnaaGreatDoor.Schema
open Go.Proofs.YtiibeemjkdipnaaGreatDoor.Codec (bare getW getE getI getF get_front get_back take_app one_back tall_range getI_le nsB tsB nsB_snoc textB_len fits_range may_lens may_text)
open Go.Proofs.YtiibeemjkdipnaaGreatDoor.Upcast (ev0 MayO may_out fits_out)

def vOf (l : List Ev) : Nat := (l.getD 0 ev0).v
def allB (l : List Ev) : List UInt8 := l.flatMap bare
/-- whether events may be a batch -/
def mayL (l : List Ev) : Bool := decide (1 ≤ l.length) && decide (l.length ≤ 40) && l.all fun e => decide (e.v = vOf l) && may e
/-- what is wrong with them -/
def refN (l : List Ev) : Nat := if 40 < l.length then 40 else if mayL l then 0 else 4
/-- their payload -/
def payB (l : List Ev) : List UInt8 := fixB 1 (vOf l) ++ (shortB l.length ++ allB l)
theorem mayL_out {l : List Ev} (h : mayL l = true) : 1 ≤ l.length ∧ l.length ≤ 40 ∧ (∀ e ∈ l, may e = true ∧ e.v = vOf l) ∧ 1 ≤ vOf l ∧ vOf l ≤ 3 := by
  unfold mayL at h
  simp only [Bool.and_eq_true, decide_eq_true_eq, List.all_eq_true] at h
  obtain ⟨⟨h1, h2⟩, h3⟩ := h
  have h0 : l.getD 0 ev0 ∈ l := by
    rw [List.getD_eq_getElem?_getD, List.getElem?_eq_getElem (by omega), Option.getD_some]
    exact List.getElem_mem _
  have hm := may_out (h3 _ h0).2
  exact ⟨h1, h2, fun e he => ⟨(h3 e he).2, (h3 e he).1⟩, hm.v1, hm.v3⟩
theorem mayL_in {l : List Ev} (h1 : 1 ≤ l.length) (h2 : l.length ≤ 40) (v : Nat) (h3 : ∀ e ∈ l, may e = true ∧ e.v = v) : mayL l = true ∧ vOf l = v := by
  have h0 : l.getD 0 ev0 ∈ l := by
    rw [List.getD_eq_getElem?_getD, List.getElem?_eq_getElem (by omega), Option.getD_some]
    exact List.getElem_mem _
  have hv : vOf l = v := (h3 _ h0).2
  refine ⟨?_, hv⟩
  unfold mayL
  simp only [Bool.and_eq_true, decide_eq_true_eq, List.all_eq_true]
  exact ⟨⟨h1, h2⟩, fun e he => ⟨by rw [hv]; exact (h3 e he).2, (h3 e he).1⟩⟩
theorem refN_zero {l : List Ev} : refN l = 0 ↔ mayL l = true := by
  unfold refN
  constructor
  · intro h
    by_cases h1 : 40 < l.length
    · rw [if_pos h1] at h; omega
    · rw [if_neg h1] at h
      by_cases h2 : mayL l = true
      · exact h2
      · rw [if_neg h2] at h; omega
  · intro h
    have := (mayL_out h).2.1
    rw [if_neg (by omega), if_pos h]
/-- the events that are read, one by one, and what is wrong at last -/
def runE (s : ByteArray) (v : Nat) : Nat → Nat → List Ev
  | 0, _ => []
  | n + 1, i => if getW s i 0 v = 0 then getE s i 0 v :: runE s v n (getI s i 0 v) else []
def runW (s : ByteArray) (v : Nat) : Nat → Nat → Nat
  | 0, i => endE s i 0
  | n + 1, i => if getW s i 0 v = 0 then runW s v n (getI s i 0 v) else getW s i 0 v
/-- what stands ahead of a batch's events -/
def hdV (s : ByteArray) : Nat := fxV s 0 0 1
def hd1 (s : ByteArray) : Nat := if tkE s 0 0 1 = 0 then (if 1 ≤ hdV s ∧ hdV s ≤ 3 then 0 else 43) else tkE s 0 0 1
def hdR (s : ByteArray) : Nat × Nat × Nat := shR s 1 0 40
def hdW (s : ByteArray) : Nat := if hd1 s = 0 then (if (hdR s).2.2 = 0 ∧ (hdR s).1 = 0 then 4 else (hdR s).2.2) else hd1 s
def hdN (s : ByteArray) : Nat := (hdR s).1
def hdI (s : ByteArray) : Nat := (hdR s).2.1
/-- what is wrong with a payload, the events that are told of it one by one, and its events -/
def btW (s : ByteArray) : Nat := if hdW s = 0 then runW s (hdV s) (hdN s) (hdI s) else hdW s
def okL (s : ByteArray) : List Ev := if hdW s = 0 then runE s (hdV s) (hdN s) (hdI s) else []
def btL (s : ByteArray) : List Ev := if btW s = 0 then okL s else []

theorem run_all (s : ByteArray) (v : Nat) : ∀ (n i : Nat), (runE s v n i).length ≤ n ∧ ∀ e ∈ runE s v n i, may e = true ∧ e.v = v
  | 0, i => ⟨Nat.le_refl _, fun e he => by cases he⟩
  | n + 1, i => by
    unfold runE
    by_cases h : getW s i 0 v = 0
    · rw [if_pos h]
      have ih := run_all s v n (getI s i 0 v)
      have hk := get_back h
      refine ⟨by rw [List.length_cons]; omega, fun e he => ?_⟩
      rcases List.mem_cons.1 he with rfl | he
      · exact ⟨hk.1, hk.2.1⟩
      · exact ih.2 e he
    · rw [if_neg h]
      exact ⟨Nat.zero_le _, fun e he => by cases he⟩
theorem run_back (s : ByteArray) (v : Nat) : ∀ (n i : Nat), i ≤ s.size → runW s v n i = 0 → (runE s v n i).length = n ∧ s.data.toList.drop i = allB (runE s v n i)
  | 0, i, hi, h => by
    refine ⟨rfl, ?_⟩
    have h1 : s.size ≤ i := by
      unfold runW endE at h
      by_cases hq : i < s.size
      · rw [if_pos ⟨rfl, hq⟩] at h; cases h
      · omega
    exact List.drop_of_length_le (by rw [size_list]; exact h1)
  | n + 1, i, hi, h => by
    unfold runW at h
    by_cases hg : getW s i 0 v = 0
    · rw [if_pos hg] at h
      obtain ⟨k1, k2, k3, k4, k5, k6⟩ := get_back hg
      obtain ⟨q1, q2⟩ := run_back s v n (getI s i 0 v) (by omega) h
      unfold runE
      rw [if_pos hg]
      refine ⟨by rw [List.length_cons, q1], ?_⟩
      show _ = allB (getE s i 0 v :: runE s v n (getI s i 0 v))
      rw [show allB (getE s i 0 v :: runE s v n (getI s i 0 v)) = bare (getE s i 0 v) ++ allB (runE s v n (getI s i 0 v)) from List.flatMap_cons, ← q2, k4, ← List.drop_drop]
      conv => lhs; rw [← List.take_append_drop (bare (getE s i 0 v)).length (s.data.toList.drop i), k3]
    · rw [if_neg hg] at h; exact absurd h hg

theorem hd_back {s : ByteArray} (h : hdW s = 0) : tkE s 0 0 1 = 0 ∧ 1 ≤ hdV s ∧ hdV s ≤ 3 ∧ (hdR s).2.2 = 0 ∧ 1 ≤ hdN s ∧ hdN s ≤ 40 ∧ hdI s ≤ s.size := by
  have h1 : hd1 s = 0 := by
    by_cases hq : hd1 s = 0
    · exact hq
    · unfold hdW at h; rw [if_neg hq] at h; exact h
  have h2 : tkE s 0 0 1 = 0 ∧ 1 ≤ hdV s ∧ hdV s ≤ 3 := by
    unfold hd1 at h1
    by_cases hq : tkE s 0 0 1 = 0
    · rw [if_pos hq] at h1
      by_cases hv : 1 ≤ hdV s ∧ hdV s ≤ 3
      · exact ⟨hq, hv.1, hv.2⟩
      · rw [if_neg hv] at h1; cases h1
    · rw [if_neg hq] at h1; exact absurd h1 hq
  obtain ⟨b1, b2, b3⟩ := one_back h2.1
  unfold hdW at h
  rw [if_pos h1] at h
  have h3 : (hdR s).2.2 = 0 ∧ (hdR s).1 ≠ 0 := by
    by_cases hq : (hdR s).2.2 = 0 ∧ (hdR s).1 = 0
    · rw [if_pos hq] at h; cases h
    · rw [if_neg hq] at h; exact ⟨h, fun hz => hq ⟨h, hz⟩⟩
  refine ⟨h2.1, h2.2.1, h2.2.2, h3.1, by unfold hdN; omega, Wire.shR_most s 1 0 40, shR_le s 1 0 40 (by omega)⟩
theorem dec_back {s : ByteArray} (h : btW s = 0) : mayL (okL s) = true ∧ payB (okL s) = s.data.toList ∧ btL s = okL s := by
  have hw : hdW s = 0 := by
    by_cases hq : hdW s = 0
    · exact hq
    · unfold btW at h; rw [if_neg hq] at h; exact h
  obtain ⟨h1, h2, h3, h4, h5, h6, h7⟩ := hd_back hw
  obtain ⟨b1, b2, b3⟩ := one_back h1
  have hE : okL s = runE s (hdV s) (hdN s) (hdI s) := if_pos hw
  have hrun : runW s (hdV s) (hdN s) (hdI s) = 0 := by unfold btW at h; rw [if_pos hw] at h; exact h
  obtain ⟨_, n, sz, q1, q2, q3⟩ := sh_ok h4
  have q3 : hdR s = (n, 1 + sz, 0) := q3
  have hN : hdN s = n := by unfold hdN; rw [q3]
  have hI : hdI s = 1 + sz := by unfold hdI; rw [q3]
  obtain ⟨p1, p2, p3⟩ := scan_backB q1
  obtain ⟨r1, r2⟩ := run_back s _ _ _ h7 hrun
  have r3 := (run_all s (hdV s) (hdN s) (hdI s)).2
  rw [← hE] at r1 r2 r3
  obtain ⟨m1, m2⟩ := mayL_in (by omega) (by omega) _ r3
  refine ⟨m1, ?_, if_pos h⟩
  unfold payB
  rw [m2, r1, ← r2, hN, hI, ← p3, ← List.drop_drop, List.take_append_drop, show fixB 1 (hdV s) = (s.data.toList.drop 0).take 1 from b1, List.drop_zero, List.take_append_drop]
theorem okL_all (s : ByteArray) : (okL s).length ≤ 40 ∧ ∀ e ∈ okL s, may e = true := by
  unfold okL
  by_cases h : hdW s = 0
  · rw [if_pos h]
    have hr := run_all s (hdV s) (hdN s) (hdI s)
    have := (hd_back h).2.2.2.2.2.1
    exact ⟨by omega, fun e he => (hr.2 e he).1⟩
  · rw [if_neg h]
    exact ⟨Nat.zero_le _, fun e he => by cases he⟩

/-! ### how long a payload is -/
def highs (v : Nat) (s : ByteArray) : Nat → Nat
  | 0 => 0
  | k + 1 => highs v s k + sizeN (bnd v (byteAt s k)).high.toNat
def longest (v k : Nat) : Nat := 1 + highs v (lets v k) (lets v k).size + (if tru k then 25 else 0)
theorem longest_all : ((List.range 4).all fun v => (List.range 24).all fun k => decide (longest v k ≤ 102)) = true := by decide +kernel
theorem nsB_high {v : Nat} {s : ByteArray} {ns : List Int} (hl : ns.length = s.size) (hf : ∀ j, j < s.size → fits v (byteAt s j) (ns.getD j 0) = true) : ∀ k, k ≤ s.size → (nsB (ns.take k)).length ≤ highs v s k
  | 0, _ => by rw [List.take_zero]; exact Nat.le_refl _
  | k + 1, hk => by
    rw [nsB_snoc ns k (by omega), List.length_append]
    have ih := nsB_high hl hf k (by omega)
    obtain ⟨f1, f2, f3⟩ := fits_out (hf k (by omega))
    have fr := fits_range (hf k (by omega))
    have hsz : (shortB (ns.getD k 0).toNat).length ≤ sizeN (bnd v (byteAt s k)).high.toNat := by
      rw [shortB_size _ (by omega)]
      exact sizeN_mono (by omega)
    unfold highs
    omega
theorem bare_le {e : Ev} (h : may e = true) : (bare e).length ≤ 102 := by
  have hm := may_out h
  have hr := tall_range hm.tl
  have h1 := nsB_high hm.ln hm.ft _ (Nat.le_refl _)
  rw [← hm.ln, List.take_length] at h1
  have h2 : longest e.v e.k ≤ 102 := of_decide_eq_true (List.all_eq_true.1 (List.all_eq_true.1 longest_all e.v (List.mem_range.2 (by omega))) e.k (List.mem_range.2 hr.2))
  have h3 : (tsB e.ts).length ≤ if tru e.k then 25 else 0 := by
    rcases Codec.mayT_is hm.nt with ⟨t1, t, t2, t3⟩ | ⟨t1, t2⟩
    · rw [t1, t2, Codec.tsB_one, textB_len, if_pos rfl]
      have := Codec.mayName_size t3
      have h4 : (shortB t.size).length = 1 := by rw [Wire.shortB_lt _ (by omega)]; rfl
      omega
    · rw [t1, t2]; exact Nat.zero_le _
  unfold longest at h2
  rw [hm.ln] at h1
  unfold bare
  rw [List.length_append, List.length_append, fixB_length]
  omega
theorem allB_le : ∀ (l : List Ev), (∀ e ∈ l, may e = true) → (allB l).length ≤ 102 * l.length
  | [], _ => Nat.le_refl _
  | e :: l, h => by
    rw [show allB (e :: l) = bare e ++ allB l from List.flatMap_cons, List.length_append, List.length_cons]
    have := bare_le (h e (List.mem_cons_self ..))
    have := allB_le l (fun x hx => h x (List.mem_cons_of_mem _ hx))
    omega
theorem payB_le {l : List Ev} (hm : mayL l = true) : 2 ≤ (payB l).length ∧ (payB l).length ≤ 4096 := by
  obtain ⟨m1, m2, m3, m4, m5⟩ := mayL_out hm
  have h := allB_le l (fun e he => (m3 e he).1)
  have h4 : (shortB l.length).length = 1 := by rw [Wire.shortB_lt _ (by omega)]; rfl
  unfold payB
  rw [List.length_append, List.length_append, fixB_length, h4]
  omega
end Go.Proofs.YtiibeemjkdipnaaGreatDoor.Batch
