import Derived.Test.YticfnfekkmkclaaGreatDoorB12
import Derived.Test.YticfnfekkmkclaaGreatDoorW8
/-
  Manifests: whether one may be; Size, May.
-/
namespace Go.Proofs.YticfnfekkmkclaaGreatDoor.Manif
open Go Go.RowKit
open Go.Proofs.YticfnfekkmkclaaGreatDoor.Wire (cell_row frozen_row row_lt)

/-- segments in memory -/
def RowE (w : World) (A : Option Addr) (l : List (Int × Int)) : Prop := ∀ k (h : k < l.length), ∃ b o, A = some ⟨b, o, none⟩ ∧ b < w.heap.size ∧ w.cell? ⟨b, o + k * 2, none⟩ = some (.int .i64 (l[k]).1) ∧ w.cell? ⟨b, o + k * 2 + 1, none⟩ = some (.int .i64 (l[k]).2)
theorem RowE.below {w w' : World} {A : Option Addr} {l : List (Int × Int)} (h : RowE w A l) (hb : Below w.heap.size w w') : RowE w' A l := fun k hk => by
  obtain ⟨b, o, e, h1, h2, h3⟩ := h k hk
  exact ⟨b, o, e, Nat.lt_of_lt_of_le h1 hb.size, (hb.cell (p := ⟨b, o + k * 2, none⟩) h1).trans h2, (hb.cell (p := ⟨b, o + k * 2 + 1, none⟩) h1).trans h3⟩
/-- how many bytes a manifest of so many segments has -/
def szM (n : Int) : Int := if 1 ≤ n ∧ n ≤ 64 then 18 + 16 * n else 0
theorem Size_any (n : Int) (w : World) : Calls Tryz.prog 19 #[.int .i64 n] w fun e w' => e = .returned (.int .i64 (szM n)) ∧ w = w' := by
  unfold szM
  by_cases h : 1 ≤ n ∧ n ≤ 64
  · rw [if_pos h]
    have k1 : decide (n < 1) = false := decide_eq_false (by omega)
    have k2 : decide (64 < n) = false := decide_eq_false (by omega)
    have H1 := Lib.hid (show wrap64 (18 + wrap64 (16 * n)) = 18 + 16 * n by rw [IntWalk.wrap64_in (16 * n) ⟨by omega, by omega⟩, IntWalk.wrap64_in _ ⟨by omega, by omega⟩])
    clear h
    go_enter Tryz.func19, Tryz.ntmps19
    have h1 := H1.out
    go_wp2_with fail
    go_ret
    exact ⟨by first | rfl | simp [H1.out], rfl⟩
  · rw [if_neg h]
    by_cases h1 : n < 1
    · have k1 : decide (n < 1) = true := decide_eq_true h1
      clear h
      go_enter Tryz.func19, Tryz.ntmps19
      go_wp2_with fail
      go_ret
      exact ⟨rfl, rfl⟩
    · have k1 : decide (n < 1) = false := decide_eq_false h1
      have k2 : decide (64 < n) = true := decide_eq_true (by omega)
      clear h
      go_enter Tryz.func19, Tryz.ntmps19
      go_wp2_with fail
      go_ret
      exact ⟨rfl, rfl⟩
/-- may segments be, behind a first batch, of a generation? -/
def mayS (g : Int) : Int → List (Int × Int) → Bool
  | _, [] => true
  | L, p :: r => decide (0 ≤ p.1 ∧ p.1 ≤ g ∧ L < p.2 ∧ p.2 ≤ 1048576) && mayS g p.2 r
/-- may a manifest be? -/
def mayM (g : Int) (l : List (Int × Int)) : Bool := decide (0 ≤ g ∧ g ≤ 99999999 ∧ 1 ≤ l.length ∧ l.length ≤ 64) && mayS g (-1) l
theorem mayS_drop (g L : Int) (l : List (Int × Int)) (j : Nat) (h : j < l.length) : mayS g L (l.drop j) = (decide (0 ≤ (l[j]).1 ∧ (l[j]).1 ≤ g ∧ L < (l[j]).2 ∧ (l[j]).2 ≤ 1048576) && mayS g (l[j]).2 (l.drop (j + 1))) := by
  rw [List.drop_eq_getElem_cons h, mayS]
theorem szM_zero (n : Nat) : (szM (n : Int) = 0) ↔ ¬ (1 ≤ n ∧ n ≤ 64) := by
  unfold szM
  constructor
  · intro h hh
    rw [if_pos (by omega)] at h; omega
  · intro h
    rw [if_neg (by omega)]
set_option maxRecDepth 100000 in
set_option maxHeartbeats 2000000 in
/-- **May** -/
theorem May_any (w : World) (g : Int) (A : Option Addr) (cap : Nat) (l : List (Int × Int)) (hl : l.length ≤ maxLen) (hx : RowE w A l) :
    Calls Tryz.prog 13 #[.agg #[.int .i64 g, .slice A l.length cap]] w fun e w' => e = .returned (.bool (mayM g l)) ∧ Below w.heap.size w w' := by
  have HSZ := Lib.hid (fun W => Size_any (l.length : Int) W)
  obtain ⟨w0, hw0⟩ : ∃ w0, w.alloc (.cells #[.int .i64 g, .slice A l.length cap] 25) = w0 := ⟨_, rfl⟩
  have hb0 : Below w.heap.size w w0 := by rw [← hw0]; exact (Below.refl _ _).alloc (Nat.le_refl _) _
  have hm0 : w0.heap[w.heap.size]? = some (.cells #[.int .i64 g, .slice A l.length cap] 25 (0, 0)) := by rw [← hw0]; exact heap_alloc_new w _
  have HB0 := Lib.hid hb0
  have HM0 := Lib.hid hm0
  have HX := Lib.hid hx
  have HW0 := Lib.hid hw0
  have HL := Lib.hid hl
  have c0 : w0.cell? ⟨w.heap.size, 0, none⟩ = some (.int .i64 g) := cell_row hm0 0
  have c1 : w0.cell? ⟨w.heap.size, 1, none⟩ = some (.slice A l.length cap) := cell_row hm0 1
  clear hb0 hm0 hx hl
  by_cases h1 : g < 0
  · have hV : mayM g l = false := by unfold mayM; rw [decide_eq_false (by omega)]; rfl
    have k1 : decide (g < 0) = true := decide_eq_true h1
    have HV := Lib.hid hV
    clear hV hw0
    go_enter Tryz.func13, Tryz.ntmps13
    go_wp2_with fail
    go_ret
    exact ⟨by rw [HV.out]; rfl, by rw [HW0.out]; exact HB0.out⟩
  have k1 : decide (g < 0) = false := decide_eq_false h1
  by_cases h2 : 99999999 < g
  · have hV : mayM g l = false := by unfold mayM; rw [decide_eq_false (by omega)]; rfl
    have k2 : decide (99999999 < g) = true := decide_eq_true h2
    have HV := Lib.hid hV
    clear hV hw0
    go_enter Tryz.func13, Tryz.ntmps13
    go_wp2_with fail
    go_ret
    exact ⟨by rw [HV.out]; rfl, by rw [HW0.out]; exact HB0.out⟩
  have k2 : decide (99999999 < g) = false := decide_eq_false h2
  by_cases h3 : 1 ≤ l.length ∧ l.length ≤ 64
  case neg =>
    have hV : mayM g l = false := by unfold mayM; rw [decide_eq_false (by omega)]; rfl
    have hz : szM (l.length : Int) = 0 := (szM_zero _).2 h3
    rw [hz] at HSZ
    have HV := Lib.hid hV
    clear hV h3 hz
    go_enter Tryz.func13, Tryz.ntmps13
    go_wp2_with fail
    refine (HSZ.out w0).mono ?_
    rintro e w1 ⟨rfl, rfl⟩
    go_wp2_with fail
    go_ret
    exact ⟨by rw [HV.out]; rfl, HB0.out⟩
  have hz : ¬ szM (l.length : Int) = 0 := fun h => (szM_zero _).1 h h3
  have HV := Lib.hid (show mayM g l = mayS g (-1) l by unfold mayM; rw [decide_eq_true (by omega)]; rfl)
  have k4 : (szM (l.length : Int) == 0) = false := beq_eq_false_iff_ne.2 hz
  have HL3 := Lib.hid h3
  generalize szM (l.length : Int) = Z at *
  clear h1 h2 h3
  go_enter Tryz.func13, Tryz.ntmps13
  go_wp2_with fail
  refine (HSZ.out w0).mono ?_
  rintro e w1 ⟨rfl, rfl⟩
  clear hw0
  go_wp2_with fail
  have HBB := Lib.hid (Below.refl (w.heap.size + 1) w0)
  clear c0 c1 k1 k2 k4 hz
  go_loopw [3, 24] (fun x y wr => ∃ (j : Nat) (L : Int), j ≤ l.length ∧ x = .int .i64 L ∧ y = .int .i64 (j : Int) ∧ Hid (mayS g (-1) l = mayS g L (l.drop j)) ∧ Hid (Below (w.heap.size + 1) w0 wr)) (fun _ y _ => l.length - (intOf y).toNat)
  case atStart => exact ⟨0, -1, Nat.zero_le _, rfl, rfl, Lib.hid (by rw [List.drop_zero]), HBB⟩
  case round =>
    clear HBB
    obtain ⟨j, L, hj, rfl, rfl, HS, HB⟩ := hrel
    have hm : wr.heap[w.heap.size]? = some (.cells #[.int .i64 g, .slice A l.length cap] 25 (0, 0)) := (HB.out.block _ (Nat.lt_succ_self _)).trans HM0.out
    have c0 : wr.cell? ⟨w.heap.size, 0, none⟩ = some (.int .i64 g) := cell_row hm 0
    have c1 : wr.cell? ⟨w.heap.size, 1, none⟩ = some (.slice A l.length cap) := cell_row hm 1
    have HMR := Lib.hid hm
    have HWB := Lib.hid (HB0.out.trans (HB.out.mono (Nat.le_succ _)))
    have HSZR := Lib.hid (row_lt hm)
    clear hm
    by_cases hlt : j < l.length
    · have e1 : decide ((j : Int) < (l.length : Int)) = true := decide_eq_true (by omega)
      obtain ⟨B, o, rfl, hb, d0, d1⟩ := HX.out.below HWB.out j hlt
      have HST := Lib.hid (mayS_drop g L l j hlt)
      have HLT := Lib.hid hlt
      have HI1 := Lib.hid (show wrap64 ((j : Int) + 1) = (j : Int) + 1 from IntWalk.wrap64_in _ ⟨by omega, by have := HL3.out; omega⟩)
      generalize (l[j]'hlt).1 = x at *
      generalize (l[j]'hlt).2 = y at *
      obtain ⟨w5, hw5⟩ : ∃ w5, wr.alloc (.cells #[.int .i64 x, .int .i64 y] 27) = w5 := ⟨_, rfl⟩
      have hb5 : Below wr.heap.size wr w5 := by rw [← hw5]; exact (Below.refl _ _).alloc (Nat.le_refl _) _
      have hm5 : w5.heap[w.heap.size]? = some (.cells #[.int .i64 g, .slice (some ⟨B, o, none⟩) l.length cap] 25 (0, 0)) := (hb5.block _ HSZR.out).trans HMR.out
      have he5 : w5.heap[wr.heap.size]? = some (.cells #[.int .i64 x, .int .i64 y] 27 (0, 0)) := by rw [← hw5]; exact heap_alloc_new wr _
      have g0 : w5.cell? ⟨w.heap.size, 0, none⟩ = some (.int .i64 g) := cell_row hm5 0
      have g1 : w5.cell? ⟨wr.heap.size, 0, none⟩ = some (.int .i64 x) := cell_row he5 0
      have g2 : w5.cell? ⟨wr.heap.size, 1, none⟩ = some (.int .i64 y) := cell_row he5 1
      have HB5 := Lib.hid (HB.out.trans (hb5.mono HSZR.out))
      have HW5 := Lib.hid hw5
      clear hb5 hm5 he5 hj
      by_cases hok : 0 ≤ x ∧ x ≤ g ∧ L < y ∧ y ≤ 1048576
      · as_aux_lemma =>
          have HN := Lib.hid (show mayS g (-1) l = mayS g y (l.drop (j + 1)) by rw [HS.out, HST.out, decide_eq_true hok]; rfl)
          have m1 : decide (x < 0) = false := decide_eq_false (by omega)
          have m2 : decide (g < x) = false := decide_eq_false (by omega)
          have m3 : decide (y ≤ L) = false := decide_eq_false (by omega)
          have m4 : decide (1048576 < y) = false := decide_eq_false (by omega)
          clear hok
          go_wp2_with fail
          clear m1 m2 m3 m4 g0 g1 g2 d0 d1 c0 c1 hw5
          go_roundw
          case rel => exact ⟨j + 1, y, HLT.out, rfl, by rw [HI1.out]; rfl, HN, HB5⟩
          case measure =>
            rw [HI1.out]
            show l.length - ((j : Int) + 1).toNat < l.length - (j : Int).toNat
            have := HLT.out; omega
      · have HF := Lib.hid (show mayM g l = false by rw [HV.out, HS.out, HST.out, decide_eq_false hok]; rfl)
        have HBZ := Lib.hid (HB0.out.trans (HB5.out.mono (Nat.le_succ _)))
        by_cases a1 : x < 0
        · as_aux_lemma =>
            have m1 : decide (x < 0) = true := decide_eq_true a1
            clear hok
            go_wp2_with fail
            go_ret
            exact ⟨by rw [HF.out]; rfl, HBZ.out⟩
        have m1 : decide (x < 0) = false := decide_eq_false a1
        by_cases a2 : g < x
        · as_aux_lemma =>
            have m2 : decide (g < x) = true := decide_eq_true a2
            clear hok
            go_wp2_with fail
            go_ret
            exact ⟨by rw [HF.out]; rfl, HBZ.out⟩
        have m2 : decide (g < x) = false := decide_eq_false a2
        by_cases a3 : y ≤ L
        · as_aux_lemma =>
            have m3 : decide (y ≤ L) = true := decide_eq_true a3
            clear hok
            go_wp2_with fail
            go_ret
            exact ⟨by rw [HF.out]; rfl, HBZ.out⟩
        have m3 : decide (y ≤ L) = false := decide_eq_false a3
        · as_aux_lemma =>
            have m4 : decide (1048576 < y) = true := decide_eq_true (by omega)
            clear hok
            go_wp2_with fail
            go_ret
            exact ⟨by rw [HF.out]; rfl, HBZ.out⟩
    · as_aux_lemma =>
        have e1 : decide ((j : Int) < (l.length : Int)) = false := decide_eq_false (by omega)
        have HF := Lib.hid (show mayM g l = true by rw [HV.out, HS.out, List.drop_of_length_le (by omega)]; rfl)
        clear hj
        go_wp2_with fail
        go_ret
        exact ⟨by rw [HF.out]; rfl, HWB.out⟩
end Go.Proofs.YticfnfekkmkclaaGreatDoor.Manif

/-
  Manifests: their bytes; Make.
-/
namespace Go.Proofs.YticfnfekkmkclaaGreatDoor.Manif
open Go Go.RowKit
open Go.Proofs.YticfnfekkmkclaaGreatDoor.Wire (S S_list S_size cell_row frozen_row row_lt fixB fixB_length U Wr Only raw_any u64_any u16_any bytes_any)
open Go.Proofs.YticfnfekkmkclaaGreatDoor.Crc (sealS sealS_list sealS_size seal_any)

/-- the bytes of segments -/
def enB : List (Int × Int) → List UInt8
  | [] => []
  | p :: r => fixB 8 p.1.toNat ++ (fixB 8 p.2.toNat ++ enB r)
theorem enB_append (a b : List (Int × Int)) : enB (a ++ b) = enB a ++ enB b := by
  induction a with
  | nil => rfl
  | cons p r ih => rw [List.cons_append, enB, enB, ih]; simp [List.append_assoc]
theorem enB_length (l : List (Int × Int)) : (enB l).length = 16 * l.length := by
  induction l with
  | nil => rfl
  | cons p r ih => rw [enB, List.length_append, List.length_append, fixB_length, fixB_length, ih, List.length_cons]; omega
theorem enB_take (l : List (Int × Int)) (j : Nat) (h : j < l.length) : enB (l.take (j + 1)) = enB (l.take j) ++ fixB 8 (l[j]).1.toNat ++ fixB 8 (l[j]).2.toNat := by
  rw [List.take_succ_eq_append_getElem h, enB_append, enB, enB]; simp [List.append_assoc]
def word : List UInt8 := [109, 97, 110, 49]
/-- a manifest's bytes, less the checksum -/
def bareM (g : Int) (l : List (Int × Int)) : List UInt8 := word ++ fixB 8 g.toNat ++ fixB 2 l.length ++ enB l
theorem bareM_length (g : Int) (l : List (Int × Int)) : (bareM g l).length = 14 + 16 * l.length := by
  unfold bareM; rw [List.length_append, List.length_append, List.length_append, fixB_length, fixB_length, enB_length]; show 4 + 8 + 2 + _ = _; omega
theorem mayS_at {g : Int} : ∀ {l : List (Int × Int)} {L : Int}, mayS g L l = true → -1 ≤ L → ∀ j (h : j < l.length), 0 ≤ (l[j]).1 ∧ (l[j]).1 ≤ g ∧ L < (l[j]).2 ∧ (l[j]).2 ≤ 1048576
  | [], _, _, _, j, h => absurd h (Nat.not_lt_zero _)
  | p :: r, L, hm, hL, j, h => by
    rw [mayS, Bool.and_eq_true, decide_eq_true_iff] at hm
    obtain ⟨h1, h2⟩ := hm
    cases j with
    | zero => exact h1
    | succ j =>
      have := mayS_at h2 (by omega) j (by simpa using h)
      rw [List.getElem_cons_succ]
      exact ⟨this.1, this.2.1, by omega, this.2.2.2⟩
theorem mayM_parts {g : Int} {l : List (Int × Int)} (h : mayM g l = true) : 0 ≤ g ∧ g ≤ 99999999 ∧ 1 ≤ l.length ∧ l.length ≤ 64 ∧ ∀ j (h : j < l.length), 0 ≤ (l[j]).1 ∧ (l[j]).1 ≤ g ∧ 0 ≤ (l[j]).2 ∧ (l[j]).2 ≤ 1048576 := by
  unfold mayM at h
  rw [Bool.and_eq_true, decide_eq_true_iff] at h
  obtain ⟨⟨h1, h2, h3, h4⟩, h5⟩ := h
  refine ⟨h1, h2, h3, h4, fun j hj => ?_⟩
  have := mayS_at h5 (by omega) j hj
  exact ⟨this.1, this.2.1, by omega, this.2.2.2⟩
/-- what Make tells -/
def mkS (g : Int) (l : List (Int × Int)) : ByteArray := if mayM g l = true then sealS (S (bareM g l)) else ⟨#[]⟩
def mkX (g : Int) (l : List (Int × Int)) : Nat := if mayM g l = true then 0 else 4
theorem u64_of (x : Int) (h0 : 0 ≤ x) (h1 : x ≤ 100000000) : IntKind.u64.wrap x = U x.toNat ∧ x % 18446744073709551616 = U x.toNat ∧ U x.toNat = x := by
  refine ⟨by rw [IntKind.wrap_u64]; unfold U; omega, by unfold U; omega, by unfold U; omega⟩
set_option maxRecDepth 100000 in
set_option maxHeartbeats 2000000 in
/-- **Make** -/
theorem Make_any (w : World) (g : Int) (A : Option Addr) (cap : Nat) (l : List (Int × Int)) (hl : l.length ≤ maxLen) (hx : RowE w A l) :
    Calls Tryz.prog 12 #[.agg #[.int .i64 g, .slice A l.length cap]] w fun e w' => e = .returned (.tuple #[.string (mkS g l), .int .i64 (mkX g l : Int)]) ∧ Below w.heap.size w w' := by
  obtain ⟨w0, hw0⟩ : ∃ w0, w.alloc (.cells #[.int .i64 g, .slice A l.length cap] 25) = w0 := ⟨_, rfl⟩
  have hb0 : Below w.heap.size w w0 := by rw [← hw0]; exact (Below.refl _ _).alloc (Nat.le_refl _) _
  have hm0 : w0.heap[w.heap.size]? = some (.cells #[.int .i64 g, .slice A l.length cap] 25 (0, 0)) := by rw [← hw0]; exact heap_alloc_new w _
  have HMY := Lib.hid (May_any w0 g A cap l hl (hx.below hb0))
  have HB0 := Lib.hid hb0
  have HM0 := Lib.hid hm0
  have HX := Lib.hid hx
  have c0 : w0.cell? ⟨w.heap.size, 0, none⟩ = some (.int .i64 g) := cell_row hm0 0
  have c1 : w0.cell? ⟨w.heap.size, 1, none⟩ = some (.slice A l.length cap) := cell_row hm0 1
  clear hb0 hm0 hx hl
  by_cases hm : mayM g l = true
  case neg =>
    have hV : mkS g l = ⟨#[]⟩ ∧ mkX g l = 4 := ⟨if_neg hm, if_neg hm⟩
    have HV := Lib.hid hV
    rw [Bool.not_eq_true] at hm
    rw [hm] at HMY
    clear hV hm
    go_enter Tryz.func12, Tryz.ntmps12
    go_wp2_with fail
    refine HMY.out.mono ?_
    rintro e w1 ⟨rfl, hb⟩
    have HB1 := Lib.hid (HB0.out.trans (hb.mono HB0.out.size))
    clear hb
    go_wp2_with fail
    go_ret2
    exact ⟨by rw [HV.out.1, HV.out.2]; rfl, HB1.out⟩
  have hV : mkS g l = sealS (S (bareM g l)) ∧ mkX g l = 0 := ⟨if_pos hm, if_pos hm⟩
  have HV := Lib.hid hV
  rw [hm] at HMY
  obtain ⟨p1, p2, p3, p4, p5⟩ := mayM_parts hm
  have HP := Lib.hid p5
  have HL := Lib.hid (And.intro p3 p4)
  have HG := Lib.hid p2
  obtain ⟨u1, u2, u3⟩ := u64_of g p1 (by omega)
  have HSE := Lib.hid (fun W => seal_any (S (bareM g l)) W (by rw [S_size, bareM_length]; omega))
  have hu16 : IntKind.u16.wrap (l.length : Int) = U l.length ∧ (l.length : Int) % 65536 = U l.length := ⟨by rw [IntKind.wrap_u16]; unfold U; omega, by unfold U; omega⟩
  obtain ⟨u4, u5⟩ := hu16
  have HU := Lib.hid (show l.length < 65536 by omega)
  clear hV hm p1 p2 p3 p4 p5
  go_enter Tryz.func12, Tryz.ntmps12
  go_wp2_with fail
  refine HMY.out.mono ?_
  rintro e w1 ⟨rfl, hb⟩
  have HB1 := Lib.hid (HB0.out.trans (hb.mono HB0.out.size))
  have HM1 := Lib.hid ((hb.block _ (row_lt HM0.out)).trans HM0.out)
  have HWN := Lib.hid (Wr.new (w := w1) HB1.out.size)
  have HON := Lib.hid ((Only.refl w.heap.size w1).alloc HB1.out.size (.cells #[.pointer none, .int .i64 0] 93))
  clear hb c0 c1 hw0
  go_wp2_with fail
  refine (raw_any _ _ _ _ ⟨#[109, 97, 110, 49]⟩ HWN.out (by decide)).mono ?_
  rintro e W1 ⟨rfl, hw1, ho1⟩
  replace HON := Lib.hid (HON.out.trans ho1)
  replace HWN := Lib.hid hw1
  rw [List.nil_append, show (⟨#[109, 97, 110, 49]⟩ : ByteArray).data.toList = word from rfl] at HWN
  have hm1 := HON.out.same _ _ _ _ HM1.out (by decide) (by decide) (by decide)
  have c0 : W1.cell? ⟨w.heap.size, 0, none⟩ = some (.int .i64 g) := cell_row hm1 0
  clear hw1 ho1 hm1
  go_wp2_with fail
  refine (u64_any _ _ _ _ g.toNat HWN.out (by decide) _ (by first | rfl | exact u3.symm)).mono ?_
  rintro e W2 ⟨rfl, hw1, ho1⟩
  replace HON := Lib.hid (HON.out.trans ho1)
  replace HWN := Lib.hid hw1
  have hm1 := HON.out.same _ _ _ _ HM1.out (by decide) (by decide) (by decide)
  clear c0
  have c1 : W2.cell? ⟨w.heap.size, 1, none⟩ = some (.slice A l.length cap) := cell_row hm1 1
  clear hw1 ho1 hm1
  go_wp2_with fail
  refine (u16_any _ _ _ _ l.length HWN.out (by rw [List.length_append, fixB_length]; decide) _ (by first | rfl | exact u5 | exact u4) HU).mono ?_
  rintro e W3 ⟨rfl, hw1, ho1⟩
  replace HON := Lib.hid (HON.out.trans ho1)
  replace HWN := Lib.hid hw1
  have hm1 := HON.out.same _ _ _ _ HM1.out (by decide) (by decide) (by decide)
  clear c1
  have c1 : W3.cell? ⟨w.heap.size, 1, none⟩ = some (.slice A l.length cap) := cell_row hm1 1
  clear hw1 ho1 hm1
  go_wp2_with fail
  clear c1
  have HHB : Hid (w1.heap.size < W3.heap.size) := Lib.hid (HWN.out.lt)
  go_loopw [23] (fun y wr => ∃ j : Nat, j ≤ l.length ∧ y = .int .i64 (j : Int) ∧ Hid (Wr w.heap.size wr w1.heap.size (word ++ fixB 8 g.toNat ++ fixB 2 l.length ++ enB (l.take j))) ∧ Hid (Only w.heap.size w1 wr)) (fun y _ => l.length - (intOf y).toNat)
  case atStart => exact ⟨0, Nat.zero_le _, rfl, Lib.hid (by rw [List.take_zero, enB, List.append_nil]; exact HWN.out), HON⟩
  case round =>
    clear HWN HON
    obtain ⟨j, hj, rfl, HWN, HON⟩ := hrel
    by_cases hlt : j < l.length
    · as_aux_lemma =>
        have e1 : decide ((j : Int) < (l.length : Int)) = true := decide_eq_true (by omega)
        have HBR := Lib.hid (HB1.out.trans HON.out.below)
        obtain ⟨B, o, rfl, hb, d0, d1⟩ := HX.out.below HBR.out j hlt
        obtain ⟨x1, x2, x3, x4⟩ := HP.out j hlt
        have HLT := Lib.hid hlt
        have HEN := Lib.hid (enB_take l j hlt)
        have HI1 := Lib.hid (show wrap64 ((j : Int) + 1) = (j : Int) + 1 from IntWalk.wrap64_in _ ⟨by omega, by have := HL.out; omega⟩)
        generalize (l[j]'hlt).1 = x at *
        generalize (l[j]'hlt).2 = y at *
        have hgg : x ≤ 100000000 ∧ y ≤ 100000000 := ⟨by have := HG.out; omega, by omega⟩
        obtain ⟨v1, v2, v3⟩ := u64_of x x1 hgg.1
        obtain ⟨v4, v5, v6⟩ := u64_of y x3 hgg.2
        have HN1 := Lib.hid (show (word ++ fixB 8 g.toNat ++ fixB 2 l.length ++ enB (l.take j)).length + 32 ≤ 1000000000000 by
          rw [List.length_append, List.length_append, List.length_append, fixB_length, fixB_length, enB_length, List.length_take]
          have := HL.out
          show 4 + 8 + 2 + _ + 32 ≤ _
          omega)
        have he5 : (wr.alloc (.cells #[.int .i64 x, .int .i64 y] 27)).heap[wr.heap.size]? = some (.cells #[.int .i64 x, .int .i64 y] 27 (0, 0)) := heap_alloc_new wr _
        have HE5 := Lib.hid he5
        have g1 : (wr.alloc (.cells #[.int .i64 x, .int .i64 y] 27)).cell? ⟨wr.heap.size, 0, none⟩ = some (.int .i64 x) := cell_row he5 0
        have HW5 := Lib.hid (HWN.out.alloc (.cells #[.int .i64 x, .int .i64 y] 27))
        have HO5 := Lib.hid (HON.out.alloc HBR.out.size (.cells #[.int .i64 x, .int .i64 y] 27))
        clear he5 x1 x2 x3 x4 hgg hj
        go_wp2_with fail
        refine (u64_any _ _ _ _ x.toNat HW5.out (by have := HN1.out; omega) _ (by first | rfl | exact v3.symm)).mono ?_
        rintro e W5 ⟨rfl, hw1, ho1⟩
        have HO6 := Lib.hid (HO5.out.trans ho1)
        have HW6 := Lib.hid hw1
        have hm1 := ho1.same _ _ _ _ HE5.out (by decide) (by decide) (by decide)
        clear g1
        have g2 : W5.cell? ⟨wr.heap.size, 1, none⟩ = some (.int .i64 y) := cell_row hm1 1
        clear hw1 ho1 hm1
        go_wp2_with fail
        refine (u64_any _ _ _ _ y.toNat HW6.out (by rw [List.length_append, fixB_length]; have := HN1.out; omega) _ (by first | rfl | exact v6.symm)).mono ?_
        rintro e W6 ⟨rfl, hw1, ho1⟩
        have HO7 := Lib.hid (HO6.out.trans ho1)
        have HW7 : Hid (Wr w.heap.size W6 w1.heap.size (word ++ fixB 8 g.toNat ++ fixB 2 l.length ++ enB (l.take (j + 1)))) := Lib.hid (by
          rw [HEN.out, ← List.append_assoc, ← List.append_assoc]
          exact hw1)
        clear hw1 ho1 g2 d0 d1
        go_wp2_with fail
        go_roundw
        case rel => exact ⟨j + 1, HLT.out, by rw [HI1.out]; rfl, HW7, HO7⟩
        case measure =>
          rw [HI1.out]
          show l.length - ((j : Int) + 1).toNat < l.length - (j : Int).toNat
          have := HLT.out; omega
    · as_aux_lemma =>
        have e1 : decide ((j : Int) < (l.length : Int)) = false := decide_eq_false (by omega)
        have hw := HWN.out
        rw [List.take_of_length_le (by omega)] at hw
        have HWF : Hid (Wr w.heap.size wr w1.heap.size (bareM g l)) := Lib.hid hw
        clear hw hj
        go_wp2_with (go_at_call 49; refine (bytes_any _ _ _ _ HWF.out).mono ?_; rintro e w' ⟨rfl, nq, rfl⟩)
        refine (HSE.out _).mono ?_
        rintro e W9 ⟨rfl, hb⟩
        have HB := Lib.hid (HB1.out.trans ((HON.out.drewN nq).below.trans (hb.mono (Nat.le_trans HB1.out.size (HON.out.drewN nq).below.size))))
        clear hb
        go_wp2_with fail
        go_ret2
        exact ⟨by rw [HV.out.1, HV.out.2]; rfl, HB.out⟩
end Go.Proofs.YticfnfekkmkclaaGreatDoor.Manif

/-
  Manifests: a number, a segment that is read.
-/
namespace Go.Proofs.YticfnfekkmkclaaGreatDoor.Manif
open Go Go.RowKit
open Go.Proofs.YticfnfekkmkclaaGreatDoor.Wire (S S_list S_size cell_row frozen_row row_lt heap_set U Rd Step fxV tkI tkE ru64_any grown_below)

/-- a number of 64 bits, as it is told -/
def sgn (n : Nat) : Int := wrap64 (U n)
theorem number_any (r : Nat) (s : ByteArray) (i e : Nat) (w : World) (hrd : Rd w r s i e) (hi : i ≤ s.size) (hs : s.size ≤ 1000000000000) :
    Calls Tryz.prog 66 #[.pointer (some ⟨r, 0, none⟩)] w fun x w' => x = .returned (.int .i64 (sgn (fxV s i e 8))) ∧ Step w w' r s (tkI s i e 8) (tkE s i e 8) := by
  have HR := Lib.hid (ru64_any r s i e w hrd hi hs)
  clear hrd hi hs
  generalize hF : fxV s i e 8 = F at *
  generalize tkI s i e 8 = I2 at *
  generalize tkE s i e 8 = E2 at *
  clear hF
  have HS := Lib.hid (show sgn F = wrap64 (U F) from rfl)
  generalize U F = uf at *
  go_enter Tryz.func66, Tryz.ntmps66
  go_wp2_with fail
  refine HR.out.mono ?_
  rintro x w1 ⟨rfl, hst⟩
  have HST := Lib.hid hst
  clear hst
  go_wp2_with fail
  go_ret
  exact ⟨by rw [HS.out]; first | rfl | simp, HST.out⟩
theorem tkI_le (s : ByteArray) (i e k : Nat) (h : i ≤ s.size) : tkI s i e k ≤ s.size := by
  unfold tkI; split <;> omega
end Go.Proofs.YticfnfekkmkclaaGreatDoor.Manif

/-
  Manifests: a segment that is read.
-/
namespace Go.Proofs.YticfnfekkmkclaaGreatDoor.Manif
open Go Go.RowKit
open Go.Proofs.YticfnfekkmkclaaGreatDoor.Wire (S S_list S_size cell_row frozen_row row_lt heap_set U Rd Step fxV tkI tkE grown_below grown_trans rdS)

theorem Rd.below {w w' : World} {r : Nat} {s : ByteArray} {i e : Nat} (h : Rd w r s i e) (hb : Below w.heap.size w w') : Rd w' r s i e := (hb.block _ (row_lt h)).trans h
/-- a segment's two numbers, as they are read -/
def enG (s : ByteArray) (i e : Nat) : Int := sgn (fxV s i e 8)
def enF (s : ByteArray) (i e : Nat) : Int := sgn (fxV s (tkI s i e 8) (tkE s i e 8) 8)
set_option maxRecDepth 100000 in
theorem entry_any (r : Nat) (s : ByteArray) (i e : Nat) (w : World) (hrd : Rd w r s i e) (hi : i ≤ s.size) (hs : s.size ≤ 1000000000000) :
    Calls Tryz.prog 68 #[.pointer (some ⟨r, 0, none⟩)] w fun x w' => x = .returned (.agg #[.int .i64 (enG s i e), .int .i64 (enF s i e)]) ∧ Step w w' r s (tkI s (tkI s i e 8) (tkE s i e 8) 8) (tkE s (tkI s i e 8) (tkE s i e 8) 8) := by
  obtain ⟨w0, hw0⟩ : ∃ w0, w.alloc (.cells #[.int .i64 0, .int .i64 0] 27) = w0 := ⟨_, rfl⟩
  have hb0 : Below w.heap.size w w0 := by rw [← hw0]; exact (Below.refl _ _).alloc (Nat.le_refl _) _
  have he0 : w0.heap[w.heap.size]? = some (.cells #[.int .i64 0, .int .i64 0] 27 (0, 0)) := by rw [← hw0]; exact heap_alloc_new w _
  have HR := Lib.hid hrd
  have HN1 := Lib.hid (number_any r s i e w0 (Rd.below hrd hb0) hi hs)
  have HN2 := Lib.hid (fun W (h : Rd W r s (tkI s i e 8) (tkE s i e 8)) => number_any r s (tkI s i e 8) (tkE s i e 8) W h (tkI_le s i e 8 hi) hs)
  have HE0 := Lib.hid he0
  have HB0 := Lib.hid hb0
  have HRL := Lib.hid (row_lt hrd)
  have HV := Lib.hid (show enG s i e = sgn (fxV s i e 8) ∧ enF s i e = sgn (fxV s (tkI s i e 8) (tkE s i e 8) 8) from ⟨rfl, rfl⟩)
  clear hrd hb0 he0 hi hs
  generalize sgn (fxV s i e 8) = v1 at *
  generalize sgn (fxV s (tkI s i e 8) (tkE s i e 8) 8) = v2 at *
  go_enter Tryz.func68, Tryz.ntmps68
  go_wp2_with fail
  refine HN1.out.mono ?_
  rintro x w1 ⟨rfl, hst⟩
  have HS1 := Lib.hid hst
  have HE1 := Lib.hid ((hst.2.block w.heap.size (row_lt HE0.out) (fun h => by injection h with h; have := HRL.out; omega)).trans HE0.out)
  clear hst
  go_wp2_with fail
  refine (HN2.out w1 HS1.out.1).mono ?_
  rintro x w2 ⟨rfl, hst⟩
  have HS2 := Lib.hid hst
  have he2 := (hst.2.block w.heap.size (row_lt HE1.out) (fun h => by injection h with h; have := HRL.out; omega)).trans HE1.out
  have HST := Lib.hid (show Step w w2 r s (tkI s (tkI s i e 8) (tkE s i e 8) 8) (tkE s (tkI s i e 8) (tkE s i e 8) 8) from ⟨hst.1, grown_trans (grown_below HB0.out) (grown_trans HS1.out.2 hst.2)⟩)
  have HE2 := Lib.hid he2
  have h5 := heap_set he2 0 (.int .i64 v1)
  have h6 := heap_set h5 1 (.int .i64 v2)
  have f0 := frozen_row he2 0
  have b0 : w2.cell? ⟨w.heap.size, 0, none⟩ = some (.int .i64 0) := cell_row he2 0
  have b1 : (w2.setCell ⟨w.heap.size, 0, none⟩ (.int .i64 v1)).cell? ⟨w.heap.size, 1, none⟩ = some (.int .i64 0) := cell_row h5 1
  have f1 := frozen_row he2 1
  have f2 := frozen_row h5 1
  have d0 : ((w2.setCell ⟨w.heap.size, 0, none⟩ (.int .i64 v1)).setCell ⟨w.heap.size, 1, none⟩ (.int .i64 v2)).cell? ⟨w.heap.size, 0, none⟩ = some (.int .i64 v1) := cell_row h6 0
  have d1 : ((w2.setCell ⟨w.heap.size, 0, none⟩ (.int .i64 v1)).setCell ⟨w.heap.size, 1, none⟩ (.int .i64 v2)).cell? ⟨w.heap.size, 1, none⟩ = some (.int .i64 v2) := cell_row h6 1
  clear hst h5 h6 he2
  go_wp2_with fail
  refine bodyPost_ret (v := .agg #[.int .i64 v1, .int .i64 v2]) (by simp [results, Tryz.results68, go_sem, d0, d1]) rfl ⟨by rw [HV.out.1, HV.out.2], ?_⟩
  exact ⟨by have := (heap_set (heap_set (HE2.out) 0 (.int .i64 v1)) 1 (.int .i64 v2)); exact (Below.heap_setCell _ _ _ _ (by show r ≠ w.heap.size; have := HRL.out; omega)).trans ((Below.heap_setCell _ _ _ _ (by show r ≠ w.heap.size; have := HRL.out; omega)).trans HST.out.1), ⟨HST.out.2.os, HST.out.2.tape, HST.out.2.output, by simpa [World.setCell] using HST.out.2.size, fun k hk hn => (Below.heap_setCell _ _ _ _ (by show k ≠ w.heap.size; omega)).trans ((Below.heap_setCell _ _ _ _ (by show k ≠ w.heap.size; omega)).trans (HST.out.2.block k hk hn))⟩⟩
end Go.Proofs.YticfnfekkmkclaaGreatDoor.Manif
