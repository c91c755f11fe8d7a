import Derived.Test.YticfnfekkmkclaaGreatDoorMR
import Derived.Test.YticfnfekkmkclaaGreatDoorMO
import Derived.Test.YticfnfekkmkclaaGreatDoorMT
import Derived.Test.YticfnfekkmkclaaGreatDoorMW
import Derived.Test.YticfnfekkmkclaaGreatDoorMI
import Derived.Test.YticfnfekkmkclaaGreatDoorS
/-
  Manifests: Load.
-/
namespace Go.Proofs.YticfnfekkmkclaaGreatDoor.Manif
open Go Go.RowKit
open Go.Proofs.YticfnfekkmkclaaGreatDoor.Disk (DkAt Dk fndE fndF F)
open Go.Proofs.YticfnfekkmkclaaGreatDoor.Wire (cell_row frozen_row row_lt heap_set heap_far)

/-- what Load tells of a disk -/
def ldM (d : Dk) : Nat × Int × List (Int × Int) := if fndE d file = 0 then rdM (fndF d file).b else (fndE d file, 0, [])
set_option maxRecDepth 100000 in
set_option maxHeartbeats 4000000 in
/-- **Load** -/
theorem Load_any (a b : Nat) (d : Dk) (hlen : (fndF d file).b.length ≤ 1000000000) (w : World) (h : DkAt w a b d) :
    Calls Tryz.prog 16 #[.pointer (some ⟨a, 0, none⟩)] w (ReadRes w (ldM d)) := by
  obtain ⟨w0, hw0⟩ : ∃ w0, w.alloc (.cells #[.int .i64 0, .slice none 0 0] 25) = w0 := ⟨_, rfl⟩
  have hb0 : Below w.heap.size w w0 := by rw [← hw0]; exact (Below.refl _ _).alloc (Nat.le_refl _) _
  have he0 : w0.heap[w.heap.size]? = some (.cells #[.int .i64 0, .slice none 0 0] 25 (0, 0)) := by rw [← hw0]; exact heap_alloc_new w _
  have HRD : Hid (Calls Tryz.prog 35 #[.pointer (some ⟨a, 0, none⟩), .string ⟨#[77, 65, 78, 73, 70, 69, 83, 84]⟩] w0 fun z w' => z = .returned (.tuple #[.string (Disk.S (fndF d file).b), .int .i64 (fndE d file : Int)]) ∧ Below w0.heap.size w0 w') := Lib.hid (Disk.read_any a b d file (by decide) w0 (h.below hb0))
  have HRE := Lib.hid (fun W => Read_any (fndF d file).b hlen W)
  have HB0 := Lib.hid hb0
  have HE0 := Lib.hid he0
  have HV := Lib.hid (show ldM d = if fndE d file = 0 then rdM (fndF d file).b else (fndE d file, 0, []) from rfl)
  clear hb0 he0 h hlen
  change Hid (∀ W, Calls Tryz.prog 17 #[.string (Disk.S (fndF d file).b)] W (ReadRes W (rdM (fndF d file).b))) at HRE
  generalize rdM (fndF d file).b = r at *
  generalize Disk.S (fndF d file).b = T at *
  generalize fndE d file = k at *
  by_cases hk : k = 0
  · subst hk
    rw [if_pos rfl] at HV
    obtain ⟨r1, r2, r3⟩ := r
    go_enter Tryz.func16, Tryz.ntmps16
    go_wp2_with fail
    refine HRD.out.mono ?_
    rintro e w1 ⟨rfl, hb⟩
    have HB1 := Lib.hid (HB0.out.trans (hb.mono HB0.out.size))
    have HE1 := Lib.hid ((hb.block _ (row_lt HE0.out)).trans HE0.out)
    clear hb
    go_wp2_with fail
    refine (HRE.out w1).mono ?_
    rintro e w2 ⟨v, rfl, ho, hb⟩
    have HB2 := Lib.hid (HB1.out.trans (hb.mono HB1.out.size))
    have he2 := (hb.block _ (row_lt HE1.out)).trans HE1.out
    simp only at ho
    obtain ⟨A5, c5, rfl, -, -, -, -⟩ := ho.row
    generalize r3.length = n3 at *
    obtain ⟨b0, f0, b1, f1, d0, d1, -⟩ := mset he2 (.int .i64 r2) (.slice A5 n3 c5)
    have HBF := Lib.hid ((HB2.out.setCell (p := ⟨w.heap.size, 0, none⟩) (Nat.le_refl _) (.int .i64 r2)).setCell (p := ⟨w.heap.size, 1, none⟩) (Nat.le_refl _) (.slice A5 n3 c5))
    have HOF : Hid (OwnE ((w2.setCell ⟨w.heap.size, 0, none⟩ (.int .i64 r2)).setCell ⟨w.heap.size, 1, none⟩ (.slice A5 n3 c5)) w.heap.size (.slice A5 n3 c5) r3) := Lib.hid ((ho.keep (fun g hg => by
      have := (ho.lt g hg).2
      have h1 := row_lt HE1.out
      rw [heap_far 1 _ (by omega), heap_far 0 _ (by omega)])).less HB1.out.size)
    clear hb he2 ho
    go_wp2_with fail
    refine bodyPost_ret (v := .tuple #[.agg #[.int .i64 r2, .slice A5 n3 c5], .int .i64 (r1 : Int)]) (by simp [results, Tryz.results16, go_sem, d0, d1]) rfl ?_
    rw [HV.out]
    exact ⟨_, rfl, HOF.out, HBF.out⟩
  · rw [if_neg hk] at HV
    have k1 : ((k : Int) == 0) = false := beq_eq_false_iff_ne.2 (by omega)
    have k2 : ¬ (k : Int) = 0 := by omega
    clear hk
    go_enter Tryz.func16, Tryz.ntmps16
    go_wp2_with fail
    refine HRD.out.mono ?_
    rintro e w1 ⟨rfl, hb⟩
    have HB1 := Lib.hid (HB0.out.trans (hb.mono HB0.out.size))
    have he1 := (hb.block _ (row_lt HE0.out)).trans HE0.out
    obtain ⟨b0, f0, b1, f1, d0, d1, -⟩ := mset he1 (.int .i64 0) (.slice none 0 0)
    have HBF := Lib.hid ((HB1.out.setCell (p := ⟨w.heap.size, 0, none⟩) (Nat.le_refl _) (.int .i64 0)).setCell (p := ⟨w.heap.size, 1, none⟩) (Nat.le_refl _) (.slice none 0 0))
    clear hb he1
    go_wp2_with fail
    refine bodyPost_ret (v := .tuple #[.agg #[.int .i64 0, .slice none 0 0], .int .i64 (k : Int)]) (by simp [results, Tryz.results16, go_sem, d0, d1]) rfl ?_
    rw [HV.out]
    exact ⟨_, rfl, OwnE.nil _ _, HBF.out⟩
end Go.Proofs.YticfnfekkmkclaaGreatDoor.Manif

/-
  The laws' examples: what they come to. Plain mathematics.
-/
namespace Go.Proofs.YticfnfekkmkclaaGreatDoor.Manif
open Go Go.RowKit
open Go.Proofs.YticfnfekkmkclaaGreatDoor.Disk (DkAt Dk fndE fndF F Fi fileL loadE cutD crashD)
open Go.Proofs.YticfnfekkmkclaaGreatDoor.Seg (nameE)
open Go.Proofs.YticfnfekkmkclaaGreatDoor.Crc (fourL ofW)

theorem rdM_manB {g : Int} {l : List (Int × Int)} (h : mayM g l = true) : rdM (manB g l) = (0, g, l) := by
  have hl := manB_length g l
  have hb := bareM_length g l
  have e1 : (manB g l).take ((manB g l).length - 4) = bareM g l := by
    rw [hl, show 18 + 16 * l.length - 4 = (bareM g l).length by omega]; unfold manB; exact List.take_left
  have e2 : (manB g l).drop ((manB g l).length - 4) = fourL (ofW (bareM g l)) := by
    rw [hl, show 18 + 16 * l.length - 4 = (bareM g l).length by omega]; unfold manB; exact List.drop_left
  obtain ⟨r1, r2, r3⟩ := bareM_reads h
  unfold rdM
  rw [if_neg (by omega), e1, e2, if_pos rfl, bareM_ok h, if_pos rfl, r1, r2, r3]
/-- the file that is there -/
def oldF : Fi := ⟨file, [111, 108, 100], []⟩
def oldD (j : Nat) : Dk := ⟨200, fileL [oldF], false, true, j⟩
theorem ex_may : mayM 2 exL = true := by decide
theorem ex_len : (manB 2 exL).length = 50 := by rw [manB_length]; rfl
theorem ex_head : (manB 2 exL).take 14 = [109, 97, 110, 49, 0, 0, 0, 0, 0, 0, 0, 2, 0, 2] := by
  unfold manB; rw [List.take_append_of_le_length (by rw [bareM_length]; omega)]; decide +kernel
theorem ex_find : fdI exL 6 = 0 ∧ fdI exL 7 = 1 := by decide +kernel
theorem ex_name : nameE 2 7 = [115, 48, 48, 48, 48, 48, 48, 48, 50, 45, 48, 48, 48, 48, 48, 48, 48, 48, 48, 55] := by decide +kernel
theorem ex_load : loadE 200 [oldF] = 0 := by decide +kernel
theorem ex_sw2 : (swD (manB 2 exL) (oldD 2)).1 = 45 ∧ fndE (crashD (swD (manB 2 exL) (oldD 2)).2 [99]) file = 0 ∧ (fndF (crashD (swD (manB 2 exL) (oldD 2)).2 [99]) file).b = [111, 108, 100] := by decide +kernel
theorem ex_sw3 : (swD (manB 2 exL) (oldD 3)).1 = 45 ∧ fndE (crashD (swD (manB 2 exL) (oldD 3)).2 [99]) file = 0 ∧ (fndF (crashD (swD (manB 2 exL) (oldD 3)).2 [99]) file).b = [111, 108, 100] := by decide +kernel
theorem ex_sw4 : (swD (manB 2 exL) (oldD 4)).1 = 0 ∧ fndE (crashD (swD (manB 2 exL) (oldD 4)).2 [99]) file = 0 ∧ (fndF (crashD (swD (manB 2 exL) (oldD 4)).2 [99]) file).b = manB 2 exL := by decide +kernel
theorem ex_old : ¬ manB 2 exL = [111, 108, 100] := fun h => by have := congrArg List.length h; rw [ex_len] at this; cases this
theorem ex_cut (j : Nat) : cutD ⟨(200 : Int).toNat, fileL [oldF], false, false, 0⟩ (j : Int) = (0, oldD j) := by
  unfold cutD oldD
  rw [if_neg (by decide), if_neg (by omega), Int.toNat_natCast]; rfl
/-- a swap of the example, the power going behind so many steps -/
theorem ex_swap (j : Nat) (h : 2 ≤ j ∧ j < 5) : ((swD (manB 2 exL) (oldD j)).1 = 0 ↔ j = 4) ∧ fndE (crashD (swD (manB 2 exL) (oldD j)).2 [99]) file = 0 ∧
    (fndF (crashD (swD (manB 2 exL) (oldD j)).2 [99]) file).b = (if j = 4 then manB 2 exL else [111, 108, 100]) := by
  obtain rfl | rfl | rfl : j = 2 ∨ j = 3 ∨ j = 4 := by omega
  · obtain ⟨h1, h2, h3⟩ := ex_sw2
    rw [h1, h2, h3]; exact ⟨by decide, rfl, rfl⟩
  · obtain ⟨h1, h2, h3⟩ := ex_sw3
    rw [h1, h2, h3]; exact ⟨by decide, rfl, rfl⟩
  · obtain ⟨h1, h2, h3⟩ := ex_sw4
    rw [h1, h2, h3]; exact ⟨by decide, rfl, rfl⟩
end Go.Proofs.YticfnfekkmkclaaGreatDoor.Manif

/-
  Are the examples as they are told?
-/
namespace Go.Proofs.YticfnfekkmkclaaGreatDoor.Manif
open Go Go.RowKit
open Go.Proofs.YticfnfekkmkclaaGreatDoor.Wire (S S_list S_size cell_row frozen_row row_lt heap_set heap_far)
open Go.Proofs.YticfnfekkmkclaaGreatDoor.Disk (DkAt Dk fndE fndF F Fi fileL loadE cutD crashD Tn Res)
open Go.Proofs.YticfnfekkmkclaaGreatDoor.Seg (OwnS EnvP nameE)

theorem RowE.old {w w' : World} {A : Option Addr} {l : List (Int × Int)} {B : Nat} (h : RowE w A l) (hb : Below B w w') (hB : B = w.heap.size) : RowE w' A l := by subst hB; exact h.below hb
/-- the first part: the manifest, its bytes, its names -/
def AwG (w w' : World) (A : Option Addr) (c M : Nat) (v5 : Value) : Prop :=
  w'.heap[M]? = some (.cells #[.int .i64 2, .slice A 2 c] 25 (0, 0)) ∧ RowE w' A exL ∧ (∀ a, A = some a → a.block < w'.heap.size) ∧ OwnS w' w.heap.size v5 (nmL exL) ∧ Below w.heap.size w w'
theorem AwG.below {w w' w'' : World} {A : Option Addr} {c M : Nat} {v5 : Value} (h : AwG w w' A c M v5) (hb : Below w'.heap.size w' w'') : AwG w w'' A c M v5 := by
  obtain ⟨h1, h2, h3, h4, h5⟩ := h
  exact ⟨(hb.block _ (row_lt h1)).trans h1, h2.below hb, fun a ha => Nat.lt_of_lt_of_le (h3 a ha) hb.size, h4.below hb, h5.trans (hb.mono h5.size)⟩
theorem AwG.cells {w w' : World} {A : Option Addr} {c M : Nat} {v5 : Value} (h : AwG w w' A c M v5) : w'.cell? ⟨M, 0, none⟩ = some (.int .i64 2) ∧ w'.cell? ⟨M, 1, none⟩ = some (.slice A 2 c) := ⟨cell_row h.1 0, cell_row h.1 1⟩
set_option maxRecDepth 100000 in
set_option maxHeartbeats 4000000 in
theorem awake_any (w : World) (E : EnvP w) : Calls Tryz.prog 10 #[] w fun e w' => e = .returned (.bool true) ∧ Below w.heap.size w w' := by
  have HEX := Lib.hid (example_any w)
  have HMK : Hid (∀ W A c, RowE W A exL → Calls Tryz.prog 12 #[.agg #[.int .i64 2, .slice A 2 c]] W fun e w' => e = .returned (.tuple #[.string (S (manB 2 exL)), .int .i64 0]) ∧ Below W.heap.size W w') := Lib.hid (fun W A c h => by
    have := Make_any W 2 A c exL (by decide) h
    rw [mkS_list ex_may, show mkX 2 exL = 0 from rfl] at this
    exact this)
  have HRD : Hid (∀ W, Calls Tryz.prog 17 #[.string (S (manB 2 exL))] W (ReadRes W (0, 2, exL))) := Lib.hid (fun W => by
    have := Read_any (manB 2 exL) (by rw [ex_len]; decide) W
    rw [rdM_manB ex_may] at this; exact this)
  have HNM : Hid (∀ W A c, EnvP W → RowE W A exL → Calls Tryz.prog 14 #[.agg #[.int .i64 2, .slice A 2 c]] W fun e w' => ∃ v, e = .returned v ∧ OwnS w' W.heap.size v (nmL exL) ∧ Below W.heap.size W w') := Lib.hid (fun W A c EW h => by
    have := Names_any W EW 2 A c exL (by decide) h
    rw [show nmR 2 exL = nmL exL from if_pos ex_may] at this; exact this)
  have HSM : Hid (∀ W A B c1 c2, RowE W A exL → RowE W B exL → Calls Tryz.prog 34 #[.agg #[.int .i64 2, .slice A 2 c1], .agg #[.int .i64 2, .slice B 2 c2]] W fun e w' => e = .returned (.bool true) ∧ Below W.heap.size W w') := Lib.hid (fun W A B c1 c2 h1 h2 => by
    have := Same_any W 2 2 A B c1 c2 exL exL (by decide) h1 h2
    rw [show decide ((2 : Int) = 2 ∧ exL = exL) = true from by decide] at this; exact this)
  have HF6 : Hid (∀ W A c, RowE W A exL → (∀ a, A = some a → a.block < W.heap.size) → Calls Tryz.prog 41 #[.agg #[.int .i64 2, .slice A 2 c], .int .i64 6] W fun e w' => e = .returned (.int .i64 0) ∧ Below W.heap.size W w') := Lib.hid (fun W A c h1 h2 => by
    have := Find_any W 2 A c exL (by decide) h1 h2 6
    rw [ex_find.1] at this; exact this)
  have HF7 : Hid (∀ W A c, RowE W A exL → (∀ a, A = some a → a.block < W.heap.size) → Calls Tryz.prog 41 #[.agg #[.int .i64 2, .slice A 2 c], .int .i64 7] W fun e w' => e = .returned (.int .i64 1) ∧ Below W.heap.size W w') := Lib.hid (fun W A c h1 h2 => by
    have := Find_any W 2 A c exL (by decide) h1 h2 7
    rw [ex_find.2] at this; exact this)
  have hz50 : (S (manB 2 exL)).size = 50 := by rw [S_size, ex_len]
  have ht14 : (S (manB 2 exL)).extract 0 14 = ⟨#[109, 97, 110, 49, 0, 0, 0, 0, 0, 0, 0, 2, 0, 2]⟩ := by
    apply ByteArray.ext
    apply Array.toList_inj.1
    rw [Lib.extract_data, S_list, List.drop_zero]
    exact ex_head
  have HE := Lib.hid E
  clear E
  obtain ⟨T, hT⟩ : ∃ T, S (manB 2 exL) = T := ⟨_, rfl⟩
  have HT := Lib.hid hT
  rw [hT] at HMK HRD hz50 ht14
  clear hT
  go_enter Tryz.func10, Tryz.ntmps10
  go_wp2_with fail
  refine HEX.out.mono ?_
  rintro e w1 ⟨b1, rfl, hr, hb⟩
  have HB1 := Lib.hid hb
  have HR1 := Lib.hid hr
  clear hb hr
  go_wp2_with fail
  refine (HMK.out w1 _ _ HR1.out).mono ?_
  rintro e w2 ⟨rfl, hb⟩
  have HB2 := Lib.hid (HB1.out.trans (hb.mono HB1.out.size))
  clear hb
  go_wp2_with fail
  refine (HRD.out w2).mono ?_
  rintro e w3 ⟨v3, rfl, ho, hb⟩
  simp only at ho
  have HB3 := Lib.hid (HB2.out.trans (hb.mono HB2.out.size))
  obtain ⟨A3, c3, rfl, -, -, hr3, -⟩ := ho.row
  have hlt3 : ∀ a, A3 = some a → a.block < w3.heap.size := fun a ha => by
    obtain ⟨b, o, h1, h2, -⟩ := hr3 0 (by decide)
    rw [h1] at ha; injection ha with ha; subst ha; exact h2
  rw [show exL.length = 2 from rfl]
  obtain ⟨hb5, hm5⟩ := mnew w3 (.int .i64 2) (.slice A3 2 c3)
  obtain ⟨W4, hW4⟩ : ∃ W, w3.alloc (.cells #[.int .i64 0, .slice none 0 0] 25) = W := ⟨_, rfl⟩
  have ha4 : W4.heap[w3.heap.size]? = some (.cells #[.int .i64 0, .slice none 0 0] 25 (0, 0)) := by rw [← hW4]; exact heap_alloc_new w3 _
  rw [hW4] at hb5 hm5
  obtain ⟨b0, f0, b1, f1, d0, d1, -⟩ := mset ha4 (.int .i64 2) (.slice A3 2 c3)
  have HB5 := Lib.hid (HB3.out.trans (hb5.mono HB3.out.size))
  have HR5 := Lib.hid (hr3.below hb5)
  have HL5 := Lib.hid (fun a ha => Nat.lt_of_lt_of_le (hlt3 a ha) hb5.size)
  have HM5 := Lib.hid hm5
  obtain ⟨M, hM⟩ : ∃ m, w3.heap.size = m := ⟨_, rfl⟩
  rw [hM] at b0 f0 b1 f1 d0 d1 HM5 HR5 HB5 HL5
  clear hb hb5 hm5 ha4 ho hr3 hlt3
  go_wp2_with fail
  refine (HNM.out _ A3 c3 (HE.out.over HB5.out) HR5.out).mono ?_
  rintro e w6 ⟨v5, rfl, ho, hb⟩
  have HG := Lib.hid (show AwG w w6 A3 c3 M v5 from ⟨(hb.block _ (row_lt HM5.out)).trans HM5.out, HR5.out.below hb, fun a ha => Nat.lt_of_lt_of_le (HL5.out a ha) hb.size, ho.less HB5.out.size, HB5.out.trans (hb.mono HB5.out.size)⟩)
  clear b0 f0 b1 f1 d0 d1 HM5 HR5 HB5 HL5 hb ho hW4 hM HB1 HB2 HB3 HR1 HEX HMK HRD HNM
  obtain ⟨v5A, v5c, rfl, -, -, hnm⟩ := HG.out.2.2.2.1.row
  rw [show (nmL exL).length = 2 from rfl]
  obtain ⟨g5, hA5, -, -, -, -⟩ := hnm 1 (by decide)
  subst hA5
  have HK : Hid (∀ W, AwG w W A3 c3 M (.slice (some ⟨g5, 0, none⟩) 2 v5c) → W.cell? ⟨M, 0, none⟩ = some (.int .i64 2) ∧ W.cell? ⟨M, 1, none⟩ = some (.slice A3 2 c3) ∧ W.cell? ⟨g5, 1, none⟩ = some (.string ⟨#[115, 48, 48, 48, 48, 48, 48, 48, 50, 45, 48, 48, 48, 48, 48, 48, 48, 48, 48, 55]⟩) ∧ AwG w W A3 c3 M (.slice (some ⟨g5, 0, none⟩) 2 v5c)) := Lib.hid (fun W hg => by
    obtain ⟨c0, c1⟩ := hg.cells
    obtain ⟨A6, c6, hv6, -, -, hn6⟩ := hg.2.2.2.1.row
    injection hv6 with q1 q2 q3
    subst q1
    obtain ⟨g6, e6, x6, -, x7, -⟩ := hn6 1 (by decide)
    injection e6 with e6; injection e6 with e6; subst e6
    refine ⟨c0, c1, ?_, hg⟩
    rw [x7]
    show some (Value.string (S (nameE 2 7))) = _
    rw [ex_name]; rfl)
  have HD : Hid (∀ W, (W.cell? ⟨M, 0, none⟩ = some (.int .i64 2) ∧ W.cell? ⟨M, 1, none⟩ = some (.slice A3 2 c3) ∧ W.cell? ⟨g5, 1, none⟩ = some (.string ⟨#[115, 48, 48, 48, 48, 48, 48, 48, 50, 45, 48, 48, 48, 48, 48, 48, 48, 48, 48, 55]⟩) ∧ AwG w W A3 c3 M (.slice (some ⟨g5, 0, none⟩) 2 v5c)) → AwG w W A3 c3 M (.slice (some ⟨g5, 0, none⟩) 2 v5c)) := Lib.hid (fun W h => h.2.2.2)
  have HGD := Lib.hid (show AwG w w6.drew A3 c3 M (.slice (some ⟨g5, 0, none⟩) 2 v5c) from HG.out.below ⟨rfl, rfl, rfl, Nat.le_refl _, fun _ _ => rfl⟩)
  obtain ⟨c0, c1⟩ := HG.out.cells
  have hfm : Tryz.prog.follows .mixedOrders = true := by kernel_rfl
  clear hnm
  go_wp2_with fail
  go_region_held3 (fun w' => w'.cell? ⟨M, 0, none⟩ = some (.int .i64 2) ∧ w'.cell? ⟨M, 1, none⟩ = some (.slice A3 2 c3) ∧ w'.cell? ⟨g5, 1, none⟩ = some (.string ⟨#[115, 48, 48, 48, 48, 48, 48, 48, 50, 45, 48, 48, 48, 48, 48, 48, 48, 48, 48, 55]⟩) ∧ AwG w w' A3 c3 M (.slice (some ⟨g5, 0, none⟩) 2 v5c))
    (first | exact HK.out _ HGD.out | exact HK.out _ (by assumption))
    (first
      | (go_at_call 43; refine (example_any _).mono ?_; rintro e w7 ⟨b7, rfl, hr7, hb7⟩; (have hg7 := (HD.out _ (by assumption)).below hb7); (have HR7 := Lib.hid hr7); clear hr7 hb7)
      | (go_at_call 34; refine (HSM.out _ A3 (some ⟨b7, 0, none⟩) c3 2 (HD.out _ (by assumption)).2.1 HR7.out).mono ?_; rintro e w8 ⟨rfl, hb8⟩; (have hg8 := (HD.out _ (by assumption)).below hb8); clear hb8)
      | (go_at_call_of 41 (Value.int IntKind.i64 6); refine (HF6.out _ A3 c3 (HD.out _ (by assumption)).2.1 (HD.out _ (by assumption)).2.2.1).mono ?_; rintro e w9 ⟨rfl, hb9⟩; (have hg9 := (HD.out _ (by assumption)).below hb9); clear hb9)
      | (go_at_call_of 41 (Value.int IntKind.i64 7); refine (HF7.out _ A3 c3 (HD.out _ (by assumption)).2.1 (HD.out _ (by assumption)).2.2.1).mono ?_; rintro e w10 ⟨rfl, hb10⟩; (have hg10 := (HD.out _ (by assumption)).below hb10); clear hb10))
  have HG10 := Lib.hid hg10
  have HWS := Lib.hid HG.out.2.2.2.2.size
  clear hg7 hg8 hg9 hg10 c0 c1 HR7 HK HD HGD HG HSM HF6 HF7 hz50 ht14
  go_wp2_with fail
  go_loopw [6] (fun y wr => ∃ j : Nat, 2 ≤ j ∧ j ≤ 5 ∧ y = .int .i64 (j : Int) ∧ Hid (AwG w wr A3 c3 M (.slice (some ⟨g5, 0, none⟩) 2 v5c))) (fun y _ => 5 - (intOf y).toNat)
  case atStart => exact ⟨2, by decide, by decide, rfl, HG10⟩
  case round =>
    clear HG10
    obtain ⟨j, hj2, hj5, rfl, HJ⟩ := hrel
    by_cases hlt : j < 5
    · have e1 : decide ((j : Int) < 5) = true := decide_eq_true (by omega)
      have HLT := Lib.hid (And.intro hj2 hlt)
      have HI1 := Lib.hid (show wrap64 ((j : Int) + 1) = (j : Int) + 1 from IntWalk.wrap64_in _ ⟨by omega, by omega⟩)
      obtain ⟨W1, hW1⟩ : ∃ W, wr.alloc (.cells #[.string ⟨#[77, 65, 78, 73, 70, 69, 83, 84]⟩, .string ⟨#[111, 108, 100]⟩, .string ⟨#[]⟩] 71) = W := ⟨_, rfl⟩
      have hm1 : W1.heap[wr.heap.size]? = some (.cells #[.string ⟨#[77, 65, 78, 73, 70, 69, 83, 84]⟩, .string ⟨#[111, 108, 100]⟩, .string ⟨#[]⟩] 71 (0, 0)) := by rw [← hW1]; exact heap_alloc_new wr _
      have hb1 : Below wr.heap.size wr W1 := by rw [← hW1]; exact (Below.refl _ _).alloc (Nat.le_refl _) _
      have HB1 := Lib.hid hb1
      have HLD : Hid (Calls Tryz.prog 21 #[.int .i64 200, .slice (some ⟨wr.heap.size, 0, none⟩) 1 1] W1 (Disk.LoadRes 200 [oldF] W1)) := Lib.hid (Disk.load_any 200 (by decide) (some ⟨wr.heap.size, 0, none⟩) 1 [oldF] (by decide) (fun x hx => by
          rw [List.mem_singleton.1 hx]; decide) W1 (fun i hi => by
        obtain rfl : i = 0 := by simpa using hi
        exact ⟨wr.heap.size, 0, rfl, row_lt hm1, cell_row hm1 0, cell_row hm1 1, cell_row hm1 2⟩))
      clear hm1 hb1 hj2 hj5 hlt
      go_wp2_with fail
      refine HLD.out.mono ?_
      rintro e w2 ⟨-, hld, hb⟩
      obtain ⟨a, b, rfl, hd, ha, hbb⟩ := hld ex_load
      have HAB := Lib.hid (show wr.heap.size ≤ a ∧ wr.heap.size ≤ b from ⟨Nat.le_trans HB1.out.size ha, Nat.le_trans HB1.out.size hbb⟩)
      have HB2 := Lib.hid (HB1.out.trans (hb.mono HB1.out.size))
      have HD2 := Lib.hid hd
      have HCU := Lib.hid (Disk.cut_any a b _ (j : Int) (by have := HLT.out; omega) w2 hd)
      rw [ex_cut j] at HCU
      clear hld hd ha hbb hb HLD hW1
      go_wp2_with fail
      refine HCU.out.mono ?_
      rintro e w3 ⟨rfl, hd, ht⟩
      have HD3 := Lib.hid hd
      have HB3 := Lib.hid (ht.base HB2.out (Nat.le_refl _) HAB.out)
      have HG3 := Lib.hid (HJ.out.below HB3.out)
      obtain ⟨c0, c1⟩ := HG3.out.cells
      have HSW : Hid (Calls Tryz.prog 15 #[.pointer (some ⟨a, 0, none⟩), .agg #[.int .i64 2, .slice A3 2 c3]] w3 (Res a b (swD (manB 2 exL) (oldD j)) w3)) := Lib.hid (by
        have := Swap_all w3 a b (oldD j) HD3.out 2 A3 c3 exL (by decide) HG3.out.2.1
        rw [if_pos ex_may] at this; exact this)
      obtain ⟨x1, x2, x3⟩ := ex_swap j HLT.out
      have HX3 := Lib.hid x3
      obtain ⟨bj, hbj⟩ : ∃ b, decide (j = 4) = b := ⟨_, rfl⟩
      have k2 : ((j : Int) == 4) = bj := by
        rw [← hbj]
        by_cases h : j = 4
        · rw [decide_eq_true h, h]; rfl
        · rw [decide_eq_false h]; exact beq_eq_false_iff_ne.2 (by omega)
      have k1 : (((swD (manB 2 exL) (oldD j)).1 : Int) == 0) = bj := by
        rw [← hbj]
        by_cases h : j = 4
        · rw [decide_eq_true h, x1.2 h]; rfl
        · rw [decide_eq_false h]; exact beq_eq_false_iff_ne.2 (fun e => h (x1.1 (by omega)))
      have HRE := Lib.hid (fun W d h => Disk.read_any a b d file (by decide) W h)
      have HX2 := Lib.hid x2
      have HBJ := Lib.hid hbj
      clear hd ht HCU x1 x2 x3 hbj
      generalize swD (manB 2 exL) (oldD j) = r at *
      obtain ⟨r1, r2⟩ := r
      simp only at k1
      go_wp2_with fail
      refine HSW.out.mono ?_
      rintro e w4 ⟨rfl, hd, ht⟩
      have HD4 := Lib.hid hd
      have HB4 := Lib.hid (ht.base HB3.out (Nat.le_refl _) HAB.out)
      have HCR : Hid (Calls Tryz.prog 32 #[.pointer (some ⟨a, 0, none⟩), .slice (some ⟨w4.heap.size, 0, none⟩) 1 1] (w4.alloc (.cells #[.int .i64 99] 3)) fun z w' => z = .returned (.int .i64 0) ∧ DkAt w' a b (crashD r2 [99]) ∧ Tn a b (w4.alloc (.cells #[.int .i64 99] 3)) w') := Lib.hid (Disk.at_crash (k := 99) rfl w4 hd)
      clear hd ht c0 c1 HSW
      go_wp2_with fail
      refine HCR.out.mono ?_
      rintro e w5 ⟨rfl, hd, ht⟩
      have HB5 := Lib.hid (ht.base (HB4.out.alloc HB4.out.size _) (Nat.le_refl _) HAB.out)
      obtain ⟨U, hU⟩ : ∃ U, Disk.S (fndF (crashD r2 [99]) file).b = U := ⟨_, rfl⟩
      have HRF : Hid (Calls Tryz.prog 35 #[.pointer (some ⟨a, 0, none⟩), .string ⟨#[77, 65, 78, 73, 70, 69, 83, 84]⟩] w5 fun z w' => z = .returned (.tuple #[.string U, .int .i64 0]) ∧ Below w5.heap.size w5 w') := Lib.hid (by
        have := HRE.out w5 _ hd
        rw [HX2.out, hU] at this; exact this)
      have hUl : U.toList = if j = 4 then manB 2 exL else [111, 108, 100] := by
        rw [← hU, ByteArray.toList_eq]; exact HX3.out
      have hTl : T.toList = manB 2 exL := by rw [← HT.out, ByteArray.toList_eq]; rfl
      have k3 : (U.toList == T.toList) = bj := by
        rw [hUl, hTl, ← HBJ.out]
        by_cases h : j = 4
        · rw [if_pos h, decide_eq_true h]; exact beq_self_eq_true _
        · rw [if_neg h, decide_eq_false h]; exact beq_eq_false_iff_ne.2 (fun e => ex_old e.symm)
      have k4 : (U.toList == [111, 108, 100]) = !bj := by
        rw [hUl, ← HBJ.out]
        by_cases h : j = 4
        · rw [if_pos h, decide_eq_true h]; exact beq_eq_false_iff_ne.2 ex_old
        · rw [if_neg h, decide_eq_false h]; exact beq_self_eq_true _
      have k5 : decide ((j : Int) < 4) = !bj := by
        rw [← HBJ.out]
        by_cases h : j = 4
        · rw [decide_eq_true h, h]; rfl
        · rw [decide_eq_false h]; exact decide_eq_true (by have := HLT.out; omega)
      clear hd ht hU hUl hTl
      go_wp2_with fail
      refine HRF.out.mono ?_
      rintro e w6 ⟨rfl, hb⟩
      have HG6 := Lib.hid (HJ.out.below (HB5.out.trans (hb.mono HB5.out.size)))
      clear hb
      go_wp2_with fail
      go_roundw
      case rel => exact ⟨j + 1, by have := HLT.out; omega, by have := HLT.out; omega, by rw [HI1.out]; rfl, HG6⟩
      case measure =>
        rw [HI1.out]
        show 5 - ((j : Int) + 1).toNat < 5 - (j : Int).toNat
        have := HLT.out; omega
    · have e1 : decide ((j : Int) < 5) = false := decide_eq_false (by omega)
      clear hj2 hj5 hlt
      go_wp2_with fail
      go_ret
      exact ⟨rfl, HJ.out.2.2.2.2⟩
end Go.Proofs.YticfnfekkmkclaaGreatDoor.Manif
