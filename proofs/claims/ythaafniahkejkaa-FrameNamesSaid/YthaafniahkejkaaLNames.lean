import Derived.Test.YthaafniahkejkaaRD
import Derived.Test.YthaafniahkejkaaLOne
import Derived.Test.YthaafniahkejkaaLBurst
/-
  The walk of the statement FrameNames.
-/
namespace Go.Proofs.Ythaafniahkejkaa.Frame
open Go Go.RowKit
open Go.Proofs.Ythaafniahkejkaa.Wire (S S_list S_size be cell_row frozen_row)

def xs : List UInt8 := List.replicate 4096 120
def xyz : List UInt8 := [120, 121, 122]
def FX : List UInt8 := frB 1048575 xs
def OX : List UInt8 := frB 3 xyz
def J4 : List UInt8 := [106, 117, 110, 107]
theorem xs_len : xs.length = 4096 := List.length_replicate
theorem FX_len : FX.length = 4112 := by unfold FX; rw [frB_length, xs_len]
theorem OX_len : OX.length = 19 := frB_length 3 xyz
theorem mkFX : mkE 1048575 xs = 0 := mkE_ok (by decide) (by decide) (by rw [xs_len]; decide) (by rw [xs_len]; decide)
theorem rdFX : rdE FX = 0 ∧ rdQ FX = 1048575 ∧ rdP FX = xs ∧ rdK FX = 4112 := by
  have h1 := rd_fr 1048575 xs [] (by decide) (by rw [xs_len]; decide) (by rw [xs_len]; decide)
  obtain ⟨p1, p2, p3, p4⟩ := fr_parts 1048575 xs [] (by decide) (by rw [xs_len]; decide)
  rw [List.append_nil] at h1 p1 p2 p4
  exact ⟨h1, p2, p4, by unfold rdK; rw [show rdN FX = xs.length from p1, xs_len]⟩
def Z16 : List UInt8 := List.replicate 16 0
def M16 : List UInt8 := List.replicate 16 255
theorem e15 : rdE (OX.take 15) = 8 := rd_cut 3 xyz 15 (by decide) (by decide) (by decide) (by decide)
theorem e16 : rdE (OX.take 16) = 8 := rd_cut 3 xyz 16 (by decide) (by decide) (by decide) (by decide)
theorem eZ16 : rdE Z16 = 4 := by decide +kernel
theorem eM16 : rdE M16 = 4 := by decide +kernel
def O18 : List UInt8 := OX.take 18 ++ [33]
theorem eO18 : rdE O18 = 42 := by decide +kernel
def L5 : List UInt8 := [0, 0, 16, 1] ++ List.replicate 5000 0
theorem eL5 : rdE L5 = 4 := by
  have hn : rdN L5 = 4097 := by
    unfold rdN L5
    rw [show (4 : Nat) = ([0, 0, 16, 1] : List UInt8).length from rfl, List.take_left]; decide +kernel
  have hl : L5.length = 5004 := by unfold L5; rw [List.length_append, List.length_replicate]; rfl
  unfold rdE
  rw [if_neg (by omega), if_pos (by omega)]
def L12 : List UInt8 := [0, 0, 16, 0] ++ List.replicate 12 0
theorem eL12 : rdE L12 = 8 := by decide +kernel
def L9 : List UInt8 := [0, 0, 0, 1, 0, 0, 0, 0, 0, 16, 0, 0] ++ List.replicate 9 0
theorem eL9 : rdE L9 = 4 := by decide +kernel
def G4 : List UInt8 := frB 4 [113]
def G6 : List UInt8 := frB 6 [114]
def AL : List UInt8 := J4 ++ OX ++ G4 ++ G6
theorem AL_len : AL.length = 57 := by
  unfold AL OX G4 G6
  rw [List.length_append, List.length_append, List.length_append, frB_length, frB_length, frB_length]; rfl
theorem AL_drop : AL.drop 4 = rowB 3 [xyz, [113]] ++ G6 := by
  unfold AL
  rw [List.append_assoc, List.append_assoc, drop_front (show J4.length = 4 from rfl)]
  simp [rowB, OX, G4]
theorem scan4 : scanF (AL.drop 4) 4 3 = [⟨3, xyz, 4⟩, ⟨4, [113], 23⟩] := by
  rw [AL_drop, show (3 : Int) = ((3 : Nat) : Int) from rfl, scan_row [xyz, [113]] 3 4 G6 ⟨by decide, by decide⟩]
  have h : scanF G6 (4 + (rowB 3 [xyz, [113]]).length) ((3 + [xyz, [113]].length : Nat) : Int) = [] := by
    refine scan_none (fun h => ?_)
    obtain ⟨_, b, _, _⟩ := fr_parts 6 [114] [] (by decide) (by decide)
    rw [List.append_nil] at b
    have h2 := h.2
    rw [show rdQ G6 = 6 from b] at h2
    exact absurd h2 (by decide)
  rw [h]; rfl
theorem e9 : ¬ rdE (AL.drop 9) = 0 := by decide +kernel
theorem scan9 : scanF (AL.drop 9) 9 3 = [] := scan_none (fun h => e9 h.1)
theorem str_cat (a b : List UInt8) : S a ++ S b = S (a ++ b) := S_app a b

set_option maxRecDepth 100000 in
set_option maxHeartbeats 8000000 in
theorem names_law (w : World) :
    Calls Try.prog 3 #[] w fun e w' => e = .returned (.bool true) ∧ Below w.heap.size w w' := by
  have hHW := fun W => works_any W
  have hHMX := fun W => many_any 4096 (by decide) 120 W
  have hHMD := fun W => made_any 1048575 (S xs) (by rw [S_size, xs_len]; decide) W
  have hHRD := fun W => Read_any (S FX) 0 (by rw [S_size, FX_len]; decide) W
  have hHZ1 := fun W => Size_any 4096 W
  have hHZ2 := fun W => Size_any 4097 W
  have hHZ3 := fun W => Size_any 0 W
  have hHZ4 := fun W => Size_any 1 W
  have hHK1 := fun W => Make_any (-1) ⟨#[]⟩ (by decide) W
  have hHK2 := fun W => Make_any 1048576 ⟨#[120]⟩ (by decide) W
  have hHK3 := fun W => Make_any 0 ⟨#[]⟩ (by decide) W
  have hHK4 := fun W => Make_any 0 (S (xs ++ [120])) (by rw [S_size, List.length_append, xs_len]; decide) W
  have hHMO := fun W => made_any 3 ⟨#[120, 121, 122]⟩ (by decide) W
  have hHQ1 := fun W => refused_any (S OX) (-1) 1 (by rw [S_size, OX_len]; decide) (rdV_no (Or.inl (by decide))) W
  have hHQ2 := fun W => refused_any (S OX) 20 1 (by rw [S_size, OX_len]; decide) (rdV_no (Or.inr (by rw [S_size, OX_len]; decide))) W
  have hHQ3 := fun W => refused_any (S OX) ((19 : Nat) : Int) 8 (by rw [S_size, OX_len]; decide) (rdV_at (by rw [OX_len]; decide) (by rw [List.drop_of_length_le (by rw [OX_len]; decide)]; rfl) (by decide)) W
  have hHQ4 := fun W => refused_any (S (OX.take 15)) ((0 : Nat) : Int) 8 (by rw [S_size, List.length_take, OX_len]; decide) (rdV_at (Nat.zero_le _) (by rw [List.drop_zero]; exact e15) (by decide)) W
  have hHQ5 := fun W => refused_any (S (OX.take 16)) ((0 : Nat) : Int) 8 (by rw [S_size, List.length_take, OX_len]; decide) (rdV_at (Nat.zero_le _) (by rw [List.drop_zero]; exact e16) (by decide)) W
  have hHM16 := fun W => many_any 16 (by decide) 0 W
  have hHQ6 := fun W => refused_any (S Z16) ((0 : Nat) : Int) 4 (by decide) (rdV_at (Nat.zero_le _) (by rw [List.drop_zero]; exact eZ16) (by decide)) W
  have hHN16 := fun W => many_any 16 (by decide) 255 W
  have hHQ7 := fun W => refused_any (S M16) ((0 : Nat) : Int) 4 (by decide) (rdV_at (Nat.zero_le _) (by rw [List.drop_zero]; exact eM16) (by decide)) W
  have hHQ8 := fun W => refused_any (S O18) ((0 : Nat) : Int) 42 (by rw [S_size]; decide +kernel) (rdV_at (Nat.zero_le _) (by rw [List.drop_zero]; exact eO18) (by decide)) W
  have hHM5 := fun W => many_any 5000 (by decide) 0 W
  have hHQ9 := fun W => refused_any (S L5) ((0 : Nat) : Int) 4 (by rw [S_size]; unfold L5; rw [List.length_append, List.length_replicate]; decide) (rdV_at (Nat.zero_le _) (by rw [List.drop_zero]; exact eL5) (by decide)) W
  have hHM12 := fun W => many_any 12 (by decide) 0 W
  have hHQA := fun W => refused_any (S L12) ((0 : Nat) : Int) 8 (by decide) (rdV_at (Nat.zero_le _) (by rw [List.drop_zero]; exact eL12) (by decide)) W
  have hHM9 := fun W => many_any 9 (by decide) 0 W
  have hHQB := fun W => refused_any (S L9) ((0 : Nat) : Int) 4 (by decide) (rdV_at (Nat.zero_le _) (by rw [List.drop_zero]; exact eL9) (by decide)) W
  have hHM4 := fun W => made_any 4 ⟨#[113]⟩ (by decide) W
  have hHM6 := fun W => made_any 6 ⟨#[114]⟩ (by decide) W
  have hHS4 := fun W => Scan_any (S AL) 4 (by rw [S_size, AL_len]; decide) (by rw [S_size, AL_len]; decide) 3 (by decide) W
  have hHS1 := fun W => Scan_no (S AL) (-1) 3 (fun h => absurd h.1 (by decide)) W
  have hHS9 := fun W => Scan_any (S AL) 9 (by rw [S_size, AL_len]; decide) (by rw [S_size, AL_len]; decide) 3 (by decide) W
  unfold ScR at hHS4 hHS9
  rw [S_list, scan4] at hHS4
  rw [S_list, scan9] at hHS9
  rw [S_list, show mkB 1048575 xs = FX from if_pos mkFX] at hHMD
  rw [rd_at0, if_pos rdFX.1, rdFX.2.1, rdFX.2.2.1, rdFX.2.2.2] at hHRD
  rw [show mkB 3 (⟨#[120, 121, 122]⟩ : ByteArray).data.toList = OX from if_pos (by decide)] at hHMO
  rw [show mkB 4 (⟨#[113]⟩ : ByteArray).data.toList = G4 from if_pos (by decide)] at hHM4
  rw [show mkB 6 (⟨#[114]⟩ : ByteArray).data.toList = G6 from if_pos (by decide)] at hHM6
  rw [show mkV (-1) ⟨#[]⟩ = .returned (.tuple #[.string ⟨#[]⟩, .int .i64 1]) from rfl] at hHK1
  rw [show mkV 1048576 ⟨#[120]⟩ = .returned (.tuple #[.string ⟨#[]⟩, .int .i64 1]) from rfl] at hHK2
  rw [show mkV 0 ⟨#[]⟩ = .returned (.tuple #[.string ⟨#[]⟩, .int .i64 4]) from rfl] at hHK3
  have hk4 : mkE 0 (xs ++ [120]) = 40 := by
    unfold mkE
    rw [List.length_append, xs_len, if_pos ⟨by decide, by decide⟩, if_neg (by decide), if_pos (by decide)]
  rw [show mkV 0 (S (xs ++ [120])) = .returned (.tuple #[.string ⟨#[]⟩, .int .i64 40]) by unfold mkV mkB; rw [S_list, if_neg (by rw [hk4]; decide), hk4]; rfl] at hHK4
  rw [show szI 4096 = 4112 from rfl] at hHZ1
  rw [show szI 4097 = 0 from rfl] at hHZ2
  rw [show szI 0 = 0 from rfl] at hHZ3
  rw [show szI 1 = 17 from rfl] at hHZ4
  have zX : (S xs).size = 4096 := by rw [S_size, xs_len]
  have zF : (S FX).size = 4112 := by rw [S_size, FX_len]
  have zO : (S OX).size = 19 := by rw [S_size, OX_len]
  have t15 : (S OX).extract 0 15 = S (OX.take 15) := S_take _ _
  have t16 : (S OX).extract 0 16 = S (OX.take 16) := S_take _ _
  have t18 : (S OX).extract 0 18 = S (OX.take 18) := S_take _ _
  have z18 : (S (OX.take 18)).size = 18 := by rw [S_size, List.length_take, OX_len]; rfl
  have cX : S xs ++ (⟨#[120]⟩ : ByteArray) = S (xs ++ [120]) := S_app xs [120]
  have c18 : S (OX.take 18) ++ (⟨#[33]⟩ : ByteArray) = S O18 := S_app (OX.take 18) [33]
  have c5 : (⟨#[0, 0, 16, 1]⟩ : ByteArray) ++ S (List.replicate 5000 0) = S L5 := S_app [0, 0, 16, 1] _
  have c12 : (⟨#[0, 0, 16, 0]⟩ : ByteArray) ++ S (List.replicate 12 0) = S L12 := S_app [0, 0, 16, 0] _
  have c9 : (⟨#[0, 0, 0, 1, 0, 0, 0, 0, 0, 16, 0, 0]⟩ : ByteArray) ++ S (List.replicate 9 0) = S L9 := S_app [0, 0, 0, 1, 0, 0, 0, 0, 0, 16, 0, 0] _
  have z5 : (S (List.replicate 5000 (0 : UInt8))).size = 5000 := by rw [S_size, List.length_replicate]
  have z12 : (S (List.replicate 12 (0 : UInt8))).size = 12 := by rw [S_size, List.length_replicate]
  have z9 : (S (List.replicate 9 (0 : UInt8))).size = 9 := by rw [S_size, List.length_replicate]
  have cj : (⟨#[106, 117, 110, 107]⟩ : ByteArray) ++ S OX = S (J4 ++ OX) := S_app J4 OX
  have ck : S (J4 ++ OX) ++ S G4 = S (J4 ++ OX ++ G4) := S_app _ _
  have cl : S (J4 ++ OX ++ G4) ++ S G6 = S AL := S_app _ _
  have zj : (S (J4 ++ OX)).size = 23 := by rw [S_size, List.length_append, OX_len]; rfl
  have zk : (S (J4 ++ OX ++ G4)).size = 40 := by rw [S_size, List.length_append, List.length_append, OX_len, show G4.length = 17 from frB_length 4 [113]]; rfl
  have zg4 : (S G4).size = 17 := by rw [S_size]; exact frB_length 4 [113]
  have zg6 : (S G6).size = 17 := by rw [S_size]; exact frB_length 6 [114]
  rw [show List.replicate 4096 (120 : UInt8) = xs from rfl] at hHMX
  rw [show List.replicate 16 (0 : UInt8) = Z16 from rfl] at hHM16
  rw [show List.replicate 16 (255 : UInt8) = M16 from rfl] at hHN16
  have HW := Lib.hid hHW
  have HMX := Lib.hid hHMX
  have HMD := Lib.hid hHMD
  have HRD := Lib.hid hHRD
  have HZ1 := Lib.hid hHZ1
  have HZ2 := Lib.hid hHZ2
  have HZ3 := Lib.hid hHZ3
  have HZ4 := Lib.hid hHZ4
  have HK1 := Lib.hid hHK1
  have HK2 := Lib.hid hHK2
  have HK3 := Lib.hid hHK3
  have HK4 := Lib.hid hHK4
  have HMO := Lib.hid hHMO
  have HQ1 := Lib.hid hHQ1
  have HQ2 := Lib.hid hHQ2
  have HQ3 := Lib.hid hHQ3
  have HQ4 := Lib.hid hHQ4
  have HQ5 := Lib.hid hHQ5
  have HM16 := Lib.hid hHM16
  have HQ6 := Lib.hid hHQ6
  have HN16 := Lib.hid hHN16
  have HQ7 := Lib.hid hHQ7
  have HQ8 := Lib.hid hHQ8
  have HM5 := Lib.hid hHM5
  have HQ9 := Lib.hid hHQ9
  have HM12 := Lib.hid hHM12
  have HQA := Lib.hid hHQA
  have HM9 := Lib.hid hHM9
  have HQB := Lib.hid hHQB
  have HM4 := Lib.hid hHM4
  have HM6 := Lib.hid hHM6
  have HS4 := Lib.hid hHS4
  have HS1 := Lib.hid hHS1
  have HS9 := Lib.hid hHS9
  clear hHW hHMX hHMD hHRD hHZ1 hHZ2 hHZ3 hHZ4 hHK1 hHK2 hHK3 hHK4 hHMO hHQ1 hHQ2 hHQ3 hHQ4 hHQ5 hHM16 hHQ6 hHN16 hHQ7 hHQ8 hHM5 hHQ9 hHM12 hHQA hHM9 hHQB hHM4 hHM6 hHS4 hHS1 hHS9 hk4
  unfold frV at HRD
  generalize S FX = A at *
  generalize S (OX.take 15) = O15 at *
  generalize S (OX.take 16) = O16 at *
  generalize S (OX.take 18) = Q18 at *
  generalize S OX = O at *
  generalize S O18 = P18 at *
  generalize S (xs ++ [120]) = X2 at *
  generalize S xs = X at *
  generalize S (List.replicate 5000 0) = R5 at *
  generalize S (List.replicate 12 0) = R12 at *
  generalize S (List.replicate 9 0) = R9 at *
  generalize S L5 = T5 at *
  generalize S L12 = T12 at *
  generalize S L9 = T9 at *
  generalize S Z16 = T16 at *
  generalize S M16 = U16 at *
  generalize S (J4 ++ OX ++ G4) = V3 at *
  generalize S (J4 ++ OX) = V2 at *
  generalize S G4 = V4 at *
  generalize S G6 = V6 at *
  generalize S AL = V at *
  have HB := Lib.hid (Below.refl w.heap.size w)
  go_enter Try.func3, Try.ntmps3
  go_wp2_with fail
  refine (HW.out _).mono ?_
  rintro e w1 ⟨rfl, hb⟩
  replace HB := Lib.hid (HB.out.trans (hb.mono HB.out.size)); clear hb
  go_wp2_with fail
  refine (HMX.out _).mono ?_
  rintro e w1 ⟨rfl, hb⟩
  replace HB := Lib.hid (HB.out.trans (hb.mono HB.out.size)); clear hb
  go_wp2_with fail
  refine (HMD.out _).mono ?_
  rintro e w1 ⟨rfl, hb⟩
  replace HB := Lib.hid (HB.out.trans (hb.mono HB.out.size)); clear hb
  go_wp2_with fail
  refine (HRD.out _).mono ?_
  rintro e w1 ⟨rfl, hb⟩
  replace HB := Lib.hid (HB.out.trans (hb.mono HB.out.size)); clear hb
  replace HB := Lib.hid (HB.out.alloc HB.out.size (.cells #[.int .i64 1048575, .string X, .int .i64 0] 26))
  go_wp2_with fail
  refine (HZ1.out _).mono ?_
  rintro e w2 ⟨rfl, rfl⟩
  go_wp2_with fail
  refine (HZ2.out _).mono ?_
  rintro e w2 ⟨rfl, rfl⟩
  go_wp2_with fail
  refine (HZ3.out _).mono ?_
  rintro e w2 ⟨rfl, rfl⟩
  go_wp2_with fail
  refine (HZ4.out _).mono ?_
  rintro e w2 ⟨rfl, rfl⟩
  go_wp2_with fail
  refine (HK1.out _).mono ?_
  rintro e w1 ⟨rfl, hb⟩
  replace HB := Lib.hid (HB.out.trans (hb.mono HB.out.size)); clear hb
  go_wp2_with fail
  refine (HK2.out _).mono ?_
  rintro e w1 ⟨rfl, hb⟩
  replace HB := Lib.hid (HB.out.trans (hb.mono HB.out.size)); clear hb
  go_wp2_with fail
  refine (HK3.out _).mono ?_
  rintro e w1 ⟨rfl, hb⟩
  replace HB := Lib.hid (HB.out.trans (hb.mono HB.out.size)); clear hb
  go_wp2_with fail
  refine (HK4.out _).mono ?_
  rintro e w1 ⟨rfl, hb⟩
  replace HB := Lib.hid (HB.out.trans (hb.mono HB.out.size)); clear hb
  go_wp2_with fail
  refine (HMO.out _).mono ?_
  rintro e w1 ⟨rfl, hb⟩
  replace HB := Lib.hid (HB.out.trans (hb.mono HB.out.size)); clear hb
  go_wp2_with fail
  refine (HQ1.out _).mono ?_
  rintro e w1 ⟨rfl, hb⟩
  replace HB := Lib.hid (HB.out.trans (hb.mono HB.out.size)); clear hb
  go_wp2_with fail
  refine (HQ2.out _).mono ?_
  rintro e w1 ⟨rfl, hb⟩
  replace HB := Lib.hid (HB.out.trans (hb.mono HB.out.size)); clear hb
  go_wp2_with fail
  refine (HQ3.out _).mono ?_
  rintro e w1 ⟨rfl, hb⟩
  replace HB := Lib.hid (HB.out.trans (hb.mono HB.out.size)); clear hb
  go_wp2_with fail
  refine (HQ4.out _).mono ?_
  rintro e w1 ⟨rfl, hb⟩
  replace HB := Lib.hid (HB.out.trans (hb.mono HB.out.size)); clear hb
  go_wp2_with fail
  refine (HQ5.out _).mono ?_
  rintro e w1 ⟨rfl, hb⟩
  replace HB := Lib.hid (HB.out.trans (hb.mono HB.out.size)); clear hb
  go_wp2_with fail
  refine (HM16.out _).mono ?_
  rintro e w1 ⟨rfl, hb⟩
  replace HB := Lib.hid (HB.out.trans (hb.mono HB.out.size)); clear hb
  go_wp2_with fail
  refine (HQ6.out _).mono ?_
  rintro e w1 ⟨rfl, hb⟩
  replace HB := Lib.hid (HB.out.trans (hb.mono HB.out.size)); clear hb
  go_wp2_with fail
  refine (HN16.out _).mono ?_
  rintro e w1 ⟨rfl, hb⟩
  replace HB := Lib.hid (HB.out.trans (hb.mono HB.out.size)); clear hb
  go_wp2_with fail
  refine (HQ7.out _).mono ?_
  rintro e w1 ⟨rfl, hb⟩
  replace HB := Lib.hid (HB.out.trans (hb.mono HB.out.size)); clear hb
  go_wp2_with fail
  refine (HQ8.out _).mono ?_
  rintro e w1 ⟨rfl, hb⟩
  replace HB := Lib.hid (HB.out.trans (hb.mono HB.out.size)); clear hb
  go_wp2_with fail
  refine (HM5.out _).mono ?_
  rintro e w1 ⟨rfl, hb⟩
  replace HB := Lib.hid (HB.out.trans (hb.mono HB.out.size)); clear hb
  go_wp2_with fail
  refine (HQ9.out _).mono ?_
  rintro e w1 ⟨rfl, hb⟩
  replace HB := Lib.hid (HB.out.trans (hb.mono HB.out.size)); clear hb
  go_wp2_with fail
  refine (HM12.out _).mono ?_
  rintro e w1 ⟨rfl, hb⟩
  replace HB := Lib.hid (HB.out.trans (hb.mono HB.out.size)); clear hb
  go_wp2_with fail
  refine (HQA.out _).mono ?_
  rintro e w1 ⟨rfl, hb⟩
  replace HB := Lib.hid (HB.out.trans (hb.mono HB.out.size)); clear hb
  go_wp2_with fail
  refine (HM9.out _).mono ?_
  rintro e w1 ⟨rfl, hb⟩
  replace HB := Lib.hid (HB.out.trans (hb.mono HB.out.size)); clear hb
  go_wp2_with fail
  refine (HQB.out _).mono ?_
  rintro e w1 ⟨rfl, hb⟩
  replace HB := Lib.hid (HB.out.trans (hb.mono HB.out.size)); clear hb
  go_wp2_with fail
  refine (HM4.out _).mono ?_
  rintro e w1 ⟨rfl, hb⟩
  replace HB := Lib.hid (HB.out.trans (hb.mono HB.out.size)); clear hb
  go_wp2_with fail
  refine (HM6.out _).mono ?_
  rintro e w1 ⟨rfl, hb⟩
  replace HB := Lib.hid (HB.out.trans (hb.mono HB.out.size)); clear hb
  go_wp2_with fail
  refine (HS4.out _).mono ?_
  rintro e w1 ⟨v, rfl, ho, hb⟩
  obtain ⟨A1, c1, rfl, -, -, hr, -⟩ := ho.row
  obtain ⟨b, o, rfl, hlt, k0, k1, k2⟩ := hr 1 (by decide)
  replace HB := Lib.hid (HB.out.trans (hb.mono HB.out.size)); clear hb ho hr
  simp only [List.length_cons, List.length_nil, List.getElem_cons_zero, List.getElem_cons_succ, Nat.one_mul, Nat.zero_add, Nat.reduceAdd] at k0 k1 k2 ⊢
  rw [show bytesOf [⟨3, xyz, 4⟩, ⟨4, [113], 23⟩] = 36 from rfl]
  go_wp2_with fail
  refine (HS1.out _).mono ?_
  rintro e w2 ⟨rfl, hb⟩
  have l0 := (hb.cell (p := ⟨b, o + 3, none⟩) hlt).trans k0
  have l1 := (hb.cell (p := ⟨b, o + 3 + 1, none⟩) hlt).trans k1
  have l2 := (hb.cell (p := ⟨b, o + 3 + 2, none⟩) hlt).trans k2
  have hlt2 := Nat.lt_of_lt_of_le hlt hb.size
  replace HB := Lib.hid (HB.out.trans (hb.mono HB.out.size)); clear hb k0 k1 k2 hlt
  go_wp2_with fail
  refine (HS9.out _).mono ?_
  rintro e w3 ⟨v, rfl, ho, hb⟩
  obtain ⟨A2, c2, rfl, -, -, -, -⟩ := ho.row
  have m0 := (hb.cell (p := ⟨b, o + 3, none⟩) hlt2).trans l0
  have m1 := (hb.cell (p := ⟨b, o + 3 + 1, none⟩) hlt2).trans l1
  have m2 := (hb.cell (p := ⟨b, o + 3 + 2, none⟩) hlt2).trans l2
  replace HB := Lib.hid (HB.out.trans (hb.mono HB.out.size)); clear hb l0 l1 l2 ho
  rw [show S [113] = ⟨#[113]⟩ from rfl] at m1
  go_wp2_with fail
  go_ret
  exact ⟨rfl, HB.out⟩
end Go.Proofs.Ythaafniahkejkaa.Frame
