import Derived.Test.YtkccdffccjgajaaGreatDoorRH
/-
  The document's own Join.
-/
namespace Go.Proofs.YtkccdffccjgajaaGreatDoor.Seg
open Go Go.RowKit
open Go.Proofs.YtkccdffccjgajaaGreatDoor.Wire (S S_list S_size S_append cell_row frozen_row row_lt heap_set heap_far U)
open Go.Proofs.YtkccdffccjgajaaGreatDoor.Frame Go.Proofs.YtkccdffccjgajaaGreatDoor.Ranges

set_option maxRecDepth 100000 in
set_option maxHeartbeats 2000000 in
/-- the document's own wrong -/
theorem refWrong_any (q : Int) (hm : mayF q) (A : Option Addr) (cap : Nat) (xs : List ByteArray) (hl : xs.length ≤ 10000000) (w : World) (hx : Strs w A xs) :
    Calls Tryz.prog 61 #[.int .i64 q, .slice A xs.length cap] w fun e w' => e = .returned (.int .i64 (wrE q (bytesP xs) : Int)) ∧ w = w' := by
  have HX := Lib.hid hx
  have HL := Lib.hid hl
  have HM := Lib.hid hm
  clear hx hl hm
  go_enter Tryz.func61, Tryz.ntmps61
  go_wp2_with fail
  go_loopw [5] (fun y wr => ∃ j : Nat, j ≤ xs.length ∧ y = .int .i64 (j : Int) ∧ Hid (∀ k (h : k < xs.length), k < j → 1 ≤ xs[k].size ∧ xs[k].size ≤ 4096) ∧ wr = w) (fun y _ => xs.length - (intOf y).toNat)
  case atStart => exact ⟨0, Nat.zero_le _, rfl, Lib.hid (fun k _ h => absurd h (Nat.not_lt_zero _)), rfl⟩
  case round =>
    obtain ⟨j, hj, rfl, HG, rfl⟩ := hrel
    by_cases hlt : j < xs.length
    · obtain ⟨b, o, rfl, hb, hsz, c0⟩ := HX.out j hlt
      have HLT := Lib.hid hlt
      have HW1 := Lib.hid (small64 j (by have := HL.out; omega))
      by_cases hs : 1 ≤ (xs[j]'hlt).size ∧ (xs[j]'hlt).size ≤ 4096
      · have e0 : ¬ ((xs[j]'hlt).size : Int) < 1 := by omega
        have e1 : ¬ (4096 : Int) < ((xs[j]'hlt).size : Int) := by omega
        have HS := Lib.hid hs
        have hgn := HG.out
        have HG2 : Hid (∀ k (h : k < xs.length), k < j + 1 → 1 ≤ xs[k].size ∧ xs[k].size ≤ 4096) := Lib.hid (fun k h hk => by
          rcases Nat.lt_or_ge k j with h1 | h1
          · exact hgn k h h1
          · obtain rfl : k = j := by omega
            exact HS.out)
        obtain ⟨s1, s2⟩ := hs
        clear hgn
        generalize xs[j]'hlt = p at *
        go_wp2_with fail
        go_roundw
        case rel => exact ⟨j + 1, HLT.out, by rw [HW1.out]; rfl, HG2, by first | trivial | rfl⟩
        case measure =>
          rw [HW1.out]
          show xs.length - ((j : Int) + 1).toNat < xs.length - (j : Int).toNat
          have := HLT.out; omega
      · have HE := Lib.hid (show wrE q (bytesP xs) = 4 by unfold wrE; rw [if_neg (fun k => k HM.out), if_pos (okL_bad hlt hs)])
        generalize xs[j]'hlt = p at *
        by_cases h1 : (p.size : Int) < 1
        · clear hs
          go_wp2_with fail
          go_ret
          exact ⟨by rw [HE.out]; rfl, rfl⟩
        · have h2 : (4096 : Int) < (p.size : Int) := by omega
          clear hs
          go_wp2_with fail
          go_ret
          exact ⟨by rw [HE.out]; rfl, rfl⟩
    · obtain rfl : j = xs.length := by omega
      have hok : okL (bytesP xs) = true := bytesP_ok.2 (fun k h => HG.out k h h)
      have hlm := HL.out
      have hqm := HM.out
      obtain ⟨hq0, hq1⟩ := hqm
      have y1 : wrap64 (q + (xs.length : Int)) = q + (xs.length : Int) := IntWalk.wrap64_in _ ⟨by omega, by omega⟩
      have y1' : IntKind.i64.wrap (q + (xs.length : Int)) = q + (xs.length : Int) := IntWalk.i64_in _ ⟨by omega, by omega⟩
      by_cases h40 : 1048576 < q + (xs.length : Int)
      · have HE := Lib.hid (show wrE q (bytesP xs) = 40 by unfold wrE; rw [if_neg (fun k => k HM.out), hok, if_neg (by decide), bytesP_len, if_pos h40])
        clear hok hq0 hq1
        go_wp2_with fail
        go_ret
        exact ⟨by rw [HE.out]; rfl, rfl⟩
      · have HE := Lib.hid (show wrE q (bytesP xs) = 0 by unfold wrE; rw [if_neg (fun k => k HM.out), hok, if_neg (by decide), bytesP_len, if_neg h40])
        clear hok hq0 hq1
        go_wp2_with fail
        go_ret
        exact ⟨by rw [HE.out]; rfl, rfl⟩

set_option maxRecDepth 100000 in
set_option maxHeartbeats 2000000 in
/-- **the document's Join** -/
theorem refJoin_any (q : Int) (A : Option Addr) (cap : Nat) (xs : List ByteArray) (hl : xs.length ≤ 1000000) (w : World) (hx : Strs w A xs) :
    Calls Tryz.prog 31 #[.int .i64 q, .slice A xs.length cap] w fun e w' => e = joV q xs ∧ Below w.heap.size w w' := by
  have HHD := Lib.hid (fun W => refHeader_any q W)
  by_cases hm : mayF q
  · rw [show hdE q = 0 from if_pos hm, show hdB q = segH q.toNat from if_pos hm] at HHD
    have HWR := Lib.hid (fun W (hw : Strs W A xs) => refWrong_any q hm A cap xs (by omega) W hw)
    have HX := Lib.hid hx
    by_cases h0 : wrE q (bytesP xs) = 0
    · obtain ⟨_, hk⟩ := wrE_zero h0
      obtain ⟨a, rfl⟩ : ∃ a : Nat, q = (a : Int) := ⟨q.toNat, by have := hm.1; omega⟩
      rw [Int.toNat_natCast] at hk HHD
      have hok : ∀ j (h : j < xs.length), 1 ≤ xs[j].size ∧ xs[j].size ≤ 4096 := bytesP_ok.1 (okL_all.2 hk.2)
      have HK := Lib.hid hok
      have HQ := Lib.hid (show a + xs.length ≤ 1048576 by have := hk.1; rw [bytesP_len] at this; exact this)
      have HRS := Lib.hid (RB_small xs hok)
      have HL := Lib.hid hl
      have HV := Lib.hid (show joV (a : Int) xs = .returned (.tuple #[.string (S (joB (a : Int) (bytesP xs))), .int .i64 (joE (a : Int) (bytesP xs) : Int)]) from rfl)
      have HT := Lib.hid (show (bytesP xs).take xs.length = bytesP xs by rw [show xs.length = (bytesP xs).length from (bytesP_len xs).symm, List.take_length])
      have HJE := Lib.hid (show joE (a : Int) (bytesP xs) = if 1048576 < segN (bytesP xs) then 40 else 0 from if_pos h0)
      rw [h0] at HWR
      have HS0 := Lib.hid (show segH a = segB a ((bytesP xs).take 0) by rw [List.take_zero, segB_nil])
      rw [HS0.out] at HHD
      clear hm hk hok h0 hl hx
      go_enter Tryz.func31, Tryz.ntmps31
      go_wp2_with fail
      refine (HHD.out w).mono ?_
      rintro e w1 ⟨rfl, hb⟩
      have HB := Lib.hid hb
      clear hb
      go_wp2_with fail
      refine (HWR.out _ (HX.out.below HB.out)).mono ?_
      rintro e w2 ⟨rfl, rfl⟩
      go_wp2_with fail
      have HW0 := Lib.hid (Below.refl w1.heap.size w1)
      go_loopw [6, 8] (fun x y wr => ∃ j : Nat, j ≤ xs.length ∧ y = .int .i64 (j : Int) ∧ x = .string (S (segB a ((bytesP xs).take j))) ∧ Hid (Below w.heap.size w wr)) (fun _ y _ => xs.length - (intOf y).toNat)
      case atStart => exact ⟨0, Nat.zero_le _, rfl, rfl, HB⟩
      case round =>
        clear HB HW0
        obtain ⟨j, hj, rfl, rfl, HB⟩ := hrel
        by_cases hlt : j < xs.length
        · obtain ⟨b, o, rfl, hb, hsz, c0⟩ := HX.out.below HB.out j hlt
          have hs := HK.out j hlt
          have HLT := Lib.hid hlt
          have hq := HQ.out
          have y1 : wrap64 ((a : Int) + (j : Int)) = (a : Int) + (j : Int) := IntWalk.wrap64_in _ ⟨by omega, by omega⟩
          have y2 : IntKind.i64.wrap ((a : Int) + (j : Int)) = (a : Int) + (j : Int) := IntWalk.i64_in _ ⟨by omega, by omega⟩
          have hmk : mkE ((a : Int) + (j : Int)) (xs[j]'hlt).data.toList = 0 := by
            unfold mkE; rw [s_len, if_pos ⟨by omega, by omega⟩, if_neg (by omega), if_neg (by omega)]
          have HMK := Lib.hid (fun W => refMake_any ((a : Int) + (j : Int)) (xs[j]'hlt) (by omega) W)
          unfold mkV mkB at HMK
          rw [hmk, if_pos rfl, show ((a : Int) + (j : Int)).toNat = a + j by omega] at HMK
          have HNX := Lib.hid (show S (segB a ((bytesP xs).take j)) ++ S (frB (a + j) (xs[j]'hlt).data.toList) = S (segB a ((bytesP xs).take (j + 1))) by rw [S_append, seg_next a xs j hlt])
          have hcat1 : ¬ ((S (segB a ((bytesP xs).take j))).size + (S (frB (a + j) (xs[j]'hlt).data.toList)).size > 9223372036854775807) := by
            rw [S_size, S_size, segB_length, segN_take, frB_length, s_len]
            have := HRS.out j hj
            omega
          have HW1 := Lib.hid (small64 j (by have := HL.out; omega))
          clear hs hmk hq
          generalize xs[j]'hlt = p at *
          generalize S (segB a ((bytesP xs).take j)) = P at *
          generalize S (frB (a + j) p.data.toList) = R at *
          go_wp2_with fail
          refine (HMK.out wr).mono ?_
          rintro e w5 ⟨rfl, hb5⟩
          have HB5 := Lib.hid (HB.out.trans (hb5.mono HB.out.size))
          clear hb5 HB
          go_wp2_with fail
          go_roundw
          case rel => exact ⟨j + 1, HLT.out, by rw [HW1.out]; rfl, by rw [HNX.out], HB5⟩
          case measure =>
            rw [HW1.out]
            show xs.length - ((j : Int) + 1).toNat < xs.length - (j : Int).toNat
            have := HLT.out; omega
        · obtain rfl : j = xs.length := by omega
          rw [HT.out]
          have hsz : (S (segB a (bytesP xs))).size = segN (bytesP xs) := by rw [S_size, segB_length]
          by_cases h40 : 1048576 < segN (bytesP xs)
          · have he : joE (a : Int) (bytesP xs) = 40 := by rw [HJE.out, if_pos h40]
            have HV2 := Lib.hid (show joV (a : Int) xs = .returned (.tuple #[.string ⟨#[]⟩, .int .i64 40]) by unfold joV joB; rw [he, if_neg (by decide)]; rfl)
            have y : (1048576 : Int) < ((S (segB a (bytesP xs))).size : Int) := by omega
            clear he h40 hsz
            generalize S (segB a (bytesP xs)) = P at *
            go_wp2_with fail
            go_ret2
            exact ⟨HV2.out.symm, HB.out⟩
          · have he : joE (a : Int) (bytesP xs) = 0 := by rw [HJE.out, if_neg h40]
            have HV2 := Lib.hid (show joV (a : Int) xs = .returned (.tuple #[.string (S (segB a (bytesP xs))), .int .i64 0]) by unfold joV joB; rw [he, if_pos rfl, Int.toNat_natCast]; rfl)
            have y : ¬ (1048576 : Int) < ((S (segB a (bytesP xs))).size : Int) := by omega
            clear he h40 hsz
            generalize S (segB a (bytesP xs)) = P at *
            go_wp2_with fail
            go_ret2
            exact ⟨HV2.out.symm, HB.out⟩
    · have HV := Lib.hid (show joV q xs = .returned (.tuple #[.string ⟨#[]⟩, .int .i64 (wrE q (bytesP xs) : Int)]) by
        have he : joE q (bytesP xs) = wrE q (bytesP xs) := by unfold joE; rw [if_neg h0]
        unfold joV joB; rw [he, if_neg h0]; rfl)
      obtain ⟨q1, q2, q3, q4, q5⟩ := nat_ne h0
      generalize wrE q (bytesP xs) = x at *
      clear h0 hm hl hx
      go_enter Tryz.func31, Tryz.ntmps31
      go_wp2_with fail
      refine (HHD.out w).mono ?_
      rintro e w1 ⟨rfl, hb⟩
      have HB := Lib.hid hb
      clear hb
      go_wp2_with fail
      refine (HWR.out _ (HX.out.below HB.out)).mono ?_
      rintro e w2 ⟨rfl, rfl⟩
      go_wp2_with fail
      go_ret2
      exact ⟨HV.out.symm, HB.out⟩
  · rw [show hdE q = 1 from if_neg hm, show hdB q = [] from if_neg hm, show S [] = ⟨#[]⟩ from rfl] at HHD
    have HV := Lib.hid (show joV q xs = .returned (.tuple #[.string ⟨#[]⟩, .int .i64 1]) by
      have hw : wrE q (bytesP xs) = 1 := if_pos hm
      have he : joE q (bytesP xs) = 1 := by unfold joE; rw [hw, if_neg (by decide)]
      unfold joV joB; rw [he, if_neg (by decide)]; rfl)
    clear hm hl hx
    go_enter Tryz.func31, Tryz.ntmps31
    go_wp2_with fail
    refine (HHD.out w).mono ?_
    rintro e w1 ⟨rfl, hb⟩
    have HB := Lib.hid hb
    clear hb
    go_wp2_with fail
    go_ret2
    exact ⟨HV.out.symm, HB.out⟩
end Go.Proofs.YtkccdffccjgajaaGreatDoor.Seg
