import Derived.Test.YtiibeemjkdipnaaGreatDoorE26
import Derived.Test.YtiibeemjkdipnaaGreatDoorGLUnlike
import Derived.Deep.RegionHeld3
/-
  The document's Bare and Encode; an event in new memory, and one that is written over.
-/
namespace Go.Proofs.YtiibeemjkdipnaaGreatDoor.Schema
open Go Go.RowKit

end Go.Proofs.YtiibeemjkdipnaaGreatDoor.Schema
namespace Go.Proofs.YtiibeemjkdipnaaGreatDoor.Codec
open Go Go.RowKit
open Go.Proofs.YtiibeemjkdipnaaGreatDoor.Wire (U fixB shortB textB refShort_any refText_any conv1_now conv1_drew conv1_after one_byte str1_size S_append below_a below_b)
open Go.Proofs.YtiibeemjkdipnaaGreatDoor.Schema

theorem S_snoc (l m : List UInt8) : Wire.S l ++ Wire.S m = Wire.S (l ++ m) := S_append l m
theorem kind_byte (k : Nat) (h : k < 256) : strOfNums [(k : Int)] = Wire.S (fixB 1 k) := by
  rw [one_byte k (k : Int) (by unfold U; omega)]
  rw [Wire.fix1]; rfl
set_option maxRecDepth 100000 in
set_option maxHeartbeats 2000000 in
theorem Bare_any (A : Option Addr) (ca : Nat) (C : Option Addr) (cc : Nat) (e : Ev) (w : World) (hA : EvAt w A ca C cc e) (hm : may e = true) :
    Calls Tryz.prog 30 #[evV A ca C cc e] w fun z w' => z = .returned (.string (Wire.S (bare e))) ∧ Below w.heap.size w w' := by
  have hb := (Below.refl w.heap.size w).alloc (Nat.le_refl _) (.cells #[.int .u8 e.v, .int .u8 e.k, .slice A e.ns.length ca, .slice C e.ts.length cc] 39)
  have HP := Lib.hid (show Four _ w.heap.size _ _ _ _ from box4 w (.int .u8 e.v) (.int .u8 e.k) (.slice A e.ns.length ca) (.slice C e.ts.length cc) 39)
  have HNs := Lib.hid (hA.ns.below hb)
  have HTs := Lib.hid (hA.ts.below hb)
  have HB := Lib.hid hb
  have HKB := Lib.hid (kind_byte e.k hA.k)
  have hk := hA.k
  have HMR := Lib.hid (fun j (hj : j < e.ns.length) => may_range hm j hj)
  have HMT := Lib.hid (fun j (hj : j < e.ts.length) => may_text hm j hj)
  have HML := Lib.hid (may_lens hm)
  have HBR := Lib.hid (show bare e = fixB 1 e.k ++ nsB e.ns ++ tsB e.ts from rfl)
  have hl1 : e.ns.length ≤ 9223372036854775807 := by have := (may_lens hm).1; omega
  have hl2 : e.ts.length ≤ 9223372036854775807 := by have := (may_lens hm).2; omega
  clear hb hA hm
  obtain ⟨v, kk, ns, ts⟩ := e
  simp only [evV] at *
  go_enter Tryz.func30, Tryz.ntmps30
  go_upto_region 1 with (fail)
  generalize w.alloc (.cells #[.int .u8 v, .int .u8 kk, .slice A ns.length ca, .slice C ts.length cc] 39) = W at HP HNs HTs HB ⊢
  obtain ⟨p0, p1, p2, p3⟩ := HP.out
  have hc1 := conv1_now
  have hb1 := (Below.refl W.heap.size W).alloc (Nat.le_refl _) (.cells #[.int .u8 (kk : Int)] 5)
  have HP1 := Lib.hid (HP.out.below hb1)
  have HN1 := Lib.hid (HNs.out.below hb1)
  have HT1 := Lib.hid (HTs.out.below hb1)
  have HB1 := Lib.hid (below_step HB.out hb1)
  clear hb1 HP HNs HTs HB
  go_wp2_with fail
  clear p0 p1 p2 p3 hc1
  rw [HKB.out]
  generalize W.alloc (.cells #[.int .u8 (kk : Int)] 5) = W1 at HP1 HN1 HT1 HB1 ⊢
  go_loopw [3, 4] (fun x j wr => ∃ k : Nat, j = .int .i64 k ∧ k ≤ ns.length ∧ x = .string (Wire.S (fixB 1 kk ++ nsB (ns.take k))) ∧ Hid (Below W1.heap.size W1 wr)) (fun _ j _ => ns.length - (intOf j).toNat)
  case atStart => exact ⟨0, rfl, Nat.zero_le _, by rw [nsB_zero, List.append_nil], Below.refl _ _⟩
  case round =>
    obtain ⟨k, rfl, hk2, rfl, HBk⟩ := hrel
    obtain ⟨p0, p1, p2, p3⟩ := HP1.out.below HBk.out
    by_cases hlt : k < ns.length
    · have z0 : (0 : Int) ≤ (k : Int) := by omega
      have z1 : (k : Int) < (ns.length : Int) := by omega
      obtain ⟨b, o, rfl, c0⟩ := (HN1.out.below HBk.out) k _ (nums_at ns k hlt)
      have hr := HMR.out k hlt
      have hcv := conv64 _ hr.1 hr.2
      have HS := Lib.hid (show Wire.S (fixB 1 kk ++ nsB (ns.take k)) ++ Wire.S (shortB (ns.getD k 0).toNat) = Wire.S (fixB 1 kk ++ nsB (ns.take (k + 1))) by rw [S_snoc, nsB_snoc ns k hlt, List.append_assoc])
      have hz1 : (Wire.S (fixB 1 kk ++ nsB (ns.take k))).size ≤ 100000 := by
        have h1 := nsB_len (ns.take k)
        have h2 := HML.out.1
        rw [List.length_take] at h1
        rw [S_size, List.length_append, Wire.fixB_length]; omega
      have hz2 : (Wire.S (shortB (ns.getD k 0).toNat)).size ≤ 11 := by rw [S_size]; exact Wire.shortB_le _
      have HRG := Lib.hid hr
      clear hr
      generalize ns.getD k 0 = x at c0 hcv HS hz2 HRG
      generalize hq1 : Wire.S (fixB 1 kk ++ nsB (ns.take k)) = s1 at HS hz1 ⊢
      clear hq1
      go_wp2_with fail
      have hx : Hid (x.toNat < 18446744073709551616) := by show _ < _; have := HRG.out; omega
      refine (refShort_any x.toNat wr hx).mono ?_
      rintro z W2 ⟨rfl, hb⟩
      have HB2 := Lib.hid (below_step HBk.out hb)
      clear hb
      go_wp2_with fail
      go_roundw
      case rel => exact ⟨k + 1, by go_num, by omega, by rw [HS.out], HB2⟩
      case measure => simp [intOf] <;> omega
    · have z1 : ¬ (k : Int) < (ns.length : Int) := by omega
      have hkk : k = ns.length := by omega
      rw [hkk, List.take_length]
      clear hkk hlt
      go_wp2_with fail
      clear p0 p1 p2 p3 z1
      have HP2 := Lib.hid (HP1.out.below HBk.out)
      have HT2 := Lib.hid (HT1.out.below HBk.out)
      have HB2 := Lib.hid (below_step HB1.out HBk.out)
      clear HP1 HN1 HT1 HB1 HBk
      generalize wr = W2 at HP2 HT2 HB2 ⊢
      go_loopw [3, 5] (fun x j wr => ∃ k : Nat, j = .int .i64 k ∧ k ≤ ts.length ∧ x = .string (Wire.S (fixB 1 kk ++ nsB ns ++ tsB (ts.take k))) ∧ Hid (Below W2.heap.size W2 wr)) (fun _ j _ => ts.length - (intOf j).toNat)
      case atStart => exact ⟨0, rfl, Nat.zero_le _, by rw [tsB_zero, List.append_nil], Below.refl _ _⟩
      case round =>
        obtain ⟨k, rfl, hk2, rfl, HBk⟩ := hrel
        obtain ⟨p0, p1, p2, p3⟩ := HP2.out.below HBk.out
        by_cases hlt : k < ts.length
        · have z0 : (0 : Int) ≤ (k : Int) := by omega
          have z1 : (k : Int) < (ts.length : Int) := by omega
          obtain ⟨b, o, rfl, c0⟩ := (HT2.out.below HBk.out) k _ (texts_at ts k hlt)
          have hr := HMT.out k hlt
          have HS := Lib.hid (show Wire.S (fixB 1 kk ++ nsB ns ++ tsB (ts.take k)) ++ Wire.S (textB (ts.getD k ByteArray.empty)) = Wire.S (fixB 1 kk ++ nsB ns ++ tsB (ts.take (k + 1))) by rw [S_snoc, tsB_snoc ts k hlt, List.append_assoc])
          have hk0 : k = 0 := by have := HML.out.2; omega
          have hz1 : (Wire.S (fixB 1 kk ++ nsB ns ++ tsB (ts.take k))).size ≤ 100000 := by
            have h1 := nsB_len ns
            have h2 := HML.out.1
            rw [hk0, tsB_zero, List.append_nil, S_size, List.length_append, Wire.fixB_length]; omega
          have hz2 : (Wire.S (textB (ts.getD k ByteArray.empty))).size ≤ 100 := by
            rw [S_size, textB_len]; have := Wire.shortB_le (ts.getD k ByteArray.empty).size; omega
          have HRG := Lib.hid hr
          clear hr hk0
          generalize ts.getD k ByteArray.empty = x at c0 HS hz2 HRG
          generalize hq1 : Wire.S (fixB 1 kk ++ nsB ns ++ tsB (ts.take k)) = s1 at HS hz1 ⊢
          clear hq1
          go_wp2_with fail
          refine (refText_any x wr (by have := HRG.out; omega)).mono ?_
          rintro z W3 ⟨rfl, hb⟩
          have HB3 := Lib.hid (below_step HBk.out hb)
          clear hb
          go_wp2_with fail
          go_roundw
          case rel => exact ⟨k + 1, by go_num, by omega, by rw [HS.out], HB3⟩
          case measure => simp [intOf] <;> omega
        · have z1 : ¬ (k : Int) < (ts.length : Int) := by omega
          have hkk : k = ts.length := by omega
          rw [hkk, List.take_length]
          clear hkk hlt
          go_wp2_with fail
          go_ret
          exact ⟨by rw [HBR.out]; rfl, below_step HB2.out HBk.out⟩

end Go.Proofs.YtiibeemjkdipnaaGreatDoor.Codec
