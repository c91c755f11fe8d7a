import Derived.Test.YthaafniahkejkaaRC
import Derived.Test.YthaafniahkejkaaLOne
/-
  The walk of the statement FrameBurst.
-/
namespace Go.Proofs.Ythaafniahkejkaa.Frame
open Go Go.RowKit
open Go.Proofs.Ythaafniahkejkaa.Wire (S S_list S_size cell_row frozen_row)

theorem rem_ok (a : Int) (n : Nat) (h0 : 0 < n) (hn : n ≤ 100000) : ∃ f : Nat, f < n ∧ wrap64 ((IntKind.u64.wrap a).tmod (n : Int)) = (f : Int) := by
  have h1 : 0 ≤ IntKind.u64.wrap a := by rw [IntKind.wrap_u64]; exact Int.emod_nonneg _ (by decide)
  rw [Int.tmod_eq_emod_of_nonneg h1]
  have h2 := Int.emod_nonneg (IntKind.u64.wrap a) (show (n : Int) ≠ 0 by omega)
  have h3 := Int.emod_lt_of_pos (IntKind.u64.wrap a) (show 0 < (n : Int) by omega)
  generalize IntKind.u64.wrap a % (n : Int) = z at *
  exact ⟨z.toNat, by omega, by rw [IntWalk.wrap64_in z ⟨by omega, by omega⟩]; omega⟩
/-- what a byte becomes -/
def gB (L : List UInt8) (k B : Nat) (i : Nat) : UInt8 := L.getD (k + i) 0 ^^^ UInt8.ofNat (B / 2 ^ (8 * i))
theorem gB_val (L : List UInt8) (k B i : Nat) (h : k + i < L.length) : bits .xor .u8 (L[k + i].toNat : Int) ((B : Int) / 2 ^ (8 * i) % 256) = ((gB L k B i).toNat : Int) := by
  have e : (B : Int) / 2 ^ (8 * i) % 256 = ((B / 2 ^ (8 * i) % 256 : Nat) : Int) := by
    have : ((2 : Int) ^ (8 * i)) = ((2 ^ (8 * i) : Nat) : Int) := by simp
    rw [this]; rfl
  rw [e, u8_xor_nat _ _ (UInt8.toNat_lt _) (Nat.mod_lt _ (by decide))]
  unfold gB
  rw [UInt8.toNat_xor, List.getD_eq_getElem?_getD, List.getElem?_eq_getElem h, Option.getD_some, UInt8.toNat_ofNat']
theorem bur_here (L : List UInt8) (k : Nat) (g : Nat → UInt8) (i : Nat) (h : k + i < L.length) (h' : k + i < (bur L k g i).length) : (bur L k g i)[k + i] = L[k + i] := by
  have := bur_get L k g i i (Nat.le_refl _)
  rw [List.getElem?_eq_getElem h, List.getElem?_eq_getElem h'] at this
  exact Option.some.inj this
theorem rd_at0 (l : List UInt8) : rdV (S l) 0 = if rdE l = 0 then .tuple #[frV (rdQ l) (rdP l) 0, .int .i64 (rdK l : Int), .int .i64 0] else .tuple #[frV 0 [] 0, .int .i64 0, .int .i64 (rdE l : Int)] := by
  unfold rdV
  rw [if_pos ⟨Int.le_refl _, by omega⟩, S_list, show (0 : Int).toNat = 0 from rfl, List.drop_zero, Int.zero_add]
theorem str_ne {a b : List UInt8} (h : ¬ a = b) : ((S a).toList == (S b).toList) = false := by
  rw [ByteArray.toList_eq, ByteArray.toList_eq]; exact beq_eq_false_iff_ne.2 h
theorem bur_wov (L : List UInt8) (k : Nat) (g : Nat → UInt8) (i : Nat) (h : k + i ≤ L.length) : ∃ D : List UInt8, D.length = i ∧ bur L k g i = wov L k D :=
  ⟨(List.range i).map g, by simp, by rw [bur_is L k g i h]; unfold wov; simp⟩

set_option maxRecDepth 100000 in
set_option maxHeartbeats 8000000 in
theorem burst_0 (q : Int) (s : ByteArray) (a2 a3 : Int) (B : Nat) (hq : mkE q s.data.toList = 0) (hs : s.size ≤ 6000) (ht : a2.tmod 3 = 0) (hB : B < 4294967296) (w : World) :
    Calls Try.prog 8 #[.int .i64 q, .string s, .int .u8 a2, .int .i64 a3, .int .u32 (B : Int)] w fun e w' => e = .returned (.bool true) ∧ Below w.heap.size w w' := by
  have HW := Lib.hid (fun W => works_any W)
  have hmm := fun W => Make_any q s (by omega) W
  unfold mkV mkB at hmm
  rw [if_pos hq, hq] at hmm
  have HMM := Lib.hid hmm
  have z0 : decide ((6000 : Int) < (s.size : Int)) = false := decide_eq_false (by omega)
  have z1 : decide (6000 < s.size) = false := decide_eq_false (by omega)
  obtain ⟨hq0, hq1, hp1, hp4⟩ := mkE_zero hq
  rw [s_len] at hp1 hp4
  have HQ := Lib.hid (And.intro hq0 (And.intro hq1 (And.intro hp1 hp4)))
  obtain ⟨L, hL⟩ : ∃ L, frB q.toNat s.data.toList = L := ⟨_, rfl⟩
  have HL := Lib.hid hL
  rw [hL] at HMM
  have hFl : (S L).size = 16 + s.size := by rw [S_size, ← hL, frB_length, s_len]
  have hLl : L.length = 16 + s.size := by rw [← hL, frB_length, s_len]
  have HLL := Lib.hid hLl
  obtain ⟨f, hf, hw⟩ := rem_ok a3 s.size (by omega) (by omega)
  obtain ⟨k, hk⟩ : ∃ k : Nat, k = 16 + f := ⟨_, rfl⟩
  have hkk : wrap64 (16 + wrap64 ((IntKind.u64.wrap a3).tmod (16 + (s.size : Int) - 16))) = (k : Int) := by
    rw [show ((16 + (s.size : Int) - 16) : Int) = ((s.size : Nat) : Int) by omega, hw, IntWalk.wrap64_in _ ⟨by omega, by omega⟩]; omega
  have HK := Lib.hid (show 16 ≤ k ∧ k < (16 + s.size) by omega)
  have hu8 : IntKind.u8.wrap (a2.tmod 3) = 0 := by rw [ht]; rfl
  clear hmm hL hLl hw hf hk hq hq0 hq1 hp4
  go_enter Try.func8, Try.ntmps8
  go_wp2_with fail
  refine (HW.out _).mono ?_
  rintro e w1 ⟨rfl, hb⟩
  have HB := Lib.hid hb; clear hb
  go_wp2_with fail
  refine (HMM.out _).mono ?_
  rintro e w2 ⟨rfl, hb⟩
  replace HB := Lib.hid (HB.out.trans (hb.mono HB.out.size)); clear hb
  obtain ⟨W, cap, hrun, hbuf, hbelW, hcap, hWs⟩ := conv_string w2 (S L)
  have HBF := Lib.hid (show Buf W w2.heap.size (bur L k (gB L k B) 0) from hbuf)
  have HBL := Lib.hid (HB.out.trans (hbelW.mono HB.out.size))
  have HWB := Lib.hid HB.out.size
  clear hbuf hbelW hcap hWs
  go_wp2_with fail
  clear hrun
  rw [hkk]
  go_loopw [17] (fun y wr => ∃ i : Nat, i ≤ 4 ∧ k + i ≤ (16 + s.size) ∧ y = .int .i64 (i : Int) ∧ Hid (Buf wr w2.heap.size (bur L k (gB L k B) i)) ∧ Hid (Below w.heap.size w wr)) (fun y _ => 4 - (intOf y).toNat)
  case atStart => exact ⟨0, by omega, by have := HK.out; omega, rfl, HBF, HBL⟩
  case round =>
    clear HBF HBL
    obtain ⟨i, hi4, hit, rfl, HBF, HBL⟩ := hrel
    have hki : wrap64 ((k : Int) + (i : Int)) = (k : Int) + (i : Int) := IntWalk.wrap64_in _ ⟨by omega, by have := HK.out; omega⟩
    by_cases hlt : i < 4 ∧ k + i < (16 + s.size)
    · obtain ⟨h4, hkt⟩ := hlt
      have hil : k + i < L.length := by have := HLL.out; omega
      have hbl : k + i < (bur L k (gB L k B) i).length := by rw [bur_length]; exact hil
      have hcell := (HBF.out.2 (k + i) hbl).1
      have hfroz := (HBF.out.2 (k + i) hbl).2
      rw [bur_here L k (gB L k B) i hil hbl] at hcell
      have hxv := gB_val L k B i hil
      have HST := Lib.hid (HBF.out.store (k + i) (gB L k B i) hbl)
      have g1 : (i : Int) < 4 := by omega
      have g2 : (k : Int) + (i : Int) < (16 + (s.size : Int)) := by omega
      have g3 : k + i < 16 + s.size := by have := HLL.out; omega
      have g4 : wrap64 (8 * (i : Int)) = 8 * (i : Int) := IntWalk.wrap64_in _ ⟨by omega, by omega⟩
      have g5 : IntKind.u64.wrap (8 * (i : Int)) = 8 * (i : Int) := by rw [IntKind.wrap_u64]; omega
      have g6 : (8 * (i : Int)).toNat = 8 * i := by omega
      have HST2 := Lib.hid (HBL.out.setCell (p := ⟨w2.heap.size, k + i, none⟩) HWB.out (.int .u8 ((gB L k B i).toNat : Int)))
      go_wp2_with fail
      go_roundw
      case rel => exact ⟨i + 1, by omega, by omega, by go_num, HST.out, HST2.out⟩
      case measure => simp [intOf]; omega
    · obtain ⟨D, hD, hbw⟩ := bur_wov L k (gB L k B) i (by have := HLL.out; omega)
      have hcv := conv_bytes wr w2.heap.size 0 (16 + s.size) cap (bur L k (gB L k B) i) (by rw [bur_length]; exact HLL.out.symm) HBF.out.row.2
      have hlen : (bur L k (gB L k B) i).length = L.length := bur_length _ _ _ _
      have hres := burst_fr q.toNat s.data.toList 0 k D (by have := HQ.out; omega) (by rw [s_len]; exact HQ.out.2.2.1) (by rw [s_len]; exact HQ.out.2.2.2) (by omega) (show 16 ≤ k from HK.out.1) (by rw [s_len]; show _ ≤ (16 + s.size); omega)
      rw [HL.out, ← hbw] at hres
      have hsz : (S (bur L k (gB L k B) i)).size ≤ 1000000000000 := by rw [S_size, hlen]; have := HLL.out; omega
      have HREAD := Lib.hid (fun W => Read_any (S (bur L k (gB L k B) i)) 0 hsz W)
      rw [rd_at0] at HREAD
      have hex : ¬ ((i : Int) < 4 ∧ (k : Int) + (i : Int) < (16 + (s.size : Int))) := fun h => hlt ⟨by omega, by omega⟩
      clear hlt hi4 hit hbw hsz hlen
      generalize hL2 : bur L k (gB L k B) i = L2 at *
      by_cases he : L2 = L
      · subst he
        obtain ⟨p1, p2, p3, p4⟩ := fr_parts q.toNat s.data.toList [] (by have := HQ.out; omega) (by rw [s_len]; exact HQ.out.2.2.2)
        have p5 := rd_fr q.toNat s.data.toList [] (by have := HQ.out; omega) (by rw [s_len]; exact HQ.out.2.2.1) (by rw [s_len]; exact HQ.out.2.2.2)
        rw [List.append_nil, HL.out] at p2 p4 p5
        rw [if_pos p5, p2, p4] at HREAD
        have hqq : ((q.toNat : Nat) : Int) = q := by have := HQ.out; omega
        rw [hqq] at HREAD
        unfold frV at HREAD
        rw [show S s.data.toList = s from rfl] at HREAD
        generalize (rdK L2 : Int) = nn at HREAD
        clear p1 p2 p3 p4 p5 hres
        by_cases hi : (i : Int) < 4
        · have hi2 : ¬ (k : Int) + (i : Int) < (16 + (s.size : Int)) := fun h => hex ⟨hi, h⟩
          clear hex
          go_wp2_with fail
          refine (HREAD.out _).mono ?_
          rintro e w3 ⟨rfl, hb⟩
          have HB9 := Lib.hid (HBL.out.trans (hb.mono HBL.out.size)); clear hb
          go_wp2_with fail
          go_ret
          exact ⟨rfl, HB9.out.alloc HB9.out.size _⟩
        · clear hex
          go_wp2_with fail
          refine (HREAD.out _).mono ?_
          rintro e w3 ⟨rfl, hb⟩
          have HB9 := Lib.hid (HBL.out.trans (hb.mono HBL.out.size)); clear hb
          go_wp2_with fail
          go_ret
          exact ⟨rfl, HB9.out.alloc HB9.out.size _⟩
      · have hne := str_ne he
        have hres2 := hres.resolve_left he
        obtain ⟨x, hx, hxc⟩ : ∃ x : Nat, rdE L2 = x ∧ (x = 42 ∨ (0 = 1 ∧ x = 4)) := ⟨_, rfl, hres2⟩
        have hx0 : ¬ rdE L2 = 0 := by omega
        rw [if_neg hx0, hx, zero_fr] at HREAD
        clear hres hres2 hx0 hx he
        by_cases hi : (i : Int) < 4
        · have hi2 : ¬ (k : Int) + (i : Int) < (16 + (s.size : Int)) := fun h => hex ⟨hi, h⟩
          clear hex
          rcases hxc with rfl | ⟨h01, _⟩
          · go_wp2_with fail
            refine (HREAD.out _).mono ?_
            rintro e w3 ⟨rfl, hb⟩
            have HB9 := Lib.hid (HBL.out.trans (hb.mono HBL.out.size)); clear hb
            go_wp2_with fail
            go_ret
            exact ⟨rfl, HB9.out.alloc HB9.out.size _⟩
          · exact absurd h01 (by decide)
        · clear hex
          rcases hxc with rfl | ⟨h01, _⟩
          · go_wp2_with fail
            refine (HREAD.out _).mono ?_
            rintro e w3 ⟨rfl, hb⟩
            have HB9 := Lib.hid (HBL.out.trans (hb.mono HBL.out.size)); clear hb
            go_wp2_with fail
            go_ret
            exact ⟨rfl, HB9.out.alloc HB9.out.size _⟩
          · exact absurd h01 (by decide)

set_option maxRecDepth 100000 in
set_option maxHeartbeats 8000000 in
theorem burst_1 (q : Int) (s : ByteArray) (a2 a3 : Int) (B : Nat) (hq : mkE q s.data.toList = 0) (hs : s.size ≤ 6000) (ht : a2.tmod 3 = 1) (hB : B < 4294967296) (w : World) :
    Calls Try.prog 8 #[.int .i64 q, .string s, .int .u8 a2, .int .i64 a3, .int .u32 (B : Int)] w fun e w' => e = .returned (.bool true) ∧ Below w.heap.size w w' := by
  have HW := Lib.hid (fun W => works_any W)
  have hmm := fun W => Make_any q s (by omega) W
  unfold mkV mkB at hmm
  rw [if_pos hq, hq] at hmm
  have HMM := Lib.hid hmm
  have z0 : decide ((6000 : Int) < (s.size : Int)) = false := decide_eq_false (by omega)
  have z1 : decide (6000 < s.size) = false := decide_eq_false (by omega)
  obtain ⟨hq0, hq1, hp1, hp4⟩ := mkE_zero hq
  rw [s_len] at hp1 hp4
  have HQ := Lib.hid (And.intro hq0 (And.intro hq1 (And.intro hp1 hp4)))
  obtain ⟨L, hL⟩ : ∃ L, frB q.toNat s.data.toList = L := ⟨_, rfl⟩
  have HL := Lib.hid hL
  rw [hL] at HMM
  have hFl : (S L).size = 16 + s.size := by rw [S_size, ← hL, frB_length, s_len]
  have hLl : L.length = 16 + s.size := by rw [← hL, frB_length, s_len]
  have HLL := Lib.hid hLl
  obtain ⟨f, hf, hw⟩ := rem_ok a3 8 (by omega) (by omega)
  obtain ⟨k, hk⟩ : ∃ k : Nat, k = 4 + f := ⟨_, rfl⟩
  have hkk : wrap64 (4 + wrap64 ((IntKind.u64.wrap a3).tmod 8)) = (k : Int) := by
    rw [show (8 : Int) = ((8 : Nat) : Int) by omega, hw, IntWalk.wrap64_in _ ⟨by omega, by omega⟩]; omega
  have HK := Lib.hid (show 4 ≤ k ∧ k < 12 by omega)
  have hu8 : IntKind.u8.wrap (a2.tmod 3) = 1 := by rw [ht]; rfl
  clear hmm hL hLl hw hf hk hq hq0 hq1 hp4
  go_enter Try.func8, Try.ntmps8
  go_wp2_with fail
  refine (HW.out _).mono ?_
  rintro e w1 ⟨rfl, hb⟩
  have HB := Lib.hid hb; clear hb
  go_wp2_with fail
  refine (HMM.out _).mono ?_
  rintro e w2 ⟨rfl, hb⟩
  replace HB := Lib.hid (HB.out.trans (hb.mono HB.out.size)); clear hb
  obtain ⟨W, cap, hrun, hbuf, hbelW, hcap, hWs⟩ := conv_string w2 (S L)
  have HBF := Lib.hid (show Buf W w2.heap.size (bur L k (gB L k B) 0) from hbuf)
  have HBL := Lib.hid (HB.out.trans (hbelW.mono HB.out.size))
  have HWB := Lib.hid HB.out.size
  clear hbuf hbelW hcap hWs
  go_wp2_with fail
  clear hrun
  rw [hkk]
  go_loopw [17] (fun y wr => ∃ i : Nat, i ≤ 4 ∧ k + i ≤ 12 ∧ y = .int .i64 (i : Int) ∧ Hid (Buf wr w2.heap.size (bur L k (gB L k B) i)) ∧ Hid (Below w.heap.size w wr)) (fun y _ => 4 - (intOf y).toNat)
  case atStart => exact ⟨0, by omega, by have := HK.out; omega, rfl, HBF, HBL⟩
  case round =>
    clear HBF HBL
    obtain ⟨i, hi4, hit, rfl, HBF, HBL⟩ := hrel
    have hki : wrap64 ((k : Int) + (i : Int)) = (k : Int) + (i : Int) := IntWalk.wrap64_in _ ⟨by omega, by have := HK.out; omega⟩
    by_cases hlt : i < 4 ∧ k + i < 12
    · obtain ⟨h4, hkt⟩ := hlt
      have hil : k + i < L.length := by have := HLL.out; omega
      have hbl : k + i < (bur L k (gB L k B) i).length := by rw [bur_length]; exact hil
      have hcell := (HBF.out.2 (k + i) hbl).1
      have hfroz := (HBF.out.2 (k + i) hbl).2
      rw [bur_here L k (gB L k B) i hil hbl] at hcell
      have hxv := gB_val L k B i hil
      have HST := Lib.hid (HBF.out.store (k + i) (gB L k B i) hbl)
      have g1 : (i : Int) < 4 := by omega
      have g2 : (k : Int) + (i : Int) < 12 := by omega
      have g3 : k + i < 16 + s.size := by have := HLL.out; omega
      have g4 : wrap64 (8 * (i : Int)) = 8 * (i : Int) := IntWalk.wrap64_in _ ⟨by omega, by omega⟩
      have g5 : IntKind.u64.wrap (8 * (i : Int)) = 8 * (i : Int) := by rw [IntKind.wrap_u64]; omega
      have g6 : (8 * (i : Int)).toNat = 8 * i := by omega
      have HST2 := Lib.hid (HBL.out.setCell (p := ⟨w2.heap.size, k + i, none⟩) HWB.out (.int .u8 ((gB L k B i).toNat : Int)))
      go_wp2_with fail
      go_roundw
      case rel => exact ⟨i + 1, by omega, by omega, by go_num, HST.out, HST2.out⟩
      case measure => simp [intOf]; omega
    · obtain ⟨D, hD, hbw⟩ := bur_wov L k (gB L k B) i (by have := HLL.out; omega)
      have hcv := conv_bytes wr w2.heap.size 0 (16 + s.size) cap (bur L k (gB L k B) i) (by rw [bur_length]; exact HLL.out.symm) HBF.out.row.2
      have hlen : (bur L k (gB L k B) i).length = L.length := bur_length _ _ _ _
      have hres := burst_fr q.toNat s.data.toList 1 k D (by have := HQ.out; omega) (by rw [s_len]; exact HQ.out.2.2.1) (by rw [s_len]; exact HQ.out.2.2.2) (by omega) (show 4 ≤ k from HK.out.1) (by rw [s_len]; show _ ≤ 12; omega)
      rw [HL.out, ← hbw] at hres
      have hsz : (S (bur L k (gB L k B) i)).size ≤ 1000000000000 := by rw [S_size, hlen]; have := HLL.out; omega
      have HREAD := Lib.hid (fun W => Read_any (S (bur L k (gB L k B) i)) 0 hsz W)
      rw [rd_at0] at HREAD
      have hex : ¬ ((i : Int) < 4 ∧ (k : Int) + (i : Int) < 12) := fun h => hlt ⟨by omega, by omega⟩
      clear hlt hi4 hit hbw hsz hlen
      generalize hL2 : bur L k (gB L k B) i = L2 at *
      by_cases he : L2 = L
      · subst he
        obtain ⟨p1, p2, p3, p4⟩ := fr_parts q.toNat s.data.toList [] (by have := HQ.out; omega) (by rw [s_len]; exact HQ.out.2.2.2)
        have p5 := rd_fr q.toNat s.data.toList [] (by have := HQ.out; omega) (by rw [s_len]; exact HQ.out.2.2.1) (by rw [s_len]; exact HQ.out.2.2.2)
        rw [List.append_nil, HL.out] at p2 p4 p5
        rw [if_pos p5, p2, p4] at HREAD
        have hqq : ((q.toNat : Nat) : Int) = q := by have := HQ.out; omega
        rw [hqq] at HREAD
        unfold frV at HREAD
        rw [show S s.data.toList = s from rfl] at HREAD
        generalize (rdK L2 : Int) = nn at HREAD
        clear p1 p2 p3 p4 p5 hres
        by_cases hi : (i : Int) < 4
        · have hi2 : ¬ (k : Int) + (i : Int) < 12 := fun h => hex ⟨hi, h⟩
          clear hex
          go_wp2_with fail
          refine (HREAD.out _).mono ?_
          rintro e w3 ⟨rfl, hb⟩
          have HB9 := Lib.hid (HBL.out.trans (hb.mono HBL.out.size)); clear hb
          go_wp2_with fail
          go_ret
          exact ⟨rfl, HB9.out.alloc HB9.out.size _⟩
        · clear hex
          go_wp2_with fail
          refine (HREAD.out _).mono ?_
          rintro e w3 ⟨rfl, hb⟩
          have HB9 := Lib.hid (HBL.out.trans (hb.mono HBL.out.size)); clear hb
          go_wp2_with fail
          go_ret
          exact ⟨rfl, HB9.out.alloc HB9.out.size _⟩
      · have hne := str_ne he
        have hres2 := hres.resolve_left he
        obtain ⟨x, hx, hxc⟩ : ∃ x : Nat, rdE L2 = x ∧ (x = 42 ∨ (1 = 1 ∧ x = 4)) := ⟨_, rfl, hres2⟩
        have hx0 : ¬ rdE L2 = 0 := by omega
        rw [if_neg hx0, hx, zero_fr] at HREAD
        clear hres hres2 hx0 hx he
        by_cases hi : (i : Int) < 4
        · have hi2 : ¬ (k : Int) + (i : Int) < 12 := fun h => hex ⟨hi, h⟩
          clear hex
          rcases hxc with rfl | ⟨_, rfl⟩
          · go_wp2_with fail
            refine (HREAD.out _).mono ?_
            rintro e w3 ⟨rfl, hb⟩
            have HB9 := Lib.hid (HBL.out.trans (hb.mono HBL.out.size)); clear hb
            go_wp2_with fail
            go_ret
            exact ⟨rfl, HB9.out.alloc HB9.out.size _⟩
          · go_wp2_with fail
            refine (HREAD.out _).mono ?_
            rintro e w3 ⟨rfl, hb⟩
            have HB9 := Lib.hid (HBL.out.trans (hb.mono HBL.out.size)); clear hb
            go_wp2_with fail
            go_ret
            exact ⟨rfl, HB9.out.alloc HB9.out.size _⟩
        · clear hex
          rcases hxc with rfl | ⟨_, rfl⟩
          · go_wp2_with fail
            refine (HREAD.out _).mono ?_
            rintro e w3 ⟨rfl, hb⟩
            have HB9 := Lib.hid (HBL.out.trans (hb.mono HBL.out.size)); clear hb
            go_wp2_with fail
            go_ret
            exact ⟨rfl, HB9.out.alloc HB9.out.size _⟩
          · go_wp2_with fail
            refine (HREAD.out _).mono ?_
            rintro e w3 ⟨rfl, hb⟩
            have HB9 := Lib.hid (HBL.out.trans (hb.mono HBL.out.size)); clear hb
            go_wp2_with fail
            go_ret
            exact ⟨rfl, HB9.out.alloc HB9.out.size _⟩

set_option maxRecDepth 100000 in
set_option maxHeartbeats 8000000 in
theorem burst_2 (q : Int) (s : ByteArray) (a2 a3 : Int) (B : Nat) (hq : mkE q s.data.toList = 0) (hs : s.size ≤ 6000) (ht : a2.tmod 3 = 2) (hB : B < 4294967296) (w : World) :
    Calls Try.prog 8 #[.int .i64 q, .string s, .int .u8 a2, .int .i64 a3, .int .u32 (B : Int)] w fun e w' => e = .returned (.bool true) ∧ Below w.heap.size w w' := by
  have HW := Lib.hid (fun W => works_any W)
  have hmm := fun W => Make_any q s (by omega) W
  unfold mkV mkB at hmm
  rw [if_pos hq, hq] at hmm
  have HMM := Lib.hid hmm
  have z0 : decide ((6000 : Int) < (s.size : Int)) = false := decide_eq_false (by omega)
  have z1 : decide (6000 < s.size) = false := decide_eq_false (by omega)
  obtain ⟨hq0, hq1, hp1, hp4⟩ := mkE_zero hq
  rw [s_len] at hp1 hp4
  have HQ := Lib.hid (And.intro hq0 (And.intro hq1 (And.intro hp1 hp4)))
  obtain ⟨L, hL⟩ : ∃ L, frB q.toNat s.data.toList = L := ⟨_, rfl⟩
  have HL := Lib.hid hL
  rw [hL] at HMM
  have hFl : (S L).size = 16 + s.size := by rw [S_size, ← hL, frB_length, s_len]
  have hLl : L.length = 16 + s.size := by rw [← hL, frB_length, s_len]
  have HLL := Lib.hid hLl
  obtain ⟨f, hf, hw⟩ := rem_ok a3 4 (by omega) (by omega)
  obtain ⟨k, hk⟩ : ∃ k : Nat, k = 12 + f := ⟨_, rfl⟩
  have hkk : wrap64 (12 + wrap64 ((IntKind.u64.wrap a3).tmod 4)) = (k : Int) := by
    rw [show (4 : Int) = ((4 : Nat) : Int) by omega, hw, IntWalk.wrap64_in _ ⟨by omega, by omega⟩]; omega
  have HK := Lib.hid (show 12 ≤ k ∧ k < 16 by omega)
  have hu8 : IntKind.u8.wrap (a2.tmod 3) = 2 := by rw [ht]; rfl
  clear hmm hL hLl hw hf hk hq hq0 hq1 hp4
  go_enter Try.func8, Try.ntmps8
  go_wp2_with fail
  refine (HW.out _).mono ?_
  rintro e w1 ⟨rfl, hb⟩
  have HB := Lib.hid hb; clear hb
  go_wp2_with fail
  refine (HMM.out _).mono ?_
  rintro e w2 ⟨rfl, hb⟩
  replace HB := Lib.hid (HB.out.trans (hb.mono HB.out.size)); clear hb
  obtain ⟨W, cap, hrun, hbuf, hbelW, hcap, hWs⟩ := conv_string w2 (S L)
  have HBF := Lib.hid (show Buf W w2.heap.size (bur L k (gB L k B) 0) from hbuf)
  have HBL := Lib.hid (HB.out.trans (hbelW.mono HB.out.size))
  have HWB := Lib.hid HB.out.size
  clear hbuf hbelW hcap hWs
  go_wp2_with fail
  clear hrun
  rw [hkk]
  go_loopw [17] (fun y wr => ∃ i : Nat, i ≤ 4 ∧ k + i ≤ 16 ∧ y = .int .i64 (i : Int) ∧ Hid (Buf wr w2.heap.size (bur L k (gB L k B) i)) ∧ Hid (Below w.heap.size w wr)) (fun y _ => 4 - (intOf y).toNat)
  case atStart => exact ⟨0, by omega, by have := HK.out; omega, rfl, HBF, HBL⟩
  case round =>
    clear HBF HBL
    obtain ⟨i, hi4, hit, rfl, HBF, HBL⟩ := hrel
    have hki : wrap64 ((k : Int) + (i : Int)) = (k : Int) + (i : Int) := IntWalk.wrap64_in _ ⟨by omega, by have := HK.out; omega⟩
    by_cases hlt : i < 4 ∧ k + i < 16
    · obtain ⟨h4, hkt⟩ := hlt
      have hil : k + i < L.length := by have := HLL.out; omega
      have hbl : k + i < (bur L k (gB L k B) i).length := by rw [bur_length]; exact hil
      have hcell := (HBF.out.2 (k + i) hbl).1
      have hfroz := (HBF.out.2 (k + i) hbl).2
      rw [bur_here L k (gB L k B) i hil hbl] at hcell
      have hxv := gB_val L k B i hil
      have HST := Lib.hid (HBF.out.store (k + i) (gB L k B i) hbl)
      have g1 : (i : Int) < 4 := by omega
      have g2 : (k : Int) + (i : Int) < 16 := by omega
      have g3 : k + i < 16 + s.size := by have := HLL.out; omega
      have g4 : wrap64 (8 * (i : Int)) = 8 * (i : Int) := IntWalk.wrap64_in _ ⟨by omega, by omega⟩
      have g5 : IntKind.u64.wrap (8 * (i : Int)) = 8 * (i : Int) := by rw [IntKind.wrap_u64]; omega
      have g6 : (8 * (i : Int)).toNat = 8 * i := by omega
      have HST2 := Lib.hid (HBL.out.setCell (p := ⟨w2.heap.size, k + i, none⟩) HWB.out (.int .u8 ((gB L k B i).toNat : Int)))
      go_wp2_with fail
      go_roundw
      case rel => exact ⟨i + 1, by omega, by omega, by go_num, HST.out, HST2.out⟩
      case measure => simp [intOf]; omega
    · obtain ⟨D, hD, hbw⟩ := bur_wov L k (gB L k B) i (by have := HLL.out; omega)
      have hcv := conv_bytes wr w2.heap.size 0 (16 + s.size) cap (bur L k (gB L k B) i) (by rw [bur_length]; exact HLL.out.symm) HBF.out.row.2
      have hlen : (bur L k (gB L k B) i).length = L.length := bur_length _ _ _ _
      have hres := burst_fr q.toNat s.data.toList 2 k D (by have := HQ.out; omega) (by rw [s_len]; exact HQ.out.2.2.1) (by rw [s_len]; exact HQ.out.2.2.2) (by omega) (show 12 ≤ k from HK.out.1) (by rw [s_len]; show _ ≤ 16; omega)
      rw [HL.out, ← hbw] at hres
      have hsz : (S (bur L k (gB L k B) i)).size ≤ 1000000000000 := by rw [S_size, hlen]; have := HLL.out; omega
      have HREAD := Lib.hid (fun W => Read_any (S (bur L k (gB L k B) i)) 0 hsz W)
      rw [rd_at0] at HREAD
      have hex : ¬ ((i : Int) < 4 ∧ (k : Int) + (i : Int) < 16) := fun h => hlt ⟨by omega, by omega⟩
      clear hlt hi4 hit hbw hsz hlen
      generalize hL2 : bur L k (gB L k B) i = L2 at *
      by_cases he : L2 = L
      · subst he
        obtain ⟨p1, p2, p3, p4⟩ := fr_parts q.toNat s.data.toList [] (by have := HQ.out; omega) (by rw [s_len]; exact HQ.out.2.2.2)
        have p5 := rd_fr q.toNat s.data.toList [] (by have := HQ.out; omega) (by rw [s_len]; exact HQ.out.2.2.1) (by rw [s_len]; exact HQ.out.2.2.2)
        rw [List.append_nil, HL.out] at p2 p4 p5
        rw [if_pos p5, p2, p4] at HREAD
        have hqq : ((q.toNat : Nat) : Int) = q := by have := HQ.out; omega
        rw [hqq] at HREAD
        unfold frV at HREAD
        rw [show S s.data.toList = s from rfl] at HREAD
        generalize (rdK L2 : Int) = nn at HREAD
        clear p1 p2 p3 p4 p5 hres
        by_cases hi : (i : Int) < 4
        · have hi2 : ¬ (k : Int) + (i : Int) < 16 := fun h => hex ⟨hi, h⟩
          clear hex
          go_wp2_with fail
          refine (HREAD.out _).mono ?_
          rintro e w3 ⟨rfl, hb⟩
          have HB9 := Lib.hid (HBL.out.trans (hb.mono HBL.out.size)); clear hb
          go_wp2_with fail
          go_ret
          exact ⟨rfl, HB9.out.alloc HB9.out.size _⟩
        · clear hex
          go_wp2_with fail
          refine (HREAD.out _).mono ?_
          rintro e w3 ⟨rfl, hb⟩
          have HB9 := Lib.hid (HBL.out.trans (hb.mono HBL.out.size)); clear hb
          go_wp2_with fail
          go_ret
          exact ⟨rfl, HB9.out.alloc HB9.out.size _⟩
      · have hne := str_ne he
        have hres2 := hres.resolve_left he
        obtain ⟨x, hx, hxc⟩ : ∃ x : Nat, rdE L2 = x ∧ (x = 42 ∨ (2 = 1 ∧ x = 4)) := ⟨_, rfl, hres2⟩
        have hx0 : ¬ rdE L2 = 0 := by omega
        rw [if_neg hx0, hx, zero_fr] at HREAD
        clear hres hres2 hx0 hx he
        by_cases hi : (i : Int) < 4
        · have hi2 : ¬ (k : Int) + (i : Int) < 16 := fun h => hex ⟨hi, h⟩
          clear hex
          rcases hxc with rfl | ⟨h01, _⟩
          · go_wp2_with fail
            refine (HREAD.out _).mono ?_
            rintro e w3 ⟨rfl, hb⟩
            have HB9 := Lib.hid (HBL.out.trans (hb.mono HBL.out.size)); clear hb
            go_wp2_with fail
            go_ret
            exact ⟨rfl, HB9.out.alloc HB9.out.size _⟩
          · exact absurd h01 (by decide)
        · clear hex
          rcases hxc with rfl | ⟨h01, _⟩
          · go_wp2_with fail
            refine (HREAD.out _).mono ?_
            rintro e w3 ⟨rfl, hb⟩
            have HB9 := Lib.hid (HBL.out.trans (hb.mono HBL.out.size)); clear hb
            go_wp2_with fail
            go_ret
            exact ⟨rfl, HB9.out.alloc HB9.out.size _⟩
          · exact absurd h01 (by decide)

set_option maxRecDepth 100000 in
set_option maxHeartbeats 4000000 in
theorem burst_law (q : Int) (s : ByteArray) (a2 a3 a4 : Int) (_w1 : s.size ≤ maxLen) (w2 : (Lit.int .u8 a2).wf = true) (w4 : (Lit.int .u32 a4).wf = true) (w : World) :
    Calls Try.prog 8 #[.int .i64 q, .string s, .int .u8 a2, .int .i64 a3, .int .u32 a4] w fun e w' => e = .returned (.bool true) ∧ Below w.heap.size w w' := by
  have h2 : 0 ≤ a2 ∧ a2 ≤ 255 := by simp [Lit.wf, IntKind.min, IntKind.max, IntKind.bits, IntKind.signed] at w2; omega
  have h4 : 0 ≤ a4 ∧ a4 ≤ 4294967295 := by simp [Lit.wf, IntKind.min, IntKind.max, IntKind.bits, IntKind.signed] at w4; omega
  obtain ⟨B, rfl⟩ : ∃ B : Nat, a4 = (B : Int) := ⟨a4.toNat, by omega⟩
  by_cases hs : s.size ≤ 6000
  · by_cases hq : mkE q s.data.toList = 0
    · have hm : a2.tmod 3 = 0 ∨ a2.tmod 3 = 1 ∨ a2.tmod 3 = 2 := by
        rw [Int.tmod_eq_emod_of_nonneg h2.1]; omega
      rcases hm with h | h | h
      · exact burst_0 q s a2 a3 B hq hs h (by omega) w
      · exact burst_1 q s a2 a3 B hq hs h (by omega) w
      · exact burst_2 q s a2 a3 B hq hs h (by omega) w
    · have HW := Lib.hid (fun W => works_any W)
      have hmm := fun W => Make_any q s (by omega) W
      unfold mkV mkB at hmm
      rw [if_neg hq] at hmm
      have HMM := Lib.hid hmm
      have z0 : decide ((6000 : Int) < (s.size : Int)) = false := decide_eq_false (by omega)
      have z1 : decide (6000 < s.size) = false := decide_eq_false (by omega)
      obtain ⟨q1, q2, q3, q4, q5⟩ := nat_ne hq
      generalize mkE q s.data.toList = x at HMM q1 q2 q3 q4 q5
      rw [show S [] = ⟨#[]⟩ from rfl] at HMM
      clear hmm hq h2 h4 hs w2 w4
      go_enter Try.func8, Try.ntmps8
      go_wp2_with fail
      refine (HW.out _).mono ?_
      rintro e w1 ⟨rfl, hb⟩
      have HB := Lib.hid hb; clear hb
      go_wp2_with fail
      refine (HMM.out _).mono ?_
      rintro e w2 ⟨rfl, hb⟩
      replace HB := Lib.hid (HB.out.trans (hb.mono HB.out.size)); clear hb
      go_wp2_with fail
      go_ret
      exact ⟨rfl, HB.out⟩
  · have HW := Lib.hid (fun W => works_any W)
    have z0 : (6000 : Int) < (s.size : Int) := by omega
    have z1 : 6000 < s.size := by omega
    clear hs h2 h4 w2 w4
    go_enter Try.func8, Try.ntmps8
    go_wp2_with fail
    refine (HW.out _).mono ?_
    rintro e w1 ⟨rfl, hb⟩
    have HB := Lib.hid hb; clear hb
    go_wp2_with fail
    refine (HW.out _).mono ?_
    rintro e w2 ⟨rfl, hb⟩
    replace HB := Lib.hid (HB.out.trans (hb.mono HB.out.size)); clear hb
    go_wp2_with fail
    go_ret
    exact ⟨rfl, HB.out⟩
end Go.Proofs.Ythaafniahkejkaa.Frame
