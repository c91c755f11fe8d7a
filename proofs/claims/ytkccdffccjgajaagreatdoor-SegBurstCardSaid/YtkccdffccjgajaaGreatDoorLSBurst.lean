import Derived.Test.YtkccdffccjgajaaGreatDoorNQ
/-
  The walk of the statement SegBurst.
-/
namespace Go.Proofs.YtkccdffccjgajaaGreatDoor.Seg
open Go Go.RowKit
open Go.Proofs.YtkccdffccjgajaaGreatDoor.Wire (S S_list S_size S_append cell_row frozen_row row_lt heap_set U)
open Go.Proofs.YtkccdffccjgajaaGreatDoor.Frame Go.Proofs.YtkccdffccjgajaaGreatDoor.Ranges
open Go.Proofs.YtkccdffccjgajaaGreatDoor.Crc (W ofW fourL tog tog_length anyB anyB_iff burst_of bit8 turn V word_bit raw_fourL raw_append addW raw it)

theorem seal_res (l : List UInt8) : ofW (l ++ fourL (ofW l)) = ~~~ it 32 (~~~ (0 : W)) := by
  have h : ofW (l ++ fourL (ofW l)) = ~~~ it 32 (raw (~~~ 0) l ^^^ ~~~ raw (~~~ 0) l) := by
    conv => lhs; unfold ofW addW
    rw [raw_append, raw_fourL]
  have e : raw (~~~ 0) l ^^^ ~~~ raw (~~~ 0) l = ~~~ (0 : W) := by
    apply BitVec.eq_of_getLsbD_eq; intro i hi
    have z : (0 : W).getLsbD i = false := by simp
    rw [BitVec.getLsbD_xor, BitVec.getLsbD_not, BitVec.getLsbD_not, z]; simp [hi]
  rw [h, e]
theorem tog_none (l : List UInt8) (f : Nat) (p : W) : ∀ k, anyB p k = false → tog l f p k = l
  | 0, _ => rfl
  | k + 1, h => by
    have h2 : (anyB p k || p.getLsbD k) = false := h
    rw [Bool.or_eq_false_iff] at h2
    simp only [tog]
    rw [h2.2]
    exact tog_none l f p k h2.1
/-- **a header with a burst of at most 32 bits is none** -/
theorem head_burst (q f : Nat) (p : W) (k : Nat) (hk : k ≤ 32) (hf : f + k ≤ 128) (m : List UInt8) : tog (segH q) f p k = segH q ∨ fiE (tog (segH q) f p k ++ m) = 42 ∨ fiE (tog (segH q) f p k ++ m) = 4 := by
  have hl : (tog (segH q) f p k).length = 16 := by rw [tog_length, segH_length]
  by_cases h0 : fiE (tog (segH q) f p k ++ m) = 0
  · left
    obtain ⟨_, _, h3, _⟩ := fi_parts h0
    have e1 : (tog (segH q) f p k ++ m).take 12 = (tog (segH q) f p k).take 12 := List.take_append_of_le_length (by omega)
    have e2 : ((tog (segH q) f p k ++ m).drop 12).take 4 = (tog (segH q) f p k).drop 12 := by
      rw [List.drop_append_of_le_length (by omega), List.take_append_of_le_length (by rw [List.length_drop]; omega), List.take_of_length_le (by rw [List.length_drop]; omega)]
    rw [e1, e2] at h3
    have h5 : tog (segH q) f p k = (tog (segH q) f p k).take 12 ++ fourL (ofW ((tog (segH q) f p k).take 12)) := by rw [h3, List.take_append_drop]
    have h6 : ofW (tog (segH q) f p k) = ofW (segH q) := by
      rw [h5, seal_res]
      unfold segH
      rw [seal_res]
    exact tog_none _ _ _ _ ((burst_of (segH q) f p k hk (by rw [segH_length]; omega)).1 h6.symm)
  · right
    have h8 : ¬ fiE (tog (segH q) f p k ++ m) = 8 := by
      unfold fiE
      rw [if_neg (by rw [List.length_append]; omega)]
      split
      · decide
      · split
        · decide
        · split <;> decide
    unfold fiE at h0 h8 ⊢
    split at h0 <;> rename_i a1
    · rw [if_pos a1] at h8; exact absurd rfl h8
    · rw [if_neg a1]
      split at h0 <;> rename_i a2
      · rw [if_pos a2]; exact Or.inr rfl
      · rw [if_neg a2]
        split at h0 <;> rename_i a3
        · rw [if_pos a3]; exact Or.inl rfl
        · rw [if_neg a3]
          split at h0 <;> rename_i a4
          · rw [if_pos a4]; exact Or.inr rfl
          · exact absurd rfl h0
theorem from_bits (a : Int) : ∃ f : Nat, f < 128 ∧ wrap64 ((IntKind.u64.wrap a).tmod 128) = (f : Int) := by
  have h1 : 0 ≤ IntKind.u64.wrap a := by rw [IntKind.wrap_u64]; exact Int.emod_nonneg _ (by decide)
  rw [Int.tmod_eq_emod_of_nonneg h1]
  have h2 := Int.emod_nonneg (IntKind.u64.wrap a) (show (128 : Int) ≠ 0 by omega)
  have h3 := Int.emod_lt_of_pos (IntKind.u64.wrap a) (show 0 < (128 : Int) by omega)
  generalize IntKind.u64.wrap a % (128 : Int) = z at *
  exact ⟨z.toNat, by omega, by rw [IntWalk.wrap64_in z ⟨by omega, by omega⟩]; omega⟩
theorem turn_val (l : List UInt8) (q : Nat) (h : q / 8 < l.length) : bits .xor .u8 (l[q / 8].toNat : Int) ((2 : Int) ^ (q % 8) % (256 : Int)) = ((l.getD (q / 8) 0 ^^^ bit8 (q % 8)).toNat : Int) := by
  have hk : q % 8 < 8 := Nat.mod_lt _ (by omega)
  have h2 : 2 ^ (q % 8) < 2 ^ 8 := Nat.pow_lt_pow_right (by omega) hk
  have e : (2 : Int) ^ (q % 8) % (256 : Int) = ((2 ^ (q % 8) : Nat) : Int) := by
    generalize q % 8 = k at *
    have hc : k = 0 ∨ k = 1 ∨ k = 2 ∨ k = 3 ∨ k = 4 ∨ k = 5 ∨ k = 6 ∨ k = 7 := by omega
    rcases hc with rfl | rfl | rfl | rfl | rfl | rfl | rfl | rfl <;> rfl
  rw [e, u8_xor_nat _ _ (UInt8.toNat_lt _) h2, UInt8.toNat_xor, List.getD_eq_getElem?_getD, List.getElem?_eq_getElem h]
  congr 2
  unfold bit8; rw [UInt8.toNat_ofNat', Nat.mod_eq_of_lt h2]
theorem word_of {a : Int} (h : (Lit.int .u32 a).wf = true) : ∃ c : W, a = V c := by
  have h2 : 0 ≤ a ∧ a < 4294967296 := by simp [Lit.wf, IntKind.min, IntKind.max, IntKind.bits, IntKind.signed] at h; omega
  refine ⟨BitVec.ofNat 32 a.toNat, ?_⟩
  unfold V
  rw [BitVec.toNat_ofNat, Nat.mod_eq_of_lt (by omega)]; omega
theorem bytes_ne {a b : List UInt8} (h : ¬ a = b) : ((S a).toList == (S b).toList) = false := by
  rw [ByteArray.toList_eq, ByteArray.toList_eq]; exact beq_eq_false_iff_ne.2 h
set_option maxRecDepth 100000 in
set_option maxHeartbeats 8000000 in
theorem burst_ok (q : Nat) (a : Int) (p : W) (s : ByteArray) (w : World) (hq : q ≤ 1048576) (hs : s.size ≤ 5000) (E : Env w) :
    Calls Tryz.prog 11 #[.int .i64 (q : Int), .int .i64 a, .int .u32 (V p), .string s] w fun e w' => e = .returned (.bool true) ∧ Below w.heap.size w w' := by
  have HAW := Lib.hid (fun W EW => awake_any W EW)
  have HE := Lib.hid E
  have hm : mayF (q : Int) := ⟨by omega, by omega⟩
  have HH := Lib.hid (fun W => Header_any (q : Int) W)
  rw [show hdE (q : Int) = 0 from if_pos hm, show hdB (q : Int) = segH q from if_pos hm] at HH
  have HLL := Lib.hid (segH_length q)
  obtain ⟨fe, fn⟩ := fi_head q s.data.toList hq
  have fq : fiQ (segH q ++ s.data.toList) = q := by unfold fiQ; rw [if_pos fe, fn]
  have e1 : S (segH q) ++ s = S (segH q ++ s.data.toList) := by rw [← S_append, show S s.data.toList = s from rfl]
  have hs1 : (S (segH q ++ s.data.toList)).size = 16 + s.size := by rw [S_size, List.length_append, segH_length]; simp
  have HF := Lib.hid (fun W => First_any (S (segH q ++ s.data.toList)) (by omega) W)
  rw [S_list, fe, fq, ← e1] at HF
  have z0 : decide ((5000 : Int) < (s.size : Int)) = false := decide_eq_false (by omega)
  have z1 : decide (5000 < s.size) = false := decide_eq_false (by omega)
  have hhs : (S (segH q)).size = 16 := by rw [S_size, segH_length]
  obtain ⟨f, hf, hw⟩ := from_bits a
  have HW := Lib.hid hw
  have HS := Lib.hid hs
  have HBU := Lib.hid (fun k hk hf => head_burst q f p k hk hf s.data.toList)
  clear E hm fe fn fq e1 hs1 hw hs hq
  have hSL := S_list (segH q)
  generalize hL : segH q = L at *
  generalize hX : S L = X at *
  clear hL
  obtain ⟨hXs, hXL⟩ : X.size = 16 ∧ X.data.toList = L := ⟨hhs, hSL⟩
  have hcat1 : ¬ (X.size + s.size > 9223372036854775807) := by have := HS.out; omega
  have hcat2 : ¬ (16 + s.size > 9223372036854775807) := by have := HS.out; omega
  clear hSL
  go_enter Tryz.func11, Tryz.ntmps11
  go_wp2_with fail
  refine (HAW.out w HE.out).mono ?_
  rintro e w1 ⟨rfl, hb⟩
  have HB := Lib.hid hb; clear hb
  go_wp2_with fail
  refine (HH.out _).mono ?_
  rintro e w2 ⟨rfl, hb⟩
  replace HB := Lib.hid (HB.out.trans (hb.mono HB.out.size)); clear hb
  go_wp2_with fail
  refine (HF.out _).mono ?_
  rintro e w3 ⟨rfl, hb⟩
  replace HB := Lib.hid (HB.out.trans (hb.mono HB.out.size)); clear hb
  obtain ⟨W, cap, hrun, hbuf, hbelW, hcap, hWs⟩ := conv_string w3 X
  rw [hXL] at hbuf
  rw [hXs] at hrun
  have HBF := Lib.hid hbuf
  have HBL := Lib.hid (HB.out.trans (hbelW.mono HB.out.size))
  have HWB := Lib.hid HB.out.size
  clear hbuf hbelW hcap hWs
  go_wp2_with fail
  clear hrun
  try rw [HW.out]
  go_loopw [15] (fun y wr => ∃ i : Nat, i ≤ 32 ∧ f + i ≤ 128 ∧ y = .int .i64 (i : Int) ∧ Hid (Buf wr w3.heap.size (tog L f p i)) ∧ Hid (Below w.heap.size w wr)) (fun y _ => 32 - (intOf y).toNat)
  case atStart => exact ⟨0, by omega, by omega, rfl, HBF, HBL⟩
  case round =>
    clear HBF HBL
    obtain ⟨i, hi, hfi, rfl, HBF, HBL⟩ := hrel
    by_cases hlt : i < 32 ∧ f + i < 128
    · obtain ⟨h32, h128⟩ := hlt
      have hq8 : (f + i) / 8 < 16 := by omega
      have hcell := (HBF.out.2 ((f + i) / 8) (by rw [tog_length, HLL.out]; exact hq8)).1
      have hfroz := (HBF.out.2 ((f + i) / 8) (by rw [tog_length, HLL.out]; exact hq8)).2
      have hpb := word_bit p i
      have c1 : (i : Int) < 32 := by omega
      have c2 : (f : Int) + (i : Int) < 128 := by omega
      cases hp : p.getLsbD i
      · rw [hp] at hpb
        have hpb0 : bits .and .u32 (V p / 2 ^ i) 1 = 0 := hpb
        clear hpb hcell hfroz
        have HP := Lib.hid hp; clear hp
        go_wp2_with fail
        go_roundw
        case rel => exact ⟨i + 1, by omega, by omega, by go_num, (by show Hid (Buf _ _ (tog _ _ _ (i + 1))); simp only [tog]; rw [HP.out]; exact HBF), HBL⟩
        case measure => simp [intOf]; omega
      · rw [hp] at hpb
        have hpb1 : bits .and .u32 (V p / 2 ^ i) 1 = 1 := hpb
        clear hpb
        have HP := Lib.hid hp; clear hp
        go_wp2_with fail
        go_roundw
        case rel =>
          refine ⟨i + 1, by omega, by omega, by go_num, Lib.hid ?_, Lib.hid ?_⟩
          · show Buf _ _ (tog _ _ _ (i + 1))
            simp only [tog]; rw [HP.out, if_pos rfl, turn_val _ _ (by rw [tog_length, HLL.out]; exact hq8)]
            exact HBF.out.store _ _ (by rw [tog_length, HLL.out]; exact hq8)
          · exact HBL.out.setCell (p := ⟨w3.heap.size, (f + i) / 8, none⟩) HWB.out _
        case measure => simp [intOf]; omega
    · have hcv := conv_bytes wr w3.heap.size 0 16 cap (tog L f p i) (by rw [tog_length, HLL.out]) HBF.out.row.2
      have hbu := HBU.out i hi hfi
      have hlen : (tog L f p i).length = 16 := by rw [tog_length, HLL.out]
      have e2 : S (tog L f p i) ++ s = S (tog L f p i ++ s.data.toList) := by rw [← S_append, show S s.data.toList = s from rfl]
      have hs2 : (S (tog L f p i ++ s.data.toList)).size = 16 + s.size := by rw [S_size, List.length_append, hlen]; simp
      have HF2 := Lib.hid (fun W => First_any (S (tog L f p i ++ s.data.toList)) (by have := HS.out; omega) W)
      rw [S_list, ← e2] at HF2
      have hex : ¬ ((i : Int) < 32 ∧ (f : Int) + (i : Int) < 128) := fun h => hlt ⟨by omega, by omega⟩
      have hsz3 : (S (tog L f p i)).size = 16 := by rw [S_size, hlen]
      have HTL := Lib.hid hlen
      clear hlt e2 hs2 hlen
      have hne : ∀ h : ¬ tog L f p i = L, ((S (tog L f p i)).toList == X.toList) = false := fun h => by
        rw [← hX]; exact bytes_ne h
      have heq : tog L f p i = L → S (tog L f p i) = X := fun h => by rw [h, hX]
      generalize hT : tog L f p i = T at *
      by_cases he : T = L
      · have hY := heq he
        have HF3 : Hid (∀ W : World, Calls Tryz.prog 15 #[.string (X ++ s)] W fun e w' => e = .returned (.tuple #[.int .i64 (q : Int), .int .i64 0]) ∧ Below W.heap.size W w') := HF
        rw [hY] at hcv hsz3
        have HY := Lib.hid hY
        clear hne heq hbu HF2 hT he hY
        by_cases h32 : (i : Int) < 32
        · have h128 : ¬ (f : Int) + (i : Int) < 128 := fun h => hex ⟨h32, h⟩
          clear hex
          go_wp2_with fail
          refine (HF3.out _).mono ?_
          rintro e w4 ⟨rfl, hb⟩
          have HB9 := Lib.hid (HBL.out.trans (hb.mono HBL.out.size))
          have hcw := conv_bytes w4 w3.heap.size 0 16 cap T HTL.out.symm (HBF.out.below hb).row.2
          rw [HY.out] at hcw
          clear hb
          go_wp2_with fail
          go_ret
          exact ⟨rfl, HB9.out⟩
        · clear hex
          go_wp2_with fail
          refine (HF3.out _).mono ?_
          rintro e w4 ⟨rfl, hb⟩
          have HB9 := Lib.hid (HBL.out.trans (hb.mono HBL.out.size))
          have hcw := conv_bytes w4 w3.heap.size 0 16 cap T HTL.out.symm (HBF.out.below hb).row.2
          rw [HY.out] at hcw
          clear hb
          go_wp2_with fail
          go_ret
          exact ⟨rfl, HB9.out⟩
      · have hbad := hbu.resolve_left he
        have hnx := hne he
        obtain ⟨x, hx, hxc⟩ : ∃ x : Nat, fiE (T ++ s.data.toList) = x ∧ (x = 42 ∨ x = 4) := ⟨_, rfl, hbad⟩
        have hx0 : ¬ fiE (T ++ s.data.toList) = 0 := by omega
        rw [show fiQ (T ++ s.data.toList) = 0 from if_neg hx0, hx] at HF2
        clear hne heq hbu hbad hx0 hx
        obtain ⟨Y, hY⟩ : ∃ Y, S T = Y := ⟨_, rfl⟩
        rw [hY] at hcv HF2 hnx hsz3
        have HY := Lib.hid hY
        clear hY hT
        by_cases h32 : (i : Int) < 32
        · have h128 : ¬ (f : Int) + (i : Int) < 128 := fun h => hex ⟨h32, h⟩
          clear hex
          rcases hxc with rfl | rfl
          · go_wp2_with fail
            refine (HF2.out _).mono ?_
            rintro e w4 ⟨rfl, hb⟩
            have HB9 := Lib.hid (HBL.out.trans (hb.mono HBL.out.size))
            have hcw := conv_bytes w4 w3.heap.size 0 16 cap T HTL.out.symm (HBF.out.below hb).row.2
            rw [HY.out] at hcw
            clear hb
            go_wp2_with fail
            go_ret
            exact ⟨rfl, HB9.out⟩
          · go_wp2_with fail
            refine (HF2.out _).mono ?_
            rintro e w4 ⟨rfl, hb⟩
            have HB9 := Lib.hid (HBL.out.trans (hb.mono HBL.out.size))
            have hcw := conv_bytes w4 w3.heap.size 0 16 cap T HTL.out.symm (HBF.out.below hb).row.2
            rw [HY.out] at hcw
            clear hb
            go_wp2_with fail
            go_ret
            exact ⟨rfl, HB9.out⟩
        · clear hex
          rcases hxc with rfl | rfl
          · go_wp2_with fail
            refine (HF2.out _).mono ?_
            rintro e w4 ⟨rfl, hb⟩
            have HB9 := Lib.hid (HBL.out.trans (hb.mono HBL.out.size))
            have hcw := conv_bytes w4 w3.heap.size 0 16 cap T HTL.out.symm (HBF.out.below hb).row.2
            rw [HY.out] at hcw
            clear hb
            go_wp2_with fail
            go_ret
            exact ⟨rfl, HB9.out⟩
          · go_wp2_with fail
            refine (HF2.out _).mono ?_
            rintro e w4 ⟨rfl, hb⟩
            have HB9 := Lib.hid (HBL.out.trans (hb.mono HBL.out.size))
            have hcw := conv_bytes w4 w3.heap.size 0 16 cap T HTL.out.symm (HBF.out.below hb).row.2
            rw [HY.out] at hcw
            clear hb
            go_wp2_with fail
            go_ret
            exact ⟨rfl, HB9.out⟩

set_option maxRecDepth 100000 in
set_option maxHeartbeats 8000000 in
theorem burst_law (q a b : Int) (s : ByteArray) (w : World) (w0 : (Lit.int .i64 q).wf = true) (w1 : (Lit.int .i64 a).wf = true) (w2 : (Lit.int .u32 b).wf = true) (w3 : s.size ≤ maxLen) (E : Env w) :
    Calls Tryz.prog 11 #[.int .i64 q, .int .i64 a, .int .u32 b, .string s] w fun e w' => e = .returned (.bool true) ∧ Below w.heap.size w w' := by
  obtain ⟨p, rfl⟩ := word_of w2
  by_cases hs : s.size ≤ 5000
  · by_cases hm : mayF q
    · obtain ⟨n, rfl⟩ : ∃ n : Nat, q = (n : Int) := ⟨q.toNat, by have := hm.1; omega⟩
      exact burst_ok n a p s w (by have := hm.2; omega) hs E
    · have HAW := Lib.hid (fun W EW => awake_any W EW)
      have HE := Lib.hid E
      have HH := Lib.hid (fun W => Header_any q W)
      rw [show hdE q = 1 from if_neg hm, show hdB q = [] from if_neg hm, show S [] = ⟨#[]⟩ from rfl] at HH
      have z0 : decide ((5000 : Int) < (s.size : Int)) = false := decide_eq_false (by omega)
      have z1 : decide (5000 < s.size) = false := decide_eq_false (by omega)
      clear E w0 w1 w2 w3 hs hm
      go_enter Tryz.func11, Tryz.ntmps11
      go_wp2_with fail
      refine (HAW.out w HE.out).mono ?_
      rintro e w1 ⟨rfl, hb⟩
      have HB := Lib.hid hb; clear hb
      go_wp2_with fail
      refine (HH.out _).mono ?_
      rintro e w2 ⟨rfl, hb⟩
      replace HB := Lib.hid (HB.out.trans (hb.mono HB.out.size)); clear hb
      go_wp2_with fail
      go_ret
      exact ⟨rfl, HB.out⟩
  · have HAW := Lib.hid (fun W EW => awake_any W EW)
    have HE := Lib.hid E
    have z0 : (5000 : Int) < (s.size : Int) := by omega
    have z1 : 5000 < s.size := by omega
    clear E w0 w1 w2 w3 hs
    go_enter Tryz.func11, Tryz.ntmps11
    go_wp2_with fail
    refine (HAW.out w HE.out).mono ?_
    rintro e w1 ⟨rfl, hb⟩
    go_wp2_with fail
    go_ret
    exact ⟨rfl, hb⟩
end Go.Proofs.YtkccdffccjgajaaGreatDoor.Seg
