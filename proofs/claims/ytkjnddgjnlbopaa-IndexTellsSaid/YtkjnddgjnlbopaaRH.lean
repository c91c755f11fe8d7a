import Derived.Test.YtkjnddgjnlbopaaLB
import Derived.Test.YtkjnddgjnlbopaaW14
/-
  The document's own Header, First, Name, Named, Fits.
-/
namespace Go.Proofs.Ytkjnddgjnlbopaa.Seg
open Go Go.RowKit
open Go.Proofs.Ytkjnddgjnlbopaa.Crc (ofW fourL sealS refOpen_any)
open Go.Proofs.Ytkjnddgjnlbopaa.Wire (fixB be be_snoc fixB_length S S_list S_size S_append U cell_row frozen_row row_lt heap_set shl_or)
open Go.Proofs.Ytkjnddgjnlbopaa.Frame

theorem idx_at (s : ByteArray) (k : Nat) (hk : k < s.data.toList.length) (W : World) : (Instr.index 9 (.string s) (.int .i64 (k : Int))).run Try.prog W = .ok (.int .u8 ((s.data.toList[k]).toNat : Int)) W := by
  have h2 : k < s.size := by simpa using hk
  rw [run_index_string W 9 s .i64 _ Try.underlying9, dif_pos ⟨by omega, by omega⟩]
  have e : ((k : Int)).toNat = k := by omega
  simp only [e]
  rfl
theorem be_take (l : List UInt8) (k : Nat) (h : k < l.length) : be (l.take (k + 1)) = be (l.take k) * 256 + (l[k]'h).toNat := by
  rw [List.take_succ_eq_append_getElem h, be_snoc]
theorem be_take_lt (l : List UInt8) (k : Nat) : be (l.take k) < 256 ^ k := by
  have h := Wire.be_lt _ (l.take k) rfl
  have h2 := Nat.pow_le_pow_right (n := 256) (by decide) (show (l.take k).length ≤ k from List.length_take_le _ _)
  omega
set_option maxRecDepth 100000 in
set_option maxHeartbeats 2000000 in
theorem refFirst_any (s : ByteArray) (hs : s.size ≤ 1000000000000) (w : World) :
    Calls Try.prog 68 #[.string s] w fun e w' => e = .returned (.tuple #[.int .i64 (fiQ s.data.toList : Int), .int .i64 (fiE s.data.toList : Int)]) ∧ Below w.heap.size w w' := by
  have hz : s.data.toList.length = s.size := by simp
  by_cases h16 : s.size < 16
  · have he : fiE s.data.toList = 8 := by unfold fiE; rw [if_pos (by omega)]
    have hq : fiQ s.data.toList = 0 := by unfold fiQ; rw [if_neg (by rw [he]; decide)]
    rw [he, hq]
    clear he hq hz
    go_enter Try.func68, Try.ntmps68
    go_wp2_with fail
    go_ret2
    exact ⟨rfl, Below.refl _ _⟩
  · have d16 : decide ((s.size : Int) < 16) = false := decide_eq_false (by omega)
    have g4 : (4 : Int) ≤ (s.size : Int) := by omega
    have g4' : 4 ≤ s.size := by omega
    have g16 : (16 : Int) ≤ (s.size : Int) := by omega
    have g16' : 16 ≤ s.size := by omega
    have hsl4 : s.extract 0 4 = S (s.data.toList.take 4) := S_take s.data.toList 4
    have hsl16 : s.extract 0 16 = S (s.data.toList.take 16) := S_take s.data.toList 16
    by_cases h4 : s.data.toList.take 4 = word
    · rw [h4, show S word = ⟨#[115, 101, 103, 49]⟩ from rfl] at hsl4
      have hsz : (S (s.data.toList.take 16)).size = 16 := by rw [S_size, List.length_take]; omega
      have HOP := Lib.hid (fun W => refOpen_any (S (s.data.toList.take 16)) W (by rw [hsz]; decide))
      rw [hsz, S_list] at HOP
      have t12 : (s.data.toList.take 16).take (16 - 4) = s.data.toList.take 12 := by rw [List.take_take]; rfl
      have d12 : (s.data.toList.take 16).drop (16 - 4) = (s.data.toList.drop 12).take 4 := by rw [List.drop_take]
      rw [t12, d12] at HOP
      have HF := Lib.hid (show fiE s.data.toList = if ¬ fourL (ofW (s.data.toList.take 12)) = (s.data.toList.drop 12).take 4 then 42 else if 1048576 < fiN s.data.toList then 4 else 0 by
        unfold fiE; rw [if_neg (by omega), if_neg (fun k => k h4)])
      have HFQ := Lib.hid (show fiQ s.data.toList = if fiE s.data.toList = 0 then fiN s.data.toList else 0 from rfl)
      have HIX := Lib.hid (fun k hk W => idx_at s k hk W)
      have HL := Lib.hid (show 16 ≤ s.data.toList.length by omega)
      have HFN := Lib.hid (show be ((s.data.toList.drop 4).take 8) = fiN s.data.toList from rfl)
      have HNL := Lib.hid (show fiN s.data.toList < 18446744073709551616 from be_take_lt (s.data.toList.drop 4) 8)
      clear h4 t12 d12 hz h16 hs
      generalize S (s.data.toList.take 16) = T16 at *
      generalize s.data.toList = l at *
      go_enter Try.func68, Try.ntmps68
      go_wp2_with fail
      refine (HOP.out _).mono ?_
      rintro e w1 ⟨⟨x, k, rfl, hx⟩, hb⟩
      have HB := Lib.hid hb
      clear hb
      rcases hx with ⟨h, _, _⟩ | ⟨_, hc, rfl, rfl⟩ | ⟨_, hc, rfl, rfl⟩
      · omega
      · have hE := HF.out
        rw [if_neg (fun k => k hc.symm)] at hE
        clear hc
        go_wp2_with fail
        go_loop [6, 7] (fun n y => ∃ k : Nat, k ≤ 8 ∧ y = .int .i64 ((k + 4 : Nat) : Int) ∧ n = .int .u64 (U (be ((l.drop 4).take k)))) (fun _ y => 12 - (intOf y).toNat)
        case atStart => exact ⟨0, Nat.zero_le _, rfl, rfl⟩
        case round =>
          obtain ⟨k, hk, rfl, rfl⟩ := hrel
          by_cases hlt : k < 8
          · have hl12 := HL.out
            have hi := HIX.out (k + 4) (by omega)
            have hkd : k < (l.drop 4).length := by rw [List.length_drop]; omega
            have HBT := Lib.hid (be_take (l.drop 4) k hkd)
            have hg : (l.drop 4)[k]'hkd = l[k + 4]'(by omega) := by rw [List.getElem_drop]; congr 1; omega
            rw [hg] at HBT
            have hb := be_take_lt (l.drop 4) k
            have hb2 : be ((l.drop 4).take k) < 72057594037927936 := by
              have := Nat.pow_le_pow_right (n := 256) (by decide) (show k ≤ 7 by omega)
              omega
            have HS := Lib.hid (shl_or (be ((l.drop 4).take k)) (l[k + 4]'(by omega)) hb2)
            have hu : IntKind.u64.wrap ((l[k + 4]'(by omega)).toNat : Int) = ((l[k + 4]'(by omega)).toNat : Int) := by rw [IntKind.wrap_u64]; have := (l[k + 4]'(by omega)).toNat_lt; omega
            have e1 : decide (((k + 4 : Nat) : Int) < 12) = true := decide_eq_true (by omega)
            have HW1 := Lib.hid (show wrap64 (((k + 4 : Nat) : Int) + 1) = ((k + 1 + 4 : Nat) : Int) by rw [show ((k + 4 : Nat) : Int) + 1 = ((k + 1 + 4 : Nat) : Int) by omega]; exact IntWalk.wrap64_in _ ⟨by omega, by omega⟩)
            have HLT := Lib.hid hlt
            have HKK := Lib.hid (show (((k + 4 : Nat) : Int)).toNat = k + 4 from Int.toNat_natCast _)
            clear hb hb2 hg
            generalize l[k + 4]'(by omega) = c at *
            generalize be ((l.drop 4).take k) = n at *
            generalize ((k + 4 : Nat) : Int) = K at *
            go_wp2_with fail
            go_round
            case rel => exact ⟨k + 1, HLT.out, by rw [HW1.out], congrArg (Value.int .u64) (HS.out.trans (by rw [HBT.out]))⟩
            case measure =>
              rw [HW1.out]
              show 12 - (((k + 1 + 4 : Nat) : Int)).toNat < 12 - K.toNat
              have := HKK.out; have := HLT.out; omega
          · obtain rfl : k = 8 := by omega
            rw [HFN.out]
            have HNL2 := HNL.out
            by_cases hN : fiN l ≤ 1048576
            · rw [if_neg (by omega)] at hE
              have hq := HFQ.out
              rw [if_pos hE] at hq
              have HEQ := Lib.hid hE; have HQQ := Lib.hid hq
              have hwn : wrap64 (U (fiN l)) = (fiN l : Int) := by unfold U; exact IntWalk.wrap64_in _ (by omega)
              have hwn2 : IntKind.i64.wrap (U (fiN l)) = (fiN l : Int) := by unfold U; exact IntWalk.i64_in _ (by omega)
              have hle : ¬ (1048576 : Int) < U (fiN l) := by unfold U; omega
              clear hE hq hN HNL2
              generalize fiN l = N at *
              generalize U N = UN at *
              go_wp2_with fail
              go_ret2
              exact ⟨by rw [HEQ.out, HQQ.out]; rfl, HB.out⟩
            · rw [if_pos (by omega)] at hE
              have hq := HFQ.out
              rw [if_neg (by rw [hE]; decide)] at hq
              have HEQ := Lib.hid hE; have HQQ := Lib.hid hq
              have hle : (1048576 : Int) < U (fiN l) := by unfold U; omega
              clear hE hq hN HNL2
              generalize U (fiN l) = UN at *
              go_wp2_with fail
              go_ret2
              exact ⟨by rw [HEQ.out, HQQ.out]; rfl, HB.out⟩
      · have hE := HF.out
        rw [if_pos (fun k => hc k.symm)] at hE
        have hq := HFQ.out
        rw [if_neg (by rw [hE]; decide)] at hq
        have HEQ := Lib.hid hE; have HQQ := Lib.hid hq
        clear hE hq hc
        go_wp2_with fail
        go_ret2
        exact ⟨by rw [HEQ.out, HQQ.out]; rfl, HB.out⟩
    · have he : fiE s.data.toList = 4 := by unfold fiE; rw [if_neg (by omega), if_pos h4]
      have hq : fiQ s.data.toList = 0 := by unfold fiQ; rw [if_neg (by rw [he]; decide)]
      have hne : ¬ (S (s.data.toList.take 4)).toList = [115, 101, 103, 49] := fun e => h4 (by rw [ByteArray.toList_eq, S_list] at e; exact e)
      have hne2 : ((S (s.data.toList.take 4)).toList == [115, 101, 103, 49]) = false := beq_eq_false_iff_ne.2 hne
      rw [he, hq]
      clear he hq hz h4 h16
      generalize S (s.data.toList.take 4) = T4 at *
      go_enter Try.func68, Try.ntmps68
      go_wp2_with fail
      go_ret2
      exact ⟨rfl, Below.refl _ _⟩
end Go.Proofs.Ytkjnddgjnlbopaa.Seg
