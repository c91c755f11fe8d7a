/-
  The walk of the burst.
-/
import Derived.Test.YtmmggkjfhiflaaaW10
import Derived.Test.YtmmggkjfhiflaaaMath3
namespace Go.Proofs.Ytmmggkjfhiflaaa.Crc
open Go.RowKit

theorem from_ok (a : Int) (n : Nat) (h0 : 0 < n) (hn : n ≤ 4000) : ∃ f : Nat, f < 8 * n ∧ wrap64 ((IntKind.u64.wrap a).tmod (8 * (n : Int))) = (f : Int) := by
  have h1 : 0 ≤ IntKind.u64.wrap a := by rw [IntKind.wrap_u64]; exact Int.emod_nonneg _ (by decide)
  rw [Int.tmod_eq_emod_of_nonneg h1]
  have h2 := Int.emod_nonneg (IntKind.u64.wrap a) (show (8 * (n : Int)) ≠ 0 by omega)
  have h3 := Int.emod_lt_of_pos (IntKind.u64.wrap a) (show 0 < (8 * (n : Int)) by omega)
  generalize IntKind.u64.wrap a % (8 * (n : Int)) = z at *
  exact ⟨z.toNat, by omega, by rw [IntWalk.wrap64_in z ⟨by omega, by omega⟩]; omega⟩

theorem turn_val (l : List UInt8) (q : Nat) (h : q / 8 < l.length) : bits .xor .u8 (l[q / 8].toNat : Int) ((2 : Int) ^ (q % 8) % (256 : Int)) = ((l.getD (q / 8) 0 ^^^ bit8 (q % 8)).toNat : Int) := by
  have hk : q % 8 < 8 := Nat.mod_lt _ (by omega)
  have h2 : 2 ^ (q % 8) < 2 ^ 8 := Nat.pow_lt_pow_right (by omega) hk
  have e : (2 : Int) ^ (q % 8) % (256 : Int) = ((2 ^ (q % 8) : Nat) : Int) := by
    generalize q % 8 = k at *
    have hc : k = 0 ∨ k = 1 ∨ k = 2 ∨ k = 3 ∨ k = 4 ∨ k = 5 ∨ k = 6 ∨ k = 7 := by omega
    rcases hc with rfl | rfl | rfl | rfl | rfl | rfl | rfl | rfl <;> rfl
  rw [e, u8_xor_nat _ _ (UInt8.toNat_lt _) h2, UInt8.toNat_xor, List.getD_eq_getElem?_getD, List.getElem?_eq_getElem h]
  congr 2
  unfold bit8; rw [UInt8.toNat_ofNat', Nat.mod_eq_of_lt h2]

set_option maxRecDepth 100000 in
set_option maxHeartbeats 1000000 in
theorem burst_any (s : ByteArray) (a : Int) (p : W) (w : World) (h0 : 0 < s.size) (hs : s.size ≤ 4000) :
    Calls Try.prog 29 #[.string s, .int .i64 a, .int .u32 (V p)] w fun e w' => (∃ (f k : Nat), f + k ≤ 8 * s.size ∧ k ≤ 32 ∧ e = .returned (.tuple #[.string (S (tog s.data.toList f p k)), .bool (anyB p k)])) ∧ Below w.heap.size w w' := by
  obtain ⟨W, cap, hrun, hbuf, hbelW, hcap, hWs⟩ := conv_string w s
  obtain ⟨f, hf, hw⟩ := from_ok a s.size h0 hs
  have hl : s.data.toList.length = s.size := by simp
  have hs0 : ((s.size : Int) == 0) = false := beq_eq_false_iff_ne.2 (by omega)
  have HW := Lib.hid hw; have HL := Lib.hid hl; clear hw hl hWs
  go_enter Try.func29, Try.ntmps29
  go_wp2_with fail
  rw [HW.out]
  have hbW := Lib.hid hbuf; have hBW := Lib.hid hbelW; clear hbuf hbelW hrun
  go_loopw [10, 11] (fun x y wr => ∃ i : Nat, i ≤ 32 ∧ f + i ≤ 8 * s.size ∧ y = .int .i64 i ∧ x = .bool (anyB p i) ∧ Hid (Buf wr w.heap.size (tog s.data.toList f p i)) ∧ Hid (Below w.heap.size w wr)) (fun _ y _ => 32 - (intOf y).toNat)
  case atStart => exact ⟨0, by omega, by omega, rfl, rfl, hbW, hBW⟩
  case round =>
    obtain ⟨i, hi, hfi, rfl, rfl, HB, HBel⟩ := hrel
    by_cases h32 : i < 32
    · by_cases hlt : f + i < 8 * s.size
      · have hq : (f + i) / 8 < s.size := by omega
        have hcell := (HB.out.2 ((f + i) / 8) (by rw [tog_length, HL.out]; exact hq)).1
        have hfroz := (HB.out.2 ((f + i) / 8) (by rw [tog_length, HL.out]; exact hq)).2
        have hpb := word_bit p i
        cases hp : p.getLsbD i
        · rw [hp] at hpb
          have hpb0 : bits .and .u32 (V p / 2 ^ i) 1 = 0 := hpb
          clear hpb hcell hfroz
          have HP := Lib.hid hp; clear hp
          go_wp2_with fail
          go_roundw
          case rel => exact ⟨i + 1, by omega, by omega, by go_num, (by show Value.bool _ = Value.bool (anyB p i || p.getLsbD i); rw [HP.out, Bool.or_false]), (by show Buf _ _ (tog _ _ _ (i + 1)); simp only [tog]; rw [HP.out]; exact HB.out), HBel⟩
          case measure => simp [intOf]; omega
        · rw [hp] at hpb
          have hpb1 : bits .and .u32 (V p / 2 ^ i) 1 = 1 := hpb
          clear hpb
          have HP := Lib.hid hp; clear hp
          go_wp2_with fail
          go_roundw
          case rel =>
            refine ⟨i + 1, by omega, by omega, by go_num, (by show Value.bool _ = Value.bool (anyB p i || p.getLsbD i); rw [HP.out, Bool.or_true]), ?_, ?_⟩
            · show Buf _ _ (tog _ _ _ (i + 1))
              simp only [tog]; rw [HP.out, if_pos rfl, turn_val _ _ (by rw [tog_length, HL.out]; exact hq)]
              exact HB.out.store _ _ (by rw [tog_length, HL.out]; exact hq)
            · exact HBel.out.setCell (p := ⟨w.heap.size, (f + i) / 8, none⟩) (Nat.le_refl _) _
          case measure => simp [intOf]; omega
      · have hcv := conv_bytes wr w.heap.size 0 s.size cap (tog s.data.toList f p i) (by rw [tog_length, HL.out]) HB.out.row.2
        go_wp2_with fail
        go_ret2
        exact ⟨⟨f, i, hfi, hi, rfl⟩, HBel.out⟩
    · have hcv := conv_bytes wr w.heap.size 0 s.size cap (tog s.data.toList f p i) (by rw [tog_length, HL.out]) HB.out.row.2
      go_wp2_with fail
      go_ret2
      exact ⟨⟨f, i, hfi, hi, rfl⟩, HBel.out⟩

end Go.Proofs.Ytmmggkjfhiflaaa.Crc
