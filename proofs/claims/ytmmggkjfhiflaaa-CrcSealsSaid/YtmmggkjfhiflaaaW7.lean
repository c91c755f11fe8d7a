/-
  The walks of Of, Add, Back, and of the document's own table, and its way back.
-/
import Derived.Test.YtmmggkjfhiflaaaW6
namespace Go.Proofs.Ytmmggkjfhiflaaa.Crc
open Go.RowKit

theorem add_any (c : W) (s : ByteArray) (x : Int) (hx : x = V c) (w : World) (hs : s.size ≤ maxLen) :
    Calls Try.prog 20 #[.int .u32 x, .string s] w fun e w' => e = .returned (.int .u32 (V (addW c s.data.toList))) ∧ Below w.heap.size w w' := by
  have HX := Lib.hid hx; clear hx
  go_enter Try.func20, Try.ntmps20
  go_wp2_with (first | (go_at_call 13; refine (table_any _).mono ?_; rintro e w1 ⟨rfl, hb1⟩) | (go_at_call 37; refine (forward_any c s x HX.out _ hs).mono ?_; rintro e w2 ⟨rfl, hb2⟩))
  go_ret
  exact ⟨rfl, hb1.trans (hb2.mono hb1.size)⟩
theorem of_any (s : ByteArray) (w : World) (hs : s.size ≤ maxLen) :
    Calls Try.prog 18 #[.string s] w fun e w' => e = .returned (.int .u32 (V (ofW s.data.toList))) ∧ Below w.heap.size w w' := by
  go_enter Try.func18, Try.ntmps18
  go_wp2_with (go_at_call 20; refine (add_any 0 s _ rfl _ hs).mono ?_; rintro e w1 ⟨rfl, hb1⟩)
  go_ret
  exact ⟨rfl, hb1⟩
theorem back_any (c : W) (s : ByteArray) (x : Int) (hx : x = V c) (w : World) (hs : s.size ≤ maxLen) :
    Calls Try.prog 22 #[.int .u32 x, .string s] w fun e w' => e = .returned (.int .u32 (V (backW c s.data.toList))) ∧ Below w.heap.size w w' := by
  have HX := Lib.hid hx; clear hx
  go_enter Try.func22, Try.ntmps22
  go_wp2_with (first | (go_at_call 13; refine (table_any _).mono ?_; rintro e w1 ⟨rfl, hb1⟩) | (go_at_call 38; refine (backward_any c s x HX.out _ hs).mono ?_; rintro e w2 ⟨rfl, hb2⟩))
  go_ret
  exact ⟨rfl, hb1.trans (hb2.mono hb1.size)⟩

/-- bytes as cells -/
def cellsB (l : List UInt8) : Array Value := (l.map fun b : UInt8 => Value.int .u8 (b.toNat : Int)).toArray
theorem cellsB_get (l : List UInt8) (n : Nat) (h : n < l.length) : (cellsB l)[n]? = some (.int .u8 (l[n].toNat : Int)) := by
  unfold cellsB
  rw [List.getElem?_toArray, List.getElem?_map, List.getElem?_eq_getElem h]; rfl
theorem cellsB_size (l : List UInt8) : (cellsB l).size = l.length := by unfold cellsB; simp
theorem cellsB_one (l : List UInt8) : (cellsB l).all (·.oneCell') = true := by
  unfold cellsB; rw [List.all_toArray, List.all_map, List.all_eq_true]; intro x _; rfl
theorem low_0 (c : W) : V c % (256 : Int) = ((UInt8.ofNat c.toNat).toNat : Int) := by
  rw [UInt8.toNat_ofNat']; rfl
theorem low_1 (c : W) : V c / (256 : Int) % (256 : Int) = ((UInt8.ofNat (c.toNat / 256)).toNat : Int) := by
  rw [UInt8.toNat_ofNat']; rfl
theorem low_2 (c : W) : V c / (65536 : Int) % (256 : Int) = ((UInt8.ofNat (c.toNat / 65536)).toNat : Int) := by
  rw [UInt8.toNat_ofNat']; rfl
theorem low_3 (c : W) : V c / (16777216 : Int) % (256 : Int) = ((UInt8.ofNat (c.toNat / 16777216)).toNat : Int) := by
  rw [UInt8.toNat_ofNat']; rfl
theorem low_cells (c : W) : #[Value.int .u8 (V c % (256 : Int)), .int .u8 (V c / (256 : Int) % (256 : Int)), .int .u8 (V c / (65536 : Int) % (256 : Int)), .int .u8 (V c / (16777216 : Int) % (256 : Int))] = cellsB (fourL c) := by
  rw [low_0, low_1, low_2, low_3]; rfl
theorem info49 {l : List UInt8} (h : l.length = 4) : (Try.prog.info? 49).map (·.size) = some (cellsB l).size := by
  rw [cellsB_size, h]; kernel_rfl
theorem zero49 (w : World) : (zeroValue 49).run Try.prog w = .ok (.agg #[.int .u8 0, .int .u8 0, .int .u8 0, .int .u8 0]) w := by kernel_rfl
set_option maxHeartbeats 400000 in
theorem low_any (c : W) (w : World) :
    Calls Try.prog 32 #[.int .u32 (V c)] w fun e w' => e = .returned (.agg (cellsB (fourL c))) ∧ Below w.heap.size w w' := by
  have hz := zero49
  go_enter Try.func32, Try.ntmps32
  have HL := Lib.hid (low_cells c)
  go_wp2_with fail
  rw [HL.out]
  refine bodyPost_ret (v := .agg (cellsB (fourL c))) (results_cell_row rfl _ _ w.heap.size 49 (cellsB (fourL c)) (0, 0) _ rfl (heap_alloc_new _ _) Try.underlying49 rfl (info49 rfl)) rfl ⟨rfl, ?_⟩
  exact (Below.refl _ _).alloc (Nat.le_refl _) _

theorem over_int (c : W) (x y : Int) (hx : x = V c) (hy : y = 0) (w : World) :
    Calls Try.prog 31 #[.int .u32 x, .int .u8 y] w fun e w' => e = .returned (.int .u32 (V (it 8 c))) ∧ w = w' := by
  subst hx hy
  have h : step c 0 = it 8 c := by
    unfold step
    have : w8 0 = BitVec.ofNat 32 0 := rfl
    rw [this, BitVec.xor_zero]
  rw [← h]
  exact over_any c 0 w
theorem V_ofNat (k : Nat) (h : k < 256) : (k : Int) = V (BitVec.ofNat 32 k) := by
  unfold V; rw [BitVec.toNat_ofNat, Nat.mod_eq_of_lt (by omega)]
set_option maxRecDepth 100000 in
set_option maxHeartbeats 400000 in
theorem refTable_any (w : World) :
    Calls Try.prog 14 #[] w fun e w' => e = .returned (.agg (cellsW tabs)) ∧ Below w.heap.size w w' := by
  have hz := zero24
  go_enter Try.func14, Try.ntmps14
  go_wp2_with fail
  go_loopw [2] (fun x wr => ∃ k : Nat, k ≤ 256 ∧ x = .int .i64 k ∧ wr = (w.alloc (.cells (cellsW zeros) 24)).alloc (.cells (cellsW (refFill k)) 24)) (fun x _ => 256 - (intOf x).toNat)
  case atStart => exact ⟨0, by omega, rfl, by rw [refFill_zero]⟩
  case round =>
    obtain ⟨k, hk, rfl, rfl⟩ := hrel
    by_cases hlt : k < 256
    · have HX := Lib.hid (refFill_succ k)
      have hg := cell_new2 w (.cells (cellsW zeros) 24) _ 24 k _ (cellsW_get (refFill k) k (by rw [refFill_length]; omega))
      have HT : Hid ((cellsW (refFill k)).setIfInBounds k (.int .u32 (V (it 8 (BitVec.ofNat 32 k)))) = cellsW (refFill (k + 1))) := by
        show _ = _; rw [cellsW_set, ← HX.out]; rfl
      have HV := Lib.hid (V_ofNat k hlt)
      go_wp2_with (go_at_call 31; refine (over_int (BitVec.ofNat 32 k) _ _ HV.out rfl _).mono ?_; rintro e w1 ⟨rfl, rfl⟩)
      go_roundw
      case rel => exact ⟨k + 1, by omega, by go_num, by rw [HT.out]⟩
      case measure => simp [intOf]; omega
    · obtain rfl : k = 256 := by omega
      go_wp2_with (first | (refine wpList_store_row rfl 24 _ _ rfl w.heap.size (cellsW (refFill 256)) rfl rfl 24 (cellsW zeros) (heap_alloc2_old _ _ _) (info24 (refFill_length 256)) (by rw [cellsW_size, cellsW_size, refFill_length]; exact List.length_replicate) (cellsW_one _) ?_; rw [setRow_alloc2]) | refine wpList_load_row rfl 24 _ rfl (w.heap.size + 1) rfl 24 (cellsW (refFill 256)) (0, 0) _ (heap_alloc2_new _ _ _) Try.underlying24 rfl (info24 (refFill_length 256)) ?_)
      refine bodyPost_ret (v := .agg (cellsW (refFill 256))) (results_cell_row rfl _ _ w.heap.size 24 (cellsW (refFill 256)) (0, 0) _ rfl (heap_alloc2_old _ _ _) Try.underlying24 rfl (info24 (refFill_length 256))) rfl ⟨by rw [refFill_all], ?_⟩
      exact ((Below.refl _ _).alloc (Nat.le_refl _) _).alloc (by simp) _


/-! ### the document's way back -/
def fromBit (b : UInt8) (t i : Nat) : Bool := b.toNat.testBit (t + i)
theorem rb_un (d : W) (b : UInt8) (t : Nat) (ht : t < 8) (st : W) (h : rb d (fromBit b (t + 1)) (8 - (t + 1)) = st) : rb (un d ^^^ bit (b.toNat.testBit t)) (fromBit b t) (8 - t) = st := by
  rw [show 8 - t = 1 + (8 - (t + 1)) by omega, rb_add]
  have e1 : rb (un d ^^^ bit (b.toNat.testBit t)) (fromBit b t) 1 = d := by
    show sh (un d ^^^ bit (b.toNat.testBit t) ^^^ bit (b.toNat.testBit (t + 0))) = d
    rw [Nat.add_zero, BitVec.xor_assoc, BitVec.xor_self, BitVec.xor_zero, sh_un]
  rw [e1, ← h]
  apply rb_congr
  intro i _
  unfold fromBit; congr 1; omega
theorem rb_un_all (d : W) (b : UInt8) (st : W) (h : rb d (fromBit b 0) 8 = st) : d = unstep st b := by
  apply unstep_of
  rw [← rb_byte, ← h]
  apply rb_congr
  intro i _
  unfold fromBit; rw [Nat.zero_add]
theorem or_xor_low (y : W) (b c : Bool) : (y <<< 1) ||| (bit b ^^^ bit c) = (y <<< 1) ^^^ bit b ^^^ bit c := by
  apply BitVec.eq_of_getLsbD_eq; intro i hi
  rw [BitVec.getLsbD_or, BitVec.getLsbD_xor, BitVec.getLsbD_xor, BitVec.getLsbD_xor, getLsbD_bit, getLsbD_bit, BitVec.getLsbD_shiftLeft]
  by_cases h : i = 0
  · subst h; simp
  · simp [h]
theorem un_V1 (d : W) (b : UInt8) (t : Nat) (h : d.getLsbD 31 = true) : bits .or .u32 (bits .xor .u32 (V d) 3988292384 * (2 : Int) % (4294967296 : Int)) (bits .xor .u32 1 (bits .and .u32 ((b.toNat : Int) % 4294967296 / 2 ^ t) 1)) = V (un d ^^^ bit (b.toNat.testBit t)) := by
  have e1 : ∀ a : W, V a * (2 : Int) % (4294967296 : Int) = V (a <<< 1) := by intro a; rw [← IntKind.wrap_u32']; exact shl_V a 1
  have e2 : (1 : Int) = V (bit true) := rfl
  rw [byte_bit, bits_xor_poly, e1, e2, bits_xor_V, bits_or_V, or_xor_low]
  unfold un; rw [h]; rfl
theorem un_V0 (d : W) (b : UInt8) (t : Nat) (h : d.getLsbD 31 = false) : bits .or .u32 (V d * (2 : Int) % (4294967296 : Int)) (bits .xor .u32 0 (bits .and .u32 ((b.toNat : Int) % 4294967296 / 2 ^ t) 1)) = V (un d ^^^ bit (b.toNat.testBit t)) := by
  have e1 : ∀ a : W, V a * (2 : Int) % (4294967296 : Int) = V (a <<< 1) := by intro a; rw [← IntKind.wrap_u32']; exact shl_V a 1
  have e2 : (0 : Int) = V (bit false) := rfl
  rw [byte_bit, e1, e2, bits_xor_V, bits_or_V, or_xor_low]
  unfold un; rw [h]; rfl
theorem topV (d : W) : V d / (2147483648 : Int) = V (bit (d.getLsbD 31)) := by
  have h := top_bit d
  cases hb : d.getLsbD 31
  · rw [hb] at h
    have e : V d / (2147483648 : Int) = V (d >>> 31) := shr_V d 31
    have g : d >>> 31 = 0 := by
      apply BitVec.eq_of_getLsbD_eq; intro i hi
      rw [BitVec.getLsbD_ushiftRight]
      by_cases h0 : i = 0
      · subst h0; rw [hb]; simp
      · rw [BitVec.getLsbD_of_ge _ _ (by omega)]; simp
    rw [e, g]; rfl
  · rw [hb] at h; exact beq_iff_eq.1 h

set_option maxHeartbeats 800000 in
theorem refBack_any (c : W) (s : ByteArray) (x : Int) (hx : x = V c) (w : World) (hs : s.size ≤ maxLen) :
    Calls Try.prog 23 #[.int .u32 x, .string s] w fun e w' => e = .returned (.int .u32 (V (backW c s.data.toList))) ∧ w = w' := by
  unfold maxLen at hs
  go_enter Try.func23, Try.ntmps23
  go_wp2_with fail
  rw [not_V]
  go_loop [0, 5] (fun x i => ∃ k : Nat, k ≤ s.size ∧ i = .int .i64 ((k : Int) - 1) ∧ x = .int .u32 (V (unraw (~~~ c) (s.data.toList.drop k)))) (fun _ i => (intOf i + 1).toNat)
  case atStart => exact ⟨s.size, Nat.le_refl _, rfl, by rw [unraw_none]⟩
  case round =>
    obtain ⟨k, hk, rfl, rfl⟩ := hrel
    cases k with
    | zero =>
      have ei : (((0 : Nat) : Int) - 1) = -1 := by omega
      rw [ei]
      go_wp2_with fail
      go_ret
      exact ⟨ret_u32 (by rw [not_V]; rfl), rfl⟩
    | succ k =>
      have ei : (((k + 1 : Nat) : Int) - 1) = (k : Int) := by omega
      rw [ei]; clear ei
      have H := Lib.hid (unraw_drop (~~~ c) s k hk)
      generalize unraw (~~~ c) (s.data.toList.drop (k + 1)) = st at *
      go_wp2_with fail
      go_loop [0, 6] (fun x i => ∃ (t : Nat) (d : W), t ≤ 8 ∧ i = .int .i64 ((t : Int) - 1) ∧ x = .int .u32 (V d) ∧ Hid (rb d (fromBit s[k] t) (8 - t) = st)) (fun _ i => (intOf i + 1).toNat)
      case atStart => exact ⟨8, st, Nat.le_refl _, rfl, rfl, rfl⟩
      case round =>
        obtain ⟨t, d, ht, rfl, rfl, HD⟩ := hrel
        cases t with
        | zero =>
          have ei : (((0 : Nat) : Int) - 1) = -1 := by omega
          rw [ei]
          have HU := Lib.hid (rb_un_all d s[k] st HD.out)
          go_wp2_with fail
          go_round
          case rel => exact ⟨k, by omega, rfl, by rw [HU.out, H.out]⟩
          case measure => simp [intOf]
        | succ t =>
          have ei : (((t + 1 : Nat) : Int) - 1) = (t : Int) := by omega
          rw [ei]; clear ei
          have HU := Lib.hid (rb_un d s[k] t (by omega) st HD.out)
          have hT := topV d
          cases hb : d.getLsbD 31
          · have hT0 : V d / (2147483648 : Int) = 0 := by rw [hT, hb]; rfl
            have hS := un_V0 d s[k] t hb
            rw [show V d * (2 : Int) % (4294967296 : Int) = V d * 2 by have := V_nonneg d; omega] at hS
            have HS := Lib.hid hS
            clear hS
            clear hb hT
            go_wp2_with fail
            go_round
            case rel => exact ⟨t, _, by omega, rfl, int_u32 HS.out, HU.out⟩
            case measure => simp [intOf]
          · have HS := Lib.hid (un_V1 d s[k] t hb)
            have hT0 : V d / (2147483648 : Int) = 1 := by rw [hT, hb]; rfl
            clear hb hT
            go_wp2_with fail
            go_round
            case rel => exact ⟨t, _, by omega, rfl, int_u32 HS.out, HU.out⟩
            case measure => simp [intOf]

end Go.Proofs.Ytmmggkjfhiflaaa.Crc
