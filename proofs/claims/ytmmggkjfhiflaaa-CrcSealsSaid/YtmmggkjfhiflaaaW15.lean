/-
  The walk of the document's Forge.
-/
import Derived.Test.YtmmggkjfhiflaaaMath4
import Derived.Test.YtmmggkjfhiflaaaW14
import Derived.Test.YtmmggkjfhiflaaaW13
namespace Go.Proofs.Ytmmggkjfhiflaaa.Crc
open Go.RowKit

/-- the checksum with x at the place n -/
def pl (l : List UInt8) (n : Nat) (x : W) : W := ofW (over_ l n (fourL x))
theorem pl_lin (l : List UInt8) (n : Nat) : ∃ k, ∀ x, pl l n x ^^^ pl l n 0 = it k x := by
  refine ⟨8 * (l.drop (n + 4)).length + 32, fun x => ?_⟩
  have e : ∀ y, pl l n y = ~~~ (it (8 * (l.drop (n + 4)).length) (it 32 y) ^^^ raw (it 32 (~~~ ofW (l.take n))) (l.drop (n + 4))) := fun y => by
    show addW 0 (l.take n ++ fourL y ++ l.drop (n + 4)) = _
    rw [add_append, add_append]
    show addW (addW (ofW (l.take n)) (fourL y)) _ = _
    rw [add_four]; unfold addW
    rw [not_not, it_xor, BitVec.xor_comm, raw_lin]
  rw [e, e, it_zero, it_zero, it_add]
  apply BitVec.eq_of_getLsbD_eq; intro i hi
  simp only [BitVec.getLsbD_xor, BitVec.getLsbD_not]
  cases (it (8 * (l.drop (n + 4)).length) (it 32 x)).getLsbD i <;> cases (raw (it 32 (~~~ ofW (l.take n))) (l.drop (n + 4))).getLsbD i <;> simp [hi]
theorem mid_eq (s : ByteArray) (n : Nat) (o : W) : s.extract 0 n ++ S (fourL o) ++ s.extract (n + 4) s.size = S (over_ s.data.toList n (fourL o)) := by rw [← u8_V]; exact u_eq s n o
theorem refOf_mid (s : ByteArray) (n : Nat) (o : W) (hn : n + 4 ≤ s.size) (hs : s.size ≤ 281474976710000) (w : World) :
    Calls Try.prog 19 #[.string (s.extract 0 n ++ S (fourL o) ++ s.extract (n + 4) s.size)] w fun e w' => e = .returned (.int .u32 (V (pl s.data.toList n o))) ∧ w = w' := by
  rw [mid_eq]
  refine refOf_any _ w ?_
  rw [S_size, over_length _ _ _ (by show n + 4 ≤ _; rw [← Lib.size_eq]; exact hn), ← Lib.size_eq]; unfold maxLen; omega
theorem four_unit (k : Nat) (x : Int) (hx : x = (2 : Int) ^ k % (4294967296 : Int)) (w : World) :
    Calls Try.prog 40 #[.int .u32 x] w fun e w' => e = .returned (.string (S (fourL (unit k)))) ∧ Below w.heap.size w w' := by
  rw [hx, one_shl]; exact four_any (unit k) w
theorem four_zero (w : World) :
    Calls Try.prog 40 #[.int .u32 0] w fun e w' => e = .returned (.string (S (fourL 0))) ∧ Below w.heap.size w w' := four_any 0 w
/-- rows and bits in blocks of their own -/
structure Two (g d : Nat) (R M : List W) (w w' : World) : Prop where
  r : w'.heap[g]? = some (.cells (cellsW R) 54 (0, 0))
  m : w'.heap[d]? = some (.cells (cellsW M) 54 (0, 0))
  bel : Below w.heap.size w w'
  og : w.heap.size ≤ g
  gd : g < d
theorem row_lt {w : World} {g : Nat} {o : Obj} (h : w.heap[g]? = some o) : g < w.heap.size := by
  rcases Nat.lt_or_ge g w.heap.size with k | k
  · exact k
  · rw [Array.getElem?_eq_none k] at h; cases h
theorem Two.below {g d : Nat} {R M : List W} {w w' w2 : World} (h : Two g d R M w w') (hb : Below w'.heap.size w' w2) : Two g d R M w w2 :=
  ⟨by rw [hb.block g (row_lt h.r)]; exact h.r, by rw [hb.block d (row_lt h.m)]; exact h.m, h.bel.trans (hb.mono h.bel.size), h.og, h.gd⟩
theorem Two.rc {g d : Nat} {R M : List W} {w w' : World} (h : Two g d R M w w') (i : Nat) (hi : i < R.length) : w'.cell? ⟨g, i, none⟩ = some (.int .u32 (V (wat R i))) := by
  rw [cell_of_row _ _ _ _ _ _ h.r, cellsW_get R i hi]
theorem Two.mc {g d : Nat} {R M : List W} {w w' : World} (h : Two g d R M w w') (i : Nat) (hi : i < M.length) : w'.cell? ⟨d, i, none⟩ = some (.int .u32 (V (wat M i))) := by
  rw [cell_of_row _ _ _ _ _ _ h.m, cellsW_get M i hi]
theorem Two.setR {g d : Nat} {R M : List W} {w w' : World} (h : Two g d R M w w') (i : Nat) (v : W) : Two g d (R.set i v) M w (w'.setCell ⟨g, i, none⟩ (.int .u32 (V v))) :=
  ⟨by rw [heap_setCell_same _ _ _ _ _ _ h.r, cellsW_set], by rw [heap_setCell_other w' ⟨g, i, none⟩ d _ (by show d ≠ g; have := h.gd; omega)]; exact h.m, h.bel.setCell (p := ⟨g, i, none⟩) h.og _, h.og, h.gd⟩
theorem Two.setM {g d : Nat} {R M : List W} {w w' : World} (h : Two g d R M w w') (i : Nat) (v : W) : Two g d R (M.set i v) w (w'.setCell ⟨d, i, none⟩ (.int .u32 (V v))) :=
  ⟨by rw [heap_setCell_other w' ⟨d, i, none⟩ g _ (by show g ≠ d; have := h.gd; omega)]; exact h.r, by rw [heap_setCell_same _ _ _ _ _ _ h.m, cellsW_set], h.bel.setCell (p := ⟨d, i, none⟩) (by show w.heap.size ≤ d; have := h.og; have := h.gd; omega) _, h.og, h.gd⟩

set_option maxHeartbeats 400000 in
theorem refForge_neg (s : ByteArray) (a : Int) (c : Int) (ha : a < 0) (w : World) :
    Calls Try.prog 25 #[.string s, .int .i64 a, .int .u32 c] w fun e w' => e = .returned (.tuple #[.string ⟨#[]⟩, .int .i64 8]) ∧ Below w.heap.size w w' := by
  go_enter Try.func25, Try.ntmps25
  go_wp2_with fail
  go_ret2
  exact ⟨rfl, Below.refl _ _⟩
set_option maxHeartbeats 400000 in
theorem refForge_far (s : ByteArray) (a : Int) (c : Int) (ha : 0 ≤ a) (hb : (s.size : Int) - 4 < a) (hs : s.size ≤ 281474976710000) (w : World) :
    Calls Try.prog 25 #[.string s, .int .i64 a, .int .u32 c] w fun e w' => e = .returned (.tuple #[.string ⟨#[]⟩, .int .i64 8]) ∧ Below w.heap.size w w' := by
  have hq : IntKind.i64.wrap ((s.size : Int) - 4) = (s.size : Int) - 4 := IntWalk.i64_in _ (by omega)
  go_enter Try.func25, Try.ntmps25
  go_wp2_with fail
  go_ret2
  exact ⟨rfl, Below.refl _ _⟩
set_option maxRecDepth 100000 in
set_option maxHeartbeats 1000000 in
theorem refForge_long (s : ByteArray) (n : Nat) (c : W) (hn : n + 4 ≤ s.size) (hs : s.size ≤ 281474976710000) (w : World) :
    Calls Try.prog 25 #[.string s, .int .i64 (n : Int), .int .u32 (V c)] w fun e w' => e = .returned (.tuple #[.string (S (forgeL s.data.toList n c)), .int .i64 0]) ∧ Below w.heap.size w w' := by
  have hq : IntKind.i64.wrap ((s.size : Int) - 4) = (s.size : Int) - 4 := IntWalk.i64_in _ (by omega)
  have hq0 : 0 ≤ (n : Int) := by omega
  have hq1 : (n : Int) ≤ (s.size : Int) - 4 := by omega
  go_enter Try.func25, Try.ntmps25
  go_wp2_with fail
  have hs1 : IntKind.i64.wrap ((n : Int) + 4) = (n : Int) + 4 := IntWalk.i64_in _ (by omega)
  have hs2 : (0 : Int) ≤ (n : Int) + 4 := by omega
  have hs3 : ((n : Int) + 4).toNat = n + 4 := by omega
  have hs4 : (n : Int) ≤ (s.size : Int) := by omega
  have hs5 : (n : Int) + 4 ≤ (s.size : Int) := by omega
  go_region_with (fail)
  clear hs1 hs2 hs3 hs4 hs5
  have hx1 : (s.extract 0 n).size = n := by rw [ByteArray.size_extract]; omega
  have hx2 : (s.extract (n + 4) s.size).size = s.size - (n + 4) := by rw [ByteArray.size_extract]; omega
  have hx3 : ∀ x : W, (S (fourL x)).size = 4 := fun _ => rfl
  have hz := zero54
  obtain ⟨kk, hkk⟩ := pl_lin s.data.toList n
  go_wp2_with (first | (go_at_call 40; refine (four_zero _).mono ?_; rintro e w1 ⟨rfl, hb1⟩) | (go_at_call 19; refine (refOf_mid s n 0 hn hs _).mono ?_; rintro e w2 ⟨rfl, rfl⟩))
  have HT0 : Hid (Two w1.heap.size (w1.heap.size + 1) zeros32 zeros32 w ((w1.alloc (.cells (cellsW zeros32) 54)).alloc (.cells (cellsW zeros32) 54))) := by
    have hb : Below w.heap.size w w1 := ((Below.refl _ w).drew).trans hb1
    refine ⟨?_, ?_, (hb.alloc hb.size _).alloc (Nat.le_trans hb.size (by rw [World.size_alloc]; omega)) _, hb.size, Nat.lt_succ_self _⟩
    · rw [Below.heap_alloc _ _ _ (by rw [World.size_alloc]; omega)]; exact heap_alloc_new w1 _
    · have h := heap_alloc_new (w1.alloc (.cells (cellsW zeros32) 54)) (.cells (cellsW zeros32) 54)
      rw [World.size_alloc] at h; exact h
  have HE0 : Hid (Elim kk zeros32 zeros32 0) := Elim.first kk
  have HK := Lib.hid hkk; clear hkk
  have HP : Hid (∀ x, pl s.data.toList n x = c ↔ over_ s.data.toList n (fourL x) = forgeL s.data.toList n c) := fun x => forge_one s.data.toList n c x
  clear hb1 hx3 hq hq0 hq1 hz
  have HN := Lib.hid hn; have HS := Lib.hid hs
  have HX1 := Lib.hid hx1; have HX2 := Lib.hid hx2
  clear hx1 hx2
  have HPO : Hid (∀ (x : W) (wz : World), Calls Try.prog 19 #[.string (s.extract 0 n ++ S (fourL x) ++ s.extract (n + 4) s.size)] wz fun e w' => e = .returned (.int .u32 (V (pl s.data.toList n x))) ∧ wz = w') := fun x wz => refOf_mid s n x HN.out HS.out wz
  have HEQ : Hid (∀ x : W, s.extract 0 n ++ S (fourL x) ++ s.extract (n + 4) s.size = S (over_ s.data.toList n (fourL x))) := fun x => mid_eq s n x
  generalize s.extract 0 n = HD at *
  generalize s.extract (n + 4) s.size = TL at *
  generalize (w1.alloc (.cells (cellsW zeros32) 54)).alloc (.cells (cellsW zeros32) 54) = W0 at *
  generalize w1.heap.size + 1 = d at *
  generalize w1.heap.size = g at *
  go_loopw [13] (fun x wr => ∃ (j : Nat) (R M : List W), j ≤ 32 ∧ x = .int .i64 j ∧ Hid (Two g d R M w wr) ∧ Hid (Elim kk R M j)) (fun x _ => 32 - (intOf x).toNat)
  case atStart => exact ⟨0, zeros32, zeros32, by omega, rfl, HT0, HE0⟩
  case round =>
    obtain ⟨j, R, M, hj, rfl, HT, HE⟩ := hrel
    by_cases hlt : j < 32
    · clear hn hs
      have hj0 : (j : Int) < 32 := by omega
      go_wp2_with fail
      refine (four_unit j _ rfl _).mono ?_; rintro e w2 ⟨rfl, hb2⟩
      have HT1 : Hid (Two g d R M w w2) := HT.out.below hb2
      clear hb2
      have hx4 : (S (fourL (unit j))).size = 4 := rfl
      have HP1 := Lib.hid (HPO.out (unit j))
      have hx1 := HX1.out
      have hx2 := HX2.out
      have hn := HN.out
      have hs := HS.out
      generalize S (fourL (unit j)) = F at *
      go_wp2_with fail
      refine (HP1.out _).mono ?_; rintro e w3 ⟨rfl, rfl⟩
      clear hx1 hx2 hx4 hn hs
      have HJ : Hid (bits .xor .u32 (V (pl s.data.toList n (unit j))) (V (pl s.data.toList n 0)) = V (it kk (unit j))) := by show _ = _; rw [bits_xor_V, HK.out]
      have HW : Hid (Way kk j (it kk (unit j)) (unit j) 32) := Way.first kk j hlt
      go_wp2_with fail
      go_loopw [14, 15, 16] (fun x y z wx => ∃ (q : Int) (nn : Nat) (v m : W) (R' M' : List W), q + 1 = nn ∧ nn ≤ 32 ∧ x = .int .u32 (V v) ∧ y = .int .u32 (V m) ∧ z = .int .i64 q ∧ Hid (Two g d R' M' w wx) ∧ Hid ((Way kk j v m nn ∧ Elim kk R' M' j) ∨ (v = 0 ∧ Elim kk R' M' (j + 1)))) (fun _ _ z _ => (intOf z + 1).toNat)
      case atStart => exact ⟨31, 32, it kk (unit j), unit j, R, M, by omega, by omega, congrArg _ HJ.out, congrArg _ (one_shl j), rfl, HT1, Or.inl ⟨HW.out, HE.out⟩⟩
      case round =>
        clear HJ HW HT1 HT
        obtain ⟨q, nn, v, m, R', M', hq, hnn, rfl, rfl, rfl, HT2, HD2⟩ := hrel
        rcases HD2.out with ⟨hw, he⟩ | ⟨hv, he⟩
        · cases nn with
          | zero => exact absurd hw.never id
          | succ b =>
            obtain rfl : q = (b : Int) := by omega
            have hb32 : b < 32 := by omega
            have hv0 : (V v == 0) = false := by
              have h := V_beq v 0
              rw [show V (0 : W) = 0 from rfl] at h; rw [h]; exact beq_eq_false_iff_ne.2 hw.nz
            have HW2 := Lib.hid hw; have HE2 := Lib.hid he
            clear hw he HD2
            have hpb := word_bit v b
            cases hp : v.getLsbD b
            · rw [hp] at hpb
              have hp0 : bits .and .u32 (V v / 2 ^ b) 1 = 0 := hpb
              have HN2 := Lib.hid (HW2.out.skip hp)
              clear hpb hp
              go_wp2_with fail
              go_roundw
              case rel => exact ⟨(b : Int) - 1, b, v, m, R', M', by omega, by omega, rfl, rfl, by go_num, HT2, Or.inl ⟨HN2.out, HE2.out⟩⟩
              case measure => simp [intOf] <;> omega
            · rw [hp] at hpb
              have hp1 : bits .and .u32 (V v / 2 ^ b) 1 = 1 := hpb
              have HP2 := Lib.hid hp
              clear hpb hp
              have hcr := HT2.out.rc b (by rw [HE2.out.rl]; exact hb32)
              have hfr := frozen_of_row _ _ b _ _ HT2.out.r
              by_cases hz : wat R' b = 0
              · have HE3 := Lib.hid (HE2.out.put HW2.out hb32 HP2.out hz)
                rw [hz] at hcr
                have hcr0 : wr.cell? ⟨g, b, none⟩ = some (.int .u32 0) := hcr
                clear hcr
                have HT3 := Lib.hid (HT2.out.setR b v)
                have HT4 := Lib.hid (HT3.out.setM b m)
                have hcm := HT3.out.mc b (by rw [HE2.out.ml]; exact hb32)
                have hfm := frozen_of_row _ _ b _ _ HT3.out.m
                clear hz
                go_wp2_with fail
                go_roundw
                case rel => exact ⟨(b : Int) - 1, b, 0, m, R'.set b v, M'.set b m, by omega, by omega, rfl, rfl, by go_num, HT4, Or.inr ⟨rfl, HE3.out⟩⟩
                case measure => simp [intOf] <;> omega
              · have HW3 := Lib.hid (HW2.out.take HE2.out hb32 HP2.out hz)
                have hz2 : (V (wat R' b) == 0) = false := by
                  have h := V_beq (wat R' b) 0
                  rw [show V (0 : W) = 0 from rfl] at h; rw [h]; exact beq_eq_false_iff_ne.2 hz
                have hcm := HT2.out.mc b (by rw [HE2.out.ml]; exact hb32)
                clear hz hfr
                go_wp2_with fail
                go_roundw
                case rel => exact ⟨(b : Int) - 1, b, v ^^^ wat R' b, m ^^^ wat M' b, R', M', by omega, by omega, congrArg _ (bits_xor_V _ _), congrArg _ (bits_xor_V _ _), by go_num, HT2, Or.inl ⟨HW3.out, HE2.out⟩⟩
                case measure => simp [intOf] <;> omega
        · subst hv
          have HE2 := Lib.hid he
          clear he HD2
          have hv0 : (V (0 : W) == 0) = true := rfl
          have hv1 : V (0 : W) = 0 := rfl
          by_cases hq2 : 0 ≤ q
          · go_wp2_with fail
            go_roundw
            case rel => exact ⟨j + 1, R', M', by omega, by go_num, HT2, HE2⟩
            case measure => simp [intOf] <;> omega
          · go_wp2_with fail
            go_roundw
            case rel => exact ⟨j + 1, R', M', by omega, by go_num, HT2, HE2⟩
            case measure => simp [intOf] <;> omega
    · obtain rfl : j = 32 := by omega
      clear hn hs
      go_wp2_with fail
      go_loop [17, 18, 19] (fun x y z => ∃ (q : Int) (nn : Nat) (l a : W), q + 1 = nn ∧ nn ≤ 32 ∧ x = .int .u32 (V l) ∧ y = .int .u32 (V a) ∧ z = .int .i64 q ∧ Hid (Rest kk (c ^^^ pl s.data.toList n 0) l a nn)) (fun _ _ z => (intOf z + 1).toNat)
      case atStart => exact ⟨31, 32, c ^^^ pl s.data.toList n 0, 0, by omega, by omega, congrArg _ (bits_xor_V _ _), rfl, rfl, Rest.first kk _⟩
      case round =>
        obtain ⟨q, nn, l, a, hq, hnn, rfl, rfl, rfl, HR⟩ := hrel
        cases nn with
        | zero =>
          obtain rfl : q = -1 := by omega
          go_wp2_with fail
          refine (four_any a _).mono ?_; rintro e w5 ⟨rfl, hb5⟩
          have HB5 := Lib.hid (HT.out.bel.trans (hb5.mono HT.out.bel.size))
          have HFin : Hid (HD ++ S (fourL a) ++ TL = S (forgeL s.data.toList n c)) := by
            have h1 := HR.out.done
            rw [← HK.out a] at h1
            have h2 : pl s.data.toList n a = c := by
              rw [BitVec.xor_comm, BitVec.xor_comm c] at h1; exact xor_inj h1
            show _ = _
            rw [HEQ.out a, (HP.out a).1 h2]
          clear hb5
          have hx4 : (S (fourL a)).size = 4 := rfl
          have hx1 := HX1.out
          have hx2 := HX2.out
          have hn := HN.out
          have hs := HS.out
          generalize S (fourL a) = F at *
          go_wp2_with fail
          go_ret2
          exact ⟨by rw [HFin.out]; rfl, HB5.out⟩
        | succ b =>
          obtain rfl : q = (b : Int) := by omega
          have hb32 : b < 32 := by omega
          have hpb := word_bit l b
          cases hp : l.getLsbD b
          · rw [hp] at hpb
            have hp0 : bits .and .u32 (V l / 2 ^ b) 1 = 0 := hpb
            have HN2 := Lib.hid (HR.out.skip hp)
            clear hpb hp
            go_wp2_with fail
            go_round
            case rel => exact ⟨(b : Int) - 1, b, l, a, by omega, by omega, rfl, rfl, by go_num, HN2⟩
            case measure => simp [intOf] <;> omega
          · rw [hp] at hpb
            have hp1 : bits .and .u32 (V l / 2 ^ b) 1 = 1 := hpb
            have HN2 := Lib.hid (HR.out.take HE.out hb32 hp)
            clear hpb hp
            have hcr := HT.out.rc b (by rw [HE.out.rl]; exact hb32)
            have hcm := HT.out.mc b (by rw [HE.out.ml]; exact hb32)
            go_wp2_with fail
            go_round
            case rel => exact ⟨(b : Int) - 1, b, l ^^^ wat R b, a ^^^ wat M b, by omega, by omega, congrArg _ (bits_xor_V _ _), congrArg _ (bits_xor_V _ _), by go_num, HN2⟩
            case measure => simp [intOf] <;> omega
end Go.Proofs.Ytmmggkjfhiflaaa.Crc
