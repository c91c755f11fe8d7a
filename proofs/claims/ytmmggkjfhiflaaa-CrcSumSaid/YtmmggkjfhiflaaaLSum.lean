/-
  The walk of the statement CrcSum.
-/
import Derived.Test.YtmmggkjfhiflaaaLBoth
import Derived.Test.YtmmggkjfhiflaaaW10
namespace Go.Proofs.Ytmmggkjfhiflaaa.Crc
open Go.RowKit

/-- three texts of one length, combined, as far as k -/
def mix (a b c : List UInt8) (k : Nat) : List UInt8 := (List.range k).map fun i => a.getD i 0 ^^^ b.getD i 0 ^^^ c.getD i 0
theorem mix_length (a b c : List UInt8) (k : Nat) : (mix a b c k).length = k := by unfold mix; simp
theorem mix_get (a b c : List UInt8) (k j : Nat) (h : j < (mix a b c k).length) : (mix a b c k)[j] = a.getD j 0 ^^^ b.getD j 0 ^^^ c.getD j 0 := by simp [mix]
theorem mix_bit (a b c : List UInt8) (k j : Nat) (h : j < 8 * k) : bitAt (mix a b c k) j = (bitAt a j ^^ bitAt b j ^^ bitAt c j) := by
  unfold bitAt mix
  have hk : j / 8 < k := by omega
  rw [List.getD_eq_getElem?_getD, List.getElem?_map, List.getElem?_range hk]
  simp only [Option.map_some, Option.getD_some]
  rw [UInt8.toNat_xor, UInt8.toNat_xor, Nat.testBit_xor, Nat.testBit_xor]
theorem bitAt_take (l : List UInt8) (k j : Nat) (h : j < 8 * k) : bitAt (l.take k) j = bitAt l j := by
  unfold bitAt
  rw [List.getD_eq_getElem?_getD, List.getElem?_take_of_lt (by omega), ← List.getD_eq_getElem?_getD]
theorem of_mix (a b c : List UInt8) (k : Nat) (ha : k ≤ a.length) (hb : k ≤ b.length) (hc : k ≤ c.length) : ofW (a.take k) ^^^ ofW (b.take k) ^^^ ofW (c.take k) = ofW (mix a b c k) := by
  have la : (a.take k).length = k := by rw [List.length_take]; omega
  have lb : (b.take k).length = k := by rw [List.length_take]; omega
  have lc : (c.take k).length = k := by rw [List.length_take]; omega
  have hx : raw (~~~ 0) (a.take k) ^^^ raw (~~~ 0) (b.take k) ^^^ raw (~~~ 0) (c.take k) = raw (~~~ 0) (mix a b c k) := by
    rw [raw_rb, raw_rb, raw_rb, raw_rb, la, lb, lc, mix_length, ← rb_xor, ← rb_xor]
    have e : (~~~ (0 : W)) ^^^ ~~~ 0 ^^^ ~~~ 0 = ~~~ 0 := by decide
    rw [e]
    apply rb_congr
    intro j hj
    rw [bitAt_take _ _ _ hj, bitAt_take _ _ _ hj, bitAt_take _ _ _ hj, mix_bit _ _ _ _ _ hj]
  unfold ofW addW
  rw [← hx]
  apply BitVec.eq_of_getLsbD_eq; intro i hi
  simp only [BitVec.getLsbD_xor, BitVec.getLsbD_not, hi, decide_true, Bool.true_and]
  cases (raw (~~~ 0) (a.take k)).getLsbD i <;> cases (raw (~~~ 0) (b.take k)).getLsbD i <;> cases (raw (~~~ 0) (c.take k)).getLsbD i <;> rfl

/-- the row that is filled: n cells, of which the first k are done -/
structure Part (a b c : List UInt8) (g n k : Nat) (w w' : World) : Prop where
  lt : g < w'.heap.size
  cell : ∀ j, j < n → ∃ v, w'.cell? ⟨g, j, none⟩ = some v ∧ (j < k → v = .int .u8 ((a.getD j 0 ^^^ b.getD j 0 ^^^ c.getD j 0).toNat : Int))
  free : ∀ j, j < n → w'.frozen? ⟨g, j, none⟩ = false
  bel : Below w.heap.size w w'
  old : w.heap.size ≤ g
theorem Part.step {a b c : List UInt8} {g n k : Nat} {w w' : World} (h : Part a b c g n k w w') (hk : k < n) : Part a b c g n (k + 1) w (w'.drew.setCell ⟨g, k, none⟩ (.int .u8 ((a.getD k 0 ^^^ b.getD k 0 ^^^ c.getD k 0).toNat : Int))) := by
  refine ⟨?_, fun j hj => ?_, fun j hj => ?_, (h.bel.drew).setCell (p := ⟨g, k, none⟩) h.old _, h.old⟩
  · rw [World.setCell]; simp; exact h.lt
  · obtain ⟨v, hv, hd⟩ := h.cell j hj
    by_cases e : k = j
    · subst e
      exact ⟨_, World.cell?_setCell_same w'.drew _ _ hv, fun _ => rfl⟩
    · refine ⟨v, ?_, fun hl => hd (by omega)⟩
      rw [World.cell?_setCell_other w'.drew _ _ _ (by intro hc; exact e (congrArg Addr.off hc))]
      exact hv
  · rw [World.frozen?_setCell]; exact h.free j hj
theorem Part.whole {a b c : List UInt8} {g n : Nat} {w w' : World} (h : Part a b c g n n w w') : Buf w' g (mix a b c n) := by
  refine ⟨h.lt, fun j hj => ?_⟩
  rw [mix_length] at hj
  obtain ⟨v, hv, hd⟩ := h.cell j hj
  refine ⟨?_, h.free j hj⟩
  rw [hv, hd hj, mix_get]
theorem getD_str (s : ByteArray) (k : Nat) (h : k < s.size) : s.data.toList.getD k 0 = s[k] := by
  rw [List.getD_eq_getElem?_getD, List.getElem?_eq_getElem (by simpa using h)]; rfl
/-- what stands all through the last statement -/
structure St2 (g n : Nat) (M : List UInt8) (w w' : World) : Prop where
  len : M.length = n
  buf : Buf w' g M
  bel : Below w.heap.size w w'
theorem St2.both {g n : Nat} {M : List UInt8} {w w' : World} (h : St2 g n M w w') : (convert 42 9 (.slice (some ⟨g, 0, none⟩) n n)).run Try.prog w' = .ok (.string (S M)) w' ∧ St2 g n M w w' :=
  ⟨conv_bytes w' g 0 n n M h.len.symm h.buf.row.2, h⟩
theorem St2.below {g n : Nat} {M : List UInt8} {w w' w2 : World} (h : St2 g n M w w') (hb : Below w'.heap.size w' w2) : St2 g n M w w2 := ⟨h.len, h.buf.below hb, h.bel.trans (hb.mono h.bel.size)⟩
theorem St2.drew {g n : Nat} {M : List UInt8} {w w' : World} (h : St2 g n M w w') : St2 g n M w w'.drew := ⟨h.len, h.buf, h.bel.drew⟩
theorem xor3 (x y z : UInt8) : bits .xor .u8 (bits .xor .u8 (x.toNat : Int) (y.toNat : Int)) (z.toNat : Int) = ((x ^^^ y ^^^ z).toNat : Int) := by
  rw [u8_xor_nat _ _ x.toNat_lt y.toNat_lt, u8_xor_nat _ _ (Nat.xor_lt_two_pow (n := 8) x.toNat_lt y.toNat_lt) z.toNat_lt, UInt8.toNat_xor, UInt8.toNat_xor]
theorem madeCells_get (m i : Nat) (h : i < m) : ∃ v, (madeCells (Value.int .u8 0).cells m)[i]? = some v := by
  have hs := size_madeCells (Value.int .u8 0).cells m
  exact ⟨_, Array.getElem?_eq_getElem (by rw [hs]; exact h)⟩

set_option maxRecDepth 100000 in
set_option maxHeartbeats 1000000 in
theorem crcSum_walk (a b c : ByteArray) (_w0 : a.size ≤ maxLen) (_w1 : b.size ≤ maxLen) (_w2 : c.size ≤ maxLen) (w : World) :
    Calls Try.prog 9 #[.string a, .string b, .string c] w fun e w' => e = .returned (.bool true) ∧ Below w.heap.size w w' := by
  have hb0 : Below w.heap.size w w := Below.refl _ _
  obtain ⟨n, hrm, hna, hnb, hnc⟩ : ∃ n : Nat, (∀ w' : World, (Builtin.min_ #[3, 3, 3] 3 #[.int .i64 (a.size : Int), .int .i64 (b.size : Int), .int .i64 (c.size : Int)]).run Try.prog w' = .ok (.int .i64 (n : Int)) w') ∧ n ≤ a.size ∧ n ≤ b.size ∧ n ≤ c.size := by
    refine ⟨min (min a.size b.size) c.size, fun w' => ?_, by omega, by omega, by omega⟩
    rw [run_min_int3]
    congr 2
    split <;> (try split at *) <;> omega
  unfold maxLen at _w0 _w1 _w2
  obtain ⟨i0, hi, hz0, hz1, hz2⟩ := info_parts info5
  obtain ⟨M, hM⟩ : ∃ M, M = madeCells (Value.int .u8 0).cells (((n : Nat) : Int).toNat * i0.size) := ⟨_, rfl⟩
  by_cases h3 : n ≤ 3000
  · have hmk : ∀ W : World, (Instr.makeSlice 42 (.int .i64 (n : Int)) (.int .i64 (n : Int))).run Try.prog W = .ok (.slice (some ⟨W.heap.size, 0, none⟩) n n) (W.alloc (.cells M 5)) := fun W => by
      have h := run_make (P := Try.prog) W 42 5 i0 (.int .u8 0) Try.underlying42 hi hz0 .i64 .i64 (n : Int) (n : Int) (by omega) (by omega) (by rw [hz2]; omega) (by omega)
      rw [← hM] at h
      simpa using h
    have HMg : Hid (∀ j, j < n → ∃ v, M[j]? = some v) := fun j hj => by
      have e : ((n : Nat) : Int).toNat * i0.size = n := by rw [hz1]; simp
      rw [hM, e]; exact madeCells_get n j hj
    clear hM hi hz0 hz1 hz2
    go_enter Try.func9, Try.ntmps9
    go_wp2_with (go_at_call 12; refine (carry ‹Below w.heap.size w _› (awake_any _)).mono ?_; rintro e w1 ⟨rfl, hb1⟩)
    have HP0 : Hid (Part a.data.toList b.data.toList c.data.toList w1.heap.size n 0 w (w1.alloc (.cells M 5))) := by
      have hb := ‹Below w.heap.size w w1›
      refine ⟨by simp, fun j hj => ?_, fun j hj => frozen_of_row _ _ _ _ _ (heap_alloc_new w1 _), hb.alloc hb.size _, hb.size⟩
      obtain ⟨v, hv⟩ := HMg.out j hj
      exact ⟨v, by rw [cell_of_row _ _ _ _ _ _ (heap_alloc_new w1 _)]; exact hv, fun h => absurd h (Nat.not_lt_zero _)⟩
    clear hmk hrm
    generalize w1.alloc (.cells M 5) = W2 at *
    generalize w1.heap.size = g at *
    clear hb0
    go_loopw [9] (fun x wr => ∃ k : Nat, k ≤ n ∧ x = .int .i64 k ∧ Hid (Part a.data.toList b.data.toList c.data.toList g n k w wr)) (fun x _ => n - (intOf x).toNat)
    case atStart => exact ⟨0, by omega, rfl, HP0⟩
    case round =>
      obtain ⟨k, hk, rfl, HP⟩ := hrel
      by_cases hlt : k < n
      · obtain ⟨v, hv, _⟩ := HP.out.cell k hlt
        have hfz := HP.out.free k hlt
        have hk0 : (0 : Int) ≤ (k : Int) := by omega
        have hk1 : (k : Int) < (n : Int) := by omega
        have hka : (k : Int) < (a.size : Int) := by omega
        have hkb : (k : Int) < (b.size : Int) := by omega
        have hkc : (k : Int) < (c.size : Int) := by omega
        have hna2 : k < a.size := by omega
        have hnb2 : k < b.size := by omega
        have hnc2 : k < c.size := by omega
        -- R8
        go_wp2_with fail
        have ha := getD_str a k hna2
        have hb := getD_str b k hnb2
        have hc := getD_str c k hnc2
        have HV := Lib.hid (xor3 a[k] b[k] c[k])
        have HA := Lib.hid ha; have HB := Lib.hid hb; have HC := Lib.hid hc; clear ha hb hc
        refine wp_region_held_drew (S := fun _ => True) (by kernel_rfl) trivial (fun hHeld => ?_)
        refine wpAnyH_take (i := 0) (oi := _) (v := ?_) rfl (by kernel_rfl) (by kernel_rfl) (by kernel_rfl) (fun _ _ _ h => h) (Or.inl ⟨by rfl, ?_⟩) (by assumption) ?_
        rotate_left
        · intro wx hSw
          (try dsimp only at hSw)
          go_simp
          (try with_reducible rfl)
        (try simp only [List.getElem_toArray, List.getElem_cons_zero, List.getElem_cons_succ, Act.put, List.setIfInBounds_toArray, List.set_cons_zero, List.set_cons_succ, Array.toArray_toList])
        refine wpAnyH_take (i := 1) (oi := _) (v := ?_) rfl (by kernel_rfl) (by kernel_rfl) (by kernel_rfl) (fun _ _ _ h => h) (Or.inl ⟨by rfl, ?_⟩) (by assumption) ?_
        rotate_left
        · intro wx hSw
          (try dsimp only at hSw)
          go_simp
          (try with_reducible rfl)
        (try simp only [List.getElem_toArray, List.getElem_cons_zero, List.getElem_cons_succ, Act.put, List.setIfInBounds_toArray, List.set_cons_zero, List.set_cons_succ, Array.toArray_toList])
        refine wpAnyH_take (i := 2) (oi := _) (v := ?_) rfl (by kernel_rfl) (by kernel_rfl) (by kernel_rfl) (fun _ _ _ h => h) (Or.inl ⟨by rfl, ?_⟩) (by assumption) ?_
        rotate_left
        · intro wx hSw
          (try dsimp only at hSw)
          go_simp
          (try with_reducible rfl)
        (try simp only [List.getElem_toArray, List.getElem_cons_zero, List.getElem_cons_succ, Act.put, List.setIfInBounds_toArray, List.set_cons_zero, List.set_cons_succ, Array.toArray_toList])
        refine wpAnyH_take (i := 3) (oi := _) (v := ?_) rfl (by kernel_rfl) (by kernel_rfl) (by kernel_rfl) (fun _ _ _ h => h) (Or.inl ⟨by rfl, ?_⟩) (by assumption) ?_
        rotate_left
        · intro wx hSw
          (try dsimp only at hSw)
          go_simp
          (try with_reducible rfl)
        (try simp only [List.getElem_toArray, List.getElem_cons_zero, List.getElem_cons_succ, Act.put, List.setIfInBounds_toArray, List.set_cons_zero, List.set_cons_succ, Array.toArray_toList])
        refine wpAnyH_take (i := 4) (oi := _) (v := ?_) rfl (by kernel_rfl) (by kernel_rfl) (by kernel_rfl) (fun _ _ _ h => h) (Or.inl ⟨by rfl, ?_⟩) (by assumption) ?_
        rotate_left
        · intro wx hSw
          (try dsimp only at hSw)
          go_simp
          (try with_reducible rfl)
        (try simp only [List.getElem_toArray, List.getElem_cons_zero, List.getElem_cons_succ, Act.put, List.setIfInBounds_toArray, List.set_cons_zero, List.set_cons_succ, Array.toArray_toList])
        refine wpAnyH_take (i := 5) (oi := _) (v := ?_) rfl (by kernel_rfl) (by kernel_rfl) (by kernel_rfl) (fun _ _ _ h => h) (Or.inl ⟨by rfl, ?_⟩) (by assumption) ?_
        rotate_left
        · intro wx hSw
          (try dsimp only at hSw)
          go_simp
          (try with_reducible rfl)
        (try simp only [List.getElem_toArray, List.getElem_cons_zero, List.getElem_cons_succ, Act.put, List.setIfInBounds_toArray, List.set_cons_zero, List.set_cons_succ, Array.toArray_toList])
        refine wpAnyH_take (i := 6) (oi := _) (v := ?_) rfl (by kernel_rfl) (by kernel_rfl) (by kernel_rfl) (fun _ _ _ h => h) (Or.inl ⟨by rfl, ?_⟩) (by assumption) ?_
        rotate_left
        · intro wx hSw
          (try dsimp only at hSw)
          go_simp
          (try with_reducible rfl)
        (try simp only [List.getElem_toArray, List.getElem_cons_zero, List.getElem_cons_succ, Act.put, List.setIfInBounds_toArray, List.set_cons_zero, List.set_cons_succ, Array.toArray_toList])
        refine wpAnyH_take (i := 7) (oi := _) (v := ?_) rfl (by kernel_rfl) (by kernel_rfl) (by kernel_rfl) (fun _ _ _ h => h) (Or.inl ⟨by rfl, ?_⟩) (by assumption) ?_
        rotate_left
        · intro wx hSw
          (try dsimp only at hSw)
          go_simp
          (try with_reducible rfl)
        (try simp only [List.getElem_toArray, List.getElem_cons_zero, List.getElem_cons_succ, Act.put, List.setIfInBounds_toArray, List.set_cons_zero, List.set_cons_succ, Array.toArray_toList])
        refine wpAnyH_take (i := 8) (oi := _) (v := ?_) rfl (by kernel_rfl) (by kernel_rfl) (by kernel_rfl) (fun _ _ _ h => h) (Or.inl ⟨by rfl, ?_⟩) (by assumption) ?_
        rotate_left
        · intro wx hSw
          (try dsimp only at hSw)
          go_simp
          (try with_reducible rfl)
        (try simp only [List.getElem_toArray, List.getElem_cons_zero, List.getElem_cons_succ, Act.put, List.setIfInBounds_toArray, List.set_cons_zero, List.set_cons_succ, Array.toArray_toList])
        refine wpAnyH_take (i := 9) (oi := _) (v := ?_) rfl (by kernel_rfl) (by kernel_rfl) (by kernel_rfl) (fun _ _ _ h => h) (Or.inl ⟨by rfl, ?_⟩) (by assumption) ?_
        rotate_left
        · intro wx hSw
          (try dsimp only at hSw)
          go_simp
          (try with_reducible rfl)
        (try simp only [List.getElem_toArray, List.getElem_cons_zero, List.getElem_cons_succ, Act.put, List.setIfInBounds_toArray, List.set_cons_zero, List.set_cons_succ, Array.toArray_toList])
        refine wpAnyH_take (i := 10) (oi := _) (v := ?_) rfl (by kernel_rfl) (by kernel_rfl) (by kernel_rfl) (fun _ _ _ h => h) (Or.inl ⟨by rfl, ?_⟩) (by assumption) ?_
        rotate_left
        · intro wx hSw
          (try dsimp only at hSw)
          go_simp
          (try with_reducible rfl)
        (try simp only [List.getElem_toArray, List.getElem_cons_zero, List.getElem_cons_succ, Act.put, List.setIfInBounds_toArray, List.set_cons_zero, List.set_cons_succ, Array.toArray_toList])
        refine wpAnyH_take (i := 11) (oi := _) (v := ?_) rfl (by kernel_rfl) (by kernel_rfl) (by kernel_rfl) (fun _ _ _ h => h) (Or.inl ⟨by rfl, ?_⟩) (by assumption) ?_
        rotate_left
        · intro wx hSw
          (try dsimp only at hSw)
          go_simp
          (try with_reducible rfl)
        (try simp only [List.getElem_toArray, List.getElem_cons_zero, List.getElem_cons_succ, Act.put, List.setIfInBounds_toArray, List.set_cons_zero, List.set_cons_succ, Array.toArray_toList])
        refine wpAnyH_take (i := 12) (oi := _) (v := ?_) rfl (by kernel_rfl) (by kernel_rfl) (by kernel_rfl) (fun _ _ _ h => h) (Or.inl ⟨by rfl, ?_⟩) (by assumption) ?_
        rotate_left
        · intro wx hSw
          (try dsimp only at hSw)
          go_simp
          (try with_reducible rfl)
        (try simp only [List.getElem_toArray, List.getElem_cons_zero, List.getElem_cons_succ, Act.put, List.setIfInBounds_toArray, List.set_cons_zero, List.set_cons_succ, Array.toArray_toList])
        refine wpAnyH_take (i := 13) (oi := _) (v := ?_) rfl (by kernel_rfl) (by kernel_rfl) (by kernel_rfl) (fun _ _ _ h => h) (Or.inl ⟨by rfl, ?_⟩) (by assumption) ?_
        rotate_left
        · intro wx hSw
          (try dsimp only at hSw)
          go_simp
          (try with_reducible rfl)
        (try simp only [List.getElem_toArray, List.getElem_cons_zero, List.getElem_cons_succ, Act.put, List.setIfInBounds_toArray, List.set_cons_zero, List.set_cons_succ, Array.toArray_toList])
        refine wpAnyH_ready (rs := [14]) (by kernel_rfl) (by simp) ?_
        refine AllReadyH.cons (o := _) rfl (fun K hK => ?_) ?_
        · (try simp only [List.getElem_toArray, List.getElem_cons_zero, List.getElem_cons_succ])
          go_simp
          refine hK.out _ _ trivial (fun _ => ?_)
          clear hK K
          (try simp only [List.getElem_toArray, List.getElem_cons_zero, List.getElem_cons_succ, Act.put, List.setIfInBounds_toArray, List.set_cons_zero, List.set_cons_succ, Array.toArray_toList])
          refine wpAnyH_done (by kernel_rfl) ?_ _
          go_wp2_with fail
          go_roundw
          case rel =>
            refine ⟨k + 1, by omega, by go_num, ?_⟩
            have h := HP.out.step hlt
            rw [HA.out, HB.out, HC.out, ← HV.out] at h
            exact h
          case measure => simp [intOf]; omega
        exact AllReadyH.nil
      · obtain rfl : k = n := by omega
        have hst : St2 g k (mix a.data.toList b.data.toList c.data.toList k) w wr := ⟨mix_length _ _ _ _, HP.out.whole, HP.out.bel⟩
        have HMIX := Lib.hid (of_mix a.data.toList b.data.toList c.data.toList k (by simpa using hna) (by simpa using hnb) (by simpa using hnc))
        have hsz : (a.extract 0 k).size ≤ maxLen ∧ (b.extract 0 k).size ≤ maxLen ∧ (c.extract 0 k).size ≤ maxLen ∧ (S (mix a.data.toList b.data.toList c.data.toList k)).size ≤ maxLen := by
          rw [ByteArray.size_extract, ByteArray.size_extract, ByteArray.size_extract, S_size, mix_length]; unfold maxLen; omega
        have HSZ := Lib.hid hsz; clear hsz
        generalize hM2 : mix a.data.toList b.data.toList c.data.toList k = M2 at *
        have hU : (S M2).data.toList = M2 := S_list _
        have HU := Lib.hid hU; clear hU hM2 hlt HP HMg HP0
        have hk0 : (0 : Int) ≤ (k : Int) := by omega
        have hka : (k : Int) ≤ (a.size : Int) := by omega
        have hkb : (k : Int) ≤ (b.size : Int) := by omega
        have hkc : (k : Int) ≤ (c.size : Int) := by omega
        go_wp2_with fail
        refine wp_region_held_drew (S := fun w' => St2 g k M2 w w') (by kernel_rfl) hst.drew (fun hHeld => ?_)
        refine wpAnyH_take (i := 0) (oi := _) (v := ?_) rfl (by kernel_rfl) (by kernel_rfl) (by kernel_rfl) (fun _ _ _ h => h) (Or.inl ⟨by rfl, ?_⟩) (by assumption) ?_
        rotate_left
        · intro wx hSw
          (try dsimp only at hSw)
          go_simp
          (try with_reducible rfl)
        (try simp only [List.getElem_toArray, List.getElem_cons_zero, List.getElem_cons_succ, Act.put, List.setIfInBounds_toArray, List.set_cons_zero, List.set_cons_succ, Array.toArray_toList])
        refine wpAnyH_take (i := 1) (oi := _) (v := ?_) rfl (by kernel_rfl) (by kernel_rfl) (by kernel_rfl) (fun _ _ _ h => h) (Or.inl ⟨by rfl, ?_⟩) (by assumption) ?_
        rotate_left
        · intro wx hSw
          (try dsimp only at hSw)
          go_simp
          (try with_reducible rfl)
        (try simp only [List.getElem_toArray, List.getElem_cons_zero, List.getElem_cons_succ, Act.put, List.setIfInBounds_toArray, List.set_cons_zero, List.set_cons_succ, Array.toArray_toList])
        refine wpAnyH_take (i := 2) (oi := _) (v := ?_) rfl (by kernel_rfl) (by kernel_rfl) (by kernel_rfl) (fun _ _ _ h => h) (Or.inl ⟨by rfl, ?_⟩) (by assumption) ?_
        rotate_left
        · intro wx hSw
          (try dsimp only at hSw)
          go_simp
          (try with_reducible rfl)
        (try simp only [List.getElem_toArray, List.getElem_cons_zero, List.getElem_cons_succ, Act.put, List.setIfInBounds_toArray, List.set_cons_zero, List.set_cons_succ, Array.toArray_toList])
        refine wpAnyH_take (i := 4) (oi := _) (v := ?_) rfl (by kernel_rfl) (by kernel_rfl) (by kernel_rfl) (fun _ _ _ h => h) (Or.inl ⟨by rfl, ?_⟩) (by assumption) ?_
        rotate_left
        · intro wx hSw
          (try dsimp only at hSw)
          go_simp
          (try with_reducible rfl)
        (try simp only [List.getElem_toArray, List.getElem_cons_zero, List.getElem_cons_succ, Act.put, List.setIfInBounds_toArray, List.set_cons_zero, List.set_cons_succ, Array.toArray_toList])
        refine wpAnyH_take (i := 5) (oi := _) (v := ?_) rfl (by kernel_rfl) (by kernel_rfl) (by kernel_rfl) (fun _ _ _ h => h) (Or.inl ⟨by rfl, ?_⟩) (by assumption) ?_
        rotate_left
        · intro wx hSw
          (try dsimp only at hSw)
          go_simp
          (try with_reducible rfl)
        (try simp only [List.getElem_toArray, List.getElem_cons_zero, List.getElem_cons_succ, Act.put, List.setIfInBounds_toArray, List.set_cons_zero, List.set_cons_succ, Array.toArray_toList])
        refine wpAnyH_take (i := 6) (oi := _) (v := ?_) rfl (by kernel_rfl) (by kernel_rfl) (by kernel_rfl) (fun _ _ _ h => h) (Or.inl ⟨by rfl, ?_⟩) (by assumption) ?_
        rotate_left
        · intro wx hSw
          (try dsimp only at hSw)
          go_simp
          (try with_reducible rfl)
        (try simp only [List.getElem_toArray, List.getElem_cons_zero, List.getElem_cons_succ, Act.put, List.setIfInBounds_toArray, List.set_cons_zero, List.set_cons_succ, Array.toArray_toList])
        refine wpAnyH_take (i := 9) (oi := _) (v := ?_) rfl (by kernel_rfl) (by kernel_rfl) (by kernel_rfl) (fun _ _ _ h => h) (Or.inl ⟨by rfl, ?_⟩) (by assumption) ?_
        rotate_left
        · intro wx hSw
          (try dsimp only at hSw)
          go_simp
          (try with_reducible rfl)
        (try simp only [List.getElem_toArray, List.getElem_cons_zero, List.getElem_cons_succ, Act.put, List.setIfInBounds_toArray, List.set_cons_zero, List.set_cons_succ, Array.toArray_toList])
        refine wpAnyH_take (i := 10) (oi := _) (v := ?_) rfl (by kernel_rfl) (by kernel_rfl) (by kernel_rfl) (fun _ _ _ h => h) (Or.inl ⟨by rfl, ?_⟩) (by assumption) ?_
        rotate_left
        · intro wx hSw
          (try dsimp only at hSw)
          go_simp
          (try with_reducible rfl)
        (try simp only [List.getElem_toArray, List.getElem_cons_zero, List.getElem_cons_succ, Act.put, List.setIfInBounds_toArray, List.set_cons_zero, List.set_cons_succ, Array.toArray_toList])
        refine wpAnyH_take (i := 11) (oi := _) (v := ?_) rfl (by kernel_rfl) (by kernel_rfl) (by kernel_rfl) (fun _ _ _ h => h) (Or.inl ⟨by rfl, ?_⟩) (by assumption) ?_
        rotate_left
        · intro wx hSw
          (try dsimp only at hSw)
          go_simp
          (try with_reducible rfl)
        (try simp only [List.getElem_toArray, List.getElem_cons_zero, List.getElem_cons_succ, Act.put, List.setIfInBounds_toArray, List.set_cons_zero, List.set_cons_succ, Array.toArray_toList])
        refine wpAnyH_take (i := 14) (oi := _) (v := ?_) rfl (by kernel_rfl) (by kernel_rfl) (by kernel_rfl) (fun _ _ _ h => h) (Or.inl ⟨by rfl, ?_⟩) (by assumption) ?_
        rotate_left
        · intro wx hSw
          (try dsimp only at hSw)
          go_simp
          (try with_reducible rfl)
        (try simp only [List.getElem_toArray, List.getElem_cons_zero, List.getElem_cons_succ, Act.put, List.setIfInBounds_toArray, List.set_cons_zero, List.set_cons_succ, Array.toArray_toList])
        refine wpAnyH_take (i := 15) (oi := _) (v := ?_) rfl (by kernel_rfl) (by kernel_rfl) (by kernel_rfl) (fun _ _ _ h => h) (Or.inl ⟨by rfl, ?_⟩) (by assumption) ?_
        rotate_left
        · intro wx hSw
          (try dsimp only at hSw)
          have hcx := hSw.both.1
          go_simp
          (try with_reducible rfl)
        (try simp only [List.getElem_toArray, List.getElem_cons_zero, List.getElem_cons_succ, Act.put, List.setIfInBounds_toArray, List.set_cons_zero, List.set_cons_succ, Array.toArray_toList])
        refine wpAnyH_ready (rs := [3]) (by kernel_rfl) (by simp) ?_
        refine AllReadyH.cons (o := _) rfl (fun K hK => ?_) ?_
        · (try simp only [List.getElem_toArray, List.getElem_cons_zero, List.getElem_cons_succ])
          go_simp
          refine (of_any _ _ HSZ.out.1).mono ?_; rintro e w3 ⟨rfl, hb3⟩
          (try dsimp only)
          refine hK.out _ _ (St2.below (by assumption) (by assumption)) (fun hH3 => ?_)
          clear hK K
          (try simp only [List.getElem_toArray, List.getElem_cons_zero, List.getElem_cons_succ, Act.put, List.setIfInBounds_toArray, List.set_cons_zero, List.set_cons_succ, Array.toArray_toList])
          refine wpAnyH_ready (rs := [7]) (by kernel_rfl) (by simp) ?_
          refine AllReadyH.cons (o := _) rfl (fun K hK => ?_) ?_
          · (try simp only [List.getElem_toArray, List.getElem_cons_zero, List.getElem_cons_succ])
            go_simp
            refine (of_any _ _ HSZ.out.2.1).mono ?_; rintro e w7 ⟨rfl, hb7⟩
            (try dsimp only)
            refine hK.out _ _ (St2.below (by assumption) (by assumption)) (fun hH7 => ?_)
            clear hK K
            (try simp only [List.getElem_toArray, List.getElem_cons_zero, List.getElem_cons_succ, Act.put, List.setIfInBounds_toArray, List.set_cons_zero, List.set_cons_succ, Array.toArray_toList])
            refine wpAnyH_take (i := 8) (oi := _) (v := ?_) rfl (by kernel_rfl) (by kernel_rfl) (by kernel_rfl) (fun _ _ _ h => h) (Or.inl ⟨by rfl, ?_⟩) (by assumption) ?_
            rotate_left
            · intro wx hSw
              (try dsimp only at hSw)
              go_simp
              (try with_reducible rfl)
            (try simp only [List.getElem_toArray, List.getElem_cons_zero, List.getElem_cons_succ, Act.put, List.setIfInBounds_toArray, List.set_cons_zero, List.set_cons_succ, Array.toArray_toList])
            refine wpAnyH_ready (rs := [12]) (by kernel_rfl) (by simp) ?_
            refine AllReadyH.cons (o := _) rfl (fun K hK => ?_) ?_
            · (try simp only [List.getElem_toArray, List.getElem_cons_zero, List.getElem_cons_succ])
              go_simp
              refine (of_any _ _ HSZ.out.2.2.1).mono ?_; rintro e w12 ⟨rfl, hb12⟩
              (try dsimp only)
              refine hK.out _ _ (St2.below (by assumption) (by assumption)) (fun hH12 => ?_)
              clear hK K
              (try simp only [List.getElem_toArray, List.getElem_cons_zero, List.getElem_cons_succ, Act.put, List.setIfInBounds_toArray, List.set_cons_zero, List.set_cons_succ, Array.toArray_toList])
              refine wpAnyH_take (i := 13) (oi := _) (v := ?_) rfl (by kernel_rfl) (by kernel_rfl) (by kernel_rfl) (fun _ _ _ h => h) (Or.inl ⟨by rfl, ?_⟩) (by assumption) ?_
              rotate_left
              · intro wx hSw
                (try dsimp only at hSw)
                go_simp
                (try with_reducible rfl)
              (try simp only [List.getElem_toArray, List.getElem_cons_zero, List.getElem_cons_succ, Act.put, List.setIfInBounds_toArray, List.set_cons_zero, List.set_cons_succ, Array.toArray_toList])
              refine wpAnyH_ready (rs := [16]) (by kernel_rfl) (by simp) ?_
              refine AllReadyH.cons (o := _) rfl (fun K hK => ?_) ?_
              · (try simp only [List.getElem_toArray, List.getElem_cons_zero, List.getElem_cons_succ])
                go_simp
                refine (of_any (S M2) _ HSZ.out.2.2.2).mono ?_; rintro e w16 ⟨rfl, hb16⟩
                (try dsimp only)
                refine hK.out _ _ (St2.below (by assumption) (by assumption)) (fun hH16 => ?_)
                clear hK K
                (try simp only [List.getElem_toArray, List.getElem_cons_zero, List.getElem_cons_succ, Act.put, List.setIfInBounds_toArray, List.set_cons_zero, List.set_cons_succ, Array.toArray_toList])
                refine wpAnyH_take (i := 17) (oi := _) (v := ?_) rfl (by kernel_rfl) (by kernel_rfl) (by kernel_rfl) (fun _ _ _ h => h) (Or.inl ⟨by rfl, ?_⟩) (by assumption) ?_
                rotate_left
                · intro wx hSw
                  (try dsimp only at hSw)
                  go_simp
                  (try with_reducible rfl)
                (try simp only [List.getElem_toArray, List.getElem_cons_zero, List.getElem_cons_succ, Act.put, List.setIfInBounds_toArray, List.set_cons_zero, List.set_cons_succ, Array.toArray_toList])
                refine wpAnyH_take (i := 18) (oi := _) (v := ?_) rfl (by kernel_rfl) (by kernel_rfl) (by kernel_rfl) (fun _ _ _ h => h) (Or.inl ⟨by rfl, ?_⟩) (by assumption) ?_
                rotate_left
                · intro wx hSw
                  (try dsimp only at hSw)
                  go_simp
                  (try with_reducible rfl)
                (try simp only [List.getElem_toArray, List.getElem_cons_zero, List.getElem_cons_succ, Act.put, List.setIfInBounds_toArray, List.set_cons_zero, List.set_cons_succ, Array.toArray_toList])
                refine wpAnyH_done (by kernel_rfl) ?_ _
                go_wp2_with fail
                go_ret
                exact ⟨ret_bool (by rw [bits_xor_V, bits_xor_V, HMIX.out, HU.out]; exact beq_self_eq_true _), hH16.bel⟩
              exact AllReadyH.nil
            exact AllReadyH.nil
          exact AllReadyH.nil
        exact AllReadyH.nil
  · clear hM
    go_enter Try.func9, Try.ntmps9
    go_wp2_with (go_at_call 12; refine (carry ‹Below w.heap.size w _› (awake_any _)).mono ?_; rintro e w1 ⟨rfl, hb1⟩)
    go_ret
    exact ⟨rfl, ‹Below w.heap.size w _›⟩

end Go.Proofs.Ytmmggkjfhiflaaa.Crc
