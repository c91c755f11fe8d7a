/-
  formatBase10 into a row of N places, of a number below 10^(N+1): what each place holds then (the table of powers of ten, whatever it holds, is off by one place at most).
-/
import Derived.Test.YtdaeiapogipjbaaDoorD18
import Derived.Lib.ItoaWalk
import Derived.Lib.ItoaMem
import Derived.RegionTactic
import Derived.BigCall
import Derived.BigGuard
import Derived.CellFam
namespace Go.Proofs.YtdaeiapogipjbaaDoor.Fault
open Go Go.RowKit Go.Sort Go.Lib

/-- what place t of N holds -/
def digB (N u t : Nat) : UInt8 := if t = 0 ∧ N % 2 = 1 then UInt8.ofNat (48 + u / 10 ^ (N - 1)) else dg u (N - 1 - t)
/-- k places are still to be filled, v is left -/
structure Part (N u k v : Nat) (d : Array UInt8) : Prop where
  size : d.size = N
  le : k ≤ N
  par : k % 2 = N % 2
  rest : v = u / 10 ^ (N - k)
  small : v < 10 ^ (k + 1)
  done : ∀ t, k ≤ t → t < N → d[t]! = digB N u t
theorem Part.start (d : Array UInt8) (u : Nat) (h : u < 10 ^ (d.size + 1)) : Part d.size u d.size u d := ⟨rfl, Nat.le_refl _, rfl, by simp, h, fun t h1 h2 => by omega⟩
theorem Part.pair {N u k v : Nat} {d : Array UInt8} (h : Part N u (k + 2) v d) : Part N u k (v / 100) ((d.setIfInBounds (k + 1) (sm (v % 100 * 2 + 1))).setIfInBounds k (sm (v % 100 * 2))) := by
  have hle := h.le
  have hpar := h.par
  have hp : v % 100 < 100 := Nat.mod_lt _ (by decide)
  refine ⟨by simp [h.size], by omega, by omega, ?_, ?_, fun t h1 h3 => ?_⟩
  · rw [h.rest, Nat.div_div_eq_div_mul, show N - k = N - (k + 2) + 2 by omega, Nat.pow_add]
  · have hs := h.small
    rw [show k + 2 + 1 = k + 1 + 2 by omega, Nat.pow_add] at hs
    exact Nat.div_lt_of_lt_mul (by rw [Nat.mul_comm]; exact hs)
  · have hstd : t ≤ k + 1 → digB N u t = dg u (N - 1 - t) := fun hk => by unfold digB; rw [if_neg (by omega)]
    by_cases e2 : t = k
    · rw [hstd (by omega), e2, get_set_same _ _ _ (by simp [h.size]; omega), sm_hi _ hp]
      unfold dg
      rw [show N - 1 - k = N - (k + 2) + 1 by omega, Nat.pow_succ, ← Nat.div_div_eq_div_mul, ← h.rest]
      congr 2
      omega
    · rw [get_set_other _ _ _ _ e2]
      by_cases e1 : t = k + 1
      · rw [hstd (by omega), e1, get_set_same _ _ _ (by rw [h.size]; omega), sm_lo _ hp]
        unfold dg
        rw [show N - 1 - (k + 1) = N - (k + 2) by omega, ← h.rest]
        congr 2
        omega
      · rw [get_set_other _ _ _ _ e1]
        exact h.done t (by omega) h3
/-- all places are filled -/
def Full (N u : Nat) (d : Array UInt8) : Prop := d.size = N ∧ ∀ t, t < N → d[t]! = digB N u t
theorem Part.full {N u v : Nat} {d : Array UInt8} (h : Part N u 0 v d) : Full N u d := ⟨h.size, fun t ht => h.done t (Nat.zero_le _) ht⟩
theorem Part.last {N u v : Nat} {d : Array UInt8} (h : Part N u 1 v d) : Full N u (d.setIfInBounds 0 (UInt8.ofNat (48 + v))) := by
  have hle := h.le
  have hpar := h.par
  refine ⟨by simp [h.size], fun t ht => ?_⟩
  by_cases e0 : t = 0
  · rw [e0, get_set_same _ _ _ (by rw [h.size]; omega)]
    unfold digB
    rw [if_pos ⟨rfl, by omega⟩, ← h.rest]
  · rw [get_set_other _ _ _ _ e0]
    exact h.done t (by omega) ht
theorem Part.lt8 {N u k v : Nat} {d : Array UInt8} (h : Part N u k v d) (h8 : k < 8) : v < 100000000 :=
  Nat.lt_of_lt_of_le h.small (by have := Nat.pow_le_pow_right (n := 10) (by decide) (show k + 1 ≤ 8 by omega); simpa using this)

abbrev bV : UInt8 → Value := fun (b : UInt8) => Value.int .u8 (b.toNat : Int)
theorem row_cells {w W : World} {blk off n N : Nat} {d dk : Array UInt8} (hH : Holds bV w blk off d) (hd : d.size = N) (hw : W = (putRow bV w blk off dk).drewN n) (hs : dk.size = N) :
    ∃ G : Nat → Int, (∀ t, t < N → W.cell? ⟨blk, off + t, none⟩ = some (.int .u8 (G t))) ∧ ∀ t, t < N → W.frozen? ⟨blk, off + t, none⟩ = false := by
  have h : Holds bV W blk off dk := by rw [hw]; exact holds_putRow _ w blk off d dk hH (by omega)
  exact ⟨fun t => (dk[t]!.toNat : Int), fun t ht => (h t (by omega)).1, fun t ht => (h t (by omega)).2⟩

set_option maxHeartbeats 12800000 in
set_option maxRecDepth 100000 in
theorem base10_any (blk off cap : Nat) (u : Nat) (d : Array UInt8) (w : World) (hH : Holds bV w blk off d) (hu : u < 10 ^ (d.size + 1)) (hu64 : u < 18446744073709551616) (hsz : d.size < 4611686018427387904) :
    Calls Tryd.prog 53 #[.slice (some ⟨blk, off, none⟩) d.size cap, .int .u64 u] w fun e w' =>
      e = .returned (.tuple #[]) ∧ ∃ (n : Nat) (dk : Array UInt8), w' = (putRow bV w blk off dk).drewN n ∧ Full d.size u dk := by
  have hmx : Tryd.prog.follows .mixedOrders = true := by kernel_rfl
  have HS := Lib.hid (Part.start d u hu)
  obtain ⟨N, hN⟩ : ∃ N, d.size = N := ⟨_, rfl⟩
  rw [hN] at HS hsz ⊢
  clear hu
  go_enter Tryd.func53, Tryd.ntmps53
  go_name_bytes SM hSM
  have eSM : SM = Lib.smalls := by rw [← hSM]; decide +kernel
  subst eSM
  clear hSM
  go_wp2
  go_loopw [1, 4] (fun vu vn wr => ∃ (k v n : Nat) (dk : Array UInt8), vu = .int .u64 v ∧ vn = .int .i64 k ∧ wr = (putRow bV w blk off dk).drewN n ∧ Hid (Part N u k v dk)) (fun _ vn _ => (RowKit.intOf vn).toNat)
  case atStart => exact ⟨N, u, 0, d, rfl, rfl, (putRow_self _ _ _ _ _ hH).symm, HS⟩
  case round =>
    obtain ⟨k, v, n, dk0, rfl, rfl, hw0, HP0⟩ := hrel
    rename World => W0
    have AH := Lib.hid hH
    have AN := Lib.hid hN
    clear hH hN HS
    have hv64 : v < 18446744073709551616 := by have := HP0.out.rest; have := Nat.div_le_self u (10 ^ (N - k)); omega
    have hle0 := HP0.out.le
    obtain ⟨G0, hc0, hf0⟩ := row_cells AH.out AN.out hw0 HP0.out.size
    have AW0 := Lib.hid hw0
    clear hw0
    by_cases h8 : 8 ≤ k
    · obtain ⟨m, rfl⟩ : ∃ m, k = m + 8 := ⟨k - 8, by omega⟩
      go_wp2

      -- places m + 6, m + 6 + 1
      have HP1 := Lib.hid (Part.pair (show Part N u (m + 6 + 2) (v) dk0 from HP0.out))
      have hz0 := HP0.out.size
      go_name_slot 9 x0 hx0
      have hxe0 : x0 = ((v % 100 * 2 : Nat) : Int) := by omega
      have hA0 : ∀ w, (Instr.index 9 (.string Lib.smalls) (.int .u32 (x0 + 1))).run Tryd.prog w = .ok (.int .u8 ((sm (v % 100 * 2 + 1)).toNat : Int)) w := idx_smalls 9 Tryd.underlying9 .u32 _ _ (by omega) (by omega)
      have hB0 : ∀ w, (Instr.index 9 (.string Lib.smalls) (.int .u32 x0)).run Tryd.prog w = .ok (.int .u8 ((sm (v % 100 * 2)).toNat : Int)) w := idx_smalls 9 Tryd.underlying9 .u32 _ _ (by omega) (by omega)
      have hlo0 : 0 ≤ x0 := by omega
      have hhi0 : x0 ≤ 198 := by omega
      clear hx0 hxe0
      go_region
      go_wp2
      go_name_world W1 hW1
      have hw1 : W1 = (putRow bV w blk off ((dk0.setIfInBounds (m + 6 + 1) (sm (v % 100 * 2 + 1))).setIfInBounds (m + 6) (sm (v % 100 * 2)))).drewN (n + 0 + 1) := by rw [← hW1]; exact (by rw [AW0.out]; exact store2_world w blk off dk0 (n + 0) (m + 6 + 1) (m + 6) _ _ (by omega) (by omega))
      generalize ((dk0.setIfInBounds (m + 6 + 1) (sm (v % 100 * 2 + 1))).setIfInBounds (m + 6) (sm (v % 100 * 2))) = dk1 at hw1 HP1
      clear hW1 hc0 hf0 AW0 HP0 hA0 hB0 hz0
      have hle1 := HP1.out.le
      obtain ⟨G1, hc1, hf1⟩ := row_cells AH.out AN.out hw1 HP1.out.size
      have AW1 := Lib.hid hw1
      clear hw1
      -- places m + 4, m + 4 + 1
      have HP2 := Lib.hid (Part.pair (show Part N u (m + 4 + 2) (v / 100) dk1 from HP1.out))
      have hz1 := HP1.out.size
      go_name_slot 8 x1 hx1
      have hxe1 : x1 = ((v / 100 % 100 * 2 : Nat) : Int) := by omega
      have hA1 : ∀ w, (Instr.index 9 (.string Lib.smalls) (.int .u32 (x1 + 1))).run Tryd.prog w = .ok (.int .u8 ((sm (v / 100 % 100 * 2 + 1)).toNat : Int)) w := idx_smalls 9 Tryd.underlying9 .u32 _ _ (by omega) (by omega)
      have hB1 : ∀ w, (Instr.index 9 (.string Lib.smalls) (.int .u32 x1)).run Tryd.prog w = .ok (.int .u8 ((sm (v / 100 % 100 * 2)).toNat : Int)) w := idx_smalls 9 Tryd.underlying9 .u32 _ _ (by omega) (by omega)
      have hlo1 : 0 ≤ x1 := by omega
      have hhi1 : x1 ≤ 198 := by omega
      clear hx1 hxe1
      go_region
      go_wp2
      go_name_world W2 hW2
      have hw2 : W2 = (putRow bV w blk off ((dk1.setIfInBounds (m + 4 + 1) (sm (v / 100 % 100 * 2 + 1))).setIfInBounds (m + 4) (sm (v / 100 % 100 * 2)))).drewN (n + 1 + 1) := by rw [← hW2]; exact (by rw [AW1.out]; exact store2_world w blk off dk1 (n + 1) (m + 4 + 1) (m + 4) _ _ (by omega) (by omega))
      generalize ((dk1.setIfInBounds (m + 4 + 1) (sm (v / 100 % 100 * 2 + 1))).setIfInBounds (m + 4) (sm (v / 100 % 100 * 2))) = dk2 at hw2 HP2
      clear hW2 hc1 hf1 AW1 HP1 hA1 hB1 hz1
      have hle2 := HP2.out.le
      obtain ⟨G2, hc2, hf2⟩ := row_cells AH.out AN.out hw2 HP2.out.size
      have AW2 := Lib.hid hw2
      clear hw2
      -- places m + 2, m + 2 + 1
      have HP3 := Lib.hid (Part.pair (show Part N u (m + 2 + 2) (v / 100 / 100) dk2 from HP2.out))
      have hz2 := HP2.out.size
      go_name_slot 11 x2 hx2
      have hxe2 : x2 = ((v / 100 / 100 % 100 * 2 : Nat) : Int) := by omega
      have hA2 : ∀ w, (Instr.index 9 (.string Lib.smalls) (.int .u32 (x2 + 1))).run Tryd.prog w = .ok (.int .u8 ((sm (v / 100 / 100 % 100 * 2 + 1)).toNat : Int)) w := idx_smalls 9 Tryd.underlying9 .u32 _ _ (by omega) (by omega)
      have hB2 : ∀ w, (Instr.index 9 (.string Lib.smalls) (.int .u32 x2)).run Tryd.prog w = .ok (.int .u8 ((sm (v / 100 / 100 % 100 * 2)).toNat : Int)) w := idx_smalls 9 Tryd.underlying9 .u32 _ _ (by omega) (by omega)
      have hlo2 : 0 ≤ x2 := by omega
      have hhi2 : x2 ≤ 198 := by omega
      clear hx2 hxe2
      go_region
      go_wp2
      go_name_world W3 hW3
      have hw3 : W3 = (putRow bV w blk off ((dk2.setIfInBounds (m + 2 + 1) (sm (v / 100 / 100 % 100 * 2 + 1))).setIfInBounds (m + 2) (sm (v / 100 / 100 % 100 * 2)))).drewN (n + 2 + 1) := by rw [← hW3]; exact (by rw [AW2.out]; exact store2_world w blk off dk2 (n + 2) (m + 2 + 1) (m + 2) _ _ (by omega) (by omega))
      generalize ((dk2.setIfInBounds (m + 2 + 1) (sm (v / 100 / 100 % 100 * 2 + 1))).setIfInBounds (m + 2) (sm (v / 100 / 100 % 100 * 2))) = dk3 at hw3 HP3
      clear hW3 hc2 hf2 AW2 HP2 hA2 hB2 hz2
      have hle3 := HP3.out.le
      obtain ⟨G3, hc3, hf3⟩ := row_cells AH.out AN.out hw3 HP3.out.size
      have AW3 := Lib.hid hw3
      clear hw3
      -- places m, m + 1
      have HP4 := Lib.hid (Part.pair (show Part N u (m + 2) (v / 100 / 100 / 100) dk3 from HP3.out))
      have hz3 := HP3.out.size
      go_name_slot 10 x3 hx3
      have hxe3 : x3 = ((v / 100 / 100 / 100 % 100 * 2 : Nat) : Int) := by omega
      have hA3 : ∀ w, (Instr.index 9 (.string Lib.smalls) (.int .u32 (x3 + 1))).run Tryd.prog w = .ok (.int .u8 ((sm (v / 100 / 100 / 100 % 100 * 2 + 1)).toNat : Int)) w := idx_smalls 9 Tryd.underlying9 .u32 _ _ (by omega) (by omega)
      have hB3 : ∀ w, (Instr.index 9 (.string Lib.smalls) (.int .u32 x3)).run Tryd.prog w = .ok (.int .u8 ((sm (v / 100 / 100 / 100 % 100 * 2)).toNat : Int)) w := idx_smalls 9 Tryd.underlying9 .u32 _ _ (by omega) (by omega)
      have hlo3 : 0 ≤ x3 := by omega
      have hhi3 : x3 ≤ 198 := by omega
      clear hx3 hxe3
      go_region
      go_wp2
      go_roundw
      case rel =>
        refine ⟨m, v / 100000000, n + 3 + 1, ((dk3.setIfInBounds (m + 1) (sm (v / 100 / 100 / 100 % 100 * 2 + 1))).setIfInBounds (m) (sm (v / 100 / 100 / 100 % 100 * 2))), by first | go_num | (congr 1; omega), by first | go_num | (congr 1; omega), by rw [AW3.out]; exact store2_world w blk off dk3 (n + 3) (m + 1) m _ _ (by omega) (by omega), ?_⟩
        have e : v / 100 / 100 / 100 / 100 = v / 100000000 := by omega
        rw [← e]
        exact HP4.out
      case measure => simp [RowKit.intOf]; omega
    · have hv8 := HP0.out.lt8 (by omega)
      have hc8 : k = 0 ∨ k = 1 ∨ k = 2 ∨ k = 3 ∨ k = 4 ∨ k = 5 ∨ k = 6 ∨ k = 7 := by omega
      rcases hc8 with rfl | rfl | rfl | rfl | rfl | rfl | rfl | rfl
      · go_wp2
        go_end0
        exact ⟨rfl, n, dk0, AW0.out, HP0.out.full⟩
      · go_wp2
        go_end0
        have hz := HP0.out.size
        have hs1 := HP0.out.small
        exact ⟨rfl, n, _, by rw [AW0.out]; exact store1_world0 w blk off dk0 n _ v (by omega) (by omega), HP0.out.last⟩
      · go_wp2
        -- places 0, 0 + 1
        have HP1 := Lib.hid (Part.pair (show Part N u (0 + 2) (v) dk0 from HP0.out))
        have hz0 := HP0.out.size
        go_name_slot 16 x0 hx0
        have hxe0 : x0 = ((v % 100 * 2 : Nat) : Int) := by omega
        have hA0 : ∀ w, (Instr.index 9 (.string Lib.smalls) (.int .u32 (x0 + 1))).run Tryd.prog w = .ok (.int .u8 ((sm (v % 100 * 2 + 1)).toNat : Int)) w := idx_smalls 9 Tryd.underlying9 .u32 _ _ (by omega) (by omega)
        have hB0 : ∀ w, (Instr.index 9 (.string Lib.smalls) (.int .u32 x0)).run Tryd.prog w = .ok (.int .u8 ((sm (v % 100 * 2)).toNat : Int)) w := idx_smalls 9 Tryd.underlying9 .u32 _ _ (by omega) (by omega)
        have hlo0 : 0 ≤ x0 := by omega
        have hhi0 : x0 ≤ 198 := by omega
        clear hx0 hxe0
        go_region
        go_wp2
        go_end0
        exact ⟨rfl, n + 0 + 1, _, by rw [AW0.out]; exact store2_world w blk off dk0 (n + 0) (0 + 1) (0) _ _ (by omega) (by omega), HP1.out.full⟩
      · go_wp2
        -- places 1, 1 + 1
        have HP1 := Lib.hid (Part.pair (show Part N u (1 + 2) (v) dk0 from HP0.out))
        have hz0 := HP0.out.size
        go_name_slot 16 x0 hx0
        have hxe0 : x0 = ((v % 100 * 2 : Nat) : Int) := by omega
        have hA0 : ∀ w, (Instr.index 9 (.string Lib.smalls) (.int .u32 (x0 + 1))).run Tryd.prog w = .ok (.int .u8 ((sm (v % 100 * 2 + 1)).toNat : Int)) w := idx_smalls 9 Tryd.underlying9 .u32 _ _ (by omega) (by omega)
        have hB0 : ∀ w, (Instr.index 9 (.string Lib.smalls) (.int .u32 x0)).run Tryd.prog w = .ok (.int .u8 ((sm (v % 100 * 2)).toNat : Int)) w := idx_smalls 9 Tryd.underlying9 .u32 _ _ (by omega) (by omega)
        have hlo0 : 0 ≤ x0 := by omega
        have hhi0 : x0 ≤ 198 := by omega
        clear hx0 hxe0
        go_region
        go_wp2
        go_end0
        have hs1 := HP1.out.small
        exact ⟨rfl, n + 0 + 1, _, by rw [AW0.out]; exact store21_world w blk off dk0 (n + 0) (1 + 1) (1) _ _ _ (v / 100) (by omega) (by omega) (by omega), HP1.out.last⟩
      · go_wp2
        -- places 2, 2 + 1
        have HP1 := Lib.hid (Part.pair (show Part N u (2 + 2) (v) dk0 from HP0.out))
        have hz0 := HP0.out.size
        go_name_slot 15 x0 hx0
        have hxe0 : x0 = ((v % 100 * 2 : Nat) : Int) := by omega
        have hA0 : ∀ w, (Instr.index 9 (.string Lib.smalls) (.int .u32 (x0 + 1))).run Tryd.prog w = .ok (.int .u8 ((sm (v % 100 * 2 + 1)).toNat : Int)) w := idx_smalls 9 Tryd.underlying9 .u32 _ _ (by omega) (by omega)
        have hB0 : ∀ w, (Instr.index 9 (.string Lib.smalls) (.int .u32 x0)).run Tryd.prog w = .ok (.int .u8 ((sm (v % 100 * 2)).toNat : Int)) w := idx_smalls 9 Tryd.underlying9 .u32 _ _ (by omega) (by omega)
        have hlo0 : 0 ≤ x0 := by omega
        have hhi0 : x0 ≤ 198 := by omega
        clear hx0 hxe0
        go_region
        go_wp2
        go_name_world W1 hW1
        have hw1 : W1 = (putRow bV w blk off ((dk0.setIfInBounds (2 + 1) (sm (v % 100 * 2 + 1))).setIfInBounds (2) (sm (v % 100 * 2)))).drewN (n + 0 + 1) := by rw [← hW1]; exact (by rw [AW0.out]; exact store2_world w blk off dk0 (n + 0) (2 + 1) (2) _ _ (by omega) (by omega))
        generalize ((dk0.setIfInBounds (2 + 1) (sm (v % 100 * 2 + 1))).setIfInBounds (2) (sm (v % 100 * 2))) = dk1 at hw1 HP1
        clear hW1 hc0 hf0 AW0 HP0 hA0 hB0 hz0
        have hle1 := HP1.out.le
        obtain ⟨G1, hc1, hf1⟩ := row_cells AH.out AN.out hw1 HP1.out.size
        have AW1 := Lib.hid hw1
        clear hw1
        -- places 0, 0 + 1
        have HP2 := Lib.hid (Part.pair (show Part N u (0 + 2) (v / 100) dk1 from HP1.out))
        have hz1 := HP1.out.size
        go_name_slot 14 x1 hx1
        have hxe1 : x1 = ((v / 100 % 100 * 2 : Nat) : Int) := by omega
        have hA1 : ∀ w, (Instr.index 9 (.string Lib.smalls) (.int .u32 (x1 + 1))).run Tryd.prog w = .ok (.int .u8 ((sm (v / 100 % 100 * 2 + 1)).toNat : Int)) w := idx_smalls 9 Tryd.underlying9 .u32 _ _ (by omega) (by omega)
        have hB1 : ∀ w, (Instr.index 9 (.string Lib.smalls) (.int .u32 x1)).run Tryd.prog w = .ok (.int .u8 ((sm (v / 100 % 100 * 2)).toNat : Int)) w := idx_smalls 9 Tryd.underlying9 .u32 _ _ (by omega) (by omega)
        have hlo1 : 0 ≤ x1 := by omega
        have hhi1 : x1 ≤ 198 := by omega
        clear hx1 hxe1
        go_region
        go_wp2
        go_end0
        exact ⟨rfl, n + 1 + 1, _, by rw [AW1.out]; exact store2_world w blk off dk1 (n + 1) (0 + 1) (0) _ _ (by omega) (by omega), HP2.out.full⟩
      · go_wp2
        -- places 3, 3 + 1
        have HP1 := Lib.hid (Part.pair (show Part N u (3 + 2) (v) dk0 from HP0.out))
        have hz0 := HP0.out.size
        go_name_slot 15 x0 hx0
        have hxe0 : x0 = ((v % 100 * 2 : Nat) : Int) := by omega
        have hA0 : ∀ w, (Instr.index 9 (.string Lib.smalls) (.int .u32 (x0 + 1))).run Tryd.prog w = .ok (.int .u8 ((sm (v % 100 * 2 + 1)).toNat : Int)) w := idx_smalls 9 Tryd.underlying9 .u32 _ _ (by omega) (by omega)
        have hB0 : ∀ w, (Instr.index 9 (.string Lib.smalls) (.int .u32 x0)).run Tryd.prog w = .ok (.int .u8 ((sm (v % 100 * 2)).toNat : Int)) w := idx_smalls 9 Tryd.underlying9 .u32 _ _ (by omega) (by omega)
        have hlo0 : 0 ≤ x0 := by omega
        have hhi0 : x0 ≤ 198 := by omega
        clear hx0 hxe0
        go_region
        go_wp2
        go_name_world W1 hW1
        have hw1 : W1 = (putRow bV w blk off ((dk0.setIfInBounds (3 + 1) (sm (v % 100 * 2 + 1))).setIfInBounds (3) (sm (v % 100 * 2)))).drewN (n + 0 + 1) := by rw [← hW1]; exact (by rw [AW0.out]; exact store2_world w blk off dk0 (n + 0) (3 + 1) (3) _ _ (by omega) (by omega))
        generalize ((dk0.setIfInBounds (3 + 1) (sm (v % 100 * 2 + 1))).setIfInBounds (3) (sm (v % 100 * 2))) = dk1 at hw1 HP1
        clear hW1 hc0 hf0 AW0 HP0 hA0 hB0 hz0
        have hle1 := HP1.out.le
        obtain ⟨G1, hc1, hf1⟩ := row_cells AH.out AN.out hw1 HP1.out.size
        have AW1 := Lib.hid hw1
        clear hw1
        -- places 1, 1 + 1
        have HP2 := Lib.hid (Part.pair (show Part N u (1 + 2) (v / 100) dk1 from HP1.out))
        have hz1 := HP1.out.size
        go_name_slot 14 x1 hx1
        have hxe1 : x1 = ((v / 100 % 100 * 2 : Nat) : Int) := by omega
        have hA1 : ∀ w, (Instr.index 9 (.string Lib.smalls) (.int .u32 (x1 + 1))).run Tryd.prog w = .ok (.int .u8 ((sm (v / 100 % 100 * 2 + 1)).toNat : Int)) w := idx_smalls 9 Tryd.underlying9 .u32 _ _ (by omega) (by omega)
        have hB1 : ∀ w, (Instr.index 9 (.string Lib.smalls) (.int .u32 x1)).run Tryd.prog w = .ok (.int .u8 ((sm (v / 100 % 100 * 2)).toNat : Int)) w := idx_smalls 9 Tryd.underlying9 .u32 _ _ (by omega) (by omega)
        have hlo1 : 0 ≤ x1 := by omega
        have hhi1 : x1 ≤ 198 := by omega
        clear hx1 hxe1
        go_region
        go_wp2
        go_end0
        have hs1 := HP2.out.small
        exact ⟨rfl, n + 1 + 1, _, by rw [AW1.out]; exact store21_world w blk off dk1 (n + 1) (1 + 1) (1) _ _ _ (v / 100 / 100) (by omega) (by omega) (by omega), HP2.out.last⟩
      · go_wp2
        -- places 4, 4 + 1
        have HP1 := Lib.hid (Part.pair (show Part N u (4 + 2) (v) dk0 from HP0.out))
        have hz0 := HP0.out.size
        go_name_slot 15 x0 hx0
        have hxe0 : x0 = ((v % 100 * 2 : Nat) : Int) := by omega
        have hA0 : ∀ w, (Instr.index 9 (.string Lib.smalls) (.int .u32 (x0 + 1))).run Tryd.prog w = .ok (.int .u8 ((sm (v % 100 * 2 + 1)).toNat : Int)) w := idx_smalls 9 Tryd.underlying9 .u32 _ _ (by omega) (by omega)
        have hB0 : ∀ w, (Instr.index 9 (.string Lib.smalls) (.int .u32 x0)).run Tryd.prog w = .ok (.int .u8 ((sm (v % 100 * 2)).toNat : Int)) w := idx_smalls 9 Tryd.underlying9 .u32 _ _ (by omega) (by omega)
        have hlo0 : 0 ≤ x0 := by omega
        have hhi0 : x0 ≤ 198 := by omega
        clear hx0 hxe0
        go_region
        go_wp2
        go_name_world W1 hW1
        have hw1 : W1 = (putRow bV w blk off ((dk0.setIfInBounds (4 + 1) (sm (v % 100 * 2 + 1))).setIfInBounds (4) (sm (v % 100 * 2)))).drewN (n + 0 + 1) := by rw [← hW1]; exact (by rw [AW0.out]; exact store2_world w blk off dk0 (n + 0) (4 + 1) (4) _ _ (by omega) (by omega))
        generalize ((dk0.setIfInBounds (4 + 1) (sm (v % 100 * 2 + 1))).setIfInBounds (4) (sm (v % 100 * 2))) = dk1 at hw1 HP1
        clear hW1 hc0 hf0 AW0 HP0 hA0 hB0 hz0
        have hle1 := HP1.out.le
        obtain ⟨G1, hc1, hf1⟩ := row_cells AH.out AN.out hw1 HP1.out.size
        have AW1 := Lib.hid hw1
        clear hw1
        -- places 2, 2 + 1
        have HP2 := Lib.hid (Part.pair (show Part N u (2 + 2) (v / 100) dk1 from HP1.out))
        have hz1 := HP1.out.size
        go_name_slot 14 x1 hx1
        have hxe1 : x1 = ((v / 100 % 100 * 2 : Nat) : Int) := by omega
        have hA1 : ∀ w, (Instr.index 9 (.string Lib.smalls) (.int .u32 (x1 + 1))).run Tryd.prog w = .ok (.int .u8 ((sm (v / 100 % 100 * 2 + 1)).toNat : Int)) w := idx_smalls 9 Tryd.underlying9 .u32 _ _ (by omega) (by omega)
        have hB1 : ∀ w, (Instr.index 9 (.string Lib.smalls) (.int .u32 x1)).run Tryd.prog w = .ok (.int .u8 ((sm (v / 100 % 100 * 2)).toNat : Int)) w := idx_smalls 9 Tryd.underlying9 .u32 _ _ (by omega) (by omega)
        have hlo1 : 0 ≤ x1 := by omega
        have hhi1 : x1 ≤ 198 := by omega
        clear hx1 hxe1
        go_region
        go_wp2
        go_name_world W2 hW2
        have hw2 : W2 = (putRow bV w blk off ((dk1.setIfInBounds (2 + 1) (sm (v / 100 % 100 * 2 + 1))).setIfInBounds (2) (sm (v / 100 % 100 * 2)))).drewN (n + 1 + 1) := by rw [← hW2]; exact (by rw [AW1.out]; exact store2_world w blk off dk1 (n + 1) (2 + 1) (2) _ _ (by omega) (by omega))
        generalize ((dk1.setIfInBounds (2 + 1) (sm (v / 100 % 100 * 2 + 1))).setIfInBounds (2) (sm (v / 100 % 100 * 2))) = dk2 at hw2 HP2
        clear hW2 hc1 hf1 AW1 HP1 hA1 hB1 hz1
        have hle2 := HP2.out.le
        obtain ⟨G2, hc2, hf2⟩ := row_cells AH.out AN.out hw2 HP2.out.size
        have AW2 := Lib.hid hw2
        clear hw2
        -- places 0, 0 + 1
        have HP3 := Lib.hid (Part.pair (show Part N u (0 + 2) (v / 100 / 100) dk2 from HP2.out))
        have hz2 := HP2.out.size
        go_name_slot 16 x2 hx2
        have hxe2 : x2 = ((v / 100 / 100 % 100 * 2 : Nat) : Int) := by omega
        have hA2 : ∀ w, (Instr.index 9 (.string Lib.smalls) (.int .u32 (x2 + 1))).run Tryd.prog w = .ok (.int .u8 ((sm (v / 100 / 100 % 100 * 2 + 1)).toNat : Int)) w := idx_smalls 9 Tryd.underlying9 .u32 _ _ (by omega) (by omega)
        have hB2 : ∀ w, (Instr.index 9 (.string Lib.smalls) (.int .u32 x2)).run Tryd.prog w = .ok (.int .u8 ((sm (v / 100 / 100 % 100 * 2)).toNat : Int)) w := idx_smalls 9 Tryd.underlying9 .u32 _ _ (by omega) (by omega)
        have hlo2 : 0 ≤ x2 := by omega
        have hhi2 : x2 ≤ 198 := by omega
        clear hx2 hxe2
        go_region
        go_wp2
        go_end0
        exact ⟨rfl, n + 2 + 1, _, by rw [AW2.out]; exact store2_world w blk off dk2 (n + 2) (0 + 1) (0) _ _ (by omega) (by omega), HP3.out.full⟩
      · go_wp2
        -- places 5, 5 + 1
        have HP1 := Lib.hid (Part.pair (show Part N u (5 + 2) (v) dk0 from HP0.out))
        have hz0 := HP0.out.size
        go_name_slot 15 x0 hx0
        have hxe0 : x0 = ((v % 100 * 2 : Nat) : Int) := by omega
        have hA0 : ∀ w, (Instr.index 9 (.string Lib.smalls) (.int .u32 (x0 + 1))).run Tryd.prog w = .ok (.int .u8 ((sm (v % 100 * 2 + 1)).toNat : Int)) w := idx_smalls 9 Tryd.underlying9 .u32 _ _ (by omega) (by omega)
        have hB0 : ∀ w, (Instr.index 9 (.string Lib.smalls) (.int .u32 x0)).run Tryd.prog w = .ok (.int .u8 ((sm (v % 100 * 2)).toNat : Int)) w := idx_smalls 9 Tryd.underlying9 .u32 _ _ (by omega) (by omega)
        have hlo0 : 0 ≤ x0 := by omega
        have hhi0 : x0 ≤ 198 := by omega
        clear hx0 hxe0
        go_region
        go_wp2
        go_name_world W1 hW1
        have hw1 : W1 = (putRow bV w blk off ((dk0.setIfInBounds (5 + 1) (sm (v % 100 * 2 + 1))).setIfInBounds (5) (sm (v % 100 * 2)))).drewN (n + 0 + 1) := by rw [← hW1]; exact (by rw [AW0.out]; exact store2_world w blk off dk0 (n + 0) (5 + 1) (5) _ _ (by omega) (by omega))
        generalize ((dk0.setIfInBounds (5 + 1) (sm (v % 100 * 2 + 1))).setIfInBounds (5) (sm (v % 100 * 2))) = dk1 at hw1 HP1
        clear hW1 hc0 hf0 AW0 HP0 hA0 hB0 hz0
        have hle1 := HP1.out.le
        obtain ⟨G1, hc1, hf1⟩ := row_cells AH.out AN.out hw1 HP1.out.size
        have AW1 := Lib.hid hw1
        clear hw1
        -- places 3, 3 + 1
        have HP2 := Lib.hid (Part.pair (show Part N u (3 + 2) (v / 100) dk1 from HP1.out))
        have hz1 := HP1.out.size
        go_name_slot 14 x1 hx1
        have hxe1 : x1 = ((v / 100 % 100 * 2 : Nat) : Int) := by omega
        have hA1 : ∀ w, (Instr.index 9 (.string Lib.smalls) (.int .u32 (x1 + 1))).run Tryd.prog w = .ok (.int .u8 ((sm (v / 100 % 100 * 2 + 1)).toNat : Int)) w := idx_smalls 9 Tryd.underlying9 .u32 _ _ (by omega) (by omega)
        have hB1 : ∀ w, (Instr.index 9 (.string Lib.smalls) (.int .u32 x1)).run Tryd.prog w = .ok (.int .u8 ((sm (v / 100 % 100 * 2)).toNat : Int)) w := idx_smalls 9 Tryd.underlying9 .u32 _ _ (by omega) (by omega)
        have hlo1 : 0 ≤ x1 := by omega
        have hhi1 : x1 ≤ 198 := by omega
        clear hx1 hxe1
        go_region
        go_wp2
        go_name_world W2 hW2
        have hw2 : W2 = (putRow bV w blk off ((dk1.setIfInBounds (3 + 1) (sm (v / 100 % 100 * 2 + 1))).setIfInBounds (3) (sm (v / 100 % 100 * 2)))).drewN (n + 1 + 1) := by rw [← hW2]; exact (by rw [AW1.out]; exact store2_world w blk off dk1 (n + 1) (3 + 1) (3) _ _ (by omega) (by omega))
        generalize ((dk1.setIfInBounds (3 + 1) (sm (v / 100 % 100 * 2 + 1))).setIfInBounds (3) (sm (v / 100 % 100 * 2))) = dk2 at hw2 HP2
        clear hW2 hc1 hf1 AW1 HP1 hA1 hB1 hz1
        have hle2 := HP2.out.le
        obtain ⟨G2, hc2, hf2⟩ := row_cells AH.out AN.out hw2 HP2.out.size
        have AW2 := Lib.hid hw2
        clear hw2
        -- places 1, 1 + 1
        have HP3 := Lib.hid (Part.pair (show Part N u (1 + 2) (v / 100 / 100) dk2 from HP2.out))
        have hz2 := HP2.out.size
        go_name_slot 16 x2 hx2
        have hxe2 : x2 = ((v / 100 / 100 % 100 * 2 : Nat) : Int) := by omega
        have hA2 : ∀ w, (Instr.index 9 (.string Lib.smalls) (.int .u32 (x2 + 1))).run Tryd.prog w = .ok (.int .u8 ((sm (v / 100 / 100 % 100 * 2 + 1)).toNat : Int)) w := idx_smalls 9 Tryd.underlying9 .u32 _ _ (by omega) (by omega)
        have hB2 : ∀ w, (Instr.index 9 (.string Lib.smalls) (.int .u32 x2)).run Tryd.prog w = .ok (.int .u8 ((sm (v / 100 / 100 % 100 * 2)).toNat : Int)) w := idx_smalls 9 Tryd.underlying9 .u32 _ _ (by omega) (by omega)
        have hlo2 : 0 ≤ x2 := by omega
        have hhi2 : x2 ≤ 198 := by omega
        clear hx2 hxe2
        go_region
        go_wp2
        go_end0
        have hs1 := HP3.out.small
        exact ⟨rfl, n + 2 + 1, _, by rw [AW2.out]; exact store21_world w blk off dk2 (n + 2) (1 + 1) (1) _ _ _ (v / 100 / 100 / 100) (by omega) (by omega) (by omega), HP3.out.last⟩

end Go.Proofs.YtdaeiapogipjbaaDoor.Fault
