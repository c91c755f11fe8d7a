/-
  The walk of the statement MoneyNames.
-/
import Derived.Test.YtfocdlhaohhkjaaGreatDoorC17
import Derived.Test.YtfocdlhaohhkjaaGreatDoorC7A
namespace Go.Proofs.YtfocdlhaohhkjaaGreatDoor.Money
open Go.RowKit

/-- what is no amount -/
def bads : List ByteArray := [⟨#[]⟩, ⟨#[45]⟩, ⟨#[46]⟩, ⟨#[49]⟩, ⟨#[49, 46]⟩, ⟨#[46, 48, 48]⟩, ⟨#[49, 46, 53]⟩, ⟨#[49, 46, 53, 48, 53]⟩, ⟨#[48, 49, 46, 48, 48]⟩, ⟨#[48, 48, 46, 48, 48]⟩, ⟨#[45, 48, 46, 48, 48]⟩, ⟨#[43, 49, 46, 48, 48]⟩, ⟨#[45, 45, 49, 46, 48, 48]⟩, ⟨#[49, 46, 48, 120]⟩, ⟨#[120, 46, 48, 48]⟩, ⟨#[49, 46, 50, 46, 51]⟩, ⟨#[32, 49, 46, 48, 48]⟩, ⟨#[49, 44, 48, 48]⟩, ⟨#[45, 48, 49, 46, 48, 48]⟩]
def badV : Array Value := #[.string ⟨#[]⟩, .string ⟨#[45]⟩, .string ⟨#[46]⟩, .string ⟨#[49]⟩, .string ⟨#[49, 46]⟩, .string ⟨#[46, 48, 48]⟩, .string ⟨#[49, 46, 53]⟩, .string ⟨#[49, 46, 53, 48, 53]⟩, .string ⟨#[48, 49, 46, 48, 48]⟩, .string ⟨#[48, 48, 46, 48, 48]⟩, .string ⟨#[45, 48, 46, 48, 48]⟩, .string ⟨#[43, 49, 46, 48, 48]⟩, .string ⟨#[45, 45, 49, 46, 48, 48]⟩, .string ⟨#[49, 46, 48, 120]⟩, .string ⟨#[120, 46, 48, 48]⟩, .string ⟨#[49, 46, 50, 46, 51]⟩, .string ⟨#[32, 49, 46, 48, 48]⟩, .string ⟨#[49, 44, 48, 48]⟩, .string ⟨#[45, 48, 49, 46, 48, 48]⟩]
theorem bad_at (k : Nat) (h : k < 19) : ∃ X : ByteArray, badV[k]? = some (.string X) ∧ X.size ≤ 1000000000 ∧ pN X.data.toList = 0 ∧ pE X.data.toList = 4 := by
  have e : badV[k]? = some (.string (bads.getD k ⟨#[]⟩)) := by
    have : ∀ j, j < 19 → badV[j]? = some (.string (bads.getD j ⟨#[]⟩)) := fun j hj => by
      show (bads.map Value.string).toArray[j]? = _
      rw [List.getElem?_toArray, List.getElem?_map, List.getElem?_eq_getElem (show j < bads.length from hj), List.getD_eq_getElem?_getD, List.getElem?_eq_getElem (show j < bads.length from hj)]; rfl
    exact this k h
  have hb : ∀ j, j < 19 → (decide ((bads.getD j ⟨#[]⟩).size ≤ 1000000000) && !amt (bads.getD j ⟨#[]⟩).data.toList) = true := by decide +kernel
  have h2 := hb k h
  rw [Bool.and_eq_true, Bool.not_eq_true', decide_eq_true_eq] at h2
  exact ⟨_, e, h2.1, (p_no h2.2).1, (p_no h2.2).2⟩
/-- the row of them, in memory -/
structure BadRow (w : World) (g : Nat) (wr : World) : Prop where
  bel : Below w.heap.size w wr
  row : wr.heap[g]? = some (.cells badV 9 (0, 0))
theorem row_lt2 {w : World} {g : Nat} {o : Obj} (h : w.heap[g]? = some o) : g < w.heap.size := (Array.getElem?_eq_some_iff.1 h).1
theorem BadRow.below {w wr w' : World} {g : Nat} (h : BadRow w g wr) (k : Below wr.heap.size wr w') : BadRow w g w' := ⟨h.bel.trans (k.mono h.bel.size), (k.block g (row_lt2 h.row)).trans h.row⟩
theorem BadRow.at {w wr : World} {g : Nat} (h : BadRow w g wr) (k : Nat) (hk : k < 19) : ∃ X : ByteArray, wr.cell? ⟨g, k, none⟩ = some (.string X) ∧ X.size ≤ 1000000000 ∧ pN X.data.toList = 0 ∧ pE X.data.toList = 4 := by
  obtain ⟨X, h1, h2⟩ := bad_at k hk
  refine ⟨X, ?_, h2⟩
  unfold World.cell?
  rw [show wr.heap[(⟨g, k, none⟩ : Addr).block]? = _ from h.row]
  exact h1

/-- the sums asked -/
def tenV : Array Value := #[Value.int IntKind.i64 4611686018427387904, Value.int IntKind.i64 0, Value.int IntKind.i64 0, Value.int IntKind.i64 4611686018427387904, Value.int IntKind.i64 1, Value.int IntKind.i64 41, Value.int IntKind.i64 4611686018427387904, Value.int IntKind.i64 4611686018427387904, Value.int IntKind.i64 41, Value.int IntKind.i64 (-4611686018427387904), Value.int IntKind.i64 0, Value.int IntKind.i64 0, Value.int IntKind.i64 (-4611686018427387904), Value.int IntKind.i64 (-1), Value.int IntKind.i64 41, Value.int IntKind.i64 (-9223372036854775808), Value.int IntKind.i64 9223372036854775807, Value.int IntKind.i64 0, Value.int IntKind.i64 (-9223372036854775808), Value.int IntKind.i64 (-9223372036854775808), Value.int IntKind.i64 41, Value.int IntKind.i64 9223372036854775807, Value.int IntKind.i64 9223372036854775807, Value.int IntKind.i64 41, Value.int IntKind.i64 9223372036854775807, Value.int IntKind.i64 (-4611686018427387904), Value.int IntKind.i64 0, Value.int IntKind.i64 9223372036854775807, Value.int IntKind.i64 0, Value.int IntKind.i64 41]
theorem ten_at (k : Nat) (h : k < 10) : ∃ a b p e : Int, tenV[k * 3]? = some (.int .i64 a) ∧ tenV[k * 3 + 1]? = some (.int .i64 b) ∧ tenV[k * 3 + 2]? = some (.int .i64 e) ∧ I64 a ∧ I64 b ∧ tN (a + b) = p ∧ tE (a + b) = e ∧ ((e = 0 ∧ p = wrap64 (a + b)) ∨ (e = 41 ∧ p = 0)) := by
  rcases k with _ | _ | _ | _ | _ | _ | _ | _ | _ | _ | k
  · exact ⟨4611686018427387904, 0, 4611686018427387904, 0, rfl, rfl, rfl, by unfold I64; decide, by unfold I64; decide, by decide, by decide, Or.inl ⟨rfl, by unfold RowKit.wrap64; decide⟩⟩
  · exact ⟨4611686018427387904, 1, 0, 41, rfl, rfl, rfl, by unfold I64; decide, by unfold I64; decide, by decide, by decide, Or.inr ⟨rfl, rfl⟩⟩
  · exact ⟨4611686018427387904, 4611686018427387904, 0, 41, rfl, rfl, rfl, by unfold I64; decide, by unfold I64; decide, by decide, by decide, Or.inr ⟨rfl, rfl⟩⟩
  · exact ⟨(-4611686018427387904), 0, (-4611686018427387904), 0, rfl, rfl, rfl, by unfold I64; decide, by unfold I64; decide, by decide, by decide, Or.inl ⟨rfl, by unfold RowKit.wrap64; decide⟩⟩
  · exact ⟨(-4611686018427387904), (-1), 0, 41, rfl, rfl, rfl, by unfold I64; decide, by unfold I64; decide, by decide, by decide, Or.inr ⟨rfl, rfl⟩⟩
  · exact ⟨(-9223372036854775808), 9223372036854775807, (-1), 0, rfl, rfl, rfl, by unfold I64; decide, by unfold I64; decide, by decide, by decide, Or.inl ⟨rfl, by unfold RowKit.wrap64; decide⟩⟩
  · exact ⟨(-9223372036854775808), (-9223372036854775808), 0, 41, rfl, rfl, rfl, by unfold I64; decide, by unfold I64; decide, by decide, by decide, Or.inr ⟨rfl, rfl⟩⟩
  · exact ⟨9223372036854775807, 9223372036854775807, 0, 41, rfl, rfl, rfl, by unfold I64; decide, by unfold I64; decide, by decide, by decide, Or.inr ⟨rfl, rfl⟩⟩
  · exact ⟨9223372036854775807, (-4611686018427387904), 4611686018427387903, 0, rfl, rfl, rfl, by unfold I64; decide, by unfold I64; decide, by decide, by decide, Or.inl ⟨rfl, by unfold RowKit.wrap64; decide⟩⟩
  · exact ⟨9223372036854775807, 0, 0, 41, rfl, rfl, rfl, by unfold I64; decide, by unfold I64; decide, by decide, by decide, Or.inr ⟨rfl, rfl⟩⟩
  · omega
structure TenRow (w : World) (g : Nat) (wr : World) : Prop where
  bel : Below w.heap.size w wr
  row : wr.heap[g]? = some (.cells tenV 27 (0, 0))
theorem TenRow.below {w wr w' : World} {g : Nat} (h : TenRow w g wr) (k : Below wr.heap.size wr w') : TenRow w g w' := ⟨h.bel.trans (k.mono h.bel.size), (k.block g (row_lt2 h.row)).trans h.row⟩
theorem TenRow.at {w wr : World} {g : Nat} (h : TenRow w g wr) (k : Nat) (hk : k < 10) : ∃ a b p e : Int, wr.cell? ⟨g, k * 3, none⟩ = some (.int .i64 a) ∧ wr.cell? ⟨g, k * 3 + 1, none⟩ = some (.int .i64 b) ∧ wr.cell? ⟨g, k * 3 + 2, none⟩ = some (.int .i64 e) ∧ I64 a ∧ I64 b ∧ tN (a + b) = p ∧ tE (a + b) = e ∧ ((e = 0 ∧ p = wrap64 (a + b)) ∨ (e = 41 ∧ p = 0)) := by
  obtain ⟨a, b, p, e, h0, h1, h2, h3⟩ := ten_at k hk
  have c : ∀ j, wr.cell? ⟨g, j, none⟩ = tenV[j]? := fun j => by
    unfold World.cell?
    rw [show wr.heap[(⟨g, j, none⟩ : Addr).block]? = _ from h.row]; rfl
  exact ⟨a, b, p, e, (c _).trans h0, (c _).trans h1, (c _).trans h2, h3⟩

theorem nm_parse1 (w : World) (E : Env w) : Calls Tryz.prog 12 #[.string ⟨#[52, 54, 49, 49, 54, 56, 54, 48, 49, 56, 52, 50, 55, 51, 56, 55, 57, 46, 48, 52]⟩] w fun e w' => e = .returned (.tuple #[.int .i64 4611686018427387904, .int .i64 0]) ∧ Below w.heap.size w w' :=
  pin_two (parse_any ⟨#[52, 54, 49, 49, 54, 56, 54, 48, 49, 56, 52, 50, 55, 51, 56, 55, 57, 46, 48, 52]⟩ (by decide) w E) (by decide +kernel) (by decide +kernel)
theorem nm_parse2 (w : World) (E : Env w) : Calls Tryz.prog 12 #[.string ⟨#[52, 54, 49, 49, 54, 56, 54, 48, 49, 56, 52, 50, 55, 51, 56, 55, 57, 46, 48, 53]⟩] w fun e w' => e = .returned (.tuple #[.int .i64 0, .int .i64 41]) ∧ Below w.heap.size w w' :=
  pin_two (parse_any ⟨#[52, 54, 49, 49, 54, 56, 54, 48, 49, 56, 52, 50, 55, 51, 56, 55, 57, 46, 48, 53]⟩ (by decide) w E) (by decide +kernel) (by decide +kernel)
theorem nm_parse3 (w : World) (E : Env w) : Calls Tryz.prog 12 #[.string ⟨#[57, 57, 57, 57, 57, 57, 57, 57, 57, 57, 57, 57, 57, 57, 57, 57, 57, 57, 57, 57, 46, 48, 48]⟩] w fun e w' => e = .returned (.tuple #[.int .i64 0, .int .i64 41]) ∧ Below w.heap.size w w' :=
  pin_two (parse_any ⟨#[57, 57, 57, 57, 57, 57, 57, 57, 57, 57, 57, 57, 57, 57, 57, 57, 57, 57, 57, 57, 46, 48, 48]⟩ (by decide) w E) (by decide +kernel) (by decide +kernel)
theorem nm_parse4 (w : World) (E : Env w) : Calls Tryz.prog 12 #[.string ⟨#[45, 52, 54, 49, 49, 54, 56, 54, 48, 49, 56, 52, 50, 55, 51, 56, 55, 57, 46, 48, 53]⟩] w fun e w' => e = .returned (.tuple #[.int .i64 0, .int .i64 41]) ∧ Below w.heap.size w w' :=
  pin_two (parse_any ⟨#[45, 52, 54, 49, 49, 54, 56, 54, 48, 49, 56, 52, 50, 55, 51, 56, 55, 57, 46, 48, 53]⟩ (by decide) w E) (by decide +kernel) (by decide +kernel)
theorem nm_sub (w : World) : Calls Tryz.prog 14 #[.int .i64 0, .int .i64 (-9223372036854775808)] w fun e w' => e = .returned (.tuple #[.int .i64 0, .int .i64 41]) ∧ Below w.heap.size w w' :=
  pin_two (sub_any _ _ (by unfold I64; decide) (by unfold I64; decide) w) (by decide) (by decide)
theorem nm_fee1 (w : World) : Calls Tryz.prog 15 #[.int .i64 (-1), .int .i64 2000] w fun e w' => e = .returned (.tuple #[.int .i64 0, .int .i64 1]) ∧ w = w' :=
  pin_two (fee_any _ _ (by unfold I64; decide) (by unfold I64; decide) w) (by decide) (by decide)
theorem nm_fee2 (w : World) : Calls Tryz.prog 15 #[.int .i64 4611686018427387905, .int .i64 1001] w fun e w' => e = .returned (.tuple #[.int .i64 0, .int .i64 1]) ∧ w = w' :=
  pin_two (fee_any _ _ (by unfold I64; decide) (by unfold I64; decide) w) (by decide) (by decide)
theorem nm_fee3 (w : World) : Calls Tryz.prog 15 #[.int .i64 4611686018427387905, .int .i64 1000] w fun e w' => e = .returned (.tuple #[.int .i64 0, .int .i64 41]) ∧ w = w' :=
  pin_two (fee_any _ _ (by unfold I64; decide) (by unfold I64; decide) w) (by decide) (by decide)
theorem nm_fee4 (w : World) : Calls Tryz.prog 15 #[.int .i64 4611686018427387904, .int .i64 1000] w fun e w' => e = .returned (.tuple #[.int .i64 461168601842738790, .int .i64 0]) ∧ w = w' :=
  pin_two (fee_any _ _ (by unfold I64; decide) (by unfold I64; decide) w) (by decide) (by decide)
theorem nm_mul1 (w : World) : Calls Tryz.prog 16 #[.int .i64 4611686018427387904, .int .i64 3] w fun e w' => e = .returned (.tuple #[.int .i64 0, .int .i64 41]) ∧ w = w' :=
  pin_two (mul_any _ _ (by unfold I64; decide) (by unfold I64; decide) w) (by decide) (by decide)
theorem nm_mul2 (w : World) : Calls Tryz.prog 16 #[.int .i64 4611686018427387904, .int .i64 (-1)] w fun e w' => e = .returned (.tuple #[.int .i64 0, .int .i64 1]) ∧ w = w' :=
  pin_two (mul_any _ _ (by unfold I64; decide) (by unfold I64; decide) w) (by decide) (by decide)
theorem dec_step {i : Nat} (h : ¬ i < 10) : Lib.decDigits i = Lib.decDigits (i / 10) ++ [UInt8.ofNat (48 + i % 10)] := by rw [Lib.decDigits, dif_neg h]
theorem dec_low : Lib.decDigits 92233720368547758 = [57, 50, 50, 51, 51, 55, 50, 48, 51, 54, 56, 53, 52, 55, 55, 53, 56] := by decide +kernel
theorem nm_show (w : World) (E : Env w) : Calls Tryz.prog 17 #[.int .i64 (-9223372036854775808)] w fun e w' => e = .returned (.string ⟨#[45, 57, 50, 50, 51, 51, 55, 50, 48, 51, 54, 56, 53, 52, 55, 55, 53, 56, 46, 48, 56]⟩) ∧ Below w.heap.size w w' := by
  have h := show_any (-9223372036854775808) (by unfold I64; decide) w E
  have e : S (showI (-9223372036854775808)) = ⟨#[45, 57, 50, 50, 51, 51, 55, 50, 48, 51, 54, 56, 53, 52, 55, 55, 53, 56, 46, 48, 56]⟩ := by
    show S (45 :: (Lib.decDigits 92233720368547758 ++ [46, UInt8.ofNat (48 + 0), UInt8.ofNat (48 + 8)])) = _
    rw [dec_low]; rfl
  rw [e] at h; exact h

set_option maxRecDepth 100000 in
set_option maxHeartbeats 4000000 in
theorem moneyNames_walk (w : World) (E : Env w) :
    Calls Tryz.prog 3 #[] w fun e w' => e = .returned (.bool true) ∧ Below w.heap.size w w' := by
  have AW := Lib.hid (awake_any w E)
  have E0 := Lib.hid E; clear E
  go_enter Tryz.func3, Tryz.ntmps3
  go_wp2_with fail
  refine AW.out.mono ?_; rintro e w1 ⟨rfl, hb1⟩
  have HB1 := Lib.hid hb1; clear hb1 AW
  go_wp2_with fail
  have HN : Hid (BadRow w w1.heap.size (w1.alloc (.cells #[.string ⟨#[]⟩, .string ⟨#[45]⟩, .string ⟨#[46]⟩, .string ⟨#[49]⟩, .string ⟨#[49, 46]⟩, .string ⟨#[46, 48, 48]⟩, .string ⟨#[49, 46, 53]⟩, .string ⟨#[49, 46, 53, 48, 53]⟩, .string ⟨#[48, 49, 46, 48, 48]⟩, .string ⟨#[48, 48, 46, 48, 48]⟩, .string ⟨#[45, 48, 46, 48, 48]⟩, .string ⟨#[43, 49, 46, 48, 48]⟩, .string ⟨#[45, 45, 49, 46, 48, 48]⟩, .string ⟨#[49, 46, 48, 120]⟩, .string ⟨#[120, 46, 48, 48]⟩, .string ⟨#[49, 46, 50, 46, 51]⟩, .string ⟨#[32, 49, 46, 48, 48]⟩, .string ⟨#[49, 44, 48, 48]⟩, .string ⟨#[45, 48, 49, 46, 48, 48]⟩] 9))) := Lib.hid ⟨HB1.out.alloc HB1.out.size _, heap_alloc_new w1 _⟩
  generalize w1.alloc (.cells #[.string ⟨#[]⟩, .string ⟨#[45]⟩, .string ⟨#[46]⟩, .string ⟨#[49]⟩, .string ⟨#[49, 46]⟩, .string ⟨#[46, 48, 48]⟩, .string ⟨#[49, 46, 53]⟩, .string ⟨#[49, 46, 53, 48, 53]⟩, .string ⟨#[48, 49, 46, 48, 48]⟩, .string ⟨#[48, 48, 46, 48, 48]⟩, .string ⟨#[45, 48, 46, 48, 48]⟩, .string ⟨#[43, 49, 46, 48, 48]⟩, .string ⟨#[45, 45, 49, 46, 48, 48]⟩, .string ⟨#[49, 46, 48, 120]⟩, .string ⟨#[120, 46, 48, 48]⟩, .string ⟨#[49, 46, 50, 46, 51]⟩, .string ⟨#[32, 49, 46, 48, 48]⟩, .string ⟨#[49, 44, 48, 48]⟩, .string ⟨#[45, 48, 49, 46, 48, 48]⟩] 9) = W0 at *
  generalize w1.heap.size = g at *
  go_loopw [35] (fun j wr => ∃ k : Nat, k ≤ 19 ∧ j = .int .i64 k ∧ Hid (BadRow w g wr)) (fun j _ => 19 - (intOf j).toNat)
  case atStart => exact ⟨0, by omega, rfl, HN⟩
  case round =>
    obtain ⟨k, hk, rfl, HR⟩ := hrel
    by_cases hlt : k < 19
    · obtain ⟨X, hc, hX, h0, h4⟩ := HR.out.at k hlt
      have P1 := Lib.hid (pin_two (parse_any X hX wr (E0.out.below HR.out.bel)) h0 h4)
      have hk1 : (k : Int) < 19 := by omega
      clear hX h0 h4
      go_wp2_with fail
      refine P1.out.mono ?_; rintro e w2 ⟨rfl, hb2⟩
      have HR2 := Lib.hid (HR.out.below hb2)
      clear hb2 hc P1
      go_wp2_with fail
      go_roundw
      case rel => exact ⟨k + 1, by omega, by go_num, HR2⟩
      case measure => simp [intOf]; omega
    · have hk5 : k = 19 := by omega
      subst hk5
      have HW : Hid (Below w.heap.size w wr) := Lib.hid HR.out.bel
      clear HR HN hk hlt
      go_wp2_with fail
      have HN : Hid (TenRow w wr.heap.size (wr.alloc (.cells #[Value.int IntKind.i64 4611686018427387904, Value.int IntKind.i64 0, Value.int IntKind.i64 0, Value.int IntKind.i64 4611686018427387904, Value.int IntKind.i64 1, Value.int IntKind.i64 41, Value.int IntKind.i64 4611686018427387904, Value.int IntKind.i64 4611686018427387904, Value.int IntKind.i64 41, Value.int IntKind.i64 (-4611686018427387904), Value.int IntKind.i64 0, Value.int IntKind.i64 0, Value.int IntKind.i64 (-4611686018427387904), Value.int IntKind.i64 (-1), Value.int IntKind.i64 41, Value.int IntKind.i64 (-9223372036854775808), Value.int IntKind.i64 9223372036854775807, Value.int IntKind.i64 0, Value.int IntKind.i64 (-9223372036854775808), Value.int IntKind.i64 (-9223372036854775808), Value.int IntKind.i64 41, Value.int IntKind.i64 9223372036854775807, Value.int IntKind.i64 9223372036854775807, Value.int IntKind.i64 41, Value.int IntKind.i64 9223372036854775807, Value.int IntKind.i64 (-4611686018427387904), Value.int IntKind.i64 0, Value.int IntKind.i64 9223372036854775807, Value.int IntKind.i64 0, Value.int IntKind.i64 41] 27))) := Lib.hid ⟨HW.out.alloc HW.out.size _, heap_alloc_new wr _⟩
      generalize wr.alloc (.cells #[Value.int IntKind.i64 4611686018427387904, Value.int IntKind.i64 0, Value.int IntKind.i64 0, Value.int IntKind.i64 4611686018427387904, Value.int IntKind.i64 1, Value.int IntKind.i64 41, Value.int IntKind.i64 4611686018427387904, Value.int IntKind.i64 4611686018427387904, Value.int IntKind.i64 41, Value.int IntKind.i64 (-4611686018427387904), Value.int IntKind.i64 0, Value.int IntKind.i64 0, Value.int IntKind.i64 (-4611686018427387904), Value.int IntKind.i64 (-1), Value.int IntKind.i64 41, Value.int IntKind.i64 (-9223372036854775808), Value.int IntKind.i64 9223372036854775807, Value.int IntKind.i64 0, Value.int IntKind.i64 (-9223372036854775808), Value.int IntKind.i64 (-9223372036854775808), Value.int IntKind.i64 41, Value.int IntKind.i64 9223372036854775807, Value.int IntKind.i64 9223372036854775807, Value.int IntKind.i64 41, Value.int IntKind.i64 9223372036854775807, Value.int IntKind.i64 (-4611686018427387904), Value.int IntKind.i64 0, Value.int IntKind.i64 9223372036854775807, Value.int IntKind.i64 0, Value.int IntKind.i64 41] 27) = W1 at *
      generalize wr.heap.size = g2 at *
      go_loopw [63] (fun j wq => ∃ k : Nat, k ≤ 10 ∧ j = .int .i64 k ∧ Hid (TenRow w g2 wq)) (fun j _ => 10 - (intOf j).toNat)
      case atStart => exact ⟨0, by omega, rfl, HN⟩
      case round =>
        obtain ⟨k, hk, rfl, HR⟩ := hrel
        by_cases hlt : k < 10
        · obtain ⟨a, b, p, e, c0, c1, c2, ha, hb, hp, he, hw⟩ := HR.out.at k hlt
          have C1 := Lib.hid (fun W => pin_two (add_any a b ha hb W) hp he)
          have hk1 : (k : Int) < 10 := by omega
          clear ha hb hp he
          go_wp2_with fail
          refine (C1.out _).mono ?_; rintro e' w2 ⟨rfl, hb2⟩
          have d0 : w2.cell? ⟨wr.heap.size, 0, none⟩ = some (.int .i64 a) := (hb2.cell (show wr.heap.size < (wr.alloc _).heap.size by simp)).trans (World.cell?_alloc_new _ _ _ _)
          have d1 : w2.cell? ⟨wr.heap.size, 1, none⟩ = some (.int .i64 b) := (hb2.cell (show wr.heap.size < (wr.alloc _).heap.size by simp)).trans (World.cell?_alloc_new _ _ _ _)
          have d2 : w2.cell? ⟨wr.heap.size, 2, none⟩ = some (.int .i64 e) := (hb2.cell (show wr.heap.size < (wr.alloc _).heap.size by simp)).trans (World.cell?_alloc_new _ _ _ _)
          have HR2 := Lib.hid ((HR.out.below (Below.lay _ _)).below hb2)
          clear hb2 c0 c1 c2 C1 HR
          generalize wr.heap.size = g3 at *
          rcases hw with ⟨rfl, rfl⟩ | ⟨rfl, rfl⟩
          · go_wp2_with fail
            go_roundw
            case rel =>
              (repeat apply Exists.intro)
              exact ⟨⟨k + 1, by omega, by go_num, HR2⟩, rfl⟩
            case measure => simp [intOf]; omega
          · go_wp2_with fail
            go_roundw
            case rel =>
              (repeat apply Exists.intro)
              exact ⟨⟨k + 1, by omega, by go_num, HR2⟩, rfl⟩
            case measure => simp [intOf]; omega
        · have hk5 : k = 10 := by omega
          subst hk5
          have HW2 : Hid (Below w.heap.size w wr) := Lib.hid HR.out.bel
          have E2 := Lib.hid (E0.out.below HW2.out)
          clear HR HN hk hlt
          go_wp2_with fail
          refine (nm_parse1 _ E2.out).mono ?_; rintro e w2 ⟨rfl, hb2⟩
          have HB2 := Lib.hid (below_on HW2.out hb2); clear hb2
          have E3 := Lib.hid (E0.out.below HB2.out)
          go_wp2_with fail
          refine (nm_parse2 _ E3.out).mono ?_; rintro e w3 ⟨rfl, hb3⟩
          have HB3 := Lib.hid (below_on HB2.out hb3); clear hb3
          have E4 := Lib.hid (E0.out.below HB3.out)
          go_wp2_with fail
          refine (nm_parse3 _ E4.out).mono ?_; rintro e w4 ⟨rfl, hb4⟩
          have HB4 := Lib.hid (below_on HB3.out hb4); clear hb4
          have E5 := Lib.hid (E0.out.below HB4.out)
          go_wp2_with fail
          refine (nm_parse4 _ E5.out).mono ?_; rintro e w5 ⟨rfl, hb5⟩
          have HB5 := Lib.hid (below_on HB4.out hb5); clear hb5
          go_wp2_with fail
          refine (nm_sub _).mono ?_; rintro e w6 ⟨rfl, hb6⟩
          have HB6 := Lib.hid (below_on HB5.out hb6); clear hb6
          have E6 := Lib.hid (E0.out.below HB6.out)
          go_wp2_with fail
          refine (nm_fee1 _).mono ?_; rintro e w7 ⟨rfl, rfl⟩
          go_wp2_with fail
          refine (nm_fee2 _).mono ?_; rintro e w7 ⟨rfl, rfl⟩
          go_wp2_with fail
          refine (nm_fee3 _).mono ?_; rintro e w7 ⟨rfl, rfl⟩
          go_wp2_with fail
          refine (nm_fee4 _).mono ?_; rintro e w7 ⟨rfl, rfl⟩
          go_wp2_with fail
          refine (nm_mul1 _).mono ?_; rintro e w7 ⟨rfl, rfl⟩
          go_wp2_with fail
          refine (nm_mul2 _).mono ?_; rintro e w7 ⟨rfl, rfl⟩
          go_wp2_with fail
          refine (nm_show _ E6.out).mono ?_; rintro e w7 ⟨rfl, hb7⟩
          have HB7 := Lib.hid (below_on HB6.out hb7); clear hb7
          go_wp2_with fail
          go_ret
          exact ⟨rfl, HB7.out⟩

end Go.Proofs.YtfocdlhaohhkjaaGreatDoor.Money
