/-
  The walk of the statement FaultFound.
-/
import Derived.Test.YtfgbboknhlomgaaDoorD18
namespace Go.Proofs.YtfgbboknhlomgaaDoor.Fault
open Go Go.RowKit

def hasOp (op : ByteArray) (xs : List Wr) : Bool := xs.any fun x => decide (x.op = op)
theorem hasOp_take (op : ByteArray) (xs : List Wr) (k : Nat) (h : k < xs.length) : hasOp op (xs.take (k + 1)) = (hasOp op (xs.take k) || decide ((xs.getD k default).op = op)) := by
  unfold hasOp
  rw [List.take_succ_eq_append_getElem h, List.any_append]
  simp [List.getD_eq_getElem?_getD, List.getElem?_eq_getElem h]
theorem first_has (op : ByteArray) (xs : List Wr) : (firstOp op xs).isSome = hasOp op xs := by
  unfold hasOp
  induction xs with
  | nil => rfl
  | cons x xs ih =>
    unfold firstOp
    by_cases h : x.op = op
    · rw [if_pos h]; simp [h]
    · rw [if_neg h, ih]; simp [h]
theorem toList_dec (a b : ByteArray) : (a.toList == b.toList) = decide (a = b) := by
  by_cases h : a = b
  · subst h; simp
  · rw [decide_eq_false h]
    cases hh : (a.toList == b.toList)
    · rfl
    · exact absurd (toList_inj (eq_of_beq hh)) h
def sOut : ByteArray := ⟨#[111, 117, 116, 101, 114, 109, 111, 115, 116]⟩

set_option maxRecDepth 100000 in
set_option maxHeartbeats 2000000 in
theorem faultFound_walk (A : Option Addr) (cap : Nat) (xs : List Wr) (e : Int) (op : ByteArray) (w : World) (hx : Wraps w A xs w.heap.size) (hl : xs.length ≤ cap) (hcap : cap ≤ maxLen) (_ : (Lit.int .i64 e).wf = true) (hop : op.size ≤ maxLen) (E : ErrT w) :
    Calls Tryd.prog 6 #[.slice A xs.length cap, .int .i64 e, .string op] w fun ev w' => ev = .returned (.bool true) ∧ Below w.heap.size w w' := by
  have HW := Lib.hid (works_any w E)
  have HE := Lib.hid E
  have HX := Lib.hid hx
  have HL := Lib.hid hl
  have HC := Lib.hid hcap
  have hlm : xs.length ≤ 9223372036854775807 := by unfold maxLen at hcap; omega
  clear E hx hcap
  by_cases hH : 5000 ≤ tot xs
  · have HD : Hid (decide (5000 ≤ tot xs) = true) := decide_eq_true hH
    clear hH hl hlm
    go_enter Tryd.func6, Tryd.ntmps6
    go_wp2_with (first
      | (go_at_call 7; refine HW.out.mono ?_; rintro ev w1 ⟨rfl, hb1⟩; have HB1 := Lib.hid hb1; clear hb1 HW)
      | (go_at_call 17; refine (heavy_any A cap xs _ (fun i hi => by obtain ⟨b, off, h1, h2, h3⟩ := HX.out.below HB1.out i hi; exact ⟨b, off, h1, Nat.lt_of_lt_of_le h2 HB1.out.size, h3⟩) HL.out HC.out).mono ?_; rintro ev w2 ⟨rfl, hb2⟩; have HB2 := Lib.hid (HB1.out.trans (hb2.mono HB1.out.size)); clear hb2; rw [HD.out])
      | (go_at_call 7; refine (works_any _ (HE.out.below HB2.out)).mono ?_; rintro ev w3 ⟨rfl, hb3⟩; have HB3 := Lib.hid (HB2.out.trans (hb3.mono HB2.out.size)); clear hb3 HB2))
    go_ret
    exact ⟨rfl, HB3.out⟩
  · have HD : Hid (decide (5000 ≤ tot xs) = false) := decide_eq_false hH
    have hn : xs.length < 1099511627776 := by have := tot_len xs; omega
    have HN := Lib.hid hn
    have HFX := Lib.hid (first_has op xs)
    have HXL := Lib.hid (show xs.length < 1000 from by have := tot_len xs; omega)
    clear hH hl hn
    go_enter Tryd.func6, Tryd.ntmps6
    go_wp2_with (first
      | (go_at_call 7; refine HW.out.mono ?_; rintro ev w1 ⟨rfl, hb1⟩; have HB1 := Lib.hid hb1; clear hb1 HW)
      | (go_at_call 17; refine (heavy_any A cap xs _ (fun i hi => by obtain ⟨b, off, h1, h2, h3⟩ := HX.out.below HB1.out i hi; exact ⟨b, off, h1, Nat.lt_of_lt_of_le h2 HB1.out.size, h3⟩) HL.out HC.out).mono ?_; rintro ev w2 ⟨rfl, hb2⟩; have HB2 := Lib.hid (HB1.out.trans (hb2.mono HB1.out.size)); clear hb2; rw [HD.out])
      | (go_at_call 20; refine (made_any A cap xs e _ (fun i hi => by obtain ⟨b, off, h1, h2, h3⟩ := HX.out.below HB2.out i hi; exact ⟨b, off, h1, Nat.lt_of_lt_of_le h2 HB2.out.size, h3⟩) HL.out HC.out).mono ?_; rintro ev w3 ⟨v, rfl, hA3, hv0, hb3⟩; have HB3 := Lib.hid (HB2.out.trans (hb3.mono HB2.out.size)); have HA3 := Lib.hid hA3; have HV0 := Lib.hid hv0; clear hb3 hA3 hv0)
      | (go_at_call 14; refine (ops_any HA3.out (plain_num e) (ifc_num e) (noUnw_num e) HN.out).mono ?_; rintro ev w4 ⟨u, rfl, hS, hb4⟩; have HB4 := Lib.hid hb4; obtain ⟨A4, cap4, rfl, hcap4, hcell4⟩ := hS; have HS := Lib.hid hcell4; clear hb4 hcell4))
    go_loop [9, 10] (fun t i => ∃ k : Nat, k ≤ xs.length ∧ i = .int .i64 k ∧ t = .bool (hasOp op (xs.take k))) (fun _ i => xs.length - (intOf i).toNat)
    case atStart => exact ⟨0, Nat.zero_le _, rfl, rfl⟩
    case round =>
      obtain ⟨k, hk, rfl, rfl⟩ := hrel
      by_cases hlt : k < xs.length
      · obtain ⟨g, rfl, c0, _⟩ := HS.out k hlt
        have HT := Lib.hid (hasOp_take op xs k hlt)
        generalize (xs.getD k default).op = y at c0 HT
        have htd := toList_dec y op
        cases hb : hasOp op (xs.take k)
        · cases hd : decide (y = op)
          · rw [hd] at htd
            go_wp2_with fail
            go_round
            case rel => exact ⟨k + 1, by omega, by go_num, by rw [HT.out, hb, hd]; rfl⟩
            case measure => simp [intOf] <;> omega
          · rw [hd] at htd
            go_wp2_with fail
            go_round
            case rel => exact ⟨k + 1, by omega, by go_num, by rw [HT.out, hb, hd]; rfl⟩
            case measure => simp [intOf] <;> omega
        · go_wp2_with fail
          go_round
          case rel => exact ⟨k + 1, by omega, by go_num, by rw [HT.out, hb]; rfl⟩
          case measure => simp [intOf] <;> omega
      · obtain rfl : k = xs.length := by omega
        rw [List.take_length]
        cases hf : firstOp op xs with
        | none =>
          have hh : hasOp op xs = false := by rw [← HFX.out, hf]; rfl
          rw [hh]
          have HFO := Lib.hid (show foundV (firstOp op xs) = .tuple #[.string ⟨#[]⟩, .int .i64 0, .bool false] from by rw [hf]; rfl)
          clear hf hh
          have HF1 := Lib.hid (find_any op (HA3.out.below HB4.out) (plain_num e) (ifc_num e) (noUnw_num e) HN.out)
          have HOO := Lib.hid (show foundV (firstOp op (⟨op, sOut, 3⟩ :: xs)) = .tuple #[.string ⟨#[111, 117, 116, 101, 114, 109, 111, 115, 116]⟩, .int .i64 3, .bool true] from by unfold firstOp; rw [if_pos rfl]; rfl)
          go_wp2_with (first
            | (go_at_call 13; refine HF1.out.mono ?_; rintro ev w5 ⟨rfl, hb5⟩; clear HF1; have HB5 := Lib.hid (HB4.out.trans (hb5.mono HB4.out.size)); clear hb5; rw [HFO.out]; clear HFO)
            | (go_at_call 10; refine (wrap_any ⟨op, sOut, 3⟩ (HA3.out.below HB5.out) (ifc_num e) HV0.out).mono ?_; rintro ev w6 ⟨rfl, hA6, hb6⟩; have HB6 := Lib.hid (HB5.out.trans (hb6.mono HB5.out.size)); have HA6 := Lib.hid hA6; clear hb6 hA6)
            | (go_at_call 13; refine (find_any op HA6.out (plain_num e) (ifc_num e) (noUnw_num e) (by have := HN.out; have := HXL.out; simp; omega)).mono ?_; rintro ev w7 ⟨rfl, hb7⟩; have HB7 := Lib.hid (HB6.out.trans (hb7.mono HB6.out.size)); clear hb7; rw [HOO.out]))
          go_ret
          exact ⟨rfl, HB3.out.trans (HB7.out.mono HB3.out.size)⟩
        | some z =>
          have hh : hasOp op xs = true := by rw [← HFX.out, hf]; rfl
          rw [hh]
          have HFO := Lib.hid (show foundV (firstOp op xs) = .tuple #[.string z.nm, .int .i64 z.pl, .bool true] from by rw [hf]; rfl)
          clear hf hh
          have HF1 := Lib.hid (find_any op (HA3.out.below HB4.out) (plain_num e) (ifc_num e) (noUnw_num e) HN.out)
          have HOO := Lib.hid (show foundV (firstOp op (⟨op, sOut, 3⟩ :: xs)) = .tuple #[.string ⟨#[111, 117, 116, 101, 114, 109, 111, 115, 116]⟩, .int .i64 3, .bool true] from by unfold firstOp; rw [if_pos rfl]; rfl)
          go_wp2_with (first
            | (go_at_call 13; refine HF1.out.mono ?_; rintro ev w5 ⟨rfl, hb5⟩; clear HF1; have HB5 := Lib.hid (HB4.out.trans (hb5.mono HB4.out.size)); clear hb5; rw [HFO.out]; clear HFO)
            | (go_at_call 10; refine (wrap_any ⟨op, sOut, 3⟩ (HA3.out.below HB5.out) (ifc_num e) HV0.out).mono ?_; rintro ev w6 ⟨rfl, hA6, hb6⟩; have HB6 := Lib.hid (HB5.out.trans (hb6.mono HB5.out.size)); have HA6 := Lib.hid hA6; clear hb6 hA6)
            | (go_at_call 13; refine (find_any op HA6.out (plain_num e) (ifc_num e) (noUnw_num e) (by have := HN.out; have := HXL.out; simp; omega)).mono ?_; rintro ev w7 ⟨rfl, hb7⟩; have HB7 := Lib.hid (HB6.out.trans (hb7.mono HB6.out.size)); clear hb7; rw [HOO.out]))
          go_ret
          exact ⟨rfl, HB3.out.trans (HB7.out.mono HB3.out.size)⟩

end Go.Proofs.YtfgbboknhlomgaaDoor.Fault
