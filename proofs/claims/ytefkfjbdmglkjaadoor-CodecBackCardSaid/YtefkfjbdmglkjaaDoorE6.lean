/-
  The walks of Bound and Fits.
-/
import Derived.Test.YtefkfjbdmglkjaaDoorE5
namespace Go.Proofs.YtefkfjbdmglkjaaDoor.Schema
open Go Go.RowKit

theorem below_dn (n : Nat) (w : World) (z : Nat) : Below n w (w.drewN z) := ⟨rfl, rfl, rfl, Nat.le_refl _, fun _ _ => rfl⟩
theorem below_step {Y w w' : World} (h : Below Y.heap.size Y w) (hb : Below w.heap.size w w') : Below Y.heap.size Y w' := h.trans (hb.mono h.size)
structure B3 where
  low : Int
  high : Int
  is : Bool
def stepB (v c : Int) (t : B3) (r : BdR) : B3 := if r.cls = c ∧ r.since ≤ v then ⟨r.low, r.high, true⟩ else t
def foldB (v c : Int) (k : Nat) : B3 := (bdL.take k).foldl (stepB v c) ⟨0, 0, false⟩
/-- the least and the greatest number of a class in a version, and whether there are such -/
def bnd (v c : Int) : B3 := if 3 < v then ⟨0, 0, false⟩ else foldB v c 18
def bdAt (k : Nat) : BdR := bdL.getD k ⟨0, 0, 0, 0⟩
theorem bd_row (k : Nat) (hk : k < 18) : bdL[k]? = some (bdAt k) := by
  unfold bdAt
  rw [List.getD_eq_getElem?_getD, List.getElem?_eq_getElem (by rw [bdL_len]; exact hk)]; rfl
theorem foldB_succ (v c : Int) (k : Nat) (hk : k < 18) : foldB v c (k + 1) = stepB v c (foldB v c k) (bdAt k) := by
  unfold foldB
  rw [List.take_add_one, bd_row k hk, List.foldl_append]; rfl
theorem bd_all {p : BdR → Bool} (h : bdL.all p = true) (k : Nat) (hk : k < 18) : p (bdAt k) = true :=
  List.all_eq_true.1 h _ (List.mem_of_getElem? (bd_row k hk))
theorem Env.b {w : World} (h : Env w) (k : Nat) (hk : k < 18) : w.cell? ⟨1, k * 4, none⟩ = some (.int .u8 (bdAt k).cls) ∧ w.cell? ⟨1, k * 4 + 1, none⟩ = some (.int .u8 (bdAt k).since) ∧ w.cell? ⟨1, k * 4 + 2, none⟩ = some (.int .i64 (bdAt k).low) ∧ w.cell? ⟨1, k * 4 + 3, none⟩ = some (.int .i64 (bdAt k).high) := by
  have g := fun j hj => h.bd k j hj
  simp only [bd_row k hk, Option.bind_some] at g
  exact ⟨g 0 (by decide), g 1 (by decide), g 2 (by decide), g 3 (by decide)⟩
theorem ret_b3 {l h l' h' : Int} {a b : Bool} (h1 : l = l') (h2 : h = h') (h3 : a = b) : Ending.returned (.tuple #[.int .i64 l, .int .i64 h, .bool a]) = .returned (.tuple #[.int .i64 l', .int .i64 h', .bool b]) := by rw [h1, h2, h3]

set_option maxRecDepth 100000 in
set_option maxHeartbeats 400000 in
theorem bound_any (v c : Nat) (hv : v < 256) (hc : c < 256) (w : World) (E : Env w) :
    Calls Tryd.prog 67 #[.int .u8 v, .int .u8 c] w fun e w' => e = .returned (.tuple #[.int .i64 (bnd v c).low, .int .i64 (bnd v c).high, .bool (bnd v c).is]) ∧ Below w.heap.size w w' := by
  have HE := Lib.hid E
  clear E
  by_cases h3 : 3 < v
  · have HB := Lib.hid (show bnd v c = ⟨0, 0, false⟩ from if_pos (by omega))
    go_enter Tryd.func67, Tryd.ntmps67
    go_wp2
    go_ret3
    exact ⟨ret_b3 (by rw [HB.out]) (by rw [HB.out]) (by rw [HB.out]), Below.refl _ _⟩
  · have HB := Lib.hid (show bnd v c = foldB v c 18 from if_neg (by omega))
    have h3' : v ≤ 3 := by omega
    clear h3
    go_enter Tryd.func67, Tryd.ntmps67
    go_wp2
    go_loopw [4, 5, 6, 11] (fun l h b i wr => ∃ k : Nat, k ≤ 18 ∧ i = .int .i64 k ∧ l = .int .i64 (foldB v c k).low ∧ h = .int .i64 (foldB v c k).high ∧ b = .bool (foldB v c k).is ∧ Below w.heap.size w wr) (fun _ _ _ i _ => 18 - (intOf i).toNat)
    case atStart => exact ⟨0, Nat.zero_le _, rfl, rfl, rfl, rfl, Below.refl _ _⟩
    case round =>
      obtain ⟨k, hk, rfl, rfl, rfl, rfl, hB⟩ := hrel
      have HBw := Lib.hid hB
      clear hB
      by_cases hlt : k < 18
      · obtain ⟨c0, c1, c2, c3⟩ := (HE.out.below HBw.out).b k hlt
        have HS := Lib.hid (foldB_succ v c k hlt)
        have hb := (show 0 ≤ (bdAt k).cls ∧ (bdAt k).cls < 256 ∧ 0 ≤ (bdAt k).since ∧ (bdAt k).since < 256 from by
          have := bd_all (p := fun r => decide (0 ≤ r.cls ∧ r.cls < 256 ∧ 0 ≤ r.since ∧ r.since < 256)) (by decide +kernel) k hlt
          simpa using this)
        generalize bdAt k = r at c0 c1 c2 c3 HS hb
        generalize foldB v c k = t at HS ⊢
        obtain ⟨b0, b1, b2, b3⟩ := hb
        by_cases hq : r.cls = (c : Int)
        · by_cases hs : r.since ≤ (v : Int)
          · have HT := Lib.hid (HS.out.trans (if_pos ⟨hq, hs⟩))
            have e1 : (r.cls == (c : Int)) = true := beq_iff_eq.2 hq
            clear hq
            go_wp2
            go_quiet (fail)
            go_wp2
            go_roundw
            case rel => exact ⟨k + 1, by omega, by go_num, by rw [HT.out], by rw [HT.out], by rw [HT.out], (HBw.out.alloc HBw.out.size _).trans (below_dn _ _ _)⟩
            case measure => simp [intOf] <;> omega
          · have HT := Lib.hid (HS.out.trans (if_neg (fun h => hs h.2)))
            have e1 : (r.cls == (c : Int)) = true := beq_iff_eq.2 hq
            have hs' : (v : Int) < r.since := by omega
            clear hq hs
            go_wp2
            go_roundw
            case rel => exact ⟨k + 1, by omega, by go_num, by rw [HT.out], by rw [HT.out], by rw [HT.out], HBw.out.alloc HBw.out.size _⟩
            case measure => simp [intOf] <;> omega
        · have HT := Lib.hid (HS.out.trans (if_neg (fun h => hq h.1)))
          have e1 : (r.cls == (c : Int)) = false := beq_eq_false_iff_ne.2 hq
          clear hq
          go_wp2
          go_roundw
          case rel => exact ⟨k + 1, by omega, by go_num, by rw [HT.out], by rw [HT.out], by rw [HT.out], HBw.out.alloc HBw.out.size _⟩
          case measure => simp [intOf] <;> omega
      · obtain rfl : k = 18 := by omega
        go_wp2
        go_ret3
        exact ⟨ret_b3 (by rw [HB.out]) (by rw [HB.out]) (by rw [HB.out]), HBw.out⟩

/-- whether a number lies within the bounds of a class -/
def fits (v c n : Int) : Bool := (bnd v c).is && decide ((bnd v c).low ≤ n) && decide (n ≤ (bnd v c).high)
theorem bnd_cases (v c : Int) : bnd v c = ⟨0, 0, false⟩ ∨ ∃ k, k < 18 ∧ bnd v c = ⟨(bdAt k).low, (bdAt k).high, true⟩ := by
  unfold bnd
  split
  · exact Or.inl rfl
  · have : ∀ m, m ≤ 18 → foldB v c m = ⟨0, 0, false⟩ ∨ ∃ k, k < 18 ∧ foldB v c m = ⟨(bdAt k).low, (bdAt k).high, true⟩ := by
      intro m
      induction m with
      | zero => intro _; exact Or.inl rfl
      | succ m ih =>
        intro h
        rw [foldB_succ v c m (by omega)]
        unfold stepB
        split
        · exact Or.inr ⟨m, by omega, rfl⟩
        · exact ih (by omega)
    exact this 18 (Nat.le_refl _)
theorem bnd_wf (v c : Int) : -1 ≤ (bnd v c).low ∧ (bnd v c).low ≤ 2 ∧ 0 ≤ (bnd v c).high ∧ (bnd v c).high ≤ 1125899906842624 := by
  rcases bnd_cases v c with h | ⟨k, hk, h⟩
  · rw [h]; decide
  · rw [h]
    have := bd_all (p := fun r => decide (-1 ≤ r.low ∧ r.low ≤ 2 ∧ 0 ≤ r.high ∧ r.high ≤ 1125899906842624)) (by decide +kernel) k hk
    simpa using this

set_option maxRecDepth 100000 in
theorem fits_any (v c : Nat) (n : Int) (hv : v < 256) (hc : c < 256) (hn : -9223372036854775808 ≤ n ∧ n ≤ 9223372036854775807) (w : World) (E : Env w) :
    Calls Tryd.prog 83 #[.int .u8 v, .int .u8 c, .int .i64 n] w fun e w' => e = .returned (.bool (fits v c n)) ∧ Below w.heap.size w w' := by
  have HB := Lib.hid (bound_any v c hv hc w E)
  have HF := Lib.hid (show fits v c n = ((bnd v c).is && decide ((bnd v c).low ≤ n) && decide (n ≤ (bnd v c).high)) from rfl)
  have hw := bnd_wf v c
  generalize bnd v c = t at HB HF hw
  clear E
  obtain ⟨lo, hi, is⟩ := t
  obtain ⟨w1, w2, w3, w4⟩ := hw
  obtain ⟨n1, n2⟩ := hn
  simp only at w1 w2 w3 w4
  cases is with
  | false =>
    go_enter Tryd.func83, Tryd.ntmps83
    go_wp2_with (go_at_call 67; refine HB.out.mono ?_; rintro e w' ⟨rfl, hb⟩; have HBe := Lib.hid hb; clear hb)
    go_ret
    exact ⟨by rw [HF.out]; simp, HBe.out⟩
  | true =>
    by_cases h1 : lo ≤ n
    · by_cases h2 : n ≤ hi
      · go_enter Tryd.func83, Tryd.ntmps83
        go_wp2_with (go_at_call 67; refine HB.out.mono ?_; rintro e w' ⟨rfl, hb⟩; have HBe := Lib.hid hb; clear hb)
        go_ret
        exact ⟨by rw [HF.out]; simp <;> omega, HBe.out⟩
      · have h2' : hi < n := by omega
        go_enter Tryd.func83, Tryd.ntmps83
        go_wp2_with (go_at_call 67; refine HB.out.mono ?_; rintro e w' ⟨rfl, hb⟩; have HBe := Lib.hid hb; clear hb)
        go_ret
        exact ⟨by rw [HF.out]; simp <;> omega, HBe.out⟩
    · have h1' : n < lo := by omega
      go_enter Tryd.func83, Tryd.ntmps83
      go_wp2_with (go_at_call 67; refine HB.out.mono ?_; rintro e w' ⟨rfl, hb⟩; have HBe := Lib.hid hb; clear hb)
      go_ret
      exact ⟨by rw [HF.out]; simp <;> omega, HBe.out⟩

end Go.Proofs.YtefkfjbdmglkjaaDoor.Schema
