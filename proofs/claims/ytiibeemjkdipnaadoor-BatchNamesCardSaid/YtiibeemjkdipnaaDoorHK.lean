import Derived.Test.YtiibeemjkdipnaaDoorHJ
import Derived.Test.YtiibeemjkdipnaaDoorUN
/-
  What the laws of layer 8 ask first: heavy; event, list, says, refused; the examples.
-/
namespace Go.Proofs.YtiibeemjkdipnaaDoor.Batch
open Go Go.RowKit
open Go.Proofs.YtiibeemjkdipnaaDoor.Schema
open Go.Proofs.YtiibeemjkdipnaaDoor.Codec (WeightRes weight_any)
open Go.Proofs.YtiibeemjkdipnaaDoor.Upcast (ev0 ev_lit row_one lwX event_any)

/-- what heavy says: events that are not heavy are few -/
def HeavyRes (w : World) (xs : List Lx) (z : Ending) (w' : World) : Prop := ∃ b : Bool, z = .returned (.bool b) ∧ (b = false → xs.length ≤ 4000) ∧ Below w.heap.size w w'

set_option maxRecDepth 100000 in
set_option maxHeartbeats 2000000 in
theorem heavy_any (A : Option Addr) (ca : Nat) (xs : List Lx) (hn : xs.length ≤ 2513169434917) (hb1 : ∀ x ∈ xs, Light x) (w : World) (hX : Row w A xs) :
    Calls Tryd.prog 18 #[.slice A xs.length ca] w (HeavyRes w xs) := by
  have HX := Lib.hid hX
  have HN := Lib.hid hn
  have HB1 := Lib.hid hb1
  clear hX hn hb1
  go_enter Tryd.func18, Tryd.ntmps18
  go_wp2_with fail
  have HB : Hid (Below w.heap.size w w) := Below.refl _ _
  go_loopw [3, 4] (fun s t wr => ∃ i n : Nat, s = .int .i64 n ∧ t = .int .i64 i ∧ i ≤ xs.length ∧ i ≤ n ∧ n ≤ 6000 ∧ Hid (Below w.heap.size w wr)) (fun _ t _ => xs.length - (intOf t).toNat)
  case atStart => exact ⟨0, 0, rfl, rfl, Nat.zero_le _, Nat.zero_le _, by omega, HB⟩
  case round =>
    clear HB
    obtain ⟨i, n, rfl, rfl, hi, hin, hn, HB⟩ := hrel
    by_cases hlt : i < xs.length
    · have z0 : (0 : Int) ≤ (i : Int) := by omega
      have z1 : (i : Int) < (xs.length : Int) := by omega
      by_cases hq : n < 4000
      · have z2 : (n : Int) < 4000 := by omega
        obtain ⟨b, o, rfl, hbl, c0, c1, c2, c3, hat⟩ := (HX.out.below HB.out).at i hlt
        have HC := Lib.hid (weight_any _ _ _ _ _ (HB1.out _ (List.getElem_mem hlt)).1 (HB1.out _ (List.getElem_mem hlt)).2 wr hat)
        clear hat hbl
        generalize xs[i] = x at HC c0 c1 c2 c3
        unfold evV at HC
        go_wp2_with fail
        clear c0 c1 c2 c3
        refine HC.out.mono ?_
        rintro z W1 ⟨m, rfl, hm, -, hb⟩
        replace HB := Lib.hid (below_step HB.out hb)
        have zm : IntKind.i64.wrap ((n : Int) + (m : Int)) = ((n + m : Nat) : Int) := by (rw [IntKind.wrap_i64]; omega)
        have zk : IntKind.i64.wrap ((i : Int) + 1) = (i : Int) + 1 := by (rw [IntKind.wrap_i64]; have := HN.out; omega)
        clear hb
        go_wp2_with fail
        go_roundw
        case rel => exact ⟨i + 1, n + m, by go_num, by go_num, by omega, by omega, by omega, HB⟩
        case measure => simp [intOf] <;> omega
      · have z2 : decide ((n : Int) < 4000) = false := decide_eq_false (by omega)
        have z3 : ¬ (n : Int) < 4000 := by omega
        have z4 : (4000 : Int) ≤ (n : Int) := by omega
        go_wp2_with fail
        go_ret
        exact ⟨true, rfl, fun h => (by cases h), HB.out⟩
    · have z1 : ¬ (i : Int) < (xs.length : Int) := by omega
      by_cases hq : n < 4000
      · have z4 : ¬ (4000 : Int) ≤ (n : Int) := by omega
        have z5 : decide ((4000 : Int) ≤ (n : Int)) = false := decide_eq_false (by omega)
        go_wp2_with fail
        go_ret
        exact ⟨false, rfl, fun _ => by omega, HB.out⟩
      · have z4 : (4000 : Int) ≤ (n : Int) := by omega
        go_wp2_with fail
        go_ret
        exact ⟨true, rfl, fun h => (by cases h), HB.out⟩

theorem list_any (A : Option Addr) (n c : Nat) (w : World) :
    Calls Tryd.prog 11 #[.slice A n c] w fun z w' => z = .returned (.slice A n c) ∧ Below w.heap.size w w' := by
  go_enter Tryd.func11, Tryd.ntmps11
  go_wp2_with fail
  go_ret
  exact ⟨rfl, Below.refl _ _⟩
theorem toList_self (s : ByteArray) : (s.toList == s.toList) = true := by simp
set_option maxHeartbeats 1000000 in
theorem says_yes (D : Option Addr) (cap : Nat) (xs : List Lx) (v : Nat) (want : ByteArray) (h1 : sayT (xs.map (·.e)) v = want) (h2 : sayN (xs.map (·.e)) v = 0) (hv : v < 256) (hn : xs.length ≤ 100000) (hsm : ∀ x ∈ xs, x.e.ns.length ≤ 140737488355328) (w : World) (hX : Row w D xs) (E : Env w) :
    Calls Tryd.prog 15 #[.slice D xs.length cap, .int .u8 (v : Int), .string want] w fun z w' => z = .returned (.bool true) ∧ Below w.heap.size w w' := by
  have hc := Say_any D cap xs v hv hn hsm w hX E
  rw [h1, h2] at hc
  have HC := Lib.hid hc
  have z1 := toList_self want
  clear hc hX E hsm h1 h2
  go_enter Tryd.func15, Tryd.ntmps15
  go_wp2_with fail
  refine HC.out.mono ?_
  rintro z W1 ⟨rfl, hb⟩
  have HB := Lib.hid hb
  clear hb
  go_wp2_with fail
  go_ret
  exact ⟨rfl, HB.out⟩
set_option maxHeartbeats 1000000 in
theorem refused_yes (s : ByteArray) (k : Nat) (h : btW s = k) (hk : ¬ k = 0) (hs : s.size ≤ 1000000000000) (w : World) (E : Env w) :
    Calls Tryd.prog 16 #[.string s, .int .i64 (k : Int)] w fun z w' => z = .returned (.bool true) ∧ Below w.heap.size w w' := by
  have h0 : ¬ btW s = 0 := by rw [h]; exact hk
  have HD := Lib.hid (Decode_any s hs w E)
  have hN : newN s = k := (if_neg h0).trans h
  have hT : newT s = ⟨#[]⟩ := if_neg h0
  have hL : btL s = [] := if_neg h0
  have HE := Lib.hid E
  have HC := Lib.hid (fun V (hV : Below w.heap.size w V) => (by have hc := Newest_any s hs V (E.below hV); rw [hN, hT] at hc; exact hc : Calls Tryd.prog 14 #[.string s] V fun z w' => z = .returned (.tuple #[.string ⟨#[]⟩, .int .i64 (k : Int)]) ∧ Below V.heap.size V w'))
  have HL := Lib.hid hL
  have HH := Lib.hid h
  clear h h0 hN hT hL E hk
  go_enter Tryd.func16, Tryd.ntmps16
  go_wp2_with fail
  refine HD.out.mono ?_
  rintro z W1 ⟨ys, A, c, rfl, hy, -, -, -, hb⟩
  rw [HL.out] at hy
  obtain rfl := List.map_eq_nil_iff.1 hy
  rw [HH.out]
  have HB := Lib.hid hb
  clear hb hy
  go_wp2_with fail
  refine (HC.out W1 HB.out).mono ?_
  rintro z W2 ⟨rfl, hb⟩
  have HB2 := Lib.hid (below_step HB.out hb)
  clear hb
  go_wp2_with fail
  go_ret
  exact ⟨rfl, HB2.out⟩

/-! ### the examples -/
def e50 : Ev := ⟨3, 20, [50], []⟩
def e55 : Ev := ⟨3, 20, [55], []⟩
theorem x1 : refN [e50] = 0 := by decide +kernel
theorem x2 : encT [e50] = ⟨#[3, 1, 20, 50]⟩ := by decide +kernel
theorem x3 : sayT [e50] 1 = ⟨#[1, 1, 20, 5]⟩ ∧ sayN [e50] 1 = 0 := by decide +kernel
theorem x4 : sayT [e55] 1 = ⟨#[3, 1, 20, 55]⟩ ∧ sayN [e55] 1 = 0 := by decide +kernel
theorem x5 : btW ⟨#[3, 0]⟩ = 4 := by decide +kernel
theorem x6 : btW ⟨#[3, 41]⟩ = 40 := by decide +kernel
theorem x7 : refN [] = 4 := rfl
end Go.Proofs.YtiibeemjkdipnaaDoor.Batch
