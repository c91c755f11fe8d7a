import Derived.Test.YtiibeemjkdipnaaGreatDoorHI
import Derived.Test.YtiibeemjkdipnaaGreatDoorUR
/-
  Same of lists of events: the program's, and the law's; heavy.
-/
namespace Go.Proofs.YtiibeemjkdipnaaGreatDoor.Batch
open Go Go.RowKit
open Go.Proofs.YtiibeemjkdipnaaGreatDoor.Schema
open Go.Proofs.YtiibeemjkdipnaaGreatDoor.Codec (WeightRes weight_any)
open Go.Proofs.YtiibeemjkdipnaaGreatDoor.Upcast (ev0)

/-- events of whatever length that a slice may have -/
def Big (xs : List Lx) : Prop := ∀ x ∈ xs, x.e.ns.length ≤ 140737488355328 ∧ x.e.ts.length ≤ 140737488355328
def sameL (xs ys : List Lx) : Bool := decide (xs.length = ys.length) && (List.range xs.length).all fun i => same (xs.getD i default).e (ys.getD i default).e
theorem sameL_len {xs ys : List Lx} (h : ¬ xs.length = ys.length) : sameL xs ys = false := by unfold sameL; rw [decide_eq_false h]; rfl
theorem lx_at {xs : List Lx} {i : Nat} (h : i < xs.length) : xs.getD i default = xs[i] := by rw [List.getD_eq_getElem?_getD, List.getElem?_eq_getElem h]; rfl
theorem sameL_no {xs ys : List Lx} {i : Nat} (h : i < xs.length) (h2 : i < ys.length) (hs : same xs[i].e ys[i].e = false) : sameL xs ys = false := by
  unfold sameL
  rw [Bool.and_eq_false_iff]
  right
  rw [List.all_eq_false]
  exact ⟨i, List.mem_range.2 h, by rw [lx_at h, lx_at h2, hs]; decide⟩
theorem sameL_yes {xs ys : List Lx} (hl : xs.length = ys.length) (h : ∀ (j : Nat) (h1 : j < xs.length) (h2 : j < ys.length), same xs[j].e ys[j].e = true) : sameL xs ys = true := by
  unfold sameL
  rw [decide_eq_true hl, Bool.true_and, List.all_eq_true]
  intro j hj
  rw [List.mem_range] at hj
  rw [lx_at hj, lx_at (by omega)]
  exact h j hj (by omega)
theorem sameL_iff {xs ys : List Lx} : sameL xs ys = true ↔ xs.map (·.e) = ys.map (·.e) := by
  constructor
  · intro h
    unfold sameL at h
    rw [Bool.and_eq_true, decide_eq_true_iff, List.all_eq_true] at h
    refine List.ext_getElem (by simpa using h.1) (fun i h1 h2 => ?_)
    rw [List.getElem_map, List.getElem_map]
    rw [List.length_map] at h1 h2
    have := h.2 i (List.mem_range.2 h1)
    rw [lx_at h1, lx_at h2] at this
    exact (Upcast.same_iff _ _).1 this
  · intro h
    have hl : xs.length = ys.length := by have := congrArg List.length h; simpa using this
    refine sameL_yes hl (fun j h1 h2 => (Upcast.same_iff _ _).2 ?_)
    have h3 : (xs.map (·.e))[j]'(by rw [List.length_map]; exact h1) = (ys.map (·.e))[j]'(by rw [List.length_map]; exact h2) := by simp only [h]
    simpa using h3
theorem int_ne (n m : Nat) : ((n : Int) != (m : Int)) = !(decide (n = m)) := by
  by_cases h : n = m
  · subst h; simp
  · rw [decide_eq_false h]; exact bne_iff_ne.2 (by omega)

set_option maxRecDepth 100000 in
set_option maxHeartbeats 2000000 in
/-- the law's same -/
theorem lsame_any (A : Option Addr) (ca : Nat) (xs : List Lx) (C : Option Addr) (cc : Nat) (ys : List Lx) (hn : xs.length ≤ 1000000000) (hb1 : Big xs) (w : World) (hX : Row w A xs) (hY : Row w C ys) :
    Calls Tryz.prog 15 #[.slice A xs.length ca, .slice C ys.length cc] w fun z w' => z = .returned (.bool (sameL xs ys)) ∧ Below w.heap.size w w' := by
  have HX := Lib.hid hX
  have HY := Lib.hid hY
  have HN := Lib.hid hn
  have HB1 := Lib.hid hb1
  clear hX hY hn hb1
  go_enter Tryz.func15, Tryz.ntmps15
  by_cases hl : xs.length = ys.length
  case neg =>
    have HS := Lib.hid (sameL_len hl)
    have z1 : ((xs.length : Int) != (ys.length : Int)) = true := by rw [int_ne, decide_eq_false hl]; rfl
    have z2 : ¬ (xs.length : Int) = (ys.length : Int) := by omega
    clear hl
    go_wp2_with fail
    go_ret
    exact ⟨by rw [HS.out]; rfl, Below.refl _ _⟩
  have HL := Lib.hid hl
  have z1 : ((xs.length : Int) != (ys.length : Int)) = false := by rw [int_ne, decide_eq_true hl]; rfl
  have z2 : (xs.length : Int) = (ys.length : Int) := by omega
  rw [show ys.length = xs.length from hl.symm]
  have z3 : ((xs.length : Int) != (xs.length : Int)) = false := by rw [int_ne, decide_eq_true rfl]; rfl
  clear hl z1 z2
  go_wp2_with fail
  clear z3
  have HI : Hid ((∀ (j : Nat) (h1 : j < xs.length) (h2 : j < ys.length), j < 0 → same xs[j].e ys[j].e = true) ∧ Below w.heap.size w w) := ⟨fun j _ _ h => absurd h (Nat.not_lt_zero _), Below.refl _ _⟩
  go_loopw [5] (fun t wr => ∃ i : Nat, t = .int .i64 i ∧ i ≤ xs.length ∧ Hid ((∀ (j : Nat) (h1 : j < xs.length) (h2 : j < ys.length), j < i → same xs[j].e ys[j].e = true) ∧ Below w.heap.size w wr)) (fun t _ => xs.length - (intOf t).toNat)
  case atStart => exact ⟨0, rfl, Nat.zero_le _, HI⟩
  case round =>
    obtain ⟨i, rfl, hi, HJ⟩ := hrel
    clear HI
    by_cases hlt : i < xs.length
    · have z0 : (0 : Int) ≤ (i : Int) := by omega
      have z1 : (i : Int) < (xs.length : Int) := by omega
      have hlt2 : i < ys.length := by rw [← HL.out]; exact hlt
      have HNX := Lib.hid (fun (h : same xs[i].e ys[i].e = true) (j : Nat) (h1 : j < xs.length) (h2 : j < ys.length) (hji : j < i + 1) => (show same xs[j].e ys[j].e = true from by
        rcases Nat.lt_or_ge j i with h3 | h3
        · exact HJ.out.1 j h1 h2 h3
        · obtain rfl : j = i := by omega
          exact h))
      have HNO := Lib.hid (sameL_no hlt hlt2)
      have HBX := Lib.hid (HB1.out _ (List.getElem_mem hlt))
      obtain ⟨b, o, rfl, hbl, c0, c1, c2, c3, hat⟩ := (HX.out.below HJ.out.2).at i hlt
      obtain ⟨b2, o2, rfl, hbl2, d0, d1, d2, d3, hat2⟩ := (HY.out.below HJ.out.2).at i hlt2
      have HAT := Lib.hid hat
      have HAT2 := Lib.hid hat2
      generalize xs[i] = x at HAT HNX HNO HBX c0 c1 c2 c3
      generalize ys[i] = y at HAT2 HNX HNO d0 d1 d2 d3
      have hc := sameE_big x.A x.ca x.C x.cc x.e y.A y.ca y.C y.cc y.e HBX.out.1 HBX.out.2 wr.drew (HAT.out.below (below_drew _ _)) (HAT2.out.below (below_drew _ _))
      have HC := Lib.hid hc
      unfold evV at HC
      clear hbl hbl2 hat hat2 hc hlt2
      go_upto_region 6 with (fail)
      go_region_with (refine HC.out.mono ?_; rintro z V ⟨rfl, hbV⟩; have HBV := Lib.hid hbV; clear hbV)
      all_goals
        have HB3 := Lib.hid (below_step HJ.out.2 ((below_drew wr.heap.size wr).trans HBV.out))
        clear c0 c1 c2 c3 d0 d1 d2 d3 z0 z1
        cases hst : same x.e y.e with
        | true =>
          have HK := Lib.hid (And.intro (HNX.out hst) HB3.out)
          have zk : IntKind.i64.wrap ((i : Int) + 1) = (i : Int) + 1 := by (rw [IntKind.wrap_i64]; have := HN.out; omega)
          clear hst
          go_wp2_with fail
          go_roundw
          case rel => exact ⟨i + 1, by go_num, by omega, HK⟩
          case measure => simp [intOf] <;> omega
        | false =>
          have HNN := Lib.hid (HNO.out hst)
          clear hst
          go_wp2_with fail
          go_ret
          exact ⟨by rw [HNN.out]; rfl, HB3.out⟩
    · have z1 : ¬ (i : Int) < (xs.length : Int) := by omega
      have HYES := Lib.hid (sameL_yes HL.out (fun j h1 h2 => HJ.out.1 j h1 h2 (by omega)))
      go_wp2_with fail
      go_ret
      exact ⟨by rw [HYES.out]; rfl, HJ.out.2⟩
end Go.Proofs.YtiibeemjkdipnaaGreatDoor.Batch

/-
  What the laws of layer 8 ask first: heavy; event, list, says, refused; the examples.
-/
namespace Go.Proofs.YtiibeemjkdipnaaGreatDoor.Batch
open Go Go.RowKit
open Go.Proofs.YtiibeemjkdipnaaGreatDoor.Schema
open Go.Proofs.YtiibeemjkdipnaaGreatDoor.Codec (WeightRes weight_any)
open Go.Proofs.YtiibeemjkdipnaaGreatDoor.Upcast (ev0 ev_lit row_one lwX event_any)

/-- what heavy says: events that are not heavy are few -/
def HeavyRes (w : World) (xs : List Lx) (z : Ending) (w' : World) : Prop := ∃ b : Bool, z = .returned (.bool b) ∧ (b = false → xs.length ≤ 4000) ∧ Below w.heap.size w w'

set_option maxRecDepth 100000 in
set_option maxHeartbeats 2000000 in
theorem heavy_any (A : Option Addr) (ca : Nat) (xs : List Lx) (hn : xs.length ≤ 2513169434917) (hb1 : ∀ x ∈ xs, Light x) (w : World) (hX : Row w A xs) :
    Calls Tryz.prog 5 #[.slice A xs.length ca] w (HeavyRes w xs) := by
  have HX := Lib.hid hX
  have HN := Lib.hid hn
  have HB1 := Lib.hid hb1
  clear hX hn hb1
  go_enter Tryz.func5, Tryz.ntmps5
  go_wp2_with fail
  have HB : Hid (Below w.heap.size w w) := Below.refl _ _
  go_loopw [3, 4] (fun s t wr => ∃ i n : Nat, s = .int .i64 n ∧ t = .int .i64 i ∧ i ≤ xs.length ∧ i ≤ n ∧ n ≤ 6000 ∧ Hid (Below w.heap.size w wr)) (fun _ t _ => xs.length - (intOf t).toNat)
  case atStart => exact ⟨0, 0, rfl, rfl, Nat.zero_le _, Nat.zero_le _, by omega, HB⟩
  case round =>
    clear HB
    obtain ⟨i, n, rfl, rfl, hi, hin, hn, HB⟩ := hrel
    by_cases hlt : i < xs.length
    · have z0 : (0 : Int) ≤ (i : Int) := by omega
      have z1 : (i : Int) < (xs.length : Int) := by omega
      by_cases hq : n < 4000
      · have z2 : (n : Int) < 4000 := by omega
        obtain ⟨b, o, rfl, hbl, c0, c1, c2, c3, hat⟩ := (HX.out.below HB.out).at i hlt
        have HC := Lib.hid (weight_any _ _ _ _ _ (by have := (HB1.out _ (List.getElem_mem hlt)).1; omega) (by have := (HB1.out _ (List.getElem_mem hlt)).2; omega) wr hat)
        clear hat hbl
        generalize xs[i] = x at HC c0 c1 c2 c3
        unfold evV at HC
        go_wp2_with fail
        clear c0 c1 c2 c3
        refine HC.out.mono ?_
        rintro z W1 ⟨m, rfl, hm, -, hb⟩
        replace HB := Lib.hid (below_step HB.out hb)
        have zm : IntKind.i64.wrap ((n : Int) + (m : Int)) = ((n + m : Nat) : Int) := by (rw [IntKind.wrap_i64]; omega)
        have zk : IntKind.i64.wrap ((i : Int) + 1) = (i : Int) + 1 := by (rw [IntKind.wrap_i64]; have := HN.out; omega)
        clear hb
        go_wp2_with fail
        go_roundw
        case rel => exact ⟨i + 1, n + m, by go_num, by go_num, by omega, by omega, by omega, HB⟩
        case measure => simp [intOf] <;> omega
      · have z2 : decide ((n : Int) < 4000) = false := decide_eq_false (by omega)
        have z3 : ¬ (n : Int) < 4000 := by omega
        have z4 : (4000 : Int) ≤ (n : Int) := by omega
        go_wp2_with fail
        go_ret
        exact ⟨true, rfl, fun h => (by cases h), HB.out⟩
    · have z1 : ¬ (i : Int) < (xs.length : Int) := by omega
      by_cases hq : n < 4000
      · have z4 : ¬ (4000 : Int) ≤ (n : Int) := by omega
        have z5 : decide ((4000 : Int) ≤ (n : Int)) = false := decide_eq_false (by omega)
        go_wp2_with fail
        go_ret
        exact ⟨false, rfl, fun _ => by omega, HB.out⟩
      · have z4 : (4000 : Int) ≤ (n : Int) := by omega
        go_wp2_with fail
        go_ret
        exact ⟨true, rfl, fun h => (by cases h), HB.out⟩

theorem list_any (A : Option Addr) (n c : Nat) (w : World) :
    Calls Tryz.prog 22 #[.slice A n c] w fun z w' => z = .returned (.slice A n c) ∧ Below w.heap.size w w' := by
  go_enter Tryz.func22, Tryz.ntmps22
  go_wp2_with fail
  go_ret
  exact ⟨rfl, Below.refl _ _⟩
theorem toList_self (s : ByteArray) : (s.toList == s.toList) = true := by simp
set_option maxHeartbeats 1000000 in
theorem says_yes (D : Option Addr) (cap : Nat) (xs : List Lx) (v : Nat) (want : ByteArray) (h1 : sayT (xs.map (·.e)) v = want) (h2 : sayN (xs.map (·.e)) v = 0) (hv : v < 256) (hn : xs.length ≤ 100000) (hsm : ∀ x ∈ xs, x.e.ns.length ≤ 140737488355328) (w : World) (hX : Row w D xs) (E : Env w) :
    Calls Tryz.prog 24 #[.slice D xs.length cap, .int .u8 (v : Int), .string want] w fun z w' => z = .returned (.bool true) ∧ Below w.heap.size w w' := by
  have hc := Say_any D cap xs v hv hn hsm w hX E
  rw [h1, h2] at hc
  have HC := Lib.hid hc
  have z1 := toList_self want
  clear hc hX E hsm h1 h2
  go_enter Tryz.func24, Tryz.ntmps24
  go_wp2_with fail
  refine HC.out.mono ?_
  rintro z W1 ⟨rfl, hb⟩
  have HB := Lib.hid hb
  clear hb
  go_wp2_with fail
  go_ret
  exact ⟨rfl, HB.out⟩
set_option maxHeartbeats 1000000 in
theorem refused_yes (s : ByteArray) (k : Nat) (h : btW s = k) (hk : ¬ k = 0) (hs : s.size ≤ 1000000000000) (w : World) (E : Env w) :
    Calls Tryz.prog 25 #[.string s, .int .i64 (k : Int)] w fun z w' => z = .returned (.bool true) ∧ Below w.heap.size w w' := by
  have h0 : ¬ btW s = 0 := by rw [h]; exact hk
  have HD := Lib.hid (Decode_any s hs w E)
  have hN : newN s = k := (if_neg h0).trans h
  have hT : newT s = ⟨#[]⟩ := if_neg h0
  have hL : btL s = [] := if_neg h0
  have HE := Lib.hid E
  have HC := Lib.hid (fun V (hV : Below w.heap.size w V) => (by have hc := Newest_any s hs V (E.below hV); rw [hN, hT] at hc; exact hc : Calls Tryz.prog 16 #[.string s] V fun z w' => z = .returned (.tuple #[.string ⟨#[]⟩, .int .i64 (k : Int)]) ∧ Below V.heap.size V w'))
  have HL := Lib.hid hL
  have HH := Lib.hid h
  clear h h0 hN hT hL E hk
  go_enter Tryz.func25, Tryz.ntmps25
  go_wp2_with fail
  refine HD.out.mono ?_
  rintro z W1 ⟨ys, A, c, rfl, hy, -, -, -, hb⟩
  rw [HL.out] at hy
  obtain rfl := List.map_eq_nil_iff.1 hy
  rw [HH.out]
  have HB := Lib.hid hb
  clear hb hy
  go_wp2_with fail
  refine (HC.out W1 HB.out).mono ?_
  rintro z W2 ⟨rfl, hb⟩
  have HB2 := Lib.hid (below_step HB.out hb)
  clear hb
  go_wp2_with fail
  go_ret
  exact ⟨rfl, HB2.out⟩

/-! ### the examples -/
def e50 : Ev := ⟨3, 20, [50], []⟩
def e55 : Ev := ⟨3, 20, [55], []⟩
theorem x1 : refN [e50] = 0 := by decide +kernel
theorem x2 : encT [e50] = ⟨#[3, 1, 20, 50]⟩ := by decide +kernel
theorem x3 : sayT [e50] 1 = ⟨#[1, 1, 20, 5]⟩ ∧ sayN [e50] 1 = 0 := by decide +kernel
theorem x4 : sayT [e55] 1 = ⟨#[3, 1, 20, 55]⟩ ∧ sayN [e55] 1 = 0 := by decide +kernel
theorem x5 : btW ⟨#[3, 0]⟩ = 4 := by decide +kernel
theorem x6 : btW ⟨#[3, 41]⟩ = 40 := by decide +kernel
theorem x7 : refN [] = 4 := rfl
end Go.Proofs.YtiibeemjkdipnaaGreatDoor.Batch

/-
  The examples of layer 8: works.
-/
namespace Go.Proofs.YtiibeemjkdipnaaGreatDoor.Batch
open Go Go.RowKit
open Go.Proofs.YtiibeemjkdipnaaGreatDoor.Schema
open Go.Proofs.YtiibeemjkdipnaaGreatDoor.Upcast (ev0 ev_lit row_one event_any)

theorem lit50 (w : World) : EvAt (w.alloc (.cells #[.int .i64 50] 2)) (some ⟨w.heap.size, 0, none⟩) 1 none 0 e50 := ev_lit w 3 20 [50] (by decide) (by decide) (by decide)
theorem lit55 (w : World) : EvAt (w.alloc (.cells #[.int .i64 55] 2)) (some ⟨w.heap.size, 0, none⟩) 1 none 0 e55 := ev_lit w 3 20 [55] (by decide) (by decide) (by decide)
def xl (q : Nat) (e : Ev) : Lx := ⟨some ⟨q, 0, none⟩, 1, none, 0, e⟩
theorem row50 (w : World) (q : Nat) (h : EvAt w (some ⟨q, 0, none⟩) 1 none 0 e50) : Row (w.alloc (.cells #[.int .u8 3, .int .u8 20, .slice (some ⟨q, 0, none⟩) 1 1, .slice none 0 0] 39)) (some ⟨w.heap.size, 0, none⟩) [xl q e50] := row_one w (xl q e50) h
theorem row55 (w : World) (q : Nat) (h : EvAt w (some ⟨q, 0, none⟩) 1 none 0 e55) : Row (w.alloc (.cells #[.int .u8 3, .int .u8 20, .slice (some ⟨q, 0, none⟩) 1 1, .slice none 0 0] 39)) (some ⟨w.heap.size, 0, none⟩) [xl q e55] := row_one w (xl q e55) h
theorem one_small (q : Nat) (e : Ev) (h : e.ns.length ≤ 10) : ∀ x ∈ [xl q e], x.e.ns.length ≤ 140737488355328 := fun x hx => by rw [List.mem_singleton.1 hx]; show e.ns.length ≤ _; omega
theorem enc50 (w : World) (A : Option Addr) (q : Nat) (hX : Row w A [xl q e50]) (E : Env w) : Calls Tryz.prog 8 #[.slice A 1 1] w fun z w' => z = .returned (.tuple #[.string ⟨#[3, 1, 20, 50]⟩, .int .i64 0]) ∧ Below w.heap.size w w' := by
  have h := Encode_any A 1 [xl q e50] (by show 1 ≤ _; omega) (one_small q e50 (by decide)) w hX E
  rw [show [xl q e50].map (·.e) = [e50] from rfl, x1, x2] at h
  exact h
theorem enc_none (w : World) (E : Env w) : Calls Tryz.prog 8 #[.slice none 0 0] w fun z w' => z = .returned (.tuple #[.string ⟨#[]⟩, .int .i64 4]) ∧ Below w.heap.size w w' :=
  Encode_any none 0 [] (by decide) (fun x hx => by cases hx) w (Row.nil _ _) E
theorem says50 (w : World) (A : Option Addr) (q : Nat) (hX : Row w A [xl q e50]) (E : Env w) : Calls Tryz.prog 24 #[.slice A 1 1, .int .u8 1, .string ⟨#[1, 1, 20, 5]⟩] w fun z w' => z = .returned (.bool true) ∧ Below w.heap.size w w' :=
  says_yes A 1 [xl q e50] 1 _ x3.1 x3.2 (by decide) (by show 1 ≤ _; omega) (one_small q e50 (by decide)) w hX E
theorem says55 (w : World) (A : Option Addr) (q : Nat) (hX : Row w A [xl q e55]) (E : Env w) : Calls Tryz.prog 24 #[.slice A 1 1, .int .u8 1, .string ⟨#[3, 1, 20, 55]⟩] w fun z w' => z = .returned (.bool true) ∧ Below w.heap.size w w' :=
  says_yes A 1 [xl q e55] 1 _ x4.1 x4.2 (by decide) (by show 1 ≤ _; omega) (one_small q e55 (by decide)) w hX E
theorem str_eq4 : (ByteArray.toList ⟨#[3, 1, 20, 50]⟩ == ByteArray.toList ⟨#[3, 1, 20, 50]⟩) = true := toList_self _

set_option maxRecDepth 100000 in
set_option maxHeartbeats 2000000 in
theorem works_any (w : World) (E : Env w) : Calls Tryz.prog 6 #[] w fun z w' => z = .returned (.bool true) ∧ Below w.heap.size w w' := by
  have HE := Lib.hid E
  clear E
  go_enter Tryz.func6, Tryz.ntmps6
  go_wp2_with fail
  have hb := (Below.refl w.heap.size w).alloc (Nat.le_refl _) (.cells #[.int .i64 50] 2)
  refine (event_any 3 20 _ 1 1 _).mono ?_
  rintro z W1 ⟨rfl, hb1⟩
  have HA := Lib.hid ((lit50 w).below hb1)
  have HB := Lib.hid (below_step hb hb1)
  clear hb hb1
  generalize w.heap.size = q at HA ⊢
  go_wp2_with fail
  have hb := (Below.refl W1.heap.size W1).alloc (Nat.le_refl _) (.cells #[.int .u8 3, .int .u8 20, .slice (some ⟨q, 0, none⟩) 1 1, .slice none 0 0] 39)
  refine (list_any _ 1 1 _).mono ?_
  rintro z W2 ⟨rfl, hb1⟩
  have HR := Lib.hid ((row50 W1 q HA.out).below hb1)
  replace HB := Lib.hid (below_step HB.out (below_step hb hb1))
  clear hb hb1 HA
  generalize W1.heap.size = q1 at HR ⊢
  have hc := enc50 W2 _ q HR.out (HE.out.below HB.out)
  go_wp2_with fail
  refine hc.mono ?_
  rintro z W3 ⟨rfl, hb⟩
  replace HR := Lib.hid (HR.out.below hb)
  replace HB := Lib.hid (below_step HB.out hb)
  clear hb hc
  go_wp2_with fail
  refine (enc_none W3 (HE.out.below HB.out)).mono ?_
  rintro z W4 ⟨rfl, hb⟩
  replace HR := Lib.hid (HR.out.below hb)
  replace HB := Lib.hid (below_step HB.out hb)
  clear hb
  have hs := str_eq4
  go_wp2_with fail
  refine (says50 W4 _ q HR.out (HE.out.below HB.out)).mono ?_
  rintro z W5 ⟨rfl, hb⟩
  replace HB := Lib.hid (below_step HB.out hb)
  clear hb HR hs
  go_wp2_with fail
  have hb := (Below.refl W5.heap.size W5).alloc (Nat.le_refl _) (.cells #[.int .i64 55] 2)
  refine (event_any 3 20 _ 1 1 _).mono ?_
  rintro z W6 ⟨rfl, hb1⟩
  have HA := Lib.hid ((lit55 W5).below hb1)
  replace HB := Lib.hid (below_step HB.out (below_step hb hb1))
  clear hb hb1
  generalize W5.heap.size = q2 at HA ⊢
  go_wp2_with fail
  have hb := (Below.refl W6.heap.size W6).alloc (Nat.le_refl _) (.cells #[.int .u8 3, .int .u8 20, .slice (some ⟨q2, 0, none⟩) 1 1, .slice none 0 0] 39)
  refine (list_any _ 1 1 _).mono ?_
  rintro z W7 ⟨rfl, hb1⟩
  have HR := Lib.hid ((row55 W6 q2 HA.out).below hb1)
  replace HB := Lib.hid (below_step HB.out (below_step hb hb1))
  clear hb hb1 HA
  generalize W6.heap.size = q3 at HR ⊢
  have hc := says55 W7 _ q2 HR.out (HE.out.below HB.out)
  go_wp2_with fail
  refine hc.mono ?_
  rintro z W8 ⟨rfl, hb⟩
  replace HB := Lib.hid (below_step HB.out hb)
  clear hb hc HR
  go_wp2_with fail
  refine (refused_yes ⟨#[3, 0]⟩ 4 x5 (by decide) (by decide) W8 (HE.out.below HB.out)).mono ?_
  rintro z W9 ⟨rfl, hb⟩
  replace HB := Lib.hid (below_step HB.out hb)
  clear hb
  go_wp2_with fail
  refine (refused_yes ⟨#[3, 41]⟩ 40 x6 (by decide) (by decide) W9 (HE.out.below HB.out)).mono ?_
  rintro z W10 ⟨rfl, hb⟩
  replace HB := Lib.hid (below_step HB.out hb)
  clear hb
  go_wp2_with fail
  go_ret
  exact ⟨rfl, HB.out⟩
end Go.Proofs.YtiibeemjkdipnaaGreatDoor.Batch

/-
  The program's own Same of lists.
-/
namespace Go.Proofs.YtiibeemjkdipnaaGreatDoor.Batch
open Go Go.RowKit
open Go.Proofs.YtiibeemjkdipnaaGreatDoor.Schema

set_option maxRecDepth 100000 in
set_option maxHeartbeats 2000000 in
theorem equalF_any (A : Option Addr) (ca : Nat) (xs : List Lx) (C : Option Addr) (cc : Nat) (ys : List Lx) (hn : xs.length ≤ 1000000000) (hb1 : Big xs) (hb2 : Big ys) (w : World) (hX : Row w A xs) (hY : Row w C ys) :
    Calls Tryz.prog 34 #[.slice A xs.length ca, .slice C ys.length cc, .func (.func 35) #[] #[]] w fun z w' => z = .returned (.bool (sameL xs ys)) ∧ Below w.heap.size w w' := by
  have HX := Lib.hid hX
  have HY := Lib.hid hY
  have HN := Lib.hid hn
  have HB1 := Lib.hid hb1
  have HB2 := Lib.hid hb2
  clear hX hY hn hb1 hb2
  go_enter Tryz.func34, Tryz.ntmps34
  by_cases hl : xs.length = ys.length
  case neg =>
    have HS := Lib.hid (sameL_len hl)
    have z1 : ((xs.length : Int) != (ys.length : Int)) = true := by rw [int_ne, decide_eq_false hl]; rfl
    have z2 : ¬ (xs.length : Int) = (ys.length : Int) := by omega
    clear hl
    go_wp2_with fail
    go_ret
    exact ⟨by rw [HS.out]; rfl, Below.refl _ _⟩
  have HL := Lib.hid hl
  have z1 : ((xs.length : Int) != (ys.length : Int)) = false := by rw [int_ne, decide_eq_true hl]; rfl
  rw [show ys.length = xs.length from hl.symm]
  have z3 : ((xs.length : Int) != (xs.length : Int)) = false := by rw [int_ne, decide_eq_true rfl]; rfl
  clear hl z1
  go_wp2_with fail
  clear z3
  have HI : Hid ((∀ (j : Nat) (h1 : j < xs.length) (h2 : j < ys.length), j < 0 → same xs[j].e ys[j].e = true) ∧ Below w.heap.size w w) := ⟨fun j _ _ h => absurd h (Nat.not_lt_zero _), Below.refl _ _⟩
  go_loopw [17] (fun t wr => ∃ i : Nat, t = .int .i64 i ∧ i ≤ xs.length ∧ Hid ((∀ (j : Nat) (h1 : j < xs.length) (h2 : j < ys.length), j < i → same xs[j].e ys[j].e = true) ∧ Below w.heap.size w wr)) (fun t _ => xs.length - (intOf t).toNat)
  case atStart => exact ⟨0, rfl, Nat.zero_le _, HI⟩
  case round =>
    obtain ⟨i, rfl, hi, HJ⟩ := hrel
    clear HI
    by_cases hlt : i < xs.length
    · have z0 : (0 : Int) ≤ (i : Int) := by omega
      have z1 : (i : Int) < (xs.length : Int) := by omega
      have hlt2 : i < ys.length := by rw [← HL.out]; exact hlt
      have HNX := Lib.hid (fun (h : same xs[i].e ys[i].e = true) (j : Nat) (h1 : j < xs.length) (h2 : j < ys.length) (hji : j < i + 1) => (show same xs[j].e ys[j].e = true from by
        rcases Nat.lt_or_ge j i with h3 | h3
        · exact HJ.out.1 j h1 h2 h3
        · obtain rfl : j = i := by omega
          exact h))
      have HNO := Lib.hid (sameL_no hlt hlt2)
      have HBX := Lib.hid (HB1.out _ (List.getElem_mem hlt))
      have HBY := Lib.hid (HB2.out _ (List.getElem_mem hlt2))
      have HXI := (HX.out.below HJ.out.2).at i hlt
      have HYI := Lib.hid (fun V (hV : Below wr.heap.size wr V) => ((HY.out.below HJ.out.2).below hV).at i hlt2)
      obtain ⟨b, o, rfl, hbl, c0, c1, c2, c3, hat⟩ := HXI
      have HAT := Lib.hid hat
      generalize xs[i] = x at HAT HNX HNO HBX c0 c1 c2 c3
      generalize ys[i] = y at HYI HNX HNO HBY
      clear hbl hat hlt2
      have hb1 := (Below.refl wr.heap.size wr).alloc (Nat.le_refl _) (.cells #[.int .u8 x.e.v, .int .u8 x.e.k, .slice x.A x.e.ns.length x.ca, .slice x.C x.e.ts.length x.cc] 39)
      have HP1 := Lib.hid (show Four _ wr.heap.size _ _ _ _ from box4 wr (.int .u8 x.e.v) (.int .u8 x.e.k) (.slice x.A x.e.ns.length x.ca) (.slice x.C x.e.ts.length x.cc) 39)
      go_upto_region 6 with (fail)
      clear c0 c1 c2 c3
      replace HAT := Lib.hid (HAT.out.below hb1)
      have HYI2 := HYI.out _ hb1
      have HB3 := Lib.hid hb1
      generalize hV1 : wr.alloc (.cells #[.int .u8 x.e.v, .int .u8 x.e.k, .slice x.A x.e.ns.length x.ca, .slice x.C x.e.ts.length x.cc] 39) = V1 at HP1 HAT HYI2 HB3 ⊢
      generalize wr.heap.size = b1 at HP1 ⊢
      clear hb1 hV1
      obtain ⟨b2, o2, rfl, hbl2, d0, d1, d2, d3, hat2⟩ := HYI2
      have hb1 := (Below.refl V1.heap.size V1).alloc (Nat.le_refl _) (.cells #[.int .u8 y.e.v, .int .u8 y.e.k, .slice y.A y.e.ns.length y.ca, .slice y.C y.e.ts.length y.cc] 39)
      have HP2 := Lib.hid (show Four _ V1.heap.size _ _ _ _ from box4 V1 (.int .u8 y.e.v) (.int .u8 y.e.k) (.slice y.A y.e.ns.length y.ca) (.slice y.C y.e.ts.length y.cc) 39)
      go_upto_region 7 with (fail)
      clear d0 d1 d2 d3 hbl2
      replace HAT := Lib.hid (HAT.out.below hb1)
      have HAT2 := Lib.hid (hat2.below hb1)
      replace HP1 := Lib.hid (HP1.out.below hb1)
      replace HB3 := Lib.hid (HB3.out.trans (hb1.mono HB3.out.size))
      generalize hV2 : V1.alloc (.cells #[.int .u8 y.e.v, .int .u8 y.e.k, .slice y.A y.e.ns.length y.ca, .slice y.C y.e.ts.length y.cc] 39) = V2 at HP1 HP2 HAT HAT2 HB3 ⊢
      generalize V1.heap.size = b3 at HP2 ⊢
      clear hb1 hV2 hat2 HYI
      have HC := Lib.hid (same_big x.A x.ca x.C x.cc x.e y.A y.ca y.C y.cc y.e HBX.out.1 HBY.out.1 HBX.out.2 HBY.out.2 V2 HAT.out HAT2.out)
      unfold evV at HC
      obtain ⟨p0, p1, p2, p3⟩ := HP1.out
      obtain ⟨r0, r1, r2, r3⟩ := HP2.out
      go_wp2_with fail
      clear p0 p1 p2 p3 r0 r1 r2 r3
      refine HC.out.mono ?_
      rintro z V3 ⟨rfl, hb⟩
      have HB4 := Lib.hid (HJ.out.2.trans ((HB3.out.trans (hb.mono HB3.out.size)).mono HJ.out.2.size))
      clear hb HC z0 z1
      cases hst : same x.e y.e with
      | true =>
        have HK := Lib.hid (And.intro (HNX.out hst) HB4.out)
        have zk : IntKind.i64.wrap ((i : Int) + 1) = (i : Int) + 1 := by (rw [IntKind.wrap_i64]; have := HN.out; omega)
        clear hst
        go_wp2_with fail
        go_roundw
        case rel => exact ⟨i + 1, by go_num, by omega, HK⟩
        case measure => simp [intOf] <;> omega
      | false =>
        have HNN := Lib.hid (HNO.out hst)
        clear hst
        go_wp2_with fail
        go_ret
        exact ⟨by rw [HNN.out]; rfl, HB4.out⟩
    · have z1 : ¬ (i : Int) < (xs.length : Int) := by omega
      have HYES := Lib.hid (sameL_yes HL.out (fun j h1 h2 => HJ.out.1 j h1 h2 (by omega)))
      go_wp2_with fail
      go_ret
      exact ⟨by rw [HYES.out]; rfl, HJ.out.2⟩
set_option maxHeartbeats 1000000 in
theorem Same_any (A : Option Addr) (ca : Nat) (xs : List Lx) (C : Option Addr) (cc : Nat) (ys : List Lx) (hn : xs.length ≤ 1000000000) (hb1 : Big xs) (hb2 : Big ys) (w : World) (hX : Row w A xs) (hY : Row w C ys) :
    Calls Tryz.prog 14 #[.slice A xs.length ca, .slice C ys.length cc] w fun z w' => z = .returned (.bool (sameL xs ys)) ∧ Below w.heap.size w w' := by
  have HC := Lib.hid (equalF_any A ca xs C cc ys hn hb1 hb2 w hX hY)
  clear hn hb1 hb2 hX hY
  go_enter Tryz.func14, Tryz.ntmps14
  go_wp2_with fail
  refine HC.out.mono ?_
  rintro z W1 ⟨rfl, hb⟩
  have HB := Lib.hid hb
  clear hb
  go_wp2_with fail
  go_ret
  exact ⟨rfl, HB.out⟩
end Go.Proofs.YtiibeemjkdipnaaGreatDoor.Batch
