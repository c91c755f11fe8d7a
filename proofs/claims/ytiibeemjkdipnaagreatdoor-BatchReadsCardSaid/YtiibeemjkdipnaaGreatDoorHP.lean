import Derived.Test.YtiibeemjkdipnaaGreatDoorHI
import Derived.Test.YtiibeemjkdipnaaGreatDoorUR
/-
  Same of lists of events: the program's, and the law's; heavy.
-/
namespace Go.Proofs.YtiibeemjkdipnaaGreatDoor.Batch
open Go Go.RowKit
open Go.Proofs.YtiibeemjkdipnaaGreatDoor.Schema
open Go.Proofs.YtiibeemjkdipnaaGreatDoor.Codec (WeightRes weight_any)
open Go.Proofs.YtiibeemjkdipnaaGreatDoor.Upcast (ev0)

/-- events of whatever length that a slice may have -/
def Big (xs : List Lx) : Prop := ∀ x ∈ xs, x.e.ns.length ≤ 140737488355328 ∧ x.e.ts.length ≤ 140737488355328
def sameL (xs ys : List Lx) : Bool := decide (xs.length = ys.length) && (List.range xs.length).all fun i => same (xs.getD i default).e (ys.getD i default).e
theorem sameL_len {xs ys : List Lx} (h : ¬ xs.length = ys.length) : sameL xs ys = false := by unfold sameL; rw [decide_eq_false h]; rfl
theorem lx_at {xs : List Lx} {i : Nat} (h : i < xs.length) : xs.getD i default = xs[i] := by rw [List.getD_eq_getElem?_getD, List.getElem?_eq_getElem h]; rfl
theorem sameL_no {xs ys : List Lx} {i : Nat} (h : i < xs.length) (h2 : i < ys.length) (hs : same xs[i].e ys[i].e = false) : sameL xs ys = false := by
  unfold sameL
  rw [Bool.and_eq_false_iff]
  right
  rw [List.all_eq_false]
  exact ⟨i, List.mem_range.2 h, by rw [lx_at h, lx_at h2, hs]; decide⟩
theorem sameL_yes {xs ys : List Lx} (hl : xs.length = ys.length) (h : ∀ (j : Nat) (h1 : j < xs.length) (h2 : j < ys.length), same xs[j].e ys[j].e = true) : sameL xs ys = true := by
  unfold sameL
  rw [decide_eq_true hl, Bool.true_and, List.all_eq_true]
  intro j hj
  rw [List.mem_range] at hj
  rw [lx_at hj, lx_at (by omega)]
  exact h j hj (by omega)
theorem sameL_iff {xs ys : List Lx} : sameL xs ys = true ↔ xs.map (·.e) = ys.map (·.e) := by
  constructor
  · intro h
    unfold sameL at h
    rw [Bool.and_eq_true, decide_eq_true_iff, List.all_eq_true] at h
    refine List.ext_getElem (by simpa using h.1) (fun i h1 h2 => ?_)
    rw [List.getElem_map, List.getElem_map]
    rw [List.length_map] at h1 h2
    have := h.2 i (List.mem_range.2 h1)
    rw [lx_at h1, lx_at h2] at this
    exact (Upcast.same_iff _ _).1 this
  · intro h
    have hl : xs.length = ys.length := by have := congrArg List.length h; simpa using this
    refine sameL_yes hl (fun j h1 h2 => (Upcast.same_iff _ _).2 ?_)
    have h3 : (xs.map (·.e))[j]'(by rw [List.length_map]; exact h1) = (ys.map (·.e))[j]'(by rw [List.length_map]; exact h2) := by simp only [h]
    simpa using h3
theorem int_ne (n m : Nat) : ((n : Int) != (m : Int)) = !(decide (n = m)) := by
  by_cases h : n = m
  · subst h; simp
  · rw [decide_eq_false h]; exact bne_iff_ne.2 (by omega)

set_option maxRecDepth 100000 in
set_option maxHeartbeats 2000000 in
/-- the law's same -/
theorem lsame_any (A : Option Addr) (ca : Nat) (xs : List Lx) (C : Option Addr) (cc : Nat) (ys : List Lx) (hn : xs.length ≤ 1000000000) (hb1 : Big xs) (w : World) (hX : Row w A xs) (hY : Row w C ys) :
    Calls Tryz.prog 15 #[.slice A xs.length ca, .slice C ys.length cc] w fun z w' => z = .returned (.bool (sameL xs ys)) ∧ Below w.heap.size w w' := by
  have HX := Lib.hid hX
  have HY := Lib.hid hY
  have HN := Lib.hid hn
  have HB1 := Lib.hid hb1
  clear hX hY hn hb1
  go_enter Tryz.func15, Tryz.ntmps15
  by_cases hl : xs.length = ys.length
  case neg =>
    have HS := Lib.hid (sameL_len hl)
    have z1 : ((xs.length : Int) != (ys.length : Int)) = true := by rw [int_ne, decide_eq_false hl]; rfl
    have z2 : ¬ (xs.length : Int) = (ys.length : Int) := by omega
    clear hl
    go_wp2_with fail
    go_ret
    exact ⟨by rw [HS.out]; rfl, Below.refl _ _⟩
  have HL := Lib.hid hl
  have z1 : ((xs.length : Int) != (ys.length : Int)) = false := by rw [int_ne, decide_eq_true hl]; rfl
  have z2 : (xs.length : Int) = (ys.length : Int) := by omega
  rw [show ys.length = xs.length from hl.symm]
  have z3 : ((xs.length : Int) != (xs.length : Int)) = false := by rw [int_ne, decide_eq_true rfl]; rfl
  clear hl z1 z2
  go_wp2_with fail
  clear z3
  have HI : Hid ((∀ (j : Nat) (h1 : j < xs.length) (h2 : j < ys.length), j < 0 → same xs[j].e ys[j].e = true) ∧ Below w.heap.size w w) := ⟨fun j _ _ h => absurd h (Nat.not_lt_zero _), Below.refl _ _⟩
  go_loopw [5] (fun t wr => ∃ i : Nat, t = .int .i64 i ∧ i ≤ xs.length ∧ Hid ((∀ (j : Nat) (h1 : j < xs.length) (h2 : j < ys.length), j < i → same xs[j].e ys[j].e = true) ∧ Below w.heap.size w wr)) (fun t _ => xs.length - (intOf t).toNat)
  case atStart => exact ⟨0, rfl, Nat.zero_le _, HI⟩
  case round =>
    obtain ⟨i, rfl, hi, HJ⟩ := hrel
    clear HI
    by_cases hlt : i < xs.length
    · have z0 : (0 : Int) ≤ (i : Int) := by omega
      have z1 : (i : Int) < (xs.length : Int) := by omega
      have hlt2 : i < ys.length := by rw [← HL.out]; exact hlt
      have HNX := Lib.hid (fun (h : same xs[i].e ys[i].e = true) (j : Nat) (h1 : j < xs.length) (h2 : j < ys.length) (hji : j < i + 1) => (show same xs[j].e ys[j].e = true from by
        rcases Nat.lt_or_ge j i with h3 | h3
        · exact HJ.out.1 j h1 h2 h3
        · obtain rfl : j = i := by omega
          exact h))
      have HNO := Lib.hid (sameL_no hlt hlt2)
      have HBX := Lib.hid (HB1.out _ (List.getElem_mem hlt))
      obtain ⟨b, o, rfl, hbl, c0, c1, c2, c3, hat⟩ := (HX.out.below HJ.out.2).at i hlt
      obtain ⟨b2, o2, rfl, hbl2, d0, d1, d2, d3, hat2⟩ := (HY.out.below HJ.out.2).at i hlt2
      have HAT := Lib.hid hat
      have HAT2 := Lib.hid hat2
      generalize xs[i] = x at HAT HNX HNO HBX c0 c1 c2 c3
      generalize ys[i] = y at HAT2 HNX HNO d0 d1 d2 d3
      have hc := sameE_big x.A x.ca x.C x.cc x.e y.A y.ca y.C y.cc y.e HBX.out.1 HBX.out.2 wr.drew (HAT.out.below (below_drew _ _)) (HAT2.out.below (below_drew _ _))
      have HC := Lib.hid hc
      unfold evV at HC
      clear hbl hbl2 hat hat2 hc hlt2
      go_upto_region 6 with (fail)
      go_region_with (refine HC.out.mono ?_; rintro z V ⟨rfl, hbV⟩; have HBV := Lib.hid hbV; clear hbV)
      all_goals
        have HB3 := Lib.hid (below_step HJ.out.2 ((below_drew wr.heap.size wr).trans HBV.out))
        clear c0 c1 c2 c3 d0 d1 d2 d3 z0 z1
        cases hst : same x.e y.e with
        | true =>
          have HK := Lib.hid (And.intro (HNX.out hst) HB3.out)
          have zk : IntKind.i64.wrap ((i : Int) + 1) = (i : Int) + 1 := by (rw [IntKind.wrap_i64]; have := HN.out; omega)
          clear hst
          go_wp2_with fail
          go_roundw
          case rel => exact ⟨i + 1, by go_num, by omega, HK⟩
          case measure => simp [intOf] <;> omega
        | false =>
          have HNN := Lib.hid (HNO.out hst)
          clear hst
          go_wp2_with fail
          go_ret
          exact ⟨by rw [HNN.out]; rfl, HB3.out⟩
    · have z1 : ¬ (i : Int) < (xs.length : Int) := by omega
      have HYES := Lib.hid (sameL_yes HL.out (fun j h1 h2 => HJ.out.1 j h1 h2 (by omega)))
      go_wp2_with fail
      go_ret
      exact ⟨by rw [HYES.out]; rfl, HJ.out.2⟩
end Go.Proofs.YtiibeemjkdipnaaGreatDoor.Batch

/-
  What the laws of layer 8 ask first: heavy; event, list, says, refused; the examples.
-/
namespace Go.Proofs.YtiibeemjkdipnaaGreatDoor.Batch
open Go Go.RowKit
open Go.Proofs.YtiibeemjkdipnaaGreatDoor.Schema
open Go.Proofs.YtiibeemjkdipnaaGreatDoor.Codec (WeightRes weight_any)
open Go.Proofs.YtiibeemjkdipnaaGreatDoor.Upcast (ev0 ev_lit row_one lwX event_any)

theorem list_any (A : Option Addr) (n c : Nat) (w : World) :
    Calls Tryz.prog 22 #[.slice A n c] w fun z w' => z = .returned (.slice A n c) ∧ Below w.heap.size w w' := by
  go_enter Tryz.func22, Tryz.ntmps22
  go_wp2_with fail
  go_ret
  exact ⟨rfl, Below.refl _ _⟩
theorem toList_self (s : ByteArray) : (s.toList == s.toList) = true := by simp
set_option maxHeartbeats 1000000 in
theorem says_yes (D : Option Addr) (cap : Nat) (xs : List Lx) (v : Nat) (want : ByteArray) (h1 : sayT (xs.map (·.e)) v = want) (h2 : sayN (xs.map (·.e)) v = 0) (hv : v < 256) (hn : xs.length ≤ 100000) (hsm : ∀ x ∈ xs, x.e.ns.length ≤ 140737488355328) (w : World) (hX : Row w D xs) (E : Env w) :
    Calls Tryz.prog 24 #[.slice D xs.length cap, .int .u8 (v : Int), .string want] w fun z w' => z = .returned (.bool true) ∧ Below w.heap.size w w' := by
  have hc := Say_any D cap xs v hv hn hsm w hX E
  rw [h1, h2] at hc
  have HC := Lib.hid hc
  have z1 := toList_self want
  clear hc hX E hsm h1 h2
  go_enter Tryz.func24, Tryz.ntmps24
  go_wp2_with fail
  refine HC.out.mono ?_
  rintro z W1 ⟨rfl, hb⟩
  have HB := Lib.hid hb
  clear hb
  go_wp2_with fail
  go_ret
  exact ⟨rfl, HB.out⟩
set_option maxHeartbeats 1000000 in
theorem refused_yes (s : ByteArray) (k : Nat) (h : btW s = k) (hk : ¬ k = 0) (hs : s.size ≤ 1000000000000) (w : World) (E : Env w) :
    Calls Tryz.prog 25 #[.string s, .int .i64 (k : Int)] w fun z w' => z = .returned (.bool true) ∧ Below w.heap.size w w' := by
  have h0 : ¬ btW s = 0 := by rw [h]; exact hk
  have HD := Lib.hid (Decode_any s hs w E)
  have hN : newN s = k := (if_neg h0).trans h
  have hT : newT s = ⟨#[]⟩ := if_neg h0
  have hL : btL s = [] := if_neg h0
  have HE := Lib.hid E
  have HC := Lib.hid (fun V (hV : Below w.heap.size w V) => (by have hc := Newest_any s hs V (E.below hV); rw [hN, hT] at hc; exact hc : Calls Tryz.prog 16 #[.string s] V fun z w' => z = .returned (.tuple #[.string ⟨#[]⟩, .int .i64 (k : Int)]) ∧ Below V.heap.size V w'))
  have HL := Lib.hid hL
  have HH := Lib.hid h
  clear h h0 hN hT hL E hk
  go_enter Tryz.func25, Tryz.ntmps25
  go_wp2_with fail
  refine HD.out.mono ?_
  rintro z W1 ⟨ys, A, c, rfl, hy, -, -, -, hb⟩
  rw [HL.out] at hy
  obtain rfl := List.map_eq_nil_iff.1 hy
  rw [HH.out]
  have HB := Lib.hid hb
  clear hb hy
  go_wp2_with fail
  refine (HC.out W1 HB.out).mono ?_
  rintro z W2 ⟨rfl, hb⟩
  have HB2 := Lib.hid (below_step HB.out hb)
  clear hb
  go_wp2_with fail
  go_ret
  exact ⟨rfl, HB2.out⟩

/-! ### the examples -/
def e50 : Ev := ⟨3, 20, [50], []⟩
def e55 : Ev := ⟨3, 20, [55], []⟩
theorem x1 : refN [e50] = 0 := by decide +kernel
theorem x2 : encT [e50] = ⟨#[3, 1, 20, 50]⟩ := by decide +kernel
theorem x3 : sayT [e50] 1 = ⟨#[1, 1, 20, 5]⟩ ∧ sayN [e50] 1 = 0 := by decide +kernel
theorem x4 : sayT [e55] 1 = ⟨#[3, 1, 20, 55]⟩ ∧ sayN [e55] 1 = 0 := by decide +kernel
theorem x5 : btW ⟨#[3, 0]⟩ = 4 := by decide +kernel
theorem x6 : btW ⟨#[3, 41]⟩ = 40 := by decide +kernel
end Go.Proofs.YtiibeemjkdipnaaGreatDoor.Batch

/-
  The examples of layer 8: works.
-/
namespace Go.Proofs.YtiibeemjkdipnaaGreatDoor.Batch
open Go Go.RowKit
open Go.Proofs.YtiibeemjkdipnaaGreatDoor.Schema
open Go.Proofs.YtiibeemjkdipnaaGreatDoor.Upcast (ev0 ev_lit row_one event_any)

theorem lit50 (w : World) : EvAt (w.alloc (.cells #[.int .i64 50] 2)) (some ⟨w.heap.size, 0, none⟩) 1 none 0 e50 := ev_lit w 3 20 [50] (by decide) (by decide) (by decide)
theorem lit55 (w : World) : EvAt (w.alloc (.cells #[.int .i64 55] 2)) (some ⟨w.heap.size, 0, none⟩) 1 none 0 e55 := ev_lit w 3 20 [55] (by decide) (by decide) (by decide)
def xl (q : Nat) (e : Ev) : Lx := ⟨some ⟨q, 0, none⟩, 1, none, 0, e⟩
theorem row50 (w : World) (q : Nat) (h : EvAt w (some ⟨q, 0, none⟩) 1 none 0 e50) : Row (w.alloc (.cells #[.int .u8 3, .int .u8 20, .slice (some ⟨q, 0, none⟩) 1 1, .slice none 0 0] 39)) (some ⟨w.heap.size, 0, none⟩) [xl q e50] := row_one w (xl q e50) h
theorem row55 (w : World) (q : Nat) (h : EvAt w (some ⟨q, 0, none⟩) 1 none 0 e55) : Row (w.alloc (.cells #[.int .u8 3, .int .u8 20, .slice (some ⟨q, 0, none⟩) 1 1, .slice none 0 0] 39)) (some ⟨w.heap.size, 0, none⟩) [xl q e55] := row_one w (xl q e55) h
theorem one_small (q : Nat) (e : Ev) (h : e.ns.length ≤ 10) : ∀ x ∈ [xl q e], x.e.ns.length ≤ 140737488355328 := fun x hx => by rw [List.mem_singleton.1 hx]; show e.ns.length ≤ _; omega
theorem enc50 (w : World) (A : Option Addr) (q : Nat) (hX : Row w A [xl q e50]) (E : Env w) : Calls Tryz.prog 8 #[.slice A 1 1] w fun z w' => z = .returned (.tuple #[.string ⟨#[3, 1, 20, 50]⟩, .int .i64 0]) ∧ Below w.heap.size w w' := by
  have h := Encode_any A 1 [xl q e50] (by show 1 ≤ _; omega) (one_small q e50 (by decide)) w hX E
  rw [show [xl q e50].map (·.e) = [e50] from rfl, x1, x2] at h
  exact h
theorem enc_none (w : World) (E : Env w) : Calls Tryz.prog 8 #[.slice none 0 0] w fun z w' => z = .returned (.tuple #[.string ⟨#[]⟩, .int .i64 4]) ∧ Below w.heap.size w w' :=
  Encode_any none 0 [] (by decide) (fun x hx => by cases hx) w (Row.nil _ _) E
theorem says50 (w : World) (A : Option Addr) (q : Nat) (hX : Row w A [xl q e50]) (E : Env w) : Calls Tryz.prog 24 #[.slice A 1 1, .int .u8 1, .string ⟨#[1, 1, 20, 5]⟩] w fun z w' => z = .returned (.bool true) ∧ Below w.heap.size w w' :=
  says_yes A 1 [xl q e50] 1 _ x3.1 x3.2 (by decide) (by show 1 ≤ _; omega) (one_small q e50 (by decide)) w hX E
theorem says55 (w : World) (A : Option Addr) (q : Nat) (hX : Row w A [xl q e55]) (E : Env w) : Calls Tryz.prog 24 #[.slice A 1 1, .int .u8 1, .string ⟨#[3, 1, 20, 55]⟩] w fun z w' => z = .returned (.bool true) ∧ Below w.heap.size w w' :=
  says_yes A 1 [xl q e55] 1 _ x4.1 x4.2 (by decide) (by show 1 ≤ _; omega) (one_small q e55 (by decide)) w hX E
theorem str_eq4 : (ByteArray.toList ⟨#[3, 1, 20, 50]⟩ == ByteArray.toList ⟨#[3, 1, 20, 50]⟩) = true := toList_self _

set_option maxRecDepth 100000 in
set_option maxHeartbeats 2000000 in
theorem works_any (w : World) (E : Env w) : Calls Tryz.prog 6 #[] w fun z w' => z = .returned (.bool true) ∧ Below w.heap.size w w' := by
  have HE := Lib.hid E
  clear E
  go_enter Tryz.func6, Tryz.ntmps6
  go_wp2_with fail
  have hb := (Below.refl w.heap.size w).alloc (Nat.le_refl _) (.cells #[.int .i64 50] 2)
  refine (event_any 3 20 _ 1 1 _).mono ?_
  rintro z W1 ⟨rfl, hb1⟩
  have HA := Lib.hid ((lit50 w).below hb1)
  have HB := Lib.hid (below_step hb hb1)
  clear hb hb1
  generalize w.heap.size = q at HA ⊢
  go_wp2_with fail
  have hb := (Below.refl W1.heap.size W1).alloc (Nat.le_refl _) (.cells #[.int .u8 3, .int .u8 20, .slice (some ⟨q, 0, none⟩) 1 1, .slice none 0 0] 39)
  refine (list_any _ 1 1 _).mono ?_
  rintro z W2 ⟨rfl, hb1⟩
  have HR := Lib.hid ((row50 W1 q HA.out).below hb1)
  replace HB := Lib.hid (below_step HB.out (below_step hb hb1))
  clear hb hb1 HA
  generalize W1.heap.size = q1 at HR ⊢
  have hc := enc50 W2 _ q HR.out (HE.out.below HB.out)
  go_wp2_with fail
  refine hc.mono ?_
  rintro z W3 ⟨rfl, hb⟩
  replace HR := Lib.hid (HR.out.below hb)
  replace HB := Lib.hid (below_step HB.out hb)
  clear hb hc
  go_wp2_with fail
  refine (enc_none W3 (HE.out.below HB.out)).mono ?_
  rintro z W4 ⟨rfl, hb⟩
  replace HR := Lib.hid (HR.out.below hb)
  replace HB := Lib.hid (below_step HB.out hb)
  clear hb
  have hs := str_eq4
  go_wp2_with fail
  refine (says50 W4 _ q HR.out (HE.out.below HB.out)).mono ?_
  rintro z W5 ⟨rfl, hb⟩
  replace HB := Lib.hid (below_step HB.out hb)
  clear hb HR hs
  go_wp2_with fail
  have hb := (Below.refl W5.heap.size W5).alloc (Nat.le_refl _) (.cells #[.int .i64 55] 2)
  refine (event_any 3 20 _ 1 1 _).mono ?_
  rintro z W6 ⟨rfl, hb1⟩
  have HA := Lib.hid ((lit55 W5).below hb1)
  replace HB := Lib.hid (below_step HB.out (below_step hb hb1))
  clear hb hb1
  generalize W5.heap.size = q2 at HA ⊢
  go_wp2_with fail
  have hb := (Below.refl W6.heap.size W6).alloc (Nat.le_refl _) (.cells #[.int .u8 3, .int .u8 20, .slice (some ⟨q2, 0, none⟩) 1 1, .slice none 0 0] 39)
  refine (list_any _ 1 1 _).mono ?_
  rintro z W7 ⟨rfl, hb1⟩
  have HR := Lib.hid ((row55 W6 q2 HA.out).below hb1)
  replace HB := Lib.hid (below_step HB.out (below_step hb hb1))
  clear hb hb1 HA
  generalize W6.heap.size = q3 at HR ⊢
  have hc := says55 W7 _ q2 HR.out (HE.out.below HB.out)
  go_wp2_with fail
  refine hc.mono ?_
  rintro z W8 ⟨rfl, hb⟩
  replace HB := Lib.hid (below_step HB.out hb)
  clear hb hc HR
  go_wp2_with fail
  refine (refused_yes ⟨#[3, 0]⟩ 4 x5 (by decide) (by decide) W8 (HE.out.below HB.out)).mono ?_
  rintro z W9 ⟨rfl, hb⟩
  replace HB := Lib.hid (below_step HB.out hb)
  clear hb
  go_wp2_with fail
  refine (refused_yes ⟨#[3, 41]⟩ 40 x6 (by decide) (by decide) W9 (HE.out.below HB.out)).mono ?_
  rintro z W10 ⟨rfl, hb⟩
  replace HB := Lib.hid (below_step HB.out hb)
  clear hb
  go_wp2_with fail
  go_ret
  exact ⟨rfl, HB.out⟩
end Go.Proofs.YtiibeemjkdipnaaGreatDoor.Batch

/-
  The program's own Same of lists.
-/
namespace Go.Proofs.YtiibeemjkdipnaaGreatDoor.Batch
open Go Go.RowKit
open Go.Proofs.YtiibeemjkdipnaaGreatDoor.Schema

end Go.Proofs.YtiibeemjkdipnaaGreatDoor.Batch
