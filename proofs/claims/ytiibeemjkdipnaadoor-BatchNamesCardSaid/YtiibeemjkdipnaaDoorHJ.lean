import Derived.Test.YtiibeemjkdipnaaDoorHI
/-
  Same of lists of events: the program's, and the law's; heavy.
-/
namespace Go.Proofs.YtiibeemjkdipnaaDoor.Batch
open Go Go.RowKit
open Go.Proofs.YtiibeemjkdipnaaDoor.Schema
open Go.Proofs.YtiibeemjkdipnaaDoor.Codec (WeightRes weight_any)
open Go.Proofs.YtiibeemjkdipnaaDoor.Upcast (ev0)

/-- events of whatever length that a slice may have -/
def Big (xs : List Lx) : Prop := ∀ x ∈ xs, x.e.ns.length ≤ 140737488355328 ∧ x.e.ts.length ≤ 140737488355328
def sameL (xs ys : List Lx) : Bool := decide (xs.length = ys.length) && (List.range xs.length).all fun i => same (xs.getD i default).e (ys.getD i default).e
theorem sameL_len {xs ys : List Lx} (h : ¬ xs.length = ys.length) : sameL xs ys = false := by unfold sameL; rw [decide_eq_false h]; rfl
theorem lx_at {xs : List Lx} {i : Nat} (h : i < xs.length) : xs.getD i default = xs[i] := by rw [List.getD_eq_getElem?_getD, List.getElem?_eq_getElem h]; rfl
theorem sameL_no {xs ys : List Lx} {i : Nat} (h : i < xs.length) (h2 : i < ys.length) (hs : same xs[i].e ys[i].e = false) : sameL xs ys = false := by
  unfold sameL
  rw [Bool.and_eq_false_iff]
  right
  rw [List.all_eq_false]
  exact ⟨i, List.mem_range.2 h, by rw [lx_at h, lx_at h2, hs]; decide⟩
theorem sameL_yes {xs ys : List Lx} (hl : xs.length = ys.length) (h : ∀ (j : Nat) (h1 : j < xs.length) (h2 : j < ys.length), same xs[j].e ys[j].e = true) : sameL xs ys = true := by
  unfold sameL
  rw [decide_eq_true hl, Bool.true_and, List.all_eq_true]
  intro j hj
  rw [List.mem_range] at hj
  rw [lx_at hj, lx_at (by omega)]
  exact h j hj (by omega)
theorem sameL_iff {xs ys : List Lx} : sameL xs ys = true ↔ xs.map (·.e) = ys.map (·.e) := by
  constructor
  · intro h
    unfold sameL at h
    rw [Bool.and_eq_true, decide_eq_true_iff, List.all_eq_true] at h
    refine List.ext_getElem (by simpa using h.1) (fun i h1 h2 => ?_)
    rw [List.getElem_map, List.getElem_map]
    rw [List.length_map] at h1 h2
    have := h.2 i (List.mem_range.2 h1)
    rw [lx_at h1, lx_at h2] at this
    exact (Upcast.same_iff _ _).1 this
  · intro h
    have hl : xs.length = ys.length := by have := congrArg List.length h; simpa using this
    refine sameL_yes hl (fun j h1 h2 => (Upcast.same_iff _ _).2 ?_)
    have h3 : (xs.map (·.e))[j]'(by rw [List.length_map]; exact h1) = (ys.map (·.e))[j]'(by rw [List.length_map]; exact h2) := by simp only [h]
    simpa using h3
theorem int_ne (n m : Nat) : ((n : Int) != (m : Int)) = !(decide (n = m)) := by
  by_cases h : n = m
  · subst h; simp
  · rw [decide_eq_false h]; exact bne_iff_ne.2 (by omega)

set_option maxRecDepth 100000 in
set_option maxHeartbeats 2000000 in
/-- the law's same -/
theorem lsame_any (A : Option Addr) (ca : Nat) (xs : List Lx) (C : Option Addr) (cc : Nat) (ys : List Lx) (hn : xs.length ≤ 1000000000) (hb1 : Big xs) (w : World) (hX : Row w A xs) (hY : Row w C ys) :
    Calls Tryd.prog 19 #[.slice A xs.length ca, .slice C ys.length cc] w fun z w' => z = .returned (.bool (sameL xs ys)) ∧ Below w.heap.size w w' := by
  have HX := Lib.hid hX
  have HY := Lib.hid hY
  have HN := Lib.hid hn
  have HB1 := Lib.hid hb1
  clear hX hY hn hb1
  go_enter Tryd.func19, Tryd.ntmps19
  by_cases hl : xs.length = ys.length
  case neg =>
    have HS := Lib.hid (sameL_len hl)
    have z1 : ((xs.length : Int) != (ys.length : Int)) = true := by rw [int_ne, decide_eq_false hl]; rfl
    have z2 : ¬ (xs.length : Int) = (ys.length : Int) := by omega
    clear hl
    go_wp2_with fail
    go_ret
    exact ⟨by rw [HS.out]; rfl, Below.refl _ _⟩
  have HL := Lib.hid hl
  have z1 : ((xs.length : Int) != (ys.length : Int)) = false := by rw [int_ne, decide_eq_true hl]; rfl
  have z2 : (xs.length : Int) = (ys.length : Int) := by omega
  rw [show ys.length = xs.length from hl.symm]
  have z3 : ((xs.length : Int) != (xs.length : Int)) = false := by rw [int_ne, decide_eq_true rfl]; rfl
  clear hl z1 z2
  go_wp2_with fail
  clear z3
  have HI : Hid ((∀ (j : Nat) (h1 : j < xs.length) (h2 : j < ys.length), j < 0 → same xs[j].e ys[j].e = true) ∧ Below w.heap.size w w) := ⟨fun j _ _ h => absurd h (Nat.not_lt_zero _), Below.refl _ _⟩
  go_loopw [5] (fun t wr => ∃ i : Nat, t = .int .i64 i ∧ i ≤ xs.length ∧ Hid ((∀ (j : Nat) (h1 : j < xs.length) (h2 : j < ys.length), j < i → same xs[j].e ys[j].e = true) ∧ Below w.heap.size w wr)) (fun t _ => xs.length - (intOf t).toNat)
  case atStart => exact ⟨0, rfl, Nat.zero_le _, HI⟩
  case round =>
    obtain ⟨i, rfl, hi, HJ⟩ := hrel
    clear HI
    by_cases hlt : i < xs.length
    · have z0 : (0 : Int) ≤ (i : Int) := by omega
      have z1 : (i : Int) < (xs.length : Int) := by omega
      have hlt2 : i < ys.length := by rw [← HL.out]; exact hlt
      have HNX := Lib.hid (fun (h : same xs[i].e ys[i].e = true) (j : Nat) (h1 : j < xs.length) (h2 : j < ys.length) (hji : j < i + 1) => (show same xs[j].e ys[j].e = true from by
        rcases Nat.lt_or_ge j i with h3 | h3
        · exact HJ.out.1 j h1 h2 h3
        · obtain rfl : j = i := by omega
          exact h))
      have HNO := Lib.hid (sameL_no hlt hlt2)
      have HBX := Lib.hid (HB1.out _ (List.getElem_mem hlt))
      obtain ⟨b, o, rfl, hbl, c0, c1, c2, c3, hat⟩ := (HX.out.below HJ.out.2).at i hlt
      obtain ⟨b2, o2, rfl, hbl2, d0, d1, d2, d3, hat2⟩ := (HY.out.below HJ.out.2).at i hlt2
      have HAT := Lib.hid hat
      have HAT2 := Lib.hid hat2
      generalize xs[i] = x at HAT HNX HNO HBX c0 c1 c2 c3
      generalize ys[i] = y at HAT2 HNX HNO d0 d1 d2 d3
      have hc := sameE_big x.A x.ca x.C x.cc x.e y.A y.ca y.C y.cc y.e HBX.out.1 HBX.out.2 wr.drew (HAT.out.below (below_drew _ _)) (HAT2.out.below (below_drew _ _))
      have HC := Lib.hid hc
      unfold evV at HC
      clear hbl hbl2 hat hat2 hc hlt2
      go_upto_region 6 with (fail)
      go_region_with (refine HC.out.mono ?_; rintro z V ⟨rfl, hbV⟩; have HBV := Lib.hid hbV; clear hbV)
      all_goals
        have HB3 := Lib.hid (below_step HJ.out.2 ((below_drew wr.heap.size wr).trans HBV.out))
        clear c0 c1 c2 c3 d0 d1 d2 d3 z0 z1
        cases hst : same x.e y.e with
        | true =>
          have HK := Lib.hid (And.intro (HNX.out hst) HB3.out)
          have zk : IntKind.i64.wrap ((i : Int) + 1) = (i : Int) + 1 := by (rw [IntKind.wrap_i64]; have := HN.out; omega)
          clear hst
          go_wp2_with fail
          go_roundw
          case rel => exact ⟨i + 1, by go_num, by omega, HK⟩
          case measure => simp [intOf] <;> omega
        | false =>
          have HNN := Lib.hid (HNO.out hst)
          clear hst
          go_wp2_with fail
          go_ret
          exact ⟨by rw [HNN.out]; rfl, HB3.out⟩
    · have z1 : ¬ (i : Int) < (xs.length : Int) := by omega
      have HYES := Lib.hid (sameL_yes HL.out (fun j h1 h2 => HJ.out.1 j h1 h2 (by omega)))
      go_wp2_with fail
      go_ret
      exact ⟨by rw [HYES.out]; rfl, HJ.out.2⟩
end Go.Proofs.YtiibeemjkdipnaaDoor.Batch
