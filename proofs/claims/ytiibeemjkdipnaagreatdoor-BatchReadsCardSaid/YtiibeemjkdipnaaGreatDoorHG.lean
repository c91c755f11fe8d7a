import Derived.Test.YtiibeemjkdipnaaGreatDoorHF
/-
  IndexFunc, ContainsFunc at what keeps an event from a batch; refusal; May.
-/
namespace Go.Proofs.YtiibeemjkdipnaaGreatDoor.Batch
open Go Go.RowKit
open Go.Proofs.YtiibeemjkdipnaaGreatDoor.Schema
open Go.Proofs.YtiibeemjkdipnaaGreatDoor.Upcast (ev0)

/-- at some place, or nowhere -/
def IndexRes (v : Nat) (xs : List Lx) (w : World) (z : Ending) (w' : World) : Prop := ∃ i : Int, z = .returned (.int .i64 i) ∧ ((∃ k : Nat, i = (k : Int) ∧ ∃ h : k < xs.length, strayB v xs[k].e = true) ∨ (i = -1 ∧ ∀ x ∈ xs, strayB v x.e = false)) ∧ Below w.heap.size w w'

set_option maxRecDepth 100000 in
set_option maxHeartbeats 4000000 in
theorem index_any (D : Option Addr) (cap : Nat) (xs : List Lx) (q : Nat) (h1 : 0 < xs.length) (hn : xs.length ≤ 100000) (hsm : ∀ x ∈ xs, x.e.ns.length ≤ 140737488355328) (w : World) (hX : Row w D xs) (hq : w.cell? ⟨q, 0, none⟩ = some (.slice D xs.length cap)) (E : Env w) :
    Calls Tryz.prog 71 #[.slice D xs.length cap, .func (.func 41) #[] #[.pointer (some ⟨q, 0, none⟩)]] w (IndexRes (vOf (xs.map (·.e))) xs w) := by
  have HE := Lib.hid E
  have HX := Lib.hid hX
  have HQ := Lib.hid hq
  have HN := Lib.hid hn
  have HSM := Lib.hid hsm
  have H1 := Lib.hid h1
  clear E hX hq hn hsm h1
  have HS := Lib.hid (fun (x : Lx) (hx : x ∈ xs) (V : World) (hV : Below w.heap.size w V) => stray_any x.A x.ca x.C x.cc x.e D cap xs q (HSM.out x hx) H1.out V ((HX.out.below hV).2 x hx) (HX.out.below hV) (Schema.cell_kept HQ.out hV) (HE.out.below hV))
  generalize vOf (xs.map (·.e)) = v0 at HS ⊢
  go_enter Tryz.func71, Tryz.ntmps71
  go_wp2_with fail
  have HI : Hid ((∀ (j : Nat) (hj : j < xs.length), j < 0 → strayB v0 xs[j].e = false) ∧ Below w.heap.size w w) := ⟨fun j _ h => absurd h (Nat.not_lt_zero _), Below.refl _ _⟩
  go_loopw [8] (fun t wr => ∃ i : Nat, t = .int .i64 i ∧ i ≤ xs.length ∧ Hid ((∀ (j : Nat) (hj : j < xs.length), j < i → strayB v0 xs[j].e = false) ∧ Below w.heap.size w wr)) (fun t _ => xs.length - (intOf t).toNat)
  case atStart => exact ⟨0, rfl, Nat.zero_le _, HI⟩
  case round =>
    obtain ⟨i, rfl, hi, HJ⟩ := hrel
    clear HI
    by_cases hlt : i < xs.length
    · have z0 : (0 : Int) ≤ (i : Int) := by omega
      have z1 : (i : Int) < (xs.length : Int) := by omega
      have HC := Lib.hid (HS.out xs[i] (List.getElem_mem hlt) wr HJ.out.2)
      have HNX := Lib.hid (fun (h : strayB v0 xs[i].e = false) (j : Nat) (hj : j < xs.length) (hji : j < i + 1) => (show strayB v0 xs[j].e = false from by
        rcases Nat.lt_or_ge j i with h2 | h2
        · exact HJ.out.1 j hj h2
        · obtain rfl : j = i := by omega
          exact h))
      have HYES := Lib.hid (fun (h : strayB v0 xs[i].e = true) => (⟨i, rfl, hlt, h⟩ : ∃ k : Nat, (i : Int) = (k : Int) ∧ ∃ h : k < xs.length, strayB v0 xs[k].e = true))
      obtain ⟨b, o, rfl, hbl, c0, c1, c2, c3, -⟩ := (HX.out.below HJ.out.2).at i hlt
      generalize xs[i] = x at HC HNX HYES c0 c1 c2 c3
      unfold evV at HC
      clear hbl
      go_wp2_with fail
      clear c0 c1 c2 c3
      refine HC.out.mono ?_
      rintro z W1 ⟨rfl, hb⟩
      have HB1 := Lib.hid (below_step HJ.out.2 hb)
      clear hb z0 z1
      cases hst : strayB v0 x.e with
      | true =>
        have HY := Lib.hid (HYES.out hst)
        clear hst
        go_wp2_with fail
        go_ret
        exact ⟨i, rfl, Or.inl HY.out, HB1.out⟩
      | false =>
        have HK := Lib.hid (And.intro (HNX.out hst) HB1.out)
        have zk : IntKind.i64.wrap ((i : Int) + 1) = (i : Int) + 1 := by (rw [IntKind.wrap_i64]; have := HN.out; omega)
        clear hst
        go_wp2_with fail
        go_roundw
        case rel => exact ⟨i + 1, by go_num, by omega, HK⟩
        case measure => simp [intOf] <;> omega
    · have z1 : ¬ (i : Int) < (xs.length : Int) := by omega
      have HNO := Lib.hid (show ∀ x ∈ xs, strayB v0 x.e = false from fun x hx => by
        obtain ⟨j, hj, rfl⟩ := List.getElem_of_mem hx
        exact HJ.out.1 j hj (by omega))
      go_wp2_with fail
      go_ret
      exact ⟨-1, rfl, Or.inr ⟨rfl, HNO.out⟩, HJ.out.2⟩

/-- is one of them out of place? -/
def anyStray (v : Nat) (xs : List Lx) : Bool := xs.any fun x => strayB v x.e
set_option maxRecDepth 100000 in
set_option maxHeartbeats 4000000 in
theorem contains_any (D : Option Addr) (cap : Nat) (xs : List Lx) (q : Nat) (h1 : 0 < xs.length) (hn : xs.length ≤ 100000) (hsm : ∀ x ∈ xs, x.e.ns.length ≤ 140737488355328) (w : World) (hX : Row w D xs) (hq : w.cell? ⟨q, 0, none⟩ = some (.slice D xs.length cap)) (E : Env w) :
    Calls Tryz.prog 43 #[.slice D xs.length cap, .func (.func 41) #[] #[.pointer (some ⟨q, 0, none⟩)]] w fun z w' => z = .returned (.bool (anyStray (vOf (xs.map (·.e))) xs)) ∧ Below w.heap.size w w' := by
  have HC := Lib.hid (index_any D cap xs q h1 hn hsm w hX hq E)
  clear hX hq hn hsm h1 E
  go_enter Tryz.func43, Tryz.ntmps43
  go_wp2_with fail
  refine HC.out.mono ?_
  rintro z W1 ⟨i, rfl, hi, hb⟩
  rcases hi with ⟨k, rfl, hk, hs⟩ | ⟨rfl, hs⟩
  · have HA := Lib.hid (show anyStray (vOf (xs.map (·.e))) xs = true from List.any_eq_true.2 ⟨_, List.getElem_mem hk, hs⟩)
    have z1 : decide ((k : Int) ≥ 0) = true := decide_eq_true (by omega)
    have z2 : (0 : Int) ≤ (k : Int) := by omega
    clear hk hs
    go_wp2_with fail
    go_ret
    exact ⟨by rw [HA.out]; rfl, hb⟩
  · have HA := Lib.hid (show anyStray (vOf (xs.map (·.e))) xs = false from by
      unfold anyStray
      rw [List.any_eq_false]
      exact fun x hx => by rw [hs x hx]; decide)
    clear hs
    go_wp2_with fail
    go_ret
    exact ⟨by rw [HA.out]; rfl, hb⟩
theorem refN_many {xs : List Lx} (h : 40 < xs.length) : refN (xs.map (·.e)) = 40 := by unfold refN; rw [List.length_map, if_pos h]
theorem refN_none {xs : List Lx} (h : xs.length = 0) : refN (xs.map (·.e)) = 4 := by
  obtain rfl := List.eq_nil_of_length_eq_zero h
  rfl
theorem refN_some {xs : List Lx} (h0 : 0 < xs.length) (h : xs.length ≤ 40) : refN (xs.map (·.e)) = if anyStray (vOf (xs.map (·.e))) xs then 4 else 0 := by
  unfold refN
  rw [List.length_map, if_neg (by omega)]
  have : mayL (xs.map (·.e)) = !(anyStray (vOf (xs.map (·.e))) xs) := by
    unfold mayL anyStray strayB
    rw [List.length_map, decide_eq_true (show 1 ≤ xs.length by omega), decide_eq_true h, List.all_map, List.all_eq_not_any_not]
    simp only [Bool.true_and]
    congr 1
    apply List.any_congr rfl
    intro x
    simp only [Function.comp]
    cases decide (x.e.v = vOf (xs.map (·.e))) <;> cases may x.e <;> rfl
  rw [this]
  cases anyStray (vOf (xs.map (·.e))) xs <;> rfl

set_option maxRecDepth 100000 in
set_option maxHeartbeats 4000000 in
theorem refusal_any (D : Option Addr) (cap : Nat) (xs : List Lx) (hn : xs.length ≤ 1000000000) (hsm : ∀ x ∈ xs, x.e.ns.length ≤ 140737488355328) (w : World) (hX : Row w D xs) (E : Env w) :
    Calls Tryz.prog 27 #[.slice D xs.length cap] w fun z w' => z = .returned (.int .i64 (refN (xs.map (·.e)) : Int)) ∧ Below w.heap.size w w' := by
  have hb := (Below.refl w.heap.size w).alloc (Nat.le_refl _) (.cells #[.slice D xs.length cap] 22)
  have HB := Lib.hid hb
  have HE := Lib.hid (E.below hb)
  have HX := Lib.hid (hX.below hb)
  have HSM := Lib.hid hsm
  have HQ := Lib.hid (Boxed.new w 22 (.slice D xs.length cap)).cell
  clear hb E hX hsm
  go_enter Tryz.func27, Tryz.ntmps27
  go_upto_region 1 with (fail)
  generalize w.alloc (.cells #[.slice D xs.length cap] 22) = W at HB HE HX HQ ⊢
  have q0 := HQ.out
  have hmf : ∀ (fn : Fn) (first cap : Array Value) (w : World), (Instr.makeFunc fn first cap).run Tryz.prog w = .ok (.func fn first cap) w := fun _ _ _ _ => rfl
  by_cases h40 : 40 < xs.length
  · have z1 : (40 : Int) < (xs.length : Int) := by omega
    have HR := Lib.hid (refN_many h40)
    clear h40
    go_wp2_with fail
    go_ret
    exact ⟨by rw [HR.out]; rfl, HB.out⟩
  · have z1 : ¬ (40 : Int) < (xs.length : Int) := by omega
    by_cases h0 : xs.length = 0
    · have HR := Lib.hid (refN_none h0)
      have z2 : ((xs.length : Int) == 0) = true := by rw [h0]; rfl
      have z3 : (xs.length : Int) = 0 := by omega
      clear h40
      go_wp2_with fail
      all_goals (go_ret; exact ⟨by rw [HR.out]; rfl, HB.out⟩)
    · have hR := refN_some (xs := xs) (by omega) (by omega)
      have HC := Lib.hid (contains_any D cap xs w.heap.size (by omega) (by omega) HSM.out W HX.out HQ.out HE.out)
      generalize anyStray (vOf (xs.map (·.e))) xs = st at hR HC
      have HR := Lib.hid hR
      obtain ⟨q1, q2, q3, q4, q5⟩ := nat_ne h0
      clear hR h40 h0
      go_wp2_with fail
      refine HC.out.mono ?_
      rintro z W1 ⟨rfl, hb⟩
      have HB1 := Lib.hid (below_step HB.out hb)
      clear hb
      cases st with
      | true =>
        go_wp2_with fail
        go_ret
        exact ⟨by rw [HR.out]; rfl, HB1.out⟩
      | false =>
        go_wp2_with fail
        go_ret
        exact ⟨by rw [HR.out]; rfl, HB1.out⟩
set_option maxHeartbeats 4000000 in
theorem May_any (D : Option Addr) (cap : Nat) (xs : List Lx) (hn : xs.length ≤ 1000000000) (hsm : ∀ x ∈ xs, x.e.ns.length ≤ 140737488355328) (w : World) (hX : Row w D xs) (E : Env w) :
    Calls Tryz.prog 12 #[.slice D xs.length cap] w fun z w' => z = .returned (.bool (mayL (xs.map (·.e)))) ∧ Below w.heap.size w w' := by
  have HC := Lib.hid (refusal_any D cap xs hn hsm w hX E)
  clear hn hsm hX E
  have HM := Lib.hid (refN_zero (l := xs.map (·.e)))
  go_enter Tryz.func12, Tryz.ntmps12
  go_wp2_with fail
  refine HC.out.mono ?_
  rintro z W1 ⟨rfl, hb⟩
  have HB := Lib.hid hb
  clear hb
  by_cases h : refN (xs.map (·.e)) = 0
  · have HY := Lib.hid (HM.out.1 h)
    rw [h]
    clear h
    go_wp2_with fail
    go_ret
    exact ⟨by rw [HY.out]; rfl, HB.out⟩
  · have HY := Lib.hid (show mayL (xs.map (·.e)) = false by cases hm : mayL (xs.map (·.e)) with | true => exact absurd (HM.out.2 hm) h | false => rfl)
    obtain ⟨q1, q2, q3, q4, q5⟩ := nat_ne h
    clear h
    go_wp2_with fail
    go_ret
    exact ⟨by rw [HY.out]; rfl, HB.out⟩
end Go.Proofs.YtiibeemjkdipnaaGreatDoor.Batch
