/-
  The walks of May, Same and MayCommand.
-/
import Derived.Test.YtefkfjbdmglkjaaDoorE12
namespace Go.Proofs.YtefkfjbdmglkjaaDoor.Schema
open Go Go.RowKit

/-- an event -/
structure Ev where
  v : Nat
  k : Nat
  ns : List Int
  ts : List ByteArray
/-- an event as it is handed over -/
def evV (A : Option Addr) (ca : Nat) (B : Option Addr) (cb : Nat) (e : Ev) : Value := .agg #[.int .u8 e.v, .int .u8 e.k, .slice A e.ns.length ca, .slice B e.ts.length cb]
/-- what lies in its slices -/
structure EvAt (w : World) (A : Option Addr) (ca : Nat) (B : Option Addr) (cb : Nat) (e : Ev) : Prop where
  v : e.v < 256
  k : e.k < 256
  fit : Fits64 e.ns
  txt : ∀ t ∈ e.ts, t.size ≤ maxLen
  ns : VAt w A (nums e.ns)
  ts : VAt w B (texts e.ts)
  nA : A = none → ca = 0
  nB : B = none → cb = 0
  lA : e.ns.length ≤ ca
  lB : e.ts.length ≤ cb
theorem EvAt.below {w w' : World} {A B : Option Addr} {ca cb : Nat} {e : Ev} (h : EvAt w A ca B cb e) (hb : Below w.heap.size w w') : EvAt w' A ca B cb e := { h with ns := h.ns.below hb, ts := h.ts.below hb }
/-- whether an event has its texts -/
def mayT (k : Nat) (ts : List ByteArray) : Bool := if tru k then decide (ts.length = 1) && mayName (ts.getD 0 ByteArray.empty) else decide (ts.length = 0)
/-- whether an event may be -/
def may (e : Ev) : Bool := tall e.v e.k && fitB e.v (lets e.v e.k) e.ns && mayT e.k e.ts
theorem ret_bool {a b : Bool} (h : a = b) : Ending.returned (.bool a) = .returned (.bool b) := by rw [h]
theorem int_beq (n m : Nat) : ((n : Int) == (m : Int)) = decide (n = m) := by
  rw [Bool.eq_iff_iff, beq_iff_eq, decide_eq_true_iff]; omega
/-- four cells of a new block -/
theorem box4 (w : World) (a b c d : Value) (T : TypeId) : (w.alloc (.cells #[a, b, c, d] T)).cell? ⟨w.heap.size, 0, none⟩ = some a ∧ (w.alloc (.cells #[a, b, c, d] T)).cell? ⟨w.heap.size, 1, none⟩ = some b ∧ (w.alloc (.cells #[a, b, c, d] T)).cell? ⟨w.heap.size, 2, none⟩ = some c ∧ (w.alloc (.cells #[a, b, c, d] T)).cell? ⟨w.heap.size, 3, none⟩ = some d := by
  have h : ∀ j, (w.alloc (.cells #[a, b, c, d] T)).cell? ⟨w.heap.size, j, none⟩ = #[a, b, c, d][j]? := fun j => by
    unfold World.cell?
    rw [show (w.alloc _).heap[(⟨w.heap.size, j, none⟩ : Addr).block]? = _ from (MapKept.heap_alloc w _).1]
    rfl
  exact ⟨h 0, h 1, h 2, h 3⟩
theorem mem_getD {ts : List ByteArray} (h : ∀ t ∈ ts, t.size ≤ maxLen) (j : Nat) : (ts.getD j ByteArray.empty).size ≤ maxLen := by
  rw [List.getD_eq_getElem?_getD]
  cases e : ts[j]? with
  | none => exact Nat.zero_le _
  | some x => exact h x (List.mem_of_getElem? e)

set_option maxRecDepth 100000 in
set_option maxHeartbeats 1000000 in
theorem may_any (A : Option Addr) (ca : Nat) (B : Option Addr) (cb : Nat) (e : Ev) (hl : e.ns.length ≤ 1000000) (w : World) (E : Env w) (hA : EvAt w A ca B cb e) :
    Calls Tryd.prog 35 #[evV A ca B cb e] w fun z w' => z = .returned (.bool (may e)) ∧ Below w.heap.size w w' := by
  have HM := Lib.hid (show may e = (tall e.v e.k && fitB e.v (lets e.v e.k) e.ns && mayT e.k e.ts) from rfl)
  have HO := Lib.hid (lets_ok e.v e.k)
  have HT := Lib.hid (show tall e.v e.k = decide (0 < (lets e.v e.k).size) from rfl)
  have hv := hA.v
  have hk := hA.k
  have HX := Lib.hid hA.fit
  have HTx := Lib.hid hA.txt
  have HNs := Lib.hid hA.ns
  have HTs := Lib.hid hA.ts
  have HE := Lib.hid E
  have HLt := Lib.hid (fun h : tall e.v e.k = true => tall_lt h)
  have HF := Lib.hid (fun W (EW : Env W) => fields_any e.v e.k hv hk W EW)
  obtain ⟨v, k, ns, ts⟩ := e
  simp only [evV] at *
  have HA0 := Lib.hid ((Below.refl w.heap.size w).alloc (Nat.le_refl _) (.cells #[.int .u8 v, .int .u8 k, .slice A ns.length ca, .slice B ts.length cb] 26))
  have HB4 := Lib.hid (box4 w (.int .u8 v) (.int .u8 k) (.slice A ns.length ca) (.slice B ts.length cb) 26)
  clear E hA
  generalize hs : lets v k = s at HM HO HT HF
  clear hs
  cases ht : tall v k with
  | false =>
    have e0 : s.toList.isEmpty = true := by rw [size_pos_iff, ← HT.out, ht]; rfl
    have e1 : s.toList = [] := List.isEmpty_iff.1 e0
    have HR : Hid (may ⟨v, k, ns, ts⟩ = false) := by rw [HM.out, ht]; simp [Hid]
    clear ht HM HT
    go_enter Tryd.func35, Tryd.ntmps35
    go_wp2_with (go_at_call 60; refine (HF.out _ (HE.out.below HA0.out)).mono ?_; rintro z w' ⟨rfl, rfl⟩)
    go_ret
    exact ⟨by rw [HR.out]; rfl, HA0.out⟩
  | true =>
    have e0 : s.toList.isEmpty = false := by rw [size_pos_iff, ← HT.out, ht]; rfl
    have e1 : ¬ s.toList = [] := by intro h; rw [h] at e0; cases e0
    have hlt := HLt.out ht
    have HM2 : Hid (may ⟨v, k, ns, ts⟩ = (fitB v s ns && mayT k ts)) := by rw [HM.out, ht]; simp [Hid]
    have HG := Lib.hid (fun W (EW : Env W) (hW : VAt W A (nums ns)) => fit_any v hv s HO.out A ca ns HX.out hl W EW hW)
    clear ht HM HT HLt
    cases hf : fitB v s ns with
    | false =>
      have HR : Hid (may ⟨v, k, ns, ts⟩ = false) := by rw [HM2.out, hf]; simp [Hid]
      have HFF := Lib.hid hf
      clear hf HM2
      go_enter Tryd.func35, Tryd.ntmps35
      go_wp2_with (first
        | (go_at_call 60; refine (HF.out _ (HE.out.below HA0.out)).mono ?_; rintro z w' ⟨rfl, rfl⟩)
        | (go_at_call 61; refine (HG.out _ (HE.out.below HA0.out) (HNs.out.below HA0.out)).mono ?_; rintro z w' ⟨rfl, hb⟩; rw [HFF.out]; have HB := Lib.hid (below_step HA0.out hb); clear hb))
      go_ret
      exact ⟨by rw [HR.out]; rfl, HB.out⟩
    | true =>
      have HFF := Lib.hid hf
      have HM3 : Hid (may ⟨v, k, ns, ts⟩ = mayT k ts) := by rw [HM2.out, hf]; simp [Hid]
      clear hf HM2
      have z0 : (0 : Int) ≤ (k : Int) := by omega
      have z1 : (k : Int) < 24 := by omega
      cases ht : tru k with
      | false =>
        have HTT := Lib.hid (show (evAt k).text = false from ht)
        have HR : Hid (may ⟨v, k, ns, ts⟩ = decide (ts.length = 0)) := by rw [HM3.out]; unfold mayT; rw [ht]; rfl
        clear ht HM3
        go_enter Tryd.func35, Tryd.ntmps35
        go_wp2_with (first
          | (go_at_call 60; refine (HF.out _ (HE.out.below HA0.out)).mono ?_; rintro z w' ⟨rfl, rfl⟩)
          | (go_at_call 61; refine (HG.out _ (HE.out.below HA0.out) (HNs.out.below HA0.out)).mono ?_; rintro z w' ⟨rfl, hb⟩; rw [HFF.out]; have HB := Lib.hid (below_step HA0.out hb); have b1 := cell_kept HB4.out.2.1 hb; have b3 := cell_kept HB4.out.2.2.2 hb; have c4 := ((HE.out.below HB.out).f k hlt).2.2.2.2; rw [HTT.out] at c4; clear hb))
        go_ret
        exact ⟨ret_bool (by rw [HR.out]; exact int_beq _ 0), HB.out⟩
      | true =>
        have HTT := Lib.hid (show (evAt k).text = true from ht)
        have HR : Hid (may ⟨v, k, ns, ts⟩ = (decide (ts.length = 1) && mayName (ts.getD 0 ByteArray.empty))) := by rw [HM3.out]; unfold mayT; rw [ht]; rfl
        clear ht HM3
        by_cases h1 : ts.length = 1
        · obtain ⟨b', o', rfl, c0⟩ := HTs.out 0 _ (texts_at ts 0 (by omega))
          have HNm := Lib.hid (fun W => mayName_any (ts.getD 0 ByteArray.empty) (mem_getD HTx.out 0) W)
          have HR2 : Hid (may ⟨v, k, ns, ts⟩ = mayName (ts.getD 0 ByteArray.empty)) := by rw [HR.out, decide_eq_true h1]; rfl
          have c0' : w.cell? ⟨b', o', none⟩ = some (.string (ts.getD 0 ByteArray.empty)) := c0
          generalize ts.getD 0 ByteArray.empty = t at c0' HNm HR2
          have C0 := Lib.hid c0'
          have e5 : ((ts.length : Int) == 1) = true := by rw [h1]; rfl
          have z2 : (0 : Int) < (ts.length : Int) := by omega
          clear c0 c0' h1
          go_enter Tryd.func35, Tryd.ntmps35
          go_wp2_with (first
            | (go_at_call 60; refine (HF.out _ (HE.out.below HA0.out)).mono ?_; rintro z w' ⟨rfl, rfl⟩)
            | (go_at_call 61; refine (HG.out _ (HE.out.below HA0.out) (HNs.out.below HA0.out)).mono ?_; rintro z w' ⟨rfl, hb⟩; rw [HFF.out]; have HB := Lib.hid (below_step HA0.out hb); have b1 := cell_kept HB4.out.2.1 hb; have b3 := cell_kept HB4.out.2.2.2 hb; have c4 := ((HE.out.below HB.out).f k hlt).2.2.2.2; rw [HTT.out] at c4; have c5 := cell_kept C0.out HB.out; clear hb)
            | (go_at_call 62; refine (HNm.out _).mono ?_; rintro z w4 ⟨rfl, hb⟩; have HB2 := Lib.hid (below_step HB.out hb); clear hb))
          go_ret
          exact ⟨ret_bool (by rw [HR2.out]), HB2.out⟩
        · have HR2 : Hid (may ⟨v, k, ns, ts⟩ = false) := by rw [HR.out, decide_eq_false h1]; rfl
          have e5 : ((ts.length : Int) == 1) = false := by simp; omega
          clear h1
          go_enter Tryd.func35, Tryd.ntmps35
          go_wp2_with (first
            | (go_at_call 60; refine (HF.out _ (HE.out.below HA0.out)).mono ?_; rintro z w' ⟨rfl, rfl⟩)
            | (go_at_call 61; refine (HG.out _ (HE.out.below HA0.out) (HNs.out.below HA0.out)).mono ?_; rintro z w' ⟨rfl, hb⟩; rw [HFF.out]; have HB := Lib.hid (below_step HA0.out hb); have b1 := cell_kept HB4.out.2.1 hb; have b3 := cell_kept HB4.out.2.2.2 hb; have c4 := ((HE.out.below HB.out).f k hlt).2.2.2.2; rw [HTT.out] at c4; clear hb))
          go_ret
          exact ⟨ret_bool (by rw [HR2.out]), HB.out⟩

/-- whether events are the same -/
def same (a b : Ev) : Bool := decide (a.v = b.v) && decide (a.k = b.k) && decide (a.ns = b.ns) && decide (a.ts = b.ts)
end Go.Proofs.YtefkfjbdmglkjaaDoor.Schema
