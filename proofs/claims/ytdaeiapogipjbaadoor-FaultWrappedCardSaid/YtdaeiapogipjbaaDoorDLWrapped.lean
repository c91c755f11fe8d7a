/-
  The walk of the statement FaultWrapped.
-/
import Derived.Test.YtdaeiapogipjbaaDoorT3
import Derived.StillTailTactics
import Derived.Deep.RegionHeld3
import Derived.Deep.DeepCutAuto
import Derived.Test.YtdaeiapogipjbaaDoorD14
namespace Go.Proofs.YtdaeiapogipjbaaDoor.Fault
open Go Go.RowKit

theorem strs_head {w : World} {u : Value} {x : Wr} {xs : List Wr} (h : Strs w u (x :: xs)) : ∃ g cap, u = .slice (some ⟨g, 0, none⟩) (xs.length + 1) cap ∧ w.cell? ⟨g, 0, none⟩ = some (.string x.op) ∧ g < w.heap.size := by
  obtain ⟨A, cap, h1, h2, h3⟩ := h
  obtain ⟨g, hA, c0, hg⟩ := h3 0 (by simp)
  exact ⟨g, cap, by rw [h1, hA]; rfl, by simpa using c0, hg⟩
theorem strs_len {w : World} {u : Value} {xs : List Wr} (h : Strs w u xs) : ∃ A cap, u = .slice A xs.length cap := by
  obtain ⟨A, cap, h1, _⟩ := h
  exact ⟨A, cap, h1⟩

theorem cell_kept {w w' : World} {b o : Nat} {v : Value} (h : w.cell? ⟨b, o, none⟩ = some v) (hb : Below w.heap.size w w') : w'.cell? ⟨b, o, none⟩ = some v := (World.cell?_of_block (hb.block _ (cell_lt h))).trans h
theorem below_step {Y w w' : World} (h : Below Y.heap.size Y w) (hb : Below w.heap.size w w') : Below Y.heap.size Y w' := h.trans (hb.mono h.size)
theorem is_own {v : Value} {ys : List Wr} {e : Int} (hlen : ys.length < 1099511627776) (W : World) (hA : At W v ys (numV e)) : Calls Tryd.prog 16 #[v, .int .i64 e] W fun ev w' => ev = .returned (.bool true) ∧ Below W.heap.size W w' :=
  (is_any hA (plain_num e) (ifc_num e) hlen (isAsk_num e e)).mono fun ev w' h => ⟨by rw [h.1]; simp, h.2⟩
theorem is_other {v : Value} {ys : List Wr} {e o : Int} (ho : ¬ o = e) (hlen : ys.length < 1099511627776) (W : World) (hA : At W v ys (numV e)) : Calls Tryd.prog 16 #[v, .int .i64 o] W fun ev w' => ev = .returned (.bool false) ∧ Below W.heap.size W w' :=
  (is_any hA (plain_num e) (ifc_num e) hlen (isAsk_num e o)).mono fun ev w' h => ⟨by rw [h.1, show (e == o) = false by simp; omega], h.2⟩

theorem At.inner {W : World} {b : Nat} {x : Wr} {ys : List Wr} {base : Value} (h : At W (.iface 51 (.pointer (some ⟨b, 0, none⟩))) (x :: ys) base) : ∃ u, W.cell? ⟨b, 3, none⟩ = some u ∧ At W u ys base := by
  obtain ⟨p, e, h1, h2, C⟩ := h
  have h0 := C.head 0 (Nat.succ_pos _)
  rw [h1] at h0
  have hb : b = p 0 := by injection h0 with _ h0; injection h0 with h0; injection h0 with h0; injection h0
  subst hb
  exact ⟨e 1, C.c3 0 (Nat.succ_pos _), fun i => p (i + 1), fun i => e (i + 1), rfl, h2,
    { head := fun i hi => C.head (i + 1) (Nat.succ_lt_succ hi)
      lt := fun i hi => C.lt (i + 1) (Nat.succ_lt_succ hi)
      dec := fun i j hij hj => C.dec (i + 1) (j + 1) (Nat.succ_lt_succ hij) (Nat.succ_lt_succ hj)
      obj := fun i hi => C.obj (i + 1) (Nat.succ_lt_succ hi) }⟩
theorem asked_num_no (b : Nat) (o : Int) (w : World) : Calls Tryd.prog 19 #[.iface 51 (.pointer (some ⟨b, 0, none⟩)), numV o] w fun e w' => e = .returned (.bool false) ∧ Below w.heap.size w w' :=
  asked_any ((errIs_num b o w).mono fun e w' h => ⟨h.1, by rw [h.2]; exact Below.refl _ _⟩)
theorem bool_ne_self (b : Bool) : (b != b) = false := by cases b <;> rfl
/-- how many classes below j are e's -/
def inN (e : Int) (j : Nat) : Int := if classOf e < (j : Int) then 1 else 0
theorem inN_succ_yes (e : Int) (j : Nat) (h : classOf e = (j : Int)) : inN e j = 0 ∧ inN e (j + 1) = 1 := by unfold inN; constructor; rw [if_neg (by omega)]; rw [if_pos (by omega)]
theorem inN_succ_no (e : Int) (j : Nat) (h : ¬ classOf e = (j : Int)) : inN e (j + 1) = inN e j := by
  unfold inN
  by_cases h1 : classOf e < (j : Int)
  · rw [if_pos h1, if_pos (by omega)]
  · rw [if_neg h1, if_neg (by omega)]
theorem inN_bd (e : Int) (j : Nat) : 0 ≤ inN e j ∧ inN e j ≤ 1 := by unfold inN; split <;> omega
theorem inN_all (e : Int) : inN e 5 = 1 := if_pos (by have := classOf_range e; omega)

set_option maxRecDepth 100000 in
set_option maxHeartbeats 4000000 in
theorem faultWrapped_walk (A : Option Addr) (cap : Nat) (xs : List Wr) (e other : Int) (w : World) (hx : Wraps w A xs w.heap.size) (hl : xs.length ≤ cap) (hcap : cap ≤ maxLen) (he : (Lit.int .i64 e).wf = true) (_ : (Lit.int .i64 other).wf = true) (E : EnvX w) :
    Calls Tryd.prog 4 #[.slice A xs.length cap, .int .i64 e, .int .i64 other] w fun ev w' => ev = .returned (.bool true) ∧ Below w.heap.size w w' := by
  obtain ⟨hE0, T, hT0⟩ := E
  have hmx : Tryd.prog.follows .mixedOrders = true := by kernel_rfl
  have HW := Lib.hid (works_any w hE0)
  have HE := Lib.hid hE0
  have HT := Lib.hid hT0
  have HX := Lib.hid hx
  have HL := Lib.hid hl
  have HC := Lib.hid hcap
  have hlm : xs.length ≤ 9223372036854775807 := by unfold maxLen at hcap; omega
  have HWE := Lib.hid (show Wf e from by simp [Lit.wf, IntKind.min, IntKind.max, IntKind.bits, IntKind.signed] at he; unfold Wf; omega)
  clear hE0 hT0 hx hcap he
  by_cases hH : 5000 ≤ tot xs
  · have HD : Hid (decide (5000 ≤ tot xs) = true) := decide_eq_true hH
    clear hH hl hlm
    go_enter Tryd.func4, Tryd.ntmps4
    go_wp2_with (first
      | (go_at_call 7; refine HW.out.mono ?_; rintro ev w1 ⟨rfl, hb1⟩; have HB1 := Lib.hid hb1; clear hb1 HW)
      | (go_at_call 17; refine (heavy_any A cap xs _ (fun i hi => by obtain ⟨b, off, h1, h2, h3⟩ := HX.out.below HB1.out i hi; exact ⟨b, off, h1, Nat.lt_of_lt_of_le h2 HB1.out.size, h3⟩) HL.out HC.out).mono ?_; rintro ev w2 ⟨rfl, hb2⟩; have HB2 := Lib.hid (HB1.out.trans (hb2.mono HB1.out.size)); clear hb2; rw [HD.out])
      | (go_at_call 7; refine (works_any _ (HE.out.below HB2.out)).mono ?_; rintro ev w3 ⟨rfl, hb3⟩; have HB3 := Lib.hid (HB2.out.trans (hb3.mono HB2.out.size)); clear hb3 HB2))
    go_ret
    exact ⟨rfl, HB3.out⟩
  · have HD : Hid (decide (5000 ≤ tot xs) = false) := decide_eq_false hH
    have HLt := Lib.hid (show tot xs < 5000 from by omega)
    have hn : xs.length < 1000 := by have := tot_len xs; omega
    clear hH
    go_enter Tryd.func4, Tryd.ntmps4
    go_wp2_with (first
      | (go_at_call 7; refine HW.out.mono ?_; rintro ev w1 ⟨rfl, hb1⟩; have HB1 := Lib.hid hb1; clear hb1 HW)
      | (go_at_call 17; refine (heavy_any A cap xs _ (fun i hi => by obtain ⟨b, off, h1, h2, h3⟩ := HX.out.below HB1.out i hi; exact ⟨b, off, h1, Nat.lt_of_lt_of_le h2 HB1.out.size, h3⟩) HL.out HC.out).mono ?_; rintro ev w2 ⟨rfl, hb2⟩; have HB2 := Lib.hid (HB1.out.trans (hb2.mono HB1.out.size)); clear hb2; rw [HD.out]))
    go_loopw [7, 8] (fun v i wr => ∃ k : Nat, k ≤ xs.length ∧ i = .int .i64 ((k : Int) - 1) ∧ At wr v (xs.drop k) (numV e) ∧ v ≠ .nilIface ∧ Below w.heap.size w wr) (fun _ i _ => (intOf i + 1).toNat)
    case atStart => exact ⟨xs.length, Nat.le_refl _, by go_num, by rw [List.drop_length]; exact At.nil _ _, by simp, HB2.out⟩
    case round =>
      obtain ⟨k, hk, rfl, hA, hv0, hB⟩ := hrel
      cases k with
      | zero =>
        have HB := Lib.hid hB
        clear hA hB hv0
        go_wp2_with fail
        go_ret
        exact ⟨rfl, HB.out⟩
      | succ q =>
        have hq : q < xs.length := by omega
        obtain ⟨b, off, rfl, hbl, c0, c1, c2, hok⟩ := HX.out.below hB q hq
        have hdrop : xs.drop q = xs[q] :: xs.drop (q + 1) := List.drop_eq_getElem_cons hq
        have e1 : ((q + 1 : Nat) : Int) - 1 = (q : Int) := by omega
        have hF : Fine Wf (xs.drop (q + 1)) := light_fine (Nat.lt_of_le_of_lt (tot_drop xs _) HLt.out) (fun x hx _ => HX.out.wf x (List.mem_of_mem_drop hx))
        have hHd : (heads (textX T) (xs.drop (q + 1))).length ≤ 25000 := light_heads (says_x HT.out) (Nat.lt_of_le_of_lt (tot_drop xs _) HLt.out) (fun x hx _ => HX.out.wf x (List.mem_of_mem_drop hx))
        have hyl : (xs.drop (q + 1)).length < 1000 := by rw [List.length_drop]; omega
        have HDr := Lib.hid hdrop
        generalize xs[q] = x at c0 c1 c2 HDr
        generalize xs.drop (q + 1) = ys at hA hF hHd hyl HDr
        have HF := Lib.hid hF
        have HHd := Lib.hid hHd
        have HA := Lib.hid hA
        have HB := Lib.hid hB
        have HV := Lib.hid hv0
        have HBl := Lib.hid hbl
        have HEr := Lib.hid (HE.out.below hB)
        have HTr := Lib.hid (HT.out.below hB)
        have HYL := Lib.hid (show ys.length < 1099511627776 from by omega)
        have C0 := Lib.hid c0
        have C1 := Lib.hid c1
        have C2 := Lib.hid c2
        clear hA hB hdrop hok hv0 hF hHd hbl c0 c1 c2
        simp only [e1]
        go_wp2_with (first
          | (go_at_call 14; refine (ops_any HA.out (plain_num e) (ifc_num e) (noUnw_num e) HYL.out).mono ?_; rintro ev w3 ⟨u9, rfl, hS, hb3⟩; obtain ⟨A9, cap9, rfl⟩ := strs_len hS; have HB3 := Lib.hid hb3; clear hb3 hS)
          | (go_at_call 15; refine (text_any (says_x (HTr.out.below HB3.out)) (HA.out.below HB3.out) (plain_num e) (ifc_num e) HYL.out (textOf_num (says_x (HTr.out.below HB3.out)) e HWE.out) HF.out (by have := HHd.out; have := textX_size T e HWE.out; have s1 : soukE.size = 12 := rfl; rw [ByteArray.size_append]; omega)).mono ?_; rintro ev w4 ⟨rfl, hb4⟩; have HB4 := Lib.hid (HB3.out.trans (hb4.mono HB3.out.size)); clear hb4))
        have HBw := Lib.hid (Nat.lt_of_lt_of_le HBl.out HB.out.size)
        have c0 := (HB4.out.cell (p := ⟨b, _, none⟩) HBw.out).trans C0.out
        have c1 := (HB4.out.cell (p := ⟨b, _, none⟩) HBw.out).trans C1.out
        have c2 := (HB4.out.cell (p := ⟨b, _, none⟩) HBw.out).trans C2.out
        have HA4 := Lib.hid (HA.out.below HB4.out)
        go_still_tail 16, (by kernel_rfl)
        clear c0 c1 c2
        go_wp2_with (go_at_call 10; refine (wrap_any x (HA4.out.below (below_drew _ _)) (ifc_num e) HV.out).mono ?_; rintro ev w5 ⟨rfl, hA5, hb5⟩; have HA5 := Lib.hid (show At w5 (.iface 51 (.pointer (some ⟨w4.heap.size, 0, none⟩))) (x :: ys) (numV e) from hA5); have HB5 := Lib.hid (HB4.out.trans ((below_drew wr.heap.size w4).trans (hb5.mono HB4.out.size))); clear hA5 hb5)
        have HYL1 := Lib.hid (show (x :: ys).length < 1099511627776 from by have := HYL.out; have := hyl; simp; omega)
        go_wp2_with (first
          | (go_at_call 14; refine (ops_any HA5.out (plain_num e) (ifc_num e) (noUnw_num e) HYL1.out).mono ?_; rintro ev w6 ⟨u11, rfl, hS, hb6⟩; obtain ⟨g11, cap11, rfl, hg6, _⟩ := strs_head hS; have HG6 := Lib.hid hg6; have HB6 := Lib.hid (below_step HB5.out hb6); have HA6 := Lib.hid (HA5.out.below hb6); clear hb6 hS hg6)
          | (go_at_call 12; refine (code_any (HEr.out.below HB6.out) HA6.out (plain_num e) (ifc_num e) HYL1.out (asked_num e) (fun h => by cases h)).mono ?_; rintro ev w7 ⟨rfl, hb7⟩; have HB7 := Lib.hid (below_step HB6.out hb7); have HA7 := Lib.hid (HA6.out.below hb7); have HG7 := Lib.hid (cell_kept HG6.out hb7); clear hb7))
        have HC7 := Lib.hid ((HB7.out.cell (p := ⟨b, _, none⟩) HBw.out).trans C0.out)
        have HI1 := Lib.hid (is_own (v := .iface 51 (.pointer (some ⟨w4.heap.size, 0, none⟩))) (ys := x :: ys) (e := e) HYL1.out)
        have hwy : IntKind.i64.wrap ((ys.length : Int) + 1) = (ys.length : Int) + 1 := by rw [IntKind.wrap_i64]; omega
        go_upto_region 12 with (fail)
        go_cut [103] (fun t wx => t = .bool false ∧ Hid (Below w7.heap.size w7 wx))
        case first =>
          by_cases ho : e = other
          · subst ho
            have g0 := HG7.out
            have g1 := HC7.out
            have g2 : Below w7.heap.size w7 w7.drew := below_drew _ _
            have hee : (e != e) = false := by simp
            refine wp_region_held_drew (S := (fun w' => w'.cell? ⟨g11, 0, none⟩ = some (.string x.op) ∧ w'.cell? ⟨b, off + q * 3, none⟩ = some (.string x.op) ∧ Below w7.heap.size w7 w')) (by kernel_rfl) ⟨g0, g1, g2⟩ (fun hHeld => ?_)
            refine wpAnyH_take (i := 0) (oi := { dst := some 62, op := Go.Op.move (Go.Operand.tmp 11), type := 31, pos := "outright.go:78", after := #[], guard := none }) (v := ?v0) rfl (by kernel_rfl) (by kernel_rfl) (by kernel_rfl) (fun _ _ _ h => h) (Or.inl ⟨by rfl, ?hy0⟩) (by assumption) ?rest0
            case hy0 => (intro w hSw; obtain ⟨s0, s1, s2⟩ := hSw; go_simp; try with_reducible rfl)
            try simp only [Act.put, List.setIfInBounds_toArray, List.set_cons_zero, List.set_cons_succ]
            refine wpAnyH_take (i := 1) (oi := { dst := some 63, op := Go.Op.call { callee := Go.Callee.builtin Go.Builtin.len, args := #[Go.Operand.tmp 62], argTypes := #[31] }, type := 3, pos := "outright.go:78", after := #[{ on := 0, ground := Go.Ground.data }], guard := none }) (v := ?v1) rfl (by kernel_rfl) (by kernel_rfl) (by kernel_rfl) (fun _ _ _ h => h) (Or.inl ⟨by rfl, ?hy1⟩) (by assumption) ?rest1
            case hy1 => (intro w hSw; obtain ⟨s0, s1, s2⟩ := hSw; go_simp; try with_reducible rfl)
            try simp only [Act.put, List.setIfInBounds_toArray, List.set_cons_zero, List.set_cons_succ]
            refine wpAnyH_take (i := 2) (oi := { dst := some 64, op := Go.Op.move (Go.Operand.tmp 9), type := 31, pos := "outright.go:78", after := #[], guard := none }) (v := ?v2) rfl (by kernel_rfl) (by kernel_rfl) (by kernel_rfl) (fun _ _ _ h => h) (Or.inl ⟨by rfl, ?hy2⟩) (by assumption) ?rest2
            case hy2 => (intro w hSw; obtain ⟨s0, s1, s2⟩ := hSw; go_simp; try with_reducible rfl)
            try simp only [Act.put, List.setIfInBounds_toArray, List.set_cons_zero, List.set_cons_succ]
            refine wpAnyH_take (i := 3) (oi := { dst := some 65, op := Go.Op.call { callee := Go.Callee.builtin Go.Builtin.len, args := #[Go.Operand.tmp 64], argTypes := #[31] }, type := 3, pos := "outright.go:78", after := #[{ on := 2, ground := Go.Ground.data }], guard := none }) (v := ?v3) rfl (by kernel_rfl) (by kernel_rfl) (by kernel_rfl) (fun _ _ _ h => h) (Or.inl ⟨by rfl, ?hy3⟩) (by assumption) ?rest3
            case hy3 => (intro w hSw; obtain ⟨s0, s1, s2⟩ := hSw; go_simp; try with_reducible rfl)
            try simp only [Act.put, List.setIfInBounds_toArray, List.set_cons_zero, List.set_cons_succ]
            refine wpAnyH_take (i := 4) (oi := { dst := some 66, op := Go.Op.binOp Go.BinOp.add 3 (Go.Operand.tmp 65) (Go.Operand.const (Go.Value.int Go.IntKind.i64 1)) 3, type := 3, pos := "outright.go:78", after := #[{ on := 3, ground := Go.Ground.data }], guard := none }) (v := ?v4) rfl (by kernel_rfl) (by kernel_rfl) (by kernel_rfl) (fun _ _ _ h => h) (Or.inl ⟨by rfl, ?hy4⟩) (by assumption) ?rest4
            case hy4 => (intro w hSw; obtain ⟨s0, s1, s2⟩ := hSw; go_simp; try with_reducible rfl)
            try simp only [Act.put, List.setIfInBounds_toArray, List.set_cons_zero, List.set_cons_succ]
            refine wpAnyH_take (i := 5) (oi := { dst := some 67, op := Go.Op.binOp Go.BinOp.neq 3 (Go.Operand.tmp 63) (Go.Operand.tmp 66) 3, type := 4, pos := "outright.go:78", after := #[{ on := 1, ground := Go.Ground.data }, { on := 4, ground := Go.Ground.data }], guard := none }) (v := ?v5) rfl (by kernel_rfl) (by kernel_rfl) (by kernel_rfl) (fun _ _ _ h => h) (Or.inl ⟨by rfl, ?hy5⟩) (by assumption) ?rest5
            case hy5 => (intro w hSw; obtain ⟨s0, s1, s2⟩ := hSw; go_simp; try with_reducible rfl)
            try simp only [Act.put, List.setIfInBounds_toArray, List.set_cons_zero, List.set_cons_succ]
            refine wpAnyH_take (i := 6) (oi := { dst := some 68, op := Go.Op.move (Go.Operand.tmp 67), type := 4, pos := "outright.go:78", after := #[{ on := 5, ground := Go.Ground.data }], guard := none }) (v := ?v6) rfl (by kernel_rfl) (by kernel_rfl) (by kernel_rfl) (fun _ _ _ h => h) (Or.inl ⟨by rfl, ?hy6⟩) (by assumption) ?rest6
            case hy6 => (intro w hSw; obtain ⟨s0, s1, s2⟩ := hSw; go_simp; try with_reducible rfl)
            try simp only [Act.put, List.setIfInBounds_toArray, List.set_cons_zero, List.set_cons_succ]
            refine wpAnyH_take (i := 7) (oi := { dst := some 69, op := Go.Op.move (Go.Operand.tmp 11), type := 31, pos := "outright.go:78", after := #[{ on := 6, ground := Go.Ground.guard }], guard := some (6, false) }) (v := ?v7) rfl (by kernel_rfl) (by kernel_rfl) (by kernel_rfl) (fun _ _ _ h => h) (Or.inl ⟨by rfl, ?hy7⟩) (by assumption) ?rest7
            case hy7 => (intro w hSw; obtain ⟨s0, s1, s2⟩ := hSw; go_simp; try with_reducible rfl)
            try simp only [Act.put, List.setIfInBounds_toArray, List.set_cons_zero, List.set_cons_succ]
            refine wpAnyH_take (i := 8) (oi := { dst := some 70, op := Go.Op.indexAddr 31 (Go.Operand.tmp 69) (Go.Operand.const (Go.Value.int Go.IntKind.i64 0)), type := 0, pos := "outright.go:78", after := #[{ on := 7, ground := Go.Ground.data }, { on := 6, ground := Go.Ground.guard }], guard := some (6, false) }) (v := ?v8) rfl (by kernel_rfl) (by kernel_rfl) (by kernel_rfl) (fun _ _ _ h => h) (Or.inl ⟨by rfl, ?hy8⟩) (by assumption) ?rest8
            case hy8 => (intro w hSw; obtain ⟨s0, s1, s2⟩ := hSw; go_simp; try with_reducible rfl)
            try simp only [Act.put, List.setIfInBounds_toArray, List.set_cons_zero, List.set_cons_succ]
            refine wpAnyH_take (i := 9) (oi := { dst := some 71, op := Go.Op.load 9 (Go.Operand.tmp 70), type := 9, pos := "outright.go:78", after := #[{ on := 8, ground := Go.Ground.data }, { on := 6, ground := Go.Ground.guard }], guard := some (6, false) }) (v := ?v9) rfl (by kernel_rfl) (by kernel_rfl) (by kernel_rfl) (fun _ _ _ h => h) (Or.inl ⟨by rfl, ?hy9⟩) (by assumption) ?rest9
            case hy9 => (intro w hSw; obtain ⟨s0, s1, s2⟩ := hSw; go_simp; try with_reducible rfl)
            try simp only [Act.put, List.setIfInBounds_toArray, List.set_cons_zero, List.set_cons_succ]
            refine wpAnyH_take (i := 10) (oi := { dst := some 72, op := Go.Op.move (Go.Operand.tmp 0), type := 42, pos := "outright.go:78", after := #[{ on := 6, ground := Go.Ground.guard }], guard := some (6, false) }) (v := ?v10) rfl (by kernel_rfl) (by kernel_rfl) (by kernel_rfl) (fun _ _ _ h => h) (Or.inl ⟨by rfl, ?hy10⟩) (by assumption) ?rest10
            case hy10 => (intro w hSw; obtain ⟨s0, s1, s2⟩ := hSw; go_simp; try with_reducible rfl)
            try simp only [Act.put, List.setIfInBounds_toArray, List.set_cons_zero, List.set_cons_succ]
            refine wpAnyH_take (i := 11) (oi := { dst := some 73, op := Go.Op.move (Go.Operand.tmp 8), type := 3, pos := "outright.go:78", after := #[{ on := 6, ground := Go.Ground.guard }], guard := some (6, false) }) (v := ?v11) rfl (by kernel_rfl) (by kernel_rfl) (by kernel_rfl) (fun _ _ _ h => h) (Or.inl ⟨by rfl, ?hy11⟩) (by assumption) ?rest11
            case hy11 => (intro w hSw; obtain ⟨s0, s1, s2⟩ := hSw; go_simp; try with_reducible rfl)
            try simp only [Act.put, List.setIfInBounds_toArray, List.set_cons_zero, List.set_cons_succ]
            refine wpAnyH_take (i := 12) (oi := { dst := some 74, op := Go.Op.indexAddr 42 (Go.Operand.tmp 72) (Go.Operand.tmp 73), type := 0, pos := "outright.go:78", after := #[{ on := 10, ground := Go.Ground.data }, { on := 11, ground := Go.Ground.data }, { on := 6, ground := Go.Ground.guard }], guard := some (6, false) }) (v := ?v12) rfl (by kernel_rfl) (by kernel_rfl) (by kernel_rfl) (fun _ _ _ h => h) (Or.inl ⟨by rfl, ?hy12⟩) (by assumption) ?rest12
            case hy12 => (intro w hSw; obtain ⟨s0, s1, s2⟩ := hSw; go_simp; try with_reducible rfl)
            try simp only [Act.put, List.setIfInBounds_toArray, List.set_cons_zero, List.set_cons_succ]
            refine wpAnyH_take (i := 13) (oi := { dst := some 75, op := Go.Op.fieldAddr 45 (Go.Operand.tmp 74) 0, type := 0, pos := "outright.go:78", after := #[{ on := 12, ground := Go.Ground.data }, { on := 6, ground := Go.Ground.guard }], guard := some (6, false) }) (v := ?v13) rfl (by kernel_rfl) (by kernel_rfl) (by kernel_rfl) (fun _ _ _ h => h) (Or.inl ⟨by rfl, ?hy13⟩) (by assumption) ?rest13
            case hy13 => (intro w hSw; obtain ⟨s0, s1, s2⟩ := hSw; go_simp; try with_reducible rfl)
            try simp only [Act.put, List.setIfInBounds_toArray, List.set_cons_zero, List.set_cons_succ]
            refine wpAnyH_take (i := 14) (oi := { dst := some 76, op := Go.Op.load 9 (Go.Operand.tmp 75), type := 9, pos := "outright.go:78", after := #[{ on := 13, ground := Go.Ground.data }, { on := 6, ground := Go.Ground.guard }], guard := some (6, false) }) (v := ?v14) rfl (by kernel_rfl) (by kernel_rfl) (by kernel_rfl) (fun _ _ _ h => h) (Or.inl ⟨by rfl, ?hy14⟩) (by assumption) ?rest14
            case hy14 => (intro w hSw; obtain ⟨s0, s1, s2⟩ := hSw; go_simp; try with_reducible rfl)
            try simp only [Act.put, List.setIfInBounds_toArray, List.set_cons_zero, List.set_cons_succ]
            refine wpAnyH_take (i := 15) (oi := { dst := some 77, op := Go.Op.binOp Go.BinOp.neq 9 (Go.Operand.tmp 71) (Go.Operand.tmp 76) 9, type := 4, pos := "outright.go:78", after := #[{ on := 9, ground := Go.Ground.data }, { on := 14, ground := Go.Ground.data }, { on := 6, ground := Go.Ground.guard }], guard := some (6, false) }) (v := ?v15) rfl (by kernel_rfl) (by kernel_rfl) (by kernel_rfl) (fun _ _ _ h => h) (Or.inl ⟨by rfl, ?hy15⟩) (by assumption) ?rest15
            case hy15 => (intro w hSw; obtain ⟨s0, s1, s2⟩ := hSw; go_simp; try with_reducible rfl)
            try simp only [Act.put, List.setIfInBounds_toArray, List.set_cons_zero, List.set_cons_succ]
            refine wpAnyH_take (i := 16) (oi := { dst := some 78, op := Go.Op.pick (Go.Operand.tmp 68) (Go.Operand.const (Go.Value.bool true)) (Go.Operand.tmp 77), type := 4, pos := "outright.go:78", after := #[{ on := 6, ground := Go.Ground.data }, { on := 15, ground := Go.Ground.data }], guard := none }) (v := ?v16) rfl (by kernel_rfl) (by kernel_rfl) (by kernel_rfl) (fun _ _ _ h => h) (Or.inl ⟨by rfl, ?hy16⟩) (by assumption) ?rest16
            case hy16 => (intro w hSw; obtain ⟨s0, s1, s2⟩ := hSw; go_simp; try with_reducible rfl)
            try simp only [Act.put, List.setIfInBounds_toArray, List.set_cons_zero, List.set_cons_succ]
            refine wpAnyH_take (i := 17) (oi := { dst := some 79, op := Go.Op.move (Go.Operand.tmp 78), type := 4, pos := "outright.go:78", after := #[{ on := 16, ground := Go.Ground.data }, { on := 6, ground := Go.Ground.chain }], guard := none }) (v := ?v17) rfl (by kernel_rfl) (by kernel_rfl) (by kernel_rfl) (fun _ _ _ h => h) (Or.inl ⟨by rfl, ?hy17⟩) (by assumption) ?rest17
            case hy17 => (intro w hSw; obtain ⟨s0, s1, s2⟩ := hSw; go_simp; try with_reducible rfl)
            try simp only [Act.put, List.setIfInBounds_toArray, List.set_cons_zero, List.set_cons_succ]
            refine wpAnyH_take (i := 18) (oi := { dst := some 80, op := Go.Op.move (Go.Operand.tmp 13), type := 4, pos := "outright.go:78", after := #[{ on := 17, ground := Go.Ground.guard }], guard := some (17, false) }) (v := ?v18) rfl (by kernel_rfl) (by kernel_rfl) (by kernel_rfl) (fun _ _ _ h => h) (Or.inl ⟨by rfl, ?hy18⟩) (by assumption) ?rest18
            case hy18 => (intro w hSw; obtain ⟨s0, s1, s2⟩ := hSw; go_simp; try with_reducible rfl)
            try simp only [Act.put, List.setIfInBounds_toArray, List.set_cons_zero, List.set_cons_succ]
            refine wpAnyH_take (i := 19) (oi := { dst := some 81, op := Go.Op.unOp Go.UnOp.not 4 (Go.Operand.tmp 80), type := 4, pos := "outright.go:78", after := #[{ on := 18, ground := Go.Ground.data }, { on := 17, ground := Go.Ground.guard }], guard := some (17, false) }) (v := ?v19) rfl (by kernel_rfl) (by kernel_rfl) (by kernel_rfl) (fun _ _ _ h => h) (Or.inl ⟨by rfl, ?hy19⟩) (by assumption) ?rest19
            case hy19 => (intro w hSw; obtain ⟨s0, s1, s2⟩ := hSw; go_simp; try with_reducible rfl)
            try simp only [Act.put, List.setIfInBounds_toArray, List.set_cons_zero, List.set_cons_succ]
            refine wpAnyH_take (i := 20) (oi := { dst := some 82, op := Go.Op.pick (Go.Operand.tmp 79) (Go.Operand.const (Go.Value.bool true)) (Go.Operand.tmp 81), type := 4, pos := "outright.go:78", after := #[{ on := 17, ground := Go.Ground.data }, { on := 19, ground := Go.Ground.data }], guard := none }) (v := ?v20) rfl (by kernel_rfl) (by kernel_rfl) (by kernel_rfl) (fun _ _ _ h => h) (Or.inl ⟨by rfl, ?hy20⟩) (by assumption) ?rest20
            case hy20 => (intro w hSw; obtain ⟨s0, s1, s2⟩ := hSw; go_simp; try with_reducible rfl)
            try simp only [Act.put, List.setIfInBounds_toArray, List.set_cons_zero, List.set_cons_succ]
            refine wpAnyH_take (i := 21) (oi := { dst := some 83, op := Go.Op.move (Go.Operand.tmp 82), type := 4, pos := "outright.go:78", after := #[{ on := 20, ground := Go.Ground.data }, { on := 17, ground := Go.Ground.chain }], guard := none }) (v := ?v21) rfl (by kernel_rfl) (by kernel_rfl) (by kernel_rfl) (fun _ _ _ h => h) (Or.inl ⟨by rfl, ?hy21⟩) (by assumption) ?rest21
            case hy21 => (intro w hSw; obtain ⟨s0, s1, s2⟩ := hSw; go_simp; try with_reducible rfl)
            try simp only [Act.put, List.setIfInBounds_toArray, List.set_cons_zero, List.set_cons_succ]
            refine wpAnyH_take (i := 22) (oi := { dst := some 84, op := Go.Op.move (Go.Operand.tmp 12), type := 23, pos := "outright.go:78", after := #[{ on := 21, ground := Go.Ground.guard }], guard := some (21, false) }) (v := ?v22) rfl (by kernel_rfl) (by kernel_rfl) (by kernel_rfl) (fun _ _ _ h => h) (Or.inl ⟨by rfl, ?hy22⟩) (by assumption) ?rest22
            case hy22 => (intro w hSw; obtain ⟨s0, s1, s2⟩ := hSw; go_simp; try with_reducible rfl)
            try simp only [Act.put, List.setIfInBounds_toArray, List.set_cons_zero, List.set_cons_succ]
            refine wpAnyH_take (i := 23) (oi := { dst := some 85, op := Go.Op.move (Go.Operand.tmp 1), type := 23, pos := "outright.go:78", after := #[{ on := 21, ground := Go.Ground.guard }], guard := some (21, false) }) (v := ?v23) rfl (by kernel_rfl) (by kernel_rfl) (by kernel_rfl) (fun _ _ _ h => h) (Or.inl ⟨by rfl, ?hy23⟩) (by assumption) ?rest23
            case hy23 => (intro w hSw; obtain ⟨s0, s1, s2⟩ := hSw; go_simp; try with_reducible rfl)
            try simp only [Act.put, List.setIfInBounds_toArray, List.set_cons_zero, List.set_cons_succ]
            refine wpAnyH_take (i := 24) (oi := { dst := some 86, op := Go.Op.binOp Go.BinOp.neq 23 (Go.Operand.tmp 84) (Go.Operand.tmp 85) 23, type := 4, pos := "outright.go:78", after := #[{ on := 22, ground := Go.Ground.data }, { on := 23, ground := Go.Ground.data }, { on := 21, ground := Go.Ground.guard }], guard := some (21, false) }) (v := ?v24) rfl (by kernel_rfl) (by kernel_rfl) (by kernel_rfl) (fun _ _ _ h => h) (Or.inl ⟨by rfl, ?hy24⟩) (by assumption) ?rest24
            case hy24 => (intro w hSw; obtain ⟨s0, s1, s2⟩ := hSw; go_simp; try with_reducible rfl)
            try simp only [Act.put, List.setIfInBounds_toArray, List.set_cons_zero, List.set_cons_succ]
            refine wpAnyH_take (i := 25) (oi := { dst := some 87, op := Go.Op.pick (Go.Operand.tmp 83) (Go.Operand.const (Go.Value.bool true)) (Go.Operand.tmp 86), type := 4, pos := "outright.go:78", after := #[{ on := 21, ground := Go.Ground.data }, { on := 24, ground := Go.Ground.data }], guard := none }) (v := ?v25) rfl (by kernel_rfl) (by kernel_rfl) (by kernel_rfl) (fun _ _ _ h => h) (Or.inl ⟨by rfl, ?hy25⟩) (by assumption) ?rest25
            case hy25 => (intro w hSw; obtain ⟨s0, s1, s2⟩ := hSw; go_simp; try with_reducible rfl)
            try simp only [Act.put, List.setIfInBounds_toArray, List.set_cons_zero, List.set_cons_succ]
            refine wpAnyH_take (i := 26) (oi := { dst := some 88, op := Go.Op.move (Go.Operand.tmp 87), type := 4, pos := "outright.go:78", after := #[{ on := 25, ground := Go.Ground.data }, { on := 21, ground := Go.Ground.chain }], guard := none }) (v := ?v26) rfl (by kernel_rfl) (by kernel_rfl) (by kernel_rfl) (fun _ _ _ h => h) (Or.inl ⟨by rfl, ?hy26⟩) (by assumption) ?rest26
            case hy26 => (intro w hSw; obtain ⟨s0, s1, s2⟩ := hSw; go_simp; try with_reducible rfl)
            try simp only [Act.put, List.setIfInBounds_toArray, List.set_cons_zero, List.set_cons_succ]
            refine wpAnyH_take (i := 27) (oi := { dst := some 89, op := Go.Op.move (Go.Operand.tmp 7), type := 29, pos := "outright.go:78", after := #[{ on := 26, ground := Go.Ground.guard }], guard := some (26, false) }) (v := ?v27) rfl (by kernel_rfl) (by kernel_rfl) (by kernel_rfl) (fun _ _ _ h => h) (Or.inl ⟨by rfl, ?hy27⟩) (by assumption) ?rest27
            case hy27 => (intro w hSw; obtain ⟨s0, s1, s2⟩ := hSw; go_simp; try with_reducible rfl)
            try simp only [Act.put, List.setIfInBounds_toArray, List.set_cons_zero, List.set_cons_succ]
            refine wpAnyH_take (i := 28) (oi := { dst := some 90, op := Go.Op.move (Go.Operand.tmp 1), type := 23, pos := "outright.go:78", after := #[{ on := 26, ground := Go.Ground.guard }], guard := some (26, false) }) (v := ?v28) rfl (by kernel_rfl) (by kernel_rfl) (by kernel_rfl) (fun _ _ _ h => h) (Or.inl ⟨by rfl, ?hy28⟩) (by assumption) ?rest28
            case hy28 => (intro w hSw; obtain ⟨s0, s1, s2⟩ := hSw; go_simp; try with_reducible rfl)
            try simp only [Act.put, List.setIfInBounds_toArray, List.set_cons_zero, List.set_cons_succ]
            refine wpAnyH_ready (rs := [29]) (by kernel_rfl) (by simp) ?_
            refine AllReadyH.cons (o := { dst := some 91, op := Go.Op.call { callee := Go.Callee.value (Go.Operand.func 16), args := #[Go.Operand.tmp 89, Go.Operand.tmp 90], argTypes := #[29, 23] }, type := 4, pos := "outright.go:78", after := #[{ on := 27, ground := Go.Ground.data }, { on := 28, ground := Go.Ground.data }, { on := 26, ground := Go.Ground.chain }, { on := 26, ground := Go.Ground.guard }], guard := some (26, false) }) rfl (fun K hK => ?_) AllReadyH.nil
            go_simp
            go_at_call 16
            refine (HI1.out _ (HA7.out.below g2)).mono ?_
            rintro z w8 ⟨rfl, hb8⟩
            have k1 : w8.cell? ⟨g11, 0, none⟩ = some (.string x.op) := cell_kept (show w7.drew.cell? ⟨g11, 0, none⟩ = some (.string x.op) from g0) hb8
            have k2 : w8.cell? ⟨b, off + q * 3, none⟩ = some (.string x.op) := cell_kept (show w7.drew.cell? ⟨b, off + q * 3, none⟩ = some (.string x.op) from g1) hb8
            have k3 : Below w7.heap.size w7 w8 := below_step g2 hb8
            refine hK.out _ _ ⟨k1, k2, k3⟩ (fun hHeld2 => ?_)
            clear hK K hHeld
            try simp only [Act.put, List.setIfInBounds_toArray, List.set_cons_zero, List.set_cons_succ]
            refine wpAnyH_take (i := 30) (oi := { dst := some 92, op := Go.Op.unOp Go.UnOp.not 4 (Go.Operand.tmp 91), type := 4, pos := "outright.go:78", after := #[{ on := 29, ground := Go.Ground.data }, { on := 26, ground := Go.Ground.guard }], guard := some (26, false) }) (v := ?v30) rfl (by kernel_rfl) (by kernel_rfl) (by kernel_rfl) (fun _ _ _ h => h) (Or.inl ⟨by rfl, ?hy30⟩) (by assumption) ?rest30
            case hy30 => (intro w hSw; obtain ⟨s0, s1, s2⟩ := hSw; go_simp; try with_reducible rfl)
            try simp only [Act.put, List.setIfInBounds_toArray, List.set_cons_zero, List.set_cons_succ]
            refine wpAnyH_take (i := 31) (oi := { dst := some 93, op := Go.Op.pick (Go.Operand.tmp 88) (Go.Operand.const (Go.Value.bool true)) (Go.Operand.tmp 92), type := 4, pos := "outright.go:78", after := #[{ on := 26, ground := Go.Ground.data }, { on := 30, ground := Go.Ground.data }], guard := none }) (v := ?v31) rfl (by kernel_rfl) (by kernel_rfl) (by kernel_rfl) (fun _ _ _ h => h) (Or.inl ⟨by rfl, ?hy31⟩) (by assumption) ?rest31
            case hy31 => (intro w hSw; obtain ⟨s0, s1, s2⟩ := hSw; go_simp; try with_reducible rfl)
            try simp only [Act.put, List.setIfInBounds_toArray, List.set_cons_zero, List.set_cons_succ]
            refine wpAnyH_take (i := 32) (oi := { dst := some 94, op := Go.Op.move (Go.Operand.tmp 93), type := 4, pos := "outright.go:78", after := #[{ on := 31, ground := Go.Ground.data }, { on := 29, ground := Go.Ground.chain }], guard := none }) (v := ?v32) rfl (by kernel_rfl) (by kernel_rfl) (by kernel_rfl) (fun _ _ _ h => h) (Or.inl ⟨by rfl, ?hy32⟩) (by assumption) ?rest32
            case hy32 => (intro w hSw; obtain ⟨s0, s1, s2⟩ := hSw; go_simp; try with_reducible rfl)
            try simp only [Act.put, List.setIfInBounds_toArray, List.set_cons_zero, List.set_cons_succ]
            refine wpAnyH_take (i := 33) (oi := { dst := some 95, op := Go.Op.move (Go.Operand.tmp 2), type := 23, pos := "outright.go:78", after := #[{ on := 32, ground := Go.Ground.guard }], guard := some (32, false) }) (v := ?v33) rfl (by kernel_rfl) (by kernel_rfl) (by kernel_rfl) (fun _ _ _ h => h) (Or.inl ⟨by rfl, ?hy33⟩) (by assumption) ?rest33
            case hy33 => (intro w hSw; obtain ⟨s0, s1, s2⟩ := hSw; go_simp; try with_reducible rfl)
            try simp only [Act.put, List.setIfInBounds_toArray, List.set_cons_zero, List.set_cons_succ]
            refine wpAnyH_take (i := 34) (oi := { dst := some 96, op := Go.Op.move (Go.Operand.tmp 1), type := 23, pos := "outright.go:78", after := #[{ on := 32, ground := Go.Ground.guard }], guard := some (32, false) }) (v := ?v34) rfl (by kernel_rfl) (by kernel_rfl) (by kernel_rfl) (fun _ _ _ h => h) (Or.inl ⟨by rfl, ?hy34⟩) (by assumption) ?rest34
            case hy34 => (intro w hSw; obtain ⟨s0, s1, s2⟩ := hSw; go_simp; try with_reducible rfl)
            try simp only [Act.put, List.setIfInBounds_toArray, List.set_cons_zero, List.set_cons_succ]
            refine wpAnyH_take (i := 35) (oi := { dst := some 97, op := Go.Op.binOp Go.BinOp.neq 23 (Go.Operand.tmp 95) (Go.Operand.tmp 96) 23, type := 4, pos := "outright.go:78", after := #[{ on := 33, ground := Go.Ground.data }, { on := 34, ground := Go.Ground.data }, { on := 32, ground := Go.Ground.guard }], guard := some (32, false) }) (v := ?v35) rfl (by kernel_rfl) (by kernel_rfl) (by kernel_rfl) (fun _ _ _ h => h) (Or.inl ⟨by rfl, ?hy35⟩) (by assumption) ?rest35
            case hy35 => (intro w hSw; obtain ⟨s0, s1, s2⟩ := hSw; go_simp; try with_reducible rfl)
            try simp only [Act.put, List.setIfInBounds_toArray, List.set_cons_zero, List.set_cons_succ]
            refine wpAnyH_take (i := 36) (oi := { dst := some 98, op := Go.Op.move (Go.Operand.tmp 97), type := 4, pos := "outright.go:78", after := #[{ on := 35, ground := Go.Ground.data }, { on := 32, ground := Go.Ground.chain }, { on := 32, ground := Go.Ground.guard }], guard := some (32, false) }) (v := ?v36) rfl (by kernel_rfl) (by kernel_rfl) (by kernel_rfl) (fun _ _ _ h => h) (Or.inl ⟨by rfl, ?hy36⟩) (by assumption) ?rest36
            case hy36 => (intro w hSw; obtain ⟨s0, s1, s2⟩ := hSw; go_simp; try with_reducible rfl)
            try simp only [Act.put, List.setIfInBounds_toArray, List.set_cons_zero, List.set_cons_succ]
            refine wpAnyH_take (i := 37) (oi := { dst := some 99, op := Go.Op.move (Go.Operand.tmp 7), type := 29, pos := "outright.go:78", after := #[{ on := 36, ground := Go.Ground.guard }], guard := some (36, true) }) (v := undef) rfl (by kernel_rfl) (by kernel_rfl) (by kernel_rfl) (fun _ _ _ h => h) (Or.inr ⟨by rfl, rfl⟩) (by assumption) ?_
            try simp only [Act.put, List.setIfInBounds_toArray, List.set_cons_zero, List.set_cons_succ]
            refine wpAnyH_take (i := 38) (oi := { dst := some 100, op := Go.Op.move (Go.Operand.tmp 2), type := 23, pos := "outright.go:78", after := #[{ on := 36, ground := Go.Ground.guard }], guard := some (36, true) }) (v := undef) rfl (by kernel_rfl) (by kernel_rfl) (by kernel_rfl) (fun _ _ _ h => h) (Or.inr ⟨by rfl, rfl⟩) (by assumption) ?_
            try simp only [Act.put, List.setIfInBounds_toArray, List.set_cons_zero, List.set_cons_succ]
            refine wpAnyH_take (i := 39) (oi := { dst := some 101, op := Go.Op.call { callee := Go.Callee.value (Go.Operand.func 16), args := #[Go.Operand.tmp 99, Go.Operand.tmp 100], argTypes := #[29, 23] }, type := 4, pos := "outright.go:78", after := #[{ on := 37, ground := Go.Ground.data }, { on := 38, ground := Go.Ground.data }, { on := 36, ground := Go.Ground.chain }, { on := 36, ground := Go.Ground.guard }], guard := some (36, true) }) (v := undef) rfl (by kernel_rfl) (by kernel_rfl) (by kernel_rfl) (fun _ _ _ h => h) (Or.inr ⟨by rfl, rfl⟩) (by assumption) ?_
            try simp only [Act.put, List.setIfInBounds_toArray, List.set_cons_zero, List.set_cons_succ]
            refine wpAnyH_take (i := 40) (oi := { dst := some 102, op := Go.Op.pick (Go.Operand.tmp 98) (Go.Operand.tmp 101) (Go.Operand.const (Go.Value.bool false)), type := 4, pos := "outright.go:78", after := #[{ on := 36, ground := Go.Ground.data }, { on := 39, ground := Go.Ground.data }, { on := 32, ground := Go.Ground.guard }], guard := some (32, false) }) (v := ?v40) rfl (by kernel_rfl) (by kernel_rfl) (by kernel_rfl) (fun _ _ _ h => h) (Or.inl ⟨by rfl, ?hy40⟩) (by assumption) ?rest40
            case hy40 => (intro w hSw; obtain ⟨s0, s1, s2⟩ := hSw; go_simp; try with_reducible rfl)
            try simp only [Act.put, List.setIfInBounds_toArray, List.set_cons_zero, List.set_cons_succ]
            refine wpAnyH_take (i := 41) (oi := { dst := some 103, op := Go.Op.pick (Go.Operand.tmp 94) (Go.Operand.const (Go.Value.bool true)) (Go.Operand.tmp 102), type := 4, pos := "outright.go:78", after := #[{ on := 32, ground := Go.Ground.data }, { on := 40, ground := Go.Ground.data }], guard := none }) (v := ?v41) rfl (by kernel_rfl) (by kernel_rfl) (by kernel_rfl) (fun _ _ _ h => h) (Or.inl ⟨by rfl, ?hy41⟩) (by assumption) ?rest41
            case hy41 => (intro w hSw; obtain ⟨s0, s1, s2⟩ := hSw; go_simp; try with_reducible rfl)
            try simp only [Act.put, List.setIfInBounds_toArray, List.set_cons_zero, List.set_cons_succ]
            refine wpAnyH_done (by kernel_rfl) ?_ _
            go_wp2_with fail
            go_meet
            exact ⟨rfl, k3⟩
          · have ho' : ¬ other = e := fun h => ho h.symm
            have hne : (other != e) = true := by simp [ho']
            have HI2 := Lib.hid (is_other (v := .iface 51 (.pointer (some ⟨w4.heap.size, 0, none⟩))) (ys := x :: ys) (e := e) ho' HYL1.out)
            have g0 := HG7.out
            have g1 := HC7.out
            have g2 : Below w7.heap.size w7 w7.drew := below_drew _ _
            go_region_held3 (fun w' => w'.cell? ⟨g11, 0, none⟩ = some (.string x.op) ∧ w'.cell? ⟨b, off + q * 3, none⟩ = some (.string x.op) ∧ Below w7.heap.size w7 w')
              (first | assumption | (refine ⟨?_, ?_, ?_⟩ <;> first | assumption | exact below_drew _ _ | exact Below.drew (by assumption) | go_keep) | go_keep)
              ((first | (go_at_call 16; refine (HI1.out _ (HA7.out.below (by assumption))).mono ?_; rintro z w' ⟨rfl, hb8⟩; (have k1 : w'.cell? ⟨g11, 0, none⟩ = some (.string x.op) := cell_kept (by assumption) hb8); (have k2 : w'.cell? ⟨b, off + q * 3, none⟩ = some (.string x.op) := cell_kept (by assumption) hb8); (have k3 : Below w7.heap.size w7 w' := below_step (by assumption) hb8)) | (go_at_call 16; refine (HI2.out _ (HA7.out.below (by assumption))).mono ?_; rintro z w' ⟨rfl, hb8⟩; (have k1 : w'.cell? ⟨g11, 0, none⟩ = some (.string x.op) := cell_kept (by assumption) hb8); (have k2 : w'.cell? ⟨b, off + q * 3, none⟩ = some (.string x.op) := cell_kept (by assumption) hb8); (have k3 : Below w7.heap.size w7 w' := below_step (by assumption) hb8))))
            all_goals
              go_wp2_with fail
              go_meet
              exact ⟨rfl, by assumption⟩
        case rest =>
          obtain ⟨rfl, H8⟩ := hcut
          have HB8 := Lib.hid (below_step HB7.out H8.out)
          have HA8 := Lib.hid (HA7.out.below H8.out)
          obtain ⟨u, hu3, hAu⟩ := At.inner HA8.out
          have HU3 := Lib.hid hu3
          have HAU := Lib.hid hAu
          have HTx := Lib.hid (textOf_num (says_x (HTr.out.below HB8.out)) e HWE.out)
          have hee : (e != e) = false := by simp
          clear hu3 hAu HA HA4 HA5 HA6 HA7 HG6 HG7 HC7 HI1 HB3 HB4 HB5 HB6 H8 C0 C1 C2
          go_wp2_with fail
          refine (inner_any HU3.out HAU.out (ifc_num e)).mono ?_; rintro ev w9 ⟨rfl, rfl⟩
          go_wp2_with fail
          refine (code_any (HEr.out.below HB8.out) HAU.out (plain_num e) (ifc_num e) HYL.out (asked_num e) (fun h => by cases h)).mono ?_; rintro ev w10 ⟨rfl, hb10⟩
          have HB10 := Lib.hid (below_step HB8.out hb10)
          have HA10 := Lib.hid (HA8.out.below hb10)
          have HU10 := Lib.hid (cell_kept HU3.out hb10)
          have HAU10 := Lib.hid (HAU.out.below hb10)
          clear hb10 HA8 HU3 HAU
          go_wp2_with fail
          refine (inner_any HU10.out HAU10.out (ifc_num e)).mono ?_; rintro ev w11 ⟨rfl, rfl⟩
          go_wp2_with fail
          refine (text_any (says_x (HTr.out.below HB10.out)) HAU10.out (plain_num e) (ifc_num e) HYL.out (textOf_num (says_x (HTr.out.below HB10.out)) e HWE.out) HF.out (by have := HHd.out; have := textX_size T e HWE.out; have s1 : soukE.size = 12 := rfl; rw [ByteArray.size_append]; omega)).mono ?_; rintro ev w12 ⟨rfl, hb12⟩
          have HB12 := Lib.hid (below_step HB10.out hb12)
          have HA12 := Lib.hid (HA10.out.below hb12)
          have HU12 := Lib.hid (cell_kept HU10.out hb12)
          have HAU12 := Lib.hid (HAU10.out.below hb12)
          clear hb12 HA10 HU10 HAU10
          go_wp2_with fail
          refine (inner_any HU12.out HAU12.out (ifc_num e)).mono ?_; rintro ev w13 ⟨rfl, rfl⟩
          go_wp2_with fail
          refine (ops_any HAU12.out (plain_num e) (ifc_num e) (noUnw_num e) HYL.out).mono ?_; rintro ev w14 ⟨u14, rfl, hS, hb14⟩; obtain ⟨A14, cap14, rfl⟩ := strs_len hS
          have HB14 := Lib.hid (below_step HB12.out hb14)
          have HA14 := Lib.hid (HA12.out.below hb14)
          clear hb14 hS HA12 HU12 HAU12
          go_wp2_with fail
          go_loopw [16, 17] (fun a c wq => ∃ j : Nat, j ≤ 5 ∧ c = .int .u8 j ∧ a = .int .i64 (inN e j) ∧ Below w14.heap.size w14 wq) (fun _ c _ => 5 - (intOf c).toNat)
          case atStart => exact ⟨0, Nat.zero_le _, rfl, by rw [show inN e 0 = 0 from if_neg (by have := classOf_range e; omega)], Below.refl _ _⟩
          case round =>
            obtain ⟨j, hj, rfl, rfl, hBq⟩ := hrel
            have HBq := Lib.hid (below_step HB14.out hBq)
            have HAq := Lib.hid (HA14.out.below hBq)
            have HB0 := Lib.hid hBq
            clear hBq
            by_cases hlt : j < 5
            · have hbd := inN_bd e j
              by_cases hc : classOf e = (j : Int)
              · skip
                have HN := Lib.hid (inN_succ_yes e j hc)
                have e1 : (classOf e == (j : Int)) = true := beq_iff_eq.2 hc
                clear hc
                go_wp2_with fail
                refine (in_any (j : Int) (HEr.out.below HBq.out) HAq.out (plain_num e) (ifc_num e) HYL1.out (asked_num e) (fun h => by cases h)).mono ?_; rintro ev w15 ⟨rfl, hb15⟩; rw [e1]
                have HB15 := Lib.hid (below_step HBq.out hb15)
                have HA15 := Lib.hid (HAq.out.below hb15)
                have HD15 := Lib.hid (below_step HB0.out hb15)
                clear hb15
                go_wp2_with fail
                refine (in_any (j : Int) (HEr.out.below HB15.out) HA15.out (plain_num e) (ifc_num e) HYL1.out (asked_num e) (fun h => by cases h)).mono ?_; rintro ev w16 ⟨rfl, hb16⟩; rw [e1]
                have HB16 := Lib.hid (below_step HB15.out hb16)
                have HA16 := Lib.hid (HA15.out.below hb16)
                have HD16 := Lib.hid (below_step HD15.out hb16)
                clear hb16
                go_wp2_with fail
                refine (of_any e _).mono ?_; rintro ev w17 ⟨rfl, rfl⟩
                go_wp2_with fail
                refine (asked_any (errIs_cls (j : Int) (HEr.out.below HB16.out) HA16.out (plain_num e) (ifc_num e) HYL1.out (asked_num e) (fun h => by cases h))).mono ?_; rintro ev w18 ⟨rfl, hb18⟩; rw [e1]
                have HD18 := Lib.hid (below_step HD16.out hb18)
                clear hb18
                go_wp2_with fail
                refine (of_any e _).mono ?_; rintro ev w19 ⟨rfl, rfl⟩
                go_wp2_with fail
                go_roundw
                case rel => exact ⟨j + 1, by omega, by go_num, by rw [HN.out.1, HN.out.2]; rfl, HD18.out⟩
                case measure => simp [intOf] <;> omega
              · skip
                have HN := Lib.hid (inN_succ_no e j hc)
                have e1 : (classOf e == (j : Int)) = false := beq_eq_false_iff_ne.2 hc
                clear hc
                go_wp2_with fail
                refine (in_any (j : Int) (HEr.out.below HBq.out) HAq.out (plain_num e) (ifc_num e) HYL1.out (asked_num e) (fun h => by cases h)).mono ?_; rintro ev w15 ⟨rfl, hb15⟩; rw [e1]
                have HB15 := Lib.hid (below_step HBq.out hb15)
                have HA15 := Lib.hid (HAq.out.below hb15)
                have HD15 := Lib.hid (below_step HB0.out hb15)
                clear hb15
                go_wp2_with fail
                refine (in_any (j : Int) (HEr.out.below HB15.out) HA15.out (plain_num e) (ifc_num e) HYL1.out (asked_num e) (fun h => by cases h)).mono ?_; rintro ev w16 ⟨rfl, hb16⟩; rw [e1]
                have HB16 := Lib.hid (below_step HB15.out hb16)
                have HA16 := Lib.hid (HA15.out.below hb16)
                have HD16 := Lib.hid (below_step HD15.out hb16)
                clear hb16
                go_wp2_with fail
                refine (of_any e _).mono ?_; rintro ev w17 ⟨rfl, rfl⟩
                go_wp2_with fail
                refine (asked_any (errIs_cls (j : Int) (HEr.out.below HB16.out) HA16.out (plain_num e) (ifc_num e) HYL1.out (asked_num e) (fun h => by cases h))).mono ?_; rintro ev w18 ⟨rfl, hb18⟩; rw [e1]
                have HD18 := Lib.hid (below_step HD16.out hb18)
                clear hb18
                go_wp2_with fail
                refine (of_any e _).mono ?_; rintro ev w19 ⟨rfl, rfl⟩
                go_wp2_with fail
                go_roundw
                case rel => exact ⟨j + 1, by omega, by go_num, by rw [HN.out], HD18.out⟩
                case measure => simp [intOf] <;> omega
            · obtain rfl : j = 5 := by omega
              rw [inN_all e]
              go_wp2_with fail
              refine (asked_num_no _ other _).mono ?_; rintro ev w20 ⟨rfl, hb20⟩
              have HB20 := Lib.hid (below_step HBq.out hb20)
              have HA20 := Lib.hid (HAq.out.below hb20)
              clear hb20
              go_wp2_with fail
              go_roundw
              case rel => exact ⟨q, by omega, by go_num, by rw [HDr.out]; exact HA20.out, by simp, below_step HB.out HB20.out⟩
              case measure => simp [intOf] <;> omega

end Go.Proofs.YtdaeiapogipjbaaDoor.Fault
