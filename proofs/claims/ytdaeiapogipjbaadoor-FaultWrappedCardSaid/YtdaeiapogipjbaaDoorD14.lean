/-
  inside, of what wraps nothing; wraps: what it promises who ranges over it.
-/
import Derived.Test.YtdaeiapogipjbaaDoorD13
namespace Go.Proofs.YtdaeiapogipjbaaDoor.Fault
open Go Go.RowKit
attribute [local go_sem] Oper.semAt_some

/-- it has no Unwrap -/
def NoUnw (v : Value) : Prop := (∀ w, (Instr.typeAssert v 29 91 true).run Tryd.prog w = .ok (.tuple #[.nilIface, .bool false]) w) ∧ (∀ w, (Instr.typeAssert v 29 92 true).run Tryd.prog w = .ok (.tuple #[.nilIface, .bool false]) w)
theorem noUnw_num (n : Int) : NoUnw (numV n) := ⟨fun w => noUnwrap _ _ w, fun w => noUnwraps _ _ w⟩
theorem noUnw_own : NoUnw ownV := ⟨fun w => noUnwrapO _ _ w, fun w => noUnwrapsO _ _ w⟩
theorem noUnw_nil : NoUnw .nilIface := ⟨fun w => by kernel_rfl, fun w => by kernel_rfl⟩

set_option maxRecDepth 100000 in
set_option maxHeartbeats 1000000 in
theorem inside1 {a b : Nat} {v : Value} {w : World} (hN : NoUnw v) (hI : Ifc v) (ha : Boxed w a 29 v) :
    Calls Tryd.prog 47 #[.pointer (some ⟨a, 0, none⟩), .pointer (some ⟨b, 0, none⟩)] w fun e w' => e = .returned (.tuple #[]) ∧ w' = w := by
  have hca := ha.cell
  obtain ⟨n1, n2⟩ := hN
  clear ha
  rcases hI with rfl | ⟨t, x, rfl⟩
  all_goals
    go_enter Tryd.func47, Tryd.ntmps47
    go_wp2
    go_end0
    exact ⟨rfl, rfl⟩

set_option maxRecDepth 100000 in
set_option maxHeartbeats 1000000 in
theorem inside_any {v : Value} {w : World} (hN : NoUnw v) (hI : Ifc v) :
    Calls Tryd.prog 40 #[v] w fun e w' => e = .returned (.slice none 0 0) ∧ Below w.heap.size w w' := by
  obtain ⟨W, hW⟩ : ∃ W, (w.alloc (.cells #[v] 29)).alloc (.cells #[.slice none 0 0] 78) = W := ⟨_, rfl⟩
  have hBW : Below w.heap.size w W := by rw [← hW]; exact ((Below.refl _ w).alloc (Nat.le_refl _) _).alloc (by simp) _
  have ba : Boxed W w.heap.size 29 v := by rw [← hW]; exact (Boxed.new w _ _).alloc _
  have bb : Boxed W (w.heap.size + 1) 78 (.slice none 0 0) := by
    rw [← hW]; have := Boxed.new (w.alloc (.cells #[v] 29)) 78 (.slice none 0 0); rwa [World.size_alloc] at this
  have HC := Lib.hid (safely_inside ⟨w.heap.size, 0, none⟩ ⟨w.heap.size + 1, 0, none⟩ W _ (inside1 hN hI ba))
  have HB := Lib.hid hBW
  have hmf : ∀ (fn : Fn) (first cap : Array Value) (w : World), (Instr.makeFunc fn first cap).run Tryd.prog w = .ok (.func fn first cap) w := fun _ _ _ _ => rfl
  have cr := bb.cell
  have fr := bb.frozen
  have hbr := Lib.hid bb
  clear hBW ba bb hN
  rcases hI with rfl | ⟨t, x, rfl⟩
  all_goals
    go_enter Tryd.func40, Tryd.ntmps40
    go_wp2_with (go_at_call 22; (try rw [hW]); refine HC.out.mono ?_; rintro ev w1 ⟨rfl, rfl⟩)
    refine bodyPost_ret (v := .slice none 0 0) ?_ rfl ⟨rfl, HB.out.setCell (p := ⟨w.heap.size + 1, 0, none⟩) (by show w.heap.size ≤ w.heap.size + 1; omega) _⟩
    have := (hbr.out.set (.slice none 0 0)).cell
    simp [results, Tryd.results40, go_sem, this]

/-- wraps: its function value, and the box that it captures -/
theorem wraps_in (n : Nat) (v : Value) (hv : Ifc v) (w : World) :
    CallsIn Fence.wide n Tryd.prog 26 #[v] w fun e w' => e = .returned (.func (.func 39) #[] #[.pointer (some ⟨w.heap.size, 0, none⟩)]) ∧ w' = w.alloc (.cells #[v] 29) := by
  refine callsIn_of_wp Tryd.func26 rfl trivial ?_ rfl
  simp only [Tryd.ntmps26, List.size_toArray, List.length_cons, List.length_nil, Nat.reduceAdd, Nat.reduceSub, Array.replicate_succ, Array.replicate_zero, List.push_toArray, List.append_toArray, List.nil_append, List.cons_append]
  have hmf : ∀ (fn : Fn) (first cap : Array Value) (w : World), (Instr.makeFunc fn first cap).run Tryd.prog w = .ok (.func fn first cap) w := fun _ _ _ _ => rfl
  rcases hv with rfl | ⟨t, x, rfl⟩
  all_goals (gi_wp2; go_ret; exact ⟨rfl, rfl⟩)

/-- what a region leaves that ends normally -/
def After (A : Act) (X : World) : Exit → Act → World → Prop
  | .normal, a', X' => a' = A ∧ Below X.heap.size X X'
  | _, _, _ => False
theorem after_normal {A : Act} {X : World} {ex : Exit} {a' : Act} {X' : World} (h : After A X ex a' X') : ex = .normal ∧ a' = A ∧ Below X.heap.size X X' := by
  cases ex <;> first | exact ⟨rfl, h⟩ | exact h.elim

set_option maxRecDepth 100000 in
set_option maxHeartbeats 4000000 in
/-- **wraps**: it hands over the Errors at the front, and no others -/
theorem wraps_seq (o b : Nat) (p : Nat → Nat) (e : Nat → Value) (xs : List Wr) (base : Value) (w : World) (hB : Boxed w b 29 (e 0)) (C : Chain o w p e xs) (hob : o ≤ b) (hbase : e xs.length = base) (hP : Plain base) (hI : Ifc base) (hN : NoUnw base) (hlen : xs.length < 1099511627776) :
    Seq Tryd.prog 39 #[.pointer (some ⟨b, 0, none⟩)] (fun i => .pointer (some ⟨p i, 0, none⟩)) xs.length o b w := by
  intro l J Jx W hW hs hJ hJx hY h0
  have hbw := hB.lt
  have hB0 : Boxed W b 29 (e 0) := (hW.block b hbw).trans hB
  have C0 : Chain o W p e xs := C.below hW (by omega)
  have hcb := (hB0.alloc (.cells #[.func (.yield l) #[] #[]] 77)).cell
  have he0 : Ifc (e 0) := C.ifc (by rw [hbase]; exact hI) 0 (Nat.zero_le _)
  have hfr := fun W => front_in 0 (e 0) he0 W
  clear hW hB C
  obtain ⟨W0, hW0⟩ : ∃ W0, ((W.alloc (.cells #[.func (.yield l) #[] #[]] 77)).alloc (.cells #[e 0] 29)).alloc (.cells #[e 0] 29) = W0 := ⟨_, rfl⟩
  have hsz : W0.heap.size = W.heap.size + 3 := by rw [← hW0]; simp
  have bY : Boxed W0 W.heap.size 77 (.func (.yield l) #[] #[]) := by rw [← hW0]; exact ((Boxed.new W _ _).alloc _).alloc _
  have bR : W0.heap[W.heap.size + 1]? = some (.cells #[e 0] 29 (0, 0)) := by
    rw [← hW0]; have := (Boxed.new (W.alloc (.cells #[.func (.yield l) #[] #[]] 77)) 29 (e 0)).alloc (.cells #[e 0] 29); rw [World.size_alloc] at this; exact this
  have bB : Boxed W0 (W.heap.size + 2) 29 (e 0) := by
    rw [← hW0]; have := Boxed.new ((W.alloc (.cells #[.func (.yield l) #[] #[]] 77)).alloc (.cells #[e 0] 29)) 29 (e 0); rw [World.size_alloc, World.size_alloc] at this; exact this
  have hBW : Below W.heap.size W W0 := by rw [← hW0]; exact (((Below.refl _ W).alloc (Nat.le_refl _) _).alloc (by simp) _).alloc (by simp; omega) _
  have hbe : ∀ X, Chain o X p e xs → o ≤ X.heap.size → Calls Tryd.prog 25 #[e 0] X fun ev w' => ev = .returned base ∧ Below X.heap.size X w' := fun X hX hoX =>
    behind_any ⟨p, e, rfl, hbase, hX.up hoX⟩ hP hI hlen
  have hbW : b < W.heap.size := by omega
  have hoW : o ≤ W.heap.size := by omega
  have HOB := Lib.hid hob
  have HS := Lib.hid hs
  have HLEN := Lib.hid hlen
  refine callsIn_of_wp_marks Tryd.func39 rfl trivial ?_ rfl
  simp only [Tryd.ntmps39, List.size_toArray, List.length_cons, List.length_nil, Nat.reduceAdd, Nat.reduceSub, Array.replicate_succ, Array.replicate_zero, List.push_toArray, List.append_toArray, List.nil_append, List.cons_append]
  obtain ⟨v, hv⟩ : ∃ v, e 0 = v := ⟨_, rfl⟩
  have he0' := he0
  rw [hv] at he0 hfr hcb hW0 hbe bR
  clear hs hob hlen hB0
  rcases he0 with rfl | ⟨t, x, rfl⟩
  · gi_wp2
    refine wpIn_loop_rounds 2 ?_
    rw [roundsIn_succ]
    gi_wp2_with (refine ⟨trivial, rfl, ?_⟩; gi_at_call 38; refine (hfr _).mono ?_; rintro ev w' ⟨rfl, rfl⟩)
    try rw [hW0]
    clear hfr; try clear hW0
    clear hcb
    refine ranged (gf := 46) (lb := #[.pointer (some ⟨W.heap.size + 2, 0, none⟩)]) (N := xs.length) (o := o) (b := W.heap.size + 2) rfl (enters_of Tryd.func46 (by kernel_rfl) rfl) (by omega) (by omega) rfl
      (front_seq o (W.heap.size + 2) p e xs W0 bB (C0.below hBW hoW) (by omega) (by rw [hbase]; exact hP) (by rw [hbase]; exact hI) HLEN.out)
      (fun hi i X => J hi i X ∧ Boxed X W.heap.size 77 (.func (.yield l) #[] #[]) ∧ X.heap[W.heap.size + 1]? = some (.cells #[_] 29 (0, 0)) ∧ Chain o X p e xs) (fun c hi X => c = .ret ∧ Jx hi X)
      (fun hi i hh => ((hJ hi i (by omega)).mono (fun r hr => by omega)).and ((stays_boxed (by omega) _ _).and ((stays_obj (by omega) _).and (stays_chain (by omega)))))
      (fun c hi hh => (stays_pure _ _).and ((hJx hi (by omega)).mono (fun r hr => by omega)))
      (fun X hb hx => ⟨h0 X (hBW.trans (hb.mono (by omega))), (hb.block _ (by omega)).trans bY, (hb.block _ (by omega)).trans bR, (C0.below hBW hoW).below hb (by omega)⟩) ?_ ?assign ?body ?done ?stop
    case assign =>
      intro l2 i X K hi hK
      gi_wp2
      exact hK
    case body =>
      rintro l2 hi i X hh1 hh2 hi' ⟨hj, hbx, hrow, hC⟩
      have hcy := hbx.cell
      obtain ⟨fn, tmps, assign, body, hy, hR⟩ := hY hi i X (by omega) hh2 hi' hj
      have HBX := Lib.hid hbx
      have HROW := Lib.hid hrow
      have HC := Lib.hid hC
      clear hbx hrow hC hj
      gi_wp2
      refine ⟨rfl, RoundIn.mono hR ?_⟩
      rintro ev X' (⟨rfl, hj', hk⟩ | ⟨rfl, hjx', hk⟩)
      · have K1 := Lib.hid (show Kp o W0.heap.size (W.heap.size + 2) hi X X' from ⟨hk.size, fun r h1 h2 => hk.same r h1 (by omega)⟩)
        have K2 := Lib.hid ((hk.same W.heap.size (by omega) (by omega)).trans HBX.out)
        have K3 := Lib.hid ((hk.same (W.heap.size + 1) (by omega) (by omega)).trans HROW.out)
        have K4 := Lib.hid (HC.out.same fun r hr => hk.same r (by omega) (.inl hr))
        have KJ := Lib.hid hj'
        clear hk hj'
        gi_wp2
        exact ⟨K1.out, KJ.out, K2.out, K3.out, K4.out⟩
      · have K1 := Lib.hid (show Kp o W0.heap.size (W.heap.size + 2) hi X X' from ⟨hk.size, fun r h1 h2 => hk.same r h1 (by omega)⟩)
        have KJ := Lib.hid hjx'
        clear hk hjx'
        gi_wp2
        exact ⟨K1.out, rfl, KJ.out⟩
    case done =>
      rintro hi X hh1 hh2 ⟨hj, hbx, hrow, hC⟩ hK
      have HBE := Lib.hid (fun Y (hY : Below X.heap.size X Y) => hbe Y (hC.below hY (by omega)) (by have := hY.size; omega))
      have HJ := Lib.hid hj
      have HK := Lib.hid hK
      have hmx : Tryd.prog.follows .mixedOrders = true := by kernel_rfl
      have HIN := Lib.hid (fun Y : World => inside_any (w := Y) hN hI)
      clear hj hbx hC hK hbe
      gi_wp2
      refine wpIn_mono (Q := After { tmps := #[.func (.yield l) #[] #[], .pointer (some ⟨b, 0, none⟩), .pointer (some ⟨W.heap.size, 0, none⟩), .slice (some ⟨W.heap.size + 1, 0, none⟩) 0 1, .int .i64 0, .nilIface, undef, .nilIface, .slice (some ⟨W.heap.size + 1, 0, none⟩) 1 1, .slice (some ⟨W.heap.size + 1, 0, none⟩) 1 1, .int .i64 1, .bool true, .slice (some ⟨W.heap.size + 1, 0, none⟩) 1 1, .int .i64 1, .int .i64 0, .slice (some ⟨W.heap.size + 1, 0, none⟩) 1 1, .int .i64 0, .pointer (some ⟨W.heap.size + 1, 0, none⟩), .nilIface, .nilIface, .func (.func 46) #[] #[.pointer (some ⟨W.heap.size + 1 + 1, 0, none⟩)], undef, undef, undef, undef, undef, .slice (some ⟨W.heap.size + 1, 0, none⟩) 1 1, .int .i64 0, .slice (some ⟨W.heap.size + 1, 0, none⟩) 0 1, .nilIface, base, .slice none 0 0, .slice (some ⟨W.heap.size + 1, 0, none⟩) 0 1], defers := [{ target := .collected (W.heap.size + 3), args := #[] }] } X) ?region ?after
      case region =>
        gi_region_with_o (first | (refine ⟨trivial, rfl, ?_⟩; gi_at_call 25; refine (callsIn_wide.2 (HBE.out _ (below_drew _ _))).mono ?_; rintro ev w1 ⟨rfl, hb1⟩; have HB1 := Lib.hid hb1; clear hb1) | (refine ⟨trivial, rfl, ?_⟩; gi_at_call 40; refine (callsIn_wide.2 (HIN.out _)).mono ?_; rintro ev w2 ⟨rfl, hb2⟩; have HB2 := Lib.hid hb2; clear hb2))
        all_goals exact ⟨rfl, (below_drew X.heap.size X).trans (HB1.out.trans (HB2.out.mono HB1.out.size))⟩
      case after =>
        intro ex a' X' hq
        obtain ⟨rfl, rfl, hb⟩ := after_normal hq
        have hK1 : X'.heap[W.heap.size + 3]? = some (.deferred (some [])) := by rw [← hsz]; exact (hb.block _ (by omega)).trans HK.out
        have hJ1 := (hJ hi xs.length (by omega)).below HJ.out hb
        have hs1 : hi ≤ X'.heap.size := Nat.le_trans hh2 hb.size
        have HH := Lib.hid (show W.heap.size ≤ W.heap.size + 3 ∧ W.heap.size + 3 < hi from by omega)
        clear hb
        gi_wp2
        rw [roundsIn_succ]
        gi_wp2
        refine ⟨by simp, .inl ⟨_, _, rfl, run_takeDeferred hK1, ?_⟩⟩
        exact ⟨_, results_none rfl _ _ _, ⟨_, rfl⟩, hi, by omega, by simp; exact hs1, .inl ((hJ hi _ (by omega)).put hJ1 (.inr HH.out) _)⟩
    case stop =>
      rintro hi c X hh1 hh2 ⟨rfl, hjx⟩ hK
      gi_wp2
      refine ⟨by simp, .inl ⟨_, _, rfl, run_takeDeferred hK, ?_⟩⟩
      exact ⟨_, results_none rfl _ _ _, ⟨_, rfl⟩, hi, by omega, by simp; exact hh2, .inr ((hJx hi (by omega)).put hjx (by omega) _)⟩

  · gi_wp2
    refine wpIn_loop_rounds 2 ?_
    rw [roundsIn_succ]
    gi_wp2_with (refine ⟨trivial, rfl, ?_⟩; gi_at_call 38; refine (hfr _).mono ?_; rintro ev w' ⟨rfl, rfl⟩)
    try rw [hW0]
    clear hfr; try clear hW0
    clear hcb
    refine ranged (gf := 46) (lb := #[.pointer (some ⟨W.heap.size + 2, 0, none⟩)]) (N := xs.length) (o := o) (b := W.heap.size + 2) rfl (enters_of Tryd.func46 (by kernel_rfl) rfl) (by omega) (by omega) rfl
      (front_seq o (W.heap.size + 2) p e xs W0 bB (C0.below hBW hoW) (by omega) (by rw [hbase]; exact hP) (by rw [hbase]; exact hI) HLEN.out)
      (fun hi i X => J hi i X ∧ Boxed X W.heap.size 77 (.func (.yield l) #[] #[]) ∧ X.heap[W.heap.size + 1]? = some (.cells #[_] 29 (0, 0)) ∧ Chain o X p e xs) (fun c hi X => c = .ret ∧ Jx hi X)
      (fun hi i hh => ((hJ hi i (by omega)).mono (fun r hr => by omega)).and ((stays_boxed (by omega) _ _).and ((stays_obj (by omega) _).and (stays_chain (by omega)))))
      (fun c hi hh => (stays_pure _ _).and ((hJx hi (by omega)).mono (fun r hr => by omega)))
      (fun X hb hx => ⟨h0 X (hBW.trans (hb.mono (by omega))), (hb.block _ (by omega)).trans bY, (hb.block _ (by omega)).trans bR, (C0.below hBW hoW).below hb (by omega)⟩) ?_ ?assign ?body ?done ?stop
    case assign =>
      intro l2 i X K hi hK
      gi_wp2
      exact hK
    case body =>
      rintro l2 hi i X hh1 hh2 hi' ⟨hj, hbx, hrow, hC⟩
      have hcy := hbx.cell
      obtain ⟨fn, tmps, assign, body, hy, hR⟩ := hY hi i X (by omega) hh2 hi' hj
      have HBX := Lib.hid hbx
      have HROW := Lib.hid hrow
      have HC := Lib.hid hC
      clear hbx hrow hC hj
      gi_wp2
      refine ⟨rfl, RoundIn.mono hR ?_⟩
      rintro ev X' (⟨rfl, hj', hk⟩ | ⟨rfl, hjx', hk⟩)
      · have K1 := Lib.hid (show Kp o W0.heap.size (W.heap.size + 2) hi X X' from ⟨hk.size, fun r h1 h2 => hk.same r h1 (by omega)⟩)
        have K2 := Lib.hid ((hk.same W.heap.size (by omega) (by omega)).trans HBX.out)
        have K3 := Lib.hid ((hk.same (W.heap.size + 1) (by omega) (by omega)).trans HROW.out)
        have K4 := Lib.hid (HC.out.same fun r hr => hk.same r (by omega) (.inl hr))
        have KJ := Lib.hid hj'
        clear hk hj'
        gi_wp2
        exact ⟨K1.out, KJ.out, K2.out, K3.out, K4.out⟩
      · have K1 := Lib.hid (show Kp o W0.heap.size (W.heap.size + 2) hi X X' from ⟨hk.size, fun r h1 h2 => hk.same r h1 (by omega)⟩)
        have KJ := Lib.hid hjx'
        clear hk hjx'
        gi_wp2
        exact ⟨K1.out, rfl, KJ.out⟩
    case done =>
      rintro hi X hh1 hh2 ⟨hj, hbx, hrow, hC⟩ hK
      have HBE := Lib.hid (fun Y (hY : Below X.heap.size X Y) => hbe Y (hC.below hY (by omega)) (by have := hY.size; omega))
      have HJ := Lib.hid hj
      have HK := Lib.hid hK
      have hmx : Tryd.prog.follows .mixedOrders = true := by kernel_rfl
      have HIN := Lib.hid (fun Y : World => inside_any (w := Y) hN hI)
      clear hj hbx hC hK hbe
      gi_wp2
      refine wpIn_mono (Q := After { tmps := #[.func (.yield l) #[] #[], .pointer (some ⟨b, 0, none⟩), .pointer (some ⟨W.heap.size, 0, none⟩), .slice (some ⟨W.heap.size + 1, 0, none⟩) 0 1, .int .i64 0, .iface t x, undef, .iface t x, .slice (some ⟨W.heap.size + 1, 0, none⟩) 1 1, .slice (some ⟨W.heap.size + 1, 0, none⟩) 1 1, .int .i64 1, .bool true, .slice (some ⟨W.heap.size + 1, 0, none⟩) 1 1, .int .i64 1, .int .i64 0, .slice (some ⟨W.heap.size + 1, 0, none⟩) 1 1, .int .i64 0, .pointer (some ⟨W.heap.size + 1, 0, none⟩), .iface t x, .iface t x, .func (.func 46) #[] #[.pointer (some ⟨W.heap.size + 1 + 1, 0, none⟩)], undef, undef, undef, undef, undef, .slice (some ⟨W.heap.size + 1, 0, none⟩) 1 1, .int .i64 0, .slice (some ⟨W.heap.size + 1, 0, none⟩) 0 1, .iface t x, base, .slice none 0 0, .slice (some ⟨W.heap.size + 1, 0, none⟩) 0 1], defers := [{ target := .collected (W.heap.size + 3), args := #[] }] } X) ?region ?after
      case region =>
        gi_region_with_o (first | (refine ⟨trivial, rfl, ?_⟩; gi_at_call 25; refine (callsIn_wide.2 (HBE.out _ (below_drew _ _))).mono ?_; rintro ev w1 ⟨rfl, hb1⟩; have HB1 := Lib.hid hb1; clear hb1) | (refine ⟨trivial, rfl, ?_⟩; gi_at_call 40; refine (callsIn_wide.2 (HIN.out _)).mono ?_; rintro ev w2 ⟨rfl, hb2⟩; have HB2 := Lib.hid hb2; clear hb2))
        all_goals exact ⟨rfl, (below_drew X.heap.size X).trans (HB1.out.trans (HB2.out.mono HB1.out.size))⟩
      case after =>
        intro ex a' X' hq
        obtain ⟨rfl, rfl, hb⟩ := after_normal hq
        have hK1 : X'.heap[W.heap.size + 3]? = some (.deferred (some [])) := by rw [← hsz]; exact (hb.block _ (by omega)).trans HK.out
        have hJ1 := (hJ hi xs.length (by omega)).below HJ.out hb
        have hs1 : hi ≤ X'.heap.size := Nat.le_trans hh2 hb.size
        have HH := Lib.hid (show W.heap.size ≤ W.heap.size + 3 ∧ W.heap.size + 3 < hi from by omega)
        clear hb
        gi_wp2
        rw [roundsIn_succ]
        gi_wp2
        refine ⟨by simp, .inl ⟨_, _, rfl, run_takeDeferred hK1, ?_⟩⟩
        exact ⟨_, results_none rfl _ _ _, ⟨_, rfl⟩, hi, by omega, by simp; exact hs1, .inl ((hJ hi _ (by omega)).put hJ1 (.inr HH.out) _)⟩
    case stop =>
      rintro hi c X hh1 hh2 ⟨rfl, hjx⟩ hK
      gi_wp2
      refine ⟨by simp, .inl ⟨_, _, rfl, run_takeDeferred hK, ?_⟩⟩
      exact ⟨_, results_none rfl _ _ _, ⟨_, rfl⟩, hi, by omega, by simp; exact hh2, .inr ((hJx hi (by omega)).put hjx (by omega) _)⟩

end Go.Proofs.YtdaeiapogipjbaaDoor.Fault
