/-
  Code: the number of an error.
-/
import Derived.Test.YtdaeiapogipjbaaDoorD6
namespace Go.Proofs.YtdaeiapogipjbaaDoor.Fault
open Go Go.RowKit

/-- v is an error that was wrapped with xs, and wraps base at last -/
def At (W : World) (v : Value) (xs : List Wr) (base : Value) : Prop := ∃ p e, e 0 = v ∧ e xs.length = base ∧ Chain W.heap.size W p e xs
theorem At.below {W W' : World} {v : Value} {xs : List Wr} {base : Value} (h : At W v xs base) (hb : Below W.heap.size W W') : At W' v xs base := by
  obtain ⟨p, e, h1, h2, C⟩ := h
  exact ⟨p, e, h1, h2, (C.below hb (Nat.le_refl _)).up hb.size⟩
theorem At.nil (W : World) (v : Value) : At W v [] v := ⟨fun _ => 0, fun _ => v, rfl, rfl, ⟨fun i h => absurd h (by simp), fun i h => absurd h (by simp), fun i j _ h => absurd h (by simp), fun i h => absurd h (by simp)⟩⟩
theorem At.ifc {W : World} {v : Value} {xs : List Wr} {base : Value} (h : At W v xs base) (hb : Ifc base) : Ifc v := by
  obtain ⟨p, e, h1, h2, C⟩ := h
  rw [← h1]; exact C.ifc (by rw [h2]; exact hb) 0 (Nat.zero_le _)

theorem behind_any {w : World} {v : Value} {xs : List Wr} {base : Value} (h : At w v xs base) (hP : Plain base) (hI : Ifc base) (hlen : xs.length < 1099511627776) :
    Calls Tryd.prog 25 #[v] w fun ev w' => ev = .returned base ∧ Below w.heap.size w w' := by
  obtain ⟨p, e, h1, h2, C⟩ := h
  have := callsIn_wide.1 (behind_in p e xs w C (by rw [h2]; exact hP) (by rw [h2]; exact hI) hlen)
  rw [h1, h2] at this
  exact this

/-- the value of a number -/
def numV (e : Int) : Value := .iface 23 (.int .i64 e)
/-- the value of what has no number -/
def ownV : Value := .iface 36 (.agg #[])
theorem plain_num (e : Int) : Plain (numV e) := fun w => by unfold numV; kernel_rfl
theorem plain_own : Plain ownV := fun w => by unfold ownV; kernel_rfl
theorem plain_nil : Plain .nilIface := fun w => by kernel_rfl
theorem ifc_num (e : Int) : Ifc (numV e) := .inr ⟨_, _, rfl⟩
theorem ifc_own : Ifc ownV := .inr ⟨_, _, rfl⟩
theorem ifc_nil : Ifc .nilIface := .inl rfl

/-- a block turned, others laid -/
theorem grown_set {W W1 : World} {b : Nat} (v : Value) (hb : Below W.heap.size W W1) : W.grownBy (W1.setCell ⟨b, 0, none⟩ v) (some b) :=
  let g := grownBy_setCell' W1 b v
  ⟨g.os.trans hb.os, g.tape.trans hb.tape, g.output.trans hb.output, Nat.le_trans hb.size g.size, fun k hk hne => (g.block k (Nat.lt_of_lt_of_le hk hb.size) hne).trans (hb.block k hk)⟩
theorem below_grown {m : Nat} {W W' : World} {b : Nat} (hg : W.grownBy W' (some b)) (hm : m ≤ b) (hs : m ≤ W.heap.size) : Below m W W' :=
  ⟨hg.os, hg.tape, hg.output, hg.size, fun k hk => hg.block k (by omega) (fun e => by cases e; omega)⟩

/-- errors.As of what may be wrapped at last: n is its number, if r -/
def Asked (base : Value) (n : Int) (r : Bool) : Prop := ∀ (b : Nat) (w : World), ErrT w → Boxed w b 23 (.int .i64 0) →
  Calls Tryd.prog 24 #[base, .iface 57 (.pointer (some ⟨b, 0, none⟩))] w fun ev w' => ev = .returned (.bool r) ∧ Boxed w' b 23 (.int .i64 n) ∧ w.grownBy w' (some b)
theorem grown_up {W W' : World} (b : Nat) (h : Below W.heap.size W W') : W.grownBy W' (some b) := ⟨h.os, h.tape, h.output, h.size, fun k hk _ => h.block k hk⟩
theorem asked_nil : Asked .nilIface 0 false := fun b w hg hb =>
  (as_nil _ w).mono fun e w' ⟨h1, h2⟩ => by subst h2; exact ⟨h1, hb, grown_up b (Below.refl _ _)⟩
theorem asked_own : Asked ownV 0 false := fun b w hg hb =>
  (as_own ⟨b, 0, none⟩ _ w hg hb.cell).mono fun e w' ⟨h1, h2⟩ => ⟨h1, (h2.block b hb.lt).trans hb, grown_up b h2⟩
theorem asW_below (t : Addr) (w : World) : Below w.heap.size w (asW t w) := by
  unfold asW; exact (((Below.refl _ w).alloc (Nat.le_refl _) _).alloc (by simp) _).alloc (by simp; omega) _
theorem asked_num (e : Int) : Asked (numV e) e true := fun b w hg hb =>
  (as_num e ⟨b, 0, none⟩ _ w hg hb.cell hb.frozen).mono fun ev w' ⟨h1, h2⟩ => by
    subst h2
    have h3 : Below w.heap.size w ((asW ⟨b, 0, none⟩ w).alloc (.cells #[.int .i64 e] 23)) := (asW_below _ w).alloc (asW_below ⟨b, 0, none⟩ w).size _
    exact ⟨h1, Boxed.set (v := .int .i64 0) _ ((h3.block b hb.lt).trans hb), grown_set _ h3⟩

theorem ErrT.lt {w : World} (h : ErrT w) : 1 < w.heap.size := by
  unfold ErrT at h
  rcases Nat.lt_or_ge 1 w.heap.size with h1 | h1
  · exact h1
  · simp [World.cell?, Array.getElem?_eq_none h1] at h
theorem ErrT.below {w w' : World} (h : ErrT w) (hb : Below w.heap.size w w') : ErrT w' := (World.cell?_of_block (hb.block _ h.lt)).trans h

set_option maxRecDepth 100000 in
set_option maxHeartbeats 1000000 in
theorem code1 {a b c : Nat} {v base u : Value} {xs : List Wr} {n : Int} {r : Bool} {w : World} (hE : ErrT w) (hv : At w v xs base) (hP : Plain base) (hI : Ifc base) (hlen : xs.length < 1099511627776) (hA : Asked base n r)
    (ha : Boxed w a 29 v) (hb : Boxed w b 23 (.int .i64 0)) (hc : Boxed w c 4 u) (hbc : b ≠ c) :
    Calls Tryd.prog 23 #[.pointer (some ⟨a, 0, none⟩), .pointer (some ⟨b, 0, none⟩), .pointer (some ⟨c, 0, none⟩)] w fun e w' => e = .returned (.tuple #[]) ∧
      (Boxed w' b 23 (.int .i64 n) ∧ Boxed w' c 4 (.bool r) ∧ ∀ m, m ≤ b → m ≤ c → m ≤ w.heap.size → Below m w w') := by
  have H1 := Lib.hid (behind_any hv hP hI hlen)
  have hca := ha.cell
  have HA := Lib.hid hA
  have HE := Lib.hid hE
  have HB := Lib.hid hb
  have HC := Lib.hid hc
  clear hA hE hb hc hv ha
  go_enter Tryd.func23, Tryd.ntmps23
  go_wp2_with (go_at_call 25; refine H1.out.mono ?_; rintro ev w1 ⟨rfl, hb1⟩)
  refine (HA.out b w1 (HE.out.below hb1) ((hb1.block b HB.out.lt).trans HB.out)).mono ?_
  rintro ev w2 ⟨rfl, hB2, hg2⟩
  have hc1 : Boxed w1 c 4 u := (hb1.block c HC.out.lt).trans HC.out
  have hc2 : Boxed w2 c 4 u := hc1.kept hg2 (fun e => hbc (by cases e; rfl))
  have hc2c := hc2.cell
  have hc2f := hc2.frozen
  go_wp2
  go_end0
  refine ⟨rfl, hB2.kept (grownBy_setCell' w2 c _) (fun e => hbc (by cases e; rfl)), hc2.set _, fun m h1 h2 h3 => ?_⟩
  have k1 : Below m w w1 := hb1.mono h3
  exact (k1.trans (below_grown hg2 h1 (Nat.le_trans h3 hb1.size))).setCell (p := ⟨c, 0, none⟩) h2 _

set_option maxRecDepth 100000 in
set_option maxHeartbeats 1000000 in
/-- **Code** -/
theorem code_any {v base : Value} {xs : List Wr} {n : Int} {r : Bool} {w : World} (hE : ErrT w) (hv : At w v xs base) (hP : Plain base) (hI : Ifc base) (hlen : xs.length < 1099511627776) (hA : Asked base n r) (hn : r = false → n = 0) :
    Calls Tryd.prog 12 #[v] w fun e w' => e = .returned (.tuple #[.int .i64 n, .bool r]) ∧ Below w.heap.size w w' := by
  obtain ⟨W, hW⟩ : ∃ W, ((w.alloc (.cells #[v] 29)).alloc (.cells #[.int .i64 0] 23)).alloc (.cells #[.bool false] 4) = W := ⟨_, rfl⟩
  have hBW : Below w.heap.size w W := by rw [← hW]; exact (((Below.refl _ w).alloc (Nat.le_refl _) _).alloc (by simp) _).alloc (by simp; omega) _
  have ba : Boxed W w.heap.size 29 v := by rw [← hW]; exact ((Boxed.new w _ _).alloc _).alloc _
  have bb : Boxed W (w.heap.size + 1) 23 (.int .i64 0) := by
    rw [← hW]; have := (Boxed.new (w.alloc (.cells #[v] 29)) 23 (.int .i64 0)).alloc (.cells #[.bool false] 4); rwa [World.size_alloc] at this
  have bc : Boxed W (w.heap.size + 1 + 1) 4 (.bool false) := by
    rw [← hW]; have := Boxed.new ((w.alloc (.cells #[v] 29)).alloc (.cells #[.int .i64 0] 23)) 4 (.bool false); rwa [World.size_alloc, World.size_alloc] at this
  have hsz : W.heap.size = w.heap.size + 3 := by rw [← hW]; simp
  have HC := Lib.hid (safely_code _ _ _ W _ (code1 (hE.below hBW) (hv.below hBW) hP hI hlen hA ba bb bc (by omega)))
  have HN := Lib.hid hn
  clear hn
  have HB := Lib.hid hBW
  have hvi := hv.ifc hI
  have hmf : ∀ (fn : Fn) (first cap : Array Value) (w : World), (Instr.makeFunc fn first cap).run Tryd.prog w = .ok (.func fn first cap) w := fun _ _ _ _ => rfl
  clear hBW ba bb bc hA hE hv
  cases r
  all_goals
    rcases hvi with rfl | ⟨t, x, rfl⟩
    all_goals
      go_enter Tryd.func12, Tryd.ntmps12
      go_wp2_with (go_at_call 22; (try rw [hW]); refine HC.out.mono ?_; rintro ev w1 ⟨rfl, bn, br, hk⟩; have cn := bn.cell; have cr := br.cell; have hk1 := Lib.hid (HB.out.trans (hk w.heap.size (by omega) (by omega) (by omega))); clear hk)
      go_ret2
      first | exact ⟨rfl, hk1.out⟩ | exact ⟨by obtain rfl := HN.out trivial; rfl, hk1.out⟩

end Go.Proofs.YtdaeiapogipjbaaDoor.Fault
