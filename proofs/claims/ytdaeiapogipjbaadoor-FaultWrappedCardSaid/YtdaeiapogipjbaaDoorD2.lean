/-
  Errors that wrap one another, as they lie in memory; front: what it promises who ranges over it.
-/
import Derived.Test.YtdaeiapogipjbaaDoorD1
import Derived.Test.YtdaeiapogipjbaaDoorChecked
import Derived.LaidEqlPtr
import Derived.Lib.Hide
namespace Go.Proofs.YtdaeiapogipjbaaDoor.Fault
open Go Go.RowKit
attribute [local go_sem] Oper.semAt_some

/-- what an error is wrapped with -/
structure Wr where
  op : ByteArray
  nm : ByteArray
  pl : Int
instance : Inhabited Wr := ⟨⟨⟨#[]⟩, ⟨#[]⟩, 0⟩⟩

/-- errors that wrap one another: e 0 is the outermost one; the i-th lies in block p i, and wraps e (i + 1); they lie below n, each below the one that wraps it -/
structure Chain (n : Nat) (W : World) (p : Nat → Nat) (e : Nat → Value) (xs : List Wr) : Prop where
  head : ∀ i, i < xs.length → e i = .iface 51 (.pointer (some ⟨p i, 0, none⟩))
  lt : ∀ i, i < xs.length → p i < n
  dec : ∀ i j, i < j → j < xs.length → p j < p i
  obj : ∀ i, i < xs.length → W.heap[p i]? = some (.cells #[.string (xs.getD i default).op, .string (xs.getD i default).nm, .int .i64 (xs.getD i default).pl, e (i + 1)] 53 (0, 0))
section
variable {n : Nat} {W : World} {p : Nat → Nat} {e : Nat → Value} {xs : List Wr}
theorem Chain.c0 (h : Chain n W p e xs) (i : Nat) (hi : i < xs.length) : W.cell? ⟨p i, 0, none⟩ = some (.string (xs.getD i default).op) := by simp [World.cell?, h.obj i hi]
theorem Chain.c1 (h : Chain n W p e xs) (i : Nat) (hi : i < xs.length) : W.cell? ⟨p i, 1, none⟩ = some (.string (xs.getD i default).nm) := by simp [World.cell?, h.obj i hi]
theorem Chain.c2 (h : Chain n W p e xs) (i : Nat) (hi : i < xs.length) : W.cell? ⟨p i, 2, none⟩ = some (.int .i64 (xs.getD i default).pl) := by simp [World.cell?, h.obj i hi]
theorem Chain.c3 (h : Chain n W p e xs) (i : Nat) (hi : i < xs.length) : W.cell? ⟨p i, 3, none⟩ = some (e (i + 1)) := by simp [World.cell?, h.obj i hi]
end
theorem Chain.same {n : Nat} {W W' : World} {p : Nat → Nat} {e : Nat → Value} {xs : List Wr} (h : Chain n W p e xs) (hs : ∀ r, r < n → W'.heap[r]? = W.heap[r]?) : Chain n W' p e xs :=
  ⟨h.head, h.lt, h.dec, fun i hi => (hs _ (h.lt i hi)).trans (h.obj i hi)⟩
theorem Chain.below {n m : Nat} {W W' : World} {p : Nat → Nat} {e : Nat → Value} {xs : List Wr} (h : Chain n W p e xs) (hb : Below m W W') (hm : n ≤ m) : Chain n W' p e xs := h.same fun r hr => hb.block r (by omega)
theorem Chain.up {n m : Nat} {W : World} {p : Nat → Nat} {e : Nat → Value} {xs : List Wr} (h : Chain n W p e xs) (hm : n ≤ m) : Chain m W p e xs := { h with lt := fun i hi => Nat.lt_of_lt_of_le (h.lt i hi) hm }

/-- an interface's value -/
def Ifc (v : Value) : Prop := v = .nilIface ∨ ∃ t x, v = .iface t x
theorem Chain.ifc {n : Nat} {W : World} {p : Nat → Nat} {e : Nat → Value} {xs : List Wr} (h : Chain n W p e xs) (hl : Ifc (e xs.length)) (i : Nat) (hi : i ≤ xs.length) : Ifc (e i) := by
  rcases Nat.lt_or_ge i xs.length with h1 | h1
  · exact .inr ⟨_, _, h.head i h1⟩
  · obtain rfl : i = xs.length := by omega
    exact hl

/-- what is wrapped at last: no Error -/
def Plain (v : Value) : Prop := ∀ w, (Instr.typeAssert v 29 51 true).run Tryd.prog w = .ok (.tuple #[.pointer none, .bool false]) w

set_option maxHeartbeats 1000000 in
/-- front: its function value, and the box that it captures -/
theorem front_in (n : Nat) (v : Value) (hv : Ifc v) (w : World) :
    CallsIn Fence.wide n Tryd.prog 38 #[v] w fun e w' => e = .returned (.func (.func 46) #[] #[.pointer (some ⟨w.heap.size, 0, none⟩)]) ∧ w' = w.alloc (.cells #[v] 29) := by
  refine callsIn_of_wp Tryd.func38 rfl trivial ?_ rfl
  simp only [Tryd.ntmps38, List.size_toArray, List.length_cons, List.length_nil, Nat.reduceAdd, Nat.reduceSub, Array.replicate_succ, Array.replicate_zero, List.push_toArray, List.append_toArray, List.nil_append, List.cons_append]
  have hmf : ∀ (fn : Fn) (first cap : Array Value) (w : World), (Instr.makeFunc fn first cap).run Tryd.prog w = .ok (.func fn first cap) w := fun _ _ _ _ => rfl
  rcases hv with rfl | ⟨t, x, rfl⟩
  all_goals (gi_wp2; go_ret; exact ⟨rfl, rfl⟩)

theorem asserted (a : Option Addr) (w : World) : (Instr.typeAssert (.iface 51 (.pointer a)) 29 51 true).run Tryd.prog w = .ok (.tuple #[.pointer a, .bool true]) w := by kernel_rfl
theorem errInfo : (Tryd.prog.info? 53).map (·.size) = some 4 := by kernel_rfl
theorem ptr_ne {a c : Nat} {ca cc : Array Value} (h : a ≠ c) {w : World} (ha : w.heap[a]? = some (.cells ca 53 (0, 0))) (hc : w.heap[c]? = some (.cells cc 53 (0, 0))) :
    (binOp BinOp.eql 51 (.pointer (some ⟨a, 0, none⟩)) (.pointer (some ⟨c, 0, none⟩))).run Tryd.prog w = .ok (.bool false) w := by
  obtain ⟨j, hj, hs⟩ := Option.map_eq_some_iff.1 errInfo
  exact run_eql_ptr_other w Tryd.underlying51 hj (by rw [hs]; decide) (fun e => h (by cases e; rfl)) ha hc
theorem no_yield_wide (o : Option FuncId) : ∀ f, o = some f → Fence.wide.fn f := fun _ _ => trivial

set_option maxRecDepth 100000 in
set_option maxHeartbeats 4000000 in
/-- **front**: it hands over the Errors at the front -/
theorem front_seq (o b : Nat) (p : Nat → Nat) (e : Nat → Value) (xs : List Wr) (w : World) (hB : Boxed w b 29 (e 0)) (C : Chain o w p e xs) (hob : o ≤ b) (hP : Plain (e xs.length)) (hlast : Ifc (e xs.length)) (hlen : xs.length < 1099511627776) :
    Seq Tryd.prog 46 #[.pointer (some ⟨b, 0, none⟩)] (fun i => .pointer (some ⟨p i, 0, none⟩)) xs.length o b w := by
  intro l J Jx W hW hs hJ hJx hY h0
  have hbw := hB.lt
  obtain ⟨S, hS⟩ : ∃ S, W.heap.size = S := ⟨_, rfl⟩
  rw [hS] at hs hJ hJx hY h0
  have hJ0 : J S 0 W := by have := h0 W (Below.refl _ _); rwa [hS] at this
  have hB0 : Boxed W b 29 (e 0) := (hW.block b hbw).trans hB
  have C0 : Chain o W p e xs := C.below hW (by omega)
  have aE := asserted
  refine callsIn_of_wp Tryd.func46 rfl trivial ?_ rfl
  simp only [Tryd.ntmps46, List.size_toArray, List.length_cons, List.length_nil, Nat.reduceAdd, Nat.reduceSub, Array.replicate_succ, Array.replicate_zero, List.push_toArray, List.append_toArray, List.nil_append, List.cons_append]
  clear hW hB C
  gi_wp2
  gi_loopw [3, 4] (fun mk nn wr => ∃ i, i ≤ xs.length ∧ nn = .int .i64 ((i : Int) + 1) ∧ (mk = .pointer none ∨ ∃ j, j < i ∧ mk = .pointer (some ⟨p j, 0, none⟩)) ∧ Boxed wr b 29 (e i) ∧ Chain o wr p e xs ∧ J S i wr ∧ S ≤ wr.heap.size)
    (fun _ nn _ => xs.length + 2 - (intOf nn).toNat)
  case atStart =>
    exact ⟨0, Nat.zero_le _, rfl, .inl rfl, hB0, C0, hJ0, by omega⟩
  case round =>
    obtain ⟨i, hi, rfl, hmk, hBi, Ci, hJi, hSi⟩ := hrel
    have hc := hBi.cell
    have hfz := hBi.frozen
    rcases Nat.lt_or_ge i xs.length with hlt | hge
    · have hh := Ci.head i hlt
      have hmf : (binOp BinOp.eql 51 (.pointer (some ⟨p i, 0, none⟩)) u3).run Tryd.prog wr = .ok (.bool false) wr := by
        rcases hmk with rfl | ⟨j, hj, rfl⟩
        · kernel_rfl
        · exact ptr_ne (fun e => by have := Ci.dec j i hj hlt; omega) (Ci.obj i hlt) (Ci.obj j (by omega))
      rw [hh] at hc
      obtain ⟨fn, tmps, assign, body, hy, hR⟩ := hY S i wr (Nat.le_refl _) hSi hlt hJi
      gi_wp2
      refine ⟨rfl, hR.mono ?_⟩
      rintro ev W3 (⟨rfl, hJ3, hk3⟩ | ⟨rfl, hJx3, hk3⟩)
      · have hpl := Ci.lt i hlt
        have hB3 : Boxed W3 b 29 (e i) := (hk3.same b (by omega) (.inr (.inl rfl))).trans hBi
        have hcB3 := hB3.cell
        have hfB3 := hB3.frozen
        have C3 : Chain o W3 p e xs := Ci.same fun r hr => hk3.same r (by omega) (.inl hr)
        have hc3 := C3.c3 i hlt
        have hnx : Ifc (e (i + 1)) := C3.ifc hlast (i + 1) (by omega)
        have em : xs.length + 2 - (intOf (Value.int IntKind.i64 ((i : Int) + 1 + 1))).toNat < xs.length + 2 - (intOf (Value.int IntKind.i64 ((i : Int) + 1))).toNat := by simp only [intOf]; omega
        have fin : ∀ (u v : Value), e (i + 1) = v → (u = .pointer none ∨ ∃ j, j < i + 1 ∧ u = .pointer (some ⟨p j, 0, none⟩)) → ∃ i_1, i_1 ≤ xs.length ∧ Value.int IntKind.i64 ((i : Int) + 1 + 1) = .int .i64 ((i_1 : Int) + 1) ∧ (u = .pointer none ∨ ∃ j, j < i_1 ∧ u = .pointer (some ⟨p j, 0, none⟩)) ∧
            Boxed (W3.setCell ⟨b, 0, none⟩ v) b 29 (e i_1) ∧ Chain o (W3.setCell ⟨b, 0, none⟩ v) p e xs ∧ J S i_1 (W3.setCell ⟨b, 0, none⟩ v) ∧ S ≤ (W3.setCell ⟨b, 0, none⟩ v).heap.size := fun u v hv hu =>
          ⟨i + 1, by omega, by simp, hu, by rw [hv]; exact hB3.set _, C3.same fun r hr => Below.heap_setCell _ _ _ r (by show r ≠ b; omega), (hJ S _ (Nat.le_refl _)).set hJ3 (.inl rfl) _, Nat.le_trans hSi (Nat.le_trans hk3.size (grownBy_setCell' W3 b v).size)⟩
        have hmk2 : u3 = .pointer none ∨ ∃ j, j < i + 1 ∧ u3 = .pointer (some ⟨p j, 0, none⟩) := hmk.imp id (fun ⟨j, h1, h2⟩ => ⟨j, by omega, h2⟩)
        have hmk3 : Value.pointer (some ⟨p i, 0, none⟩) = .pointer none ∨ ∃ j, j < i + 1 ∧ Value.pointer (some ⟨p i, 0, none⟩) = .pointer (some ⟨p j, 0, none⟩) := .inr ⟨i, by omega, rfl⟩
        have F := Lib.hid fin
        have M2 := Lib.hid hmk2
        have M3 := Lib.hid hmk3
        have EM := Lib.hid em
        clear fin hmk2 hmk3 em hmk
        rcases hnx with hnx | ⟨nt, nv, hnx⟩
        all_goals
          rw [hnx] at hc3
          gi_wp2
        all_goals first | exact ⟨F.out _ _ hnx M3.out, EM.out⟩ | exact ⟨F.out _ _ hnx M2.out, EM.out⟩
      · gi_wp2
        refine bodyPost_ret (results_none rfl _ _ _) rfl ?_
        exact ⟨⟨_, rfl⟩, S, by omega, by have := hk3.size; omega, .inr hJx3⟩
    · obtain rfl : i = xs.length := by omega
      have hP' := hP
      unfold Plain at hP'
      gi_wp2
      refine ⟨no_yield_wide _, ?_⟩
      gi_wp2
      refine bodyPost_ret (results_none rfl _ _ _) rfl ?_
      exact ⟨⟨_, rfl⟩, S, by omega, by omega, .inl hJi⟩

end Go.Proofs.YtdaeiapogipjbaaDoor.Fault
