/-
  Is, Of, In, Wrap, and an Error's own Unwrap and Is.
-/
import Derived.Test.YtdaeiapogipjbaaDoorD7
import Derived.Deep.RegionWith
namespace Go.Proofs.YtdaeiapogipjbaaDoor.Fault
open Go Go.RowKit

/-- errors.Is of what may be wrapped at last -/
def IsAsk (base : Value) (n : Int) (r : Bool) : Prop := ∀ w, Calls Tryd.prog 29 #[base, numV n] w fun ev w' => ev = .returned (.bool r) ∧ w' = w
theorem isAsk_nil (n : Int) : IsAsk .nilIface n false := is_nil n
theorem isAsk_num (a n : Int) : IsAsk (numV a) n (a == n) := is_num a n

theorem below_drew (n : Nat) (w : World) : Below n w w.drew := ⟨rfl, rfl, rfl, Nat.le_refl _, fun _ _ => rfl⟩
set_option maxRecDepth 100000 in
set_option maxHeartbeats 1000000 in
theorem is1 {a b c : Nat} {v base u : Value} {xs : List Wr} {n : Int} {r : Bool} {w : World} (hv : At w v xs base) (hP : Plain base) (hI : Ifc base) (hlen : xs.length < 1099511627776) (hA : IsAsk base n r)
    (ha : Boxed w a 29 v) (hb : Boxed w b 23 (.int .i64 n)) (hc : Boxed w c 4 u) :
    Calls Tryd.prog 28 #[.pointer (some ⟨a, 0, none⟩), .pointer (some ⟨b, 0, none⟩), .pointer (some ⟨c, 0, none⟩)] w fun e w' => e = .returned (.tuple #[]) ∧
      (Boxed w' c 4 (.bool r) ∧ ∀ m, m ≤ c → m ≤ w.heap.size → Below m w w') := by
  have hca := ha.cell
  have hcb := hb.cell
  have HBe := Lib.hid (behind_any (w := w.drew) (hv.below (below_drew _ w)) hP hI hlen)
  have HA := Lib.hid hA
  have HB := Lib.hid hb
  have HC := Lib.hid hc
  have hmx : Tryd.prog.follows .mixedOrders = true := by kernel_rfl
  clear hA hb hc hv ha hP hI
  go_enter Tryd.func28, Tryd.ntmps28
  go_region_with (first | (go_at_call 25; refine HBe.out.mono ?_; rintro ev w1 ⟨rfl, hb1⟩; have hcb1 : w1.cell? ⟨b, 0, none⟩ = some (.int .i64 n) := (World.cell?_of_block (hb1.block b HB.out.lt)).trans hcb; have hcx1 : Boxed w1 c 4 u := (hb1.block c HC.out.lt).trans HC.out; have hcc1 := hcx1.cell; have hcf1 := hcx1.frozen; have hcx := Lib.hid hcx1; clear hcx1; have hb1h := Lib.hid hb1; clear hb1) | (go_at_call 29; refine (HA.out _).mono ?_; rintro ev w2 ⟨rfl, rfl⟩))
  all_goals
    go_end0
    exact ⟨rfl, hcx.out.set _, fun m h1 h2 => ((below_drew m w).trans (hb1h.out.mono h2)).setCell (p := ⟨c, 0, none⟩) h1 _⟩

set_option maxRecDepth 100000 in
set_option maxHeartbeats 1000000 in
/-- **Is** -/
theorem is_any {v base : Value} {xs : List Wr} {n : Int} {r : Bool} {w : World} (hv : At w v xs base) (hP : Plain base) (hI : Ifc base) (hlen : xs.length < 1099511627776) (hA : IsAsk base n r) :
    Calls Tryd.prog 16 #[v, .int .i64 n] w fun e w' => e = .returned (.bool r) ∧ Below w.heap.size w w' := by
  obtain ⟨W, hW⟩ : ∃ W, ((w.alloc (.cells #[v] 29)).alloc (.cells #[.int .i64 n] 23)).alloc (.cells #[.bool false] 4) = W := ⟨_, rfl⟩
  have hBW : Below w.heap.size w W := by rw [← hW]; exact (((Below.refl _ w).alloc (Nat.le_refl _) _).alloc (by simp) _).alloc (by simp; omega) _
  have ba : Boxed W w.heap.size 29 v := by rw [← hW]; exact ((Boxed.new w _ _).alloc _).alloc _
  have bb : Boxed W (w.heap.size + 1) 23 (.int .i64 n) := by
    rw [← hW]; have := (Boxed.new (w.alloc (.cells #[v] 29)) 23 (.int .i64 n)).alloc (.cells #[.bool false] 4); rwa [World.size_alloc] at this
  have bc : Boxed W (w.heap.size + 1 + 1) 4 (.bool false) := by
    rw [← hW]; have := Boxed.new ((w.alloc (.cells #[v] 29)).alloc (.cells #[.int .i64 n] 23)) 4 (.bool false); rwa [World.size_alloc, World.size_alloc] at this
  have hsz : W.heap.size = w.heap.size + 3 := by rw [← hW]; simp
  have HC := Lib.hid (safely_is _ _ _ W _ (is1 (hv.below hBW) hP hI hlen hA ba bb bc))
  have HB := Lib.hid hBW
  have hvi := hv.ifc hI
  have hmf : ∀ (fn : Fn) (first cap : Array Value) (w : World), (Instr.makeFunc fn first cap).run Tryd.prog w = .ok (.func fn first cap) w := fun _ _ _ _ => rfl
  clear hBW ba bb bc hA hv
  rcases hvi with rfl | ⟨t, x, rfl⟩
  all_goals
    go_enter Tryd.func16, Tryd.ntmps16
    go_wp2_with (go_at_call 22; (try rw [hW]); refine HC.out.mono ?_; rintro ev w1 ⟨rfl, br, hk⟩; have cr := br.cell; have fr := br.frozen; have hbr := Lib.hid br; have hk1 := Lib.hid (HB.out.trans (hk w.heap.size (by omega) (by omega))); clear hk br)
    refine bodyPost_ret (v := .bool r) ?_ rfl ⟨rfl, hk1.out.setCell (p := ⟨w.heap.size + 1 + 1, 0, none⟩) (by show w.heap.size ≤ w.heap.size + 1 + 1; omega) _⟩
    have := (hbr.out.set (.bool r)).cell
    simp [results, Tryd.results16, go_sem, this]

/-- whose fault a number is -/
def classOf (e : Int) : Int := if e = 1 ∨ e = 2 then 1 else if e = 4 ∨ e = 8 ∨ e = 42 ∨ e = 43 then 2 else if e = 44 ∨ e = 45 ∨ e = 52 then 4 else
  if e = 5 ∨ e = 6 ∨ e = 40 ∨ e = 41 ∨ e = 46 ∨ e = 47 ∨ e = 48 ∨ e = 49 ∨ e = 50 ∨ e = 51 then 3 else 0

set_option maxRecDepth 100000 in
set_option maxHeartbeats 2000000 in
/-- **Of** -/
theorem of_any (e : Int) (w : World) : Calls Tryd.prog 8 #[.int .i64 e] w fun ev w' => ev = .returned (.int .u8 (classOf e)) ∧ w' = w := by
  by_cases h1 : e = 1
  · subst h1
    go_enter Tryd.func8, Tryd.ntmps8
    go_wp2
    go_ret
    exact ⟨rfl, rfl⟩
  by_cases h2 : e = 2
  · subst h2
    go_enter Tryd.func8, Tryd.ntmps8
    go_wp2
    go_ret
    exact ⟨rfl, rfl⟩
  by_cases h4 : e = 4
  · subst h4
    go_enter Tryd.func8, Tryd.ntmps8
    go_wp2
    go_ret
    exact ⟨rfl, rfl⟩
  by_cases h8 : e = 8
  · subst h8
    go_enter Tryd.func8, Tryd.ntmps8
    go_wp2
    go_ret
    exact ⟨rfl, rfl⟩
  by_cases h42 : e = 42
  · subst h42
    go_enter Tryd.func8, Tryd.ntmps8
    go_wp2
    go_ret
    exact ⟨rfl, rfl⟩
  by_cases h43 : e = 43
  · subst h43
    go_enter Tryd.func8, Tryd.ntmps8
    go_wp2
    go_ret
    exact ⟨rfl, rfl⟩
  by_cases h44 : e = 44
  · subst h44
    go_enter Tryd.func8, Tryd.ntmps8
    go_wp2
    go_ret
    exact ⟨rfl, rfl⟩
  by_cases h45 : e = 45
  · subst h45
    go_enter Tryd.func8, Tryd.ntmps8
    go_wp2
    go_ret
    exact ⟨rfl, rfl⟩
  by_cases h52 : e = 52
  · subst h52
    go_enter Tryd.func8, Tryd.ntmps8
    go_wp2
    go_ret
    exact ⟨rfl, rfl⟩
  by_cases h5 : e = 5
  · subst h5
    go_enter Tryd.func8, Tryd.ntmps8
    go_wp2
    go_ret
    exact ⟨rfl, rfl⟩
  by_cases h6 : e = 6
  · subst h6
    go_enter Tryd.func8, Tryd.ntmps8
    go_wp2
    go_ret
    exact ⟨rfl, rfl⟩
  by_cases h40 : e = 40
  · subst h40
    go_enter Tryd.func8, Tryd.ntmps8
    go_wp2
    go_ret
    exact ⟨rfl, rfl⟩
  by_cases h41 : e = 41
  · subst h41
    go_enter Tryd.func8, Tryd.ntmps8
    go_wp2
    go_ret
    exact ⟨rfl, rfl⟩
  by_cases h46 : e = 46
  · subst h46
    go_enter Tryd.func8, Tryd.ntmps8
    go_wp2
    go_ret
    exact ⟨rfl, rfl⟩
  by_cases h47 : e = 47
  · subst h47
    go_enter Tryd.func8, Tryd.ntmps8
    go_wp2
    go_ret
    exact ⟨rfl, rfl⟩
  by_cases h48 : e = 48
  · subst h48
    go_enter Tryd.func8, Tryd.ntmps8
    go_wp2
    go_ret
    exact ⟨rfl, rfl⟩
  by_cases h49 : e = 49
  · subst h49
    go_enter Tryd.func8, Tryd.ntmps8
    go_wp2
    go_ret
    exact ⟨rfl, rfl⟩
  by_cases h50 : e = 50
  · subst h50
    go_enter Tryd.func8, Tryd.ntmps8
    go_wp2
    go_ret
    exact ⟨rfl, rfl⟩
  by_cases h51 : e = 51
  · subst h51
    go_enter Tryd.func8, Tryd.ntmps8
    go_wp2
    go_ret
    exact ⟨rfl, rfl⟩
  have hc : classOf e = 0 := by unfold classOf; simp [h1, h2, h4, h8, h42, h43, h44, h45, h52, h5, h6, h40, h41, h46, h47, h48, h49, h50, h51]
  rw [hc]
  go_enter Tryd.func8, Tryd.ntmps8
  go_wp2
  go_ret
  exact ⟨rfl, rfl⟩
/-- **In** -/
theorem in_any {v base : Value} {xs : List Wr} {n : Int} {r : Bool} {w : World} (c : Int) (hE : ErrT w) (hv : At w v xs base) (hP : Plain base) (hI : Ifc base) (hlen : xs.length < 1099511627776) (hA : Asked base n r) (hn : r = false → n = 0) :
    Calls Tryd.prog 9 #[v, .int .u8 c] w fun e w' => e = .returned (.bool (classOf n == c)) ∧ Below w.heap.size w w' := by
  have HC := Lib.hid (code_any hE hv hP hI hlen hA hn)
  clear hE hv hA hn
  go_enter Tryd.func9, Tryd.ntmps9
  go_wp2_with (first | (go_at_call 12; refine HC.out.mono ?_; rintro ev w1 ⟨rfl, hb1⟩; have HB := Lib.hid hb1; clear hb1) | (go_at_call 8; refine (of_any n _).mono ?_; rintro ev w2 ⟨rfl, rfl⟩))
  go_ret
  exact ⟨rfl, HB.out⟩

/-- **Wrap** of an error -/
theorem wrap_any {v base : Value} {xs : List Wr} {w : World} (x : Wr) (hv : At w v xs base) (hI : Ifc base) (hv0 : v ≠ .nilIface) :
    Calls Tryd.prog 10 #[v, .string x.op, .string x.nm, .int .i64 x.pl] w fun e w' => e = .returned (.iface 51 (.pointer (some ⟨w.heap.size, 0, none⟩))) ∧ At w' (.iface 51 (.pointer (some ⟨w.heap.size, 0, none⟩))) (x :: xs) base ∧ Below w.heap.size w w' := by
  have hvi := hv.ifc hI
  rcases hvi with rfl | ⟨t, y, rfl⟩
  · exact absurd rfl hv0
  have HV := Lib.hid hv
  clear hv
  go_enter Tryd.func10, Tryd.ntmps10
  go_wp2
  go_ret
  refine ⟨rfl, ?_, (Below.refl _ w).alloc (Nat.le_refl _) _⟩
  obtain ⟨p, e, h1, h2, C⟩ := HV.out
  refine ⟨fun i => match i with | 0 => w.heap.size | k + 1 => p k, fun i => match i with | 0 => .iface 51 (.pointer (some ⟨w.heap.size, 0, none⟩)) | k + 1 => e k, rfl, h2, ?_, ?_, ?_, ?_⟩
  · intro i hi
    cases i with
    | zero => rfl
    | succ k => exact C.head k (by simpa using hi)
  · intro i hi
    cases i with
    | zero => simp
    | succ k => have := C.lt k (by simpa using hi); simp; omega
  · intro i j hij hj
    cases j with
    | zero => omega
    | succ k =>
      cases i with
      | zero => exact C.lt k (by simpa using hj)
      | succ m => exact C.dec m k (by omega) (by simpa using hj)
  · intro i hi
    cases i with
    | zero => rw [← h1]; exact World.alloc_heap_new w _
    | succ k =>
      have hk : k < xs.length := by simpa using hi
      exact (Below.heap_alloc w _ _ (C.lt k hk)).trans (C.obj k hk)
theorem wrap_nil (x : Wr) (w : World) :
    Calls Tryd.prog 10 #[.nilIface, .string x.op, .string x.nm, .int .i64 x.pl] w fun e w' => e = .returned .nilIface ∧ w' = w := by
  go_enter Tryd.func10, Tryd.ntmps10
  go_wp2
  go_ret
  exact ⟨rfl, rfl⟩

end Go.Proofs.YtdaeiapogipjbaaDoor.Fault
