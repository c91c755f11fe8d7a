import Derived.Test.YtiibeemjkdipnaaDoorUL
/-
  The examples of layer 7: awake.
-/
namespace Go.Proofs.YtiibeemjkdipnaaDoor.Upcast
open Go Go.RowKit
open Go.Proofs.YtiibeemjkdipnaaDoor.Schema

theorem vat_row (w : World) (vs : List Value) (T : TypeId) : VAt (w.alloc (.cells vs.toArray T)) (some ⟨w.heap.size, 0, none⟩) vs := fun k u h => by
  refine ⟨_, 0, rfl, ?_⟩
  unfold World.cell?
  rw [show (w.alloc _).heap[(⟨w.heap.size, 0 + k, none⟩ : Addr).block]? = _ from (MapKept.heap_alloc w _).1]
  show vs.toArray[0 + k]? = some u
  rw [Nat.zero_add, List.getElem?_toArray]
  exact h
def smallB (ns : List Int) : Bool := ns.all fun x => decide (0 ≤ x) && decide (x ≤ 1000)
theorem small_fits {ns : List Int} (h : smallB ns = true) : Fits64 ns := fun x hx => by
  have := List.all_eq_true.1 h x hx
  simp only [Bool.and_eq_true, decide_eq_true_eq] at this
  omega
theorem ev_lit (w : World) (v k : Nat) (ns : List Int) (hv : v < 256) (hk : k < 256) (hs : smallB ns = true) : EvAt (w.alloc (.cells (nums ns).toArray 2)) (some ⟨w.heap.size, 0, none⟩) ns.length none 0 ⟨v, k, ns, []⟩ :=
  ⟨hv, hk, small_fits hs, fun t ht => (by cases ht), vat_row w _ _, VAt.nil _ _, fun h => (by cases h), fun _ => rfl, Nat.le_refl _, Nat.le_refl _⟩
theorem ev_lit1 (w : World) (v k : Nat) (ns : List Int) (t : ByteArray) (hv : v < 256) (hk : k < 256) (hs : smallB ns = true) (ht : t.size ≤ maxLen) : EvAt ((w.alloc (.cells (nums ns).toArray 2)).alloc (.cells #[.string t] 9)) (some ⟨w.heap.size, 0, none⟩) ns.length (some ⟨(w.alloc (.cells (nums ns).toArray 2)).heap.size, 0, none⟩) 1 ⟨v, k, ns, [t]⟩ :=
  ⟨hv, hk, small_fits hs, fun x hx => by (rw [List.mem_singleton.1 hx]; exact ht), (vat_row w _ _).below ((Below.refl _ _).alloc (Nat.le_refl _) _), vat_new _ _ _, fun h => (by cases h), fun h => (by cases h), Nat.le_refl _, Nat.le_refl _⟩
/-- a box that was made, and written -/
theorem mk4 (W : World) (a b c d : Value) : Four (((((W.alloc (.cells #[.int .u8 0, .int .u8 0, .slice none 0 0, .slice none 0 0] 27)).setCell ⟨W.heap.size, 0, none⟩ a).setCell ⟨W.heap.size, 1, none⟩ b).setCell ⟨W.heap.size, 2, none⟩ c).setCell ⟨W.heap.size, 3, none⟩ d) W.heap.size a b c d ∧ Below W.heap.size W (((((W.alloc (.cells #[.int .u8 0, .int .u8 0, .slice none 0 0, .slice none 0 0] 27)).setCell ⟨W.heap.size, 0, none⟩ a).setCell ⟨W.heap.size, 1, none⟩ b).setCell ⟨W.heap.size, 2, none⟩ c).setCell ⟨W.heap.size, 3, none⟩ d) := by
  have h0 := (show Four _ W.heap.size _ _ _ _ from box4 W (.int .u8 0) (.int .u8 0) (.slice none 0 0) (.slice none 0 0) 27).set4 a b c d
  have hb := (Below.refl W.heap.size W).alloc (Nat.le_refl _) (.cells #[.int .u8 0, .int .u8 0, .slice none 0 0, .slice none 0 0] 27)
  exact ⟨h0, hb.trans ((touch4 _ W.heap.size _ _ _ _).below (Nat.le_refl _) hb.size)⟩
theorem row_one (w : World) (x : Lx) (h : LxAt w x) : Row (w.alloc (.cells #[.int .u8 x.e.v, .int .u8 x.e.k, .slice x.A x.e.ns.length x.ca, .slice x.C x.e.ts.length x.cc] 27)) (some ⟨w.heap.size, 0, none⟩) [x] :=
  ⟨by have := lx_new w x; simpa [cellsX] using this, fun y hy => by rw [List.mem_singleton.1 hy]; exact h.below ((Below.refl _ _).alloc (Nat.le_refl _) _)⟩

theorem one_map {ys : List Lx} {f : Ev} (h : ys.map (·.e) = [f]) : ∃ y, ys = [y] ∧ y.e = f := by
  cases ys with
  | nil => cases h
  | cons y l =>
    cases l with
    | nil => exact ⟨y, rfl, by injection h⟩
    | cons z l => injection h with _ h; cases h

def aw1 : Ev := ⟨2, 6, [1, 500], []⟩
def aw2 : Ev := ⟨3, 11, [1, 2, 3, 1, 700, 9], []⟩
def aw3 : Ev := ⟨2, 3, [1, 100], [⟨#[120]⟩]⟩
def aw7 : Ev := ⟨1, 13, [2, 1, 7, 9], []⟩
def aw8 : Ev := ⟨2, 21, [1, 2, 3], []⟩
theorem aw1_is : upX ⟨1, 6, [1, 5], []⟩ = .ok aw1 := by kernel_rfl
theorem aw2_is : nwX ⟨1, 11, [1, 2, 3, 0, 7, 9], []⟩ = .ok aw2 := by kernel_rfl
theorem aw3_is : upX ⟨1, 3, [1], [⟨#[120]⟩]⟩ = .ok aw3 := by kernel_rfl
theorem aw4_is : dnX ⟨2, 6, [1, 550], []⟩ = .error 43 := by kernel_rfl
theorem aw5_is : dnX ⟨3, 20, [15], []⟩ = .error 43 := by kernel_rfl
theorem aw6_is : dnX ⟨2, 13, [2, 1, 700, 9, 1], []⟩ = .error 43 := by kernel_rfl
theorem aw7_is : dnX ⟨2, 13, [2, 1, 700, 9, 0], []⟩ = .ok aw7 := by kernel_rfl
theorem aw8_is : lwX [⟨3, 21, [1, 2, 3], []⟩] 1 = .ok (2, [aw8]) := by kernel_rfl
theorem aw1_may : may aw1 = true := by kernel_rfl
theorem aw2_may : may aw2 = true := by kernel_rfl
theorem aw3_may : may aw3 = true := by kernel_rfl
theorem aw7_may : may aw7 = true := by kernel_rfl
theorem aw1_same : (decide (0 = 0) && same aw1 ⟨2, 6, [1, 500], []⟩) = true := by decide +kernel
theorem aw2_same : (decide (0 = 0) && same aw2 ⟨3, 11, [1, 2, 3, 1, 700, 9], []⟩) = true := by decide +kernel
theorem aw3_same : (decide (0 = 0) && same aw3 ⟨2, 3, [1, 100], [⟨#[120]⟩]⟩) = true := by decide +kernel
theorem aw7_same : (decide (0 = 0) && same aw7 ⟨1, 13, [2, 1, 7, 9], []⟩) = true := by decide +kernel
theorem aw8_same : (decide (0 = 0) && same aw8 ⟨2, 21, [1, 2, 3], []⟩) = true := by decide +kernel
theorem no_ts {f : Ev} (h : f.ts = []) : ∀ t ∈ f.ts, t.size ≤ maxLen := by rw [h]; intro t ht; cases ht
theorem one_ts {f : Ev} {t : ByteArray} (h : f.ts = [t]) (hs : t.size ≤ maxLen) : ∀ t ∈ f.ts, t.size ≤ maxLen := by rw [h]; intro x hx; rw [List.mem_singleton.1 hx]; exact hs
theorem low8 {w : World} {z : Ending} {w' : World} (h : LowV [⟨3, 21, [1, 2, 3], []⟩] 1 w z w') : ∃ (ys : List Lx) (x : Value), ys.map (·.e) = [aw8] ∧ z = .returned (.tuple #[.int .u8 2, x, .int .i64 0]) ∧ OwnR w' w.heap.size x ys ∧ (∀ y ∈ ys, LyAt w' w.heap.size y) ∧ Below w.heap.size w w' := by
  unfold LowV at h
  rw [aw8_is] at h
  exact h

end Go.Proofs.YtiibeemjkdipnaaDoor.Upcast
