import Derived.Test.YtbjpkffhpdcapaaDoorUL
/-
  The examples of layer 7: awake.
-/
namespace Go.Proofs.YtbjpkffhpdcapaaDoor.Upcast
open Go Go.RowKit
open Go.Proofs.YtbjpkffhpdcapaaDoor.Schema

theorem vat_row (w : World) (vs : List Value) (T : TypeId) : VAt (w.alloc (.cells vs.toArray T)) (some ⟨w.heap.size, 0, none⟩) vs := fun k u h => by
  refine ⟨_, 0, rfl, ?_⟩
  unfold World.cell?
  rw [show (w.alloc _).heap[(⟨w.heap.size, 0 + k, none⟩ : Addr).block]? = _ from (MapKept.heap_alloc w _).1]
  show vs.toArray[0 + k]? = some u
  rw [Nat.zero_add, List.getElem?_toArray]
  exact h
def smallB (ns : List Int) : Bool := ns.all fun x => decide (0 ≤ x) && decide (x ≤ 1000)
theorem small_fits {ns : List Int} (h : smallB ns = true) : Fits64 ns := fun x hx => by
  have := List.all_eq_true.1 h x hx
  simp only [Bool.and_eq_true, decide_eq_true_eq] at this
  omega
theorem ev_lit (w : World) (v k : Nat) (ns : List Int) (hv : v < 256) (hk : k < 256) (hs : smallB ns = true) : EvAt (w.alloc (.cells (nums ns).toArray 2)) (some ⟨w.heap.size, 0, none⟩) ns.length none 0 ⟨v, k, ns, []⟩ :=
  ⟨hv, hk, small_fits hs, fun t ht => (by cases ht), vat_row w _ _, VAt.nil _ _, fun h => (by cases h), fun _ => rfl, Nat.le_refl _, Nat.le_refl _⟩
theorem ev_lit1 (w : World) (v k : Nat) (ns : List Int) (t : ByteArray) (hv : v < 256) (hk : k < 256) (hs : smallB ns = true) (ht : t.size ≤ maxLen) : EvAt ((w.alloc (.cells (nums ns).toArray 2)).alloc (.cells #[.string t] 9)) (some ⟨w.heap.size, 0, none⟩) ns.length (some ⟨(w.alloc (.cells (nums ns).toArray 2)).heap.size, 0, none⟩) 1 ⟨v, k, ns, [t]⟩ :=
  ⟨hv, hk, small_fits hs, fun x hx => by (rw [List.mem_singleton.1 hx]; exact ht), (vat_row w _ _).below ((Below.refl _ _).alloc (Nat.le_refl _) _), vat_new _ _ _, fun h => (by cases h), fun h => (by cases h), Nat.le_refl _, Nat.le_refl _⟩
/-- a box that was made, and written -/
theorem mk4 (W : World) (a b c d : Value) : Four (((((W.alloc (.cells #[.int .u8 0, .int .u8 0, .slice none 0 0, .slice none 0 0] 25)).setCell ⟨W.heap.size, 0, none⟩ a).setCell ⟨W.heap.size, 1, none⟩ b).setCell ⟨W.heap.size, 2, none⟩ c).setCell ⟨W.heap.size, 3, none⟩ d) W.heap.size a b c d ∧ Below W.heap.size W (((((W.alloc (.cells #[.int .u8 0, .int .u8 0, .slice none 0 0, .slice none 0 0] 25)).setCell ⟨W.heap.size, 0, none⟩ a).setCell ⟨W.heap.size, 1, none⟩ b).setCell ⟨W.heap.size, 2, none⟩ c).setCell ⟨W.heap.size, 3, none⟩ d) := by
  have h0 := (show Four _ W.heap.size _ _ _ _ from box4 W (.int .u8 0) (.int .u8 0) (.slice none 0 0) (.slice none 0 0) 25).set4 a b c d
  have hb := (Below.refl W.heap.size W).alloc (Nat.le_refl _) (.cells #[.int .u8 0, .int .u8 0, .slice none 0 0, .slice none 0 0] 25)
  exact ⟨h0, hb.trans ((touch4 _ W.heap.size _ _ _ _).below (Nat.le_refl _) hb.size)⟩
theorem row_one (w : World) (x : Lx) (h : LxAt w x) : Row (w.alloc (.cells #[.int .u8 x.e.v, .int .u8 x.e.k, .slice x.A x.e.ns.length x.ca, .slice x.C x.e.ts.length x.cc] 25)) (some ⟨w.heap.size, 0, none⟩) [x] :=
  ⟨by have := lx_new w x; simpa [cellsX] using this, fun y hy => by rw [List.mem_singleton.1 hy]; exact h.below ((Below.refl _ _).alloc (Nat.le_refl _) _)⟩

theorem one_map {ys : List Lx} {f : Ev} (h : ys.map (·.e) = [f]) : ∃ y, ys = [y] ∧ y.e = f := by
  cases ys with
  | nil => cases h
  | cons y l =>
    cases l with
    | nil => exact ⟨y, rfl, by injection h⟩
    | cons z l => injection h with _ h; cases h

def aw1 : Ev := ⟨2, 6, [1, 500], []⟩
def aw2 : Ev := ⟨3, 11, [1, 2, 3, 1, 700, 9], []⟩
def aw3 : Ev := ⟨2, 3, [1, 100], [⟨#[120]⟩]⟩
def aw7 : Ev := ⟨1, 13, [2, 1, 7, 9], []⟩
def aw8 : Ev := ⟨2, 21, [1, 2, 3], []⟩
theorem aw1_is : upX ⟨1, 6, [1, 5], []⟩ = .ok aw1 := by kernel_rfl
theorem aw2_is : nwX ⟨1, 11, [1, 2, 3, 0, 7, 9], []⟩ = .ok aw2 := by kernel_rfl
theorem aw3_is : upX ⟨1, 3, [1], [⟨#[120]⟩]⟩ = .ok aw3 := by kernel_rfl
theorem aw4_is : dnX ⟨2, 6, [1, 550], []⟩ = .error 43 := by kernel_rfl
theorem aw5_is : dnX ⟨3, 20, [15], []⟩ = .error 43 := by kernel_rfl
theorem aw6_is : dnX ⟨2, 13, [2, 1, 700, 9, 1], []⟩ = .error 43 := by kernel_rfl
theorem aw7_is : dnX ⟨2, 13, [2, 1, 700, 9, 0], []⟩ = .ok aw7 := by kernel_rfl
theorem aw8_is : lwX [⟨3, 21, [1, 2, 3], []⟩] 1 = .ok (2, [aw8]) := by kernel_rfl
theorem aw1_may : may aw1 = true := by kernel_rfl
theorem aw2_may : may aw2 = true := by kernel_rfl
theorem aw3_may : may aw3 = true := by kernel_rfl
theorem aw7_may : may aw7 = true := by kernel_rfl
theorem aw1_same : (decide (0 = 0) && same aw1 ⟨2, 6, [1, 500], []⟩) = true := by decide +kernel
theorem aw2_same : (decide (0 = 0) && same aw2 ⟨3, 11, [1, 2, 3, 1, 700, 9], []⟩) = true := by decide +kernel
theorem aw3_same : (decide (0 = 0) && same aw3 ⟨2, 3, [1, 100], [⟨#[120]⟩]⟩) = true := by decide +kernel
theorem aw7_same : (decide (0 = 0) && same aw7 ⟨1, 13, [2, 1, 7, 9], []⟩) = true := by decide +kernel
theorem aw8_same : (decide (0 = 0) && same aw8 ⟨2, 21, [1, 2, 3], []⟩) = true := by decide +kernel
theorem no_ts {f : Ev} (h : f.ts = []) : ∀ t ∈ f.ts, t.size ≤ maxLen := by rw [h]; intro t ht; cases ht
theorem one_ts {f : Ev} {t : ByteArray} (h : f.ts = [t]) (hs : t.size ≤ maxLen) : ∀ t ∈ f.ts, t.size ≤ maxLen := by rw [h]; intro x hx; rw [List.mem_singleton.1 hx]; exact hs
theorem low8 {w : World} {z : Ending} {w' : World} (h : LowV [⟨3, 21, [1, 2, 3], []⟩] 1 w z w') : ∃ (ys : List Lx) (x : Value), ys.map (·.e) = [aw8] ∧ z = .returned (.tuple #[.int .u8 2, x, .int .i64 0]) ∧ OwnR w' w.heap.size x ys ∧ (∀ y ∈ ys, LyAt w' w.heap.size y) ∧ Below w.heap.size w w' := by
  unfold LowV at h
  rw [aw8_is] at h
  exact h

set_option maxRecDepth 100000 in
set_option maxHeartbeats 8000000 in
theorem awake_any (w : World) (E : Env w) : Calls Tryd.prog 9 #[] w fun z w' => z = .returned (.bool true) ∧ Below w.heap.size w w' := by
  have HE := Lib.hid E
  have HB := Lib.hid (Below.refl w.heap.size w)
  clear E
  go_enter Tryd.func9, Tryd.ntmps9
  go_upto_region 1 with (fail)
  have hb := (Below.refl w.heap.size w).alloc (Nat.le_refl _) (.cells #[.int .i64 1, .int .i64 5] 2)
  have HX : Hid (EvAt (w.alloc (.cells #[.int .i64 1, .int .i64 5] 2)) (some ⟨w.heap.size, 0, none⟩) 2 none 0 ⟨1, 6, [1, 5], []⟩) := Lib.hid (ev_lit w 1 6 [1, 5] (by decide) (by decide) (by decide))
  replace HE := Lib.hid (HE.out.below hb)
  replace HB := Lib.hid (below_step HB.out hb)
  clear hb
  have HEV := Lib.hid (event_any 1 6 (some ⟨w.heap.size, 0, none⟩) 2 2 (w.alloc (.cells #[.int .i64 1, .int .i64 5] 2)))
  go_wp2_with (go_at_call 25; refine HEV.out.mono ?_)
  rintro z X1 ⟨rfl, hb⟩
  replace HX := Lib.hid (HX.out.below hb)
  replace HE := Lib.hid (HE.out.below hb)
  replace HB := Lib.hid (below_step HB.out hb)
  clear hb HEV
  have hu := Up_any _ _ _ _ ⟨1, 6, [1, 5], []⟩ (by decide) X1 HX.out HE.out
  rw [aw1_is] at hu
  have HU := Lib.hid hu
  clear hu
  go_wp2_with (go_at_call 19; refine HU.out.mono ?_)
  rintro z X2 ⟨A1, c1, C1, d1, rfl, o1, o2, hb⟩
  replace HE := Lib.hid (HE.out.below hb)
  replace HB := Lib.hid (below_step HB.out hb)
  have HY1 := Lib.hid (evAt_of aw1_may (no_ts rfl) o1 o2)
  clear hb o1 o2 HU HX
  unfold evV
  go_upto_region 2 with (fail)
  have hb := (Below.refl X2.heap.size X2).alloc (Nat.le_refl _) (.cells #[.int .u8 aw1.v, .int .u8 aw1.k, .slice A1 aw1.ns.length c1, .slice C1 aw1.ts.length d1] 25)
  replace HE := Lib.hid (HE.out.below hb)
  replace HB := Lib.hid (below_step HB.out hb)
  replace HY1 := Lib.hid (HY1.out.below hb)
  have HP1 := Lib.hid (show Four _ X2.heap.size _ _ _ _ from box4 X2 (.int .u8 aw1.v) (.int .u8 aw1.k) (.slice A1 aw1.ns.length c1) (.slice C1 aw1.ts.length d1) 25)
  clear hb
  generalize X2.alloc (.cells #[.int .u8 aw1.v, .int .u8 aw1.k, .slice A1 aw1.ns.length c1, .slice C1 aw1.ts.length d1] 25) = X3 at HE HB HY1 HP1 ⊢
  generalize hWs : X2.heap.size = b1 at HP1 ⊢
  clear hWs
  have hb := (Below.refl X3.heap.size X3).alloc (Nat.le_refl _) (.cells #[.int .i64 1, .int .i64 2, .int .i64 3, .int .i64 0, .int .i64 7, .int .i64 9] 2)
  have HX : Hid (EvAt (X3.alloc (.cells #[.int .i64 1, .int .i64 2, .int .i64 3, .int .i64 0, .int .i64 7, .int .i64 9] 2)) (some ⟨X3.heap.size, 0, none⟩) 6 none 0 ⟨1, 11, [1, 2, 3, 0, 7, 9], []⟩) := Lib.hid (ev_lit X3 1 11 [1, 2, 3, 0, 7, 9] (by decide) (by decide) (by decide))
  replace HE := Lib.hid (HE.out.below hb)
  replace HB := Lib.hid (below_step HB.out hb)
  replace HY1 := Lib.hid (HY1.out.below hb)
  replace HP1 := Lib.hid (HP1.out.below hb)
  clear hb
  have HEV := Lib.hid (event_any 1 11 (some ⟨X3.heap.size, 0, none⟩) 6 6 (X3.alloc (.cells #[.int .i64 1, .int .i64 2, .int .i64 3, .int .i64 0, .int .i64 7, .int .i64 9] 2)))
  go_wp2_with (go_at_call 25; refine HEV.out.mono ?_)
  rintro z X4 ⟨rfl, hb⟩
  replace HX := Lib.hid (HX.out.below hb)
  replace HE := Lib.hid (HE.out.below hb)
  replace HB := Lib.hid (below_step HB.out hb)
  replace HY1 := Lib.hid (HY1.out.below hb)
  replace HP1 := Lib.hid (HP1.out.below hb)
  clear hb HEV
  have hu := Newest_any _ _ _ _ ⟨1, 11, [1, 2, 3, 0, 7, 9], []⟩ (by decide) X4 HX.out HE.out
  rw [aw2_is] at hu
  have HU := Lib.hid hu
  clear hu
  go_wp2_with (go_at_call 23; refine HU.out.mono ?_)
  rintro z X5 ⟨A3, c3, C3, d3, rfl, o1, o2, hb⟩
  replace HE := Lib.hid (HE.out.below hb)
  replace HB := Lib.hid (below_step HB.out hb)
  replace HY1 := Lib.hid (HY1.out.below hb)
  replace HP1 := Lib.hid (HP1.out.below hb)
  have HY3 := Lib.hid (evAt_of aw2_may (no_ts rfl) o1 o2)
  clear hb o1 o2 HU HX
  unfold evV
  go_upto_region 3 with (fail)
  have hb := (Below.refl X5.heap.size X5).alloc (Nat.le_refl _) (.cells #[.int .u8 aw2.v, .int .u8 aw2.k, .slice A3 aw2.ns.length c3, .slice C3 aw2.ts.length d3] 25)
  replace HE := Lib.hid (HE.out.below hb)
  replace HB := Lib.hid (below_step HB.out hb)
  replace HY1 := Lib.hid (HY1.out.below hb)
  replace HP1 := Lib.hid (HP1.out.below hb)
  replace HY3 := Lib.hid (HY3.out.below hb)
  have HP3 := Lib.hid (show Four _ X5.heap.size _ _ _ _ from box4 X5 (.int .u8 aw2.v) (.int .u8 aw2.k) (.slice A3 aw2.ns.length c3) (.slice C3 aw2.ts.length d3) 25)
  clear hb
  generalize X5.alloc (.cells #[.int .u8 aw2.v, .int .u8 aw2.k, .slice A3 aw2.ns.length c3, .slice C3 aw2.ts.length d3] 25) = X6 at HE HB HY1 HP1 HY3 HP3 ⊢
  generalize hWs : X5.heap.size = b3 at HP3 ⊢
  clear hWs
  have hb := (Below.refl X6.heap.size X6).alloc (Nat.le_refl _) (.cells #[.int .i64 1] 2)
  replace HE := Lib.hid (HE.out.below hb)
  replace HB := Lib.hid (below_step HB.out hb)
  replace HY1 := Lib.hid (HY1.out.below hb)
  replace HP1 := Lib.hid (HP1.out.below hb)
  replace HY3 := Lib.hid (HY3.out.below hb)
  replace HP3 := Lib.hid (HP3.out.below hb)
  clear hb
  have hb := (Below.refl (X6.alloc (.cells #[.int .i64 1] 2)).heap.size (X6.alloc (.cells #[.int .i64 1] 2))).alloc (Nat.le_refl _) (.cells #[.string ⟨#[120]⟩] 9)
  replace HE := Lib.hid (HE.out.below hb)
  replace HB := Lib.hid (below_step HB.out hb)
  replace HY1 := Lib.hid (HY1.out.below hb)
  replace HP1 := Lib.hid (HP1.out.below hb)
  replace HY3 := Lib.hid (HY3.out.below hb)
  replace HP3 := Lib.hid (HP3.out.below hb)
  clear hb
  have HX : Hid (EvAt ((X6.alloc (.cells #[.int .i64 1] 2)).alloc (.cells #[.string ⟨#[120]⟩] 9)) (some ⟨X6.heap.size, 0, none⟩) 1 (some ⟨(X6.alloc (.cells #[.int .i64 1] 2)).heap.size, 0, none⟩) 1 ⟨1, 3, [1], [⟨#[120]⟩]⟩) := Lib.hid (ev_lit1 X6 1 3 [1] ⟨#[120]⟩ (by decide) (by decide) (by decide) (by decide))
  have hz : (X6.alloc (.cells #[.int .i64 1] 2)).heap.size = X6.heap.size + 1 := by simp
  rw [hz] at HX
  clear hz
  have hu := Up_any _ _ _ _ ⟨1, 3, [1], [⟨#[120]⟩]⟩ (by decide) ((X6.alloc (.cells #[.int .i64 1] 2)).alloc (.cells #[.string ⟨#[120]⟩] 9)) HX.out HE.out
  rw [aw3_is] at hu
  have HU := Lib.hid hu
  clear hu
  go_wp2_with (go_at_call 19; refine HU.out.mono ?_)
  rintro z X7 ⟨A5, c5, C5, d5, rfl, o1, o2, hb⟩
  replace HE := Lib.hid (HE.out.below hb)
  replace HB := Lib.hid (below_step HB.out hb)
  replace HY1 := Lib.hid (HY1.out.below hb)
  replace HP1 := Lib.hid (HP1.out.below hb)
  replace HY3 := Lib.hid (HY3.out.below hb)
  replace HP3 := Lib.hid (HP3.out.below hb)
  have HY5 := Lib.hid (evAt_of aw3_may (one_ts rfl (by decide)) o1 o2)
  clear hb o1 o2 HU HX
  unfold evV
  go_upto_region 4 with (fail)
  have hb := (Below.refl X7.heap.size X7).alloc (Nat.le_refl _) (.cells #[.int .u8 aw3.v, .int .u8 aw3.k, .slice A5 aw3.ns.length c5, .slice C5 aw3.ts.length d5] 25)
  replace HE := Lib.hid (HE.out.below hb)
  replace HB := Lib.hid (below_step HB.out hb)
  replace HY1 := Lib.hid (HY1.out.below hb)
  replace HP1 := Lib.hid (HP1.out.below hb)
  replace HY3 := Lib.hid (HY3.out.below hb)
  replace HP3 := Lib.hid (HP3.out.below hb)
  replace HY5 := Lib.hid (HY5.out.below hb)
  have HP5 := Lib.hid (show Four _ X7.heap.size _ _ _ _ from box4 X7 (.int .u8 aw3.v) (.int .u8 aw3.k) (.slice A5 aw3.ns.length c5) (.slice C5 aw3.ts.length d5) 25)
  clear hb
  generalize X7.alloc (.cells #[.int .u8 aw3.v, .int .u8 aw3.k, .slice A5 aw3.ns.length c5, .slice C5 aw3.ts.length d5] 25) = X8 at HE HB HY1 HP1 HY3 HP3 HY5 HP5 ⊢
  generalize hWs : X7.heap.size = b5 at HP5 ⊢
  clear hWs
  have hb := (Below.refl X8.heap.size X8).alloc (Nat.le_refl _) (.cells #[.int .i64 1, .int .i64 550] 2)
  have HX : Hid (EvAt (X8.alloc (.cells #[.int .i64 1, .int .i64 550] 2)) (some ⟨X8.heap.size, 0, none⟩) 2 none 0 ⟨2, 6, [1, 550], []⟩) := Lib.hid (ev_lit X8 2 6 [1, 550] (by decide) (by decide) (by decide))
  replace HE := Lib.hid (HE.out.below hb)
  replace HB := Lib.hid (below_step HB.out hb)
  replace HY1 := Lib.hid (HY1.out.below hb)
  replace HP1 := Lib.hid (HP1.out.below hb)
  replace HY3 := Lib.hid (HY3.out.below hb)
  replace HP3 := Lib.hid (HP3.out.below hb)
  replace HY5 := Lib.hid (HY5.out.below hb)
  replace HP5 := Lib.hid (HP5.out.below hb)
  clear hb
  have HEV := Lib.hid (event_any 2 6 (some ⟨X8.heap.size, 0, none⟩) 2 2 (X8.alloc (.cells #[.int .i64 1, .int .i64 550] 2)))
  go_wp2_with (go_at_call 25; refine HEV.out.mono ?_)
  rintro z X9 ⟨rfl, hb⟩
  replace HX := Lib.hid (HX.out.below hb)
  replace HE := Lib.hid (HE.out.below hb)
  replace HB := Lib.hid (below_step HB.out hb)
  replace HY1 := Lib.hid (HY1.out.below hb)
  replace HP1 := Lib.hid (HP1.out.below hb)
  replace HY3 := Lib.hid (HY3.out.below hb)
  replace HP3 := Lib.hid (HP3.out.below hb)
  replace HY5 := Lib.hid (HY5.out.below hb)
  replace HP5 := Lib.hid (HP5.out.below hb)
  clear hb HEV
  have hu := Down_any _ _ _ _ ⟨2, 6, [1, 550], []⟩ (by decide) X9 HX.out HE.out
  rw [aw4_is] at hu
  have HU := Lib.hid hu
  clear hu
  go_wp2_with (go_at_call 20; refine HU.out.mono ?_)
  rintro z X10 ⟨rfl, hb⟩
  replace HE := Lib.hid (HE.out.below hb)
  replace HB := Lib.hid (below_step HB.out hb)
  replace HY1 := Lib.hid (HY1.out.below hb)
  replace HP1 := Lib.hid (HP1.out.below hb)
  replace HY3 := Lib.hid (HY3.out.below hb)
  replace HP3 := Lib.hid (HP3.out.below hb)
  replace HY5 := Lib.hid (HY5.out.below hb)
  replace HP5 := Lib.hid (HP5.out.below hb)
  clear hb HU HX
  go_upto_region 5 with (fail)
  have hb := (Below.refl X10.heap.size X10).alloc (Nat.le_refl _) (.cells #[.int .u8 0, .int .u8 0, .slice none 0 0, .slice none 0 0] 25)
  replace HE := Lib.hid (HE.out.below hb)
  replace HB := Lib.hid (below_step HB.out hb)
  replace HY1 := Lib.hid (HY1.out.below hb)
  replace HP1 := Lib.hid (HP1.out.below hb)
  replace HY3 := Lib.hid (HY3.out.below hb)
  replace HP3 := Lib.hid (HP3.out.below hb)
  replace HY5 := Lib.hid (HY5.out.below hb)
  replace HP5 := Lib.hid (HP5.out.below hb)
  clear hb
  generalize X10.alloc (.cells #[.int .u8 0, .int .u8 0, .slice none 0 0, .slice none 0 0] 25) = X11 at HE HB HY1 HP1 HY3 HP3 HY5 HP5 ⊢
  have hb := (Below.refl X11.heap.size X11).alloc (Nat.le_refl _) (.cells #[.int .i64 15] 2)
  have HX : Hid (EvAt (X11.alloc (.cells #[.int .i64 15] 2)) (some ⟨X11.heap.size, 0, none⟩) 1 none 0 ⟨3, 20, [15], []⟩) := Lib.hid (ev_lit X11 3 20 [15] (by decide) (by decide) (by decide))
  replace HE := Lib.hid (HE.out.below hb)
  replace HB := Lib.hid (below_step HB.out hb)
  replace HY1 := Lib.hid (HY1.out.below hb)
  replace HP1 := Lib.hid (HP1.out.below hb)
  replace HY3 := Lib.hid (HY3.out.below hb)
  replace HP3 := Lib.hid (HP3.out.below hb)
  replace HY5 := Lib.hid (HY5.out.below hb)
  replace HP5 := Lib.hid (HP5.out.below hb)
  clear hb
  have HEV := Lib.hid (event_any 3 20 (some ⟨X11.heap.size, 0, none⟩) 1 1 (X11.alloc (.cells #[.int .i64 15] 2)))
  go_wp2_with (go_at_call 25; refine HEV.out.mono ?_)
  rintro z X12 ⟨rfl, hb⟩
  replace HX := Lib.hid (HX.out.below hb)
  replace HE := Lib.hid (HE.out.below hb)
  replace HB := Lib.hid (below_step HB.out hb)
  replace HY1 := Lib.hid (HY1.out.below hb)
  replace HP1 := Lib.hid (HP1.out.below hb)
  replace HY3 := Lib.hid (HY3.out.below hb)
  replace HP3 := Lib.hid (HP3.out.below hb)
  replace HY5 := Lib.hid (HY5.out.below hb)
  replace HP5 := Lib.hid (HP5.out.below hb)
  clear hb HEV
  have hu := Down_any _ _ _ _ ⟨3, 20, [15], []⟩ (by decide) X12 HX.out HE.out
  rw [aw5_is] at hu
  have HU := Lib.hid hu
  clear hu
  go_wp2_with (go_at_call 20; refine HU.out.mono ?_)
  rintro z X13 ⟨rfl, hb⟩
  replace HE := Lib.hid (HE.out.below hb)
  replace HB := Lib.hid (below_step HB.out hb)
  replace HY1 := Lib.hid (HY1.out.below hb)
  replace HP1 := Lib.hid (HP1.out.below hb)
  replace HY3 := Lib.hid (HY3.out.below hb)
  replace HP3 := Lib.hid (HP3.out.below hb)
  replace HY5 := Lib.hid (HY5.out.below hb)
  replace HP5 := Lib.hid (HP5.out.below hb)
  clear hb HU HX
  go_upto_region 6 with (fail)
  have hb := (Below.refl X13.heap.size X13).alloc (Nat.le_refl _) (.cells #[.int .u8 0, .int .u8 0, .slice none 0 0, .slice none 0 0] 25)
  replace HE := Lib.hid (HE.out.below hb)
  replace HB := Lib.hid (below_step HB.out hb)
  replace HY1 := Lib.hid (HY1.out.below hb)
  replace HP1 := Lib.hid (HP1.out.below hb)
  replace HY3 := Lib.hid (HY3.out.below hb)
  replace HP3 := Lib.hid (HP3.out.below hb)
  replace HY5 := Lib.hid (HY5.out.below hb)
  replace HP5 := Lib.hid (HP5.out.below hb)
  clear hb
  generalize X13.alloc (.cells #[.int .u8 0, .int .u8 0, .slice none 0 0, .slice none 0 0] 25) = X14 at HE HB HY1 HP1 HY3 HP3 HY5 HP5 ⊢
  have hb := (Below.refl X14.heap.size X14).alloc (Nat.le_refl _) (.cells #[.int .i64 2, .int .i64 1, .int .i64 700, .int .i64 9, .int .i64 1] 2)
  have HX : Hid (EvAt (X14.alloc (.cells #[.int .i64 2, .int .i64 1, .int .i64 700, .int .i64 9, .int .i64 1] 2)) (some ⟨X14.heap.size, 0, none⟩) 5 none 0 ⟨2, 13, [2, 1, 700, 9, 1], []⟩) := Lib.hid (ev_lit X14 2 13 [2, 1, 700, 9, 1] (by decide) (by decide) (by decide))
  replace HE := Lib.hid (HE.out.below hb)
  replace HB := Lib.hid (below_step HB.out hb)
  replace HY1 := Lib.hid (HY1.out.below hb)
  replace HP1 := Lib.hid (HP1.out.below hb)
  replace HY3 := Lib.hid (HY3.out.below hb)
  replace HP3 := Lib.hid (HP3.out.below hb)
  replace HY5 := Lib.hid (HY5.out.below hb)
  replace HP5 := Lib.hid (HP5.out.below hb)
  clear hb
  have HEV := Lib.hid (event_any 2 13 (some ⟨X14.heap.size, 0, none⟩) 5 5 (X14.alloc (.cells #[.int .i64 2, .int .i64 1, .int .i64 700, .int .i64 9, .int .i64 1] 2)))
  go_wp2_with (go_at_call 25; refine HEV.out.mono ?_)
  rintro z X15 ⟨rfl, hb⟩
  replace HX := Lib.hid (HX.out.below hb)
  replace HE := Lib.hid (HE.out.below hb)
  replace HB := Lib.hid (below_step HB.out hb)
  replace HY1 := Lib.hid (HY1.out.below hb)
  replace HP1 := Lib.hid (HP1.out.below hb)
  replace HY3 := Lib.hid (HY3.out.below hb)
  replace HP3 := Lib.hid (HP3.out.below hb)
  replace HY5 := Lib.hid (HY5.out.below hb)
  replace HP5 := Lib.hid (HP5.out.below hb)
  clear hb HEV
  have hu := Down_any _ _ _ _ ⟨2, 13, [2, 1, 700, 9, 1], []⟩ (by decide) X15 HX.out HE.out
  rw [aw6_is] at hu
  have HU := Lib.hid hu
  clear hu
  go_wp2_with (go_at_call 20; refine HU.out.mono ?_)
  rintro z X16 ⟨rfl, hb⟩
  replace HE := Lib.hid (HE.out.below hb)
  replace HB := Lib.hid (below_step HB.out hb)
  replace HY1 := Lib.hid (HY1.out.below hb)
  replace HP1 := Lib.hid (HP1.out.below hb)
  replace HY3 := Lib.hid (HY3.out.below hb)
  replace HP3 := Lib.hid (HP3.out.below hb)
  replace HY5 := Lib.hid (HY5.out.below hb)
  replace HP5 := Lib.hid (HP5.out.below hb)
  clear hb HU HX
  go_upto_region 7 with (fail)
  have hb := (Below.refl X16.heap.size X16).alloc (Nat.le_refl _) (.cells #[.int .u8 0, .int .u8 0, .slice none 0 0, .slice none 0 0] 25)
  replace HE := Lib.hid (HE.out.below hb)
  replace HB := Lib.hid (below_step HB.out hb)
  replace HY1 := Lib.hid (HY1.out.below hb)
  replace HP1 := Lib.hid (HP1.out.below hb)
  replace HY3 := Lib.hid (HY3.out.below hb)
  replace HP3 := Lib.hid (HP3.out.below hb)
  replace HY5 := Lib.hid (HY5.out.below hb)
  replace HP5 := Lib.hid (HP5.out.below hb)
  clear hb
  generalize X16.alloc (.cells #[.int .u8 0, .int .u8 0, .slice none 0 0, .slice none 0 0] 25) = X17 at HE HB HY1 HP1 HY3 HP3 HY5 HP5 ⊢
  have hb := (Below.refl X17.heap.size X17).alloc (Nat.le_refl _) (.cells #[.int .i64 2, .int .i64 1, .int .i64 700, .int .i64 9, .int .i64 0] 2)
  have HX : Hid (EvAt (X17.alloc (.cells #[.int .i64 2, .int .i64 1, .int .i64 700, .int .i64 9, .int .i64 0] 2)) (some ⟨X17.heap.size, 0, none⟩) 5 none 0 ⟨2, 13, [2, 1, 700, 9, 0], []⟩) := Lib.hid (ev_lit X17 2 13 [2, 1, 700, 9, 0] (by decide) (by decide) (by decide))
  replace HE := Lib.hid (HE.out.below hb)
  replace HB := Lib.hid (below_step HB.out hb)
  replace HY1 := Lib.hid (HY1.out.below hb)
  replace HP1 := Lib.hid (HP1.out.below hb)
  replace HY3 := Lib.hid (HY3.out.below hb)
  replace HP3 := Lib.hid (HP3.out.below hb)
  replace HY5 := Lib.hid (HY5.out.below hb)
  replace HP5 := Lib.hid (HP5.out.below hb)
  clear hb
  have HEV := Lib.hid (event_any 2 13 (some ⟨X17.heap.size, 0, none⟩) 5 5 (X17.alloc (.cells #[.int .i64 2, .int .i64 1, .int .i64 700, .int .i64 9, .int .i64 0] 2)))
  go_wp2_with (go_at_call 25; refine HEV.out.mono ?_)
  rintro z X18 ⟨rfl, hb⟩
  replace HX := Lib.hid (HX.out.below hb)
  replace HE := Lib.hid (HE.out.below hb)
  replace HB := Lib.hid (below_step HB.out hb)
  replace HY1 := Lib.hid (HY1.out.below hb)
  replace HP1 := Lib.hid (HP1.out.below hb)
  replace HY3 := Lib.hid (HY3.out.below hb)
  replace HP3 := Lib.hid (HP3.out.below hb)
  replace HY5 := Lib.hid (HY5.out.below hb)
  replace HP5 := Lib.hid (HP5.out.below hb)
  clear hb HEV
  have hu := Down_any _ _ _ _ ⟨2, 13, [2, 1, 700, 9, 0], []⟩ (by decide) X18 HX.out HE.out
  rw [aw7_is] at hu
  have HU := Lib.hid hu
  clear hu
  go_wp2_with (go_at_call 20; refine HU.out.mono ?_)
  rintro z X19 ⟨A13, c13, C13, d13, rfl, o1, o2, hb⟩
  replace HE := Lib.hid (HE.out.below hb)
  replace HB := Lib.hid (below_step HB.out hb)
  replace HY1 := Lib.hid (HY1.out.below hb)
  replace HP1 := Lib.hid (HP1.out.below hb)
  replace HY3 := Lib.hid (HY3.out.below hb)
  replace HP3 := Lib.hid (HP3.out.below hb)
  replace HY5 := Lib.hid (HY5.out.below hb)
  replace HP5 := Lib.hid (HP5.out.below hb)
  have HY13 := Lib.hid (evAt_of aw7_may (no_ts rfl) o1 o2)
  clear hb o1 o2 HU HX
  unfold evV
  go_upto_region 8 with (fail)
  have hb := (Below.refl X19.heap.size X19).alloc (Nat.le_refl _) (.cells #[.int .u8 aw7.v, .int .u8 aw7.k, .slice A13 aw7.ns.length c13, .slice C13 aw7.ts.length d13] 25)
  replace HE := Lib.hid (HE.out.below hb)
  replace HB := Lib.hid (below_step HB.out hb)
  replace HY1 := Lib.hid (HY1.out.below hb)
  replace HP1 := Lib.hid (HP1.out.below hb)
  replace HY3 := Lib.hid (HY3.out.below hb)
  replace HP3 := Lib.hid (HP3.out.below hb)
  replace HY5 := Lib.hid (HY5.out.below hb)
  replace HP5 := Lib.hid (HP5.out.below hb)
  replace HY13 := Lib.hid (HY13.out.below hb)
  have HP13 := Lib.hid (show Four _ X19.heap.size _ _ _ _ from box4 X19 (.int .u8 aw7.v) (.int .u8 aw7.k) (.slice A13 aw7.ns.length c13) (.slice C13 aw7.ts.length d13) 25)
  clear hb
  generalize X19.alloc (.cells #[.int .u8 aw7.v, .int .u8 aw7.k, .slice A13 aw7.ns.length c13, .slice C13 aw7.ts.length d13] 25) = X20 at HE HB HY1 HP1 HY3 HP3 HY5 HP5 HY13 HP13 ⊢
  generalize hWs : X19.heap.size = b13 at HP13 ⊢
  clear hWs
  have hb := (Below.refl X20.heap.size X20).alloc (Nat.le_refl _) (.cells #[.int .i64 1, .int .i64 2, .int .i64 3] 2)
  have HX : Hid (EvAt (X20.alloc (.cells #[.int .i64 1, .int .i64 2, .int .i64 3] 2)) (some ⟨X20.heap.size, 0, none⟩) 3 none 0 ⟨3, 21, [1, 2, 3], []⟩) := Lib.hid (ev_lit X20 3 21 [1, 2, 3] (by decide) (by decide) (by decide))
  replace HE := Lib.hid (HE.out.below hb)
  replace HB := Lib.hid (below_step HB.out hb)
  replace HY1 := Lib.hid (HY1.out.below hb)
  replace HP1 := Lib.hid (HP1.out.below hb)
  replace HY3 := Lib.hid (HY3.out.below hb)
  replace HP3 := Lib.hid (HP3.out.below hb)
  replace HY5 := Lib.hid (HY5.out.below hb)
  replace HP5 := Lib.hid (HP5.out.below hb)
  replace HY13 := Lib.hid (HY13.out.below hb)
  replace HP13 := Lib.hid (HP13.out.below hb)
  clear hb
  have HEV := Lib.hid (event_any 3 21 (some ⟨X20.heap.size, 0, none⟩) 3 3 (X20.alloc (.cells #[.int .i64 1, .int .i64 2, .int .i64 3] 2)))
  go_wp2_with (go_at_call 25; refine HEV.out.mono ?_)
  rintro z X21 ⟨rfl, hb⟩
  replace HX := Lib.hid (HX.out.below hb)
  replace HE := Lib.hid (HE.out.below hb)
  replace HB := Lib.hid (below_step HB.out hb)
  replace HY1 := Lib.hid (HY1.out.below hb)
  replace HP1 := Lib.hid (HP1.out.below hb)
  replace HY3 := Lib.hid (HY3.out.below hb)
  replace HP3 := Lib.hid (HP3.out.below hb)
  replace HY5 := Lib.hid (HY5.out.below hb)
  replace HP5 := Lib.hid (HP5.out.below hb)
  replace HY13 := Lib.hid (HY13.out.below hb)
  replace HP13 := Lib.hid (HP13.out.below hb)
  clear hb HEV
  have HR : Hid (Row (X21.alloc (.cells #[.int .u8 3, .int .u8 21, .slice (some ⟨X20.heap.size, 0, none⟩) 3 3, .slice none 0 0] 25)) (some ⟨X21.heap.size, 0, none⟩) [⟨some ⟨X20.heap.size, 0, none⟩, 3, none, 0, ⟨3, 21, [1, 2, 3], []⟩⟩]) := Lib.hid (row_one X21 ⟨some ⟨X20.heap.size, 0, none⟩, 3, none, 0, ⟨3, 21, [1, 2, 3], []⟩⟩ HX.out)
  have hb := (Below.refl X21.heap.size X21).alloc (Nat.le_refl _) (.cells #[.int .u8 3, .int .u8 21, .slice (some ⟨X20.heap.size, 0, none⟩) 3 3, .slice none 0 0] 25)
  replace HE := Lib.hid (HE.out.below hb)
  replace HB := Lib.hid (below_step HB.out hb)
  replace HY1 := Lib.hid (HY1.out.below hb)
  replace HP1 := Lib.hid (HP1.out.below hb)
  replace HY3 := Lib.hid (HY3.out.below hb)
  replace HP3 := Lib.hid (HP3.out.below hb)
  replace HY5 := Lib.hid (HY5.out.below hb)
  replace HP5 := Lib.hid (HP5.out.below hb)
  replace HY13 := Lib.hid (HY13.out.below hb)
  replace HP13 := Lib.hid (HP13.out.below hb)
  clear hb
  have hu := Lowest_any (some ⟨X21.heap.size, 0, none⟩) 1 [⟨some ⟨X20.heap.size, 0, none⟩, 3, none, 0, ⟨3, 21, [1, 2, 3], []⟩⟩] 1 (by decide) (Nat.le_of_ble_eq_true rfl) (fun x hx => by (rw [List.mem_singleton.1 hx]; exact Nat.le_of_ble_eq_true rfl)) (X21.alloc (.cells #[.int .u8 3, .int .u8 21, .slice (some ⟨X20.heap.size, 0, none⟩) 3 3, .slice none 0 0] 25)) HR.out HE.out
  have HU := Lib.hid (hu.mono fun z w' h => low8 h)
  clear hu
  go_wp2_with (go_at_call 16; refine HU.out.mono ?_)
  rintro z X22 ⟨ys, x, hys, rfl, ho, hl, hb⟩
  replace HE := Lib.hid (HE.out.below hb)
  replace HB := Lib.hid (below_step HB.out hb)
  replace HY1 := Lib.hid (HY1.out.below hb)
  replace HP1 := Lib.hid (HP1.out.below hb)
  replace HY3 := Lib.hid (HY3.out.below hb)
  replace HP3 := Lib.hid (HP3.out.below hb)
  replace HY5 := Lib.hid (HY5.out.below hb)
  replace HP5 := Lib.hid (HP5.out.below hb)
  replace HY13 := Lib.hid (HY13.out.below hb)
  replace HP13 := Lib.hid (HP13.out.below hb)
  clear hb HU HR HX
  obtain ⟨y, rfl, hye⟩ := one_map hys
  have hyl := (hl y (List.mem_singleton.2 rfl)).lx
  obtain ⟨A8, c8, rfl, hv8, -, -⟩ := ho.vat
  obtain ⟨b8, o8, rfl, -, q0, q1, q2, q3, -⟩ := Row.at (xs := [y]) ⟨hv8, fun z hz => by (rw [List.mem_singleton.1 hz]; exact hyl)⟩ 0 (Nat.le_refl _)
  simp only [List.getElem_cons_zero, Nat.zero_mul, Nat.add_zero, List.length_singleton] at q0 q1 q2 q3 ⊢
  unfold LxAt at hyl
  rw [hye] at q0 q1 q2 q3 hyl
  have HY8 := Lib.hid hyl
  have HM := Lib.hid (And.intro q0 (And.intro q1 (And.intro q2 q3)))
  clear hys hyl hye hv8 ho hl q0 q1 q2 q3
  generalize y.A = A9 at HY8 HM
  generalize y.ca = c9 at HY8 HM
  generalize y.C = C9 at HY8 HM
  generalize y.cc = d9 at HY8 HM
  clear y
  go_upto_region 9 with (fail)
  have gd := below_drew X22.heap.size X22
  have HKS := Lib.hid (fun W (hW : Below X22.heap.size X22 W) => show (fun w' => Below X22.heap.size X22 w' ∧ w'.cell? ⟨b1, 0, none⟩ = some (.int .u8 aw1.v) ∧ w'.cell? ⟨b1, 1, none⟩ = some (.int .u8 aw1.k) ∧ w'.cell? ⟨b1, 2, none⟩ = some (.slice A1 aw1.ns.length c1) ∧ w'.cell? ⟨b1, 3, none⟩ = some (.slice C1 aw1.ts.length d1) ∧ w'.cell? ⟨b3, 0, none⟩ = some (.int .u8 aw2.v) ∧ w'.cell? ⟨b3, 1, none⟩ = some (.int .u8 aw2.k) ∧ w'.cell? ⟨b3, 2, none⟩ = some (.slice A3 aw2.ns.length c3) ∧ w'.cell? ⟨b3, 3, none⟩ = some (.slice C3 aw2.ts.length d3) ∧ w'.cell? ⟨b5, 0, none⟩ = some (.int .u8 aw3.v) ∧ w'.cell? ⟨b5, 1, none⟩ = some (.int .u8 aw3.k) ∧ w'.cell? ⟨b5, 2, none⟩ = some (.slice A5 aw3.ns.length c5) ∧ w'.cell? ⟨b5, 3, none⟩ = some (.slice C5 aw3.ts.length d5) ∧ w'.cell? ⟨b13, 0, none⟩ = some (.int .u8 aw7.v) ∧ w'.cell? ⟨b13, 1, none⟩ = some (.int .u8 aw7.k) ∧ w'.cell? ⟨b13, 2, none⟩ = some (.slice A13 aw7.ns.length c13) ∧ w'.cell? ⟨b13, 3, none⟩ = some (.slice C13 aw7.ts.length d13) ∧ w'.cell? ⟨b8, o8, none⟩ = some (.int .u8 aw8.v) ∧ w'.cell? ⟨b8, o8 + 1, none⟩ = some (.int .u8 aw8.k) ∧ w'.cell? ⟨b8, o8 + 2, none⟩ = some (.slice A9 aw8.ns.length c9) ∧ w'.cell? ⟨b8, o8 + 3, none⟩ = some (.slice C9 aw8.ts.length d9)) W from by
    obtain ⟨p1_0, p1_1, p1_2, p1_3⟩ := HP1.out.below hW
    obtain ⟨p3_0, p3_1, p3_2, p3_3⟩ := HP3.out.below hW
    obtain ⟨p5_0, p5_1, p5_2, p5_3⟩ := HP5.out.below hW
    obtain ⟨p13_0, p13_1, p13_2, p13_3⟩ := HP13.out.below hW
    obtain ⟨m0, m1, m2, m3⟩ := HM.out
    exact ⟨hW, p1_0, p1_1, p1_2, p1_3, p3_0, p3_1, p3_2, p3_3, p5_0, p5_1, p5_2, p5_3, p13_0, p13_1, p13_2, p13_3, cell_kept m0 hW, cell_kept m1 hW, cell_kept m2 hW, cell_kept m3 hW⟩)
  refine wp_region_held_drew (S := (fun w' => Below X22.heap.size X22 w' ∧ w'.cell? ⟨b1, 0, none⟩ = some (.int .u8 aw1.v) ∧ w'.cell? ⟨b1, 1, none⟩ = some (.int .u8 aw1.k) ∧ w'.cell? ⟨b1, 2, none⟩ = some (.slice A1 aw1.ns.length c1) ∧ w'.cell? ⟨b1, 3, none⟩ = some (.slice C1 aw1.ts.length d1) ∧ w'.cell? ⟨b3, 0, none⟩ = some (.int .u8 aw2.v) ∧ w'.cell? ⟨b3, 1, none⟩ = some (.int .u8 aw2.k) ∧ w'.cell? ⟨b3, 2, none⟩ = some (.slice A3 aw2.ns.length c3) ∧ w'.cell? ⟨b3, 3, none⟩ = some (.slice C3 aw2.ts.length d3) ∧ w'.cell? ⟨b5, 0, none⟩ = some (.int .u8 aw3.v) ∧ w'.cell? ⟨b5, 1, none⟩ = some (.int .u8 aw3.k) ∧ w'.cell? ⟨b5, 2, none⟩ = some (.slice A5 aw3.ns.length c5) ∧ w'.cell? ⟨b5, 3, none⟩ = some (.slice C5 aw3.ts.length d5) ∧ w'.cell? ⟨b13, 0, none⟩ = some (.int .u8 aw7.v) ∧ w'.cell? ⟨b13, 1, none⟩ = some (.int .u8 aw7.k) ∧ w'.cell? ⟨b13, 2, none⟩ = some (.slice A13 aw7.ns.length c13) ∧ w'.cell? ⟨b13, 3, none⟩ = some (.slice C13 aw7.ts.length d13) ∧ w'.cell? ⟨b8, o8, none⟩ = some (.int .u8 aw8.v) ∧ w'.cell? ⟨b8, o8 + 1, none⟩ = some (.int .u8 aw8.k) ∧ w'.cell? ⟨b8, o8 + 2, none⟩ = some (.slice A9 aw8.ns.length c9) ∧ w'.cell? ⟨b8, o8 + 3, none⟩ = some (.slice C9 aw8.ts.length d9))) (by kernel_rfl) (HKS.out _ gd) (fun hHeld => ?_)
  refine wpAnyH_take (i := 0) (oi := { dst := some 69, op := Go.Op.load 25 (Go.Operand.tmp 1), type := 25, pos := "outright.go:30", after := #[], guard := none }) (v := ?v1) rfl (by kernel_rfl) (by kernel_rfl) (by kernel_rfl) (fun _ _ _ h => h) (Or.inl ⟨by rfl, ?hy1⟩) (by assumption) ?rest1
  case hy1 => (intro w hSw; obtain ⟨s0, s1, s2, s3, s4, s5, s6, s7, s8, s9, s10, s11, s12, s13, s14, s15, s16, s17, s18, s19, s20⟩ := hSw; go_simp; try with_reducible rfl)
  try simp only [Act.put, List.setIfInBounds_toArray, List.set_cons_zero, List.set_cons_succ]
  refine wpAnyH_take (i := 1) (oi := { dst := some 70, op := Go.Op.move (Go.Operand.tmp 2), type := 32, pos := "outright.go:30", after := #[], guard := none }) (v := ?v2) rfl (by kernel_rfl) (by kernel_rfl) (by kernel_rfl) (fun _ _ _ h => h) (Or.inl ⟨by rfl, ?hy2⟩) (by assumption) ?rest2
  case hy2 => (intro w hSw; obtain ⟨s0, s1, s2, s3, s4, s5, s6, s7, s8, s9, s10, s11, s12, s13, s14, s15, s16, s17, s18, s19, s20⟩ := hSw; go_simp; try with_reducible rfl)
  try simp only [Act.put, List.setIfInBounds_toArray, List.set_cons_zero, List.set_cons_succ]
  refine wpAnyH_ready (rs := [2]) (by kernel_rfl) (by simp) ?_
  refine (AllReadyH.cons (o := { dst := some 71, op := Go.Op.buildSlice 22 2 #[(0, Go.Operand.const (Go.Value.int Go.IntKind.i64 1)), (1, Go.Operand.const (Go.Value.int Go.IntKind.i64 500))], type := 22, pos := "outright.go:30", after := #[], guard := none }) rfl (fun K hK => ?br3_2) AllReadyH.nil)
  case br3_2 =>
   have hb := (Below.refl X22.drew.heap.size X22.drew).alloc (Nat.le_refl _) (.cells #[.int .i64 1, .int .i64 500] 2)
   have hx := (show EvAt (X22.drew.alloc (.cells #[.int .i64 1, .int .i64 500] 2)) (some ⟨X22.drew.heap.size, 0, none⟩) 2 none 0 ⟨2, 6, [1, 500], []⟩ from ev_lit X22.drew 2 6 [1, 500] (by decide) (by decide) (by decide))
   have g1 := below_step gd hb
   go_simp
   refine hK.out _ _ (HKS.out _ g1) (fun hHeld => ?_)
   clear hK K hb
   try simp only [Act.put, List.setIfInBounds_toArray, List.set_cons_zero, List.set_cons_succ]
   refine wpAnyH_ready (rs := [3]) (by kernel_rfl) (by simp) ?_
   refine (AllReadyH.cons (o := { dst := some 72, op := Go.Op.call { callee := Go.Callee.value (Go.Operand.func 25), args := #[Go.Operand.const (Go.Value.int Go.IntKind.u8 2), Go.Operand.const (Go.Value.int Go.IntKind.u8 6), Go.Operand.tmp 71], argTypes := #[5, 5, 22] }, type := 25, pos := "outright.go:30", after := #[{ on := 2, ground := Go.Ground.data }], guard := none }) rfl (fun K hK => ?br4_3) AllReadyH.nil)
   case br4_3 =>
    have hc := event_any 2 6 (some ⟨X22.drew.heap.size, 0, none⟩) 2 2 (X22.drew.alloc (.cells #[.int .i64 1, .int .i64 500] 2))
    go_simp
    go_at_call 25
    refine hc.mono ?_
    rintro z V2 ⟨rfl, hb⟩
    have g2 := below_step g1 hb
    replace hx := hx.below hb
    clear hc
    refine hK.out _ _ (HKS.out _ g2) (fun hHeld => ?_)
    clear hK K hb
    try simp only [Act.put, List.setIfInBounds_toArray, List.set_cons_zero, List.set_cons_succ]
    refine wpAnyH_ready (rs := [4]) (by kernel_rfl) (by simp) ?_
    refine (AllReadyH.cons (o := { dst := some 73, op := Go.Op.call { callee := Go.Callee.value (Go.Operand.func 21), args := #[Go.Operand.tmp 69, Go.Operand.tmp 70, Go.Operand.tmp 72], argTypes := #[25, 32, 25] }, type := 4, pos := "outright.go:30", after := #[{ on := 0, ground := Go.Ground.data }, { on := 1, ground := Go.Ground.data }, { on := 3, ground := Go.Ground.data }, { on := 3, ground := Go.Ground.chain }], guard := none }) rfl (fun K hK => ?br5_4) AllReadyH.nil)
    case br5_4 =>
     have hc := told_any _ _ _ _ aw1 0 _ _ _ _ ⟨2, 6, [1, 500], []⟩ (by decide) (by decide) (by decide) (by decide) V2 (HY1.out.below g2) hx
     rw [aw1_same] at hc
     go_simp
     go_at_call 21
     refine hc.mono ?_
     rintro z V3 ⟨rfl, hb⟩
     have g3 := below_step g2 hb
     clear hx
     clear hc
     refine hK.out _ _ (HKS.out _ g3) (fun hHeld => ?_)
     clear hK K hb
     try simp only [Act.put, List.setIfInBounds_toArray, List.set_cons_zero, List.set_cons_succ]
     refine wpAnyH_take (i := 5) (oi := { dst := some 74, op := Go.Op.move (Go.Operand.tmp 73), type := 4, pos := "outright.go:30", after := #[{ on := 4, ground := Go.Ground.data }, { on := 4, ground := Go.Ground.chain }], guard := none }) (v := ?v6) rfl (by kernel_rfl) (by kernel_rfl) (by kernel_rfl) (fun _ _ _ h => h) (Or.inl ⟨by rfl, ?hy6⟩) (by assumption) ?rest6
     case hy6 => (intro w hSw; obtain ⟨s0, s1, s2, s3, s4, s5, s6, s7, s8, s9, s10, s11, s12, s13, s14, s15, s16, s17, s18, s19, s20⟩ := hSw; go_simp; try with_reducible rfl)
     try simp only [Act.put, List.setIfInBounds_toArray, List.set_cons_zero, List.set_cons_succ]
     refine wpAnyH_take (i := 6) (oi := { dst := some 75, op := Go.Op.load 25 (Go.Operand.tmp 3), type := 25, pos := "outright.go:30", after := #[{ on := 5, ground := Go.Ground.guard }], guard := some (5, true) }) (v := ?v7) rfl (by kernel_rfl) (by kernel_rfl) (by kernel_rfl) (fun _ _ _ h => h) (Or.inl ⟨by rfl, ?hy7⟩) (by assumption) ?rest7
     case hy7 => (intro w hSw; obtain ⟨s0, s1, s2, s3, s4, s5, s6, s7, s8, s9, s10, s11, s12, s13, s14, s15, s16, s17, s18, s19, s20⟩ := hSw; go_simp; try with_reducible rfl)
     try simp only [Act.put, List.setIfInBounds_toArray, List.set_cons_zero, List.set_cons_succ]
     refine wpAnyH_take (i := 7) (oi := { dst := some 76, op := Go.Op.move (Go.Operand.tmp 4), type := 32, pos := "outright.go:30", after := #[{ on := 5, ground := Go.Ground.guard }], guard := some (5, true) }) (v := ?v8) rfl (by kernel_rfl) (by kernel_rfl) (by kernel_rfl) (fun _ _ _ h => h) (Or.inl ⟨by rfl, ?hy8⟩) (by assumption) ?rest8
     case hy8 => (intro w hSw; obtain ⟨s0, s1, s2, s3, s4, s5, s6, s7, s8, s9, s10, s11, s12, s13, s14, s15, s16, s17, s18, s19, s20⟩ := hSw; go_simp; try with_reducible rfl)
     try simp only [Act.put, List.setIfInBounds_toArray, List.set_cons_zero, List.set_cons_succ]
     refine wpAnyH_ready (rs := [8]) (by kernel_rfl) (by simp) ?_
     refine (AllReadyH.cons (o := { dst := some 77, op := Go.Op.buildSlice 22 6 #[(0, Go.Operand.const (Go.Value.int Go.IntKind.i64 1)), (1, Go.Operand.const (Go.Value.int Go.IntKind.i64 2)), (2, Go.Operand.const (Go.Value.int Go.IntKind.i64 3)), (3, Go.Operand.const (Go.Value.int Go.IntKind.i64 1)), (4, Go.Operand.const (Go.Value.int Go.IntKind.i64 700)), (5, Go.Operand.const (Go.Value.int Go.IntKind.i64 9))], type := 22, pos := "outright.go:30", after := #[{ on := 5, ground := Go.Ground.guard }], guard := some (5, true) }) rfl (fun K hK => ?br9_8) AllReadyH.nil)
     case br9_8 =>
      have hb := (Below.refl V3.heap.size V3).alloc (Nat.le_refl _) (.cells #[.int .i64 1, .int .i64 2, .int .i64 3, .int .i64 1, .int .i64 700, .int .i64 9] 2)
      have hx := (show EvAt (V3.alloc (.cells #[.int .i64 1, .int .i64 2, .int .i64 3, .int .i64 1, .int .i64 700, .int .i64 9] 2)) (some ⟨V3.heap.size, 0, none⟩) 6 none 0 ⟨3, 11, [1, 2, 3, 1, 700, 9], []⟩ from ev_lit V3 3 11 [1, 2, 3, 1, 700, 9] (by decide) (by decide) (by decide))
      have g4 := below_step g3 hb
      go_simp
      refine hK.out _ _ (HKS.out _ g4) (fun hHeld => ?_)
      clear hK K hb
      try simp only [Act.put, List.setIfInBounds_toArray, List.set_cons_zero, List.set_cons_succ]
      refine wpAnyH_ready (rs := [9]) (by kernel_rfl) (by simp) ?_
      refine (AllReadyH.cons (o := { dst := some 78, op := Go.Op.call { callee := Go.Callee.value (Go.Operand.func 25), args := #[Go.Operand.const (Go.Value.int Go.IntKind.u8 3), Go.Operand.const (Go.Value.int Go.IntKind.u8 11), Go.Operand.tmp 77], argTypes := #[5, 5, 22] }, type := 25, pos := "outright.go:30", after := #[{ on := 8, ground := Go.Ground.data }, { on := 5, ground := Go.Ground.chain }, { on := 5, ground := Go.Ground.guard }], guard := some (5, true) }) rfl (fun K hK => ?br10_9) AllReadyH.nil)
      case br10_9 =>
       have hc := event_any 3 11 (some ⟨V3.heap.size, 0, none⟩) 6 6 (V3.alloc (.cells #[.int .i64 1, .int .i64 2, .int .i64 3, .int .i64 1, .int .i64 700, .int .i64 9] 2))
       go_simp
       go_at_call 25
       refine hc.mono ?_
       rintro z V5 ⟨rfl, hb⟩
       have g5 := below_step g4 hb
       replace hx := hx.below hb
       clear hc
       refine hK.out _ _ (HKS.out _ g5) (fun hHeld => ?_)
       clear hK K hb
       try simp only [Act.put, List.setIfInBounds_toArray, List.set_cons_zero, List.set_cons_succ]
       refine wpAnyH_ready (rs := [10]) (by kernel_rfl) (by simp) ?_
       refine (AllReadyH.cons (o := { dst := some 79, op := Go.Op.call { callee := Go.Callee.value (Go.Operand.func 21), args := #[Go.Operand.tmp 75, Go.Operand.tmp 76, Go.Operand.tmp 78], argTypes := #[25, 32, 25] }, type := 4, pos := "outright.go:30", after := #[{ on := 6, ground := Go.Ground.data }, { on := 7, ground := Go.Ground.data }, { on := 9, ground := Go.Ground.data }, { on := 9, ground := Go.Ground.chain }, { on := 5, ground := Go.Ground.guard }], guard := some (5, true) }) rfl (fun K hK => ?br11_10) AllReadyH.nil)
       case br11_10 =>
        have hc := told_any _ _ _ _ aw2 0 _ _ _ _ ⟨3, 11, [1, 2, 3, 1, 700, 9], []⟩ (by decide) (by decide) (by decide) (by decide) V5 (HY3.out.below g5) hx
        rw [aw2_same] at hc
        go_simp
        go_at_call 21
        refine hc.mono ?_
        rintro z V6 ⟨rfl, hb⟩
        have g6 := below_step g5 hb
        clear hx
        clear hc
        refine hK.out _ _ (HKS.out _ g6) (fun hHeld => ?_)
        clear hK K hb
        try simp only [Act.put, List.setIfInBounds_toArray, List.set_cons_zero, List.set_cons_succ]
        refine wpAnyH_take (i := 11) (oi := { dst := some 80, op := Go.Op.pick (Go.Operand.tmp 74) (Go.Operand.tmp 79) (Go.Operand.const (Go.Value.bool false)), type := 4, pos := "outright.go:30", after := #[{ on := 5, ground := Go.Ground.data }, { on := 10, ground := Go.Ground.data }], guard := none }) (v := ?v12) rfl (by kernel_rfl) (by kernel_rfl) (by kernel_rfl) (fun _ _ _ h => h) (Or.inl ⟨by rfl, ?hy12⟩) (by assumption) ?rest12
        case hy12 => (intro w hSw; obtain ⟨s0, s1, s2, s3, s4, s5, s6, s7, s8, s9, s10, s11, s12, s13, s14, s15, s16, s17, s18, s19, s20⟩ := hSw; go_simp; try with_reducible rfl)
        try simp only [Act.put, List.setIfInBounds_toArray, List.set_cons_zero, List.set_cons_succ]
        refine wpAnyH_take (i := 12) (oi := { dst := some 81, op := Go.Op.move (Go.Operand.tmp 80), type := 4, pos := "outright.go:30", after := #[{ on := 11, ground := Go.Ground.data }, { on := 10, ground := Go.Ground.chain }], guard := none }) (v := ?v13) rfl (by kernel_rfl) (by kernel_rfl) (by kernel_rfl) (fun _ _ _ h => h) (Or.inl ⟨by rfl, ?hy13⟩) (by assumption) ?rest13
        case hy13 => (intro w hSw; obtain ⟨s0, s1, s2, s3, s4, s5, s6, s7, s8, s9, s10, s11, s12, s13, s14, s15, s16, s17, s18, s19, s20⟩ := hSw; go_simp; try with_reducible rfl)
        try simp only [Act.put, List.setIfInBounds_toArray, List.set_cons_zero, List.set_cons_succ]
        refine wpAnyH_take (i := 13) (oi := { dst := some 82, op := Go.Op.load 25 (Go.Operand.tmp 5), type := 25, pos := "outright.go:30", after := #[{ on := 12, ground := Go.Ground.guard }], guard := some (12, true) }) (v := ?v14) rfl (by kernel_rfl) (by kernel_rfl) (by kernel_rfl) (fun _ _ _ h => h) (Or.inl ⟨by rfl, ?hy14⟩) (by assumption) ?rest14
        case hy14 => (intro w hSw; obtain ⟨s0, s1, s2, s3, s4, s5, s6, s7, s8, s9, s10, s11, s12, s13, s14, s15, s16, s17, s18, s19, s20⟩ := hSw; go_simp; try with_reducible rfl)
        try simp only [Act.put, List.setIfInBounds_toArray, List.set_cons_zero, List.set_cons_succ]
        refine wpAnyH_take (i := 14) (oi := { dst := some 83, op := Go.Op.move (Go.Operand.tmp 6), type := 32, pos := "outright.go:30", after := #[{ on := 12, ground := Go.Ground.guard }], guard := some (12, true) }) (v := ?v15) rfl (by kernel_rfl) (by kernel_rfl) (by kernel_rfl) (fun _ _ _ h => h) (Or.inl ⟨by rfl, ?hy15⟩) (by assumption) ?rest15
        case hy15 => (intro w hSw; obtain ⟨s0, s1, s2, s3, s4, s5, s6, s7, s8, s9, s10, s11, s12, s13, s14, s15, s16, s17, s18, s19, s20⟩ := hSw; go_simp; try with_reducible rfl)
        try simp only [Act.put, List.setIfInBounds_toArray, List.set_cons_zero, List.set_cons_succ]
        refine wpAnyH_ready (rs := [15, 16]) (by kernel_rfl) (by simp) ?_
        refine (AllReadyH.cons (o := { dst := some 84, op := Go.Op.buildSlice 22 2 #[(0, Go.Operand.const (Go.Value.int Go.IntKind.i64 1)), (1, Go.Operand.const (Go.Value.int Go.IntKind.i64 100))], type := 22, pos := "outright.go:30", after := #[{ on := 12, ground := Go.Ground.guard }], guard := some (12, true) }) rfl (fun K hK => ?br16_15) (AllReadyH.cons (o := { dst := some 85, op := Go.Op.buildSlice 23 1 #[(0, Go.Operand.const (Go.Value.string { data := #[120] }))], type := 23, pos := "outright.go:30", after := #[{ on := 12, ground := Go.Ground.guard }], guard := some (12, true) }) rfl (fun K hK => ?br16_16) AllReadyH.nil))
        case br16_15 =>
         have hb := (Below.refl V6.heap.size V6).alloc (Nat.le_refl _) (.cells #[.int .i64 1, .int .i64 100] 2)
         have hn := vat_row V6 (nums [1, 100]) 2
         have g7 := below_step g6 hb
         go_simp
         refine hK.out _ _ (HKS.out _ g7) (fun hHeld => ?_)
         clear hK K hb
         try simp only [Act.put, List.setIfInBounds_toArray, List.set_cons_zero, List.set_cons_succ]
         refine wpAnyH_ready (rs := [16]) (by kernel_rfl) (by simp) ?_
         refine (AllReadyH.cons (o := { dst := some 85, op := Go.Op.buildSlice 23 1 #[(0, Go.Operand.const (Go.Value.string { data := #[120] }))], type := 23, pos := "outright.go:30", after := #[{ on := 12, ground := Go.Ground.guard }], guard := some (12, true) }) rfl (fun K hK => ?br17_16) AllReadyH.nil)
         case br17_16 =>
          have hb := (Below.refl (V6.alloc (.cells #[.int .i64 1, .int .i64 100] 2)).heap.size (V6.alloc (.cells #[.int .i64 1, .int .i64 100] 2))).alloc (Nat.le_refl _) (.cells #[.string ⟨#[120]⟩] 9)
          have ht := vat_new (V6.alloc (.cells #[.int .i64 1, .int .i64 100] 2)) (.string ⟨#[120]⟩) 9
          have hz : (V6.alloc (.cells #[.int .i64 1, .int .i64 100] 2)).heap.size = V6.heap.size + 1 := by simp
          rw [hz] at ht
          clear hz
          have hn := hn.below hb
          have g8 := below_step g7 hb
          go_simp
          refine hK.out _ _ (HKS.out _ g8) (fun hHeld => ?_)
          clear hK K hb
          try simp only [Act.put, List.setIfInBounds_toArray, List.set_cons_zero, List.set_cons_succ]
          refine wpAnyH_take (i := 17) (oi := { dst := some 86, op := Go.Op.build 25 #[(0, Go.Operand.const (Go.Value.int Go.IntKind.u8 2)), (1, Go.Operand.const (Go.Value.int Go.IntKind.u8 3)), (2, Go.Operand.tmp 84), (3, Go.Operand.tmp 85)], type := 25, pos := "outright.go:30", after := #[{ on := 15, ground := Go.Ground.data }, { on := 16, ground := Go.Ground.data }, { on := 12, ground := Go.Ground.guard }], guard := some (12, true) }) (v := ?v18) rfl (by kernel_rfl) (by kernel_rfl) (by kernel_rfl) (fun _ _ _ h => h) (Or.inl ⟨by rfl, ?hy18⟩) (by assumption) ?rest18
          case hy18 => (intro w hSw; obtain ⟨s0, s1, s2, s3, s4, s5, s6, s7, s8, s9, s10, s11, s12, s13, s14, s15, s16, s17, s18, s19, s20⟩ := hSw; go_simp; try with_reducible rfl)
          try simp only [Act.put, List.setIfInBounds_toArray, List.set_cons_zero, List.set_cons_succ]
          refine wpAnyH_ready (rs := [18]) (by kernel_rfl) (by simp) ?_
          refine (AllReadyH.cons (o := { dst := some 87, op := Go.Op.call { callee := Go.Callee.value (Go.Operand.func 21), args := #[Go.Operand.tmp 82, Go.Operand.tmp 83, Go.Operand.tmp 86], argTypes := #[25, 32, 25] }, type := 4, pos := "outright.go:30", after := #[{ on := 13, ground := Go.Ground.data }, { on := 14, ground := Go.Ground.data }, { on := 17, ground := Go.Ground.data }, { on := 12, ground := Go.Ground.chain }, { on := 12, ground := Go.Ground.guard }], guard := some (12, true) }) rfl (fun K hK => ?br19_18) AllReadyH.nil)
          case br19_18 =>
           have hx : EvAt ((V6.alloc (.cells #[.int .i64 1, .int .i64 100] 2)).alloc (.cells #[.string ⟨#[120]⟩] 9)) (some ⟨V6.heap.size, 0, none⟩) 2 (some ⟨V6.heap.size + 1, 0, none⟩) 1 ⟨2, 3, [1, 100], [⟨#[120]⟩]⟩ := ⟨by decide, by decide, small_fits (by decide), fun x hx => by (rw [List.mem_singleton.1 hx]; decide), hn, ht, fun h => (by cases h), fun h => (by cases h), Nat.le_refl _, Nat.le_refl _⟩
           have hc := told_any _ _ _ _ aw3 0 _ _ _ _ ⟨2, 3, [1, 100], [⟨#[120]⟩]⟩ (by decide) (by decide) (by decide) (by decide) ((V6.alloc (.cells #[.int .i64 1, .int .i64 100] 2)).alloc (.cells #[.string ⟨#[120]⟩] 9)) (HY5.out.below g8) hx
           rw [aw3_same] at hc
           go_simp
           go_at_call 21
           refine hc.mono ?_
           rintro z V9 ⟨rfl, hb⟩
           have g9 := below_step g8 hb
           clear hx hn ht
           clear hc
           refine hK.out _ _ (HKS.out _ g9) (fun hHeld => ?_)
           clear hK K hb
           try simp only [Act.put, List.setIfInBounds_toArray, List.set_cons_zero, List.set_cons_succ]
           refine wpAnyH_take (i := 19) (oi := { dst := some 88, op := Go.Op.pick (Go.Operand.tmp 81) (Go.Operand.tmp 87) (Go.Operand.const (Go.Value.bool false)), type := 4, pos := "outright.go:30", after := #[{ on := 12, ground := Go.Ground.data }, { on := 18, ground := Go.Ground.data }], guard := none }) (v := ?v20) rfl (by kernel_rfl) (by kernel_rfl) (by kernel_rfl) (fun _ _ _ h => h) (Or.inl ⟨by rfl, ?hy20⟩) (by assumption) ?rest20
           case hy20 => (intro w hSw; obtain ⟨s0, s1, s2, s3, s4, s5, s6, s7, s8, s9, s10, s11, s12, s13, s14, s15, s16, s17, s18, s19, s20⟩ := hSw; go_simp; try with_reducible rfl)
           try simp only [Act.put, List.setIfInBounds_toArray, List.set_cons_zero, List.set_cons_succ]
           refine wpAnyH_take (i := 20) (oi := { dst := some 89, op := Go.Op.move (Go.Operand.tmp 88), type := 4, pos := "outright.go:30", after := #[{ on := 19, ground := Go.Ground.data }, { on := 18, ground := Go.Ground.chain }], guard := none }) (v := ?v21) rfl (by kernel_rfl) (by kernel_rfl) (by kernel_rfl) (fun _ _ _ h => h) (Or.inl ⟨by rfl, ?hy21⟩) (by assumption) ?rest21
           case hy21 => (intro w hSw; obtain ⟨s0, s1, s2, s3, s4, s5, s6, s7, s8, s9, s10, s11, s12, s13, s14, s15, s16, s17, s18, s19, s20⟩ := hSw; go_simp; try with_reducible rfl)
           try simp only [Act.put, List.setIfInBounds_toArray, List.set_cons_zero, List.set_cons_succ]
           refine wpAnyH_take (i := 21) (oi := { dst := some 90, op := Go.Op.move (Go.Operand.tmp 8), type := 32, pos := "outright.go:30", after := #[{ on := 20, ground := Go.Ground.guard }], guard := some (20, true) }) (v := ?v22) rfl (by kernel_rfl) (by kernel_rfl) (by kernel_rfl) (fun _ _ _ h => h) (Or.inl ⟨by rfl, ?hy22⟩) (by assumption) ?rest22
           case hy22 => (intro w hSw; obtain ⟨s0, s1, s2, s3, s4, s5, s6, s7, s8, s9, s10, s11, s12, s13, s14, s15, s16, s17, s18, s19, s20⟩ := hSw; go_simp; try with_reducible rfl)
           try simp only [Act.put, List.setIfInBounds_toArray, List.set_cons_zero, List.set_cons_succ]
           refine wpAnyH_take (i := 22) (oi := { dst := some 91, op := Go.Op.binOp Go.BinOp.eql 32 (Go.Operand.tmp 90) (Go.Operand.const (Go.Value.int Go.IntKind.i64 43)) 32, type := 4, pos := "outright.go:30", after := #[{ on := 21, ground := Go.Ground.data }, { on := 20, ground := Go.Ground.guard }], guard := some (20, true) }) (v := ?v23) rfl (by kernel_rfl) (by kernel_rfl) (by kernel_rfl) (fun _ _ _ h => h) (Or.inl ⟨by rfl, ?hy23⟩) (by assumption) ?rest23
           case hy23 => (intro w hSw; obtain ⟨s0, s1, s2, s3, s4, s5, s6, s7, s8, s9, s10, s11, s12, s13, s14, s15, s16, s17, s18, s19, s20⟩ := hSw; go_simp; try with_reducible rfl)
           try simp only [Act.put, List.setIfInBounds_toArray, List.set_cons_zero, List.set_cons_succ]
           refine wpAnyH_take (i := 23) (oi := { dst := some 92, op := Go.Op.pick (Go.Operand.tmp 89) (Go.Operand.tmp 91) (Go.Operand.const (Go.Value.bool false)), type := 4, pos := "outright.go:30", after := #[{ on := 20, ground := Go.Ground.data }, { on := 22, ground := Go.Ground.data }], guard := none }) (v := ?v24) rfl (by kernel_rfl) (by kernel_rfl) (by kernel_rfl) (fun _ _ _ h => h) (Or.inl ⟨by rfl, ?hy24⟩) (by assumption) ?rest24
           case hy24 => (intro w hSw; obtain ⟨s0, s1, s2, s3, s4, s5, s6, s7, s8, s9, s10, s11, s12, s13, s14, s15, s16, s17, s18, s19, s20⟩ := hSw; go_simp; try with_reducible rfl)
           try simp only [Act.put, List.setIfInBounds_toArray, List.set_cons_zero, List.set_cons_succ]
           refine wpAnyH_take (i := 24) (oi := { dst := some 93, op := Go.Op.move (Go.Operand.tmp 92), type := 4, pos := "outright.go:30", after := #[{ on := 23, ground := Go.Ground.data }, { on := 20, ground := Go.Ground.chain }], guard := none }) (v := ?v25) rfl (by kernel_rfl) (by kernel_rfl) (by kernel_rfl) (fun _ _ _ h => h) (Or.inl ⟨by rfl, ?hy25⟩) (by assumption) ?rest25
           case hy25 => (intro w hSw; obtain ⟨s0, s1, s2, s3, s4, s5, s6, s7, s8, s9, s10, s11, s12, s13, s14, s15, s16, s17, s18, s19, s20⟩ := hSw; go_simp; try with_reducible rfl)
           try simp only [Act.put, List.setIfInBounds_toArray, List.set_cons_zero, List.set_cons_succ]
           refine wpAnyH_take (i := 25) (oi := { dst := some 94, op := Go.Op.move (Go.Operand.tmp 10), type := 32, pos := "outright.go:30", after := #[{ on := 24, ground := Go.Ground.guard }], guard := some (24, true) }) (v := ?v26) rfl (by kernel_rfl) (by kernel_rfl) (by kernel_rfl) (fun _ _ _ h => h) (Or.inl ⟨by rfl, ?hy26⟩) (by assumption) ?rest26
           case hy26 => (intro w hSw; obtain ⟨s0, s1, s2, s3, s4, s5, s6, s7, s8, s9, s10, s11, s12, s13, s14, s15, s16, s17, s18, s19, s20⟩ := hSw; go_simp; try with_reducible rfl)
           try simp only [Act.put, List.setIfInBounds_toArray, List.set_cons_zero, List.set_cons_succ]
           refine wpAnyH_take (i := 26) (oi := { dst := some 95, op := Go.Op.binOp Go.BinOp.eql 32 (Go.Operand.tmp 94) (Go.Operand.const (Go.Value.int Go.IntKind.i64 43)) 32, type := 4, pos := "outright.go:30", after := #[{ on := 25, ground := Go.Ground.data }, { on := 24, ground := Go.Ground.guard }], guard := some (24, true) }) (v := ?v27) rfl (by kernel_rfl) (by kernel_rfl) (by kernel_rfl) (fun _ _ _ h => h) (Or.inl ⟨by rfl, ?hy27⟩) (by assumption) ?rest27
           case hy27 => (intro w hSw; obtain ⟨s0, s1, s2, s3, s4, s5, s6, s7, s8, s9, s10, s11, s12, s13, s14, s15, s16, s17, s18, s19, s20⟩ := hSw; go_simp; try with_reducible rfl)
           try simp only [Act.put, List.setIfInBounds_toArray, List.set_cons_zero, List.set_cons_succ]
           refine wpAnyH_take (i := 27) (oi := { dst := some 96, op := Go.Op.pick (Go.Operand.tmp 93) (Go.Operand.tmp 95) (Go.Operand.const (Go.Value.bool false)), type := 4, pos := "outright.go:30", after := #[{ on := 24, ground := Go.Ground.data }, { on := 26, ground := Go.Ground.data }], guard := none }) (v := ?v28) rfl (by kernel_rfl) (by kernel_rfl) (by kernel_rfl) (fun _ _ _ h => h) (Or.inl ⟨by rfl, ?hy28⟩) (by assumption) ?rest28
           case hy28 => (intro w hSw; obtain ⟨s0, s1, s2, s3, s4, s5, s6, s7, s8, s9, s10, s11, s12, s13, s14, s15, s16, s17, s18, s19, s20⟩ := hSw; go_simp; try with_reducible rfl)
           try simp only [Act.put, List.setIfInBounds_toArray, List.set_cons_zero, List.set_cons_succ]
           refine wpAnyH_take (i := 28) (oi := { dst := some 97, op := Go.Op.move (Go.Operand.tmp 96), type := 4, pos := "outright.go:30", after := #[{ on := 27, ground := Go.Ground.data }, { on := 24, ground := Go.Ground.chain }], guard := none }) (v := ?v29) rfl (by kernel_rfl) (by kernel_rfl) (by kernel_rfl) (fun _ _ _ h => h) (Or.inl ⟨by rfl, ?hy29⟩) (by assumption) ?rest29
           case hy29 => (intro w hSw; obtain ⟨s0, s1, s2, s3, s4, s5, s6, s7, s8, s9, s10, s11, s12, s13, s14, s15, s16, s17, s18, s19, s20⟩ := hSw; go_simp; try with_reducible rfl)
           try simp only [Act.put, List.setIfInBounds_toArray, List.set_cons_zero, List.set_cons_succ]
           refine wpAnyH_take (i := 29) (oi := { dst := some 98, op := Go.Op.move (Go.Operand.tmp 12), type := 32, pos := "outright.go:30", after := #[{ on := 28, ground := Go.Ground.guard }], guard := some (28, true) }) (v := ?v30) rfl (by kernel_rfl) (by kernel_rfl) (by kernel_rfl) (fun _ _ _ h => h) (Or.inl ⟨by rfl, ?hy30⟩) (by assumption) ?rest30
           case hy30 => (intro w hSw; obtain ⟨s0, s1, s2, s3, s4, s5, s6, s7, s8, s9, s10, s11, s12, s13, s14, s15, s16, s17, s18, s19, s20⟩ := hSw; go_simp; try with_reducible rfl)
           try simp only [Act.put, List.setIfInBounds_toArray, List.set_cons_zero, List.set_cons_succ]
           refine wpAnyH_take (i := 30) (oi := { dst := some 99, op := Go.Op.binOp Go.BinOp.eql 32 (Go.Operand.tmp 98) (Go.Operand.const (Go.Value.int Go.IntKind.i64 43)) 32, type := 4, pos := "outright.go:30", after := #[{ on := 29, ground := Go.Ground.data }, { on := 28, ground := Go.Ground.guard }], guard := some (28, true) }) (v := ?v31) rfl (by kernel_rfl) (by kernel_rfl) (by kernel_rfl) (fun _ _ _ h => h) (Or.inl ⟨by rfl, ?hy31⟩) (by assumption) ?rest31
           case hy31 => (intro w hSw; obtain ⟨s0, s1, s2, s3, s4, s5, s6, s7, s8, s9, s10, s11, s12, s13, s14, s15, s16, s17, s18, s19, s20⟩ := hSw; go_simp; try with_reducible rfl)
           try simp only [Act.put, List.setIfInBounds_toArray, List.set_cons_zero, List.set_cons_succ]
           refine wpAnyH_take (i := 31) (oi := { dst := some 100, op := Go.Op.pick (Go.Operand.tmp 97) (Go.Operand.tmp 99) (Go.Operand.const (Go.Value.bool false)), type := 4, pos := "outright.go:30", after := #[{ on := 28, ground := Go.Ground.data }, { on := 30, ground := Go.Ground.data }], guard := none }) (v := ?v32) rfl (by kernel_rfl) (by kernel_rfl) (by kernel_rfl) (fun _ _ _ h => h) (Or.inl ⟨by rfl, ?hy32⟩) (by assumption) ?rest32
           case hy32 => (intro w hSw; obtain ⟨s0, s1, s2, s3, s4, s5, s6, s7, s8, s9, s10, s11, s12, s13, s14, s15, s16, s17, s18, s19, s20⟩ := hSw; go_simp; try with_reducible rfl)
           try simp only [Act.put, List.setIfInBounds_toArray, List.set_cons_zero, List.set_cons_succ]
           refine wpAnyH_take (i := 32) (oi := { dst := some 101, op := Go.Op.move (Go.Operand.tmp 100), type := 4, pos := "outright.go:30", after := #[{ on := 31, ground := Go.Ground.data }, { on := 28, ground := Go.Ground.chain }], guard := none }) (v := ?v33) rfl (by kernel_rfl) (by kernel_rfl) (by kernel_rfl) (fun _ _ _ h => h) (Or.inl ⟨by rfl, ?hy33⟩) (by assumption) ?rest33
           case hy33 => (intro w hSw; obtain ⟨s0, s1, s2, s3, s4, s5, s6, s7, s8, s9, s10, s11, s12, s13, s14, s15, s16, s17, s18, s19, s20⟩ := hSw; go_simp; try with_reducible rfl)
           try simp only [Act.put, List.setIfInBounds_toArray, List.set_cons_zero, List.set_cons_succ]
           refine wpAnyH_take (i := 33) (oi := { dst := some 102, op := Go.Op.load 25 (Go.Operand.tmp 13), type := 25, pos := "outright.go:30", after := #[{ on := 32, ground := Go.Ground.guard }], guard := some (32, true) }) (v := ?v34) rfl (by kernel_rfl) (by kernel_rfl) (by kernel_rfl) (fun _ _ _ h => h) (Or.inl ⟨by rfl, ?hy34⟩) (by assumption) ?rest34
           case hy34 => (intro w hSw; obtain ⟨s0, s1, s2, s3, s4, s5, s6, s7, s8, s9, s10, s11, s12, s13, s14, s15, s16, s17, s18, s19, s20⟩ := hSw; go_simp; try with_reducible rfl)
           try simp only [Act.put, List.setIfInBounds_toArray, List.set_cons_zero, List.set_cons_succ]
           refine wpAnyH_take (i := 34) (oi := { dst := some 103, op := Go.Op.move (Go.Operand.tmp 14), type := 32, pos := "outright.go:30", after := #[{ on := 32, ground := Go.Ground.guard }], guard := some (32, true) }) (v := ?v35) rfl (by kernel_rfl) (by kernel_rfl) (by kernel_rfl) (fun _ _ _ h => h) (Or.inl ⟨by rfl, ?hy35⟩) (by assumption) ?rest35
           case hy35 => (intro w hSw; obtain ⟨s0, s1, s2, s3, s4, s5, s6, s7, s8, s9, s10, s11, s12, s13, s14, s15, s16, s17, s18, s19, s20⟩ := hSw; go_simp; try with_reducible rfl)
           try simp only [Act.put, List.setIfInBounds_toArray, List.set_cons_zero, List.set_cons_succ]
           refine wpAnyH_ready (rs := [35]) (by kernel_rfl) (by simp) ?_
           refine (AllReadyH.cons (o := { dst := some 104, op := Go.Op.buildSlice 22 4 #[(0, Go.Operand.const (Go.Value.int Go.IntKind.i64 2)), (1, Go.Operand.const (Go.Value.int Go.IntKind.i64 1)), (2, Go.Operand.const (Go.Value.int Go.IntKind.i64 7)), (3, Go.Operand.const (Go.Value.int Go.IntKind.i64 9))], type := 22, pos := "outright.go:30", after := #[{ on := 32, ground := Go.Ground.guard }], guard := some (32, true) }) rfl (fun K hK => ?br36_35) AllReadyH.nil)
           case br36_35 =>
            have hb := (Below.refl V9.heap.size V9).alloc (Nat.le_refl _) (.cells #[.int .i64 2, .int .i64 1, .int .i64 7, .int .i64 9] 2)
            have hx := (show EvAt (V9.alloc (.cells #[.int .i64 2, .int .i64 1, .int .i64 7, .int .i64 9] 2)) (some ⟨V9.heap.size, 0, none⟩) 4 none 0 ⟨1, 13, [2, 1, 7, 9], []⟩ from ev_lit V9 1 13 [2, 1, 7, 9] (by decide) (by decide) (by decide))
            have g10 := below_step g9 hb
            go_simp
            refine hK.out _ _ (HKS.out _ g10) (fun hHeld => ?_)
            clear hK K hb
            try simp only [Act.put, List.setIfInBounds_toArray, List.set_cons_zero, List.set_cons_succ]
            refine wpAnyH_ready (rs := [36]) (by kernel_rfl) (by simp) ?_
            refine (AllReadyH.cons (o := { dst := some 105, op := Go.Op.call { callee := Go.Callee.value (Go.Operand.func 25), args := #[Go.Operand.const (Go.Value.int Go.IntKind.u8 1), Go.Operand.const (Go.Value.int Go.IntKind.u8 13), Go.Operand.tmp 104], argTypes := #[5, 5, 22] }, type := 25, pos := "outright.go:30", after := #[{ on := 35, ground := Go.Ground.data }, { on := 32, ground := Go.Ground.chain }, { on := 32, ground := Go.Ground.guard }], guard := some (32, true) }) rfl (fun K hK => ?br37_36) AllReadyH.nil)
            case br37_36 =>
             have hc := event_any 1 13 (some ⟨V9.heap.size, 0, none⟩) 4 4 (V9.alloc (.cells #[.int .i64 2, .int .i64 1, .int .i64 7, .int .i64 9] 2))
             go_simp
             go_at_call 25
             refine hc.mono ?_
             rintro z V11 ⟨rfl, hb⟩
             have g11 := below_step g10 hb
             replace hx := hx.below hb
             clear hc
             refine hK.out _ _ (HKS.out _ g11) (fun hHeld => ?_)
             clear hK K hb
             try simp only [Act.put, List.setIfInBounds_toArray, List.set_cons_zero, List.set_cons_succ]
             refine wpAnyH_ready (rs := [37]) (by kernel_rfl) (by simp) ?_
             refine (AllReadyH.cons (o := { dst := some 106, op := Go.Op.call { callee := Go.Callee.value (Go.Operand.func 21), args := #[Go.Operand.tmp 102, Go.Operand.tmp 103, Go.Operand.tmp 105], argTypes := #[25, 32, 25] }, type := 4, pos := "outright.go:30", after := #[{ on := 33, ground := Go.Ground.data }, { on := 34, ground := Go.Ground.data }, { on := 36, ground := Go.Ground.data }, { on := 36, ground := Go.Ground.chain }, { on := 32, ground := Go.Ground.guard }], guard := some (32, true) }) rfl (fun K hK => ?br38_37) AllReadyH.nil)
             case br38_37 =>
              have hc := told_any _ _ _ _ aw7 0 _ _ _ _ ⟨1, 13, [2, 1, 7, 9], []⟩ (by decide) (by decide) (by decide) (by decide) V11 (HY13.out.below g11) hx
              rw [aw7_same] at hc
              go_simp
              go_at_call 21
              refine hc.mono ?_
              rintro z V12 ⟨rfl, hb⟩
              have g12 := below_step g11 hb
              clear hx
              clear hc
              refine hK.out _ _ (HKS.out _ g12) (fun hHeld => ?_)
              clear hK K hb
              try simp only [Act.put, List.setIfInBounds_toArray, List.set_cons_zero, List.set_cons_succ]
              refine wpAnyH_take (i := 38) (oi := { dst := some 107, op := Go.Op.pick (Go.Operand.tmp 101) (Go.Operand.tmp 106) (Go.Operand.const (Go.Value.bool false)), type := 4, pos := "outright.go:30", after := #[{ on := 32, ground := Go.Ground.data }, { on := 37, ground := Go.Ground.data }], guard := none }) (v := ?v39) rfl (by kernel_rfl) (by kernel_rfl) (by kernel_rfl) (fun _ _ _ h => h) (Or.inl ⟨by rfl, ?hy39⟩) (by assumption) ?rest39
              case hy39 => (intro w hSw; obtain ⟨s0, s1, s2, s3, s4, s5, s6, s7, s8, s9, s10, s11, s12, s13, s14, s15, s16, s17, s18, s19, s20⟩ := hSw; go_simp; try with_reducible rfl)
              try simp only [Act.put, List.setIfInBounds_toArray, List.set_cons_zero, List.set_cons_succ]
              refine wpAnyH_take (i := 39) (oi := { dst := some 108, op := Go.Op.move (Go.Operand.tmp 107), type := 4, pos := "outright.go:30", after := #[{ on := 38, ground := Go.Ground.data }, { on := 37, ground := Go.Ground.chain }], guard := none }) (v := ?v40) rfl (by kernel_rfl) (by kernel_rfl) (by kernel_rfl) (fun _ _ _ h => h) (Or.inl ⟨by rfl, ?hy40⟩) (by assumption) ?rest40
              case hy40 => (intro w hSw; obtain ⟨s0, s1, s2, s3, s4, s5, s6, s7, s8, s9, s10, s11, s12, s13, s14, s15, s16, s17, s18, s19, s20⟩ := hSw; go_simp; try with_reducible rfl)
              try simp only [Act.put, List.setIfInBounds_toArray, List.set_cons_zero, List.set_cons_succ]
              refine wpAnyH_take (i := 40) (oi := { dst := some 109, op := Go.Op.move (Go.Operand.tmp 15), type := 5, pos := "outright.go:30", after := #[{ on := 39, ground := Go.Ground.guard }], guard := some (39, true) }) (v := ?v41) rfl (by kernel_rfl) (by kernel_rfl) (by kernel_rfl) (fun _ _ _ h => h) (Or.inl ⟨by rfl, ?hy41⟩) (by assumption) ?rest41
              case hy41 => (intro w hSw; obtain ⟨s0, s1, s2, s3, s4, s5, s6, s7, s8, s9, s10, s11, s12, s13, s14, s15, s16, s17, s18, s19, s20⟩ := hSw; go_simp; try with_reducible rfl)
              try simp only [Act.put, List.setIfInBounds_toArray, List.set_cons_zero, List.set_cons_succ]
              refine wpAnyH_take (i := 41) (oi := { dst := some 110, op := Go.Op.binOp Go.BinOp.eql 5 (Go.Operand.tmp 109) (Go.Operand.const (Go.Value.int Go.IntKind.u8 2)) 5, type := 4, pos := "outright.go:30", after := #[{ on := 40, ground := Go.Ground.data }, { on := 39, ground := Go.Ground.guard }], guard := some (39, true) }) (v := ?v42) rfl (by kernel_rfl) (by kernel_rfl) (by kernel_rfl) (fun _ _ _ h => h) (Or.inl ⟨by rfl, ?hy42⟩) (by assumption) ?rest42
              case hy42 => (intro w hSw; obtain ⟨s0, s1, s2, s3, s4, s5, s6, s7, s8, s9, s10, s11, s12, s13, s14, s15, s16, s17, s18, s19, s20⟩ := hSw; go_simp; try with_reducible rfl)
              try simp only [Act.put, List.setIfInBounds_toArray, List.set_cons_zero, List.set_cons_succ]
              refine wpAnyH_take (i := 42) (oi := { dst := some 111, op := Go.Op.pick (Go.Operand.tmp 108) (Go.Operand.tmp 110) (Go.Operand.const (Go.Value.bool false)), type := 4, pos := "outright.go:30", after := #[{ on := 39, ground := Go.Ground.data }, { on := 41, ground := Go.Ground.data }], guard := none }) (v := ?v43) rfl (by kernel_rfl) (by kernel_rfl) (by kernel_rfl) (fun _ _ _ h => h) (Or.inl ⟨by rfl, ?hy43⟩) (by assumption) ?rest43
              case hy43 => (intro w hSw; obtain ⟨s0, s1, s2, s3, s4, s5, s6, s7, s8, s9, s10, s11, s12, s13, s14, s15, s16, s17, s18, s19, s20⟩ := hSw; go_simp; try with_reducible rfl)
              try simp only [Act.put, List.setIfInBounds_toArray, List.set_cons_zero, List.set_cons_succ]
              refine wpAnyH_take (i := 43) (oi := { dst := some 112, op := Go.Op.move (Go.Operand.tmp 111), type := 4, pos := "outright.go:30", after := #[{ on := 42, ground := Go.Ground.data }, { on := 39, ground := Go.Ground.chain }], guard := none }) (v := ?v44) rfl (by kernel_rfl) (by kernel_rfl) (by kernel_rfl) (fun _ _ _ h => h) (Or.inl ⟨by rfl, ?hy44⟩) (by assumption) ?rest44
              case hy44 => (intro w hSw; obtain ⟨s0, s1, s2, s3, s4, s5, s6, s7, s8, s9, s10, s11, s12, s13, s14, s15, s16, s17, s18, s19, s20⟩ := hSw; go_simp; try with_reducible rfl)
              try simp only [Act.put, List.setIfInBounds_toArray, List.set_cons_zero, List.set_cons_succ]
              refine wpAnyH_take (i := 44) (oi := { dst := some 113, op := Go.Op.move (Go.Operand.tmp 16), type := 26, pos := "outright.go:30", after := #[{ on := 43, ground := Go.Ground.guard }], guard := some (43, true) }) (v := ?v45) rfl (by kernel_rfl) (by kernel_rfl) (by kernel_rfl) (fun _ _ _ h => h) (Or.inl ⟨by rfl, ?hy45⟩) (by assumption) ?rest45
              case hy45 => (intro w hSw; obtain ⟨s0, s1, s2, s3, s4, s5, s6, s7, s8, s9, s10, s11, s12, s13, s14, s15, s16, s17, s18, s19, s20⟩ := hSw; go_simp; try with_reducible rfl)
              try simp only [Act.put, List.setIfInBounds_toArray, List.set_cons_zero, List.set_cons_succ]
              refine wpAnyH_take (i := 45) (oi := { dst := some 114, op := Go.Op.call { callee := Go.Callee.builtin Go.Builtin.len, args := #[Go.Operand.tmp 113], argTypes := #[26] }, type := 3, pos := "outright.go:30", after := #[{ on := 44, ground := Go.Ground.data }, { on := 43, ground := Go.Ground.guard }], guard := some (43, true) }) (v := ?v46) rfl (by kernel_rfl) (by kernel_rfl) (by kernel_rfl) (fun _ _ _ h => h) (Or.inl ⟨by rfl, ?hy46⟩) (by assumption) ?rest46
              case hy46 => (intro w hSw; obtain ⟨s0, s1, s2, s3, s4, s5, s6, s7, s8, s9, s10, s11, s12, s13, s14, s15, s16, s17, s18, s19, s20⟩ := hSw; go_simp; try with_reducible rfl)
              try simp only [Act.put, List.setIfInBounds_toArray, List.set_cons_zero, List.set_cons_succ]
              refine wpAnyH_take (i := 46) (oi := { dst := some 115, op := Go.Op.binOp Go.BinOp.eql 3 (Go.Operand.tmp 114) (Go.Operand.const (Go.Value.int Go.IntKind.i64 1)) 3, type := 4, pos := "outright.go:30", after := #[{ on := 45, ground := Go.Ground.data }, { on := 43, ground := Go.Ground.guard }], guard := some (43, true) }) (v := ?v47) rfl (by kernel_rfl) (by kernel_rfl) (by kernel_rfl) (fun _ _ _ h => h) (Or.inl ⟨by rfl, ?hy47⟩) (by assumption) ?rest47
              case hy47 => (intro w hSw; obtain ⟨s0, s1, s2, s3, s4, s5, s6, s7, s8, s9, s10, s11, s12, s13, s14, s15, s16, s17, s18, s19, s20⟩ := hSw; go_simp; try with_reducible rfl)
              try simp only [Act.put, List.setIfInBounds_toArray, List.set_cons_zero, List.set_cons_succ]
              refine wpAnyH_take (i := 47) (oi := { dst := some 116, op := Go.Op.pick (Go.Operand.tmp 112) (Go.Operand.tmp 115) (Go.Operand.const (Go.Value.bool false)), type := 4, pos := "outright.go:30", after := #[{ on := 43, ground := Go.Ground.data }, { on := 46, ground := Go.Ground.data }], guard := none }) (v := ?v48) rfl (by kernel_rfl) (by kernel_rfl) (by kernel_rfl) (fun _ _ _ h => h) (Or.inl ⟨by rfl, ?hy48⟩) (by assumption) ?rest48
              case hy48 => (intro w hSw; obtain ⟨s0, s1, s2, s3, s4, s5, s6, s7, s8, s9, s10, s11, s12, s13, s14, s15, s16, s17, s18, s19, s20⟩ := hSw; go_simp; try with_reducible rfl)
              try simp only [Act.put, List.setIfInBounds_toArray, List.set_cons_zero, List.set_cons_succ]
              refine wpAnyH_take (i := 48) (oi := { dst := some 117, op := Go.Op.move (Go.Operand.tmp 116), type := 4, pos := "outright.go:30", after := #[{ on := 47, ground := Go.Ground.data }, { on := 43, ground := Go.Ground.chain }], guard := none }) (v := ?v49) rfl (by kernel_rfl) (by kernel_rfl) (by kernel_rfl) (fun _ _ _ h => h) (Or.inl ⟨by rfl, ?hy49⟩) (by assumption) ?rest49
              case hy49 => (intro w hSw; obtain ⟨s0, s1, s2, s3, s4, s5, s6, s7, s8, s9, s10, s11, s12, s13, s14, s15, s16, s17, s18, s19, s20⟩ := hSw; go_simp; try with_reducible rfl)
              try simp only [Act.put, List.setIfInBounds_toArray, List.set_cons_zero, List.set_cons_succ]
              refine wpAnyH_take (i := 49) (oi := { dst := some 118, op := Go.Op.move (Go.Operand.tmp 16), type := 26, pos := "outright.go:30", after := #[{ on := 48, ground := Go.Ground.guard }], guard := some (48, true) }) (v := ?v50) rfl (by kernel_rfl) (by kernel_rfl) (by kernel_rfl) (fun _ _ _ h => h) (Or.inl ⟨by rfl, ?hy50⟩) (by assumption) ?rest50
              case hy50 => (intro w hSw; obtain ⟨s0, s1, s2, s3, s4, s5, s6, s7, s8, s9, s10, s11, s12, s13, s14, s15, s16, s17, s18, s19, s20⟩ := hSw; go_simp; try with_reducible rfl)
              try simp only [Act.put, List.setIfInBounds_toArray, List.set_cons_zero, List.set_cons_succ]
              refine wpAnyH_take (i := 50) (oi := { dst := some 119, op := Go.Op.indexAddr 26 (Go.Operand.tmp 118) (Go.Operand.const (Go.Value.int Go.IntKind.i64 0)), type := 0, pos := "outright.go:30", after := #[{ on := 49, ground := Go.Ground.data }, { on := 48, ground := Go.Ground.guard }], guard := some (48, true) }) (v := ?v51) rfl (by kernel_rfl) (by kernel_rfl) (by kernel_rfl) (fun _ _ _ h => h) (Or.inl ⟨by rfl, ?hy51⟩) (by assumption) ?rest51
              case hy51 => (intro w hSw; obtain ⟨s0, s1, s2, s3, s4, s5, s6, s7, s8, s9, s10, s11, s12, s13, s14, s15, s16, s17, s18, s19, s20⟩ := hSw; go_simp; try with_reducible rfl)
              try simp only [Act.put, List.setIfInBounds_toArray, List.set_cons_zero, List.set_cons_succ]
              refine wpAnyH_take (i := 51) (oi := { dst := some 120, op := Go.Op.load 25 (Go.Operand.tmp 119), type := 25, pos := "outright.go:30", after := #[{ on := 50, ground := Go.Ground.data }, { on := 48, ground := Go.Ground.guard }], guard := some (48, true) }) (v := ?v52) rfl (by kernel_rfl) (by kernel_rfl) (by kernel_rfl) (fun _ _ _ h => h) (Or.inl ⟨by rfl, ?hy52⟩) (by assumption) ?rest52
              case hy52 => (intro w hSw; obtain ⟨s0, s1, s2, s3, s4, s5, s6, s7, s8, s9, s10, s11, s12, s13, s14, s15, s16, s17, s18, s19, s20⟩ := hSw; go_simp; try with_reducible rfl)
              try simp only [Act.put, List.setIfInBounds_toArray, List.set_cons_zero, List.set_cons_succ]
              refine wpAnyH_take (i := 52) (oi := { dst := some 121, op := Go.Op.move (Go.Operand.tmp 17), type := 32, pos := "outright.go:30", after := #[{ on := 48, ground := Go.Ground.guard }], guard := some (48, true) }) (v := ?v53) rfl (by kernel_rfl) (by kernel_rfl) (by kernel_rfl) (fun _ _ _ h => h) (Or.inl ⟨by rfl, ?hy53⟩) (by assumption) ?rest53
              case hy53 => (intro w hSw; obtain ⟨s0, s1, s2, s3, s4, s5, s6, s7, s8, s9, s10, s11, s12, s13, s14, s15, s16, s17, s18, s19, s20⟩ := hSw; go_simp; try with_reducible rfl)
              try simp only [Act.put, List.setIfInBounds_toArray, List.set_cons_zero, List.set_cons_succ]
              refine wpAnyH_ready (rs := [53]) (by kernel_rfl) (by simp) ?_
              refine (AllReadyH.cons (o := { dst := some 122, op := Go.Op.buildSlice 22 3 #[(0, Go.Operand.const (Go.Value.int Go.IntKind.i64 1)), (1, Go.Operand.const (Go.Value.int Go.IntKind.i64 2)), (2, Go.Operand.const (Go.Value.int Go.IntKind.i64 3))], type := 22, pos := "outright.go:30", after := #[{ on := 48, ground := Go.Ground.guard }], guard := some (48, true) }) rfl (fun K hK => ?br54_53) AllReadyH.nil)
              case br54_53 =>
               have hb := (Below.refl V12.heap.size V12).alloc (Nat.le_refl _) (.cells #[.int .i64 1, .int .i64 2, .int .i64 3] 2)
               have hx := (show EvAt (V12.alloc (.cells #[.int .i64 1, .int .i64 2, .int .i64 3] 2)) (some ⟨V12.heap.size, 0, none⟩) 3 none 0 ⟨2, 21, [1, 2, 3], []⟩ from ev_lit V12 2 21 [1, 2, 3] (by decide) (by decide) (by decide))
               have g13 := below_step g12 hb
               go_simp
               refine hK.out _ _ (HKS.out _ g13) (fun hHeld => ?_)
               clear hK K hb
               try simp only [Act.put, List.setIfInBounds_toArray, List.set_cons_zero, List.set_cons_succ]
               refine wpAnyH_ready (rs := [54]) (by kernel_rfl) (by simp) ?_
               refine (AllReadyH.cons (o := { dst := some 123, op := Go.Op.call { callee := Go.Callee.value (Go.Operand.func 25), args := #[Go.Operand.const (Go.Value.int Go.IntKind.u8 2), Go.Operand.const (Go.Value.int Go.IntKind.u8 21), Go.Operand.tmp 122], argTypes := #[5, 5, 22] }, type := 25, pos := "outright.go:30", after := #[{ on := 53, ground := Go.Ground.data }, { on := 48, ground := Go.Ground.chain }, { on := 48, ground := Go.Ground.guard }], guard := some (48, true) }) rfl (fun K hK => ?br55_54) AllReadyH.nil)
               case br55_54 =>
                have hc := event_any 2 21 (some ⟨V12.heap.size, 0, none⟩) 3 3 (V12.alloc (.cells #[.int .i64 1, .int .i64 2, .int .i64 3] 2))
                go_simp
                go_at_call 25
                refine hc.mono ?_
                rintro z V14 ⟨rfl, hb⟩
                have g14 := below_step g13 hb
                replace hx := hx.below hb
                clear hc
                refine hK.out _ _ (HKS.out _ g14) (fun hHeld => ?_)
                clear hK K hb
                try simp only [Act.put, List.setIfInBounds_toArray, List.set_cons_zero, List.set_cons_succ]
                refine wpAnyH_ready (rs := [55]) (by kernel_rfl) (by simp) ?_
                refine (AllReadyH.cons (o := { dst := some 124, op := Go.Op.call { callee := Go.Callee.value (Go.Operand.func 21), args := #[Go.Operand.tmp 120, Go.Operand.tmp 121, Go.Operand.tmp 123], argTypes := #[25, 32, 25] }, type := 4, pos := "outright.go:30", after := #[{ on := 51, ground := Go.Ground.data }, { on := 52, ground := Go.Ground.data }, { on := 54, ground := Go.Ground.data }, { on := 54, ground := Go.Ground.chain }, { on := 48, ground := Go.Ground.guard }], guard := some (48, true) }) rfl (fun K hK => ?br56_55) AllReadyH.nil)
                case br56_55 =>
                 have hc := told_any _ _ _ _ aw8 0 _ _ _ _ ⟨2, 21, [1, 2, 3], []⟩ (by decide) (by decide) (by decide) (by decide) V14 (HY8.out.below g14) hx
                 rw [aw8_same] at hc
                 go_simp
                 go_at_call 21
                 refine hc.mono ?_
                 rintro z V15 ⟨rfl, hb⟩
                 have g15 := below_step g14 hb
                 clear hx
                 clear hc
                 refine hK.out _ _ (HKS.out _ g15) (fun hHeld => ?_)
                 clear hK K hb
                 try simp only [Act.put, List.setIfInBounds_toArray, List.set_cons_zero, List.set_cons_succ]
                 refine wpAnyH_take (i := 56) (oi := { dst := some 125, op := Go.Op.pick (Go.Operand.tmp 117) (Go.Operand.tmp 124) (Go.Operand.const (Go.Value.bool false)), type := 4, pos := "outright.go:30", after := #[{ on := 48, ground := Go.Ground.data }, { on := 55, ground := Go.Ground.data }], guard := none }) (v := ?v57) rfl (by kernel_rfl) (by kernel_rfl) (by kernel_rfl) (fun _ _ _ h => h) (Or.inl ⟨by rfl, ?hy57⟩) (by assumption) ?rest57
                 case hy57 => (intro w hSw; obtain ⟨s0, s1, s2, s3, s4, s5, s6, s7, s8, s9, s10, s11, s12, s13, s14, s15, s16, s17, s18, s19, s20⟩ := hSw; go_simp; try with_reducible rfl)
                 try simp only [Act.put, List.setIfInBounds_toArray, List.set_cons_zero, List.set_cons_succ]
                 refine wpAnyH_take (i := 57) (oi := { dst := some 0, op := Go.Op.assign (Go.Operand.tmp 125), type := 4, pos := "outright.go:30", after := #[{ on := 56, ground := Go.Ground.data }, { on := 55, ground := Go.Ground.chain }, { on := 0, ground := Go.Ground.phase }, { on := 1, ground := Go.Ground.phase }, { on := 2, ground := Go.Ground.phase }, { on := 3, ground := Go.Ground.phase }, { on := 4, ground := Go.Ground.phase }, { on := 5, ground := Go.Ground.phase }, { on := 6, ground := Go.Ground.phase }, { on := 7, ground := Go.Ground.phase }, { on := 8, ground := Go.Ground.phase }, { on := 9, ground := Go.Ground.phase }, { on := 10, ground := Go.Ground.phase }, { on := 11, ground := Go.Ground.phase }, { on := 12, ground := Go.Ground.phase }, { on := 13, ground := Go.Ground.phase }, { on := 14, ground := Go.Ground.phase }, { on := 15, ground := Go.Ground.phase }, { on := 16, ground := Go.Ground.phase }, { on := 17, ground := Go.Ground.phase }, { on := 18, ground := Go.Ground.phase }, { on := 19, ground := Go.Ground.phase }, { on := 20, ground := Go.Ground.phase }, { on := 21, ground := Go.Ground.phase }, { on := 22, ground := Go.Ground.phase }, { on := 23, ground := Go.Ground.phase }, { on := 24, ground := Go.Ground.phase }, { on := 25, ground := Go.Ground.phase }, { on := 26, ground := Go.Ground.phase }, { on := 27, ground := Go.Ground.phase }, { on := 28, ground := Go.Ground.phase }, { on := 29, ground := Go.Ground.phase }, { on := 30, ground := Go.Ground.phase }, { on := 31, ground := Go.Ground.phase }, { on := 32, ground := Go.Ground.phase }, { on := 33, ground := Go.Ground.phase }, { on := 34, ground := Go.Ground.phase }, { on := 35, ground := Go.Ground.phase }, { on := 36, ground := Go.Ground.phase }, { on := 37, ground := Go.Ground.phase }, { on := 38, ground := Go.Ground.phase }, { on := 39, ground := Go.Ground.phase }, { on := 40, ground := Go.Ground.phase }, { on := 41, ground := Go.Ground.phase }, { on := 42, ground := Go.Ground.phase }, { on := 43, ground := Go.Ground.phase }, { on := 44, ground := Go.Ground.phase }, { on := 45, ground := Go.Ground.phase }, { on := 46, ground := Go.Ground.phase }, { on := 47, ground := Go.Ground.phase }, { on := 48, ground := Go.Ground.phase }, { on := 49, ground := Go.Ground.phase }, { on := 50, ground := Go.Ground.phase }, { on := 51, ground := Go.Ground.phase }, { on := 52, ground := Go.Ground.phase }, { on := 53, ground := Go.Ground.phase }, { on := 54, ground := Go.Ground.phase }, { on := 55, ground := Go.Ground.phase }, { on := 56, ground := Go.Ground.phase }], guard := none }) (v := ?v58) rfl (by kernel_rfl) (by kernel_rfl) (by kernel_rfl) (fun _ _ _ h => h) (Or.inl ⟨by rfl, ?hy58⟩) (by assumption) ?rest58
                 case hy58 => (intro w hSw; obtain ⟨s0, s1, s2, s3, s4, s5, s6, s7, s8, s9, s10, s11, s12, s13, s14, s15, s16, s17, s18, s19, s20⟩ := hSw; go_simp; try with_reducible rfl)
                 try simp only [Act.put, List.setIfInBounds_toArray, List.set_cons_zero, List.set_cons_succ]
                 refine wpAnyH_done (by kernel_rfl) ?_ _
                 have HFIN := Lib.hid (below_step HB.out g15)
                 go_wp2_with fail
                 go_ret
                 exact ⟨by simp, HFIN.out⟩
        case br16_16 =>
         have hb := (Below.refl V6.heap.size V6).alloc (Nat.le_refl _) (.cells #[.string ⟨#[120]⟩] 9)
         have ht := vat_new V6 (.string ⟨#[120]⟩) 9
         have g7 := below_step g6 hb
         go_simp
         refine hK.out _ _ (HKS.out _ g7) (fun hHeld => ?_)
         clear hK K hb
         try simp only [Act.put, List.setIfInBounds_toArray, List.set_cons_zero, List.set_cons_succ]
         refine wpAnyH_ready (rs := [15]) (by kernel_rfl) (by simp) ?_
         refine (AllReadyH.cons (o := { dst := some 84, op := Go.Op.buildSlice 22 2 #[(0, Go.Operand.const (Go.Value.int Go.IntKind.i64 1)), (1, Go.Operand.const (Go.Value.int Go.IntKind.i64 100))], type := 22, pos := "outright.go:30", after := #[{ on := 12, ground := Go.Ground.guard }], guard := some (12, true) }) rfl (fun K hK => ?br59_15) AllReadyH.nil)
         case br59_15 =>
          have hb := (Below.refl (V6.alloc (.cells #[.string ⟨#[120]⟩] 9)).heap.size (V6.alloc (.cells #[.string ⟨#[120]⟩] 9))).alloc (Nat.le_refl _) (.cells #[.int .i64 1, .int .i64 100] 2)
          have hn := vat_row (V6.alloc (.cells #[.string ⟨#[120]⟩] 9)) (nums [1, 100]) 2
          have hz : (V6.alloc (.cells #[.string ⟨#[120]⟩] 9)).heap.size = V6.heap.size + 1 := by simp
          rw [hz] at hn
          clear hz
          have ht := ht.below hb
          have g8 := below_step g7 hb
          go_simp
          refine hK.out _ _ (HKS.out _ g8) (fun hHeld => ?_)
          clear hK K hb
          try simp only [Act.put, List.setIfInBounds_toArray, List.set_cons_zero, List.set_cons_succ]
          refine wpAnyH_take (i := 17) (oi := { dst := some 86, op := Go.Op.build 25 #[(0, Go.Operand.const (Go.Value.int Go.IntKind.u8 2)), (1, Go.Operand.const (Go.Value.int Go.IntKind.u8 3)), (2, Go.Operand.tmp 84), (3, Go.Operand.tmp 85)], type := 25, pos := "outright.go:30", after := #[{ on := 15, ground := Go.Ground.data }, { on := 16, ground := Go.Ground.data }, { on := 12, ground := Go.Ground.guard }], guard := some (12, true) }) (v := ?v60) rfl (by kernel_rfl) (by kernel_rfl) (by kernel_rfl) (fun _ _ _ h => h) (Or.inl ⟨by rfl, ?hy60⟩) (by assumption) ?rest60
          case hy60 => (intro w hSw; obtain ⟨s0, s1, s2, s3, s4, s5, s6, s7, s8, s9, s10, s11, s12, s13, s14, s15, s16, s17, s18, s19, s20⟩ := hSw; go_simp; try with_reducible rfl)
          try simp only [Act.put, List.setIfInBounds_toArray, List.set_cons_zero, List.set_cons_succ]
          refine wpAnyH_ready (rs := [18]) (by kernel_rfl) (by simp) ?_
          refine (AllReadyH.cons (o := { dst := some 87, op := Go.Op.call { callee := Go.Callee.value (Go.Operand.func 21), args := #[Go.Operand.tmp 82, Go.Operand.tmp 83, Go.Operand.tmp 86], argTypes := #[25, 32, 25] }, type := 4, pos := "outright.go:30", after := #[{ on := 13, ground := Go.Ground.data }, { on := 14, ground := Go.Ground.data }, { on := 17, ground := Go.Ground.data }, { on := 12, ground := Go.Ground.chain }, { on := 12, ground := Go.Ground.guard }], guard := some (12, true) }) rfl (fun K hK => ?br61_18) AllReadyH.nil)
          case br61_18 =>
           have hx : EvAt ((V6.alloc (.cells #[.string ⟨#[120]⟩] 9)).alloc (.cells #[.int .i64 1, .int .i64 100] 2)) (some ⟨V6.heap.size + 1, 0, none⟩) 2 (some ⟨V6.heap.size, 0, none⟩) 1 ⟨2, 3, [1, 100], [⟨#[120]⟩]⟩ := ⟨by decide, by decide, small_fits (by decide), fun x hx => by (rw [List.mem_singleton.1 hx]; decide), hn, ht, fun h => (by cases h), fun h => (by cases h), Nat.le_refl _, Nat.le_refl _⟩
           have hc := told_any _ _ _ _ aw3 0 _ _ _ _ ⟨2, 3, [1, 100], [⟨#[120]⟩]⟩ (by decide) (by decide) (by decide) (by decide) ((V6.alloc (.cells #[.string ⟨#[120]⟩] 9)).alloc (.cells #[.int .i64 1, .int .i64 100] 2)) (HY5.out.below g8) hx
           rw [aw3_same] at hc
           go_simp
           go_at_call 21
           refine hc.mono ?_
           rintro z V9 ⟨rfl, hb⟩
           have g9 := below_step g8 hb
           clear hx hn ht
           clear hc
           refine hK.out _ _ (HKS.out _ g9) (fun hHeld => ?_)
           clear hK K hb
           try simp only [Act.put, List.setIfInBounds_toArray, List.set_cons_zero, List.set_cons_succ]
           refine wpAnyH_take (i := 19) (oi := { dst := some 88, op := Go.Op.pick (Go.Operand.tmp 81) (Go.Operand.tmp 87) (Go.Operand.const (Go.Value.bool false)), type := 4, pos := "outright.go:30", after := #[{ on := 12, ground := Go.Ground.data }, { on := 18, ground := Go.Ground.data }], guard := none }) (v := ?v62) rfl (by kernel_rfl) (by kernel_rfl) (by kernel_rfl) (fun _ _ _ h => h) (Or.inl ⟨by rfl, ?hy62⟩) (by assumption) ?rest62
           case hy62 => (intro w hSw; obtain ⟨s0, s1, s2, s3, s4, s5, s6, s7, s8, s9, s10, s11, s12, s13, s14, s15, s16, s17, s18, s19, s20⟩ := hSw; go_simp; try with_reducible rfl)
           try simp only [Act.put, List.setIfInBounds_toArray, List.set_cons_zero, List.set_cons_succ]
           refine wpAnyH_take (i := 20) (oi := { dst := some 89, op := Go.Op.move (Go.Operand.tmp 88), type := 4, pos := "outright.go:30", after := #[{ on := 19, ground := Go.Ground.data }, { on := 18, ground := Go.Ground.chain }], guard := none }) (v := ?v63) rfl (by kernel_rfl) (by kernel_rfl) (by kernel_rfl) (fun _ _ _ h => h) (Or.inl ⟨by rfl, ?hy63⟩) (by assumption) ?rest63
           case hy63 => (intro w hSw; obtain ⟨s0, s1, s2, s3, s4, s5, s6, s7, s8, s9, s10, s11, s12, s13, s14, s15, s16, s17, s18, s19, s20⟩ := hSw; go_simp; try with_reducible rfl)
           try simp only [Act.put, List.setIfInBounds_toArray, List.set_cons_zero, List.set_cons_succ]
           refine wpAnyH_take (i := 21) (oi := { dst := some 90, op := Go.Op.move (Go.Operand.tmp 8), type := 32, pos := "outright.go:30", after := #[{ on := 20, ground := Go.Ground.guard }], guard := some (20, true) }) (v := ?v64) rfl (by kernel_rfl) (by kernel_rfl) (by kernel_rfl) (fun _ _ _ h => h) (Or.inl ⟨by rfl, ?hy64⟩) (by assumption) ?rest64
           case hy64 => (intro w hSw; obtain ⟨s0, s1, s2, s3, s4, s5, s6, s7, s8, s9, s10, s11, s12, s13, s14, s15, s16, s17, s18, s19, s20⟩ := hSw; go_simp; try with_reducible rfl)
           try simp only [Act.put, List.setIfInBounds_toArray, List.set_cons_zero, List.set_cons_succ]
           refine wpAnyH_take (i := 22) (oi := { dst := some 91, op := Go.Op.binOp Go.BinOp.eql 32 (Go.Operand.tmp 90) (Go.Operand.const (Go.Value.int Go.IntKind.i64 43)) 32, type := 4, pos := "outright.go:30", after := #[{ on := 21, ground := Go.Ground.data }, { on := 20, ground := Go.Ground.guard }], guard := some (20, true) }) (v := ?v65) rfl (by kernel_rfl) (by kernel_rfl) (by kernel_rfl) (fun _ _ _ h => h) (Or.inl ⟨by rfl, ?hy65⟩) (by assumption) ?rest65
           case hy65 => (intro w hSw; obtain ⟨s0, s1, s2, s3, s4, s5, s6, s7, s8, s9, s10, s11, s12, s13, s14, s15, s16, s17, s18, s19, s20⟩ := hSw; go_simp; try with_reducible rfl)
           try simp only [Act.put, List.setIfInBounds_toArray, List.set_cons_zero, List.set_cons_succ]
           refine wpAnyH_take (i := 23) (oi := { dst := some 92, op := Go.Op.pick (Go.Operand.tmp 89) (Go.Operand.tmp 91) (Go.Operand.const (Go.Value.bool false)), type := 4, pos := "outright.go:30", after := #[{ on := 20, ground := Go.Ground.data }, { on := 22, ground := Go.Ground.data }], guard := none }) (v := ?v66) rfl (by kernel_rfl) (by kernel_rfl) (by kernel_rfl) (fun _ _ _ h => h) (Or.inl ⟨by rfl, ?hy66⟩) (by assumption) ?rest66
           case hy66 => (intro w hSw; obtain ⟨s0, s1, s2, s3, s4, s5, s6, s7, s8, s9, s10, s11, s12, s13, s14, s15, s16, s17, s18, s19, s20⟩ := hSw; go_simp; try with_reducible rfl)
           try simp only [Act.put, List.setIfInBounds_toArray, List.set_cons_zero, List.set_cons_succ]
           refine wpAnyH_take (i := 24) (oi := { dst := some 93, op := Go.Op.move (Go.Operand.tmp 92), type := 4, pos := "outright.go:30", after := #[{ on := 23, ground := Go.Ground.data }, { on := 20, ground := Go.Ground.chain }], guard := none }) (v := ?v67) rfl (by kernel_rfl) (by kernel_rfl) (by kernel_rfl) (fun _ _ _ h => h) (Or.inl ⟨by rfl, ?hy67⟩) (by assumption) ?rest67
           case hy67 => (intro w hSw; obtain ⟨s0, s1, s2, s3, s4, s5, s6, s7, s8, s9, s10, s11, s12, s13, s14, s15, s16, s17, s18, s19, s20⟩ := hSw; go_simp; try with_reducible rfl)
           try simp only [Act.put, List.setIfInBounds_toArray, List.set_cons_zero, List.set_cons_succ]
           refine wpAnyH_take (i := 25) (oi := { dst := some 94, op := Go.Op.move (Go.Operand.tmp 10), type := 32, pos := "outright.go:30", after := #[{ on := 24, ground := Go.Ground.guard }], guard := some (24, true) }) (v := ?v68) rfl (by kernel_rfl) (by kernel_rfl) (by kernel_rfl) (fun _ _ _ h => h) (Or.inl ⟨by rfl, ?hy68⟩) (by assumption) ?rest68
           case hy68 => (intro w hSw; obtain ⟨s0, s1, s2, s3, s4, s5, s6, s7, s8, s9, s10, s11, s12, s13, s14, s15, s16, s17, s18, s19, s20⟩ := hSw; go_simp; try with_reducible rfl)
           try simp only [Act.put, List.setIfInBounds_toArray, List.set_cons_zero, List.set_cons_succ]
           refine wpAnyH_take (i := 26) (oi := { dst := some 95, op := Go.Op.binOp Go.BinOp.eql 32 (Go.Operand.tmp 94) (Go.Operand.const (Go.Value.int Go.IntKind.i64 43)) 32, type := 4, pos := "outright.go:30", after := #[{ on := 25, ground := Go.Ground.data }, { on := 24, ground := Go.Ground.guard }], guard := some (24, true) }) (v := ?v69) rfl (by kernel_rfl) (by kernel_rfl) (by kernel_rfl) (fun _ _ _ h => h) (Or.inl ⟨by rfl, ?hy69⟩) (by assumption) ?rest69
           case hy69 => (intro w hSw; obtain ⟨s0, s1, s2, s3, s4, s5, s6, s7, s8, s9, s10, s11, s12, s13, s14, s15, s16, s17, s18, s19, s20⟩ := hSw; go_simp; try with_reducible rfl)
           try simp only [Act.put, List.setIfInBounds_toArray, List.set_cons_zero, List.set_cons_succ]
           refine wpAnyH_take (i := 27) (oi := { dst := some 96, op := Go.Op.pick (Go.Operand.tmp 93) (Go.Operand.tmp 95) (Go.Operand.const (Go.Value.bool false)), type := 4, pos := "outright.go:30", after := #[{ on := 24, ground := Go.Ground.data }, { on := 26, ground := Go.Ground.data }], guard := none }) (v := ?v70) rfl (by kernel_rfl) (by kernel_rfl) (by kernel_rfl) (fun _ _ _ h => h) (Or.inl ⟨by rfl, ?hy70⟩) (by assumption) ?rest70
           case hy70 => (intro w hSw; obtain ⟨s0, s1, s2, s3, s4, s5, s6, s7, s8, s9, s10, s11, s12, s13, s14, s15, s16, s17, s18, s19, s20⟩ := hSw; go_simp; try with_reducible rfl)
           try simp only [Act.put, List.setIfInBounds_toArray, List.set_cons_zero, List.set_cons_succ]
           refine wpAnyH_take (i := 28) (oi := { dst := some 97, op := Go.Op.move (Go.Operand.tmp 96), type := 4, pos := "outright.go:30", after := #[{ on := 27, ground := Go.Ground.data }, { on := 24, ground := Go.Ground.chain }], guard := none }) (v := ?v71) rfl (by kernel_rfl) (by kernel_rfl) (by kernel_rfl) (fun _ _ _ h => h) (Or.inl ⟨by rfl, ?hy71⟩) (by assumption) ?rest71
           case hy71 => (intro w hSw; obtain ⟨s0, s1, s2, s3, s4, s5, s6, s7, s8, s9, s10, s11, s12, s13, s14, s15, s16, s17, s18, s19, s20⟩ := hSw; go_simp; try with_reducible rfl)
           try simp only [Act.put, List.setIfInBounds_toArray, List.set_cons_zero, List.set_cons_succ]
           refine wpAnyH_take (i := 29) (oi := { dst := some 98, op := Go.Op.move (Go.Operand.tmp 12), type := 32, pos := "outright.go:30", after := #[{ on := 28, ground := Go.Ground.guard }], guard := some (28, true) }) (v := ?v72) rfl (by kernel_rfl) (by kernel_rfl) (by kernel_rfl) (fun _ _ _ h => h) (Or.inl ⟨by rfl, ?hy72⟩) (by assumption) ?rest72
           case hy72 => (intro w hSw; obtain ⟨s0, s1, s2, s3, s4, s5, s6, s7, s8, s9, s10, s11, s12, s13, s14, s15, s16, s17, s18, s19, s20⟩ := hSw; go_simp; try with_reducible rfl)
           try simp only [Act.put, List.setIfInBounds_toArray, List.set_cons_zero, List.set_cons_succ]
           refine wpAnyH_take (i := 30) (oi := { dst := some 99, op := Go.Op.binOp Go.BinOp.eql 32 (Go.Operand.tmp 98) (Go.Operand.const (Go.Value.int Go.IntKind.i64 43)) 32, type := 4, pos := "outright.go:30", after := #[{ on := 29, ground := Go.Ground.data }, { on := 28, ground := Go.Ground.guard }], guard := some (28, true) }) (v := ?v73) rfl (by kernel_rfl) (by kernel_rfl) (by kernel_rfl) (fun _ _ _ h => h) (Or.inl ⟨by rfl, ?hy73⟩) (by assumption) ?rest73
           case hy73 => (intro w hSw; obtain ⟨s0, s1, s2, s3, s4, s5, s6, s7, s8, s9, s10, s11, s12, s13, s14, s15, s16, s17, s18, s19, s20⟩ := hSw; go_simp; try with_reducible rfl)
           try simp only [Act.put, List.setIfInBounds_toArray, List.set_cons_zero, List.set_cons_succ]
           refine wpAnyH_take (i := 31) (oi := { dst := some 100, op := Go.Op.pick (Go.Operand.tmp 97) (Go.Operand.tmp 99) (Go.Operand.const (Go.Value.bool false)), type := 4, pos := "outright.go:30", after := #[{ on := 28, ground := Go.Ground.data }, { on := 30, ground := Go.Ground.data }], guard := none }) (v := ?v74) rfl (by kernel_rfl) (by kernel_rfl) (by kernel_rfl) (fun _ _ _ h => h) (Or.inl ⟨by rfl, ?hy74⟩) (by assumption) ?rest74
           case hy74 => (intro w hSw; obtain ⟨s0, s1, s2, s3, s4, s5, s6, s7, s8, s9, s10, s11, s12, s13, s14, s15, s16, s17, s18, s19, s20⟩ := hSw; go_simp; try with_reducible rfl)
           try simp only [Act.put, List.setIfInBounds_toArray, List.set_cons_zero, List.set_cons_succ]
           refine wpAnyH_take (i := 32) (oi := { dst := some 101, op := Go.Op.move (Go.Operand.tmp 100), type := 4, pos := "outright.go:30", after := #[{ on := 31, ground := Go.Ground.data }, { on := 28, ground := Go.Ground.chain }], guard := none }) (v := ?v75) rfl (by kernel_rfl) (by kernel_rfl) (by kernel_rfl) (fun _ _ _ h => h) (Or.inl ⟨by rfl, ?hy75⟩) (by assumption) ?rest75
           case hy75 => (intro w hSw; obtain ⟨s0, s1, s2, s3, s4, s5, s6, s7, s8, s9, s10, s11, s12, s13, s14, s15, s16, s17, s18, s19, s20⟩ := hSw; go_simp; try with_reducible rfl)
           try simp only [Act.put, List.setIfInBounds_toArray, List.set_cons_zero, List.set_cons_succ]
           refine wpAnyH_take (i := 33) (oi := { dst := some 102, op := Go.Op.load 25 (Go.Operand.tmp 13), type := 25, pos := "outright.go:30", after := #[{ on := 32, ground := Go.Ground.guard }], guard := some (32, true) }) (v := ?v76) rfl (by kernel_rfl) (by kernel_rfl) (by kernel_rfl) (fun _ _ _ h => h) (Or.inl ⟨by rfl, ?hy76⟩) (by assumption) ?rest76
           case hy76 => (intro w hSw; obtain ⟨s0, s1, s2, s3, s4, s5, s6, s7, s8, s9, s10, s11, s12, s13, s14, s15, s16, s17, s18, s19, s20⟩ := hSw; go_simp; try with_reducible rfl)
           try simp only [Act.put, List.setIfInBounds_toArray, List.set_cons_zero, List.set_cons_succ]
           refine wpAnyH_take (i := 34) (oi := { dst := some 103, op := Go.Op.move (Go.Operand.tmp 14), type := 32, pos := "outright.go:30", after := #[{ on := 32, ground := Go.Ground.guard }], guard := some (32, true) }) (v := ?v77) rfl (by kernel_rfl) (by kernel_rfl) (by kernel_rfl) (fun _ _ _ h => h) (Or.inl ⟨by rfl, ?hy77⟩) (by assumption) ?rest77
           case hy77 => (intro w hSw; obtain ⟨s0, s1, s2, s3, s4, s5, s6, s7, s8, s9, s10, s11, s12, s13, s14, s15, s16, s17, s18, s19, s20⟩ := hSw; go_simp; try with_reducible rfl)
           try simp only [Act.put, List.setIfInBounds_toArray, List.set_cons_zero, List.set_cons_succ]
           refine wpAnyH_ready (rs := [35]) (by kernel_rfl) (by simp) ?_
           refine (AllReadyH.cons (o := { dst := some 104, op := Go.Op.buildSlice 22 4 #[(0, Go.Operand.const (Go.Value.int Go.IntKind.i64 2)), (1, Go.Operand.const (Go.Value.int Go.IntKind.i64 1)), (2, Go.Operand.const (Go.Value.int Go.IntKind.i64 7)), (3, Go.Operand.const (Go.Value.int Go.IntKind.i64 9))], type := 22, pos := "outright.go:30", after := #[{ on := 32, ground := Go.Ground.guard }], guard := some (32, true) }) rfl (fun K hK => ?br78_35) AllReadyH.nil)
           case br78_35 =>
            have hb := (Below.refl V9.heap.size V9).alloc (Nat.le_refl _) (.cells #[.int .i64 2, .int .i64 1, .int .i64 7, .int .i64 9] 2)
            have hx := (show EvAt (V9.alloc (.cells #[.int .i64 2, .int .i64 1, .int .i64 7, .int .i64 9] 2)) (some ⟨V9.heap.size, 0, none⟩) 4 none 0 ⟨1, 13, [2, 1, 7, 9], []⟩ from ev_lit V9 1 13 [2, 1, 7, 9] (by decide) (by decide) (by decide))
            have g10 := below_step g9 hb
            go_simp
            refine hK.out _ _ (HKS.out _ g10) (fun hHeld => ?_)
            clear hK K hb
            try simp only [Act.put, List.setIfInBounds_toArray, List.set_cons_zero, List.set_cons_succ]
            refine wpAnyH_ready (rs := [36]) (by kernel_rfl) (by simp) ?_
            refine (AllReadyH.cons (o := { dst := some 105, op := Go.Op.call { callee := Go.Callee.value (Go.Operand.func 25), args := #[Go.Operand.const (Go.Value.int Go.IntKind.u8 1), Go.Operand.const (Go.Value.int Go.IntKind.u8 13), Go.Operand.tmp 104], argTypes := #[5, 5, 22] }, type := 25, pos := "outright.go:30", after := #[{ on := 35, ground := Go.Ground.data }, { on := 32, ground := Go.Ground.chain }, { on := 32, ground := Go.Ground.guard }], guard := some (32, true) }) rfl (fun K hK => ?br79_36) AllReadyH.nil)
            case br79_36 =>
             have hc := event_any 1 13 (some ⟨V9.heap.size, 0, none⟩) 4 4 (V9.alloc (.cells #[.int .i64 2, .int .i64 1, .int .i64 7, .int .i64 9] 2))
             go_simp
             go_at_call 25
             refine hc.mono ?_
             rintro z V11 ⟨rfl, hb⟩
             have g11 := below_step g10 hb
             replace hx := hx.below hb
             clear hc
             refine hK.out _ _ (HKS.out _ g11) (fun hHeld => ?_)
             clear hK K hb
             try simp only [Act.put, List.setIfInBounds_toArray, List.set_cons_zero, List.set_cons_succ]
             refine wpAnyH_ready (rs := [37]) (by kernel_rfl) (by simp) ?_
             refine (AllReadyH.cons (o := { dst := some 106, op := Go.Op.call { callee := Go.Callee.value (Go.Operand.func 21), args := #[Go.Operand.tmp 102, Go.Operand.tmp 103, Go.Operand.tmp 105], argTypes := #[25, 32, 25] }, type := 4, pos := "outright.go:30", after := #[{ on := 33, ground := Go.Ground.data }, { on := 34, ground := Go.Ground.data }, { on := 36, ground := Go.Ground.data }, { on := 36, ground := Go.Ground.chain }, { on := 32, ground := Go.Ground.guard }], guard := some (32, true) }) rfl (fun K hK => ?br80_37) AllReadyH.nil)
             case br80_37 =>
              have hc := told_any _ _ _ _ aw7 0 _ _ _ _ ⟨1, 13, [2, 1, 7, 9], []⟩ (by decide) (by decide) (by decide) (by decide) V11 (HY13.out.below g11) hx
              rw [aw7_same] at hc
              go_simp
              go_at_call 21
              refine hc.mono ?_
              rintro z V12 ⟨rfl, hb⟩
              have g12 := below_step g11 hb
              clear hx
              clear hc
              refine hK.out _ _ (HKS.out _ g12) (fun hHeld => ?_)
              clear hK K hb
              try simp only [Act.put, List.setIfInBounds_toArray, List.set_cons_zero, List.set_cons_succ]
              refine wpAnyH_take (i := 38) (oi := { dst := some 107, op := Go.Op.pick (Go.Operand.tmp 101) (Go.Operand.tmp 106) (Go.Operand.const (Go.Value.bool false)), type := 4, pos := "outright.go:30", after := #[{ on := 32, ground := Go.Ground.data }, { on := 37, ground := Go.Ground.data }], guard := none }) (v := ?v81) rfl (by kernel_rfl) (by kernel_rfl) (by kernel_rfl) (fun _ _ _ h => h) (Or.inl ⟨by rfl, ?hy81⟩) (by assumption) ?rest81
              case hy81 => (intro w hSw; obtain ⟨s0, s1, s2, s3, s4, s5, s6, s7, s8, s9, s10, s11, s12, s13, s14, s15, s16, s17, s18, s19, s20⟩ := hSw; go_simp; try with_reducible rfl)
              try simp only [Act.put, List.setIfInBounds_toArray, List.set_cons_zero, List.set_cons_succ]
              refine wpAnyH_take (i := 39) (oi := { dst := some 108, op := Go.Op.move (Go.Operand.tmp 107), type := 4, pos := "outright.go:30", after := #[{ on := 38, ground := Go.Ground.data }, { on := 37, ground := Go.Ground.chain }], guard := none }) (v := ?v82) rfl (by kernel_rfl) (by kernel_rfl) (by kernel_rfl) (fun _ _ _ h => h) (Or.inl ⟨by rfl, ?hy82⟩) (by assumption) ?rest82
              case hy82 => (intro w hSw; obtain ⟨s0, s1, s2, s3, s4, s5, s6, s7, s8, s9, s10, s11, s12, s13, s14, s15, s16, s17, s18, s19, s20⟩ := hSw; go_simp; try with_reducible rfl)
              try simp only [Act.put, List.setIfInBounds_toArray, List.set_cons_zero, List.set_cons_succ]
              refine wpAnyH_take (i := 40) (oi := { dst := some 109, op := Go.Op.move (Go.Operand.tmp 15), type := 5, pos := "outright.go:30", after := #[{ on := 39, ground := Go.Ground.guard }], guard := some (39, true) }) (v := ?v83) rfl (by kernel_rfl) (by kernel_rfl) (by kernel_rfl) (fun _ _ _ h => h) (Or.inl ⟨by rfl, ?hy83⟩) (by assumption) ?rest83
              case hy83 => (intro w hSw; obtain ⟨s0, s1, s2, s3, s4, s5, s6, s7, s8, s9, s10, s11, s12, s13, s14, s15, s16, s17, s18, s19, s20⟩ := hSw; go_simp; try with_reducible rfl)
              try simp only [Act.put, List.setIfInBounds_toArray, List.set_cons_zero, List.set_cons_succ]
              refine wpAnyH_take (i := 41) (oi := { dst := some 110, op := Go.Op.binOp Go.BinOp.eql 5 (Go.Operand.tmp 109) (Go.Operand.const (Go.Value.int Go.IntKind.u8 2)) 5, type := 4, pos := "outright.go:30", after := #[{ on := 40, ground := Go.Ground.data }, { on := 39, ground := Go.Ground.guard }], guard := some (39, true) }) (v := ?v84) rfl (by kernel_rfl) (by kernel_rfl) (by kernel_rfl) (fun _ _ _ h => h) (Or.inl ⟨by rfl, ?hy84⟩) (by assumption) ?rest84
              case hy84 => (intro w hSw; obtain ⟨s0, s1, s2, s3, s4, s5, s6, s7, s8, s9, s10, s11, s12, s13, s14, s15, s16, s17, s18, s19, s20⟩ := hSw; go_simp; try with_reducible rfl)
              try simp only [Act.put, List.setIfInBounds_toArray, List.set_cons_zero, List.set_cons_succ]
              refine wpAnyH_take (i := 42) (oi := { dst := some 111, op := Go.Op.pick (Go.Operand.tmp 108) (Go.Operand.tmp 110) (Go.Operand.const (Go.Value.bool false)), type := 4, pos := "outright.go:30", after := #[{ on := 39, ground := Go.Ground.data }, { on := 41, ground := Go.Ground.data }], guard := none }) (v := ?v85) rfl (by kernel_rfl) (by kernel_rfl) (by kernel_rfl) (fun _ _ _ h => h) (Or.inl ⟨by rfl, ?hy85⟩) (by assumption) ?rest85
              case hy85 => (intro w hSw; obtain ⟨s0, s1, s2, s3, s4, s5, s6, s7, s8, s9, s10, s11, s12, s13, s14, s15, s16, s17, s18, s19, s20⟩ := hSw; go_simp; try with_reducible rfl)
              try simp only [Act.put, List.setIfInBounds_toArray, List.set_cons_zero, List.set_cons_succ]
              refine wpAnyH_take (i := 43) (oi := { dst := some 112, op := Go.Op.move (Go.Operand.tmp 111), type := 4, pos := "outright.go:30", after := #[{ on := 42, ground := Go.Ground.data }, { on := 39, ground := Go.Ground.chain }], guard := none }) (v := ?v86) rfl (by kernel_rfl) (by kernel_rfl) (by kernel_rfl) (fun _ _ _ h => h) (Or.inl ⟨by rfl, ?hy86⟩) (by assumption) ?rest86
              case hy86 => (intro w hSw; obtain ⟨s0, s1, s2, s3, s4, s5, s6, s7, s8, s9, s10, s11, s12, s13, s14, s15, s16, s17, s18, s19, s20⟩ := hSw; go_simp; try with_reducible rfl)
              try simp only [Act.put, List.setIfInBounds_toArray, List.set_cons_zero, List.set_cons_succ]
              refine wpAnyH_take (i := 44) (oi := { dst := some 113, op := Go.Op.move (Go.Operand.tmp 16), type := 26, pos := "outright.go:30", after := #[{ on := 43, ground := Go.Ground.guard }], guard := some (43, true) }) (v := ?v87) rfl (by kernel_rfl) (by kernel_rfl) (by kernel_rfl) (fun _ _ _ h => h) (Or.inl ⟨by rfl, ?hy87⟩) (by assumption) ?rest87
              case hy87 => (intro w hSw; obtain ⟨s0, s1, s2, s3, s4, s5, s6, s7, s8, s9, s10, s11, s12, s13, s14, s15, s16, s17, s18, s19, s20⟩ := hSw; go_simp; try with_reducible rfl)
              try simp only [Act.put, List.setIfInBounds_toArray, List.set_cons_zero, List.set_cons_succ]
              refine wpAnyH_take (i := 45) (oi := { dst := some 114, op := Go.Op.call { callee := Go.Callee.builtin Go.Builtin.len, args := #[Go.Operand.tmp 113], argTypes := #[26] }, type := 3, pos := "outright.go:30", after := #[{ on := 44, ground := Go.Ground.data }, { on := 43, ground := Go.Ground.guard }], guard := some (43, true) }) (v := ?v88) rfl (by kernel_rfl) (by kernel_rfl) (by kernel_rfl) (fun _ _ _ h => h) (Or.inl ⟨by rfl, ?hy88⟩) (by assumption) ?rest88
              case hy88 => (intro w hSw; obtain ⟨s0, s1, s2, s3, s4, s5, s6, s7, s8, s9, s10, s11, s12, s13, s14, s15, s16, s17, s18, s19, s20⟩ := hSw; go_simp; try with_reducible rfl)
              try simp only [Act.put, List.setIfInBounds_toArray, List.set_cons_zero, List.set_cons_succ]
              refine wpAnyH_take (i := 46) (oi := { dst := some 115, op := Go.Op.binOp Go.BinOp.eql 3 (Go.Operand.tmp 114) (Go.Operand.const (Go.Value.int Go.IntKind.i64 1)) 3, type := 4, pos := "outright.go:30", after := #[{ on := 45, ground := Go.Ground.data }, { on := 43, ground := Go.Ground.guard }], guard := some (43, true) }) (v := ?v89) rfl (by kernel_rfl) (by kernel_rfl) (by kernel_rfl) (fun _ _ _ h => h) (Or.inl ⟨by rfl, ?hy89⟩) (by assumption) ?rest89
              case hy89 => (intro w hSw; obtain ⟨s0, s1, s2, s3, s4, s5, s6, s7, s8, s9, s10, s11, s12, s13, s14, s15, s16, s17, s18, s19, s20⟩ := hSw; go_simp; try with_reducible rfl)
              try simp only [Act.put, List.setIfInBounds_toArray, List.set_cons_zero, List.set_cons_succ]
              refine wpAnyH_take (i := 47) (oi := { dst := some 116, op := Go.Op.pick (Go.Operand.tmp 112) (Go.Operand.tmp 115) (Go.Operand.const (Go.Value.bool false)), type := 4, pos := "outright.go:30", after := #[{ on := 43, ground := Go.Ground.data }, { on := 46, ground := Go.Ground.data }], guard := none }) (v := ?v90) rfl (by kernel_rfl) (by kernel_rfl) (by kernel_rfl) (fun _ _ _ h => h) (Or.inl ⟨by rfl, ?hy90⟩) (by assumption) ?rest90
              case hy90 => (intro w hSw; obtain ⟨s0, s1, s2, s3, s4, s5, s6, s7, s8, s9, s10, s11, s12, s13, s14, s15, s16, s17, s18, s19, s20⟩ := hSw; go_simp; try with_reducible rfl)
              try simp only [Act.put, List.setIfInBounds_toArray, List.set_cons_zero, List.set_cons_succ]
              refine wpAnyH_take (i := 48) (oi := { dst := some 117, op := Go.Op.move (Go.Operand.tmp 116), type := 4, pos := "outright.go:30", after := #[{ on := 47, ground := Go.Ground.data }, { on := 43, ground := Go.Ground.chain }], guard := none }) (v := ?v91) rfl (by kernel_rfl) (by kernel_rfl) (by kernel_rfl) (fun _ _ _ h => h) (Or.inl ⟨by rfl, ?hy91⟩) (by assumption) ?rest91
              case hy91 => (intro w hSw; obtain ⟨s0, s1, s2, s3, s4, s5, s6, s7, s8, s9, s10, s11, s12, s13, s14, s15, s16, s17, s18, s19, s20⟩ := hSw; go_simp; try with_reducible rfl)
              try simp only [Act.put, List.setIfInBounds_toArray, List.set_cons_zero, List.set_cons_succ]
              refine wpAnyH_take (i := 49) (oi := { dst := some 118, op := Go.Op.move (Go.Operand.tmp 16), type := 26, pos := "outright.go:30", after := #[{ on := 48, ground := Go.Ground.guard }], guard := some (48, true) }) (v := ?v92) rfl (by kernel_rfl) (by kernel_rfl) (by kernel_rfl) (fun _ _ _ h => h) (Or.inl ⟨by rfl, ?hy92⟩) (by assumption) ?rest92
              case hy92 => (intro w hSw; obtain ⟨s0, s1, s2, s3, s4, s5, s6, s7, s8, s9, s10, s11, s12, s13, s14, s15, s16, s17, s18, s19, s20⟩ := hSw; go_simp; try with_reducible rfl)
              try simp only [Act.put, List.setIfInBounds_toArray, List.set_cons_zero, List.set_cons_succ]
              refine wpAnyH_take (i := 50) (oi := { dst := some 119, op := Go.Op.indexAddr 26 (Go.Operand.tmp 118) (Go.Operand.const (Go.Value.int Go.IntKind.i64 0)), type := 0, pos := "outright.go:30", after := #[{ on := 49, ground := Go.Ground.data }, { on := 48, ground := Go.Ground.guard }], guard := some (48, true) }) (v := ?v93) rfl (by kernel_rfl) (by kernel_rfl) (by kernel_rfl) (fun _ _ _ h => h) (Or.inl ⟨by rfl, ?hy93⟩) (by assumption) ?rest93
              case hy93 => (intro w hSw; obtain ⟨s0, s1, s2, s3, s4, s5, s6, s7, s8, s9, s10, s11, s12, s13, s14, s15, s16, s17, s18, s19, s20⟩ := hSw; go_simp; try with_reducible rfl)
              try simp only [Act.put, List.setIfInBounds_toArray, List.set_cons_zero, List.set_cons_succ]
              refine wpAnyH_take (i := 51) (oi := { dst := some 120, op := Go.Op.load 25 (Go.Operand.tmp 119), type := 25, pos := "outright.go:30", after := #[{ on := 50, ground := Go.Ground.data }, { on := 48, ground := Go.Ground.guard }], guard := some (48, true) }) (v := ?v94) rfl (by kernel_rfl) (by kernel_rfl) (by kernel_rfl) (fun _ _ _ h => h) (Or.inl ⟨by rfl, ?hy94⟩) (by assumption) ?rest94
              case hy94 => (intro w hSw; obtain ⟨s0, s1, s2, s3, s4, s5, s6, s7, s8, s9, s10, s11, s12, s13, s14, s15, s16, s17, s18, s19, s20⟩ := hSw; go_simp; try with_reducible rfl)
              try simp only [Act.put, List.setIfInBounds_toArray, List.set_cons_zero, List.set_cons_succ]
              refine wpAnyH_take (i := 52) (oi := { dst := some 121, op := Go.Op.move (Go.Operand.tmp 17), type := 32, pos := "outright.go:30", after := #[{ on := 48, ground := Go.Ground.guard }], guard := some (48, true) }) (v := ?v95) rfl (by kernel_rfl) (by kernel_rfl) (by kernel_rfl) (fun _ _ _ h => h) (Or.inl ⟨by rfl, ?hy95⟩) (by assumption) ?rest95
              case hy95 => (intro w hSw; obtain ⟨s0, s1, s2, s3, s4, s5, s6, s7, s8, s9, s10, s11, s12, s13, s14, s15, s16, s17, s18, s19, s20⟩ := hSw; go_simp; try with_reducible rfl)
              try simp only [Act.put, List.setIfInBounds_toArray, List.set_cons_zero, List.set_cons_succ]
              refine wpAnyH_ready (rs := [53]) (by kernel_rfl) (by simp) ?_
              refine (AllReadyH.cons (o := { dst := some 122, op := Go.Op.buildSlice 22 3 #[(0, Go.Operand.const (Go.Value.int Go.IntKind.i64 1)), (1, Go.Operand.const (Go.Value.int Go.IntKind.i64 2)), (2, Go.Operand.const (Go.Value.int Go.IntKind.i64 3))], type := 22, pos := "outright.go:30", after := #[{ on := 48, ground := Go.Ground.guard }], guard := some (48, true) }) rfl (fun K hK => ?br96_53) AllReadyH.nil)
              case br96_53 =>
               have hb := (Below.refl V12.heap.size V12).alloc (Nat.le_refl _) (.cells #[.int .i64 1, .int .i64 2, .int .i64 3] 2)
               have hx := (show EvAt (V12.alloc (.cells #[.int .i64 1, .int .i64 2, .int .i64 3] 2)) (some ⟨V12.heap.size, 0, none⟩) 3 none 0 ⟨2, 21, [1, 2, 3], []⟩ from ev_lit V12 2 21 [1, 2, 3] (by decide) (by decide) (by decide))
               have g13 := below_step g12 hb
               go_simp
               refine hK.out _ _ (HKS.out _ g13) (fun hHeld => ?_)
               clear hK K hb
               try simp only [Act.put, List.setIfInBounds_toArray, List.set_cons_zero, List.set_cons_succ]
               refine wpAnyH_ready (rs := [54]) (by kernel_rfl) (by simp) ?_
               refine (AllReadyH.cons (o := { dst := some 123, op := Go.Op.call { callee := Go.Callee.value (Go.Operand.func 25), args := #[Go.Operand.const (Go.Value.int Go.IntKind.u8 2), Go.Operand.const (Go.Value.int Go.IntKind.u8 21), Go.Operand.tmp 122], argTypes := #[5, 5, 22] }, type := 25, pos := "outright.go:30", after := #[{ on := 53, ground := Go.Ground.data }, { on := 48, ground := Go.Ground.chain }, { on := 48, ground := Go.Ground.guard }], guard := some (48, true) }) rfl (fun K hK => ?br97_54) AllReadyH.nil)
               case br97_54 =>
                have hc := event_any 2 21 (some ⟨V12.heap.size, 0, none⟩) 3 3 (V12.alloc (.cells #[.int .i64 1, .int .i64 2, .int .i64 3] 2))
                go_simp
                go_at_call 25
                refine hc.mono ?_
                rintro z V14 ⟨rfl, hb⟩
                have g14 := below_step g13 hb
                replace hx := hx.below hb
                clear hc
                refine hK.out _ _ (HKS.out _ g14) (fun hHeld => ?_)
                clear hK K hb
                try simp only [Act.put, List.setIfInBounds_toArray, List.set_cons_zero, List.set_cons_succ]
                refine wpAnyH_ready (rs := [55]) (by kernel_rfl) (by simp) ?_
                refine (AllReadyH.cons (o := { dst := some 124, op := Go.Op.call { callee := Go.Callee.value (Go.Operand.func 21), args := #[Go.Operand.tmp 120, Go.Operand.tmp 121, Go.Operand.tmp 123], argTypes := #[25, 32, 25] }, type := 4, pos := "outright.go:30", after := #[{ on := 51, ground := Go.Ground.data }, { on := 52, ground := Go.Ground.data }, { on := 54, ground := Go.Ground.data }, { on := 54, ground := Go.Ground.chain }, { on := 48, ground := Go.Ground.guard }], guard := some (48, true) }) rfl (fun K hK => ?br98_55) AllReadyH.nil)
                case br98_55 =>
                 have hc := told_any _ _ _ _ aw8 0 _ _ _ _ ⟨2, 21, [1, 2, 3], []⟩ (by decide) (by decide) (by decide) (by decide) V14 (HY8.out.below g14) hx
                 rw [aw8_same] at hc
                 go_simp
                 go_at_call 21
                 refine hc.mono ?_
                 rintro z V15 ⟨rfl, hb⟩
                 have g15 := below_step g14 hb
                 clear hx
                 clear hc
                 refine hK.out _ _ (HKS.out _ g15) (fun hHeld => ?_)
                 clear hK K hb
                 try simp only [Act.put, List.setIfInBounds_toArray, List.set_cons_zero, List.set_cons_succ]
                 refine wpAnyH_take (i := 56) (oi := { dst := some 125, op := Go.Op.pick (Go.Operand.tmp 117) (Go.Operand.tmp 124) (Go.Operand.const (Go.Value.bool false)), type := 4, pos := "outright.go:30", after := #[{ on := 48, ground := Go.Ground.data }, { on := 55, ground := Go.Ground.data }], guard := none }) (v := ?v99) rfl (by kernel_rfl) (by kernel_rfl) (by kernel_rfl) (fun _ _ _ h => h) (Or.inl ⟨by rfl, ?hy99⟩) (by assumption) ?rest99
                 case hy99 => (intro w hSw; obtain ⟨s0, s1, s2, s3, s4, s5, s6, s7, s8, s9, s10, s11, s12, s13, s14, s15, s16, s17, s18, s19, s20⟩ := hSw; go_simp; try with_reducible rfl)
                 try simp only [Act.put, List.setIfInBounds_toArray, List.set_cons_zero, List.set_cons_succ]
                 refine wpAnyH_take (i := 57) (oi := { dst := some 0, op := Go.Op.assign (Go.Operand.tmp 125), type := 4, pos := "outright.go:30", after := #[{ on := 56, ground := Go.Ground.data }, { on := 55, ground := Go.Ground.chain }, { on := 0, ground := Go.Ground.phase }, { on := 1, ground := Go.Ground.phase }, { on := 2, ground := Go.Ground.phase }, { on := 3, ground := Go.Ground.phase }, { on := 4, ground := Go.Ground.phase }, { on := 5, ground := Go.Ground.phase }, { on := 6, ground := Go.Ground.phase }, { on := 7, ground := Go.Ground.phase }, { on := 8, ground := Go.Ground.phase }, { on := 9, ground := Go.Ground.phase }, { on := 10, ground := Go.Ground.phase }, { on := 11, ground := Go.Ground.phase }, { on := 12, ground := Go.Ground.phase }, { on := 13, ground := Go.Ground.phase }, { on := 14, ground := Go.Ground.phase }, { on := 15, ground := Go.Ground.phase }, { on := 16, ground := Go.Ground.phase }, { on := 17, ground := Go.Ground.phase }, { on := 18, ground := Go.Ground.phase }, { on := 19, ground := Go.Ground.phase }, { on := 20, ground := Go.Ground.phase }, { on := 21, ground := Go.Ground.phase }, { on := 22, ground := Go.Ground.phase }, { on := 23, ground := Go.Ground.phase }, { on := 24, ground := Go.Ground.phase }, { on := 25, ground := Go.Ground.phase }, { on := 26, ground := Go.Ground.phase }, { on := 27, ground := Go.Ground.phase }, { on := 28, ground := Go.Ground.phase }, { on := 29, ground := Go.Ground.phase }, { on := 30, ground := Go.Ground.phase }, { on := 31, ground := Go.Ground.phase }, { on := 32, ground := Go.Ground.phase }, { on := 33, ground := Go.Ground.phase }, { on := 34, ground := Go.Ground.phase }, { on := 35, ground := Go.Ground.phase }, { on := 36, ground := Go.Ground.phase }, { on := 37, ground := Go.Ground.phase }, { on := 38, ground := Go.Ground.phase }, { on := 39, ground := Go.Ground.phase }, { on := 40, ground := Go.Ground.phase }, { on := 41, ground := Go.Ground.phase }, { on := 42, ground := Go.Ground.phase }, { on := 43, ground := Go.Ground.phase }, { on := 44, ground := Go.Ground.phase }, { on := 45, ground := Go.Ground.phase }, { on := 46, ground := Go.Ground.phase }, { on := 47, ground := Go.Ground.phase }, { on := 48, ground := Go.Ground.phase }, { on := 49, ground := Go.Ground.phase }, { on := 50, ground := Go.Ground.phase }, { on := 51, ground := Go.Ground.phase }, { on := 52, ground := Go.Ground.phase }, { on := 53, ground := Go.Ground.phase }, { on := 54, ground := Go.Ground.phase }, { on := 55, ground := Go.Ground.phase }, { on := 56, ground := Go.Ground.phase }], guard := none }) (v := ?v100) rfl (by kernel_rfl) (by kernel_rfl) (by kernel_rfl) (fun _ _ _ h => h) (Or.inl ⟨by rfl, ?hy100⟩) (by assumption) ?rest100
                 case hy100 => (intro w hSw; obtain ⟨s0, s1, s2, s3, s4, s5, s6, s7, s8, s9, s10, s11, s12, s13, s14, s15, s16, s17, s18, s19, s20⟩ := hSw; go_simp; try with_reducible rfl)
                 try simp only [Act.put, List.setIfInBounds_toArray, List.set_cons_zero, List.set_cons_succ]
                 refine wpAnyH_done (by kernel_rfl) ?_ _
                 have HFIN := Lib.hid (below_step HB.out g15)
                 go_wp2_with fail
                 go_ret
                 exact ⟨by simp, HFIN.out⟩

end Go.Proofs.YtbjpkffhpdcapaaDoor.Upcast
