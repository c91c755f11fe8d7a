import Derived.Test.YtiibeemjkdipnaaDoorUB
import Derived.Laws.MakeOwn
import Derived.StillTailTactics
/-
  Slices of numbers that are made; like; lifted.
-/
namespace Go.Proofs.YtiibeemjkdipnaaDoor.Upcast
open Go Go.RowKit
open Go.Proofs.YtiibeemjkdipnaaDoor.Schema

theorem row_lt {w : World} {g : Nat} {o : Obj} (h : w.heap[g]? = some o) : g < w.heap.size := by
  rcases Nat.lt_or_ge g w.heap.size with h1 | h1
  · exact h1
  · rw [Array.getElem?_eq_none h1] at h; cases h
theorem cell_row {w : World} {g : Nat} {cs : Array Value} {t : TypeId} {fr : Nat × Nat} (h : w.heap[g]? = some (.cells cs t fr)) (i : Nat) : w.cell? ⟨g, i, none⟩ = cs[i]? := cell_of_row w g i cs _ _ h
theorem frozen_row {w : World} {g : Nat} {cs : Array Value} {t : TypeId} (h : w.heap[g]? = some (.cells cs t (0, 0))) (i : Nat) : w.frozen? ⟨g, i, none⟩ = false := by
  unfold World.frozen?
  show (match w.heap[g]? with | some (.cells _ _ (lo, hi)) => _ | _ => _) = _
  rw [h]
  simp
theorem heap_set {w : World} {b : Nat} {cs : Array Value} {t : TypeId} {fr : Nat × Nat} (h : w.heap[b]? = some (.cells cs t fr)) (i : Nat) (v : Value) : (w.setCell ⟨b, i, none⟩ v).heap[b]? = some (.cells (cs.setIfInBounds i v) t fr) := by
  simp [World.setCell, Array.getElem?_modify, h]

/-- a block of numbers that was made: just these -/
def Nm (w : World) (g : Nat) (ns : List Int) : Prop := ∃ cur : Array Value, w.heap[g]? = some (.cells cur 2 (0, 0)) ∧ cur.toList = nums ns
theorem Nm.lt {w : World} {g : Nat} {ns : List Int} (h : Nm w g ns) : g < w.heap.size := by obtain ⟨cur, h, _⟩ := h; exact row_lt h
theorem Nm.cell {w : World} {g : Nat} {ns : List Int} (h : Nm w g ns) (i : Nat) (hi : i < ns.length) : w.cell? ⟨g, i, none⟩ = some (.int .i64 (ns.getD i 0)) := by
  obtain ⟨cur, h, e⟩ := h
  rw [cell_row h, ← Array.getElem?_toList, e]
  exact nums_at ns i hi
theorem Nm.fr {w : World} {g : Nat} {ns : List Int} (h : Nm w g ns) (i : Nat) : w.frozen? ⟨g, i, none⟩ = false := by obtain ⟨cur, h, _⟩ := h; exact frozen_row h i
theorem Nm.set {w : World} {g : Nat} {ns : List Int} (h : Nm w g ns) (i : Nat) (x : Int) : Nm (w.setCell ⟨g, i, none⟩ (.int .i64 x)) g (ns.set i x) := by
  obtain ⟨cur, h, e⟩ := h
  refine ⟨_, heap_set h i _, ?_⟩
  rw [Array.toList_setIfInBounds, e]
  unfold nums
  rw [List.map_set]
theorem Nm.below {w w' : World} {g : Nat} {ns : List Int} (h : Nm w g ns) (hb : Below w.heap.size w w') : Nm w' g ns := by
  obtain ⟨cur, h, e⟩ := h
  exact ⟨cur, (hb.block g (row_lt h)).trans h, e⟩
theorem Nm.touch {lo hi : Nat} {w w' : World} {g : Nat} {ns : List Int} (h : Nm w g ns) (t : Schema.Touch lo hi w w') (ho : g < lo ∨ hi ≤ g) : Nm w' g ns := by
  obtain ⟨cur, h, e⟩ := h
  exact ⟨cur, (t.block g (row_lt h) ho).trans h, e⟩
theorem Nm.own {w : World} {g base : Nat} {ns : List Int} (h : Nm w g ns) (hb : base ≤ g) (hl : ns.length ≤ maxLen) : Own w base 2 (.slice (some ⟨g, 0, none⟩) ns.length ns.length) (nums ns) := by
  obtain ⟨cur, h, e⟩ := h
  have hs : cur.size = ns.length := by rw [← Array.length_toList, e, nums_len]
  unfold Own
  rw [nums_len]
  exact ⟨by rw [nums_len, Nat.mul_one], Or.inr ⟨g, ns.length, cur, rfl, hb, h, Nat.le_refl _, hl, by rw [hs, Nat.mul_one], by rw [e, Nat.mul_one]; exact List.take_of_length_le (by rw [nums_len]; exact Nat.le_refl _)⟩⟩
def mkN (n : Nat) : Array Value := madeCells #[.int .i64 0] n
theorem mkN_list (n : Nat) : (mkN n).toList = nums (List.replicate n 0) := by
  unfold mkN nums
  rw [List.map_replicate]
  apply List.ext_getElem
  · simp [madeCells]
  · intro i h1 h2
    simp [madeCells, Nat.mod_one]
theorem nm_new (w : World) (n : Nat) : Nm (w.alloc (.cells (mkN n) 2)) w.heap.size (List.replicate n 0) := ⟨mkN n, heap_alloc_new w _, mkN_list n⟩
theorem run_mkN (n : Nat) (hn : n ≤ 1000000) (W : World) : (Instr.makeSlice 24 (.int .i64 (n : Int)) (.int .i64 (n : Int))).run Tryd.prog W = .ok (.slice (some ⟨W.heap.size, 0, none⟩) n n) (W.alloc (.cells (mkN n) 2)) := by
  obtain ⟨i0, hi, hz0, hz1, hz2⟩ := info_parts infoN
  have h := run_make (P := Tryd.prog) W 24 2 i0 (.int .i64 0) Tryd.underlying24 hi hz0 .i64 .i64 (n : Int) (n : Int) (by omega) (by omega) (by rw [hz2]; omega) (by omega)
  rw [hz1, Int.toNat_natCast, Nat.mul_one] at h
  exact h

/-! ### an event of the same kind and name -/
def LikeRes (v k : Nat) (N : Value) (ts : List ByteArray) (w : World) (z : Ending) (w' : World) : Prop := ∃ C cc, z = .returned (.agg #[.int .u8 (v : Int), .int .u8 (k : Int), N, .slice C ts.length cc]) ∧ OwnE w' w.heap.size 9 (.slice C ts.length cc) (texts ts) ∧ Below w.heap.size w w'
theorem touch4 (W : World) (b : Nat) (x0 x1 x2 x3 : Value) : Schema.Touch b (b + 1) W ((((W.setCell ⟨b, 0, none⟩ x0).setCell ⟨b, 1, none⟩ x1).setCell ⟨b, 2, none⟩ x2).setCell ⟨b, 3, none⟩ x3) :=
  (((Schema.Touch.set W b 0 x0).trans (Schema.Touch.set _ b 1 x1)).trans (Schema.Touch.set _ b 2 x2)).trans (Schema.Touch.set _ b 3 x3)
theorem ownE_set4 {w : World} {b base : Nat} {E : TypeId} {v : Value} {vs : List Value} {x0 x1 x2 x3 : Value} (h : OwnE w base E v vs) (hb : b < base) : OwnE ((((w.setCell ⟨b, 0, none⟩ x0).setCell ⟨b, 1, none⟩ x1).setCell ⟨b, 2, none⟩ x2).setCell ⟨b, 3, none⟩ x3) base E v vs :=
  (((h.set (b := b) (o := 0) hb x0).set (b := b) (o := 1) hb x1).set (b := b) (o := 2) hb x2).set (b := b) (o := 3) hb x3
theorem _root_.Go.Proofs.YtiibeemjkdipnaaDoor.Schema.Four.set4 {w : World} {b : Nat} {a0 a1 a2 a3 : Value} (h : Four w b a0 a1 a2 a3) (x0 x1 x2 x3 : Value) : Four ((((w.setCell ⟨b, 0, none⟩ x0).setCell ⟨b, 1, none⟩ x1).setCell ⟨b, 2, none⟩ x2).setCell ⟨b, 3, none⟩ x3) b x0 x1 x2 x3 := by
  have s0 : Four (w.setCell ⟨b, 0, none⟩ x0) b x0 a1 a2 a3 := ⟨World.cell?_setCell_same _ _ _ h.1, (World.cell?_setCell_other _ _ _ _ (by simp)).trans h.2.1, (World.cell?_setCell_other _ _ _ _ (by simp)).trans h.2.2.1, (World.cell?_setCell_other _ _ _ _ (by simp)).trans h.2.2.2⟩
  have s1 : Four ((w.setCell ⟨b, 0, none⟩ x0).setCell ⟨b, 1, none⟩ x1) b x0 x1 a2 a3 := ⟨(World.cell?_setCell_other _ _ _ _ (by simp)).trans s0.1, World.cell?_setCell_same _ _ _ s0.2.1, (World.cell?_setCell_other _ _ _ _ (by simp)).trans s0.2.2.1, (World.cell?_setCell_other _ _ _ _ (by simp)).trans s0.2.2.2⟩
  have s2 : Four (((w.setCell ⟨b, 0, none⟩ x0).setCell ⟨b, 1, none⟩ x1).setCell ⟨b, 2, none⟩ x2) b x0 x1 x2 a3 := ⟨(World.cell?_setCell_other _ _ _ _ (by simp)).trans s1.1, (World.cell?_setCell_other _ _ _ _ (by simp)).trans s1.2.1, World.cell?_setCell_same _ _ _ s1.2.2.1, (World.cell?_setCell_other _ _ _ _ (by simp)).trans s1.2.2.2⟩
  exact ⟨(World.cell?_setCell_other _ _ _ _ (by simp)).trans s2.1, (World.cell?_setCell_other _ _ _ _ (by simp)).trans s2.2.1, (World.cell?_setCell_other _ _ _ _ (by simp)).trans s2.2.2.1, World.cell?_setCell_same _ _ _ s2.2.2.2⟩
theorem vat_low {w w' : World} {A : Option Addr} {vs : List Value} (h : VAt w A vs) (hb : Below w.heap.size w w') : VAt w' A vs := h.below hb
set_option maxRecDepth 100000 in
set_option maxHeartbeats 2000000 in
theorem like_any (A : Option Addr) (ca : Nat) (C : Option Addr) (cc : Nat) (e : Ev) (v : Nat) (A1 : Option Addr) (n1 c1 : Nat) (w : World) (hC : VAt w C (texts e.ts)) (hnC : C = none → cc = 0) (hlt : e.ts.length ≤ 1000) :
    Calls Tryd.prog 50 #[evV A ca C cc e, .int .u8 (v : Int), .slice A1 n1 c1] w (LikeRes v e.k (.slice A1 n1 c1) e.ts w) := by
  have HTs := Lib.hid hC
  have HnC := Lib.hid hnC
  have HLT := Lib.hid hlt
  clear hC hnC hlt
  unfold evV
  have hb1 := (Below.refl w.heap.size w).alloc (Nat.le_refl _) (.cells #[.int .u8 e.v, .int .u8 e.k, .slice A e.ns.length ca, .slice C e.ts.length cc] 27)
  have hs1 : (w.alloc (.cells #[.int .u8 e.v, .int .u8 e.k, .slice A e.ns.length ca, .slice C e.ts.length cc] 27)).heap.size = w.heap.size + 1 := by simp
  have hb2 := (Below.refl (w.alloc (.cells #[.int .u8 e.v, .int .u8 e.k, .slice A e.ns.length ca, .slice C e.ts.length cc] 27)).heap.size (w.alloc (.cells #[.int .u8 e.v, .int .u8 e.k, .slice A e.ns.length ca, .slice C e.ts.length cc] 27))).alloc (Nat.le_refl _) (.cells #[.int .u8 0, .int .u8 0, .slice none 0 0, .slice none 0 0] 27)
  have hx : Four _ w.heap.size _ _ _ _ := Four.below (box4 w (.int .u8 e.v) (.int .u8 e.k) (.slice A e.ns.length ca) (.slice C e.ts.length cc) 27) hb2
  have HX := Lib.hid hx
  have hp : Four _ (w.alloc (.cells #[.int .u8 e.v, .int .u8 e.k, .slice A e.ns.length ca, .slice C e.ts.length cc] 27)).heap.size _ _ _ _ := box4 (w.alloc (.cells #[.int .u8 e.v, .int .u8 e.k, .slice A e.ns.length ca, .slice C e.ts.length cc] 27)) (.int .u8 0) (.int .u8 0) (.slice none 0 0) (.slice none 0 0) 27
  have hf := free_new (w.alloc (.cells #[.int .u8 e.v, .int .u8 e.k, .slice A e.ns.length ca, .slice C e.ts.length cc] 27)) #[.int .u8 0, .int .u8 0, .slice none 0 0, .slice none 0 0] 27
  rw [hs1] at hp hf
  have HP := Lib.hid hp
  have HPF := Lib.hid hf
  have HB := Lib.hid (below_step hb1 hb2)
  have HBV := Lib.hid hb1
  skip
  clear hb1 hb2 hs1 hx hp hf
  go_enter Tryd.func50, Tryd.ntmps50
  go_upto_region 1 with (fail)
  have HTW := Lib.hid (vat_low HTs.out HB.out)
  generalize ((w.alloc (.cells #[.int .u8 e.v, .int .u8 e.k, .slice A e.ns.length ca, .slice C e.ts.length cc] 27)).alloc (.cells #[.int .u8 0, .int .u8 0, .slice none 0 0, .slice none 0 0] 27)) = W at HX HP HPF HB HTW ⊢
  have gd := below_drew W.heap.size W
  replace HX := Lib.hid (HX.out.below gd)
  replace HP := Lib.hid (HP.out.below gd)
  replace HPF := Lib.hid (HPF.out.below gd)
  replace HB := Lib.hid (below_step HB.out gd)
  replace HTW := Lib.hid (HTW.out.below gd)
  clear gd
  refine wp_region_held_drew (S := (fun w' => w'.cell? ⟨w.heap.size, 0, none⟩ = some (.int .u8 e.v) ∧ w'.cell? ⟨w.heap.size, 1, none⟩ = some (.int .u8 e.k) ∧ w'.cell? ⟨w.heap.size, 2, none⟩ = some (.slice A e.ns.length ca) ∧ w'.cell? ⟨w.heap.size, 3, none⟩ = some (.slice C e.ts.length cc))) (by kernel_rfl) HX.out (fun hHeld => ?_)
  generalize W.drew = D0 at HX HP HPF HB HTW hHeld ⊢
  refine wpAnyH_take (i := 0) (oi := { dst := some 7, op := Go.Op.move (Go.Operand.tmp 1), type := 5, pos := "upcast.go:77", after := #[], guard := none }) (v := ?v1) rfl (by kernel_rfl) (by kernel_rfl) (by kernel_rfl) (fun _ _ _ h => h) (Or.inl ⟨by rfl, ?hy1⟩) (by assumption) ?rest1
  case hy1 => (intro w hSw; obtain ⟨s0, s1, s2, s3⟩ := hSw; go_simp; try with_reducible rfl)
  try simp only [Act.put, List.setIfInBounds_toArray, List.set_cons_zero, List.set_cons_succ]
  refine wpAnyH_take (i := 1) (oi := { dst := some 8, op := Go.Op.fieldAddr 27 (Go.Operand.tmp 3) 1, type := 0, pos := "upcast.go:77", after := #[], guard := none }) (v := ?v2) rfl (by kernel_rfl) (by kernel_rfl) (by kernel_rfl) (fun _ _ _ h => h) (Or.inl ⟨by rfl, ?hy2⟩) (by assumption) ?rest2
  case hy2 => (intro w hSw; obtain ⟨s0, s1, s2, s3⟩ := hSw; go_simp; try with_reducible rfl)
  try simp only [Act.put, List.setIfInBounds_toArray, List.set_cons_zero, List.set_cons_succ]
  refine wpAnyH_take (i := 2) (oi := { dst := some 9, op := Go.Op.load 5 (Go.Operand.tmp 8), type := 5, pos := "upcast.go:77", after := #[{ on := 1, ground := Go.Ground.data }], guard := none }) (v := ?v3) rfl (by kernel_rfl) (by kernel_rfl) (by kernel_rfl) (fun _ _ _ h => h) (Or.inl ⟨by rfl, ?hy3⟩) (by assumption) ?rest3
  case hy3 => (intro w hSw; obtain ⟨s0, s1, s2, s3⟩ := hSw; go_simp; try with_reducible rfl)
  try simp only [Act.put, List.setIfInBounds_toArray, List.set_cons_zero, List.set_cons_succ]
  refine wpAnyH_take (i := 3) (oi := { dst := some 10, op := Go.Op.move (Go.Operand.tmp 2), type := 24, pos := "upcast.go:77", after := #[], guard := none }) (v := ?v4) rfl (by kernel_rfl) (by kernel_rfl) (by kernel_rfl) (fun _ _ _ h => h) (Or.inl ⟨by rfl, ?hy4⟩) (by assumption) ?rest4
  case hy4 => (intro w hSw; obtain ⟨s0, s1, s2, s3⟩ := hSw; go_simp; try with_reducible rfl)
  try simp only [Act.put, List.setIfInBounds_toArray, List.set_cons_zero, List.set_cons_succ]
  refine wpAnyH_take (i := 4) (oi := { dst := some 11, op := Go.Op.fieldAddr 27 (Go.Operand.tmp 3) 3, type := 0, pos := "upcast.go:77", after := #[], guard := none }) (v := ?v5) rfl (by kernel_rfl) (by kernel_rfl) (by kernel_rfl) (fun _ _ _ h => h) (Or.inl ⟨by rfl, ?hy5⟩) (by assumption) ?rest5
  case hy5 => (intro w hSw; obtain ⟨s0, s1, s2, s3⟩ := hSw; go_simp; try with_reducible rfl)
  try simp only [Act.put, List.setIfInBounds_toArray, List.set_cons_zero, List.set_cons_succ]
  refine wpAnyH_take (i := 5) (oi := { dst := some 12, op := Go.Op.load 25 (Go.Operand.tmp 11), type := 25, pos := "upcast.go:77", after := #[{ on := 4, ground := Go.Ground.data }], guard := none }) (v := ?v6) rfl (by kernel_rfl) (by kernel_rfl) (by kernel_rfl) (fun _ _ _ h => h) (Or.inl ⟨by rfl, ?hy6⟩) (by assumption) ?rest6
  case hy6 => (intro w hSw; obtain ⟨s0, s1, s2, s3⟩ := hSw; go_simp; try with_reducible rfl)
  try simp only [Act.put, List.setIfInBounds_toArray, List.set_cons_zero, List.set_cons_succ]
  refine wpAnyH_ready (rs := [6]) (by kernel_rfl) (by simp) ?_
  refine AllReadyH.cons (o := { dst := some 13, op := Go.Op.call { callee := Go.Callee.builtin Go.Builtin.append, args := #[Go.Operand.const (Go.Value.slice none 0 0), Go.Operand.tmp 12], argTypes := #[25, 25] }, type := 25, pos := "upcast.go:77", after := #[{ on := 5, ground := Go.Ground.data }], guard := none }) rfl (fun K hK => ?_) AllReadyH.nil
  refine wp_append_vals 25 9 (.string ByteArray.empty) 16 Tryd.underlying25 infoT rfl (by decide) (.const (.slice none 0 0)) (.tmp 12) rfl D0.heap.size (.slice none 0 0) [] rfl (Own.nil _ _ _) C _ cc (texts e.ts) rfl (texts_len _).symm HTW.out (texts_cell _) HnC.out (by have := HLT.out; have := texts_len e.ts; simp only [List.length_nil]; omega) (Nat.le_refl _) ?_
  intro v' V2 hO hg
  try rw [List.nil_append] at hO
  obtain ⟨C2, c2, rfl, -, -⟩ := hO.vat
  rw [texts_len] at hO ⊢
  have hb : Below D0.heap.size D0 V2 := ⟨hg.os, hg.tape, hg.output, hg.size, fun k hk => hg.block k hk (by simp [Value.ownBlock])⟩
  have HO := Lib.hid hO
  have hlow : w.heap.size + 1 < D0.heap.size := HPF.out.1
  replace HP := Lib.hid (HP.out.below hb)
  replace HPF := Lib.hid (HPF.out.below hb)
  replace HX := Lib.hid (HX.out.below hb)
  replace HB := Lib.hid (below_step HB.out hb)
  have HLW := Lib.hid hlow
  clear hO hg hb hlow HTW
  refine hK.out _ _ HX.out (fun hHeld2 => ?_)
  clear hK K
  try simp only [Act.put, List.setIfInBounds_toArray, List.set_cons_zero, List.set_cons_succ]
  refine wpAnyH_take (i := 7) (oi := { dst := some 14, op := Go.Op.build 27 #[(0, Go.Operand.tmp 7), (1, Go.Operand.tmp 9), (2, Go.Operand.tmp 10), (3, Go.Operand.tmp 13)], type := 27, pos := "upcast.go:77", after := #[{ on := 0, ground := Go.Ground.data }, { on := 2, ground := Go.Ground.data }, { on := 3, ground := Go.Ground.data }, { on := 6, ground := Go.Ground.data }], guard := none }) (v := ?v7) rfl (by kernel_rfl) (by kernel_rfl) (by kernel_rfl) (fun _ _ _ h => h) (Or.inl ⟨by rfl, ?hy7⟩) (by assumption) ?rest7
  case hy7 => (intro w hSw; obtain ⟨s0, s1, s2, s3⟩ := hSw; go_simp; try with_reducible rfl)
  try simp only [Act.put, List.setIfInBounds_toArray, List.set_cons_zero, List.set_cons_succ]
  refine wpAnyH_ready (rs := [8]) (by kernel_rfl) (by simp) ?_
  refine AllReadyH.cons (o := { dst := none, op := Go.Op.store 27 (Go.Operand.tmp 6) (Go.Operand.tmp 14), type := 0, pos := "upcast.go:77", after := #[{ on := 7, ground := Go.Ground.data }, { on := 6, ground := Go.Ground.chain }, { on := 0, ground := Go.Ground.phase }, { on := 1, ground := Go.Ground.phase }, { on := 2, ground := Go.Ground.phase }, { on := 3, ground := Go.Ground.phase }, { on := 4, ground := Go.Ground.phase }, { on := 5, ground := Go.Ground.phase }, { on := 6, ground := Go.Ground.phase }, { on := 7, ground := Go.Ground.phase }], guard := none }) rfl (fun K hK => ?_) AllReadyH.nil
  obtain ⟨p0, p1, p2, p3⟩ := HP.out
  have f0 := HPF.out.2 0
  have f1 := HPF.out.2 1
  have f2 := HPF.out.2 2
  have f3 := HPF.out.2 3
  go_simp
  clear p0 p1 p2 p3 f0 f1 f2 f3
  obtain ⟨d0, d1, d2, d3⟩ := HP.out.set4 (.int .u8 (v : Int)) (.int .u8 e.k) (.slice A1 n1 c1) (.slice C2 e.ts.length c2)
  have hx4 := Four.touch HX.out (touch4 V2 (w.heap.size + 1) (.int .u8 (v : Int)) (.int .u8 e.k) (.slice A1 n1 c1) (.slice C2 e.ts.length c2)) (Or.inl (Nat.lt_succ_self _))
  refine hK.out _ _ hx4 (fun hHeld3 => ?_)
  clear hK K hx4
  try simp only [Act.put, List.setIfInBounds_toArray, List.set_cons_zero, List.set_cons_succ]
  refine wpAnyH_done (by kernel_rfl) ?_ _
  go_wp2_with fail
  refine bodyPost_ret (v := .agg #[.int .u8 (v : Int), .int .u8 e.k, .slice A1 n1 c1, .slice C2 e.ts.length c2]) (by simp [results, Tryd.results50, go_sem, d0, d1, d2, d3]) rfl ⟨C2, c2, rfl, ?_, ?_⟩
  · exact (ownE_set4 (Or.inl HO.out : OwnE V2 D0.heap.size _ _ _) HLW.out).less (by have := HLW.out; omega)
  · exact HB.out.trans ((touch4 V2 (w.heap.size + 1) _ _ _ _).below (Nat.le_succ _) HB.out.size)

/-! ### lifted -/
def upV (ns : List Int) (r : Ru) : Int := if r.fr = -1 then r.pl else r.pl + ns.getD r.fr.toNat 0 * r.ti
def upN (l : List Ru) (ns : List Int) : List Int := l.map (upV ns)
def upE (e : Ev) : Ev := ⟨e.v + 1, e.k, upN (rulesL e.v e.k) e.ns, e.ts⟩
def RuOk (n : Nat) (r : Ru) : Prop := (r.fr = -1 ∨ ∃ f : Nat, r.fr = (f : Int) ∧ f < n) ∧ (0 ≤ r.ti ∧ r.ti ≤ 100) ∧ 0 ≤ r.pl ∧ r.pl ≤ 100
theorem kept_ok (v c j n : Nat) (h : j < n) : RuOk n (keptR v c j) := by
  unfold keptR RuOk
  refine ⟨Or.inr ⟨j, rfl, h⟩, ?_, ?_⟩
  · simp only []
    split
    · omega
    · split <;> omega
  · simp only []
    split <;> omega
theorem added_ok (c n : Nat) : RuOk n (addedR c) := by
  unfold addedR RuOk
  refine ⟨Or.inl rfl, show (0 : Int) ≤ 0 ∧ (0 : Int) ≤ 100 from by decide, ?_⟩
  simp only []
  split <;> omega
theorem fold_ok (v : Nat) (former next : ByteArray) (n : Nat) : ∀ r ∈ (foldU v former next n).2, RuOk former.size r := by
  induction n with
  | zero => intro r hr; cases hr
  | succ n ih =>
    rw [foldU_succ]
    unfold stepU
    split
    · rename_i h
      intro r hr
      rcases List.mem_append.1 hr with hr | hr
      · exact ih r hr
      · rw [List.mem_singleton.1 hr]; exact kept_ok _ _ _ _ h.1
    · intro r hr
      rcases List.mem_append.1 hr with hr | hr
      · exact ih r hr
      · rw [List.mem_singleton.1 hr]; exact added_ok _ _
theorem rules_ok (v k : Nat) : ∀ r ∈ rulesL v k, RuOk (lets v k).size r := fold_ok _ _ _ _
theorem rules_len (v k : Nat) : (rulesL v k).length = (lets (v + 1) k).size := foldU_len _ _ _ _
theorem cell_gr {w w' : World} {g b o : Nat} {v : Value} (h : w.cell? ⟨b, o, none⟩ = some v) (k : w.grownBy w' (some g)) (hne : b ≠ g) : w'.cell? ⟨b, o, none⟩ = some v := (World.cell?_of_block (k.block b (cell_lt h) (fun e => hne (Option.some.inj e)))).trans h
theorem four_gr {w w' : World} {g b : Nat} {a0 a1 a2 a3 : Value} (h : Four w b a0 a1 a2 a3) (k : w.grownBy w' (some g)) (hne : b ≠ g) : Four w' b a0 a1 a2 a3 := ⟨cell_gr h.1 k hne, cell_gr h.2.1 k hne, cell_gr h.2.2.1 k hne, cell_gr h.2.2.2 k hne⟩
theorem free_gr {w w' : World} {g b : Nat} (h : Free w b) (k : w.grownBy w' (some g)) (hne : b ≠ g) : Free w' b := ⟨Nat.lt_of_lt_of_le h.1 k.size, fun o => (World.frozen?_of_block (k.block _ h.1 (fun e => hne (Option.some.inj e)))).trans (h.2 o)⟩
theorem gr_trans {a b c : World} {g : Nat} (h : a.grownBy b (some g)) (k : b.grownBy c (some g)) : a.grownBy c (some g) := ⟨k.os.trans h.os, k.tape.trans h.tape, k.output.trans h.output, Nat.le_trans h.size k.size, fun i hi hn => (k.block i (Nat.lt_of_lt_of_le hi h.size) hn).trans (h.block i hi hn)⟩
theorem gr_below {w w' : World} {g : Nat} (h : Below w.heap.size w w') : w.grownBy w' (some g) := ⟨h.os, h.tape, h.output, h.size, fun i hi _ => h.block i hi⟩
theorem gr_set (w : World) (g j : Nat) (v : Value) : w.grownBy (w.setCell ⟨g, j, none⟩ v) (some g) := ⟨rfl, rfl, rfl, by simp [World.setCell], fun k _ hn => Below.heap_setCell w _ v k (fun e => hn (by rw [e]))⟩
theorem bel_gr {B : Nat} {w W W' : World} {g : Nat} (h : Below B w W) (hB : B ≤ W.heap.size) (k : W.grownBy W' (some g)) (hg : B ≤ g) : Below B w W' := h.trans ⟨k.os, k.tape, k.output, k.size, fun i hi => k.block i (by omega) (fun e => by have := Option.some.inj e; omega)⟩
structure LiftI (W3 : World) (g : Nat) (U : List Int) (i : Nat) (P : List Int) (wr : World) : Prop where
  len : P.length = U.length
  done : ∀ j, j < i → P.getD j 0 = U.getD j 0
  nm : Nm wr g P
  gr : W3.grownBy wr (some g)
theorem list_ext {P U : List Int} (hl : P.length = U.length) (h : ∀ j, j < U.length → P.getD j 0 = U.getD j 0) : P = U := by
  apply List.ext_getElem hl
  intro i h1 h2
  have := h i h2
  rw [List.getD_eq_getElem?_getD, List.getD_eq_getElem?_getD, List.getElem?_eq_getElem h1, List.getElem?_eq_getElem h2] at this
  simpa using this
theorem getD_set_same {P : List Int} {i : Nat} (h : i < P.length) (x : Int) : (P.set i x).getD i 0 = x := by
  rw [List.getD_eq_getElem?_getD, List.getElem?_set_self h]; rfl
theorem getD_set_other {P : List Int} {i j : Nat} (h : i ≠ j) (x : Int) : (P.set i x).getD j 0 = P.getD j 0 := by
  rw [List.getD_eq_getElem?_getD, List.getD_eq_getElem?_getD, List.getElem?_set_ne h]
theorem upN_at (l : List Ru) (ns : List Int) (i : Nat) (h : i < l.length) : (upN l ns).getD i 0 = upV ns l[i] := by
  unfold upN
  rw [List.getD_eq_getElem?_getD, List.getElem?_map, List.getElem?_eq_getElem h]; rfl
/-- an event of the call's own is told -/
def OwnV (w : World) (f : Ev) (z : Ending) (w' : World) : Prop := ∃ A1 c1 C1 c2, z = .returned (evV A1 c1 C1 c2 f) ∧ OwnE w' w.heap.size 2 (.slice A1 f.ns.length c1) (nums f.ns) ∧ OwnE w' w.heap.size 9 (.slice C1 f.ts.length c2) (texts f.ts) ∧ Below w.heap.size w w'
set_option maxRecDepth 100000 in
set_option maxHeartbeats 4000000 in
theorem lifted_any (A : Option Addr) (ca : Nat) (C : Option Addr) (cc : Nat) (e : Ev) (w : World) (hA : EvAt w A ca C cc e) (hg : goes e.v e.k = true) (hl : e.ns.length = (lets e.v e.k).size) (hr : ∀ j, 0 ≤ e.ns.getD j 0 ∧ e.ns.getD j 0 ≤ 1125899906842624) (hlt : e.ts.length ≤ 1000) (E : Env w) :
    Calls Tryd.prog 49 #[evV A ca C cc e] w (OwnV w (upE e)) := by
  have HV := Lib.hid hA.v
  have HK := Lib.hid hA.k
  have HE := Lib.hid E
  have HNs := Lib.hid hA.ns
  have HTs := Lib.hid hA.ts
  have HnC := Lib.hid hA.nB
  have HLT := Lib.hid hlt
  have HG := Lib.hid hg
  have HR := Lib.hid hr
  have HL := Lib.hid hl
  have HVV := Lib.hid (show e.v + 1 ≤ 3 from by have h := hg; unfold goes at h; simp only [Bool.and_eq_true] at h; have h1 := (tall_range h.1).1; have h2 := (tall_range h.2).1; omega)
  have HOK := Lib.hid (rules_ok e.v e.k)
  have HUN := Lib.hid (show (upN (rulesL e.v e.k) e.ns).length = (rulesL e.v e.k).length from List.length_map _)
  have HUA := Lib.hid (fun i h => upN_at (rulesL e.v e.k) e.ns i h)
  have HLS := Lib.hid (show (rulesL e.v e.k).length ≤ 10 from by rw [rules_len]; exact (lets_ok _ _).1)
  clear hA E hlt hg hr hl
  unfold evV
  have hb1 := (Below.refl w.heap.size w).alloc (Nat.le_refl _) (.cells #[.int .u8 e.v, .int .u8 e.k, .slice A e.ns.length ca, .slice C e.ts.length cc] 27)
  have hs1 : (w.alloc (.cells #[.int .u8 e.v, .int .u8 e.k, .slice A e.ns.length ca, .slice C e.ts.length cc] 27)).heap.size = w.heap.size + 1 := by simp
  have hb2 := (Below.refl (w.alloc (.cells #[.int .u8 e.v, .int .u8 e.k, .slice A e.ns.length ca, .slice C e.ts.length cc] 27)).heap.size (w.alloc (.cells #[.int .u8 e.v, .int .u8 e.k, .slice A e.ns.length ca, .slice C e.ts.length cc] 27))).alloc (Nat.le_refl _) (.cells #[.int .u8 0, .int .u8 0, .slice none 0 0, .slice none 0 0] 27)
  have hx : Four _ w.heap.size _ _ _ _ := Four.below (box4 w (.int .u8 e.v) (.int .u8 e.k) (.slice A e.ns.length ca) (.slice C e.ts.length cc) 27) hb2
  have HX := Lib.hid hx
  have hp : Four _ (w.alloc (.cells #[.int .u8 e.v, .int .u8 e.k, .slice A e.ns.length ca, .slice C e.ts.length cc] 27)).heap.size _ _ _ _ := box4 (w.alloc (.cells #[.int .u8 e.v, .int .u8 e.k, .slice A e.ns.length ca, .slice C e.ts.length cc] 27)) (.int .u8 0) (.int .u8 0) (.slice none 0 0) (.slice none 0 0) 27
  have hf := free_new (w.alloc (.cells #[.int .u8 e.v, .int .u8 e.k, .slice A e.ns.length ca, .slice C e.ts.length cc] 27)) #[.int .u8 0, .int .u8 0, .slice none 0 0, .slice none 0 0] 27
  rw [hs1] at hp hf
  have HP := Lib.hid hp
  have HPF := Lib.hid hf
  have HB := Lib.hid (below_step hb1 hb2)
  have HBV := Lib.hid hb1
  skip
  clear hb1 hb2 hs1 hx hp hf
  go_enter Tryd.func49, Tryd.ntmps49
  go_upto_region 1 with (fail)
  generalize ((w.alloc (.cells #[.int .u8 e.v, .int .u8 e.k, .slice A e.ns.length ca, .slice C e.ts.length cc] 27)).alloc (.cells #[.int .u8 0, .int .u8 0, .slice none 0 0, .slice none 0 0] 27)) = W at HX HP HPF HB ⊢
  obtain ⟨x0, x1, x2, x3⟩ := HX.out
  go_wp2_with fail
  clear x0 x1 x2 x3
  refine (Rules_any e.v e.k HV.out HK.out W (HE.out.below HB.out)).mono ?_
  rintro z W2 ⟨x, rfl, hou, hb⟩
  rw [HG.out, if_pos rfl] at hou
  rw [HG.out]
  obtain ⟨A3, c3, rfl, hrow⟩ := hou.vat
  replace HX := Lib.hid (HX.out.below hb)
  replace HP := Lib.hid (HP.out.below hb)
  replace HPF := Lib.hid (HPF.out.below hb)
  replace HB := Lib.hid (below_step HB.out hb)
  have HROW := Lib.hid hrow
  clear hou hrow hb
  generalize hl3 : rulesL e.v e.k = l at HROW HOK HUN HUA HLS ⊢
  have HL3 := Lib.hid hl3
  clear hl3
  have hmk := run_mkN l.length (by have := HLS.out; omega)
  have hl10 : l.length ≤ 10 := HLS.out
  have hb := (Below.refl W2.heap.size W2).alloc (Nat.le_refl _) (.cells (mkN l.length) 2)
  have HN := Lib.hid (nm_new W2 l.length)
  have hxg : w.heap.size + 1 < W2.heap.size := HPF.out.1
  have HX3 := Lib.hid (HX.out.below hb)
  have HP3 := Lib.hid (HP.out.below hb)
  have HPF3 := Lib.hid (HPF.out.below hb)
  have HB3 := Lib.hid (below_step HB.out hb)
  have HR3 := Lib.hid hb
  clear hb
  go_wp2_with fail
  clear hmk
  generalize W2.alloc (.cells (mkN l.length) 2) = W3 at HN HX3 HP3 HPF3 HB3 HR3 ⊢
  generalize hgg : W2.heap.size = g at HN hxg HR3 ⊢
  have HGG := Lib.hid hgg
  have HXG := Lib.hid hxg
  clear hgg hxg
  have HI : Hid (LiftI W3 g (upN l e.ns) 0 (List.replicate l.length 0) W3) := ⟨by rw [HUN.out, List.length_replicate], fun j hj => absurd hj (by omega), HN.out, gr_below (Below.refl _ _)⟩
  clear HN
  go_loopw [21] (fun t wr => ∃ (i : Nat) (P : List Int), t = .int .i64 i ∧ i ≤ l.length ∧ Hid (LiftI W3 g (upN l e.ns) i P wr)) (fun t _ => l.length - (intOf t).toNat)
  case atStart => exact ⟨0, _, rfl, Nat.zero_le _, HI⟩
  case round =>
    obtain ⟨i, P, rfl, hi, HIi⟩ := hrel
    have hgs : w.heap.size + 1 < g := HXG.out
    have HXr := Lib.hid (four_gr HX3.out HIi.out.gr (by omega))
    have HPr := Lib.hid (four_gr HP3.out HIi.out.gr (by omega))
    have HPFr := Lib.hid (free_gr HPF3.out HIi.out.gr (by omega))
    have HBr := Lib.hid (bel_gr HB3.out HB3.out.size HIi.out.gr (by omega))
    clear hgs
    by_cases hlt : i < l.length
    · have z0 : (0 : Int) ≤ (i : Int) := by omega
      have z1 : (i : Int) < (l.length : Int) := by omega
      obtain ⟨b3, o3, rfl, hbl, c0, c1, c2⟩ := HROW.out.at i hlt
      have hok := HOK.out _ (List.getElem_mem hlt)
      have hua := HUA.out i hlt
      have hne : b3 ≠ g := by have := HGG.out; omega
      have hR3 : Below W2.heap.size W2 W3 := by rw [HGG.out]; exact HR3.out
      have d0 := cell_gr (cell_kept c0 hR3) HIi.out.gr hne
      have d1 := cell_gr (cell_kept c1 hR3) HIi.out.gr hne
      have d2 := cell_gr (cell_kept c2 hR3) HIi.out.gr hne
      clear c0 c1 c2 hbl hne hR3
      generalize l[i] = r at d0 d1 d2 hok hua
      obtain ⟨fr, ti, pl⟩ := r
      simp only [] at d0 d1 d2
      have HOI := Lib.hid hok
      have HUI := Lib.hid hua
      clear hok hua
      go_upto_region 6 with (fail)
      clear d0 d1 d2
      have hb := (Below.refl wr.heap.size wr).alloc (Nat.le_refl _) (.cells #[.int .i64 fr, .int .i64 ti, .int .i64 pl] 118)
      have HT := Lib.hid (tri_new wr (.int .i64 fr) (.int .i64 ti) (.int .i64 pl) 118)
      have HNM := Lib.hid (HIi.out.nm.below hb)
      have HGR := Lib.hid (gr_trans HIi.out.gr (gr_below hb))
      have hgq : g < wr.heap.size := HIi.out.nm.lt
      replace HXr := Lib.hid (HXr.out.below hb)
      replace HBr := Lib.hid (below_step HBr.out hb)
      clear hb
      generalize wr.alloc (.cells #[.int .i64 fr, .int .i64 ti, .int .i64 pl] 118) = V1 at HT HNM HGR HXr HBr ⊢
      generalize wr.heap.size = q at HT hgq ⊢
      have HGQ := Lib.hid hgq
      clear hgq
      have hPl : i < P.length := by have := HIi.out.len; have := HUN.out; omega
      have HPL := Lib.hid hPl
      clear hPl
      obtain ⟨t0, t1, t2⟩ := HT.out
      have y0 := HNM.out.cell i HPL.out
      have fy := HNM.out.fr i
      go_upto_region 7 with (fail)
      clear t0 t1 t2 y0 fy
      have ht := Schema.Touch.set V1 g i (.int .i64 pl)
      have hgs : w.heap.size + 1 < g := HXG.out
      have hgq := HGQ.out
      replace HT := Lib.hid (HT.out.touch ht (Or.inr (by omega)))
      replace HNM := Lib.hid (HNM.out.set i pl)
      replace HGR := Lib.hid (gr_trans HGR.out (gr_set V1 g i (.int .i64 pl)))
      replace HXr := Lib.hid (HXr.out.touch ht (Or.inl (by omega)))
      replace HBr := Lib.hid (Touch.step HBr.out ht (by omega))
      clear ht hgs hgq
      generalize V1.setCell ⟨g, i, none⟩ (.int .i64 pl) = V2 at HT HNM HGR HXr HBr ⊢
      rcases HOI.out.1 with hfr | ⟨f, hfr, hfl⟩
      · simp only [] at hfr
        subst hfr
        have HI2 : Hid (LiftI W3 g (upN l e.ns) (i + 1) (P.set i pl) V2) := ⟨by rw [List.length_set]; exact HIi.out.len, fun j hj => by
          by_cases hji : j = i
          · rw [hji, getD_set_same HPL.out, HUI.out]; rfl
          · rw [getD_set_other (fun h => hji h.symm)]; exact HIi.out.done j (by omega), HNM.out, HGR.out⟩
        obtain ⟨t0, t1, t2⟩ := HT.out
        go_wp2_with fail
        clear t0 t1 t2
        go_roundw
        case rel => exact ⟨i + 1, _, by go_num, by omega, HI2⟩
        case measure => simp [intOf] <;> omega
      · simp only [] at hfr
        subst hfr
        have hfn : f < e.ns.length := by rw [HL.out]; exact hfl
        have HFN := Lib.hid hfn
        have q1 : ((f : Int) != -1) = true := by rw [bne_iff_ne]; omega
        have q0 : ¬ (f : Int) = -1 := by omega
        obtain ⟨bA, oA, rfl, cA⟩ := (vat_low HNs.out HBr.out) f _ (nums_at e.ns f hfn)
        have hrr := HR.out f
        have hti := HOI.out.2.1
        have hpl := HOI.out.2.2
        simp only [] at hti hpl
        generalize hxx : e.ns.getD f 0 = x at cA hrr
        have HXX := Lib.hid hxx
        clear hxx
        have hmb : 0 ≤ x * ti ∧ x * ti ≤ 112589990684262400 := ⟨Int.mul_nonneg hrr.1 hti.1, by have h1 := Int.mul_le_mul_of_nonneg_right hrr.2 hti.1; have h2 := Int.mul_le_mul_of_nonneg_left hti.2 (show (0 : Int) ≤ 1125899906842624 by decide); omega⟩
        have hmw : IntKind.i64.wrap (x * ti) = x * ti := IntWalk.i64_in _ (by omega)
        have haw : IntKind.i64.wrap (pl + x * ti) = pl + x * ti := IntWalk.i64_in _ (by omega)
        have HI2 : Hid (LiftI W3 g (upN l e.ns) (i + 1) ((P.set i pl).set i (pl + x * ti)) (V2.setCell ⟨g, i, none⟩ (.int .i64 (pl + x * ti)))) := ⟨by rw [List.length_set, List.length_set]; exact HIi.out.len, fun j hj => by
          by_cases hji : j = i
          · rw [hji, getD_set_same (by rw [List.length_set]; exact HPL.out), HUI.out]
            show _ = upV e.ns ⟨(f : Int), ti, pl⟩
            unfold upV
            rw [if_neg q0]
            show _ = pl + e.ns.getD (f : Int).toNat 0 * ti
            rw [Int.toNat_natCast, HXX.out]
          · rw [getD_set_other (fun h => hji h.symm), getD_set_other (fun h => hji h.symm)]; exact HIi.out.done j (by omega), HNM.out.set i _, gr_trans HGR.out (gr_set V2 g i _)⟩
        have hf0 : (0 : Int) ≤ (f : Int) := by omega
        have hf1 : (f : Int) < (e.ns.length : Int) := by omega
        skip
        obtain ⟨t0, t1, t2⟩ := HT.out
        obtain ⟨x0, x1, x2, x3⟩ := HXr.out
        have y0 := HNM.out.cell i (by rw [List.length_set]; exact HPL.out)
        rw [getD_set_same HPL.out] at y0
        have fy := HNM.out.fr i
        clear x0 x1 x3 hrr hti hpl hmb
        go_wp2_with fail
        go_region
        all_goals
          clear t0 t1 t2 x2 y0 fy cA
          have HI3 : Hid (LiftI W3 g (upN l e.ns) (i + 1) ((P.set i pl).set i (pl + x * ti)) ((V2.setCell ⟨g, i, none⟩ (.int .i64 (pl + x * ti))).drew)) := ⟨HI2.out.len, HI2.out.done, HI2.out.nm.below (below_drew _ _), gr_trans HI2.out.gr (gr_below (below_drew _ _))⟩
          go_wp2_with fail
          go_roundw
          case rel => exact ⟨i + 1, _, by go_num, by omega, HI3⟩
          case measure => simp [intOf] <;> omega
    · have z1 : ¬ (i : Int) < (l.length : Int) := by omega
      have z2 : decide ((i : Int) < (l.length : Int)) = false := decide_eq_false z1
      have hPU : P = upN l e.ns := list_ext HIi.out.len (fun j hj => HIi.out.done j (by have := HUN.out; omega))
      have HNM := Lib.hid HIi.out.nm
      rw [hPU] at HNM
      clear hPU
      have hvw : IntKind.u8.wrap ((e.v : Int) + 1) = ((e.v + 1 : Nat) : Int) := by have := HVV.out; rw [IntKind.wrap_u8]; omega
      have hown := HNM.out.own (base := w.heap.size + 2) (by have := HXG.out; omega) (by have := HUN.out; have := HLS.out; unfold maxLen; omega)
      rw [HUN.out] at hown
      have HOW := Lib.hid hown
      clear hown
      obtain ⟨x0, x1, x2, x3⟩ := HXr.out
      go_wp2_with fail
      clear x0 x1 x2 x3 z1 z2 hvw
      refine (like_any A ca C cc e (e.v + 1) (some ⟨g, 0, none⟩) l.length l.length wr (vat_low HTs.out HBr.out) HnC.out HLT.out).mono ?_
      rintro z V1 ⟨C2, c2, rfl, hoe, hb⟩
      have hsz := HBr.out.size
      have hps := HPFr.out.1
      replace HPr := Lib.hid (HPr.out.below hb)
      replace HPFr := Lib.hid (HPFr.out.below hb)
      replace HBr := Lib.hid (below_step HBr.out hb)
      have HO1 := Lib.hid (show OwnE V1 (w.heap.size + 2) _ _ _ from Or.inl (HOW.out.below hb))
      have HO2 := Lib.hid (hoe.less (show w.heap.size + 2 ≤ _ by omega))
      clear hoe hb hsz hps
      obtain ⟨p0, p1, p2, p3⟩ := HPr.out
      have f0 := HPFr.out.2 0
      have f1 := HPFr.out.2 1
      have f2 := HPFr.out.2 2
      have f3 := HPFr.out.2 3
      go_wp2_with fail
      clear p0 p1 p2 p3 f0 f1 f2 f3
      obtain ⟨d0, d1, d2, d3⟩ := HPr.out.set4 (.int .u8 ((e.v : Int) + 1)) (.int .u8 e.k) (.slice (some ⟨g, 0, none⟩) l.length l.length) (.slice C2 e.ts.length c2)
      refine bodyPost_ret (v := .agg #[.int .u8 ((e.v : Int) + 1), .int .u8 e.k, .slice (some ⟨g, 0, none⟩) l.length l.length, .slice C2 e.ts.length c2]) (by simp [results, Tryd.results49, go_sem, d0, d1, d2, d3]) rfl ⟨some ⟨g, 0, none⟩, l.length, C2, c2, ?_, ?_, ?_, ?_⟩
      · unfold upE evV; rw [HL3.out]; simp only []; rw [HUN.out]; rfl
      · unfold upE; rw [HL3.out]; simp only []; rw [HUN.out]; exact (ownE_set4 HO1.out (by omega)).less (by omega)
      · exact (ownE_set4 HO2.out (by omega)).less (by omega)
      · exact HBr.out.trans ((touch4 V1 (w.heap.size + 1) _ _ _ _).below (Nat.le_succ _) HBr.out.size)

end Go.Proofs.YtiibeemjkdipnaaDoor.Upcast
