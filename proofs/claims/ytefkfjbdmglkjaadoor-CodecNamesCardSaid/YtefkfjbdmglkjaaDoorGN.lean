import Derived.Test.YtefkfjbdmglkjaaDoorGLCut
/-
  Get of a nil Reader.
-/
namespace Go.Proofs.YtefkfjbdmglkjaaDoor.Codec
open Go Go.RowKit
open Go.Proofs.YtefkfjbdmglkjaaDoor.Wire (U)
open Go.Proofs.YtefkfjbdmglkjaaDoor.Schema

theorem four_nil {w w' : World} {d b : Nat} {a0 a1 a2 a3 : Value} (h : Four w b a0 a1 a2 a3) (g : w.grownBy w' (some d)) (hne : b ≠ d) : Four w' b a0 a1 a2 a3 := by
  have k : ∀ o v, w.cell? ⟨b, o, none⟩ = some v → w'.cell? ⟨b, o, none⟩ = some v := fun o v hv => (World.cell?_of_block (g.block b (cell_lt hv) (fun e => by injection e with e; exact hne e))).trans hv
  exact ⟨k _ _ h.1, k _ _ h.2.1, k _ _ h.2.2.1, k _ _ h.2.2.2⟩
theorem free_nil {w w' : World} {d b : Nat} (h : Free w b) (g : w.grownBy w' (some d)) (hne : b ≠ d) : Free w' b := ⟨Nat.lt_of_lt_of_le h.1 g.size, fun o => (World.frozen?_of_block (g.block _ h.1 (fun e => by injection e with e; exact hne e))).trans (h.2 o)⟩
theorem bel_nil {B : Nat} {w W W' : World} {d : Nat} (h : Below B w W) (hB : B ≤ W.heap.size) (g : W.grownBy W' (some d)) (hd : B ≤ d) : Below B w W' := h.trans ⟨g.os, g.tape, g.output, g.size, fun k hk => g.block k (by omega) (fun e => by injection e with e; omega)⟩
theorem grown_set' (w : World) (d j : Nat) (v : Value) : w.grownBy (w.setCell ⟨d, j, none⟩ v) (some d) := ⟨rfl, rfl, rfl, by simp [World.setCell], fun k _ hn => Below.heap_setCell w _ v k (fun e => hn (by rw [e]))⟩

set_option maxRecDepth 100000 in
set_option maxHeartbeats 1000000 in
theorem kind1_nil (bg g : Nat) (a1 a2 a3 a4 a5 : Value) (w : World) (hx : Six w g (.pointer none) a1 a2 a3 a4 a5) (hf : Free w g) (ho : One w bg (.pointer (some ⟨g, 0, none⟩))) (hne : g ≠ bg) :
    Calls Tryd.prog 64 #[.pointer (some ⟨bg, 0, none⟩)] w fun z w' => z = .returned (.tuple #[]) ∧ Six w' g (.pointer none) a1 (.int .u8 0) a3 a4 a5 ∧ Free w' g ∧ One w' bg (.pointer (some ⟨g, 0, none⟩)) ∧ w.grownBy w' (some g) := by
  have HNE := Lib.hid hne
  go_enter Tryd.func64, Tryd.ntmps64
  go_upto_region 0 with (fail)
  have gd := below_drew w.heap.size w
  have HX := Lib.hid (hx.below gd)
  have HF := Lib.hid (hf.below gd)
  have HO := Lib.hid (ho.below gd)
  have HG : Hid (w.grownBy w.drew (some g)) := Wire.grown_below gd
  clear gd hx hf ho hne
  refine wp_region_held_drew (S := (fun w' => w'.cell? ⟨bg, 0, none⟩ = some (.pointer (some ⟨g, 0, none⟩)) ∧ w'.cell? ⟨g, 0, none⟩ = some (.pointer none))) (by kernel_rfl) ⟨HO.out, HX.out.1⟩ (fun hHeld => ?_)
  generalize w.drew = D0 at HX HF HO HG hHeld ⊢
  refine wpAnyH_take (i := 0) (oi := { dst := some 1, op := Go.Op.load 107 (Go.Operand.tmp 0), type := 107, pos := "codec.go:83", after := #[], guard := none }) (v := ?v1) rfl (by kernel_rfl) (by kernel_rfl) (by kernel_rfl) (fun _ _ _ h => h) (Or.inl ⟨by rfl, ?hy1⟩) (by assumption) ?rest1
  case hy1 => (intro w hSw; obtain ⟨s0, s1⟩ := hSw; go_simp; try with_reducible rfl)
  try simp only [Act.put, List.setIfInBounds_toArray, List.set_cons_zero, List.set_cons_succ]
  refine wpAnyH_take (i := 1) (oi := { dst := some 2, op := Go.Op.load 107 (Go.Operand.tmp 0), type := 107, pos := "codec.go:83", after := #[], guard := none }) (v := ?v2) rfl (by kernel_rfl) (by kernel_rfl) (by kernel_rfl) (fun _ _ _ h => h) (Or.inl ⟨by rfl, ?hy2⟩) (by assumption) ?rest2
  case hy2 => (intro w hSw; obtain ⟨s0, s1⟩ := hSw; go_simp; try with_reducible rfl)
  try simp only [Act.put, List.setIfInBounds_toArray, List.set_cons_zero, List.set_cons_succ]
  refine wpAnyH_take (i := 2) (oi := { dst := some 3, op := Go.Op.nilCheck (Go.Operand.tmp 2), type := 0, pos := "codec.go:83", after := #[{ on := 1, ground := Go.Ground.data }], guard := none }) (v := ?v3) rfl (by kernel_rfl) (by kernel_rfl) (by kernel_rfl) (fun _ _ _ h => h) (Or.inl ⟨by rfl, ?hy3⟩) (by assumption) ?rest3
  case hy3 => (intro w hSw; obtain ⟨s0, s1⟩ := hSw; go_simp; try with_reducible rfl)
  try simp only [Act.put, List.setIfInBounds_toArray, List.set_cons_zero, List.set_cons_succ]
  refine wpAnyH_take (i := 3) (oi := { dst := some 4, op := Go.Op.fieldAddr 73 (Go.Operand.tmp 3) 0, type := 0, pos := "codec.go:83", after := #[{ on := 2, ground := Go.Ground.data }], guard := none }) (v := ?v4) rfl (by kernel_rfl) (by kernel_rfl) (by kernel_rfl) (fun _ _ _ h => h) (Or.inl ⟨by rfl, ?hy4⟩) (by assumption) ?rest4
  case hy4 => (intro w hSw; obtain ⟨s0, s1⟩ := hSw; go_simp; try with_reducible rfl)
  try simp only [Act.put, List.setIfInBounds_toArray, List.set_cons_zero, List.set_cons_succ]
  refine wpAnyH_take (i := 4) (oi := { dst := some 5, op := Go.Op.load 47 (Go.Operand.tmp 4), type := 47, pos := "codec.go:83", after := #[{ on := 3, ground := Go.Ground.data }], guard := none }) (v := ?v5) rfl (by kernel_rfl) (by kernel_rfl) (by kernel_rfl) (fun _ _ _ h => h) (Or.inl ⟨by rfl, ?hy5⟩) (by assumption) ?rest5
  case hy5 => (intro w hSw; obtain ⟨s0, s1⟩ := hSw; go_simp; try with_reducible rfl)
  try simp only [Act.put, List.setIfInBounds_toArray, List.set_cons_zero, List.set_cons_succ]
  refine wpAnyH_ready (rs := [5]) (by kernel_rfl) (by simp) ?_
  refine AllReadyH.cons (o := { dst := some 6, op := Go.Op.call { callee := Go.Callee.value (Go.Operand.func 47), args := #[Go.Operand.tmp 5], argTypes := #[47] }, type := 5, pos := "codec.go:83", after := #[{ on := 4, ground := Go.Ground.data }], guard := none }) rfl (fun K hK => ?_) AllReadyH.nil
  go_simp
  go_at_call 47
  refine (Wire.ru8_nil _).mono ?_
  rintro z D1 ⟨rfl, hb⟩
  replace HX := Lib.hid (HX.out.below hb)
  replace HF := Lib.hid (HF.out.below hb)
  replace HO := Lib.hid (HO.out.below hb)
  replace HG := Lib.hid (Wire.grown_trans HG.out (Wire.grown_below hb))
  clear hb
  refine hK.out _ _ ⟨HO.out, HX.out.1⟩ (fun hHeld2 => ?_)
  clear hK K
  try simp only [Act.put, List.setIfInBounds_toArray, List.set_cons_zero, List.set_cons_succ]
  refine wpAnyH_take (i := 6) (oi := { dst := some 7, op := Go.Op.nilCheck (Go.Operand.tmp 1), type := 0, pos := "codec.go:83", after := #[{ on := 0, ground := Go.Ground.data }, { on := 0, ground := Go.Ground.phase }, { on := 1, ground := Go.Ground.phase }, { on := 2, ground := Go.Ground.phase }, { on := 3, ground := Go.Ground.phase }, { on := 4, ground := Go.Ground.phase }, { on := 5, ground := Go.Ground.phase }], guard := none }) (v := ?v6) rfl (by kernel_rfl) (by kernel_rfl) (by kernel_rfl) (fun _ _ _ h => h) (Or.inl ⟨by rfl, ?hy6⟩) (by assumption) ?rest6
  case hy6 => (intro w hSw; obtain ⟨s0, s1⟩ := hSw; go_simp; try with_reducible rfl)
  try simp only [Act.put, List.setIfInBounds_toArray, List.set_cons_zero, List.set_cons_succ]
  refine wpAnyH_take (i := 7) (oi := { dst := some 8, op := Go.Op.fieldAddr 73 (Go.Operand.tmp 7) 1, type := 0, pos := "codec.go:83", after := #[{ on := 6, ground := Go.Ground.data }, { on := 0, ground := Go.Ground.phase }, { on := 1, ground := Go.Ground.phase }, { on := 2, ground := Go.Ground.phase }, { on := 3, ground := Go.Ground.phase }, { on := 4, ground := Go.Ground.phase }, { on := 5, ground := Go.Ground.phase }], guard := none }) (v := ?v7) rfl (by kernel_rfl) (by kernel_rfl) (by kernel_rfl) (fun _ _ _ h => h) (Or.inl ⟨by rfl, ?hy7⟩) (by assumption) ?rest7
  case hy7 => (intro w hSw; obtain ⟨s0, s1⟩ := hSw; go_simp; try with_reducible rfl)
  try simp only [Act.put, List.setIfInBounds_toArray, List.set_cons_zero, List.set_cons_succ]
  refine wpAnyH_take (i := 8) (oi := { dst := some 9, op := Go.Op.fieldAddr 26 (Go.Operand.tmp 8) 1, type := 0, pos := "codec.go:83", after := #[{ on := 7, ground := Go.Ground.data }, { on := 0, ground := Go.Ground.phase }, { on := 1, ground := Go.Ground.phase }, { on := 2, ground := Go.Ground.phase }, { on := 3, ground := Go.Ground.phase }, { on := 4, ground := Go.Ground.phase }, { on := 5, ground := Go.Ground.phase }], guard := none }) (v := ?v8) rfl (by kernel_rfl) (by kernel_rfl) (by kernel_rfl) (fun _ _ _ h => h) (Or.inl ⟨by rfl, ?hy8⟩) (by assumption) ?rest8
  case hy8 => (intro w hSw; obtain ⟨s0, s1⟩ := hSw; go_simp; try with_reducible rfl)
  try simp only [Act.put, List.setIfInBounds_toArray, List.set_cons_zero, List.set_cons_succ]
  refine wpAnyH_ready (rs := [9]) (by kernel_rfl) (by simp) ?_
  refine AllReadyH.cons (o := { dst := none, op := Go.Op.store 5 (Go.Operand.tmp 9) (Go.Operand.tmp 6), type := 0, pos := "codec.go:83", after := #[{ on := 8, ground := Go.Ground.data }, { on := 5, ground := Go.Ground.data }, { on := 5, ground := Go.Ground.chain }, { on := 0, ground := Go.Ground.phase }, { on := 1, ground := Go.Ground.phase }, { on := 2, ground := Go.Ground.phase }, { on := 3, ground := Go.Ground.phase }, { on := 4, ground := Go.Ground.phase }, { on := 5, ground := Go.Ground.phase }], guard := none }) rfl (fun K hK => ?_) AllReadyH.nil
  have c2 := HX.out.2.2.1
  have f2 := HF.out.2 2
  go_simp
  clear c2 f2
  have hx := HX.out.set2 (.int .u8 0)
  have hf := HF.out.set g 2 (.int .u8 0)
  have ho2 := HO.out.touch (Schema.Touch.set D1 g 2 (.int .u8 0)) (by have := HNE.out; omega)
  have hg2 := Wire.grown_trans HG.out (grown_set' D1 g 2 (.int .u8 0))
  replace HX := Lib.hid hx
  replace HF := Lib.hid hf
  replace HO := Lib.hid ho2
  replace HG := Lib.hid hg2
  clear hx hf ho2 hg2
  refine hK.out _ _ ⟨HO.out, HX.out.1⟩ (fun hHeld3 => ?_)
  clear hK K
  generalize D1.setCell ⟨g, 2, none⟩ (.int .u8 0) = D2 at HX HF HO HG hHeld3 ⊢
  try simp only [Act.put, List.setIfInBounds_toArray, List.set_cons_zero, List.set_cons_succ]
  refine wpAnyH_done (by kernel_rfl) ?_ _
  go_wp2_with fail
  go_end0
  exact ⟨rfl, HX.out, HF.out, HO.out, HG.out⟩

set_option maxRecDepth 100000 in
set_option maxHeartbeats 1000000 in
theorem readK_nil (bg g : Nat) (a1 a2 a3 a4 : Value) (w : World) (hx : Six w g (.pointer none) a1 a2 a3 a4 (.int .i64 0)) (hf : Free w g) (ho : One w bg (.pointer (some ⟨g, 0, none⟩))) (hne : g ≠ bg) :
    Calls Tryd.prog 40 #[.pointer (some ⟨g, 0, none⟩), .agg #[.func (.func 64) #[] #[.pointer (some ⟨bg, 0, none⟩)], .func (.func 65) #[] #[.pointer (some ⟨bg, 0, none⟩)]]] w fun z w' => z = .returned (.tuple #[]) ∧ Six w' g (.pointer none) a1 (.int .u8 0) a3 a4 (.int .i64 2) ∧ Free w' g ∧ w.grownBy w' (some g) := by
  have HNE := Lib.hid hne
  have HGS := Lib.hid hf.1
  have hb := (Below.refl w.heap.size w).alloc (Nat.le_refl _) (.cells #[.func (.func 64) #[] #[.pointer (some ⟨bg, 0, none⟩)], .func (.func 65) #[] #[.pointer (some ⟨bg, 0, none⟩)]] 76)
  have HX := Lib.hid (hx.below hb)
  have HF := Lib.hid (hf.below hb)
  have HO := Lib.hid (ho.below hb)
  have HG : Hid (w.grownBy _ (some g)) := Wire.grown_below hb
  have HT := Lib.hid (two_new w (.func (.func 64) #[] #[.pointer (some ⟨bg, 0, none⟩)]) (.func (.func 65) #[] #[.pointer (some ⟨bg, 0, none⟩)]) 76)
  clear hb hx hf ho hne
  go_enter Tryd.func40, Tryd.ntmps40
  go_upto_region 1 with (fail)
  generalize w.alloc (.cells #[.func (.func 64) #[] #[.pointer (some ⟨bg, 0, none⟩)], .func (.func 65) #[] #[.pointer (some ⟨bg, 0, none⟩)]] 76) = W0 at HX HF HO HG HT ⊢
  obtain ⟨x0, x1, x2, x3, x4, x5⟩ := HX.out
  obtain ⟨t0, t1⟩ := HT.out
  go_wp2_with fail
  clear x0 x1 x2 x3 x4 x5 t0 t1
  refine (kind1_nil bg g _ _ _ _ _ W0 HX.out HF.out HO.out HNE.out).mono ?_
  rintro z W1 ⟨rfl, hx, hf, ho, hg⟩
  have HT1 := Lib.hid (show Two W1 w.heap.size _ _ from ⟨(World.cell?_of_block (hg.block _ (cell_lt HT.out.1) (fun e => by have e2 : w.heap.size = g := Option.some.inj e; have := HGS.out; omega))).trans HT.out.1, (World.cell?_of_block (hg.block _ (cell_lt HT.out.1) (fun e => by have e2 : w.heap.size = g := Option.some.inj e; have := HGS.out; omega))).trans HT.out.2⟩)
  replace HG := Lib.hid (Wire.grown_trans HG.out hg)
  clear HX HF HO HT
  have HX := Lib.hid hx
  have HF := Lib.hid hf
  clear hx hf ho hg
  obtain ⟨x0, x1, x2, x3, x4, x5⟩ := HX.out
  have f5 := HF.out.2 5
  go_wp2_with fail
  clear x0 x1 x2 x3 x4 x5 f5
  refine (Wire.err_nil W1).mono ?_
  rintro z z1 ⟨rfl, rfl⟩
  obtain ⟨x0, x1, x2, x3, x4, x5⟩ := HX.out
  obtain ⟨t0, t1⟩ := HT1.out
  have f5 := HF.out.2 5
  go_upto_region 4 with (fail)
  clear x0 x1 x2 x3 x4 x5 t0 t1 f5
  have hx := HX.out.set5 (.int .i64 2)
  have hf := HF.out.set g 5 (.int .i64 2)
  have hg := Wire.grown_trans HG.out (grown_set' W1 g 5 (.int .i64 2))
  replace HX := Lib.hid hx
  replace HF := Lib.hid hf
  replace HG := Lib.hid hg
  clear hx hf hg HT1
  generalize W1.setCell ⟨g, 5, none⟩ (.int .i64 2) = W2 at HX HF HG ⊢
  obtain ⟨x0, x1, x2, x3, x4, x5⟩ := HX.out
  go_wp2_with fail
  go_end0
  exact ⟨rfl, HX.out, HF.out, HG.out⟩

set_option maxRecDepth 100000 in
set_option maxHeartbeats 2000000 in
theorem Get_nil (w : World) (E : Env w) : Calls Tryd.prog 18 #[.pointer none, .int .u8 3] w fun z w' => z = .returned (.tuple #[.agg #[.int .u8 0, .int .u8 0, .slice none 0 0, .slice none 0 0], .int .i64 2]) ∧ Below w.heap.size w w' := by
  have hb := (Below.refl w.heap.size w).alloc (Nat.le_refl _) (.cells #[.int .u8 0, .int .u8 0, .slice none 0 0, .slice none 0 0] 26)
  have HE := Lib.hid E
  have HP := Lib.hid (show Four _ w.heap.size _ _ _ _ from box4 w (.int .u8 0) (.int .u8 0) (.slice none 0 0) (.slice none 0 0) 26)
  have HPF := Lib.hid (free_new w #[.int .u8 0, .int .u8 0, .slice none 0 0, .slice none 0 0] 26)
  have HB := Lib.hid hb
  clear hb E
  go_enter Tryd.func18, Tryd.ntmps18
  go_upto_region 1 with (fail)
  generalize w.alloc (.cells #[.int .u8 0, .int .u8 0, .slice none 0 0, .slice none 0 0] 26) = W0 at HP HPF HB ⊢
  go_wp2_with fail
  have hk3 := kinds_any 3 (by decide) W0 (HE.out.below HB.out)
  refine (show Calls Tryd.prog 39 #[.int .u8 3] W0 (KindsRes 3 W0) from hk3).mono ?_
  rintro z W1 ⟨Ak, nk, ck, rfl, hkn, hb⟩
  replace HP := Lib.hid (HP.out.below hb)
  replace HPF := Lib.hid (HPF.out.below hb)
  replace HB := Lib.hid (below_step HB.out hb)
  clear hb hk3
  have z1 : ((nk : Int) == 0) = false := beq_eq_false_iff_ne.2 (fun h => hkn.1 (by omega) (by omega))
  have z2 : (nk == 0) = false := beq_eq_false_iff_ne.2 (fun h => hkn.1 h (by omega))
  clear hkn
  go_upto_region 4 with (fail)
  clear z1 z2
  have hb := (Below.refl W1.heap.size W1).alloc (Nat.le_refl _) (.cells #[.pointer none, .int .u8 3, .int .u8 0, .slice none 0 0, .slice none 0 0, .int .i64 0] 73)
  have hpl : w.heap.size < W1.heap.size := HPF.out.1
  replace HP := Lib.hid (HP.out.below hb)
  replace HPF := Lib.hid (HPF.out.below hb)
  replace HB := Lib.hid (below_step HB.out hb)
  have HX := Lib.hid (six_new W1 (.pointer none) (.int .u8 3) (.int .u8 0) (.slice none 0 0) (.slice none 0 0) (.int .i64 0) 73)
  have HF := Lib.hid (free_new W1 #[.pointer none, .int .u8 3, .int .u8 0, .slice none 0 0, .slice none 0 0, .int .i64 0] 73)
  have HPL := Lib.hid hpl
  clear hb hpl
  generalize W1.alloc (.cells #[.pointer none, .int .u8 3, .int .u8 0, .slice none 0 0, .slice none 0 0, .int .i64 0] 73) = W2 at HP HPF HB HX HF ⊢
  generalize W1.heap.size = g at HX HF HPL ⊢
  go_wp2_with fail
  refine (kind_any g W2).mono ?_
  rintro z W3 ⟨rfl, ho, hb⟩
  have hne : g ≠ W2.heap.size := by have := HF.out.1; omega
  replace HP := Lib.hid (HP.out.below hb)
  replace HPF := Lib.hid (HPF.out.below hb)
  replace HB := Lib.hid (below_step HB.out hb)
  replace HX := Lib.hid (HX.out.below hb)
  replace HF := Lib.hid (HF.out.below hb)
  have HO := Lib.hid ho
  have HNE := Lib.hid hne
  clear ho hb hne
  go_wp2_with fail
  refine (readK_nil W2.heap.size g _ _ _ _ W3 HX.out HF.out HO.out HNE.out).mono ?_
  rintro z W4 ⟨rfl, hx, hf, hg⟩
  replace HP := Lib.hid (four_nil HP.out hg (by have := HPL.out; omega))
  replace HPF := Lib.hid (free_nil HPF.out hg (by have := HPL.out; omega))
  replace HB := Lib.hid (bel_nil HB.out HB.out.size hg (by have := HPL.out; omega))
  clear HX HF HO
  have HX := Lib.hid hx
  clear hx hf hg
  obtain ⟨x0, x1, x2, x3, x4, x5⟩ := HX.out
  go_wp2_with fail
  clear x0 x1 x2 x3 x4 x5
  have hfl := Fields_any 3 0 (by decide) (by decide) W4 (HE.out.below HB.out)
  rw [show lets 3 0 = ByteArray.mk #[] from by kernel_rfl, show (tall 3 0 && tru 0) = false from by decide +kernel, show tall 3 0 = false from by decide +kernel] at hfl
  refine (show Calls Tryd.prog 42 #[.int .u8 3, .int .u8 0] W4 _ from hfl).mono ?_
  rintro z W5 ⟨vl, rfl, hown, hb⟩
  obtain ⟨Al, cl, rfl, -, -, -⟩ := hown.vat
  rw [show (clsV (ByteArray.mk #[])).length = 0 from rfl]
  replace HP := Lib.hid (HP.out.below hb)
  replace HPF := Lib.hid (HPF.out.below hb)
  replace HB := Lib.hid (below_step HB.out hb)
  replace HX := Lib.hid (HX.out.below hb)
  clear hb hown hfl
  go_wp2_with fail
  go_loopw [34] (fun j wr => j = .int .i64 0 ∧ wr = W5) (fun _ _ => 0)
  case atStart => exact ⟨rfl, rfl⟩
  case round =>
    obtain ⟨rfl, rfl⟩ := hrel
    obtain ⟨x0, x1, x2, x3, x4, x5⟩ := HX.out
    obtain ⟨p0, p1, p2, p3⟩ := HP.out
    have f0 := HPF.out.2 0
    have f1 := HPF.out.2 1
    have f2 := HPF.out.2 2
    have f3 := HPF.out.2 3
    have hq : ¬ g = w.heap.size := by have := HPL.out; omega
    have hq2 : ¬ w.heap.size = g := by have := HPL.out; omega
    go_wp2_with fail
    go_region
    all_goals
      go_wp2_with fail
      clear x0 x1 x2 x3 x4 x5 p0 p1 p2 p3 f0 f1 f2 f3 hq hq2
      have hp := HP.out.set0 (.int .u8 0) |>.set1 (.int .u8 0) |>.set2 (.slice none 0 0) |>.set3 (.slice none 0 0)
      obtain ⟨d0, d1, d2, d3⟩ := hp
      refine bodyPost_ret (v := .tuple #[.agg #[.int .u8 0, .int .u8 0, .slice none 0 0, .slice none 0 0], .int .i64 2]) (by simp [results, Tryd.results18, go_sem, d0, d1, d2, d3]) rfl ⟨rfl, ?_⟩
      have ht := (((Schema.Touch.set wr w.heap.size 0 (.int .u8 0)).trans (Schema.Touch.set _ w.heap.size 1 (.int .u8 0))).trans (Schema.Touch.set _ w.heap.size 2 (.slice none 0 0))).trans (Schema.Touch.set _ w.heap.size 3 (.slice none 0 0))
      exact (HB.out.trans (ht.below (Nat.le_refl _) HB.out.size)).trans (below_drew _ _)

end Go.Proofs.YtefkfjbdmglkjaaDoor.Codec
