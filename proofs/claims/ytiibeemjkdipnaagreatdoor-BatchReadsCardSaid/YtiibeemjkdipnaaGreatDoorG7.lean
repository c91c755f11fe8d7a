import Derived.Test.YtiibeemjkdipnaaGreatDoorG5
/-
  How an event's number is read.
-/
namespace Go.Proofs.YtiibeemjkdipnaaGreatDoor.Codec
open Go Go.RowKit
open Go.Proofs.YtiibeemjkdipnaaGreatDoor.Wire (Wr Only Rd Step U cell_row rdS fxV shR txR tkI tkE tkT rShort_any err_any shR_most shR_le)
open Go.Proofs.YtiibeemjkdipnaaGreatDoor.Schema


/-- the closures of a number, and what they share -/
structure Nums4 (w' : World) (n g bg bh bn bl : Nat) (lo hi m : Int) : Prop where
  og : One w' bg (.pointer (some ⟨g, 0, none⟩))
  oh : One w' bh (.int .i64 hi)
  on : One w' bn (.int .i64 m)
  ol : One w' bl (.int .i64 lo)
  fn : Free w' bn
  l1 : n ≤ bg
  l0 : bg < bl
  l2 : n ≤ bl
  l3 : bl < bh
  l4 : bh < bn
def NumRes (w : World) (g : Nat) (lo hi : Int) (z : Ending) (w' : World) : Prop := ∃ bg bh bn bl, z = .returned (.agg #[.func (.func 103) #[] #[.pointer (some ⟨bg, 0, none⟩), .pointer (some ⟨bh, 0, none⟩), .pointer (some ⟨bn, 0, none⟩)], .func (.func 104) #[] #[.pointer (some ⟨bn, 0, none⟩), .pointer (some ⟨bl, 0, none⟩)]]) ∧ Nums4 w' w.heap.size g bg bh bn bl lo hi 0 ∧ Below w.heap.size w w'

set_option maxRecDepth 100000 in
set_option maxHeartbeats 1000000 in
theorem number_any (g v c : Nat) (hv : v < 256) (hc : c < 256) (a0 a2 a3 a4 a5 : Value) (w : World) (hx : Six w g a0 (.int .u8 (v : Int)) a2 a3 a4 a5) (E : Env w) :
    Calls Tryz.prog 88 #[.pointer (some ⟨g, 0, none⟩), .int .u8 (c : Int)] w (NumRes w g (bnd v c).low (bnd v c).high) := by
  have hb0 := (Below.refl w.heap.size w).alloc (Nat.le_refl _) (.cells #[.pointer (some ⟨g, 0, none⟩)] 142)
  have hb1 := (Below.refl (w.alloc (.cells #[.pointer (some ⟨g, 0, none⟩)] 142)).heap.size (w.alloc (.cells #[.pointer (some ⟨g, 0, none⟩)] 142))).alloc (Nat.le_refl _) (.cells #[.nilFunc, .nilFunc] 123)
  have hs : (w.alloc (.cells #[.pointer (some ⟨g, 0, none⟩)] 142)).heap.size = w.heap.size + 1 := by simp
  have hs2 : w.heap.size + 2 ≤ ((w.alloc (.cells #[.pointer (some ⟨g, 0, none⟩)] 142)).alloc (.cells #[.nilFunc, .nilFunc] 123)).heap.size := by simp
  have HO := Lib.hid ((one_new w (.pointer (some ⟨g, 0, none⟩)) 142).below hb1)
  have hp := two_new (w.alloc (.cells #[.pointer (some ⟨g, 0, none⟩)] 142)) .nilFunc .nilFunc 123
  have hf := free_new (w.alloc (.cells #[.pointer (some ⟨g, 0, none⟩)] 142)) #[.nilFunc, .nilFunc] 123
  rw [hs] at hp hf
  have HP := Lib.hid hp
  have HF := Lib.hid hf
  have HB := Lib.hid (below_step hb0 hb1)
  have HX := Lib.hid ((hx.below hb0).below hb1)
  have HORD := Lib.hid (And.intro (cell_lt hx.1) hs2)
  have HE := Lib.hid ((E.below hb0).below hb1)
  clear hb0 hb1 hp hf hs hs2 hx E
  obtain ⟨lo, hlo⟩ : ∃ x, (bnd v c).low = x := ⟨_, rfl⟩
  obtain ⟨hi, hhi⟩ : ∃ x, (bnd v c).high = x := ⟨_, rfl⟩
  have HBD := Lib.hid (fun W (EW : Env W) => bound_any v c hv hc W EW)
  rw [hlo, hhi] at HBD
  rw [hlo, hhi]
  clear hlo hhi
  go_enter Tryz.func88, Tryz.ntmps88
  go_upto_region 1 with (fail)
  generalize ((w.alloc (.cells #[.pointer (some ⟨g, 0, none⟩)] 142)).alloc (.cells #[.nilFunc, .nilFunc] 123)) = W at HO HP HF HB HX HE HORD ⊢
  obtain ⟨x0, x1, x2, x3, x4, x5⟩ := HX.out
  have o0 : W.cell? ⟨w.heap.size, 0, none⟩ = some (.pointer (some ⟨g, 0, none⟩)) := HO.out
  go_wp2_with fail
  clear x0 x1 x2 x3 x4 x5 o0
  refine (HBD.out W HE.out).mono ?_
  rintro z W1 ⟨rfl, hb⟩
  replace HO := Lib.hid (HO.out.below hb)
  replace HP := Lib.hid (HP.out.below hb)
  replace HF := Lib.hid (HF.out.below hb)
  replace HB := Lib.hid (below_step HB.out hb)
  replace HX := Lib.hid (HX.out.below hb)
  replace HE := Lib.hid (HE.out.below hb)
  replace HORD := Lib.hid (And.intro HORD.out hb.size)
  clear hb
  go_upto_region 3 with (fail)
  have hb := (Below.refl W1.heap.size W1).alloc (Nat.le_refl _) (.cells #[.int .i64 lo] 2)
  have hsz : W1.heap.size = W1.heap.size := rfl
  replace HO := Lib.hid (HO.out.below hb)
  replace HP := Lib.hid (HP.out.below hb)
  replace HF := Lib.hid (HF.out.below hb)
  replace HB := Lib.hid (below_step HB.out hb)
  replace HX := Lib.hid (HX.out.below hb)
  replace HE := Lib.hid (HE.out.below hb)
  have ho := one_new W1 (.int .i64 lo) 2
  have hf := free_new W1 #[.int .i64 lo] 2
  have HL := Lib.hid ho
  clear ho hf hb hsz
  have hb := (Below.refl (W1.alloc (.cells #[.int .i64 lo] 2)).heap.size (W1.alloc (.cells #[.int .i64 lo] 2))).alloc (Nat.le_refl _) (.cells #[.int .i64 hi] 2)
  have hsz : (W1.alloc (.cells #[.int .i64 lo] 2)).heap.size = W1.heap.size + 1 := by simp
  replace HO := Lib.hid (HO.out.below hb)
  replace HP := Lib.hid (HP.out.below hb)
  replace HF := Lib.hid (HF.out.below hb)
  replace HB := Lib.hid (below_step HB.out hb)
  replace HX := Lib.hid (HX.out.below hb)
  replace HE := Lib.hid (HE.out.below hb)
  replace HL := Lib.hid (HL.out.below hb)
  have ho := one_new (W1.alloc (.cells #[.int .i64 lo] 2)) (.int .i64 hi) 2
  have hf := free_new (W1.alloc (.cells #[.int .i64 lo] 2)) #[.int .i64 hi] 2
  rw [hsz] at ho hf
  have HH := Lib.hid ho
  clear ho hf hb hsz
  have hb := (Below.refl ((W1.alloc (.cells #[.int .i64 lo] 2)).alloc (.cells #[.int .i64 hi] 2)).heap.size ((W1.alloc (.cells #[.int .i64 lo] 2)).alloc (.cells #[.int .i64 hi] 2))).alloc (Nat.le_refl _) (.cells #[.int .i64 0] 2)
  have hsz : ((W1.alloc (.cells #[.int .i64 lo] 2)).alloc (.cells #[.int .i64 hi] 2)).heap.size = W1.heap.size + 1 + 1 := by simp
  replace HO := Lib.hid (HO.out.below hb)
  replace HP := Lib.hid (HP.out.below hb)
  replace HF := Lib.hid (HF.out.below hb)
  replace HB := Lib.hid (below_step HB.out hb)
  replace HX := Lib.hid (HX.out.below hb)
  replace HE := Lib.hid (HE.out.below hb)
  replace HL := Lib.hid (HL.out.below hb)
  replace HH := Lib.hid (HH.out.below hb)
  have ho := one_new ((W1.alloc (.cells #[.int .i64 lo] 2)).alloc (.cells #[.int .i64 hi] 2)) (.int .i64 0) 2
  have hf := free_new ((W1.alloc (.cells #[.int .i64 lo] 2)).alloc (.cells #[.int .i64 hi] 2)) #[.int .i64 0] 2
  rw [hsz] at ho hf
  have HN := Lib.hid ho
  have HFN := Lib.hid hf
  clear ho hf hb hsz
  have hs3 : W1.heap.size + 3 ≤ (((W1.alloc (.cells #[.int .i64 lo] 2)).alloc (.cells #[.int .i64 hi] 2)).alloc (.cells #[.int .i64 0] 2)).heap.size := by simp
  replace HORD := Lib.hid (And.intro HORD.out hs3)
  clear hs3
  generalize (((W1.alloc (.cells #[.int .i64 lo] 2)).alloc (.cells #[.int .i64 hi] 2)).alloc (.cells #[.int .i64 0] 2)) = V at HO HP HF HB HX HE HL HH HN HFN HORD ⊢
  obtain ⟨c0, c1⟩ := HP.out
  have f0 := HF.out.2 0
  have f1 := HF.out.2 1
  go_wp2_with fail
  clear c0 c1 f0 f1
  obtain ⟨d0, d1⟩ := (HP.out.set0 (.func (.func 103) #[] #[.pointer (some ⟨w.heap.size, 0, none⟩), .pointer (some ⟨(W1.heap.size + 1), 0, none⟩), .pointer (some ⟨(W1.heap.size + 1 + 1), 0, none⟩)])).set1 (.func (.func 104) #[] #[.pointer (some ⟨(W1.heap.size + 1 + 1), 0, none⟩), .pointer (some ⟨W1.heap.size, 0, none⟩)])
  clear HP
  clear HF
  clear HE
  clear HX
  have t1 := Schema.Touch.set V (w.heap.size + 1) 0 (.func (.func 103) #[] #[.pointer (some ⟨w.heap.size, 0, none⟩), .pointer (some ⟨(W1.heap.size + 1), 0, none⟩), .pointer (some ⟨(W1.heap.size + 1 + 1), 0, none⟩)])
  have t2 := Schema.Touch.set (V.setCell ⟨w.heap.size + 1, 0, none⟩ (.func (.func 103) #[] #[.pointer (some ⟨w.heap.size, 0, none⟩), .pointer (some ⟨(W1.heap.size + 1), 0, none⟩), .pointer (some ⟨(W1.heap.size + 1 + 1), 0, none⟩)])) (w.heap.size + 1) 1 (.func (.func 104) #[] #[.pointer (some ⟨(W1.heap.size + 1 + 1), 0, none⟩), .pointer (some ⟨W1.heap.size, 0, none⟩)])
  have hord := HORD.out
  have HO1 := Lib.hid ((HO.out.touch t1 (by omega)).touch t2 (by omega))
  have HB1 := Lib.hid ((HB.out.setCell (p := ⟨w.heap.size + 1, 0, none⟩) (Nat.le_succ _) (.func (.func 103) #[] #[.pointer (some ⟨w.heap.size, 0, none⟩), .pointer (some ⟨(W1.heap.size + 1), 0, none⟩), .pointer (some ⟨(W1.heap.size + 1 + 1), 0, none⟩)])).setCell (p := ⟨w.heap.size + 1, 1, none⟩) (Nat.le_succ _) (.func (.func 104) #[] #[.pointer (some ⟨(W1.heap.size + 1 + 1), 0, none⟩), .pointer (some ⟨W1.heap.size, 0, none⟩)]))
  have HL1 := Lib.hid ((HL.out.touch t1 (by omega)).touch t2 (by omega))
  have HH1 := Lib.hid ((HH.out.touch t1 (by omega)).touch t2 (by omega))
  have HN1 := Lib.hid ((HN.out.touch t1 (by omega)).touch t2 (by omega))
  have HFN1 := Lib.hid ((HFN.out.touch t1 (by omega)).touch t2 (by omega))
  refine bodyPost_ret (v := .agg #[.func (.func 103) #[] #[.pointer (some ⟨w.heap.size, 0, none⟩), .pointer (some ⟨(W1.heap.size + 1), 0, none⟩), .pointer (some ⟨(W1.heap.size + 1 + 1), 0, none⟩)], .func (.func 104) #[] #[.pointer (some ⟨(W1.heap.size + 1 + 1), 0, none⟩), .pointer (some ⟨W1.heap.size, 0, none⟩)]]) (by simp [results, Tryz.results88, go_sem, d0, d1]) rfl ⟨_, _, _, _, rfl, ⟨HO1.out, HH1.out, HN1.out, HL1.out, HFN1.out, Nat.le_refl _, by omega, by omega, by omega, by omega⟩, HB1.out⟩

/-- what lies from top on stays, but bn -/
structure High (top bn : Nat) (Y w : World) : Prop where
  size : Y.heap.size ≤ w.heap.size
  block : ∀ k, k < Y.heap.size → top ≤ k → k ≠ bn → w.heap[k]? = Y.heap[k]?
theorem High.refl (top bn : Nat) (w : World) : High top bn w w := ⟨Nat.le_refl _, fun _ _ _ _ => rfl⟩
theorem High.below {top bn : Nat} {Y w w' : World} (h : High top bn Y w) (hb : Below w.heap.size w w') : High top bn Y w' := ⟨Nat.le_trans h.size hb.size, fun k hk h1 h2 => (hb.block k (Nat.lt_of_lt_of_le hk h.size)).trans (h.block k hk h1 h2)⟩
theorem High.touch {top bn lo hi : Nat} {Y w w' : World} (h : High top bn Y w) (t : Schema.Touch lo hi w w') (ho : hi ≤ top ∨ (lo = bn ∧ hi = bn + 1)) : High top bn Y w' := ⟨Nat.le_trans h.size t.size, fun k hk h1 h2 => (t.block k (Nat.lt_of_lt_of_le hk h.size) (by omega)).trans (h.block k hk h1 h2)⟩
/-- the next number -/
def nx (s : ByteArray) (i e : Nat) (h : Int) : Nat × Nat × Nat := shR s i e h.toNat
def Num1Res (bn bl g r rb top : Nat) (s : ByteArray) (a1 a2 a4 a5 : Value) (ns : List Int) (lo : Int) (w : World) (R : Nat × Nat × Nat) (z : Ending) (w' : World) : Prop := ∃ A2 c2, z = .returned (.tuple #[]) ∧ Rdg 0 r g rb w w' s R.2.1 R.2.2 a1 a2 (.slice A2 (ns.length + 1) c2) a4 a5 ∧ One w' bn (.int .i64 (R.1 : Int)) ∧ One w' bl (.int .i64 lo) ∧ OwnB w' rb w'.heap.size 2 (.slice A2 (ns.length + 1) c2) (nums (ns ++ [(R.1 : Int)])) ∧ High top bn w w'

set_option maxRecDepth 100000 in
set_option maxHeartbeats 1000000 in
theorem number1_any (bg bh bn bl g r rb top : Nat) (s : ByteArray) (i e : Nat) (a1 a2 a4 a5 : Value) (A : Option Addr) (cap : Nat) (ns : List Int) (lo hi' m : Int) (w : World) (hr : Rd w r s i e) (hi : i ≤ s.size) (hs : s.size ≤ 1000000000000) (hx : Six w g (.pointer (some ⟨r, 0, none⟩)) a1 a2 (.slice A ns.length cap) a4 a5) (hf : Free w g) (hn : OwnB w rb top 2 (.slice A ns.length cap) (nums ns)) (hl : ns.length ≤ 1000) (hc : Nums4 w top g bg bh bn bl lo hi' m) (h1 : r < g) (h2 : g < rb) (h3 : rb ≤ top) (hh : 0 ≤ hi' ∧ hi' ≤ 1125899906842624) :
    Calls Tryz.prog 103 #[.pointer (some ⟨bg, 0, none⟩), .pointer (some ⟨bh, 0, none⟩), .pointer (some ⟨bn, 0, none⟩)] w (Num1Res bn bl g r rb top s a1 a2 a4 a5 ns lo w (nx s i e hi')) := by
  have HR := Lib.hid hr
  have HX := Lib.hid hx
  have HF := Lib.hid hf
  have HN := Lib.hid hn
  have HO := Lib.hid hc.og
  have HH := Lib.hid hc.oh
  have HM := Lib.hid hc.on
  have HL := Lib.hid hc.ol
  have HFN := Lib.hid hc.fn
  have HFR := Lib.hid (Fr.refl r g rb w)
  have HHI := Lib.hid (High.refl top bn w)
  have HORD := Lib.hid (And.intro h1 (And.intro h2 (And.intro h3 (And.intro hc.l1 (And.intro (And.intro hc.l0 hc.l2) (And.intro hc.l3 (And.intro hc.l4 (And.intro hr.size (And.intro (cell_lt hc.og) (cell_lt hc.on))))))))))
  have HLL := Lib.hid hl
  obtain ⟨p1, p2⟩ := hh
  have hcv := conv64 hi' p1 p2
  have hmost := Wire.shR_most s i e hi'.toNat
  have hle := Wire.shR_le s i e hi'.toNat hi
  have HLE := Lib.hid hle
  have HNX := Lib.hid (show nx s i e hi' = shR s i e hi'.toNat from rfl)
  have HST := Lib.hid (fun W (hR : Rd W r s i e) => Wire.rShort_any r s i e hi'.toNat W hR hi hs)
  rw [HNX.out]
  generalize shR s i e hi'.toNat = R at HST hmost HLE ⊢
  obtain ⟨x, i1, e1⟩ := R
  simp only at HST hmost HLE ⊢
  have hwi := Wire.wrapI x (by omega)
  clear hr hx hf hn hc hl hle HNX
  go_enter Tryz.func103, Tryz.ntmps103
  go_upto_region 0 with (fail)
  have gd := below_drew w.heap.size w
  replace HR := Lib.hid (HR.out.below gd)
  replace HX := Lib.hid (HX.out.below gd)
  replace HF := Lib.hid (HF.out.below gd)
  replace HN := Lib.hid (HN.out.below gd)
  replace HO := Lib.hid (HO.out.below gd)
  replace HH := Lib.hid (HH.out.below gd)
  replace HM := Lib.hid (HM.out.below gd)
  replace HL := Lib.hid (HL.out.below gd)
  replace HFN := Lib.hid (HFN.out.below gd)
  replace HFR := Lib.hid (HFR.out.below gd)
  replace HHI := Lib.hid (HHI.out.below gd)
  replace HORD := Lib.hid (And.intro HORD.out gd.size)
  refine wp_region_held_drew (S := (fun w' => w'.cell? ⟨bg, 0, none⟩ = some (.pointer (some ⟨g, 0, none⟩)) ∧ w'.cell? ⟨g, 0, none⟩ = some (.pointer (some ⟨r, 0, none⟩)) ∧ w'.cell? ⟨bh, 0, none⟩ = some (.int .i64 hi'))) (by kernel_rfl) ⟨HO.out, HX.out.1, HH.out⟩ (fun hHeld => ?_)
  generalize w.drew = D0 at HR HX HF HN HO HH HM HL HFN HFR HHI HORD hHeld ⊢
  clear gd
  refine wpAnyH_take (i := 0) (oi := { dst := some 3, op := Go.Op.load 142 (Go.Operand.tmp 0), type := 142, pos := "codec.go:97", after := #[], guard := none }) (v := ?v1) rfl (by kernel_rfl) (by kernel_rfl) (by kernel_rfl) (fun _ _ _ h => h) (Or.inl ⟨by rfl, ?hy1⟩) (by assumption) ?rest1
  case hy1 => (intro w hSw; obtain ⟨s0, s1, s2⟩ := hSw; go_simp; try with_reducible rfl)
  try simp only [Act.put, List.setIfInBounds_toArray, List.set_cons_zero, List.set_cons_succ]
  refine wpAnyH_take (i := 1) (oi := { dst := some 4, op := Go.Op.nilCheck (Go.Operand.tmp 3), type := 0, pos := "codec.go:97", after := #[{ on := 0, ground := Go.Ground.data }], guard := none }) (v := ?v2) rfl (by kernel_rfl) (by kernel_rfl) (by kernel_rfl) (fun _ _ _ h => h) (Or.inl ⟨by rfl, ?hy2⟩) (by assumption) ?rest2
  case hy2 => (intro w hSw; obtain ⟨s0, s1, s2⟩ := hSw; go_simp; try with_reducible rfl)
  try simp only [Act.put, List.setIfInBounds_toArray, List.set_cons_zero, List.set_cons_succ]
  refine wpAnyH_take (i := 2) (oi := { dst := some 5, op := Go.Op.fieldAddr 120 (Go.Operand.tmp 4) 0, type := 0, pos := "codec.go:97", after := #[{ on := 1, ground := Go.Ground.data }], guard := none }) (v := ?v3) rfl (by kernel_rfl) (by kernel_rfl) (by kernel_rfl) (fun _ _ _ h => h) (Or.inl ⟨by rfl, ?hy3⟩) (by assumption) ?rest3
  case hy3 => (intro w hSw; obtain ⟨s0, s1, s2⟩ := hSw; go_simp; try with_reducible rfl)
  try simp only [Act.put, List.setIfInBounds_toArray, List.set_cons_zero, List.set_cons_succ]
  refine wpAnyH_take (i := 3) (oi := { dst := some 6, op := Go.Op.load 90 (Go.Operand.tmp 5), type := 90, pos := "codec.go:97", after := #[{ on := 2, ground := Go.Ground.data }], guard := none }) (v := ?v4) rfl (by kernel_rfl) (by kernel_rfl) (by kernel_rfl) (fun _ _ _ h => h) (Or.inl ⟨by rfl, ?hy4⟩) (by assumption) ?rest4
  case hy4 => (intro w hSw; obtain ⟨s0, s1, s2⟩ := hSw; go_simp; try with_reducible rfl)
  try simp only [Act.put, List.setIfInBounds_toArray, List.set_cons_zero, List.set_cons_succ]
  refine wpAnyH_take (i := 4) (oi := { dst := some 7, op := Go.Op.load 2 (Go.Operand.tmp 1), type := 2, pos := "codec.go:97", after := #[], guard := none }) (v := ?v5) rfl (by kernel_rfl) (by kernel_rfl) (by kernel_rfl) (fun _ _ _ h => h) (Or.inl ⟨by rfl, ?hy5⟩) (by assumption) ?rest5
  case hy5 => (intro w hSw; obtain ⟨s0, s1, s2⟩ := hSw; go_simp; try with_reducible rfl)
  try simp only [Act.put, List.setIfInBounds_toArray, List.set_cons_zero, List.set_cons_succ]
  refine wpAnyH_take (i := 5) (oi := { dst := some 8, op := Go.Op.convert 2 51 (Go.Operand.tmp 7), type := 51, pos := "codec.go:97", after := #[{ on := 4, ground := Go.Ground.data }], guard := none }) (v := ?v6) rfl (by kernel_rfl) (by kernel_rfl) (by kernel_rfl) (fun _ _ _ h => h) (Or.inl ⟨by rfl, ?hy6⟩) (by assumption) ?rest6
  case hy6 => (intro w hSw; obtain ⟨s0, s1, s2⟩ := hSw; go_simp; try with_reducible rfl)
  try simp only [Act.put, List.setIfInBounds_toArray, List.set_cons_zero, List.set_cons_succ]
  refine wpAnyH_ready (rs := [6]) (by kernel_rfl) (by simp) ?_
  refine (AllReadyH.cons (o := { dst := some 9, op := Go.Op.call { callee := Go.Callee.value (Go.Operand.func 84), args := #[Go.Operand.tmp 6, Go.Operand.tmp 8], argTypes := #[90, 51] }, type := 51, pos := "codec.go:97", after := #[{ on := 3, ground := Go.Ground.data }, { on := 5, ground := Go.Ground.data }], guard := none }) rfl (fun K hK => ?br7_6) AllReadyH.nil)
  case br7_6 =>
   go_simp
   go_at_call 84
   refine (HST.out D0 HR.out).mono ?_
   rintro z D1 ⟨rfl, hst⟩
   have ht := touch_step hst
   have hord := HORD.out
   replace HX := Lib.hid (HX.out.touch ht (by omega))
   replace HF := Lib.hid (HF.out.touch ht (by omega))
   replace HN := Lib.hid (HN.out.touch ht (by omega))
   replace HO := Lib.hid (HO.out.touch ht (by omega))
   replace HH := Lib.hid (HH.out.touch ht (by omega))
   replace HM := Lib.hid (HM.out.touch ht (by omega))
   replace HL := Lib.hid (HL.out.touch ht (by omega))
   replace HFN := Lib.hid (HFN.out.touch ht (by omega))
   replace HFR := Lib.hid (HFR.out.touch ht (by omega))
   replace HHI := Lib.hid (HHI.out.touch ht (by omega))
   clear hord
   replace HR := Lib.hid hst.1
   replace HORD := Lib.hid (And.intro HORD.out ht.size)
   clear ht hst
   refine hK.out _ _ ⟨HO.out, HX.out.1, HH.out⟩ (fun hHeld => ?_)
   clear hK K
   try simp only [Act.put, List.setIfInBounds_toArray, List.set_cons_zero, List.set_cons_succ]
   refine wpAnyH_take (i := 7) (oi := { dst := some 10, op := Go.Op.convert 51 2 (Go.Operand.tmp 9), type := 2, pos := "codec.go:97", after := #[{ on := 6, ground := Go.Ground.data }], guard := none }) (v := ?v8) rfl (by kernel_rfl) (by kernel_rfl) (by kernel_rfl) (fun _ _ _ h => h) (Or.inl ⟨by rfl, ?hy8⟩) (by assumption) ?rest8
   case hy8 => (intro w hSw; obtain ⟨s0, s1, s2⟩ := hSw; go_simp; try with_reducible rfl)
   try simp only [Act.put, List.setIfInBounds_toArray, List.set_cons_zero, List.set_cons_succ]
   refine wpAnyH_ready (rs := [8]) (by kernel_rfl) (by simp) ?_
   refine (AllReadyH.cons (o := { dst := none, op := Go.Op.store 2 (Go.Operand.tmp 2) (Go.Operand.tmp 10), type := 0, pos := "codec.go:97", after := #[{ on := 7, ground := Go.Ground.data }, { on := 6, ground := Go.Ground.chain }, { on := 0, ground := Go.Ground.phase }, { on := 1, ground := Go.Ground.phase }, { on := 2, ground := Go.Ground.phase }, { on := 3, ground := Go.Ground.phase }, { on := 4, ground := Go.Ground.phase }, { on := 5, ground := Go.Ground.phase }, { on := 6, ground := Go.Ground.phase }, { on := 7, ground := Go.Ground.phase }], guard := none }) rfl (fun K hK => ?br9_8) AllReadyH.nil)
   case br9_8 =>
    have c2 : D1.cell? ⟨bn, 0, none⟩ = some (.int .i64 m) := HM.out
    have f2 := HFN.out.2 0
    go_simp
    clear c2 f2
    have ht := Schema.Touch.set D1 bn 0 (.int .i64 (x : Int))
    have hx := HM.out.set (.int .i64 (x : Int))
    have hf := HFN.out.set bn 0 (.int .i64 (x : Int))
    have hord := HORD.out
    replace HR := Lib.hid (HR.out.touch ht (by omega))
    replace HX := Lib.hid (HX.out.touch ht (by omega))
    replace HF := Lib.hid (HF.out.touch ht (by omega))
    replace HN := Lib.hid (HN.out.touch ht (by omega))
    replace HO := Lib.hid (HO.out.touch ht (by omega))
    replace HH := Lib.hid (HH.out.touch ht (by omega))
    replace HL := Lib.hid (HL.out.touch ht (by omega))
    replace HFR := Lib.hid (HFR.out.touch ht (by omega))
    replace HHI := Lib.hid (HHI.out.touch ht (by omega))
    clear hord
    replace HORD := Lib.hid (And.intro HORD.out ht.size)
    replace HM := Lib.hid hx
    replace HFN := Lib.hid hf
    clear ht hx hf
    refine hK.out _ _ ⟨HO.out, HX.out.1, HH.out⟩ (fun hHeld => ?_)
    clear hK K
    generalize D1.setCell ⟨bn, 0, none⟩ (.int .i64 (x : Int)) = D2 at HR HX HF HN HO HH HM HL HFN HFR HHI HORD hHeld ⊢
    try simp only [Act.put, List.setIfInBounds_toArray, List.set_cons_zero, List.set_cons_succ]
    refine wpAnyH_done (by kernel_rfl) ?_ _
    clear hcv
    go_upto_region 1 with (fail)
    have gd := below_drew D2.heap.size D2
    replace HR := Lib.hid (HR.out.below gd)
    replace HX := Lib.hid (HX.out.below gd)
    replace HF := Lib.hid (HF.out.below gd)
    replace HN := Lib.hid (HN.out.below gd)
    replace HO := Lib.hid (HO.out.below gd)
    replace HH := Lib.hid (HH.out.below gd)
    replace HM := Lib.hid (HM.out.below gd)
    replace HL := Lib.hid (HL.out.below gd)
    replace HFN := Lib.hid (HFN.out.below gd)
    replace HFR := Lib.hid (HFR.out.below gd)
    replace HHI := Lib.hid (HHI.out.below gd)
    replace HORD := Lib.hid (And.intro HORD.out gd.size)
    refine wp_region_held_drew (S := (fun w' => w'.cell? ⟨bg, 0, none⟩ = some (.pointer (some ⟨g, 0, none⟩)) ∧ w'.cell? ⟨bn, 0, none⟩ = some (.int .i64 (x : Int)))) (by kernel_rfl) ⟨HO.out, HM.out⟩ (fun hHeld2 => ?_)
    generalize D2.drew = D3 at HR HX HF HN HO HH HM HL HFN HFR HHI HORD hHeld2 ⊢
    clear gd
    refine wpAnyH_take (i := 0) (oi := { dst := some 11, op := Go.Op.load 142 (Go.Operand.tmp 0), type := 142, pos := "codec.go:98", after := #[], guard := none }) (v := ?v10) rfl (by kernel_rfl) (by kernel_rfl) (by kernel_rfl) (fun _ _ _ h => h) (Or.inl ⟨by rfl, ?hy10⟩) (by assumption) ?rest10
    case hy10 => (intro w hSw; obtain ⟨s0, s1⟩ := hSw; go_simp; try with_reducible rfl)
    try simp only [Act.put, List.setIfInBounds_toArray, List.set_cons_zero, List.set_cons_succ]
    refine wpAnyH_take (i := 1) (oi := { dst := some 12, op := Go.Op.load 142 (Go.Operand.tmp 0), type := 142, pos := "codec.go:98", after := #[], guard := none }) (v := ?v11) rfl (by kernel_rfl) (by kernel_rfl) (by kernel_rfl) (fun _ _ _ h => h) (Or.inl ⟨by rfl, ?hy11⟩) (by assumption) ?rest11
    case hy11 => (intro w hSw; obtain ⟨s0, s1⟩ := hSw; go_simp; try with_reducible rfl)
    try simp only [Act.put, List.setIfInBounds_toArray, List.set_cons_zero, List.set_cons_succ]
    refine wpAnyH_take (i := 2) (oi := { dst := some 13, op := Go.Op.nilCheck (Go.Operand.tmp 12), type := 0, pos := "codec.go:98", after := #[{ on := 1, ground := Go.Ground.data }], guard := none }) (v := ?v12) rfl (by kernel_rfl) (by kernel_rfl) (by kernel_rfl) (fun _ _ _ h => h) (Or.inl ⟨by rfl, ?hy12⟩) (by assumption) ?rest12
    case hy12 => (intro w hSw; obtain ⟨s0, s1⟩ := hSw; go_simp; try with_reducible rfl)
    try simp only [Act.put, List.setIfInBounds_toArray, List.set_cons_zero, List.set_cons_succ]
    refine wpAnyH_take (i := 3) (oi := { dst := some 14, op := Go.Op.fieldAddr 120 (Go.Operand.tmp 13) 1, type := 0, pos := "codec.go:98", after := #[{ on := 2, ground := Go.Ground.data }], guard := none }) (v := ?v13) rfl (by kernel_rfl) (by kernel_rfl) (by kernel_rfl) (fun _ _ _ h => h) (Or.inl ⟨by rfl, ?hy13⟩) (by assumption) ?rest13
    case hy13 => (intro w hSw; obtain ⟨s0, s1⟩ := hSw; go_simp; try with_reducible rfl)
    try simp only [Act.put, List.setIfInBounds_toArray, List.set_cons_zero, List.set_cons_succ]
    refine wpAnyH_take (i := 4) (oi := { dst := some 15, op := Go.Op.fieldAddr 39 (Go.Operand.tmp 14) 2, type := 0, pos := "codec.go:98", after := #[{ on := 3, ground := Go.Ground.data }], guard := none }) (v := ?v14) rfl (by kernel_rfl) (by kernel_rfl) (by kernel_rfl) (fun _ _ _ h => h) (Or.inl ⟨by rfl, ?hy14⟩) (by assumption) ?rest14
    case hy14 => (intro w hSw; obtain ⟨s0, s1⟩ := hSw; go_simp; try with_reducible rfl)
    try simp only [Act.put, List.setIfInBounds_toArray, List.set_cons_zero, List.set_cons_succ]
    refine wpAnyH_take (i := 6) (oi := { dst := some 17, op := Go.Op.load 2 (Go.Operand.tmp 2), type := 2, pos := "codec.go:98", after := #[], guard := none }) (v := ?v15) rfl (by kernel_rfl) (by kernel_rfl) (by kernel_rfl) (fun _ _ _ h => h) (Or.inl ⟨by rfl, ?hy15⟩) (by assumption) ?rest15
    case hy15 => (intro w hSw; obtain ⟨s0, s1⟩ := hSw; go_simp; try with_reducible rfl)
    try simp only [Act.put, List.setIfInBounds_toArray, List.set_cons_zero, List.set_cons_succ]
    refine wpAnyH_ready (rs := [5, 7]) (by kernel_rfl) (by simp) ?_
    refine (AllReadyH.cons (o := { dst := some 16, op := Go.Op.load 36 (Go.Operand.tmp 15), type := 36, pos := "codec.go:98", after := #[{ on := 4, ground := Go.Ground.data }], guard := none }) rfl (fun K hK => ?br16_5) (AllReadyH.cons (o := { dst := some 18, op := Go.Op.buildSlice 36 1 #[(0, Go.Operand.tmp 17)], type := 36, pos := "codec.go:98", after := #[{ on := 6, ground := Go.Ground.data }], guard := none }) rfl (fun K hK => ?br16_7) AllReadyH.nil))
    case br16_5 =>
     have c3 := HX.out.2.2.2.1
     go_simp
     clear c3
     refine hK.out _ _ ⟨HO.out, HM.out⟩ (fun hHeld => ?_)
     clear hK K
     try simp only [Act.put, List.setIfInBounds_toArray, List.set_cons_zero, List.set_cons_succ]
     refine wpAnyH_ready (rs := [7]) (by kernel_rfl) (by simp) ?_
     refine (AllReadyH.cons (o := { dst := some 18, op := Go.Op.buildSlice 36 1 #[(0, Go.Operand.tmp 17)], type := 36, pos := "codec.go:98", after := #[{ on := 6, ground := Go.Ground.data }], guard := none }) rfl (fun K hK => ?br17_7) AllReadyH.nil)
     case br17_7 =>
      have hb := (Below.refl D3.heap.size D3).alloc (Nat.le_refl _) (.cells #[.int .i64 (x : Int)] 2)
      have hs1 : D3.heap.size + 1 ≤ (D3.alloc (.cells #[.int .i64 (x : Int)] 2)).heap.size := by simp
      replace HR := Lib.hid (HR.out.below hb)
      replace HX := Lib.hid (HX.out.below hb)
      replace HF := Lib.hid (HF.out.below hb)
      replace HN := Lib.hid (HN.out.below hb)
      replace HO := Lib.hid (HO.out.below hb)
      replace HH := Lib.hid (HH.out.below hb)
      replace HM := Lib.hid (HM.out.below hb)
      replace HL := Lib.hid (HL.out.below hb)
      replace HFN := Lib.hid (HFN.out.below hb)
      replace HFR := Lib.hid (HFR.out.below hb)
      replace HHI := Lib.hid (HHI.out.below hb)
      replace HORD := Lib.hid (And.intro HORD.out hs1)
      have HE1 := Lib.hid (vat_new D3 (.int .i64 (x : Int)) 2)
      go_simp
      refine hK.out _ _ ⟨HO.out, HM.out⟩ (fun hHeld => ?_)
      clear hK K hb hs1
      generalize hWs : D3.heap.size = q at HR HX HF HN HO HH HM HL HFN HFR HHI HE1 HORD ⊢
      clear hWs
      generalize D3.alloc (.cells #[.int .i64 (x : Int)] 2) = D4 at HR HX HF HN HO HH HM HL HFN HFR HHI HE1 HORD hHeld ⊢
      try simp only [Act.put, List.setIfInBounds_toArray, List.set_cons_zero, List.set_cons_succ]
      refine wpAnyH_ready (rs := [8]) (by kernel_rfl) (by simp) ?_
      refine (AllReadyH.cons (o := { dst := some 19, op := Go.Op.call { callee := Go.Callee.builtin Go.Builtin.append, args := #[Go.Operand.tmp 16, Go.Operand.tmp 18], argTypes := #[36, 36] }, type := 36, pos := "codec.go:98", after := #[{ on := 5, ground := Go.Ground.data }, { on := 7, ground := Go.Ground.data }], guard := none }) rfl (fun K hK => ?br18_8) AllReadyH.nil)
      case br18_8 =>
       refine step_append_one 36 2 (.int .i64 0) 8 Tryz.underlying36 infoN rfl (by decide) rfl (.tmp 16) (.tmp 18) rfl rb top _ (nums ns) rfl HN.out (some ⟨q, 0, none⟩) 1 (.int .i64 (x : Int)) rfl HE1.out rfl (by have := HLL.out; simp only [nums_len]; omega) (by have hord := HORD.out; omega) ?_
       intro v2 D5 hO ht
       obtain ⟨A2, c2, rfl, -⟩ := hO.own.vat
       clear HN
       clear HE1
       have hq : (nums ns ++ [Value.int .i64 (x : Int)]).length = ns.length + 1 := by simp [nums_len]
       rw [hq] at hO ⊢
       clear hq
       have hord := HORD.out
       replace HR := Lib.hid (HR.out.touch ht (by omega))
       replace HX := Lib.hid (HX.out.touch ht (by omega))
       replace HF := Lib.hid (HF.out.touch ht (by omega))
       replace HO := Lib.hid (HO.out.touch ht (by omega))
       replace HH := Lib.hid (HH.out.touch ht (by omega))
       replace HM := Lib.hid (HM.out.touch ht (by omega))
       replace HL := Lib.hid (HL.out.touch ht (by omega))
       replace HFN := Lib.hid (HFN.out.touch ht (by omega))
       replace HFR := Lib.hid (HFR.out.touch ht (by omega))
       replace HHI := Lib.hid (HHI.out.touch ht (by omega))
       clear hord
       replace HORD := Lib.hid (And.intro HORD.out ht.size)
       have HN := Lib.hid hO
       clear hO ht
       refine hK.out _ _ ⟨HO.out, HM.out⟩ (fun hHeld => ?_)
       clear hK K
       try simp only [Act.put, List.setIfInBounds_toArray, List.set_cons_zero, List.set_cons_succ]
       refine wpAnyH_take (i := 9) (oi := { dst := some 20, op := Go.Op.nilCheck (Go.Operand.tmp 11), type := 0, pos := "codec.go:98", after := #[{ on := 0, ground := Go.Ground.data }, { on := 0, ground := Go.Ground.phase }, { on := 1, ground := Go.Ground.phase }, { on := 2, ground := Go.Ground.phase }, { on := 3, ground := Go.Ground.phase }, { on := 4, ground := Go.Ground.phase }, { on := 5, ground := Go.Ground.phase }, { on := 6, ground := Go.Ground.phase }, { on := 7, ground := Go.Ground.phase }, { on := 8, ground := Go.Ground.phase }], guard := none }) (v := ?v19) rfl (by kernel_rfl) (by kernel_rfl) (by kernel_rfl) (fun _ _ _ h => h) (Or.inl ⟨by rfl, ?hy19⟩) (by assumption) ?rest19
       case hy19 => (intro w hSw; obtain ⟨s0, s1⟩ := hSw; go_simp; try with_reducible rfl)
       try simp only [Act.put, List.setIfInBounds_toArray, List.set_cons_zero, List.set_cons_succ]
       refine wpAnyH_take (i := 10) (oi := { dst := some 21, op := Go.Op.fieldAddr 120 (Go.Operand.tmp 20) 1, type := 0, pos := "codec.go:98", after := #[{ on := 9, ground := Go.Ground.data }, { on := 0, ground := Go.Ground.phase }, { on := 1, ground := Go.Ground.phase }, { on := 2, ground := Go.Ground.phase }, { on := 3, ground := Go.Ground.phase }, { on := 4, ground := Go.Ground.phase }, { on := 5, ground := Go.Ground.phase }, { on := 6, ground := Go.Ground.phase }, { on := 7, ground := Go.Ground.phase }, { on := 8, ground := Go.Ground.phase }], guard := none }) (v := ?v20) rfl (by kernel_rfl) (by kernel_rfl) (by kernel_rfl) (fun _ _ _ h => h) (Or.inl ⟨by rfl, ?hy20⟩) (by assumption) ?rest20
       case hy20 => (intro w hSw; obtain ⟨s0, s1⟩ := hSw; go_simp; try with_reducible rfl)
       try simp only [Act.put, List.setIfInBounds_toArray, List.set_cons_zero, List.set_cons_succ]
       refine wpAnyH_take (i := 11) (oi := { dst := some 22, op := Go.Op.fieldAddr 39 (Go.Operand.tmp 21) 2, type := 0, pos := "codec.go:98", after := #[{ on := 10, ground := Go.Ground.data }, { on := 0, ground := Go.Ground.phase }, { on := 1, ground := Go.Ground.phase }, { on := 2, ground := Go.Ground.phase }, { on := 3, ground := Go.Ground.phase }, { on := 4, ground := Go.Ground.phase }, { on := 5, ground := Go.Ground.phase }, { on := 6, ground := Go.Ground.phase }, { on := 7, ground := Go.Ground.phase }, { on := 8, ground := Go.Ground.phase }], guard := none }) (v := ?v21) rfl (by kernel_rfl) (by kernel_rfl) (by kernel_rfl) (fun _ _ _ h => h) (Or.inl ⟨by rfl, ?hy21⟩) (by assumption) ?rest21
       case hy21 => (intro w hSw; obtain ⟨s0, s1⟩ := hSw; go_simp; try with_reducible rfl)
       try simp only [Act.put, List.setIfInBounds_toArray, List.set_cons_zero, List.set_cons_succ]
       refine wpAnyH_ready (rs := [12]) (by kernel_rfl) (by simp) ?_
       refine (AllReadyH.cons (o := { dst := none, op := Go.Op.store 36 (Go.Operand.tmp 22) (Go.Operand.tmp 19), type := 0, pos := "codec.go:98", after := #[{ on := 11, ground := Go.Ground.data }, { on := 8, ground := Go.Ground.data }, { on := 8, ground := Go.Ground.chain }, { on := 0, ground := Go.Ground.phase }, { on := 1, ground := Go.Ground.phase }, { on := 2, ground := Go.Ground.phase }, { on := 3, ground := Go.Ground.phase }, { on := 4, ground := Go.Ground.phase }, { on := 5, ground := Go.Ground.phase }, { on := 6, ground := Go.Ground.phase }, { on := 7, ground := Go.Ground.phase }, { on := 8, ground := Go.Ground.phase }], guard := none }) rfl (fun K hK => ?br22_12) AllReadyH.nil)
       case br22_12 =>
        have c3 := HX.out.2.2.2.1
        have f3 := HF.out.2 3
        go_simp
        clear c3 f3
        have ht := Schema.Touch.set D5 g 3 (.slice A2 (ns.length + 1) c2)
        have hx := HX.out.set3 (.slice A2 (ns.length + 1) c2)
        have hf := HF.out.set g 3 (.slice A2 (ns.length + 1) c2)
        have hsz : D5.heap.size = (D5.setCell ⟨g, 3, none⟩ (.slice A2 (ns.length + 1) c2)).heap.size := by simp
        have hord := HORD.out
        replace HR := Lib.hid (HR.out.touch ht (by omega))
        replace HO := Lib.hid (HO.out.touch ht (by omega))
        replace HH := Lib.hid (HH.out.touch ht (by omega))
        replace HM := Lib.hid (HM.out.touch ht (by omega))
        replace HL := Lib.hid (HL.out.touch ht (by omega))
        replace HFN := Lib.hid (HFN.out.touch ht (by omega))
        replace HFR := Lib.hid (HFR.out.touch ht (by omega))
        replace HHI := Lib.hid (HHI.out.touch ht (by omega))
        replace HN := Lib.hid (HN.out.touch ht (by omega))
        clear hord
        replace HX := Lib.hid hx
        replace HF := Lib.hid hf
        rw [hsz] at HN
        clear ht hx hf hsz
        refine hK.out _ _ ⟨HO.out, HM.out⟩ (fun hHeld => ?_)
        clear hK K
        generalize D5.setCell ⟨g, 3, none⟩ (.slice A2 (ns.length + 1) c2) = D6 at HR HX HF HO HH HM HL HFN HFR HHI HN HORD hHeld ⊢
        try simp only [Act.put, List.setIfInBounds_toArray, List.set_cons_zero, List.set_cons_succ]
        refine wpAnyH_done (by kernel_rfl) ?_ _
        go_wp2_with fail
        go_end0
        refine ⟨A2, c2, rfl, ⟨HR.out, HX.out, HF.out, HFR.out⟩, HM.out, HL.out, ?_, HHI.out⟩
        have h := HN.out
        simpa [nums] using h
    case br16_7 =>
     have hb := (Below.refl D3.heap.size D3).alloc (Nat.le_refl _) (.cells #[.int .i64 (x : Int)] 2)
     have hs1 : D3.heap.size + 1 ≤ (D3.alloc (.cells #[.int .i64 (x : Int)] 2)).heap.size := by simp
     replace HR := Lib.hid (HR.out.below hb)
     replace HX := Lib.hid (HX.out.below hb)
     replace HF := Lib.hid (HF.out.below hb)
     replace HN := Lib.hid (HN.out.below hb)
     replace HO := Lib.hid (HO.out.below hb)
     replace HH := Lib.hid (HH.out.below hb)
     replace HM := Lib.hid (HM.out.below hb)
     replace HL := Lib.hid (HL.out.below hb)
     replace HFN := Lib.hid (HFN.out.below hb)
     replace HFR := Lib.hid (HFR.out.below hb)
     replace HHI := Lib.hid (HHI.out.below hb)
     replace HORD := Lib.hid (And.intro HORD.out hs1)
     have HE1 := Lib.hid (vat_new D3 (.int .i64 (x : Int)) 2)
     go_simp
     refine hK.out _ _ ⟨HO.out, HM.out⟩ (fun hHeld => ?_)
     clear hK K hb hs1
     generalize hWs : D3.heap.size = q at HR HX HF HN HO HH HM HL HFN HFR HHI HE1 HORD ⊢
     clear hWs
     generalize D3.alloc (.cells #[.int .i64 (x : Int)] 2) = D4 at HR HX HF HN HO HH HM HL HFN HFR HHI HE1 HORD hHeld ⊢
     try simp only [Act.put, List.setIfInBounds_toArray, List.set_cons_zero, List.set_cons_succ]
     refine wpAnyH_ready (rs := [5]) (by kernel_rfl) (by simp) ?_
     refine (AllReadyH.cons (o := { dst := some 16, op := Go.Op.load 36 (Go.Operand.tmp 15), type := 36, pos := "codec.go:98", after := #[{ on := 4, ground := Go.Ground.data }], guard := none }) rfl (fun K hK => ?br23_5) AllReadyH.nil)
     case br23_5 =>
      have c3 := HX.out.2.2.2.1
      go_simp
      clear c3
      refine hK.out _ _ ⟨HO.out, HM.out⟩ (fun hHeld => ?_)
      clear hK K
      try simp only [Act.put, List.setIfInBounds_toArray, List.set_cons_zero, List.set_cons_succ]
      refine wpAnyH_ready (rs := [8]) (by kernel_rfl) (by simp) ?_
      refine (AllReadyH.cons (o := { dst := some 19, op := Go.Op.call { callee := Go.Callee.builtin Go.Builtin.append, args := #[Go.Operand.tmp 16, Go.Operand.tmp 18], argTypes := #[36, 36] }, type := 36, pos := "codec.go:98", after := #[{ on := 5, ground := Go.Ground.data }, { on := 7, ground := Go.Ground.data }], guard := none }) rfl (fun K hK => ?br24_8) AllReadyH.nil)
      case br24_8 =>
       refine step_append_one 36 2 (.int .i64 0) 8 Tryz.underlying36 infoN rfl (by decide) rfl (.tmp 16) (.tmp 18) rfl rb top _ (nums ns) rfl HN.out (some ⟨q, 0, none⟩) 1 (.int .i64 (x : Int)) rfl HE1.out rfl (by have := HLL.out; simp only [nums_len]; omega) (by have hord := HORD.out; omega) ?_
       intro v2 D5 hO ht
       obtain ⟨A2, c2, rfl, -⟩ := hO.own.vat
       clear HN
       clear HE1
       have hq : (nums ns ++ [Value.int .i64 (x : Int)]).length = ns.length + 1 := by simp [nums_len]
       rw [hq] at hO ⊢
       clear hq
       have hord := HORD.out
       replace HR := Lib.hid (HR.out.touch ht (by omega))
       replace HX := Lib.hid (HX.out.touch ht (by omega))
       replace HF := Lib.hid (HF.out.touch ht (by omega))
       replace HO := Lib.hid (HO.out.touch ht (by omega))
       replace HH := Lib.hid (HH.out.touch ht (by omega))
       replace HM := Lib.hid (HM.out.touch ht (by omega))
       replace HL := Lib.hid (HL.out.touch ht (by omega))
       replace HFN := Lib.hid (HFN.out.touch ht (by omega))
       replace HFR := Lib.hid (HFR.out.touch ht (by omega))
       replace HHI := Lib.hid (HHI.out.touch ht (by omega))
       clear hord
       replace HORD := Lib.hid (And.intro HORD.out ht.size)
       have HN := Lib.hid hO
       clear hO ht
       refine hK.out _ _ ⟨HO.out, HM.out⟩ (fun hHeld => ?_)
       clear hK K
       try simp only [Act.put, List.setIfInBounds_toArray, List.set_cons_zero, List.set_cons_succ]
       refine wpAnyH_take (i := 9) (oi := { dst := some 20, op := Go.Op.nilCheck (Go.Operand.tmp 11), type := 0, pos := "codec.go:98", after := #[{ on := 0, ground := Go.Ground.data }, { on := 0, ground := Go.Ground.phase }, { on := 1, ground := Go.Ground.phase }, { on := 2, ground := Go.Ground.phase }, { on := 3, ground := Go.Ground.phase }, { on := 4, ground := Go.Ground.phase }, { on := 5, ground := Go.Ground.phase }, { on := 6, ground := Go.Ground.phase }, { on := 7, ground := Go.Ground.phase }, { on := 8, ground := Go.Ground.phase }], guard := none }) (v := ?v25) rfl (by kernel_rfl) (by kernel_rfl) (by kernel_rfl) (fun _ _ _ h => h) (Or.inl ⟨by rfl, ?hy25⟩) (by assumption) ?rest25
       case hy25 => (intro w hSw; obtain ⟨s0, s1⟩ := hSw; go_simp; try with_reducible rfl)
       try simp only [Act.put, List.setIfInBounds_toArray, List.set_cons_zero, List.set_cons_succ]
       refine wpAnyH_take (i := 10) (oi := { dst := some 21, op := Go.Op.fieldAddr 120 (Go.Operand.tmp 20) 1, type := 0, pos := "codec.go:98", after := #[{ on := 9, ground := Go.Ground.data }, { on := 0, ground := Go.Ground.phase }, { on := 1, ground := Go.Ground.phase }, { on := 2, ground := Go.Ground.phase }, { on := 3, ground := Go.Ground.phase }, { on := 4, ground := Go.Ground.phase }, { on := 5, ground := Go.Ground.phase }, { on := 6, ground := Go.Ground.phase }, { on := 7, ground := Go.Ground.phase }, { on := 8, ground := Go.Ground.phase }], guard := none }) (v := ?v26) rfl (by kernel_rfl) (by kernel_rfl) (by kernel_rfl) (fun _ _ _ h => h) (Or.inl ⟨by rfl, ?hy26⟩) (by assumption) ?rest26
       case hy26 => (intro w hSw; obtain ⟨s0, s1⟩ := hSw; go_simp; try with_reducible rfl)
       try simp only [Act.put, List.setIfInBounds_toArray, List.set_cons_zero, List.set_cons_succ]
       refine wpAnyH_take (i := 11) (oi := { dst := some 22, op := Go.Op.fieldAddr 39 (Go.Operand.tmp 21) 2, type := 0, pos := "codec.go:98", after := #[{ on := 10, ground := Go.Ground.data }, { on := 0, ground := Go.Ground.phase }, { on := 1, ground := Go.Ground.phase }, { on := 2, ground := Go.Ground.phase }, { on := 3, ground := Go.Ground.phase }, { on := 4, ground := Go.Ground.phase }, { on := 5, ground := Go.Ground.phase }, { on := 6, ground := Go.Ground.phase }, { on := 7, ground := Go.Ground.phase }, { on := 8, ground := Go.Ground.phase }], guard := none }) (v := ?v27) rfl (by kernel_rfl) (by kernel_rfl) (by kernel_rfl) (fun _ _ _ h => h) (Or.inl ⟨by rfl, ?hy27⟩) (by assumption) ?rest27
       case hy27 => (intro w hSw; obtain ⟨s0, s1⟩ := hSw; go_simp; try with_reducible rfl)
       try simp only [Act.put, List.setIfInBounds_toArray, List.set_cons_zero, List.set_cons_succ]
       refine wpAnyH_ready (rs := [12]) (by kernel_rfl) (by simp) ?_
       refine (AllReadyH.cons (o := { dst := none, op := Go.Op.store 36 (Go.Operand.tmp 22) (Go.Operand.tmp 19), type := 0, pos := "codec.go:98", after := #[{ on := 11, ground := Go.Ground.data }, { on := 8, ground := Go.Ground.data }, { on := 8, ground := Go.Ground.chain }, { on := 0, ground := Go.Ground.phase }, { on := 1, ground := Go.Ground.phase }, { on := 2, ground := Go.Ground.phase }, { on := 3, ground := Go.Ground.phase }, { on := 4, ground := Go.Ground.phase }, { on := 5, ground := Go.Ground.phase }, { on := 6, ground := Go.Ground.phase }, { on := 7, ground := Go.Ground.phase }, { on := 8, ground := Go.Ground.phase }], guard := none }) rfl (fun K hK => ?br28_12) AllReadyH.nil)
       case br28_12 =>
        have c3 := HX.out.2.2.2.1
        have f3 := HF.out.2 3
        go_simp
        clear c3 f3
        have ht := Schema.Touch.set D5 g 3 (.slice A2 (ns.length + 1) c2)
        have hx := HX.out.set3 (.slice A2 (ns.length + 1) c2)
        have hf := HF.out.set g 3 (.slice A2 (ns.length + 1) c2)
        have hsz : D5.heap.size = (D5.setCell ⟨g, 3, none⟩ (.slice A2 (ns.length + 1) c2)).heap.size := by simp
        have hord := HORD.out
        replace HR := Lib.hid (HR.out.touch ht (by omega))
        replace HO := Lib.hid (HO.out.touch ht (by omega))
        replace HH := Lib.hid (HH.out.touch ht (by omega))
        replace HM := Lib.hid (HM.out.touch ht (by omega))
        replace HL := Lib.hid (HL.out.touch ht (by omega))
        replace HFN := Lib.hid (HFN.out.touch ht (by omega))
        replace HFR := Lib.hid (HFR.out.touch ht (by omega))
        replace HHI := Lib.hid (HHI.out.touch ht (by omega))
        replace HN := Lib.hid (HN.out.touch ht (by omega))
        clear hord
        replace HX := Lib.hid hx
        replace HF := Lib.hid hf
        rw [hsz] at HN
        clear ht hx hf hsz
        refine hK.out _ _ ⟨HO.out, HM.out⟩ (fun hHeld => ?_)
        clear hK K
        generalize D5.setCell ⟨g, 3, none⟩ (.slice A2 (ns.length + 1) c2) = D6 at HR HX HF HO HH HM HL HFN HFR HHI HN HORD hHeld ⊢
        try simp only [Act.put, List.setIfInBounds_toArray, List.set_cons_zero, List.set_cons_succ]
        refine wpAnyH_done (by kernel_rfl) ?_ _
        go_wp2_with fail
        go_end0
        refine ⟨A2, c2, rfl, ⟨HR.out, HX.out, HF.out, HFR.out⟩, HM.out, HL.out, ?_, HHI.out⟩
        have h := HN.out
        simpa [nums] using h

theorem number2_any (bn bl : Nat) (lo x : Int) (w : World) (h1 : One w bn (.int .i64 x)) (h2 : One w bl (.int .i64 lo)) :
    Calls Tryz.prog 104 #[.pointer (some ⟨bn, 0, none⟩), .pointer (some ⟨bl, 0, none⟩)] w fun z w' => z = .returned (.bool (decide (lo ≤ x))) ∧ w = w' := by
  have c1 : w.cell? ⟨bn, 0, none⟩ = some (.int .i64 x) := h1
  have c2 : w.cell? ⟨bl, 0, none⟩ = some (.int .i64 lo) := h2
  clear h1 h2
  go_enter Tryz.func104, Tryz.ntmps104
  go_wp2
  go_ret
  exact ⟨rfl, rfl⟩
/-- what is wrong behind a number -/
def wrN (R : Nat × Nat × Nat) (lo : Int) : Nat := if R.2.2 = 0 then (if decide (lo ≤ (R.1 : Int)) then 0 else 4) else R.2.2
def ReadNRes (g r rb : Nat) (s : ByteArray) (a1 a2 a4 : Value) (ns : List Int) (lo : Int) (w : World) (R : Nat × Nat × Nat) (z : Ending) (w' : World) : Prop := ∃ A2 c2, z = .returned (.tuple #[]) ∧ Rdg 0 r g rb w w' s R.2.1 R.2.2 a1 a2 (.slice A2 (ns.length + 1) c2) a4 (.int .i64 (wrN R lo : Int)) ∧ OwnB w' rb w'.heap.size 2 (.slice A2 (ns.length + 1) c2) (nums (ns ++ [(R.1 : Int)]))

set_option maxRecDepth 100000 in
set_option maxHeartbeats 1000000 in
theorem readN_any (bg bh bn bl g r rb top : Nat) (s : ByteArray) (i e : Nat) (a1 a2 a4 a5 : Value) (A : Option Addr) (cap : Nat) (ns : List Int) (lo hi' m : Int) (w : World) (hr : Rd w r s i e) (hi : i ≤ s.size) (hs : s.size ≤ 1000000000000) (hx : Six w g (.pointer (some ⟨r, 0, none⟩)) a1 a2 (.slice A ns.length cap) a4 a5) (hf : Free w g) (hn : OwnB w rb top 2 (.slice A ns.length cap) (nums ns)) (hl : ns.length ≤ 1000) (hc : Nums4 w top g bg bh bn bl lo hi' m) (h1 : r < g) (h2 : g < rb) (h3 : rb ≤ top) (hh : 0 ≤ hi' ∧ hi' ≤ 1125899906842624) (h0 : 2 ≤ r) (h5 : a5 = .int .i64 0) :
    Calls Tryz.prog 85 #[.pointer (some ⟨g, 0, none⟩), .agg #[.func (.func 103) #[] #[.pointer (some ⟨bg, 0, none⟩), .pointer (some ⟨bh, 0, none⟩), .pointer (some ⟨bn, 0, none⟩)], .func (.func 104) #[] #[.pointer (some ⟨bn, 0, none⟩), .pointer (some ⟨bl, 0, none⟩)]]] w (ReadNRes g r rb s a1 a2 a4 ns lo w (nx s i e hi')) := by
  subst h5
  have HC1 := Lib.hid (fun W (q1 : Rd W r s i e) q2 q3 q4 q5 => number1_any bg bh bn bl g r rb top s i e a1 a2 a4 (.int .i64 0) A cap ns lo hi' m W q1 hi hs q2 q3 q4 hl q5 h1 h2 h3 hh)
  generalize nx s i e hi' = R at HC1 ⊢
  obtain ⟨x, i1, e1⟩ := R
  have hb := (Below.refl w.heap.size w).alloc (Nat.le_refl _) (.cells #[.func (.func 103) #[] #[.pointer (some ⟨bg, 0, none⟩), .pointer (some ⟨bh, 0, none⟩), .pointer (some ⟨bn, 0, none⟩)], .func (.func 104) #[] #[.pointer (some ⟨bn, 0, none⟩), .pointer (some ⟨bl, 0, none⟩)]] 123)
  have hs1 : w.heap.size + 1 ≤ (w.alloc (.cells #[.func (.func 103) #[] #[.pointer (some ⟨bg, 0, none⟩), .pointer (some ⟨bh, 0, none⟩), .pointer (some ⟨bn, 0, none⟩)], .func (.func 104) #[] #[.pointer (some ⟨bn, 0, none⟩), .pointer (some ⟨bl, 0, none⟩)]] 123)).heap.size := by simp
  have HR := Lib.hid (hr.below hb)
  have HX := Lib.hid (hx.below hb)
  have HF := Lib.hid (hf.below hb)
  have HN := Lib.hid (hn.below hb)
  have HC := Lib.hid (show Nums4 _ top g bg bh bn bl lo hi' m from { hc with og := hc.og.below hb, oh := hc.oh.below hb, on := hc.on.below hb, ol := hc.ol.below hb, fn := hc.fn.below hb })
  have HFR := Lib.hid ((Fr.refl r g rb w).below hb)
  have HT := Lib.hid (two_new w (.func (.func 103) #[] #[.pointer (some ⟨bg, 0, none⟩), .pointer (some ⟨bh, 0, none⟩), .pointer (some ⟨bn, 0, none⟩)]) (.func (.func 104) #[] #[.pointer (some ⟨bn, 0, none⟩), .pointer (some ⟨bl, 0, none⟩)]) 123)
  have HLL := Lib.hid hl
  have HHH := Lib.hid hh
  have HORD := Lib.hid (And.intro h0 (And.intro h1 (And.intro h2 (And.intro h3 (And.intro hc.l1 (And.intro (And.intro hc.l0 hc.l2) (And.intro hc.l3 (And.intro hc.l4 (And.intro hr.size (And.intro (cell_lt hc.on) hs1))))))))))
  clear hb hs1 hr hx hf hn hc hl hh
  go_enter Tryz.func85, Tryz.ntmps85
  go_upto_region 1 with (fail)
  generalize w.alloc (.cells #[.func (.func 103) #[] #[.pointer (some ⟨bg, 0, none⟩), .pointer (some ⟨bh, 0, none⟩), .pointer (some ⟨bn, 0, none⟩)], .func (.func 104) #[] #[.pointer (some ⟨bn, 0, none⟩), .pointer (some ⟨bl, 0, none⟩)]] 123) = W0 at HR HX HF HT HN HC HFR HORD ⊢
  obtain ⟨x0, x1, x2, x3, x4, x5⟩ := HX.out
  obtain ⟨t0, t1⟩ := HT.out
  go_wp2_with fail
  clear x0 x1 x2 x3 x4 x5 t0 t1
  refine (HC1.out W0 HR.out HX.out HF.out HN.out HC.out).mono ?_
  rintro z W1 ⟨A2, c2, rfl, hg, hm, hl2, hn2, hhi⟩
  simp only at hg hm hn2
  have hord := HORD.out
  have HFR1 := Lib.hid (HFR.out.trans hg.fr)
  have HT1 := Lib.hid (show Two W1 w.heap.size _ _ from ⟨(World.cell?_of_block (hhi.block w.heap.size (by omega) (by omega) (by omega))).trans HT.out.1, (World.cell?_of_block (hhi.block w.heap.size (by omega) (by omega) (by omega))).trans HT.out.2⟩)
  clear hord
  clear HT HFR HR HX HF HN HC hhi
  have HT := HT1
  have HFR := HFR1
  have HR := Lib.hid hg.rd
  have HX := Lib.hid hg.six
  have HF := Lib.hid hg.free
  have HM := Lib.hid hm
  have HL := Lib.hid hl2
  have HN := Lib.hid hn2
  clear HT1 HFR1 hm hl2 hn2
  replace HORD := Lib.hid (And.intro HORD.out hg.fr.size)
  clear hg
  obtain ⟨x0, x1, x2, x3, x4, x5⟩ := HX.out
  have f5 := HF.out.2 5
  go_wp2_with fail
  clear x0 x1 x2 x3 x4 x5 f5
  refine (err_any r s i1 e1 W1 HR.out).mono ?_
  rintro z z1 ⟨rfl, nq, rfl⟩
  have hb := below_dn W1.heap.size W1 nq
  replace HR := Lib.hid (HR.out.below hb)
  replace HX := Lib.hid (HX.out.below hb)
  replace HF := Lib.hid (HF.out.below hb)
  replace HT := Lib.hid (HT.out.below hb)
  replace HFR := Lib.hid (HFR.out.below hb)
  replace HM := Lib.hid (HM.out.below hb)
  replace HL := Lib.hid (HL.out.below hb)
  replace HN := Lib.hid (HN.out.below hb)
  clear hb
  generalize W1.drewN nq = W2 at HR HX HF HT HFR HM HL HN ⊢
  obtain ⟨x0, x1, x2, x3, x4, x5⟩ := HX.out
  obtain ⟨t0, t1⟩ := HT.out
  have f5 := HF.out.2 5
  have HWD := Lib.hid (show wrN (x, i1, e1) lo = if e1 = 0 then (if decide (lo ≤ (x : Int)) then 0 else 4) else e1 from rfl)
  by_cases hE : e1 = 0
  · subst hE
    go_upto_region 4 with (fail)
    clear x0 x1 x2 x3 x4 x5 t0 t1 f5
    have ht := Schema.Touch.set W2 g 5 (.int .i64 0)
    have hx := HX.out.set5 (.int .i64 0)
    have hf := HF.out.set g 5 (.int .i64 0)
    have hord := HORD.out
    replace HR := Lib.hid (HR.out.touch ht (by omega))
    replace HT := Lib.hid (HT.out.touch ht (by omega))
    replace HFR := Lib.hid (HFR.out.touch ht (by omega))
    replace HM := Lib.hid (HM.out.touch ht (by omega))
    replace HL := Lib.hid (HL.out.touch ht (by omega))
    replace HN := Lib.hid (HN.out.touch ht (by omega))
    clear hord
    replace HX := Lib.hid hx
    replace HF := Lib.hid hf
    clear ht hx hf
    generalize W2.setCell ⟨g, 5, none⟩ (.int .i64 0) = W3 at HR HX HF HT HFR HM HL HN ⊢
    obtain ⟨x0, x1, x2, x3, x4, x5⟩ := HX.out
    obtain ⟨t0, t1⟩ := HT.out
    have f5 := HF.out.2 5
    go_wp2_with fail
    clear x0 x1 x2 x3 x4 x5 t0 t1 f5
    refine (number2_any bn bl lo x W3 HM.out HL.out).mono ?_
    rintro z z1 ⟨rfl, rfl⟩
    cases hm : decide (lo ≤ (x : Int)) with
    | true =>
      have HD := Lib.hid hm
      clear hm
      go_wp2_with fail
      go_end0
      have hw : wrN (x, i1, 0) lo = 0 := by rw [HWD.out, HD.out]; rfl
      refine ⟨A2, c2, rfl, ⟨HR.out, by rw [hw]; exact HX.out, HF.out, HFR.out⟩, ?_⟩
      have h := HN.out
      have hord := HORD.out
      rcases h with ⟨h1, h2⟩ | h
      · exact Or.inl ⟨h1, fun b hb => (World.ownsRow.lt h1 b hb).2⟩
      · exact Or.inr h
    | false =>
      have HD := Lib.hid hm
      clear hm
      obtain ⟨x0, x1, x2, x3, x4, x5⟩ := HX.out
      have f5 := HF.out.2 5
      go_wp2_with fail
      clear x0 x1 x2 x3 x4 x5 f5
      have ht := Schema.Touch.set W3 g 5 (.int .i64 4)
      have hx := HX.out.set5 (.int .i64 4)
      have hf := HF.out.set g 5 (.int .i64 4)
      have hord := HORD.out
      replace HR := Lib.hid (HR.out.touch ht (by omega))
      replace HT := Lib.hid (HT.out.touch ht (by omega))
      replace HFR := Lib.hid (HFR.out.touch ht (by omega))
      replace HM := Lib.hid (HM.out.touch ht (by omega))
      replace HL := Lib.hid (HL.out.touch ht (by omega))
      replace HN := Lib.hid (HN.out.touch ht (by omega))
      clear hord
      replace HX := Lib.hid hx
      replace HF := Lib.hid hf
      clear ht hx hf
      generalize W3.setCell ⟨g, 5, none⟩ (.int .i64 4) = W4 at HR HX HF HT HFR HM HL HN ⊢
      go_end0
      have hw : wrN (x, i1, 0) lo = 4 := by rw [HWD.out, HD.out]; rfl
      refine ⟨A2, c2, rfl, ⟨HR.out, by rw [hw]; exact HX.out, HF.out, HFR.out⟩, ?_⟩
      have h := HN.out
      have hord := HORD.out
      rcases h with ⟨h1, h2⟩ | h
      · exact Or.inl ⟨h1, fun b hb => (World.ownsRow.lt h1 b hb).2⟩
      · exact Or.inr h
  · have hE1 : ((e1 : Int) == 0) = false := beq_eq_false_iff_ne.2 (by omega)
    have hE2 : (e1 == 0) = false := beq_eq_false_iff_ne.2 hE
    have HEE := Lib.hid hE
    clear hE
    go_upto_region 4 with (fail)
    clear x0 x1 x2 x3 x4 x5 t0 t1 f5
    have ht := Schema.Touch.set W2 g 5 (.int .i64 (e1 : Int))
    have hx := HX.out.set5 (.int .i64 (e1 : Int))
    have hf := HF.out.set g 5 (.int .i64 (e1 : Int))
    have hord := HORD.out
    replace HR := Lib.hid (HR.out.touch ht (by omega))
    replace HT := Lib.hid (HT.out.touch ht (by omega))
    replace HFR := Lib.hid (HFR.out.touch ht (by omega))
    replace HM := Lib.hid (HM.out.touch ht (by omega))
    replace HL := Lib.hid (HL.out.touch ht (by omega))
    replace HN := Lib.hid (HN.out.touch ht (by omega))
    clear hord
    replace HX := Lib.hid hx
    replace HF := Lib.hid hf
    clear ht hx hf
    generalize W2.setCell ⟨g, 5, none⟩ (.int .i64 (e1 : Int)) = W3 at HR HX HF HT HFR HM HL HN ⊢
    obtain ⟨x0, x1, x2, x3, x4, x5⟩ := HX.out
    go_wp2_with fail
    clear x0 x1 x2 x3 x4 x5
    go_end0
    have hw : wrN (x, i1, e1) lo = e1 := by rw [HWD.out, if_neg HEE.out]
    refine ⟨A2, c2, rfl, ⟨HR.out, by rw [hw]; exact HX.out, HF.out, HFR.out⟩, ?_⟩
    have h := HN.out
    have hord := HORD.out
    rcases h with ⟨h1, h2⟩ | h
    · exact Or.inl ⟨h1, fun b hb => (World.ownsRow.lt h1 b hb).2⟩
    · exact Or.inr h

end Go.Proofs.YtiibeemjkdipnaaGreatDoor.Codec

/-
  How an event's name is read.
-/
namespace Go.Proofs.YtiibeemjkdipnaaGreatDoor.Codec
open Go Go.RowKit
open Go.Proofs.YtiibeemjkdipnaaGreatDoor.Wire (Wr Only Rd Step U cell_row rdS fxV shR txR tkI tkE tkT rtext_any err_any)
open Go.Proofs.YtiibeemjkdipnaaGreatDoor.Schema

theorem own_one (w : World) (u : Value) (E : TypeId) (h : u.oneCell' = true) : Own (w.alloc (.cells #[u] E)) w.heap.size E (.slice (some ⟨w.heap.size, 0, none⟩) 1 1) [u] :=
  ⟨by simp [h], Or.inr ⟨w.heap.size, 1, #[u], rfl, Nat.le_refl _, heap_alloc_new w _, Nat.le_refl _, by decide, rfl, rfl⟩⟩


/-- the closures of a name, and what they share -/
structure Name2 (w' : World) (n g bg bs : Nat) (t : ByteArray) : Prop where
  og : One w' bg (.pointer (some ⟨g, 0, none⟩))
  os : One w' bs (.string t)
  fs : Free w' bs
  l1 : n ≤ bg
  l2 : bg < bs
def NameRes (w : World) (g : Nat) (z : Ending) (w' : World) : Prop := ∃ bg bs, z = .returned (.agg #[.func (.func 105) #[] #[.pointer (some ⟨bg, 0, none⟩), .pointer (some ⟨bs, 0, none⟩)], .func (.func 107) #[] #[.pointer (some ⟨bs, 0, none⟩)]]) ∧ Name2 w' w.heap.size g bg bs ⟨#[]⟩ ∧ Below w.heap.size w w'

set_option maxRecDepth 100000 in
set_option maxHeartbeats 1000000 in
theorem name_any (g : Nat) (w : World) :
    Calls Tryz.prog 89 #[.pointer (some ⟨g, 0, none⟩)] w (NameRes w g) := by
  have hb0 := (Below.refl w.heap.size w).alloc (Nat.le_refl _) (.cells #[.pointer (some ⟨g, 0, none⟩)] 142)
  have hb1 := (Below.refl (w.alloc (.cells #[.pointer (some ⟨g, 0, none⟩)] 142)).heap.size (w.alloc (.cells #[.pointer (some ⟨g, 0, none⟩)] 142))).alloc (Nat.le_refl _) (.cells #[.nilFunc, .nilFunc] 123)
  have hb2 := (Below.refl ((w.alloc (.cells #[.pointer (some ⟨g, 0, none⟩)] 142)).alloc (.cells #[.nilFunc, .nilFunc] 123)).heap.size ((w.alloc (.cells #[.pointer (some ⟨g, 0, none⟩)] 142)).alloc (.cells #[.nilFunc, .nilFunc] 123))).alloc (Nat.le_refl _) (.cells #[.string ⟨#[]⟩] 9)
  have hs : (w.alloc (.cells #[.pointer (some ⟨g, 0, none⟩)] 142)).heap.size = w.heap.size + 1 := by simp
  have hs2 : ((w.alloc (.cells #[.pointer (some ⟨g, 0, none⟩)] 142)).alloc (.cells #[.nilFunc, .nilFunc] 123)).heap.size = w.heap.size + 1 + 1 := by simp
  have HO := Lib.hid (((one_new w (.pointer (some ⟨g, 0, none⟩)) 142).below hb1).below hb2)
  have hp := (two_new (w.alloc (.cells #[.pointer (some ⟨g, 0, none⟩)] 142)) .nilFunc .nilFunc 123).below hb2
  have hf := (free_new (w.alloc (.cells #[.pointer (some ⟨g, 0, none⟩)] 142)) #[.nilFunc, .nilFunc] 123).below hb2
  rw [hs] at hp hf
  have hq := one_new ((w.alloc (.cells #[.pointer (some ⟨g, 0, none⟩)] 142)).alloc (.cells #[.nilFunc, .nilFunc] 123)) (.string ⟨#[]⟩) 9
  have hqf := free_new ((w.alloc (.cells #[.pointer (some ⟨g, 0, none⟩)] 142)).alloc (.cells #[.nilFunc, .nilFunc] 123)) #[.string ⟨#[]⟩] 9
  rw [hs2] at hq hqf
  have HP := Lib.hid hp
  have HF := Lib.hid hf
  have HQ := Lib.hid hq
  have HQF := Lib.hid hqf
  have HB := Lib.hid (below_step (below_step hb0 hb1) hb2)
  clear hb0 hb1 hb2 hp hf hq hqf hs hs2
  go_enter Tryz.func89, Tryz.ntmps89
  go_upto_region 2 with (fail)
  generalize (((w.alloc (.cells #[.pointer (some ⟨g, 0, none⟩)] 142)).alloc (.cells #[.nilFunc, .nilFunc] 123)).alloc (.cells #[.string ⟨#[]⟩] 9)) = V at HO HP HF HQ HQF HB ⊢
  obtain ⟨c0, c1⟩ := HP.out
  have f0 := HF.out.2 0
  have f1 := HF.out.2 1
  go_wp2_with fail
  clear c0 c1 f0 f1
  obtain ⟨d0, d1⟩ := (HP.out.set0 (.func (.func 105) #[] #[.pointer (some ⟨w.heap.size, 0, none⟩), .pointer (some ⟨(w.heap.size + 1 + 1), 0, none⟩)])).set1 (.func (.func 107) #[] #[.pointer (some ⟨(w.heap.size + 1 + 1), 0, none⟩)])
  have t1 := Schema.Touch.set V (w.heap.size + 1) 0 (.func (.func 105) #[] #[.pointer (some ⟨w.heap.size, 0, none⟩), .pointer (some ⟨(w.heap.size + 1 + 1), 0, none⟩)])
  have t2 := Schema.Touch.set (V.setCell ⟨w.heap.size + 1, 0, none⟩ (.func (.func 105) #[] #[.pointer (some ⟨w.heap.size, 0, none⟩), .pointer (some ⟨(w.heap.size + 1 + 1), 0, none⟩)])) (w.heap.size + 1) 1 (.func (.func 107) #[] #[.pointer (some ⟨(w.heap.size + 1 + 1), 0, none⟩)])
  have HO1 := Lib.hid ((HO.out.touch t1 (by omega)).touch t2 (by omega))
  have HQ1 := Lib.hid ((HQ.out.touch t1 (by omega)).touch t2 (by omega))
  have HQF1 := Lib.hid ((HQF.out.touch t1 (by omega)).touch t2 (by omega))
  have HB1 := Lib.hid ((HB.out.setCell (p := ⟨w.heap.size + 1, 0, none⟩) (Nat.le_succ _) (.func (.func 105) #[] #[.pointer (some ⟨w.heap.size, 0, none⟩), .pointer (some ⟨(w.heap.size + 1 + 1), 0, none⟩)])).setCell (p := ⟨w.heap.size + 1, 1, none⟩) (Nat.le_succ _) (.func (.func 107) #[] #[.pointer (some ⟨(w.heap.size + 1 + 1), 0, none⟩)]))
  refine bodyPost_ret (v := .agg #[.func (.func 105) #[] #[.pointer (some ⟨w.heap.size, 0, none⟩), .pointer (some ⟨(w.heap.size + 1 + 1), 0, none⟩)], .func (.func 107) #[] #[.pointer (some ⟨(w.heap.size + 1 + 1), 0, none⟩)]]) (by simp [results, Tryz.results89, go_sem, d0, d1]) rfl ⟨_, _, rfl, ⟨HO1.out, HQ1.out, HQF1.out, Nat.le_refl _, by omega⟩, HB1.out⟩

/-- the next name -/
def tx (s : ByteArray) (i e : Nat) : ByteArray × Nat × Nat := txR s i e 24
def Nm1Res (bs g r top : Nat) (s : ByteArray) (a1 a2 a3 a5 : Value) (w : World) (R : ByteArray × Nat × Nat) (z : Ending) (w' : World) : Prop := ∃ q, z = .returned (.tuple #[]) ∧ Rdg 0 r g top w w' s R.2.1 R.2.2 a1 a2 a3 (.slice (some ⟨q, 0, none⟩) 1 1) a5 ∧ One w' bs (.string R.1) ∧ Own w' w.heap.size 9 (.slice (some ⟨q, 0, none⟩) 1 1) [.string R.1] ∧ High top bs w w'

set_option maxRecDepth 100000 in
set_option maxHeartbeats 1000000 in
theorem name1_any (bg bs g r top : Nat) (s : ByteArray) (i e : Nat) (a1 a2 a3 a4 a5 : Value) (t0 : ByteArray) (w : World) (hr : Rd w r s i e) (hi : i ≤ s.size) (hs : s.size ≤ 1000000000000) (hx : Six w g (.pointer (some ⟨r, 0, none⟩)) a1 a2 a3 a4 a5) (hf : Free w g) (hc : Name2 w top g bg bs t0) (h1 : r < g) (h2 : g < top) :
    Calls Tryz.prog 105 #[.pointer (some ⟨bg, 0, none⟩), .pointer (some ⟨bs, 0, none⟩)] w (Nm1Res bs g r top s a1 a2 a3 a5 w (tx s i e)) := by
  have HST := Lib.hid (fun W (hR : Rd W r s i e) => show Calls Tryz.prog 106 #[.pointer (some ⟨r, 0, none⟩), .int .i64 24] W (fun x w' => x = .returned (.string (tx s i e).1) ∧ Step W w' r s (tx s i e).2.1 (tx s i e).2.2) from Wire.rtext_any r s i e 24 W hR hi hs (by decide))
  generalize tx s i e = R at HST ⊢
  obtain ⟨t, i1, e1⟩ := R
  simp only at HST
  have HR := Lib.hid hr
  have HX := Lib.hid hx
  have HF := Lib.hid hf
  have HO := Lib.hid hc.og
  have HS := Lib.hid hc.os
  have HSF := Lib.hid hc.fs
  have HFR := Lib.hid (Fr.refl r g top w)
  have HHI := Lib.hid (High.refl top bs w)
  have HORD := Lib.hid (And.intro h1 (And.intro h2 (And.intro hc.l1 (And.intro hc.l2 (And.intro hr.size (cell_lt hc.os))))))
  clear hr hx hf hc
  go_enter Tryz.func105, Tryz.ntmps105
  obtain ⟨x0, x1, x2, x3, x4, x5⟩ := HX.out
  have o0 : w.cell? ⟨bg, 0, none⟩ = some (.pointer (some ⟨g, 0, none⟩)) := HO.out
  go_wp2_with fail
  clear x0 x1 x2 x3 x4 x5 o0
  refine (HST.out w HR.out).mono ?_
  rintro z W1 ⟨rfl, hst⟩
  have ht := touch_step hst
  have hord := HORD.out
  replace HX := Lib.hid (HX.out.touch ht (by omega))
  replace HF := Lib.hid (HF.out.touch ht (by omega))
  replace HO := Lib.hid (HO.out.touch ht (by omega))
  replace HS := Lib.hid (HS.out.touch ht (by omega))
  replace HSF := Lib.hid (HSF.out.touch ht (by omega))
  replace HFR := Lib.hid (HFR.out.touch ht (by omega))
  replace HHI := Lib.hid (HHI.out.touch ht (by omega))
  clear hord
  replace HR := Lib.hid hst.1
  replace HORD := Lib.hid (And.intro HORD.out ht.size)
  clear ht hst
  have o0 : W1.cell? ⟨bs, 0, none⟩ = some (.string t0) := HS.out
  have f0 := HSF.out.2 0
  go_upto_region 1 with (fail)
  clear o0 f0
  have ht := Schema.Touch.set W1 bs 0 (.string t)
  have hx := HS.out.set (.string t)
  have hf := HSF.out.set bs 0 (.string t)
  have hord := HORD.out
  replace HR := Lib.hid (HR.out.touch ht (by omega))
  replace HX := Lib.hid (HX.out.touch ht (by omega))
  replace HF := Lib.hid (HF.out.touch ht (by omega))
  replace HO := Lib.hid (HO.out.touch ht (by omega))
  replace HFR := Lib.hid (HFR.out.touch ht (by omega))
  replace HHI := Lib.hid (HHI.out.touch ht (by omega))
  clear hord
  replace HORD := Lib.hid (And.intro HORD.out ht.size)
  replace HS := Lib.hid hx
  replace HSF := Lib.hid hf
  clear ht hx hf
  generalize W1.setCell ⟨bs, 0, none⟩ (.string t) = W2 at HR HX HF HO HS HSF HFR HHI HORD ⊢
  have hb := (Below.refl W2.heap.size W2).alloc (Nat.le_refl _) (.cells #[.string t] 9)
  have ho := own_one W2 (.string t) 9 rfl
  have hq : w.heap.size ≤ W2.heap.size := by have hord := HORD.out; omega
  have hs1 : W2.heap.size + 1 ≤ (W2.alloc (.cells #[.string t] 9)).heap.size := by simp
  obtain ⟨x0, x1, x2, x3, x4, x5⟩ := HX.out
  have o0 : W2.cell? ⟨bg, 0, none⟩ = some (.pointer (some ⟨g, 0, none⟩)) := HO.out
  have o1 : W2.cell? ⟨bs, 0, none⟩ = some (.string t) := HS.out
  have x4' := (HX.out.below hb).2.2.2.2.1
  have f4 := (HF.out.below hb).2 4
  go_wp2_with fail
  clear x0 x1 x2 x3 x4 x5 o0 o1 x4' f4
  replace HR := Lib.hid (HR.out.below hb)
  replace HX := Lib.hid (HX.out.below hb)
  replace HF := Lib.hid (HF.out.below hb)
  replace HO := Lib.hid (HO.out.below hb)
  replace HS := Lib.hid (HS.out.below hb)
  replace HSF := Lib.hid (HSF.out.below hb)
  replace HFR := Lib.hid (HFR.out.below hb)
  replace HHI := Lib.hid (HHI.out.below hb)
  have HW := Lib.hid (ho.less hq)
  clear ho hq hb
  replace HORD := Lib.hid (And.intro HORD.out hs1)
  clear hs1
  generalize hWs : W2.heap.size = q at HR HX HF HO HS HSF HFR HHI HW HORD ⊢
  clear hWs
  generalize W2.alloc (.cells #[.string t] 9) = W3 at HR HX HF HO HS HSF HFR HHI HW HORD ⊢
  have ht := Schema.Touch.set W3 g 4 (.slice (some ⟨q, 0, none⟩) 1 1)
  have hx := HX.out.set4 (.slice (some ⟨q, 0, none⟩) 1 1)
  have hf := HF.out.set g 4 (.slice (some ⟨q, 0, none⟩) 1 1)
  have hord := HORD.out
  have HW2 := Lib.hid (Schema.Own.touch HW.out (fun b hb => World.ownsRow.lt HW.out b hb |>.2) ht (Or.inl (by omega)))
  clear hord HW
  have HW := HW2
  clear HW2
  have hord := HORD.out
  replace HR := Lib.hid (HR.out.touch ht (by omega))
  replace HO := Lib.hid (HO.out.touch ht (by omega))
  replace HS := Lib.hid (HS.out.touch ht (by omega))
  replace HSF := Lib.hid (HSF.out.touch ht (by omega))
  replace HFR := Lib.hid (HFR.out.touch ht (by omega))
  replace HHI := Lib.hid (HHI.out.touch ht (by omega))
  clear hord
  replace HX := Lib.hid hx
  replace HF := Lib.hid hf
  clear ht hx hf
  go_end0
  exact ⟨q, rfl, ⟨HR.out, HX.out, HF.out, HFR.out⟩, HS.out, HW.out, HHI.out⟩

theorem name2_any (bs : Nat) (t : ByteArray) (ht : t.size ≤ maxLen) (w : World) (h1 : One w bs (.string t)) :
    Calls Tryz.prog 107 #[.pointer (some ⟨bs, 0, none⟩)] w fun z w' => z = .returned (.bool (mayName t)) ∧ Below w.heap.size w w' := by
  have c1 : w.cell? ⟨bs, 0, none⟩ = some (.string t) := h1
  have HM := Lib.hid (mayName_any t ht w)
  clear h1
  go_enter Tryz.func107, Tryz.ntmps107
  go_wp2_with fail
  refine HM.out.mono ?_
  rintro z w1 ⟨rfl, hb⟩
  have HB := Lib.hid hb
  clear hb c1
  go_wp2_with fail
  go_ret
  exact ⟨rfl, HB.out⟩
/-- what is wrong behind a name -/
def wrT (R : ByteArray × Nat × Nat) : Nat := if R.2.2 = 0 then (if mayName R.1 then 0 else 4) else R.2.2
def ReadTRes (g r top : Nat) (s : ByteArray) (a1 a2 a3 : Value) (w : World) (R : ByteArray × Nat × Nat) (z : Ending) (w' : World) : Prop := ∃ q, z = .returned (.tuple #[]) ∧ Rdg 0 r g top w w' s R.2.1 R.2.2 a1 a2 a3 (.slice (some ⟨q, 0, none⟩) 1 1) (.int .i64 (wrT R : Int)) ∧ Own w' w.heap.size 9 (.slice (some ⟨q, 0, none⟩) 1 1) [.string R.1]

set_option maxRecDepth 100000 in
set_option maxHeartbeats 1000000 in
theorem readT_any (bg bs g r top : Nat) (s : ByteArray) (i e : Nat) (a1 a2 a3 a4 a5 : Value) (t0 : ByteArray) (w : World) (hr : Rd w r s i e) (hi : i ≤ s.size) (hs : s.size ≤ 1000000000000) (hx : Six w g (.pointer (some ⟨r, 0, none⟩)) a1 a2 a3 a4 a5) (hf : Free w g) (hc : Name2 w top g bg bs t0) (h1 : r < g) (h2 : g < top) (htl : (tx s i e).1.size ≤ maxLen) (h5 : a5 = .int .i64 0) :
    Calls Tryz.prog 85 #[.pointer (some ⟨g, 0, none⟩), .agg #[.func (.func 105) #[] #[.pointer (some ⟨bg, 0, none⟩), .pointer (some ⟨bs, 0, none⟩)], .func (.func 107) #[] #[.pointer (some ⟨bs, 0, none⟩)]]] w (ReadTRes g r top s a1 a2 a3 w (tx s i e)) := by
  subst h5
  have HC1 := Lib.hid (fun W (q1 : Rd W r s i e) q2 q3 q5 => name1_any bg bs g r top s i e a1 a2 a3 a4 (.int .i64 0) t0 W q1 hi hs q2 q3 q5 h1 h2)
  generalize tx s i e = R at HC1 htl ⊢
  obtain ⟨t, i1, e1⟩ := R
  simp only at htl
  have hb := (Below.refl w.heap.size w).alloc (Nat.le_refl _) (.cells #[.func (.func 105) #[] #[.pointer (some ⟨bg, 0, none⟩), .pointer (some ⟨bs, 0, none⟩)], .func (.func 107) #[] #[.pointer (some ⟨bs, 0, none⟩)]] 123)
  have hs1 : w.heap.size + 1 ≤ (w.alloc (.cells #[.func (.func 105) #[] #[.pointer (some ⟨bg, 0, none⟩), .pointer (some ⟨bs, 0, none⟩)], .func (.func 107) #[] #[.pointer (some ⟨bs, 0, none⟩)]] 123)).heap.size := by simp
  have HR := Lib.hid (hr.below hb)
  have HX := Lib.hid (hx.below hb)
  have HF := Lib.hid (hf.below hb)
  have HC := Lib.hid (show Name2 _ top g bg bs t0 from { hc with og := hc.og.below hb, os := hc.os.below hb, fs := hc.fs.below hb })
  have HFR := Lib.hid ((Fr.refl r g top w).below hb)
  have HT := Lib.hid (two_new w (.func (.func 105) #[] #[.pointer (some ⟨bg, 0, none⟩), .pointer (some ⟨bs, 0, none⟩)]) (.func (.func 107) #[] #[.pointer (some ⟨bs, 0, none⟩)]) 123)
  have HTL := Lib.hid htl
  have HORD := Lib.hid (And.intro h1 (And.intro h2 (And.intro hc.l1 (And.intro hc.l2 (And.intro hr.size (And.intro (cell_lt hc.os) hs1))))))
  clear hb hs1 hr hx hf hc htl
  go_enter Tryz.func85, Tryz.ntmps85
  go_upto_region 1 with (fail)
  generalize w.alloc (.cells #[.func (.func 105) #[] #[.pointer (some ⟨bg, 0, none⟩), .pointer (some ⟨bs, 0, none⟩)], .func (.func 107) #[] #[.pointer (some ⟨bs, 0, none⟩)]] 123) = W0 at HR HX HF HT HC HFR HORD ⊢
  obtain ⟨x0, x1, x2, x3, x4, x5⟩ := HX.out
  obtain ⟨t0', t1⟩ := HT.out
  go_wp2_with fail
  clear x0 x1 x2 x3 x4 x5 t0' t1
  refine (HC1.out W0 HR.out HX.out HF.out HC.out).mono ?_
  rintro z W1 ⟨q, rfl, hg, hm, hn2, hhi⟩
  simp only at hg hm hn2
  have hord := HORD.out
  have HFR1 := Lib.hid (HFR.out.trans hg.fr)
  have HT1 := Lib.hid (show Two W1 w.heap.size _ _ from ⟨(World.cell?_of_block (hhi.block w.heap.size (by omega) (by omega) (by omega))).trans HT.out.1, (World.cell?_of_block (hhi.block w.heap.size (by omega) (by omega) (by omega))).trans HT.out.2⟩)
  have HW := Lib.hid (hn2.less (base' := w.heap.size) (by omega))
  clear hord
  clear HT HFR HR HX HF HC hhi
  have HT := HT1
  have HFR := HFR1
  have HR := Lib.hid hg.rd
  have HX := Lib.hid hg.six
  have HF := Lib.hid hg.free
  have HM := Lib.hid hm
  clear HT1 HFR1 hm hn2
  replace HORD := Lib.hid (And.intro HORD.out hg.fr.size)
  clear hg
  obtain ⟨x0, x1, x2, x3, x4, x5⟩ := HX.out
  have f5 := HF.out.2 5
  go_wp2_with fail
  clear x0 x1 x2 x3 x4 x5 f5
  refine (err_any r s i1 e1 W1 HR.out).mono ?_
  rintro z z1 ⟨rfl, nq, rfl⟩
  have hb := below_dn W1.heap.size W1 nq
  replace HR := Lib.hid (HR.out.below hb)
  replace HX := Lib.hid (HX.out.below hb)
  replace HF := Lib.hid (HF.out.below hb)
  replace HT := Lib.hid (HT.out.below hb)
  replace HFR := Lib.hid (HFR.out.below hb)
  replace HM := Lib.hid (HM.out.below hb)
  replace HW := Lib.hid (HW.out.below hb)
  clear hb
  generalize W1.drewN nq = W2 at HR HX HF HT HFR HM HW ⊢
  obtain ⟨x0, x1, x2, x3, x4, x5⟩ := HX.out
  obtain ⟨t0', t1⟩ := HT.out
  have f5 := HF.out.2 5
  have HWD := Lib.hid (show wrT (t, i1, e1) = if e1 = 0 then (if mayName t then 0 else 4) else e1 from rfl)
  by_cases hE : e1 = 0
  · subst hE
    go_upto_region 4 with (fail)
    clear x0 x1 x2 x3 x4 x5 t0' t1 f5
    have ht := Schema.Touch.set W2 g 5 (.int .i64 0)
    have hx := HX.out.set5 (.int .i64 0)
    have hf := HF.out.set g 5 (.int .i64 0)
    have hord := HORD.out
    have HW2 := Lib.hid (Schema.Own.touch HW.out (fun b hb => World.ownsRow.lt HW.out b hb |>.2) ht (Or.inl (by omega)))
    clear hord HW
    have hord := HORD.out
    replace HR := Lib.hid (HR.out.touch ht (by omega))
    replace HT := Lib.hid (HT.out.touch ht (by omega))
    replace HFR := Lib.hid (HFR.out.touch ht (by omega))
    replace HM := Lib.hid (HM.out.touch ht (by omega))
    clear hord
    have HW := HW2
    clear HW2
    replace HX := Lib.hid hx
    replace HF := Lib.hid hf
    clear ht hx hf
    generalize W2.setCell ⟨g, 5, none⟩ (.int .i64 0) = W3 at HR HX HF HT HFR HM HW ⊢
    obtain ⟨x0, x1, x2, x3, x4, x5⟩ := HX.out
    obtain ⟨t0', t1⟩ := HT.out
    have f5 := HF.out.2 5
    go_wp2_with fail
    clear x0 x1 x2 x3 x4 x5 t0' t1 f5
    refine (name2_any bs t HTL.out W3 HM.out).mono ?_
    rintro z W4 ⟨rfl, hb⟩
    replace HR := Lib.hid (HR.out.below hb)
    replace HX := Lib.hid (HX.out.below hb)
    replace HF := Lib.hid (HF.out.below hb)
    replace HT := Lib.hid (HT.out.below hb)
    replace HFR := Lib.hid (HFR.out.below hb)
    replace HM := Lib.hid (HM.out.below hb)
    replace HW := Lib.hid (HW.out.below hb)
    clear hb
    cases hm : mayName t with
    | true =>
      have HD := Lib.hid hm
      clear hm
      go_wp2_with fail
      go_end0
      have hw : wrT (t, i1, 0) = 0 := by rw [HWD.out, HD.out]; rfl
      exact ⟨q, rfl, ⟨HR.out, by rw [hw]; exact HX.out, HF.out, HFR.out⟩, HW.out⟩
    | false =>
      have HD := Lib.hid hm
      clear hm
      obtain ⟨x0, x1, x2, x3, x4, x5⟩ := HX.out
      have f5 := HF.out.2 5
      go_wp2_with fail
      clear x0 x1 x2 x3 x4 x5 f5
      have ht := Schema.Touch.set W4 g 5 (.int .i64 4)
      have hx := HX.out.set5 (.int .i64 4)
      have hf := HF.out.set g 5 (.int .i64 4)
      have hord := HORD.out
      have HW2 := Lib.hid (Schema.Own.touch HW.out (fun b hb => World.ownsRow.lt HW.out b hb |>.2) ht (Or.inl (by omega)))
      clear hord HW
      have hord := HORD.out
      replace HR := Lib.hid (HR.out.touch ht (by omega))
      replace HT := Lib.hid (HT.out.touch ht (by omega))
      replace HFR := Lib.hid (HFR.out.touch ht (by omega))
      replace HM := Lib.hid (HM.out.touch ht (by omega))
      clear hord
      have HW := HW2
      clear HW2
      replace HX := Lib.hid hx
      replace HF := Lib.hid hf
      clear ht hx hf
      generalize W4.setCell ⟨g, 5, none⟩ (.int .i64 4) = W5 at HR HX HF HT HFR HM HW ⊢
      go_end0
      have hw : wrT (t, i1, 0) = 4 := by rw [HWD.out, HD.out]; rfl
      exact ⟨q, rfl, ⟨HR.out, by rw [hw]; exact HX.out, HF.out, HFR.out⟩, HW.out⟩
  · have hE1 : ((e1 : Int) == 0) = false := beq_eq_false_iff_ne.2 (by omega)
    have hE2 : (e1 == 0) = false := beq_eq_false_iff_ne.2 hE
    have HEE := Lib.hid hE
    clear hE
    go_upto_region 4 with (fail)
    clear x0 x1 x2 x3 x4 x5 t0' t1 f5
    have ht := Schema.Touch.set W2 g 5 (.int .i64 (e1 : Int))
    have hx := HX.out.set5 (.int .i64 (e1 : Int))
    have hf := HF.out.set g 5 (.int .i64 (e1 : Int))
    have hord := HORD.out
    have HW2 := Lib.hid (Schema.Own.touch HW.out (fun b hb => World.ownsRow.lt HW.out b hb |>.2) ht (Or.inl (by omega)))
    clear hord HW
    have hord := HORD.out
    replace HR := Lib.hid (HR.out.touch ht (by omega))
    replace HT := Lib.hid (HT.out.touch ht (by omega))
    replace HFR := Lib.hid (HFR.out.touch ht (by omega))
    replace HM := Lib.hid (HM.out.touch ht (by omega))
    clear hord
    have HW := HW2
    clear HW2
    replace HX := Lib.hid hx
    replace HF := Lib.hid hf
    clear ht hx hf
    generalize W2.setCell ⟨g, 5, none⟩ (.int .i64 (e1 : Int)) = W3 at HR HX HF HT HFR HM HW ⊢
    obtain ⟨x0, x1, x2, x3, x4, x5⟩ := HX.out
    go_wp2_with fail
    clear x0 x1 x2 x3 x4 x5
    go_end0
    have hw : wrT (t, i1, e1) = e1 := by rw [HWD.out, if_neg HEE.out]
    exact ⟨q, rfl, ⟨HR.out, by rw [hw]; exact HX.out, HF.out, HFR.out⟩, HW.out⟩

end Go.Proofs.YtiibeemjkdipnaaGreatDoor.Codec
