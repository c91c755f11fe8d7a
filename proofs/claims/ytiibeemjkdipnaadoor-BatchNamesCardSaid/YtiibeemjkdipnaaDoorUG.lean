import Derived.Test.YtiibeemjkdipnaaDoorUF
/-
  isVersion, letDownTo.
-/
namespace Go.Proofs.YtiibeemjkdipnaaDoor.Upcast
open Go Go.RowKit
open Go.Proofs.YtiibeemjkdipnaaDoor.Schema

def isV (v : Nat) : Bool := decide (1 ≤ v ∧ v ≤ 3)
/-- let down to a version, as often as need be -/
def dtX : Nat → Ev → Nat → Except Nat Ev
  | 0, e, _ => .ok e
  | n + 1, e, v => if v < e.v then (match downX e with | .ok d => dtX n d v | .error x => .error x) else .ok e
def dto (e : Ev) (v : Nat) : Except Nat Ev := dtX e.v e v
theorem down_err {e : Ev} {x : Nat} (h : downX e = .error x) : x = 43 := by
  unfold downX at h
  split at h
  · cases h
  · injection h with h; exact h.symm
theorem dto_end {e : Ev} {v : Nat} (h : ¬ v < e.v) : dto e v = .ok e := by
  unfold dto
  cases e.v with
  | zero => rfl
  | succ n => exact if_neg h
theorem dto_step {e f : Ev} {v : Nat} (h1 : 1 ≤ e.v) (h : v < e.v) (hd : downX e = .ok f) : dto e v = dto f v := by
  have hf := (down_out h1 hd).ev
  unfold dto
  rw [hf]
  show (if v < e.v then (match downX e with | .ok d => dtX f.v d v | .error x => .error x) else .ok e) = _
  rw [if_pos h, hd]
theorem dto_err {e : Ev} {v x : Nat} (h : v < e.v) (hd : downX e = .error x) : dto e v = .error x := by
  unfold dto
  obtain ⟨n, hn⟩ : ∃ n, e.v = n + 1 := ⟨e.v - 1, by omega⟩
  rw [hn]
  show (if v < e.v then (match downX e with | .ok d => dtX n d v | .error x => .error x) else .ok e) = _
  rw [if_pos h, hd]
def verAt (w : World) (b : Nat) : Nat := match w.cell? ⟨b, 0, none⟩ with | some (.int _ n) => n.toNat | _ => 0
theorem verAt_of {w : World} {b n : Nat} (h : w.cell? ⟨b, 0, none⟩ = some (.int .u8 (n : Int))) : verAt w b = n := by unfold verAt; rw [h]; exact Int.toNat_natCast n
structure LdI (w : World) (A : Option Addr) (ca : Nat) (C : Option Addr) (cc : Nat) (e : Ev) (v : Nat) (d : Ev) (A1 : Option Addr) (c1 : Nat) (C1 : Option Addr) (c2 : Nat) (wr : World) : Prop where
  x : Four wr w.heap.size (.int .u8 d.v) (.int .u8 d.k) (.slice A1 d.ns.length c1) (.slice C1 d.ts.length c2)
  xf : Free wr w.heap.size
  p : Four wr (w.heap.size + 1) (.int .u8 0) (.int .u8 0) (.slice none 0 0) (.slice none 0 0)
  pf : Free wr (w.heap.size + 1)
  b : Below w.heap.size w wr
  m : may d = true
  ea : EvAt wr A1 c1 C1 c2 d
  eq : dto e v = dto d v
  own : (d = e ∧ A1 = A ∧ c1 = ca ∧ C1 = C ∧ c2 = cc) ∨ (v < e.v ∧ OwnE wr (w.heap.size + 2) 2 (.slice A1 d.ns.length c1) (nums d.ns) ∧ OwnE wr (w.heap.size + 2) 9 (.slice C1 d.ts.length c2) (texts d.ts))
theorem LdI.lt {w wr : World} {A C A1 C1 : Option Addr} {ca cc c1 c2 v : Nat} {e d : Ev} (h : LdI w A ca C cc e v d A1 c1 C1 c2 wr) (hv : v < d.v) : v < e.v := by
  rcases h.own with h1 | h1
  · rw [← h1.1]; exact hv
  · exact h1.1
/-- what letDownTo tells: the event itself, or one of its own -/
def LdV (A : Option Addr) (ca : Nat) (C : Option Addr) (cc : Nat) (e : Ev) (v : Nat) (w : World) (z : Ending) (w' : World) : Prop :=
  match dto e v with
  | .ok f => ∃ A1 c1 C1 c2, z = .returned (.tuple #[evV A1 c1 C1 c2 f, .int .i64 0]) ∧ ((f = e ∧ A1 = A ∧ c1 = ca ∧ C1 = C ∧ c2 = cc) ∨ (v < e.v ∧ OwnE w' w.heap.size 2 (.slice A1 f.ns.length c1) (nums f.ns) ∧ OwnE w' w.heap.size 9 (.slice C1 f.ts.length c2) (texts f.ts))) ∧ Below w.heap.size w w'
  | .error x => z = .returned (.tuple #[.agg #[.int .u8 0, .int .u8 0, .slice none 0 0, .slice none 0 0], .int .i64 (x : Int)]) ∧ Below w.heap.size w w'

set_option maxRecDepth 100000 in
set_option maxHeartbeats 1000000 in
theorem isVersion_any (v : Nat) (hv : v < 256) (w : World) :
    Calls Tryd.prog 31 #[.int .u8 (v : Int)] w (fun z w' => z = .returned (.bool (isV v)) ∧ Below w.heap.size w w') := by
  have hc : v < 1 ∨ (1 ≤ v ∧ v ≤ 3) ∨ 3 < v := by omega
  rcases hc with h | h | h
  · have z1 : ¬ (1 : Int) ≤ (v : Int) := by omega
    rw [show isV v = false from decide_eq_false (by omega)]
    go_enter Tryd.func31, Tryd.ntmps31
    go_wp2
    first | exact bodyPost_ret (by simp [results, Tryd.results31, go_sem]) rfl ⟨rfl, Below.refl _ _⟩ | exact ⟨rfl, Below.refl _ _⟩ | skip
  · have z1 : (1 : Int) ≤ (v : Int) := by omega
    have z2 : (v : Int) ≤ 3 := by omega
    rw [show isV v = true from decide_eq_true (by omega)]
    go_enter Tryd.func31, Tryd.ntmps31
    go_wp2
    first | exact bodyPost_ret (by simp [results, Tryd.results31, go_sem]) rfl ⟨rfl, Below.refl _ _⟩ | exact ⟨rfl, Below.refl _ _⟩ | skip
  · have z1 : (1 : Int) ≤ (v : Int) := by omega
    have z2 : ¬ (v : Int) ≤ 3 := by omega
    rw [show isV v = false from decide_eq_false (by omega)]
    go_enter Tryd.func31, Tryd.ntmps31
    go_wp2
    first | exact bodyPost_ret (by simp [results, Tryd.results31, go_sem]) rfl ⟨rfl, Below.refl _ _⟩ | exact ⟨rfl, Below.refl _ _⟩ | skip

set_option maxRecDepth 100000 in
set_option maxHeartbeats 4000000 in
theorem letDownTo_any (A : Option Addr) (ca : Nat) (C : Option Addr) (cc : Nat) (e : Ev) (v : Nat) (hv : v < 256) (w : World) (hm : may e = true) (hA : EvAt w A ca C cc e) (E : Env w) :
    Calls Tryd.prog 32 #[evV A ca C cc e, .int .u8 (v : Int)] w (LdV A ca C cc e v w) := by
  have HE := Lib.hid E
  have HV := Lib.hid hv
  clear E hv
  unfold evV
  have hb1 := (Below.refl w.heap.size w).alloc (Nat.le_refl _) (.cells #[.int .u8 e.v, .int .u8 e.k, .slice A e.ns.length ca, .slice C e.ts.length cc] 27)
  have hs1 : (w.alloc (.cells #[.int .u8 e.v, .int .u8 e.k, .slice A e.ns.length ca, .slice C e.ts.length cc] 27)).heap.size = w.heap.size + 1 := by simp
  have hb2 := (Below.refl (w.alloc (.cells #[.int .u8 e.v, .int .u8 e.k, .slice A e.ns.length ca, .slice C e.ts.length cc] 27)).heap.size (w.alloc (.cells #[.int .u8 e.v, .int .u8 e.k, .slice A e.ns.length ca, .slice C e.ts.length cc] 27))).alloc (Nat.le_refl _) (.cells #[.int .u8 0, .int .u8 0, .slice none 0 0, .slice none 0 0] 27)
  have hx : Four _ w.heap.size _ _ _ _ := Four.below (box4 w (.int .u8 e.v) (.int .u8 e.k) (.slice A e.ns.length ca) (.slice C e.ts.length cc) 27) hb2
  have hxf := free_below (free_new w #[.int .u8 e.v, .int .u8 e.k, .slice A e.ns.length ca, .slice C e.ts.length cc] 27) hb2
  have HX := Lib.hid hx
  have HXF := Lib.hid hxf
  have hp : Four _ (w.alloc (.cells #[.int .u8 e.v, .int .u8 e.k, .slice A e.ns.length ca, .slice C e.ts.length cc] 27)).heap.size _ _ _ _ := box4 (w.alloc (.cells #[.int .u8 e.v, .int .u8 e.k, .slice A e.ns.length ca, .slice C e.ts.length cc] 27)) (.int .u8 0) (.int .u8 0) (.slice none 0 0) (.slice none 0 0) 27
  have hf := free_new (w.alloc (.cells #[.int .u8 e.v, .int .u8 e.k, .slice A e.ns.length ca, .slice C e.ts.length cc] 27)) #[.int .u8 0, .int .u8 0, .slice none 0 0, .slice none 0 0] 27
  rw [hs1] at hp hf
  have HP := Lib.hid hp
  have HPF := Lib.hid hf
  have HB := Lib.hid (below_step hb1 hb2)
  clear hb1 hb2 hs1 hx hp hf hxf
  have HI : Hid (LdI w A ca C cc e v e A ca C cc ((w.alloc (.cells #[.int .u8 e.v, .int .u8 e.k, .slice A e.ns.length ca, .slice C e.ts.length cc] 27)).alloc (.cells #[.int .u8 0, .int .u8 0, .slice none 0 0, .slice none 0 0] 27))) := ⟨HX.out, HXF.out, HP.out, HPF.out, HB.out, hm, hA.below HB.out, rfl, Or.inl ⟨rfl, rfl, rfl, rfl, rfl⟩⟩
  clear HX HXF HP HPF HB hm hA
  go_enter Tryd.func32, Tryd.ntmps32
  go_wp2_with fail
  go_loopw [] (fun wr => ∃ (d : Ev) (A1 : Option Addr) (c1 : Nat) (C1 : Option Addr) (c2 : Nat), Hid (LdI w A ca C cc e v d A1 c1 C1 c2 wr)) (fun wr => verAt wr w.heap.size)
  case atStart => exact ⟨e, A, ca, C, cc, HI⟩
  case round =>
    obtain ⟨d, A1, c1, C1, c2, HId⟩ := hrel
    clear HI
    have HMS := Lib.hid (verAt_of HId.out.x.1)
    by_cases hlt : v < d.v
    case pos =>
      have z1 : (v : Int) < (d.v : Int) := by omega
      have HLT := Lib.hid hlt
      obtain ⟨x0, x1, x2, x3⟩ := HId.out.x
      go_wp2_with fail
      clear x0 x1 x2 x3
      have ho := may_out HId.out.m
      refine (letDown_any A1 c1 C1 c2 d wr HId.out.ea ho.v1 ho.ln ho.rng (by have := ho.tx; omega) (HE.out.below HId.out.b)).mono ?_
      rintro z w3 hz
      have HDM := Lib.hid (fun f h => down_may (e := d) (d := f) HId.out.m h)
      have HDO := Lib.hid (fun f h => down_out (e := d) (d := f) ho.v1 h)
      have HST := Lib.hid (fun f h => dto_step (e := d) (f := f) (v := v) ho.v1 hlt h)
      have HER := Lib.hid (fun x h => dto_err (e := d) (v := v) (x := x) hlt h)
      have H43 := Lib.hid (fun x h => down_err (e := d) (x := x) h)
      clear ho hlt
      cases hq : downX d with
      | error x =>
        rw [hq] at hz
        obtain ⟨rfl, hb⟩ := hz
        have hx := H43.out x hq
        subst hx
        have HDN := Lib.hid (HId.out.eq.trans (HER.out _ hq))
        have HP := Lib.hid (HId.out.p.below hb)
        have HPF := Lib.hid (free_below HId.out.pf hb)
        have HB := Lib.hid (below_step HId.out.b hb)
        have HB2 := Lib.hid ((Below.refl w3.heap.size w3).alloc (Nat.le_refl _) (.cells #[.int .u8 0, .int .u8 0, .slice none 0 0, .slice none 0 0] 27))
        clear hb hq
        go_upto_region 4 with (fail)
        replace HP := Lib.hid (HP.out.below HB2.out)
        replace HPF := Lib.hid (free_below HPF.out HB2.out)
        replace HB := Lib.hid (below_step HB.out HB2.out)
        clear HB2
        generalize w3.alloc (.cells #[.int .u8 0, .int .u8 0, .slice none 0 0, .slice none 0 0] 27) = W4 at HP HPF HB ⊢
        obtain ⟨p0, p1, p2, p3⟩ := HP.out
        have f0 := HPF.out.2 0
        have f1 := HPF.out.2 1
        have f2 := HPF.out.2 2
        have f3 := HPF.out.2 3
        go_wp2_with fail
        clear p0 p1 p2 p3 f0 f1 f2 f3
        obtain ⟨e0, e1, e2, e3⟩ := HP.out.set4 (.int .u8 0) (.int .u8 0) (.slice none 0 0) (.slice none 0 0)
        refine bodyPost_ret (v := .tuple #[.agg #[.int .u8 0, .int .u8 0, .slice none 0 0, .slice none 0 0], .int .i64 43]) (by simp [results, Tryd.results32, go_sem, e0, e1, e2, e3]) rfl ?_
        unfold LdV
        rw [HDN.out]
        exact ⟨rfl, HB.out.trans ((touch4 W4 (w.heap.size + 1) _ _ _ _).below (Nat.le_succ _) HB.out.size)⟩
      | ok f =>
        rw [hq] at hz
        obtain ⟨A3, c3, C3, d3, rfl, ho1, ho2, hb⟩ := hz
        have HF := Lib.hid (HDO.out f hq)
        have HMF := Lib.hid (HDM.out f hq)
        have HEQ := Lib.hid (HId.out.eq.trans (HST.out f hq))
        have hgt := HId.out.pf.1
        have HO1 := Lib.hid (ho1.less (show w.heap.size + 2 ≤ _ by omega))
        have HO2 := Lib.hid (ho2.less (show w.heap.size + 2 ≤ _ by omega))
        have HX := Lib.hid (HId.out.x.below hb)
        have HXF := Lib.hid (free_below HId.out.xf hb)
        have HP := Lib.hid (HId.out.p.below hb)
        have HPF := Lib.hid (free_below HId.out.pf hb)
        have HB := Lib.hid (below_step HId.out.b hb)
        have HTX := Lib.hid (show ∀ t ∈ f.ts, t.size ≤ maxLen by rw [← HF.out.ts]; exact HId.out.ea.txt)
        have HOW := Lib.hid (show v < e.v from HId.out.lt HLT.out)
        clear hb hq ho1 ho2 hgt
        unfold evV
        have hb2 := (Below.refl w3.heap.size w3).alloc (Nat.le_refl _) (.cells #[.int .u8 f.v, .int .u8 f.k, .slice A3 f.ns.length c3, .slice C3 f.ts.length d3] 27)
        have HL := Lib.hid (show Four _ w3.heap.size _ _ _ _ from box4 w3 (.int .u8 f.v) (.int .u8 f.k) (.slice A3 f.ns.length c3) (.slice C3 f.ts.length d3) 27)
        have HB2 := Lib.hid hb2
        clear hb2
        go_upto_region 5 with (fail)
        replace HX := Lib.hid (HX.out.below HB2.out)
        replace HXF := Lib.hid (free_below HXF.out HB2.out)
        replace HP := Lib.hid (HP.out.below HB2.out)
        replace HPF := Lib.hid (free_below HPF.out HB2.out)
        replace HB := Lib.hid (below_step HB.out HB2.out)
        replace HO1 := Lib.hid (HO1.out.below HB2.out)
        replace HO2 := Lib.hid (HO2.out.below HB2.out)
        clear HB2
        generalize w3.alloc (.cells #[.int .u8 f.v, .int .u8 f.k, .slice A3 f.ns.length c3, .slice C3 f.ts.length d3] 27) = W4 at HX HXF HP HPF HB HO1 HO2 HL ⊢
        obtain ⟨x0, x1, x2, x3⟩ := HX.out
        have f0 := HXF.out.2 0
        have f1 := HXF.out.2 1
        have f2 := HXF.out.2 2
        have f3 := HXF.out.2 3
        obtain ⟨l0, l1, l2, l3⟩ := HL.out
        go_wp2_with fail
        clear x0 x1 x2 x3 f0 f1 f2 f3 l0 l1 l2 l3 z1
        have ht := touch4 W4 w.heap.size (.int .u8 f.v) (.int .u8 f.k) (.slice A3 f.ns.length c3) (.slice C3 f.ts.length d3)
        replace HX := Lib.hid (HX.out.set4 (.int .u8 f.v) (.int .u8 f.k) (.slice A3 f.ns.length c3) (.slice C3 f.ts.length d3))
        replace HP := Lib.hid (Four.touch HP.out ht (Or.inr (Nat.le_refl _)))
        replace HPF := Lib.hid (free_touch HPF.out ht (Or.inr (Nat.le_refl _)))
        replace HXF := Lib.hid (free_set4 (b' := w.heap.size) HXF.out (.int .u8 f.v) (.int .u8 f.k) (.slice A3 f.ns.length c3) (.slice C3 f.ts.length d3))
        replace HB := Lib.hid (HB.out.trans (ht.below (Nat.le_refl _) HB.out.size))
        replace HO1 := Lib.hid (ownE_set4 (b := w.heap.size) (x0 := .int .u8 f.v) (x1 := .int .u8 f.k) (x2 := .slice A3 f.ns.length c3) (x3 := .slice C3 f.ts.length d3) HO1.out (by omega))
        replace HO2 := Lib.hid (ownE_set4 (b := w.heap.size) (x0 := .int .u8 f.v) (x1 := .int .u8 f.k) (x2 := .slice A3 f.ns.length c3) (x3 := .slice C3 f.ts.length d3) HO2.out (by omega))
        clear ht HL
        generalize ((((W4.setCell ⟨w.heap.size, 0, none⟩ (.int .u8 f.v)).setCell ⟨w.heap.size, 1, none⟩ (.int .u8 f.k)).setCell ⟨w.heap.size, 2, none⟩ (.slice A3 f.ns.length c3)).setCell ⟨w.heap.size, 3, none⟩ (.slice C3 f.ts.length d3)) = W5 at HX HXF HP HPF HB HO1 HO2 ⊢
        have HI2 : Hid (LdI w A ca C cc e v f A3 c3 C3 d3 W5) := ⟨HX.out, HXF.out, HP.out, HPF.out, HB.out, HMF.out, evAt_of HMF.out HTX.out HO1.out HO2.out, HEQ.out, Or.inr ⟨HOW.out, HO1.out, HO2.out⟩⟩
        have HM2 := Lib.hid (verAt_of HX.out.1)
        have hfv : (d.v : Int) = (f.v : Int) + 1 := by have := HF.out.ev; omega
        go_roundw
        case rel => exact ⟨f, A3, c3, C3, d3, HI2⟩
        case measure => (rw [HMS.out, HM2.out]; omega)
    have z1 : ¬ (v : Int) < (d.v : Int) := by omega
    have z2 : decide ((v : Int) < (d.v : Int)) = false := decide_eq_false z1
    have HDN := Lib.hid (HId.out.eq.trans (dto_end (e := d) (v := v) hlt))
    clear hlt HMS
    obtain ⟨x0, x1, x2, x3⟩ := HId.out.x
    obtain ⟨p0, p1, p2, p3⟩ := HId.out.p
    have f0 := HId.out.pf.2 0
    have f1 := HId.out.pf.2 1
    have f2 := HId.out.pf.2 2
    have f3 := HId.out.pf.2 3
    go_wp2_with fail
    clear x0 x1 x2 x3 p0 p1 p2 p3 f0 f1 f2 f3 z1 z2
    obtain ⟨e0, e1, e2, e3⟩ := HId.out.p.set4 (.int .u8 d.v) (.int .u8 d.k) (.slice A1 d.ns.length c1) (.slice C1 d.ts.length c2)
    refine bodyPost_ret (v := .tuple #[.agg #[.int .u8 d.v, .int .u8 d.k, .slice A1 d.ns.length c1, .slice C1 d.ts.length c2], .int .i64 0]) (by simp [results, Tryd.results32, go_sem, e0, e1, e2, e3]) rfl ?_
    unfold LdV
    rw [HDN.out]
    exact ⟨A1, c1, C1, c2, rfl, HId.out.own.imp id (fun h => ⟨h.1, (ownE_set4 h.2.1 (Nat.lt_succ_self _)).less (by omega), (ownE_set4 h.2.2 (Nat.lt_succ_self _)).less (by omega)⟩), HId.out.b.trans ((touch4 wr (w.heap.size + 1) _ _ _ _).below (Nat.le_succ _) HId.out.b.size)⟩

end Go.Proofs.YtiibeemjkdipnaaDoor.Upcast
