/-
  How an event's name is read.
-/
import Derived.Test.YtefkfjbdmglkjaaDoorG6
namespace Go.Proofs.YtefkfjbdmglkjaaDoor.Codec
open Go Go.RowKit
open Go.Proofs.YtefkfjbdmglkjaaDoor.Wire (Wr Only Rd Step U cell_row rdS fxV shR txR tkI tkE tkT rtext_any err_any)
open Go.Proofs.YtefkfjbdmglkjaaDoor.Schema

theorem own_one (w : World) (u : Value) (E : TypeId) (h : u.oneCell' = true) : Own (w.alloc (.cells #[u] E)) w.heap.size E (.slice (some ⟨w.heap.size, 0, none⟩) 1 1) [u] :=
  ⟨by simp [h], Or.inr ⟨w.heap.size, 1, #[u], rfl, Nat.le_refl _, heap_alloc_new w _, Nat.le_refl _, by decide, rfl, rfl⟩⟩


/-- the closures of a name, and what they share -/
structure Name2 (w' : World) (n g bg bs : Nat) (t : ByteArray) : Prop where
  og : One w' bg (.pointer (some ⟨g, 0, none⟩))
  os : One w' bs (.string t)
  fs : Free w' bs
  l1 : n ≤ bg
  l2 : bg < bs
def NameRes (w : World) (g : Nat) (z : Ending) (w' : World) : Prop := ∃ bg bs, z = .returned (.agg #[.func (.func 71) #[] #[.pointer (some ⟨bg, 0, none⟩), .pointer (some ⟨bs, 0, none⟩)], .func (.func 73) #[] #[.pointer (some ⟨bs, 0, none⟩)]]) ∧ Name2 w' w.heap.size g bg bs ⟨#[]⟩ ∧ Below w.heap.size w w'

set_option maxRecDepth 100000 in
set_option maxHeartbeats 1000000 in
theorem name_any (g : Nat) (w : World) :
    Calls Tryd.prog 44 #[.pointer (some ⟨g, 0, none⟩)] w (NameRes w g) := by
  have hb0 := (Below.refl w.heap.size w).alloc (Nat.le_refl _) (.cells #[.pointer (some ⟨g, 0, none⟩)] 107)
  have hb1 := (Below.refl (w.alloc (.cells #[.pointer (some ⟨g, 0, none⟩)] 107)).heap.size (w.alloc (.cells #[.pointer (some ⟨g, 0, none⟩)] 107))).alloc (Nat.le_refl _) (.cells #[.nilFunc, .nilFunc] 76)
  have hb2 := (Below.refl ((w.alloc (.cells #[.pointer (some ⟨g, 0, none⟩)] 107)).alloc (.cells #[.nilFunc, .nilFunc] 76)).heap.size ((w.alloc (.cells #[.pointer (some ⟨g, 0, none⟩)] 107)).alloc (.cells #[.nilFunc, .nilFunc] 76))).alloc (Nat.le_refl _) (.cells #[.string ⟨#[]⟩] 9)
  have hs : (w.alloc (.cells #[.pointer (some ⟨g, 0, none⟩)] 107)).heap.size = w.heap.size + 1 := by simp
  have hs2 : ((w.alloc (.cells #[.pointer (some ⟨g, 0, none⟩)] 107)).alloc (.cells #[.nilFunc, .nilFunc] 76)).heap.size = w.heap.size + 1 + 1 := by simp
  have HO := Lib.hid (((one_new w (.pointer (some ⟨g, 0, none⟩)) 107).below hb1).below hb2)
  have hp := (two_new (w.alloc (.cells #[.pointer (some ⟨g, 0, none⟩)] 107)) .nilFunc .nilFunc 76).below hb2
  have hf := (free_new (w.alloc (.cells #[.pointer (some ⟨g, 0, none⟩)] 107)) #[.nilFunc, .nilFunc] 76).below hb2
  rw [hs] at hp hf
  have hq := one_new ((w.alloc (.cells #[.pointer (some ⟨g, 0, none⟩)] 107)).alloc (.cells #[.nilFunc, .nilFunc] 76)) (.string ⟨#[]⟩) 9
  have hqf := free_new ((w.alloc (.cells #[.pointer (some ⟨g, 0, none⟩)] 107)).alloc (.cells #[.nilFunc, .nilFunc] 76)) #[.string ⟨#[]⟩] 9
  rw [hs2] at hq hqf
  have HP := Lib.hid hp
  have HF := Lib.hid hf
  have HQ := Lib.hid hq
  have HQF := Lib.hid hqf
  have HB := Lib.hid (below_step (below_step hb0 hb1) hb2)
  clear hb0 hb1 hb2 hp hf hq hqf hs hs2
  go_enter Tryd.func44, Tryd.ntmps44
  go_upto_region 2 with (fail)
  generalize (((w.alloc (.cells #[.pointer (some ⟨g, 0, none⟩)] 107)).alloc (.cells #[.nilFunc, .nilFunc] 76)).alloc (.cells #[.string ⟨#[]⟩] 9)) = V at HO HP HF HQ HQF HB ⊢
  obtain ⟨c0, c1⟩ := HP.out
  have f0 := HF.out.2 0
  have f1 := HF.out.2 1
  go_wp2_with fail
  clear c0 c1 f0 f1
  obtain ⟨d0, d1⟩ := (HP.out.set0 (.func (.func 71) #[] #[.pointer (some ⟨w.heap.size, 0, none⟩), .pointer (some ⟨(w.heap.size + 1 + 1), 0, none⟩)])).set1 (.func (.func 73) #[] #[.pointer (some ⟨(w.heap.size + 1 + 1), 0, none⟩)])
  have t1 := Schema.Touch.set V (w.heap.size + 1) 0 (.func (.func 71) #[] #[.pointer (some ⟨w.heap.size, 0, none⟩), .pointer (some ⟨(w.heap.size + 1 + 1), 0, none⟩)])
  have t2 := Schema.Touch.set (V.setCell ⟨w.heap.size + 1, 0, none⟩ (.func (.func 71) #[] #[.pointer (some ⟨w.heap.size, 0, none⟩), .pointer (some ⟨(w.heap.size + 1 + 1), 0, none⟩)])) (w.heap.size + 1) 1 (.func (.func 73) #[] #[.pointer (some ⟨(w.heap.size + 1 + 1), 0, none⟩)])
  have HO1 := Lib.hid ((HO.out.touch t1 (by omega)).touch t2 (by omega))
  have HQ1 := Lib.hid ((HQ.out.touch t1 (by omega)).touch t2 (by omega))
  have HQF1 := Lib.hid ((HQF.out.touch t1 (by omega)).touch t2 (by omega))
  have HB1 := Lib.hid ((HB.out.setCell (p := ⟨w.heap.size + 1, 0, none⟩) (Nat.le_succ _) (.func (.func 71) #[] #[.pointer (some ⟨w.heap.size, 0, none⟩), .pointer (some ⟨(w.heap.size + 1 + 1), 0, none⟩)])).setCell (p := ⟨w.heap.size + 1, 1, none⟩) (Nat.le_succ _) (.func (.func 73) #[] #[.pointer (some ⟨(w.heap.size + 1 + 1), 0, none⟩)]))
  refine bodyPost_ret (v := .agg #[.func (.func 71) #[] #[.pointer (some ⟨w.heap.size, 0, none⟩), .pointer (some ⟨(w.heap.size + 1 + 1), 0, none⟩)], .func (.func 73) #[] #[.pointer (some ⟨(w.heap.size + 1 + 1), 0, none⟩)]]) (by simp [results, Tryd.results44, go_sem, d0, d1]) rfl ⟨_, _, rfl, ⟨HO1.out, HQ1.out, HQF1.out, Nat.le_refl _, by omega⟩, HB1.out⟩

/-- the next name -/
def tx (s : ByteArray) (i e : Nat) : ByteArray × Nat × Nat := txR s i e 24
def Nm1Res (bs g r top : Nat) (s : ByteArray) (a1 a2 a3 a5 : Value) (w : World) (R : ByteArray × Nat × Nat) (z : Ending) (w' : World) : Prop := ∃ q, z = .returned (.tuple #[]) ∧ Rdg 0 r g top w w' s R.2.1 R.2.2 a1 a2 a3 (.slice (some ⟨q, 0, none⟩) 1 1) a5 ∧ One w' bs (.string R.1) ∧ Own w' w.heap.size 9 (.slice (some ⟨q, 0, none⟩) 1 1) [.string R.1] ∧ High top bs w w'

set_option maxRecDepth 100000 in
set_option maxHeartbeats 1000000 in
theorem name1_any (bg bs g r top : Nat) (s : ByteArray) (i e : Nat) (a1 a2 a3 a4 a5 : Value) (t0 : ByteArray) (w : World) (hr : Rd w r s i e) (hi : i ≤ s.size) (hs : s.size ≤ 1000000000000) (hx : Six w g (.pointer (some ⟨r, 0, none⟩)) a1 a2 a3 a4 a5) (hf : Free w g) (hc : Name2 w top g bg bs t0) (h1 : r < g) (h2 : g < top) :
    Calls Tryd.prog 71 #[.pointer (some ⟨bg, 0, none⟩), .pointer (some ⟨bs, 0, none⟩)] w (Nm1Res bs g r top s a1 a2 a3 a5 w (tx s i e)) := by
  have HST := Lib.hid (fun W (hR : Rd W r s i e) => show Calls Tryd.prog 72 #[.pointer (some ⟨r, 0, none⟩), .int .i64 24] W (fun x w' => x = .returned (.string (tx s i e).1) ∧ Step W w' r s (tx s i e).2.1 (tx s i e).2.2) from Wire.rtext_any r s i e 24 W hR hi hs (by decide))
  generalize tx s i e = R at HST ⊢
  obtain ⟨t, i1, e1⟩ := R
  simp only at HST
  have HR := Lib.hid hr
  have HX := Lib.hid hx
  have HF := Lib.hid hf
  have HO := Lib.hid hc.og
  have HS := Lib.hid hc.os
  have HSF := Lib.hid hc.fs
  have HFR := Lib.hid (Fr.refl r g top w)
  have HHI := Lib.hid (High.refl top bs w)
  have HORD := Lib.hid (And.intro h1 (And.intro h2 (And.intro hc.l1 (And.intro hc.l2 (And.intro hr.size (cell_lt hc.os))))))
  clear hr hx hf hc
  go_enter Tryd.func71, Tryd.ntmps71
  obtain ⟨x0, x1, x2, x3, x4, x5⟩ := HX.out
  have o0 : w.cell? ⟨bg, 0, none⟩ = some (.pointer (some ⟨g, 0, none⟩)) := HO.out
  go_wp2_with fail
  clear x0 x1 x2 x3 x4 x5 o0
  refine (HST.out w HR.out).mono ?_
  rintro z W1 ⟨rfl, hst⟩
  have ht := touch_step hst
  have hord := HORD.out
  replace HX := Lib.hid (HX.out.touch ht (by omega))
  replace HF := Lib.hid (HF.out.touch ht (by omega))
  replace HO := Lib.hid (HO.out.touch ht (by omega))
  replace HS := Lib.hid (HS.out.touch ht (by omega))
  replace HSF := Lib.hid (HSF.out.touch ht (by omega))
  replace HFR := Lib.hid (HFR.out.touch ht (by omega))
  replace HHI := Lib.hid (HHI.out.touch ht (by omega))
  clear hord
  replace HR := Lib.hid hst.1
  replace HORD := Lib.hid (And.intro HORD.out ht.size)
  clear ht hst
  have o0 : W1.cell? ⟨bs, 0, none⟩ = some (.string t0) := HS.out
  have f0 := HSF.out.2 0
  go_upto_region 1 with (fail)
  clear o0 f0
  have ht := Schema.Touch.set W1 bs 0 (.string t)
  have hx := HS.out.set (.string t)
  have hf := HSF.out.set bs 0 (.string t)
  have hord := HORD.out
  replace HR := Lib.hid (HR.out.touch ht (by omega))
  replace HX := Lib.hid (HX.out.touch ht (by omega))
  replace HF := Lib.hid (HF.out.touch ht (by omega))
  replace HO := Lib.hid (HO.out.touch ht (by omega))
  replace HFR := Lib.hid (HFR.out.touch ht (by omega))
  replace HHI := Lib.hid (HHI.out.touch ht (by omega))
  clear hord
  replace HORD := Lib.hid (And.intro HORD.out ht.size)
  replace HS := Lib.hid hx
  replace HSF := Lib.hid hf
  clear ht hx hf
  generalize W1.setCell ⟨bs, 0, none⟩ (.string t) = W2 at HR HX HF HO HS HSF HFR HHI HORD ⊢
  have hb := (Below.refl W2.heap.size W2).alloc (Nat.le_refl _) (.cells #[.string t] 9)
  have ho := own_one W2 (.string t) 9 rfl
  have hq : w.heap.size ≤ W2.heap.size := by have hord := HORD.out; omega
  have hs1 : W2.heap.size + 1 ≤ (W2.alloc (.cells #[.string t] 9)).heap.size := by simp
  obtain ⟨x0, x1, x2, x3, x4, x5⟩ := HX.out
  have o0 : W2.cell? ⟨bg, 0, none⟩ = some (.pointer (some ⟨g, 0, none⟩)) := HO.out
  have o1 : W2.cell? ⟨bs, 0, none⟩ = some (.string t) := HS.out
  have x4' := (HX.out.below hb).2.2.2.2.1
  have f4 := (HF.out.below hb).2 4
  go_wp2_with fail
  clear x0 x1 x2 x3 x4 x5 o0 o1 x4' f4
  replace HR := Lib.hid (HR.out.below hb)
  replace HX := Lib.hid (HX.out.below hb)
  replace HF := Lib.hid (HF.out.below hb)
  replace HO := Lib.hid (HO.out.below hb)
  replace HS := Lib.hid (HS.out.below hb)
  replace HSF := Lib.hid (HSF.out.below hb)
  replace HFR := Lib.hid (HFR.out.below hb)
  replace HHI := Lib.hid (HHI.out.below hb)
  have HW := Lib.hid (ho.less hq)
  clear ho hq hb
  replace HORD := Lib.hid (And.intro HORD.out hs1)
  clear hs1
  generalize hWs : W2.heap.size = q at HR HX HF HO HS HSF HFR HHI HW HORD ⊢
  clear hWs
  generalize W2.alloc (.cells #[.string t] 9) = W3 at HR HX HF HO HS HSF HFR HHI HW HORD ⊢
  have ht := Schema.Touch.set W3 g 4 (.slice (some ⟨q, 0, none⟩) 1 1)
  have hx := HX.out.set4 (.slice (some ⟨q, 0, none⟩) 1 1)
  have hf := HF.out.set g 4 (.slice (some ⟨q, 0, none⟩) 1 1)
  have hord := HORD.out
  have HW2 := Lib.hid (Schema.Own.touch HW.out (fun b hb => World.ownsRow.lt HW.out b hb |>.2) ht (Or.inl (by omega)))
  clear hord HW
  have HW := HW2
  clear HW2
  have hord := HORD.out
  replace HR := Lib.hid (HR.out.touch ht (by omega))
  replace HO := Lib.hid (HO.out.touch ht (by omega))
  replace HS := Lib.hid (HS.out.touch ht (by omega))
  replace HSF := Lib.hid (HSF.out.touch ht (by omega))
  replace HFR := Lib.hid (HFR.out.touch ht (by omega))
  replace HHI := Lib.hid (HHI.out.touch ht (by omega))
  clear hord
  replace HX := Lib.hid hx
  replace HF := Lib.hid hf
  clear ht hx hf
  go_end0
  exact ⟨q, rfl, ⟨HR.out, HX.out, HF.out, HFR.out⟩, HS.out, HW.out, HHI.out⟩

theorem name2_any (bs : Nat) (t : ByteArray) (ht : t.size ≤ maxLen) (w : World) (h1 : One w bs (.string t)) :
    Calls Tryd.prog 73 #[.pointer (some ⟨bs, 0, none⟩)] w fun z w' => z = .returned (.bool (mayName t)) ∧ Below w.heap.size w w' := by
  have c1 : w.cell? ⟨bs, 0, none⟩ = some (.string t) := h1
  have HM := Lib.hid (mayName_any t ht w)
  clear h1
  go_enter Tryd.func73, Tryd.ntmps73
  go_wp2_with fail
  refine HM.out.mono ?_
  rintro z w1 ⟨rfl, hb⟩
  have HB := Lib.hid hb
  clear hb c1
  go_wp2_with fail
  go_ret
  exact ⟨rfl, HB.out⟩
/-- what is wrong behind a name -/
def wrT (R : ByteArray × Nat × Nat) : Nat := if R.2.2 = 0 then (if mayName R.1 then 0 else 4) else R.2.2
def ReadTRes (g r top : Nat) (s : ByteArray) (a1 a2 a3 : Value) (w : World) (R : ByteArray × Nat × Nat) (z : Ending) (w' : World) : Prop := ∃ q, z = .returned (.tuple #[]) ∧ Rdg 0 r g top w w' s R.2.1 R.2.2 a1 a2 a3 (.slice (some ⟨q, 0, none⟩) 1 1) (.int .i64 (wrT R : Int)) ∧ Own w' w.heap.size 9 (.slice (some ⟨q, 0, none⟩) 1 1) [.string R.1]

set_option maxRecDepth 100000 in
set_option maxHeartbeats 1000000 in
theorem readT_any (bg bs g r top : Nat) (s : ByteArray) (i e : Nat) (a1 a2 a3 a4 a5 : Value) (t0 : ByteArray) (w : World) (hr : Rd w r s i e) (hi : i ≤ s.size) (hs : s.size ≤ 1000000000000) (hx : Six w g (.pointer (some ⟨r, 0, none⟩)) a1 a2 a3 a4 a5) (hf : Free w g) (hc : Name2 w top g bg bs t0) (h1 : r < g) (h2 : g < top) (htl : (tx s i e).1.size ≤ maxLen) (h5 : a5 = .int .i64 0) :
    Calls Tryd.prog 40 #[.pointer (some ⟨g, 0, none⟩), .agg #[.func (.func 71) #[] #[.pointer (some ⟨bg, 0, none⟩), .pointer (some ⟨bs, 0, none⟩)], .func (.func 73) #[] #[.pointer (some ⟨bs, 0, none⟩)]]] w (ReadTRes g r top s a1 a2 a3 w (tx s i e)) := by
  subst h5
  have HC1 := Lib.hid (fun W (q1 : Rd W r s i e) q2 q3 q5 => name1_any bg bs g r top s i e a1 a2 a3 a4 (.int .i64 0) t0 W q1 hi hs q2 q3 q5 h1 h2)
  generalize tx s i e = R at HC1 htl ⊢
  obtain ⟨t, i1, e1⟩ := R
  simp only at htl
  have hb := (Below.refl w.heap.size w).alloc (Nat.le_refl _) (.cells #[.func (.func 71) #[] #[.pointer (some ⟨bg, 0, none⟩), .pointer (some ⟨bs, 0, none⟩)], .func (.func 73) #[] #[.pointer (some ⟨bs, 0, none⟩)]] 76)
  have hs1 : w.heap.size + 1 ≤ (w.alloc (.cells #[.func (.func 71) #[] #[.pointer (some ⟨bg, 0, none⟩), .pointer (some ⟨bs, 0, none⟩)], .func (.func 73) #[] #[.pointer (some ⟨bs, 0, none⟩)]] 76)).heap.size := by simp
  have HR := Lib.hid (hr.below hb)
  have HX := Lib.hid (hx.below hb)
  have HF := Lib.hid (hf.below hb)
  have HC := Lib.hid (show Name2 _ top g bg bs t0 from { hc with og := hc.og.below hb, os := hc.os.below hb, fs := hc.fs.below hb })
  have HFR := Lib.hid ((Fr.refl r g top w).below hb)
  have HT := Lib.hid (two_new w (.func (.func 71) #[] #[.pointer (some ⟨bg, 0, none⟩), .pointer (some ⟨bs, 0, none⟩)]) (.func (.func 73) #[] #[.pointer (some ⟨bs, 0, none⟩)]) 76)
  have HTL := Lib.hid htl
  have HORD := Lib.hid (And.intro h1 (And.intro h2 (And.intro hc.l1 (And.intro hc.l2 (And.intro hr.size (And.intro (cell_lt hc.os) hs1))))))
  clear hb hs1 hr hx hf hc htl
  go_enter Tryd.func40, Tryd.ntmps40
  go_upto_region 1 with (fail)
  generalize w.alloc (.cells #[.func (.func 71) #[] #[.pointer (some ⟨bg, 0, none⟩), .pointer (some ⟨bs, 0, none⟩)], .func (.func 73) #[] #[.pointer (some ⟨bs, 0, none⟩)]] 76) = W0 at HR HX HF HT HC HFR HORD ⊢
  obtain ⟨x0, x1, x2, x3, x4, x5⟩ := HX.out
  obtain ⟨t0', t1⟩ := HT.out
  go_wp2_with fail
  clear x0 x1 x2 x3 x4 x5 t0' t1
  refine (HC1.out W0 HR.out HX.out HF.out HC.out).mono ?_
  rintro z W1 ⟨q, rfl, hg, hm, hn2, hhi⟩
  simp only at hg hm hn2
  have hord := HORD.out
  have HFR1 := Lib.hid (HFR.out.trans hg.fr)
  have HT1 := Lib.hid (show Two W1 w.heap.size _ _ from ⟨(World.cell?_of_block (hhi.block w.heap.size (by omega) (by omega) (by omega))).trans HT.out.1, (World.cell?_of_block (hhi.block w.heap.size (by omega) (by omega) (by omega))).trans HT.out.2⟩)
  have HW := Lib.hid (hn2.less (base' := w.heap.size) (by omega))
  clear hord
  clear HT HFR HR HX HF HC hhi
  have HT := HT1
  have HFR := HFR1
  have HR := Lib.hid hg.rd
  have HX := Lib.hid hg.six
  have HF := Lib.hid hg.free
  have HM := Lib.hid hm
  clear HT1 HFR1 hm hn2
  replace HORD := Lib.hid (And.intro HORD.out hg.fr.size)
  clear hg
  obtain ⟨x0, x1, x2, x3, x4, x5⟩ := HX.out
  have f5 := HF.out.2 5
  go_wp2_with fail
  clear x0 x1 x2 x3 x4 x5 f5
  refine (err_any r s i1 e1 W1 HR.out).mono ?_
  rintro z z1 ⟨rfl, nq, rfl⟩
  have hb := below_dn W1.heap.size W1 nq
  replace HR := Lib.hid (HR.out.below hb)
  replace HX := Lib.hid (HX.out.below hb)
  replace HF := Lib.hid (HF.out.below hb)
  replace HT := Lib.hid (HT.out.below hb)
  replace HFR := Lib.hid (HFR.out.below hb)
  replace HM := Lib.hid (HM.out.below hb)
  replace HW := Lib.hid (HW.out.below hb)
  clear hb
  generalize W1.drewN nq = W2 at HR HX HF HT HFR HM HW ⊢
  obtain ⟨x0, x1, x2, x3, x4, x5⟩ := HX.out
  obtain ⟨t0', t1⟩ := HT.out
  have f5 := HF.out.2 5
  have HWD := Lib.hid (show wrT (t, i1, e1) = if e1 = 0 then (if mayName t then 0 else 4) else e1 from rfl)
  by_cases hE : e1 = 0
  · subst hE
    go_upto_region 4 with (fail)
    clear x0 x1 x2 x3 x4 x5 t0' t1 f5
    have ht := Schema.Touch.set W2 g 5 (.int .i64 0)
    have hx := HX.out.set5 (.int .i64 0)
    have hf := HF.out.set g 5 (.int .i64 0)
    have hord := HORD.out
    have HW2 := Lib.hid (Schema.Own.touch HW.out (fun b hb => World.ownsRow.lt HW.out b hb |>.2) ht (Or.inl (by omega)))
    clear hord HW
    have hord := HORD.out
    replace HR := Lib.hid (HR.out.touch ht (by omega))
    replace HT := Lib.hid (HT.out.touch ht (by omega))
    replace HFR := Lib.hid (HFR.out.touch ht (by omega))
    replace HM := Lib.hid (HM.out.touch ht (by omega))
    clear hord
    have HW := HW2
    clear HW2
    replace HX := Lib.hid hx
    replace HF := Lib.hid hf
    clear ht hx hf
    generalize W2.setCell ⟨g, 5, none⟩ (.int .i64 0) = W3 at HR HX HF HT HFR HM HW ⊢
    obtain ⟨x0, x1, x2, x3, x4, x5⟩ := HX.out
    obtain ⟨t0', t1⟩ := HT.out
    have f5 := HF.out.2 5
    go_wp2_with fail
    clear x0 x1 x2 x3 x4 x5 t0' t1 f5
    refine (name2_any bs t HTL.out W3 HM.out).mono ?_
    rintro z W4 ⟨rfl, hb⟩
    replace HR := Lib.hid (HR.out.below hb)
    replace HX := Lib.hid (HX.out.below hb)
    replace HF := Lib.hid (HF.out.below hb)
    replace HT := Lib.hid (HT.out.below hb)
    replace HFR := Lib.hid (HFR.out.below hb)
    replace HM := Lib.hid (HM.out.below hb)
    replace HW := Lib.hid (HW.out.below hb)
    clear hb
    cases hm : mayName t with
    | true =>
      have HD := Lib.hid hm
      clear hm
      go_wp2_with fail
      go_end0
      have hw : wrT (t, i1, 0) = 0 := by rw [HWD.out, HD.out]; rfl
      exact ⟨q, rfl, ⟨HR.out, by rw [hw]; exact HX.out, HF.out, HFR.out⟩, HW.out⟩
    | false =>
      have HD := Lib.hid hm
      clear hm
      obtain ⟨x0, x1, x2, x3, x4, x5⟩ := HX.out
      have f5 := HF.out.2 5
      go_wp2_with fail
      clear x0 x1 x2 x3 x4 x5 f5
      have ht := Schema.Touch.set W4 g 5 (.int .i64 4)
      have hx := HX.out.set5 (.int .i64 4)
      have hf := HF.out.set g 5 (.int .i64 4)
      have hord := HORD.out
      have HW2 := Lib.hid (Schema.Own.touch HW.out (fun b hb => World.ownsRow.lt HW.out b hb |>.2) ht (Or.inl (by omega)))
      clear hord HW
      have hord := HORD.out
      replace HR := Lib.hid (HR.out.touch ht (by omega))
      replace HT := Lib.hid (HT.out.touch ht (by omega))
      replace HFR := Lib.hid (HFR.out.touch ht (by omega))
      replace HM := Lib.hid (HM.out.touch ht (by omega))
      clear hord
      have HW := HW2
      clear HW2
      replace HX := Lib.hid hx
      replace HF := Lib.hid hf
      clear ht hx hf
      generalize W4.setCell ⟨g, 5, none⟩ (.int .i64 4) = W5 at HR HX HF HT HFR HM HW ⊢
      go_end0
      have hw : wrT (t, i1, 0) = 4 := by rw [HWD.out, HD.out]; rfl
      exact ⟨q, rfl, ⟨HR.out, by rw [hw]; exact HX.out, HF.out, HFR.out⟩, HW.out⟩
  · have hE1 : ((e1 : Int) == 0) = false := beq_eq_false_iff_ne.2 (by omega)
    have hE2 : (e1 == 0) = false := beq_eq_false_iff_ne.2 hE
    have HEE := Lib.hid hE
    clear hE
    go_upto_region 4 with (fail)
    clear x0 x1 x2 x3 x4 x5 t0' t1 f5
    have ht := Schema.Touch.set W2 g 5 (.int .i64 (e1 : Int))
    have hx := HX.out.set5 (.int .i64 (e1 : Int))
    have hf := HF.out.set g 5 (.int .i64 (e1 : Int))
    have hord := HORD.out
    have HW2 := Lib.hid (Schema.Own.touch HW.out (fun b hb => World.ownsRow.lt HW.out b hb |>.2) ht (Or.inl (by omega)))
    clear hord HW
    have hord := HORD.out
    replace HR := Lib.hid (HR.out.touch ht (by omega))
    replace HT := Lib.hid (HT.out.touch ht (by omega))
    replace HFR := Lib.hid (HFR.out.touch ht (by omega))
    replace HM := Lib.hid (HM.out.touch ht (by omega))
    clear hord
    have HW := HW2
    clear HW2
    replace HX := Lib.hid hx
    replace HF := Lib.hid hf
    clear ht hx hf
    generalize W2.setCell ⟨g, 5, none⟩ (.int .i64 (e1 : Int)) = W3 at HR HX HF HT HFR HM HW ⊢
    obtain ⟨x0, x1, x2, x3, x4, x5⟩ := HX.out
    go_wp2_with fail
    clear x0 x1 x2 x3 x4 x5
    go_end0
    have hw : wrT (t, i1, e1) = e1 := by rw [HWD.out, if_neg HEE.out]
    exact ⟨q, rfl, ⟨HR.out, by rw [hw]; exact HX.out, HF.out, HFR.out⟩, HW.out⟩

end Go.Proofs.YtefkfjbdmglkjaaDoor.Codec
