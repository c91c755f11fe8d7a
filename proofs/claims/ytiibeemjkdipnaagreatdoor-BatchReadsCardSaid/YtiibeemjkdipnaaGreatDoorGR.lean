import Derived.Test.YtiibeemjkdipnaaGreatDoorGLUnlike
import Derived.Test.YtiibeemjkdipnaaGreatDoorB24
import Derived.RegionTactic
import Derived.ChangeAlike
/-
  The document's Get.
-/
namespace Go.Proofs.YtiibeemjkdipnaaGreatDoor.Codec
open Go Go.RowKit
open Go.Proofs.YtiibeemjkdipnaaGreatDoor.Wire (Dr DStep drS Rd Step U fxV shR txR tkI tkE tkT dfixed_any dshort_any dtext_any errAt)
open Go.Proofs.YtiibeemjkdipnaaGreatDoor.Schema

theorem foldR_stay {v : Nat} {s l : ByteArray} {k : Nat} {st : RS} (h : (foldR v s l k st).w ≠ 0) : ∀ n, foldR v s l (k + n) st = foldR v s l k st := by
  intro n
  induction n with
  | zero => rfl
  | succ n ih => rw [show k + (n + 1) = (k + n) + 1 from rfl, foldR_succ, ih, stepR_skip h]
theorem getW_rs {s : ByteArray} {i e v : Nat} (hv : 1 ≤ v ∧ v ≤ 3) (h : (rs1 s i e v).w ≠ 0) : getW s i e v = (rs1 s i e v).w := by
  unfold getW; rw [if_pos hv, rs2_w h]
theorem getW_num {s : ByteArray} {i e v : Nat} (hv : 1 ≤ v ∧ v ≤ 3) (k : Nat) (hk : k ≤ (lets v (kd s i e)).size) (h : (foldR v s (lets v (kd s i e)) k (rs0 s i e v)).w ≠ 0) : getW s i e v = (foldR v s (lets v (kd s i e)) k (rs0 s i e v)).w := by
  have hr : rs1 s i e v = foldR v s (lets v (kd s i e)) k (rs0 s i e v) := by
    unfold rs1
    have := foldR_stay h ((lets v (kd s i e)).size - k)
    rw [show k + ((lets v (kd s i e)).size - k) = (lets v (kd s i e)).size by omega] at this
    exact this
  rw [getW_rs hv (by rw [hr]; exact h), hr]
theorem getW_kind {s : ByteArray} {i e v : Nat} (hv : 1 ≤ v ∧ v ≤ 3) (h : wrK s i e v ≠ 0) : getW s i e v = wrK s i e v := getW_num hv 0 (Nat.zero_le _) h
theorem getW_text {s : ByteArray} {i e v : Nat} (hv : 1 ≤ v ∧ v ≤ 3) (h : (rs1 s i e v).w = 0) (ht : (tall v (kd s i e) && tru (kd s i e)) = true) : getW s i e v = wrT (tx s (rs1 s i e v).i (rs1 s i e v).e) ∧ (wrT (tx s (rs1 s i e v).i (rs1 s i e v).e) = 0 → getE s i e v = ⟨v, kd s i e, (rs1 s i e v).ns, [(tx s (rs1 s i e v).i (rs1 s i e v).e).1]⟩ ∧ getI s i e v = (tx s (rs1 s i e v).i (rs1 s i e v).e).2.1 ∧ getF s i e v = (tx s (rs1 s i e v).i (rs1 s i e v).e).2.2) := by
  have h2 : rs2 s i e v = ((tx s (rs1 s i e v).i (rs1 s i e v).e).2.1, (tx s (rs1 s i e v).i (rs1 s i e v).e).2.2, wrT (tx s (rs1 s i e v).i (rs1 s i e v).e), [(tx s (rs1 s i e v).i (rs1 s i e v).e).1]) := by unfold rs2; rw [if_pos ht, if_pos h]
  have hw : getW s i e v = wrT (tx s (rs1 s i e v).i (rs1 s i e v).e) := by unfold getW; rw [if_pos hv, h2]
  refine ⟨hw, fun h0 => ⟨?_, ?_, ?_⟩⟩
  · unfold getE; rw [if_pos (hw.trans h0), h2]
  · unfold getI; rw [if_pos hv, h2]
  · unfold getF; rw [if_pos hv, h2]
theorem getW_plain {s : ByteArray} {i e v : Nat} (hv : 1 ≤ v ∧ v ≤ 3) (h : (rs1 s i e v).w = 0) (ht : (tall v (kd s i e) && tru (kd s i e)) = false) : getW s i e v = 0 ∧ getE s i e v = ⟨v, kd s i e, (rs1 s i e v).ns, []⟩ ∧ getI s i e v = (rs1 s i e v).i ∧ getF s i e v = (rs1 s i e v).e := by
  have h2 : rs2 s i e v = ((rs1 s i e v).i, (rs1 s i e v).e, (rs1 s i e v).w, []) := by unfold rs2; rw [if_neg (by rw [ht]; decide)]
  have hw : getW s i e v = 0 := by unfold getW; rw [if_pos hv, h2]; exact h
  refine ⟨hw, ?_, ?_, ?_⟩
  · unfold getE; rw [if_pos hw, h2]
  · unfold getI; rw [if_pos hv, h2]
  · unfold getF; rw [if_pos hv, h2]

/-- what the document's Get tells -/
def DGetRes (d : Nat) (s : ByteArray) (i v : Nat) (w : World) (z : Ending) (w' : World) : Prop := ∃ A ca C cc, z = .returned (.tuple #[evV A ca C cc (getE s i 0 v), .int .i64 (getW s i 0 v : Int)]) ∧ OwnE w' w.heap.size 2 (.slice A (getE s i 0 v).ns.length ca) (nums (getE s i 0 v).ns) ∧ OwnE w' w.heap.size 9 (.slice C (getE s i 0 v).ts.length cc) (texts (getE s i 0 v).ts) ∧ (getW s i 0 v = 0 → Dr w' d s (getI s i 0 v) 0 ∧ getF s i 0 v = 0) ∧ w.grownBy w' (some d)
theorem dget_err {d : Nat} {s : ByteArray} {i v : Nat} {w W : World} {x : Nat} (hx : getW s i 0 v = x) (h0 : x ≠ 0) (hg : w.grownBy W (some d)) : DGetRes d s i v w (.returned (.tuple #[.agg #[.int .u8 0, .int .u8 0, .slice none 0 0, .slice none 0 0], .int .i64 (x : Int)])) W := by
  have he : getE s i 0 v = noEv := by unfold getE; rw [if_neg (by rw [hx]; exact h0)]
  refine ⟨none, 0, none, 0, ?_, ?_, ?_, fun h => absurd (hx.symm.trans h) h0, hg⟩
  · rw [he, hx]; rfl
  · rw [he]; exact ownE_nil _ _ _
  · rw [he]; exact ownE_nil _ _ _
theorem cell_grown {w w' : World} {d b o : Nat} {v : Value} (h : w.cell? ⟨b, o, none⟩ = some v) (g : w.grownBy w' (some d)) (hne : b ≠ d) : w'.cell? ⟨b, o, none⟩ = some v := (World.cell?_of_block (g.block b (cell_lt h) (fun e => by injection e with e; exact hne e))).trans h
theorem four_grown {w w' : World} {d b : Nat} {a0 a1 a2 a3 : Value} (h : Four w b a0 a1 a2 a3) (g : w.grownBy w' (some d)) (hne : b ≠ d) : Four w' b a0 a1 a2 a3 := ⟨cell_grown h.1 g hne, cell_grown h.2.1 g hne, cell_grown h.2.2.1 g hne, cell_grown h.2.2.2 g hne⟩
theorem free_grown {w w' : World} {d b : Nat} (h : Free w b) (g : w.grownBy w' (some d)) (hne : b ≠ d) : Free w' b := ⟨Nat.lt_of_lt_of_le h.1 g.size, fun o => (World.frozen?_of_block (g.block _ h.1 (fun e => by injection e with e; exact hne e))).trans (h.2 o)⟩
theorem grown_touch {w W W' : World} {d lo hi : Nat} (h : w.grownBy W (some d)) (t : Schema.Touch lo hi W W') (hl : w.heap.size ≤ lo) : w.grownBy W' (some d) := ⟨t.os.trans h.os, t.tape.trans h.tape, t.output.trans h.output, Nat.le_trans h.size t.size, fun k hk hn => (t.block k (Nat.lt_of_lt_of_le hk h.size) (Or.inl (by omega))).trans (h.block k hk hn)⟩
theorem grown_drew {w W : World} {o : Option Nat} (h : w.grownBy W o) : w.grownBy W.drew o := ⟨h.os, h.tape, h.output, h.size, h.block⟩
theorem grown_step {w W W' : World} {d : Nat} (h : w.grownBy W (some d)) (k : W.grownBy W' (some d)) : w.grownBy W' (some d) := Wire.grown_trans h k
theorem grown_bel {w W W' : World} {d : Nat} (h : w.grownBy W (some d)) (k : Below W.heap.size W W') : w.grownBy W' (some d) := Wire.grown_trans h (Wire.grown_below k)
theorem dr_bel {w w' : World} {d : Nat} {s : ByteArray} {i e : Nat} (h : Dr w d s i e) (hb : Below w.heap.size w w') : Dr w' d s i e := (hb.block d (Wire.row_lt h)).trans h
theorem dr_touch {w w' : World} {d lo hi : Nat} {s : ByteArray} {i e : Nat} (h : Dr w d s i e) (g : Schema.Touch lo hi w w') (ho : d < lo ∨ hi ≤ d) : Dr w' d s i e := (g.block d (Wire.row_lt h) ho).trans h
theorem touch4 (W : World) (b : Nat) (x0 x1 x2 x3 : Value) : Schema.Touch b (b + 1) W ((((W.setCell ⟨b, 0, none⟩ x0).setCell ⟨b, 1, none⟩ x1).setCell ⟨b, 2, none⟩ x2).setCell ⟨b, 3, none⟩ x3) :=
  (((Schema.Touch.set W b 0 x0).trans (Schema.Touch.set _ b 1 x1)).trans (Schema.Touch.set _ b 2 x2)).trans (Schema.Touch.set _ b 3 x3)
theorem own_grown {w w' : World} {d base top : Nat} {E : TypeId} {v : Value} {vs : List Value} (h : OwnB w base top E v vs) (g : w.grownBy w' (some d)) (hd : d < base) : OwnB w' base top E v vs := by
  refine h.imp (fun h => ⟨?_, h.2⟩) id
  obtain ⟨⟨h1, h2⟩, _⟩ := h
  refine ⟨h1, ?_⟩
  rcases h2 with h2 | ⟨q, cap, cur, e, hb, hq, r⟩
  · exact Or.inl h2
  · exact Or.inr ⟨q, cap, cur, e, hb, by rw [g.block q (Array.getElem?_eq_some_iff.1 hq).1 (fun e => by injection e with e; omega)]; exact hq, r⟩

theorem own_tx (w : World) (T : ByteArray) : Own (w.alloc (.cells #[.string T] 9)) w.heap.size 9 (.slice (some ⟨w.heap.size, 0, none⟩) 1 1) (texts [T]) :=
  ⟨rfl, Or.inr ⟨w.heap.size, 1, #[.string T], rfl, Nat.le_refl _, heap_alloc_new w _, Nat.le_refl _, by unfold maxLen; decide, rfl, rfl⟩⟩
/-- while the numbers are read -/
structure DLoop (d : Nat) (s l : ByteArray) (v kk : Nat) (st0 : RS) (q : Nat) (w : World) (k : Nat) (wr : World) : Prop where
  w0 : (foldR v s l k st0).w = 0
  e0 : (foldR v s l k st0).e = 0
  i0 : (foldR v s l k st0).i ≤ s.size
  len : (foldR v s l k st0).ns.length = k
  dr : Dr wr d s (foldR v s l k st0).i 0
  grown : w.grownBy wr (some d)
  four : Four wr w.heap.size (.int .u8 0) (.int .u8 0) (.slice none 0 0) (.slice none 0 0)
  free : Free wr w.heap.size
  box : ∃ A c, Four wr q (.int .u8 (v : Int)) (.int .u8 (kk : Int)) (.slice A (foldR v s l k st0).ns.length c) (.slice none 0 0) ∧ OwnB wr (q + 1) wr.heap.size 2 (.slice A (foldR v s l k st0).ns.length c) (nums (foldR v s l k st0).ns)
  boxf : Free wr q

set_option maxRecDepth 100000 in
set_option maxHeartbeats 4000000 in
theorem DGet_any (d : Nat) (s : ByteArray) (i v : Nat) (w : World) (hd : Dr w d s i 0) (hi : i ≤ s.size) (hs : s.size ≤ 1000000000000) (hv : v < 256) :
    Calls Tryz.prog 40 #[.pointer (some ⟨d, 0, none⟩), .int .u8 (v : Int)] w (DGetRes d s i v w) := by
  have hb := (Below.refl w.heap.size w).alloc (Nat.le_refl _) (.cells #[.int .u8 0, .int .u8 0, .slice none 0 0, .slice none 0 0] 39)
  have HD := Lib.hid (dr_bel hd hb)
  have HP := Lib.hid (show Four _ w.heap.size _ _ _ _ from box4 w (.int .u8 0) (.int .u8 0) (.slice none 0 0) (.slice none 0 0) 39)
  have HPF := Lib.hid (free_new w #[.int .u8 0, .int .u8 0, .slice none 0 0, .slice none 0 0] 39)
  have HG : Hid (w.grownBy _ (some d)) := Wire.grown_below hb
  have HDW := Lib.hid (Wire.row_lt hd)
  clear hb hd
  go_enter Tryz.func40, Tryz.ntmps40
  go_upto_region 1 with (fail)
  generalize w.alloc (.cells #[.int .u8 0, .int .u8 0, .slice none 0 0, .slice none 0 0] 39) = W0 at HD HP HPF HG ⊢
  by_cases hv1 : v < 1
  · have z1 : decide ((v : Int) < 1) = true := decide_eq_true (by omega)
    have z2 : (v : Int) < 1 := by omega
    obtain ⟨p0, p1, p2, p3⟩ := HP.out
    have f0 := HPF.out.2 0
    have f1 := HPF.out.2 1
    have f2 := HPF.out.2 2
    have f3 := HPF.out.2 3
    go_wp2_with fail
    clear p0 p1 p2 p3 f0 f1 f2 f3
    have hp := (show Four W0 w.heap.size _ _ _ _ from HP.out).set0 (.int .u8 0) |>.set1 (.int .u8 0) |>.set2 (.slice none 0 0) |>.set3 (.slice none 0 0)
    obtain ⟨d0, d1, d2, d3⟩ := hp
    refine bodyPost_ret (v := .tuple #[.agg #[.int .u8 0, .int .u8 0, .slice none 0 0, .slice none 0 0], .int .i64 43]) (by simp [results, Tryz.results40, go_sem, d0, d1, d2, d3]) rfl (dget_err (x := 43) (if_neg (by omega)) (by decide) ((grown_touch (show w.grownBy W0 (some d) from HG.out) (touch4 _ w.heap.size (.int .u8 0) (.int .u8 0) (.slice none 0 0) (.slice none 0 0)) (Nat.le_refl _))))
  have z1 : decide ((v : Int) < 1) = false := decide_eq_false (by omega)
  have z2 : ¬ (v : Int) < 1 := by omega
  by_cases hv3 : 3 < v
  · have z3 : decide ((v : Int) > 3) = true := decide_eq_true (by omega)
    have z4 : (3 : Int) < (v : Int) := by omega
    obtain ⟨p0, p1, p2, p3⟩ := HP.out
    have f0 := HPF.out.2 0
    have f1 := HPF.out.2 1
    have f2 := HPF.out.2 2
    have f3 := HPF.out.2 3
    go_wp2_with fail
    clear p0 p1 p2 p3 f0 f1 f2 f3
    have hp := (show Four W0 w.heap.size _ _ _ _ from HP.out).set0 (.int .u8 0) |>.set1 (.int .u8 0) |>.set2 (.slice none 0 0) |>.set3 (.slice none 0 0)
    obtain ⟨d0, d1, d2, d3⟩ := hp
    refine bodyPost_ret (v := .tuple #[.agg #[.int .u8 0, .int .u8 0, .slice none 0 0, .slice none 0 0], .int .i64 43]) (by simp [results, Tryz.results40, go_sem, d0, d1, d2, d3]) rfl (dget_err (x := 43) (if_neg (by omega)) (by decide) ((grown_touch (show w.grownBy W0 (some d) from HG.out) (touch4 _ w.heap.size (.int .u8 0) (.int .u8 0) (.slice none 0 0) (.slice none 0 0)) (Nat.le_refl _))))
  have z3 : decide ((v : Int) > 3) = false := decide_eq_false (by omega)
  have z4 : ¬ (3 : Int) < (v : Int) := by omega
  have HV := Lib.hid (show 1 ≤ v ∧ v ≤ 3 by omega)
  clear hv1 hv3
  go_wp2_with fail
  clear z1 z2 z3 z4
  refine (dfixed_any d s i 0 1 1 rfl W0 HD.out hi hs (by decide)).mono ?_
  rintro z W1 ⟨rfl, hst⟩
  have HK := Lib.hid (show kd s i 0 < 256 by have h := Wire.fxV_lt s i 0 1; simpa [kd] using h)
  have HW := Lib.hid (show wrK s i 0 v = if tkE s i 0 1 = 0 then (if tall v (kd s i 0) then 0 else 4) else tkE s i 0 1 from rfl)
  have HR0 := Lib.hid (show rs0 s i 0 v = ⟨tkI s i 0 1, tkE s i 0 1, wrK s i 0 v, []⟩ from rfl)
  have hkw : IntKind.u8.wrap (U (fxV s i 0 1)) = ((kd s i 0 : Nat) : Int) := by
    have := HK.out
    rw [show fxV s i 0 1 = kd s i 0 from rfl, IntKind.wrap_u8]
    unfold U
    omega
  replace HP := Lib.hid (four_grown HP.out hst.2 (by have := HDW.out; omega))
  replace HPF := Lib.hid (free_grown HPF.out hst.2 (by have := HDW.out; omega))
  replace HG := Lib.hid (grown_step HG.out hst.2)
  replace HD := Lib.hid hst.1
  clear hst
  obtain ⟨c0, c1, c2, c3⟩ := HD.out.cells
  clear c0 c1 c3
  by_cases he : tkE s i 0 1 = 0
  case neg =>
    have q1 : ((tkE s i 0 1 : Int) != 0) = true := by rw [bne_iff_ne]; omega
    have q2 : (tkE s i 0 1 != 0) = true := by rw [bne_iff_ne]; exact he
    have HX := Lib.hid (getW_kind (s := s) (i := i) (e := 0) HV.out (by rw [HW.out, if_neg he]; exact he))
    rw [HW.out, if_neg he] at HX
    have HNE := Lib.hid he
    clear he hkw
    generalize tkE s i 0 1 = x at c2 q1 q2 HX HNE HD HR0 HW ⊢
    clear HR0 HW
    have hne : ¬ w.heap.size = d := by have := HDW.out; omega
    have hne2 : ¬ d = w.heap.size := by have := HDW.out; omega
    obtain ⟨p0, p1, p2, p3⟩ := HP.out
    have f0 := HPF.out.2 0
    have f1 := HPF.out.2 1
    have f2 := HPF.out.2 2
    have f3 := HPF.out.2 3
    go_wp2_with fail
    go_region
    all_goals
      go_wp2_with fail
      clear p0 p1 p2 p3 f0 f1 f2 f3
      have hp := (show Four W1 w.heap.size _ _ _ _ from HP.out).set0 (.int .u8 0) |>.set1 (.int .u8 0) |>.set2 (.slice none 0 0) |>.set3 (.slice none 0 0)
      obtain ⟨d0, d1, d2, d3⟩ := hp
      refine bodyPost_ret (v := .tuple #[.agg #[.int .u8 0, .int .u8 0, .slice none 0 0, .slice none 0 0], .int .i64 (x : Int)]) (by simp [results, Tryz.results40, go_sem, d0, d1, d2, d3]) rfl (dget_err (x := x) HX.out HNE.out (grown_drew (grown_touch (show w.grownBy W1 (some d) from HG.out) (touch4 _ w.heap.size (.int .u8 0) (.int .u8 0) (.slice none 0 0) (.slice none 0 0)) (Nat.le_refl _))))
  rw [he] at c2 HD HW HR0
  rw [if_pos rfl] at HW
  have hct : ((0 : Nat) : Int) = 0 := rfl
  obtain ⟨ll, hll⟩ : ∃ l, lets v (kd s i 0) = l := ⟨_, rfl⟩
  obtain ⟨tl, htl⟩ : ∃ t, tall v (kd s i 0) = t := ⟨_, rfl⟩
  obtain ⟨tt, htt⟩ : ∃ t, (tall v (kd s i 0) && tru (kd s i 0)) = t := ⟨_, rfl⟩
  have HF := Lib.hid (rFields_any v (kd s i 0) hv HK.out W1)
  unfold FldRes at HF
  rw [htt, htl, hll] at HF
  rw [htl] at HW
  have HGN := Lib.hid (good_lets v (kd s i 0))
  rw [hll] at HGN
  have HLL := Lib.hid hll
  have HTL := Lib.hid htl
  have HTT := Lib.hid htt
  clear hll htl htt he
  have q1 : (((0 : Nat) : Int) != 0) = false := rfl
  go_wp2_with fail
  refine HF.out.mono ?_
  rintro z W2 ⟨rfl, rfl⟩
  clear HF
  have HKN : Hid (∀ x : Nat, kd s i 0 = x → True) := fun _ _ => trivial
  clear HKN
  cases tl with
  | false =>
    have HX := Lib.hid (getW_kind (s := s) (i := i) (e := 0) HV.out (by rw [HW.out]; decide))
    rw [HW.out] at HX
    clear c2 hkw
    obtain ⟨p0, p1, p2, p3⟩ := HP.out
    have f0 := HPF.out.2 0
    have f1 := HPF.out.2 1
    have f2 := HPF.out.2 2
    have f3 := HPF.out.2 3
    go_wp2_with fail
    clear p0 p1 p2 p3 f0 f1 f2 f3
    have hp := (show Four W1 w.heap.size _ _ _ _ from HP.out).set0 (.int .u8 0) |>.set1 (.int .u8 0) |>.set2 (.slice none 0 0) |>.set3 (.slice none 0 0)
    obtain ⟨d0, d1, d2, d3⟩ := hp
    refine bodyPost_ret (v := .tuple #[.agg #[.int .u8 0, .int .u8 0, .slice none 0 0, .slice none 0 0], .int .i64 4]) (by simp [results, Tryz.results40, go_sem, d0, d1, d2, d3]) rfl (dget_err (x := 4) HX.out (by decide) ((grown_touch (show w.grownBy W1 (some d) from HG.out) (touch4 _ w.heap.size (.int .u8 0) (.int .u8 0) (.slice none 0 0) (.slice none 0 0)) (Nat.le_refl _))))
  | true =>
    rw [if_pos rfl] at HW
    rw [HW.out] at HR0
    clear HW hkw c2
    generalize hkk : kd s i 0 = kk at HK HTT HTL HLL ⊢
    have HKK := Lib.hid hkk
    clear hkk
    have hb := (Below.refl W1.heap.size W1).alloc (Nat.le_refl _) (.cells #[.int .u8 (v : Int), .int .u8 (kk : Int), .slice none 0 0, .slice none 0 0] 39)
    have HQ := Lib.hid (show Four _ W1.heap.size _ _ _ _ from box4 W1 (.int .u8 (v : Int)) (.int .u8 (kk : Int)) (.slice none 0 0) (.slice none 0 0) 39)
    have HQF := Lib.hid (free_new W1 #[.int .u8 (v : Int), .int .u8 (kk : Int), .slice none 0 0, .slice none 0 0] 39)
    have hord : w.heap.size < W1.heap.size := HPF.out.1
    have HD2 := Lib.hid (dr_bel HD.out hb)
    have HP2 := Lib.hid (HP.out.below hb)
    have HPF2 := Lib.hid (HPF.out.below hb)
    have HG2 := Lib.hid (grown_bel HG.out hb)
    clear hb HD HP HPF HG
    go_wp2_with fail
    generalize W1.alloc (.cells #[.int .u8 (v : Int), .int .u8 (kk : Int), .slice none 0 0, .slice none 0 0] 39) = W2 at HQ HQF HD2 HP2 HPF2 HG2 ⊢
    generalize W1.heap.size = q at HQ HQF hord ⊢
    have HOR := Lib.hid hord
    clear hord
    have HL0 : Hid (DLoop d s ll v kk ⟨tkI s i 0 1, 0, 0, []⟩ q w 0 W2) := ⟨rfl, rfl, Wire.tkI_le s i 0 1 hi, rfl, HD2.out, HG2.out, HP2.out, HPF2.out, ⟨none, 0, HQ.out, Or.inl ⟨Own.nil _ _ _, fun b hb => by cases hb⟩⟩, HQF.out⟩
    clear HD2 HP2 HPF2 HG2 HQ HQF
    generalize hst0 : (⟨tkI s i 0 1, 0, 0, []⟩ : RS) = st0 at HL0 HR0
    clear hst0
    have hlen : ll.size ≤ 100 := HGN.out.1
    go_loopw [11] (fun j wr => ∃ k : Nat, j = .int .i64 k ∧ k ≤ ll.size ∧ Hid (DLoop d s ll v kk st0 q w k wr)) (fun j _ => ll.size - (intOf j).toNat)
    case atStart => exact ⟨0, rfl, Nat.zero_le _, HL0⟩
    case round =>
      obtain ⟨k, rfl, hk, HL⟩ := hrel
      have HP := Lib.hid HL.out.four
      have HPF := Lib.hid HL.out.free
      have HG := Lib.hid HL.out.grown
      obtain ⟨A, ca, hq4, hown⟩ := HL.out.box
      have HQ := Lib.hid hq4
      have HOW := Lib.hid hown
      have HQF := Lib.hid HL.out.boxf
      have HD := Lib.hid HL.out.dr
      clear hq4 hown
      by_cases hlt : k < ll.size
      · have z0 : (0 : Int) ≤ (k : Int) := by omega
        have z1 : (k : Int) < (ll.size : Int) := by omega
        have HS := Lib.hid (foldR_succ v s ll k st0)
        rw [stepR_go HL.out.w0, HL.out.e0] at HS
        have HBD := Lib.hid (show ∀ W, Calls Tryz.prog 66 #[.int .u8 v, .int .u8 ll[k].toNat] W fun e w' => e = .returned (.tuple #[.int .i64 (bnd v (byteAt ll k)).low, .int .i64 (bnd v (byteAt ll k)).high, .bool true]) ∧ W = w' from fun W => by rw [byteAt_eq ll k hlt]; exact rBound_any v (byteAt ll k) (HGN.out.2 k hlt) W)
        have hwf := bnd_wf v (byteAt ll k)
        obtain ⟨st, hst⟩ : ∃ x, foldR v s ll k st0 = x := ⟨_, rfl⟩
        have HI0 := Lib.hid HL.out.i0
        have HLN := Lib.hid HL.out.len
        have HW0 := Lib.hid HL.out.w0
        rw [hst] at HS HQ HOW HD HI0 HLN HW0
        clear HL hst
        generalize (bnd v (byteAt ll k)).low = lo at HBD HS hwf
        generalize (bnd v (byteAt ll k)).high = hh at HBD HS hwf
        obtain ⟨m, rfl⟩ : ∃ m : Nat, hh = (m : Int) := ⟨hh.toNat, by omega⟩
        have hmw : IntKind.u64.wrap (m : Int) = U m := by rw [IntKind.wrap_u64]; unfold U; omega
        have HWF := Lib.hid hwf
        clear hwf
        go_wp2_with fail
        refine (HBD.out _).mono ?_
        rintro z W3 ⟨rfl, rfl⟩
        clear HBD
        go_wp2_with fail
        refine (dshort_any d s st.i 0 m wr HD.out HI0.out hs).mono ?_
        rintro z W3 ⟨rfl, hst⟩
        have HRM := Lib.hid (Wire.shR_most s st.i 0 m)
        have HRL := Lib.hid (Wire.shR_le s st.i 0 m HI0.out)
        rw [show nx s st.i 0 (m : Int) = shR s st.i 0 m from rfl] at HS
        generalize shR s st.i 0 m = R at hst HS HRM HRL ⊢
        obtain ⟨n, j, f⟩ := R
        simp only [] at hst HS HRM HRL ⊢
        have hdq : d < w.heap.size := HDW.out
        have hqw : w.heap.size < q := HOR.out
        replace HP := Lib.hid (four_grown HP.out hst.2 (by omega))
        replace HPF := Lib.hid (free_grown HPF.out hst.2 (by omega))
        replace HG := Lib.hid (grown_step HG.out hst.2)
        replace HQ := Lib.hid (four_grown HQ.out hst.2 (by omega))
        replace HQF := Lib.hid (free_grown HQF.out hst.2 (by omega))
        replace HOW := Lib.hid (own_grown HOW.out hst.2 (by omega))
        replace HD := Lib.hid hst.1
        have HSZ := Lib.hid hst.2.size
        clear hst hdq hqw hmw
        obtain ⟨c0, c1, c2, c3⟩ := HD.out.cells
        clear c0 c1 c3
        by_cases he : f = 0
        case neg =>
          have q1 : ((f : Int) != 0) = true := by rw [bne_iff_ne]; omega
          have q2 : (f != 0) = true := by rw [bne_iff_ne]; exact he
          have HX := Lib.hid (show getW s i 0 v = f from by
            have hw : (foldR v s (lets v (kd s i 0)) (k + 1) (rs0 s i 0 v)).w = f := by
              rw [HKK.out, HLL.out, HR0.out, HS.out]
              exact if_neg he
            rw [getW_num HV.out (k + 1) (by rw [HKK.out, HLL.out]; omega) (by rw [hw]; exact he), hw])
          have HNE := Lib.hid he
          clear he
          have hne : ¬ w.heap.size = d := by have := HDW.out; omega
          have hne2 : ¬ d = w.heap.size := by have := HDW.out; omega
          obtain ⟨p0, p1, p2, p3⟩ := HP.out
          have f0 := HPF.out.2 0
          have f1 := HPF.out.2 1
          have f2 := HPF.out.2 2
          have f3 := HPF.out.2 3
          go_wp2_with fail
          go_region
          all_goals
            go_wp2_with fail
            clear p0 p1 p2 p3 f0 f1 f2 f3
            have hp := (show Four W3 w.heap.size _ _ _ _ from HP.out).set0 (.int .u8 0) |>.set1 (.int .u8 0) |>.set2 (.slice none 0 0) |>.set3 (.slice none 0 0)
            obtain ⟨d0, d1, d2, d3⟩ := hp
            refine bodyPost_ret (v := .tuple #[.agg #[.int .u8 0, .int .u8 0, .slice none 0 0, .slice none 0 0], .int .i64 (f : Int)]) (by simp [results, Tryz.results40, go_sem, d0, d1, d2, d3]) rfl (dget_err (x := f) HX.out HNE.out (grown_drew (grown_touch (show w.grownBy W3 (some d) from HG.out) (touch4 _ w.heap.size (.int .u8 0) (.int .u8 0) (.slice none 0 0) (.slice none 0 0)) (Nat.le_refl _))))
        subst he
        have q1 : (((0 : Nat) : Int) != 0) = false := rfl
        have hnw : IntKind.i64.wrap (U n) = (n : Int) := Wire.wrapI n (by have := HRM.out; have := HWF.out; omega)
        by_cases hlo : (n : Int) < lo
        case pos =>
          have q3 : decide ((n : Int) < lo) = true := decide_eq_true hlo
          have HX := Lib.hid (show getW s i 0 v = 4 from by
            have hw : (foldR v s (lets v (kd s i 0)) (k + 1) (rs0 s i 0 v)).w = 4 := by
              rw [HKK.out, HLL.out, HR0.out, HS.out]
              show wrN (n, j, 0) lo = 4
              unfold wrN
              rw [if_pos rfl, decide_eq_false (show ¬ lo ≤ (n : Int) by omega)]; rfl
            rw [getW_num HV.out (k + 1) (by rw [HKK.out, HLL.out]; omega) (by rw [hw]; decide), hw])
          clear hlo
          obtain ⟨p0, p1, p2, p3⟩ := HP.out
          have f0 := HPF.out.2 0
          have f1 := HPF.out.2 1
          have f2 := HPF.out.2 2
          have f3 := HPF.out.2 3
          go_wp2_with fail
          clear p0 p1 p2 p3 f0 f1 f2 f3
          have hp := (show Four W3 w.heap.size _ _ _ _ from HP.out).set0 (.int .u8 0) |>.set1 (.int .u8 0) |>.set2 (.slice none 0 0) |>.set3 (.slice none 0 0)
          obtain ⟨d0, d1, d2, d3⟩ := hp
          refine bodyPost_ret (v := .tuple #[.agg #[.int .u8 0, .int .u8 0, .slice none 0 0, .slice none 0 0], .int .i64 4]) (by simp [results, Tryz.results40, go_sem, d0, d1, d2, d3]) rfl (dget_err (x := 4) HX.out (by decide) ((grown_touch (show w.grownBy W3 (some d) from HG.out) (touch4 _ w.heap.size (.int .u8 0) (.int .u8 0) (.slice none 0 0) (.slice none 0 0)) (Nat.le_refl _))))
        have q3 : decide ((n : Int) < lo) = false := decide_eq_false hlo
        have HNL := Lib.hid hlo
        clear hlo
        obtain ⟨x0, x1, x2, x3⟩ := HQ.out
        clear x0 x1 x3
        have HONE := Lib.hid (vat1_new W3 (.int .i64 (n : Int)) 2)
        have hb := (Below.refl W3.heap.size W3).alloc (Nat.le_refl _) (.cells #[.int .i64 (n : Int)] 2)
        have HP4 := Lib.hid (HP.out.below hb)
        have HPF4 := Lib.hid (HPF.out.below hb)
        have HG4 := Lib.hid (grown_bel HG.out hb)
        have HQ4 := Lib.hid (HQ.out.below hb)
        have HQF4 := Lib.hid (HQF.out.below hb)
        have HOW4 := Lib.hid (HOW.out.below hb)
        have HD4 := Lib.hid (dr_bel HD.out hb)
        have HSZ4 := Lib.hid hb.size
        have hqs : q < W3.heap.size := HQF.out.1
        clear hb HP HPF HG HQ HQF HOW HD
        have HQS := Lib.hid hqs
        clear hqs
        go_wp2_with (at_builtin; refine wpList_append_one 36 2 (.int .i64 0) 8 Tryz.underlying36 infoN rfl (by decide) rfl (.tmp 85) (.tmp 88) rfl (q + 1) wr.heap.size _ (nums st.ns) rfl HOW4.out (some ⟨W3.heap.size, 0, none⟩) 1 (.int .i64 (n : Int)) rfl HONE.out rfl ?c1 ?c2 ?_)
        case c1 => have h1 := HLN.out; have h2 := HGN.out.1; rw [nums_len]; omega
        case c2 => have h1 := HQF4.out.1; have h2 := HQS.out; first | omega | (simp; omega)
        intro v' W5 hO hT
        obtain ⟨A', c', rfl, hv5, -⟩ := hO.own.vat
        rw [List.length_append, nums_len] at hO ⊢
        simp only [List.length_cons, List.length_nil, Nat.zero_add] at hO ⊢
        have hdq : d < w.heap.size := HDW.out
        have hqw : w.heap.size < q := HOR.out
        have HP5 := Lib.hid (HP4.out.touch hT (Or.inl (by omega)))
        have HPF5 := Lib.hid (HPF4.out.touch hT (Or.inl (by omega)))
        have HG5 := Lib.hid (grown_touch HG4.out hT (by omega))
        have HQ5 := Lib.hid (HQ4.out.touch hT (Or.inl (by omega)))
        have HQF5 := Lib.hid (HQF4.out.touch hT (Or.inl (by omega)))
        have HD5 := Lib.hid (dr_touch HD4.out hT (Or.inl (by omega)))
        have HO5 := Lib.hid hO
        clear hO hT hv5 hdq hqw HP4 HPF4 HG4 HQ4 HQF4 HOW4 HD4 x2
        obtain ⟨x0, x1, x2, x3⟩ := HQ5.out
        have g2 := HQF5.out.2 2
        go_wp2_with fail
        clear x0 x1 x2 x3 g2
        have ht := Schema.Touch.set W5 q 2 (.slice A' (st.ns.length + 1) c')
        have hdq : d < w.heap.size := HDW.out
        have hqw : w.heap.size < q := HOR.out
        have HL2 : Hid (DLoop d s ll v kk st0 q w (k + 1) _) := ⟨by rw [HS.out]; show wrN (n, j, 0) lo = 0; unfold wrN; rw [if_pos rfl, decide_eq_true (show lo ≤ (n : Int) by have := HNL.out; omega)]; rfl, by rw [HS.out], by rw [HS.out]; exact HRL.out, by rw [HS.out]; simp only [List.length_append, List.length_cons, List.length_nil]; have := HLN.out; omega, by rw [HS.out]; exact dr_touch HD5.out ht (Or.inl (by omega)), grown_touch HG5.out ht (by omega), HP5.out.touch ht (Or.inl (by omega)), HPF5.out.touch ht (Or.inl (by omega)), ⟨A', c', by rw [HS.out]; simp only [List.length_append, List.length_cons, List.length_nil]; exact HQ5.out.set2 _, by rw [HS.out]; simp only [List.length_append, List.length_cons, List.length_nil]; rw [show nums (st.ns ++ [(n : Int)]) = nums st.ns ++ [.int .i64 (n : Int)] from by unfold nums; rw [List.map_append]; rfl]; have h := HO5.out.touch ht (Or.inl (Nat.le_refl _)); simpa using h⟩, HQF5.out.set q 2 _⟩
        clear ht hdq hqw HP5 HPF5 HG5 HQ5 HQF5 HD5 HO5
        go_roundw
        case rel => exact ⟨k + 1, by go_num, by omega, HL2⟩
        case measure => simp [intOf] <;> omega
      have z1 : ¬ (k : Int) < (ll.size : Int) := by omega
      have z2 : decide ((k : Int) < (ll.size : Int)) = false := decide_eq_false z1
      have hkk : k = ll.size := by omega
      have hr1 : rs1 s i 0 v = foldR v s ll ll.size st0 := by unfold rs1; rw [HKK.out, HLL.out, HR0.out]
      have HI0 := Lib.hid HL.out.i0
      have HW0 := Lib.hid HL.out.w0
      have HE0 := Lib.hid HL.out.e0
      rw [hkk] at HI0 HW0 HE0 HQ HOW HD
      clear HL hkk
      generalize foldR v s ll ll.size st0 = st at HI0 HW0 HE0 HQ HOW HD hr1
      have HR1 := Lib.hid hr1
      clear hr1
      cases tt with
      | false =>
        have hx := getW_plain (s := s) (i := i) (e := 0) HV.out (by rw [HR1.out]; exact HW0.out) (by rw [HKK.out]; exact HTT.out)
        rw [HR1.out, HE0.out, HKK.out] at hx
        have HX := Lib.hid hx
        clear hx
        obtain ⟨x0, x1, x2, x3⟩ := HQ.out
        obtain ⟨p0, p1, p2, p3⟩ := HP.out
        have f0 := HPF.out.2 0
        have f1 := HPF.out.2 1
        have f2 := HPF.out.2 2
        have f3 := HPF.out.2 3
        have hqw : ¬ w.heap.size = q := by have := HOR.out; omega
        have hqw2 : ¬ q = w.heap.size := by have := HOR.out; omega
        go_wp2_with fail
        clear x0 x1 x2 x3 p0 p1 p2 p3 f0 f1 f2 f3 hqw hqw2
        have hp := HP.out.set0 (.int .u8 (v : Int)) |>.set1 (.int .u8 (kk : Int)) |>.set2 (.slice A st.ns.length ca) |>.set3 (.slice none 0 0)
        obtain ⟨d0, d1, d2, d3⟩ := hp
        have ht := touch4 wr w.heap.size (.int .u8 (v : Int)) (.int .u8 (kk : Int)) (.slice A st.ns.length ca) (.slice none 0 0)
        have hdq : d < w.heap.size := HDW.out
        have hqw : w.heap.size < q := HOR.out
        refine bodyPost_ret (v := .tuple #[.agg #[.int .u8 (v : Int), .int .u8 (kk : Int), .slice A st.ns.length ca, .slice none 0 0], .int .i64 0]) (by simp [results, Tryz.results40, go_sem, d0, d1, d2, d3]) rfl ⟨A, ca, none, 0, ?_, ?_, ?_, ?_, ?_⟩
        · rw [HX.out.1, HX.out.2.1]; rfl
        · rw [HX.out.2.1]; exact ((HOW.out.touch ht (Or.inl (by omega))).own).less (by omega)
        · rw [HX.out.2.1]; exact ownE_nil _ _ _
        · intro _; rw [HX.out.2.2.1]; exact ⟨dr_touch HD.out ht (Or.inl (by omega)), HX.out.2.2.2⟩
        · exact grown_touch HG.out ht (Nat.le_refl _)
      | true =>
        have hx := getW_text (s := s) (i := i) (e := 0) HV.out (by rw [HR1.out]; exact HW0.out) (by rw [HKK.out]; exact HTT.out)
        rw [HR1.out, HE0.out, HKK.out] at hx
        have HTS := Lib.hid (tx_size s st.i 0)
        go_wp2_with fail
        refine (dtext_any d s st.i 0 24 wr HD.out HI0.out hs (by decide)).mono ?_
        rintro z W3 ⟨rfl, hst⟩
        rw [show txR s st.i 0 (24 : Int).toNat = tx s st.i 0 from rfl] at hst ⊢
        generalize tx s st.i 0 = R at hst hx HTS ⊢
        obtain ⟨T, j, f⟩ := R
        simp only [] at hst hx HTS ⊢
        have HX0 := Lib.hid hx
        clear hx
        have hdq : d < w.heap.size := HDW.out
        have hqw : w.heap.size < q := HOR.out
        replace HP := Lib.hid (four_grown HP.out hst.2 (by omega))
        replace HPF := Lib.hid (free_grown HPF.out hst.2 (by omega))
        replace HG := Lib.hid (grown_step HG.out hst.2)
        replace HQ := Lib.hid (four_grown HQ.out hst.2 (by omega))
        replace HQF := Lib.hid (free_grown HQF.out hst.2 (by omega))
        replace HOW := Lib.hid (own_grown HOW.out hst.2 (by omega))
        replace HD := Lib.hid hst.1
        clear hst hdq hqw
        obtain ⟨c0, c1, c2, c3⟩ := HD.out.cells
        clear c0 c1 c3 z1 z2
        by_cases he : f = 0
        case neg =>
          have q1 : ((f : Int) != 0) = true := by rw [bne_iff_ne]; omega
          have q2 : (f != 0) = true := by rw [bne_iff_ne]; exact he
          have HX := Lib.hid (show getW s i 0 v = f from HX0.out.1.trans (if_neg he))
          have HNE := Lib.hid he
          clear he
          have hne : ¬ w.heap.size = d := by have := HDW.out; omega
          have hne2 : ¬ d = w.heap.size := by have := HDW.out; omega
          obtain ⟨p0, p1, p2, p3⟩ := HP.out
          have f0 := HPF.out.2 0
          have f1 := HPF.out.2 1
          have f2 := HPF.out.2 2
          have f3 := HPF.out.2 3
          go_wp2_with fail
          go_region
          all_goals
            go_wp2_with fail
            clear p0 p1 p2 p3 f0 f1 f2 f3
            have hp := (show Four W3 w.heap.size _ _ _ _ from HP.out).set0 (.int .u8 0) |>.set1 (.int .u8 0) |>.set2 (.slice none 0 0) |>.set3 (.slice none 0 0)
            obtain ⟨d0, d1, d2, d3⟩ := hp
            refine bodyPost_ret (v := .tuple #[.agg #[.int .u8 0, .int .u8 0, .slice none 0 0, .slice none 0 0], .int .i64 (f : Int)]) (by simp [results, Tryz.results40, go_sem, d0, d1, d2, d3]) rfl (dget_err (x := f) HX.out HNE.out (grown_drew (grown_touch (show w.grownBy W3 (some d) from HG.out) (touch4 _ w.heap.size (.int .u8 0) (.int .u8 0) (.slice none 0 0) (.slice none 0 0)) (Nat.le_refl _))))
        subst he
        have q1 : (((0 : Nat) : Int) != 0) = false := rfl
        go_wp2_with fail
        refine (rMayName_any T (by have := HTS.out; unfold maxLen; omega) W3).mono ?_
        rintro z W4 ⟨rfl, rfl⟩
        clear c2
        have HWT := Lib.hid (show wrT (T, j, 0) = if mayName T then 0 else 4 from rfl)
        cases hmn : mayName T with
        | false =>
          have HX := Lib.hid (show getW s i 0 v = 4 from HX0.out.1.trans (by rw [HWT.out, hmn]; rfl))
          clear hmn
          obtain ⟨p0, p1, p2, p3⟩ := HP.out
          have f0 := HPF.out.2 0
          have f1 := HPF.out.2 1
          have f2 := HPF.out.2 2
          have f3 := HPF.out.2 3
          go_wp2_with fail
          clear p0 p1 p2 p3 f0 f1 f2 f3
          have hp := (show Four W3 w.heap.size _ _ _ _ from HP.out).set0 (.int .u8 0) |>.set1 (.int .u8 0) |>.set2 (.slice none 0 0) |>.set3 (.slice none 0 0)
          obtain ⟨d0, d1, d2, d3⟩ := hp
          refine bodyPost_ret (v := .tuple #[.agg #[.int .u8 0, .int .u8 0, .slice none 0 0, .slice none 0 0], .int .i64 4]) (by simp [results, Tryz.results40, go_sem, d0, d1, d2, d3]) rfl (dget_err (x := 4) HX.out (by decide) ((grown_touch (show w.grownBy W3 (some d) from HG.out) (touch4 _ w.heap.size (.int .u8 0) (.int .u8 0) (.slice none 0 0) (.slice none 0 0)) (Nat.le_refl _))))
        | true =>
          have hwt : wrT (T, j, 0) = 0 := by rw [HWT.out, hmn]; rfl
          have HX : Hid (getW s i 0 v = 0 ∧ getE s i 0 v = ⟨v, kk, st.ns, [T]⟩ ∧ getI s i 0 v = j ∧ getF s i 0 v = 0) := ⟨HX0.out.1.trans hwt, HX0.out.2 hwt⟩
          clear hmn hwt HX0 HWT
          have hb := (Below.refl W3.heap.size W3).alloc (Nat.le_refl _) (.cells #[.string T] 9)
          have HP4 := Lib.hid (HP.out.below hb)
          have HPF4 := Lib.hid (HPF.out.below hb)
          have HG4 := Lib.hid (grown_bel HG.out hb)
          have HQ4 := Lib.hid (HQ.out.below hb)
          have HQF4 := Lib.hid (HQF.out.below hb)
          have HOW4 := Lib.hid (HOW.out.below hb)
          have HD4 := Lib.hid (dr_bel HD.out hb)
          have hlw : w.heap.size ≤ W3.heap.size := HG.out.size
          have hqs : q < W3.heap.size := HQF.out.1
          have HT4 : Hid (OwnE (W3.alloc (.cells #[.string T] 9)) W3.heap.size 9 (.slice (some ⟨W3.heap.size, 0, none⟩) 1 1) (texts [T])) := Or.inl (own_tx W3 T)
          have HQS := Lib.hid (And.intro hlw hqs)
          clear hb HP HPF HG HQ HQF HOW HD hlw hqs
          obtain ⟨x0, x1, x2, x3⟩ := HQ4.out
          have g3 := HQF4.out.2 3
          go_upto_region 27 with (fail)
          clear x0 x1 x2 x3 g3
          generalize W3.alloc (.cells #[.string T] 9) = W4 at HP4 HPF4 HG4 HQ4 HQF4 HOW4 HD4 HT4 ⊢
          generalize W3.heap.size = h at HT4 HQS ⊢
          have ht := Schema.Touch.set W4 q 3 (.slice (some ⟨h, 0, none⟩) 1 1)
          have hdq : d < w.heap.size := HDW.out
          have hqw : w.heap.size < q := HOR.out
          have hqs := HQS.out.2
          have HP := Lib.hid (HP4.out.touch ht (Or.inl (by omega)))
          have HPF := Lib.hid (HPF4.out.touch ht (Or.inl (by omega)))
          have HG := Lib.hid (grown_touch HG4.out ht (by omega))
          have HQ := Lib.hid (HQ4.out.set3 (.slice (some ⟨h, 0, none⟩) 1 1))
          have HOW := Lib.hid (HOW4.out.touch ht (Or.inl (Nat.le_refl _)))
          have HD := Lib.hid (dr_touch HD4.out ht (Or.inl (by omega)))
          have HT := Lib.hid (HT4.out.set (b := q) (o := 3) hqs (.slice (some ⟨h, 0, none⟩) 1 1))
          clear ht hdq hqw hqs HP4 HPF4 HG4 HQ4 HQF4 HOW4 HD4 HT4
          generalize W4.setCell ⟨q, 3, none⟩ (.slice (some ⟨h, 0, none⟩) 1 1) = W5 at HP HPF HG HQ HOW HD HT ⊢
          obtain ⟨x0, x1, x2, x3⟩ := HQ.out
          obtain ⟨p0, p1, p2, p3⟩ := HP.out
          have f0 := HPF.out.2 0
          have f1 := HPF.out.2 1
          have f2 := HPF.out.2 2
          have f3 := HPF.out.2 3
          have hqw : ¬ w.heap.size = q := by have := HOR.out; omega
          have hqw2 : ¬ q = w.heap.size := by have := HOR.out; omega
          go_wp2_with fail
          clear x0 x1 x2 x3 p0 p1 p2 p3 f0 f1 f2 f3 hqw hqw2
          have hp := HP.out.set0 (.int .u8 (v : Int)) |>.set1 (.int .u8 (kk : Int)) |>.set2 (.slice A st.ns.length ca) |>.set3 (.slice (some ⟨h, 0, none⟩) 1 1)
          obtain ⟨d0, d1, d2, d3⟩ := hp
          have ht := touch4 W5 w.heap.size (.int .u8 (v : Int)) (.int .u8 (kk : Int)) (.slice A st.ns.length ca) (.slice (some ⟨h, 0, none⟩) 1 1)
          have hdq : d < w.heap.size := HDW.out
          have hqw : w.heap.size < q := HOR.out
          refine bodyPost_ret (v := .tuple #[.agg #[.int .u8 (v : Int), .int .u8 (kk : Int), .slice A st.ns.length ca, .slice (some ⟨h, 0, none⟩) 1 1], .int .i64 0]) (by simp [results, Tryz.results40, go_sem, d0, d1, d2, d3]) rfl ⟨A, ca, (some ⟨h, 0, none⟩), 1, ?_, ?_, ?_, ?_, ?_⟩
          · rw [HX.out.1, HX.out.2.1]; rfl
          · rw [HX.out.2.1]; exact ((HOW.out.touch ht (Or.inl (by omega))).own).less (by omega)
          · rw [HX.out.2.1]; exact ((((HT.out.set (b := w.heap.size) (o := 0) (by have := HQS.out; omega) _).set (b := w.heap.size) (o := 1) (by have := HQS.out; omega) _).set (b := w.heap.size) (o := 2) (by have := HQS.out; omega) _).set (b := w.heap.size) (o := 3) (by have := HQS.out; omega) _).less (by have := HQS.out; omega)
          · intro _; rw [HX.out.2.2.1]; exact ⟨dr_touch HD.out ht (Or.inl (by omega)), HX.out.2.2.2⟩
          · exact grown_touch HG.out ht (Nat.le_refl _)

end Go.Proofs.YtiibeemjkdipnaaGreatDoor.Codec
