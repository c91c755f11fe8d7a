import Derived.Test.YtefkfjbdmglkjaaDoorGLGets
import Derived.Test.YtefkfjbdmglkjaaDoorGX
/-
  The document's Decode; an event that is written over; the walk of the statement CodecTells.
-/
namespace Go.Proofs.YtefkfjbdmglkjaaDoor.Codec
open Go Go.RowKit
open Go.Proofs.YtefkfjbdmglkjaaDoor.Wire (Dr DStep drS Rd Step U fxV shR txR tkI tkE tkT rdS errAt endE)
open Go.Proofs.YtefkfjbdmglkjaaDoor.Schema

def fixB1 (n : Nat) : List UInt8 := [UInt8.ofNat n]
theorem ver_eq {s : ByteArray} (h : 0 < s.size) : (s[0]'h).toNat = ver s := by
  have hb := byteAt_eq s 0 h
  rw [hb]
  have hd : s.data.toList.drop 0 = fixB1 (byteAt s 0) ++ s.data.toList.drop 1 := by
    unfold fixB1 byteAt
    match hs : s.data.toList with
    | [] => have h2 := Wire.size_list s; rw [hs] at h2; simp only [List.length_nil] at h2; omega
    | a :: r => simp
  obtain ⟨_, _, c3⟩ := Wire.tk_is (n := 1) hd (by rfl) (Nat.zero_le _)
  unfold ver fxV
  rw [c3]
  unfold fixB1 Wire.be
  have := UInt8.toNat_lt (s.data.toList.getD 0 0)
  unfold byteAt
  simp

theorem dec_none {s : ByteArray} (h : s.size = 0) : decW s = 8 := by
  unfold decW
  have : tkE s 0 0 1 = 8 := by unfold Wire.tkE; rw [if_pos rfl, if_neg (by omega)]
  rw [if_neg (by rw [this]; decide), this]
theorem dec_some {s : ByteArray} (h : 0 < s.size) : decW s = if getW s 1 0 (ver s) = 0 then endE s (getI s 1 0 (ver s)) (getF s 1 0 (ver s)) else getW s 1 0 (ver s) := by
  have h1 : tkE s 0 0 1 = 0 := by unfold Wire.tkE; rw [if_pos rfl, if_pos (by omega)]
  have h2 : tkI s 0 0 1 = 1 := by unfold Wire.tkI; rw [if_pos ⟨rfl, by omega⟩]
  exact dec_is h1 h2
theorem dec_somE {s : ByteArray} (h : 0 < s.size) (h0 : decW s = 0) : decE s = getE s 1 0 (ver s) := by
  have h2 : tkI s 0 0 1 = 1 := by unfold Wire.tkI; rw [if_pos ⟨rfl, by omega⟩]
  unfold decE
  rw [if_pos h0, h2]
theorem ddec_err {s : ByteArray} {w W : World} {x : Nat} (hx : decW s = x) (h0 : x ≠ 0) (hb : Below w.heap.size w W) : DecRes s w (.returned (.tuple #[.agg #[.int .u8 0, .int .u8 0, .slice none 0 0, .slice none 0 0], .int .i64 (x : Int)])) W := by
  have he : decE s = noEv := decE_bad (by rw [hx]; exact h0)
  refine ⟨none, 0, none, 0, ?_, ?_, ?_, hb⟩
  · rw [he, hx]; rfl
  · rw [he]; exact ownE_nil _ _ _
  · rw [he]; exact ownE_nil _ _ _
theorem dec_at {s : ByteArray} {w : World} {b1 b2 : Nat} {A : Option Addr} {ca : Nat} {C : Option Addr} {cc : Nat} (h1 : OwnE w b1 2 (.slice A (decE s).ns.length ca) (nums (decE s).ns)) (h2 : OwnE w b2 9 (.slice C (decE s).ts.length cc) (texts (decE s).ts)) : EvAt w A ca C cc (decE s) ∧ (decE s).ns.length ≤ 20 ∧ (decE s).ts.length ≤ 1 := by
  by_cases h : decW s = 0
  · have hm := (dec_back h).1
    exact ⟨may_at hm h1 h2, may_lens hm⟩
  · have he : decE s = noEv := decE_bad h
    rw [he] at h1 h2 ⊢
    exact ⟨ownE_ev (by decide) (by decide) (fun x hx => by cases hx) (fun t ht => by cases ht) h1 h2, by decide, by decide⟩

theorem ownE_set4 {w : World} {b : Nat} {E : TypeId} {v : Value} {vs : List Value} {x0 x1 x2 x3 : Value} (h : OwnE w (b + 1) E v vs) (_ : b < b + 1) : OwnE ((((w.setCell ⟨b, 0, none⟩ x0).setCell ⟨b, 1, none⟩ x1).setCell ⟨b, 2, none⟩ x2).setCell ⟨b, 3, none⟩ x3) b E v vs :=
  ((((h.set (b := b) (o := 0) (Nat.lt_succ_self _) x0).set (b := b) (o := 1) (Nat.lt_succ_self _) x1).set (b := b) (o := 2) (Nat.lt_succ_self _) x2).set (b := b) (o := 3) (Nat.lt_succ_self _) x3).less (Nat.le_succ _)
set_option maxRecDepth 100000 in
set_option maxHeartbeats 4000000 in
theorem DDecode_any (s : ByteArray) (hs : s.size ≤ 1000000000000) (w : World) :
    Calls Tryd.prog 25 #[.string s] w (DecRes s w) := by
  have hb := (Below.refl w.heap.size w).alloc (Nat.le_refl _) (.cells #[.int .u8 0, .int .u8 0, .slice none 0 0, .slice none 0 0] 26)
  have HP := Lib.hid (show Four _ w.heap.size _ _ _ _ from box4 w (.int .u8 0) (.int .u8 0) (.slice none 0 0) (.slice none 0 0) 26)
  have HPF := Lib.hid (free_new w #[.int .u8 0, .int .u8 0, .slice none 0 0, .slice none 0 0] 26)
  have HB := Lib.hid hb
  clear hb
  go_enter Tryd.func25, Tryd.ntmps25
  go_upto_region 1 with (fail)
  generalize w.alloc (.cells #[.int .u8 0, .int .u8 0, .slice none 0 0, .slice none 0 0] 26) = W0 at HP HPF HB ⊢
  by_cases h0 : s.size = 0
  case pos =>
    have z0 : s.toList = [] := by rw [ByteArray.toList_eq]; exact List.eq_nil_of_length_eq_zero (by rw [Wire.size_list]; exact h0)
    have z1 : (s.toList == []) = true := by rw [z0]; rfl
    have z2 : (s.toList == (ByteArray.mk #[]).toList) = true := by rw [z0, ByteArray.toList_eq]; rfl
    have HX := Lib.hid (dec_none h0)
    clear h0
    obtain ⟨p0, p1, p2, p3⟩ := HP.out
    have f0 := HPF.out.2 0
    have f1 := HPF.out.2 1
    have f2 := HPF.out.2 2
    have f3 := HPF.out.2 3
    go_wp2_with fail
    clear p0 p1 p2 p3 f0 f1 f2 f3
    have hp := (show Four W0 w.heap.size _ _ _ _ from HP.out).set0 (.int .u8 0) |>.set1 (.int .u8 0) |>.set2 (.slice none 0 0) |>.set3 (.slice none 0 0)
    obtain ⟨d0, d1, d2, d3⟩ := hp
    refine bodyPost_ret (v := .tuple #[.agg #[.int .u8 0, .int .u8 0, .slice none 0 0, .slice none 0 0], .int .i64 8]) (by simp [results, Tryd.results25, go_sem, d0, d1, d2, d3]) rfl (ddec_err (x := 8) HX.out (by decide) (HB.out.trans ((touch4 W0 w.heap.size (.int .u8 0) (.int .u8 0) (.slice none 0 0) (.slice none 0 0)).below (Nat.le_refl _) HB.out.size)))
  have hp0 : 0 < s.size := by omega
  have z0 : ¬ s.toList = [] := fun h => h0 (by have := congrArg List.length h; rw [ByteArray.toList_eq, Wire.size_list] at this; exact this)
  have z1 : (s.toList == []) = false := by rw [beq_eq_false_iff_ne]; exact z0
  have z2 : (s.toList == (ByteArray.mk #[]).toList) = false := by rw [beq_eq_false_iff_ne, show (ByteArray.mk #[]).toList = [] from by rw [ByteArray.toList_eq]]; exact z0
  have hb2 := (Below.refl W0.heap.size W0).alloc (Nat.le_refl _) (.cells (drS s 1 0 0) 55)
  have HD := Lib.hid (show Dr _ W0.heap.size s 1 0 from heap_alloc_new W0 _)
  have hlw : w.heap.size < W0.heap.size := HPF.out.1
  have HG := Lib.hid (fun W (hd : Dr W W0.heap.size s 1 0) => show Calls Tryd.prog 27 #[.pointer (some ⟨W0.heap.size, 0, none⟩), .int .u8 s[0].toNat] W (DGetRes W0.heap.size s 1 (ver s) W) from by rw [ver_eq hp0]; exact DGet_any W0.heap.size s 1 (ver s) W hd (by omega) hs (by have := Wire.fxV_lt s 0 0 1; simpa [ver] using this))
  replace HP := Lib.hid (HP.out.below hb2)
  replace HPF := Lib.hid (HPF.out.below hb2)
  replace HB := Lib.hid (below_step HB.out hb2)
  have HLW := Lib.hid hlw
  clear hb2 hlw
  have HDS := Lib.hid (dec_some hp0)
  have HDE := Lib.hid (fun h => dec_somE hp0 h)
  have hi0 : (0 : Int) < (s.size : Int) := by omega
  go_wp2_with fail
  refine (HG.out _ HD.out).mono ?_
  rintro z W2 ⟨A, ca, C, cc, rfl, hn, hm, hst, hg⟩
  have hlow := HB.out.size
  have hlow2 : w.heap.size + 1 ≤ _ := HPF.out.1
  replace HP := Lib.hid (four_grown HP.out hg (by have := HLW.out; omega))
  replace HPF := Lib.hid (free_grown HPF.out hg (by have := HLW.out; omega))
  replace HB := Lib.hid (bel_grown HB.out HB.out.size hg (by have := HLW.out; omega))
  have HN := Lib.hid (hn.less hlow2)
  have HM := Lib.hid (hm.less hlow2)
  have HN0 := Lib.hid hn
  skip
  have HST := Lib.hid hst
  clear hn hm hst hg hlow hlow2 HG HD z0 z1 z2 hi0 h0
  simp only [evV]
  obtain ⟨x, hx⟩ : ∃ x, getE s 1 0 (ver s) = x := ⟨_, rfl⟩
  obtain ⟨y, hy⟩ : ∃ y, getW s 1 0 (ver s) = y := ⟨_, rfl⟩
  have HX := Lib.hid (And.intro hx hy)
  rw [hx] at HN HM HDE ⊢
  rw [hy] at HDS HST ⊢
  clear hx hy
  go_upto_region 5 with (fail)
  have hb := (Below.refl W2.heap.size W2).alloc (Nat.le_refl _) (.cells #[.int .u8 x.v, .int .u8 x.k, .slice A x.ns.length ca, .slice C x.ts.length cc] 26)
  have HQ := Lib.hid (show Four _ W2.heap.size _ _ _ _ from box4 W2 (.int .u8 x.v) (.int .u8 x.k) (.slice A x.ns.length ca) (.slice C x.ts.length cc) 26)
  have hlq : w.heap.size < W2.heap.size := HPF.out.1
  replace HP := Lib.hid (HP.out.below hb)
  replace HPF := Lib.hid (HPF.out.below hb)
  replace HB := Lib.hid (below_step HB.out hb)
  replace HN := Lib.hid (HN.out.below hb)
  replace HM := Lib.hid (HM.out.below hb)
  have HST2 := Lib.hid (fun h => show Dr _ _ _ _ _ ∧ _ from ⟨dr_bel (HST.out h).1 hb, (HST.out h).2⟩)
  clear hb HST
  generalize W2.alloc (.cells #[.int .u8 x.v, .int .u8 x.k, .slice A x.ns.length ca, .slice C x.ts.length cc] 26) = W3 at HP HPF HB HQ HN HM HST2 ⊢
  generalize W2.heap.size = q at HQ hlq ⊢
  have HLQ := Lib.hid hlq
  clear hlq
  by_cases hy0 : y = 0
  case neg =>
    have q2 : ((y : Int) != 0) = true := by rw [bne_iff_ne]; omega
    have q3 : (y != 0) = true := by rw [bne_iff_ne]; exact hy0
    have HW := Lib.hid (show decW s = y from HDS.out.trans (if_neg hy0))
    have HNE := Lib.hid hy0
    clear hy0
    obtain ⟨p0, p1, p2, p3⟩ := HP.out
    have f0 := HPF.out.2 0
    have f1 := HPF.out.2 1
    have f2 := HPF.out.2 2
    have f3 := HPF.out.2 3
    go_wp2_with fail
    clear p0 p1 p2 p3 f0 f1 f2 f3
    have hp := (show Four W3 w.heap.size _ _ _ _ from HP.out).set0 (.int .u8 0) |>.set1 (.int .u8 0) |>.set2 (.slice none 0 0) |>.set3 (.slice none 0 0)
    obtain ⟨d0, d1, d2, d3⟩ := hp
    refine bodyPost_ret (v := .tuple #[.agg #[.int .u8 0, .int .u8 0, .slice none 0 0, .slice none 0 0], .int .i64 (y : Int)]) (by simp [results, Tryd.results25, go_sem, d0, d1, d2, d3]) rfl (ddec_err (x := y) HW.out HNE.out (HB.out.trans ((touch4 W3 w.heap.size (.int .u8 0) (.int .u8 0) (.slice none 0 0) (.slice none 0 0)).below (Nat.le_refl _) HB.out.size)))
  have hw0 : getW s 1 0 (ver s) = 0 := HX.out.2.trans hy0
  have hdr := HST2.out hy0
  subst hy0
  have HD := Lib.hid hdr.1
  have HDS2 := Lib.hid (show decW s = if getI s 1 0 (ver s) < s.size then 4 else 0 from by
    rw [HDS.out, if_pos rfl, hdr.2]
    unfold Wire.endE
    by_cases h : getI s 1 0 (ver s) < s.size
    · rw [if_pos h, if_pos ⟨rfl, h⟩]
    · rw [if_neg h, if_neg (fun h2 => h h2.2)])
  clear hdr HST2 HDS hw0
  generalize getI s 1 0 (ver s) = pos at HD HDS2
  obtain ⟨c0, c1, c2, c3⟩ := HD.out.cells
  clear c0 c2 c3
  have q2 : (((0 : Nat) : Int) != 0) = false := rfl
  by_cases hp : pos < s.size
  case pos =>
    have q4 : (pos : Int) < (s.size : Int) := by omega
    have q5 : decide ((pos : Int) < (s.size : Int)) = true := decide_eq_true q4
    have HW := Lib.hid (show decW s = 4 from HDS2.out.trans (if_pos hp))
    clear hp
    obtain ⟨p0, p1, p2, p3⟩ := HP.out
    have f0 := HPF.out.2 0
    have f1 := HPF.out.2 1
    have f2 := HPF.out.2 2
    have f3 := HPF.out.2 3
    go_wp2_with fail
    clear p0 p1 p2 p3 f0 f1 f2 f3
    have hp := (show Four W3 w.heap.size _ _ _ _ from HP.out).set0 (.int .u8 0) |>.set1 (.int .u8 0) |>.set2 (.slice none 0 0) |>.set3 (.slice none 0 0)
    obtain ⟨d0, d1, d2, d3⟩ := hp
    refine bodyPost_ret (v := .tuple #[.agg #[.int .u8 0, .int .u8 0, .slice none 0 0, .slice none 0 0], .int .i64 4]) (by simp [results, Tryd.results25, go_sem, d0, d1, d2, d3]) rfl (ddec_err (x := 4) HW.out (by decide) (HB.out.trans ((touch4 W3 w.heap.size (.int .u8 0) (.int .u8 0) (.slice none 0 0) (.slice none 0 0)).below (Nat.le_refl _) HB.out.size)))
  have q4 : ¬ (pos : Int) < (s.size : Int) := by omega
  have q5 : decide ((pos : Int) < (s.size : Int)) = false := decide_eq_false q4
  have HW := Lib.hid (show decW s = 0 from HDS2.out.trans (if_neg hp))
  have HE := Lib.hid (HDE.out HW.out)
  clear hp HDE HDS2
  obtain ⟨x0, x1, x2, x3⟩ := HQ.out
  obtain ⟨p0, p1, p2, p3⟩ := HP.out
  have f0 := HPF.out.2 0
  have f1 := HPF.out.2 1
  have f2 := HPF.out.2 2
  have f3 := HPF.out.2 3
  have hqw : ¬ w.heap.size = q := by have := HLQ.out; omega
  have hqw2 : ¬ q = w.heap.size := by have := HLQ.out; omega
  go_wp2_with fail
  clear x0 x1 x2 x3 p0 p1 p2 p3 f0 f1 f2 f3 hqw hqw2 c1 q4 q5
  have hp := HP.out.set0 (.int .u8 x.v) |>.set1 (.int .u8 x.k) |>.set2 (.slice A x.ns.length ca) |>.set3 (.slice C x.ts.length cc)
  obtain ⟨d0, d1, d2, d3⟩ := hp
  have ht := touch4 W3 w.heap.size (.int .u8 x.v) (.int .u8 x.k) (.slice A x.ns.length ca) (.slice C x.ts.length cc)
  refine bodyPost_ret (v := .tuple #[.agg #[.int .u8 x.v, .int .u8 x.k, .slice A x.ns.length ca, .slice C x.ts.length cc], .int .i64 0]) (by simp [results, Tryd.results25, go_sem, d0, d1, d2, d3]) rfl ⟨A, ca, C, cc, ?_, ?_, ?_, ?_⟩
  · rw [HE.out, HW.out]; rfl
  · rw [HE.out]; exact ownE_set4 HN.out (Nat.lt_succ_self _)
  · rw [HE.out]; exact ownE_set4 HM.out (Nat.lt_succ_self _)
  · exact HB.out.trans (ht.below (Nat.le_refl _) HB.out.size)

/-! ### an event that is written over -/
def Spots (w : World) (g n : Nat) : Prop := (∀ j, j < n → ∃ u, w.cell? ⟨g, j, none⟩ = some u) ∧ ∀ j, w.frozen? ⟨g, j, none⟩ = false
theorem Spots.set {w : World} {g n : Nat} (h : Spots w g n) (b o : Nat) (x : Value) : Spots (w.setCell ⟨b, o, none⟩ x) g n :=
  ⟨fun j hj => by
    obtain ⟨u, hu⟩ := h.1 j hj
    exact cell?_setCell_some (w := w) (p := ⟨b, o, none⟩) (x := x) (q := ⟨g, j, none⟩) (v := u) hu, fun j => by simpa using h.2 j⟩
theorem Spots.below {w w' : World} {g n : Nat} (h : Spots w g n) (hg : g < w.heap.size) (hb : Below w.heap.size w w') : Spots w' g n :=
  ⟨fun j hj => by obtain ⟨u, hu⟩ := h.1 j hj; exact ⟨u, cell_kept hu hb⟩, fun j => (World.frozen?_of_block (hb.block _ hg)).trans (h.2 j)⟩
def Spot (w : World) (B S : Nat) (A : Option Addr) (n : Nat) : Prop := n = 0 ∨ ∃ g, A = some ⟨g, 0, none⟩ ∧ B ≤ g ∧ g < S ∧ Spots w g n
theorem spot_of {w : World} {B : Nat} {E : TypeId} {A : Option Addr} {n c : Nat} {vs : List Value} (h : OwnE w B E (.slice A n c) vs) (hl : vs.length = n) : Spot w B w.heap.size A n := by
  rcases h with h | ⟨rfl, _⟩
  · by_cases h0 : n = 0
    · exact Or.inl h0
    · obtain ⟨g, cap, hv, hB, hg, _, hc⟩ := h.cells (by omega)
      injection hv with e1 e2 e3
      subst e1
      refine Or.inr ⟨g, rfl, hB, hg, fun j hj => ⟨vs[j]'(by omega), hc j _ (List.getElem?_eq_getElem (by omega))⟩, fun j => ?_⟩
      rcases h.2 with ⟨h1, _⟩ | ⟨g', cap', cur, h1, _, h3, _⟩
      · cases h1
      · injection h1 with h1 _ _
        injection h1 with h1
        injection h1 with h1 _
        subst h1
        exact Wire.frozen_row h3 j
  · exact Or.inl (by simpa using hl.symm)
structure SpI (W : World) (B b : Nat) (v0 v1 v2 v3 : Value) (A : Option Addr) (n : Nat) (C : Option Addr) (m : Nat) (wr : World) : Prop where
  bel : Below B W wr
  four : Four wr b v0 v1 v2 v3
  s1 : Spot wr B b A n
  s2 : Spot wr B b C m
theorem Spot.set {w : World} {B S : Nat} {A : Option Addr} {n : Nat} (h : Spot w B S A n) (b o : Nat) (x : Value) : Spot (w.setCell ⟨b, o, none⟩ x) B S A n := h.imp id (fun ⟨g, h1, h2, h3, h4⟩ => ⟨g, h1, h2, h3, h4.set b o x⟩)
theorem SpI.set {W : World} {B b : Nat} {v0 v1 v2 v3 : Value} {A : Option Addr} {n : Nat} {C : Option Addr} {m : Nat} {wr : World} (h : SpI W B b v0 v1 v2 v3 A n C m wr) (hBW : B ≤ W.heap.size) (g o : Nat) (x : Value) (hB : B ≤ g) (hg : g < b) : SpI W B b v0 v1 v2 v3 A n C m (wr.setCell ⟨g, o, none⟩ x) :=
  ⟨h.bel.trans ((Schema.Touch.set wr g o x).below hB (Nat.le_trans hBW h.bel.size)), h.four.touch (Schema.Touch.set wr g o x) (Or.inr hg), h.s1.set g o x, h.s2.set g o x⟩

set_option maxRecDepth 100000 in
set_option maxHeartbeats 2000000 in
theorem spoil_any (A : Option Addr) (ca : Nat) (C : Option Addr) (cc : Nat) (x : Ev) (B : Nat) (W : World) (h1 : OwnE W B 2 (.slice A x.ns.length ca) (nums x.ns)) (h2 : OwnE W B 9 (.slice C x.ts.length cc) (texts x.ts)) (hB : B ≤ W.heap.size) (hl1 : x.ns.length ≤ 9223372036854775807) (hl2 : x.ts.length ≤ 9223372036854775807) :
    Calls Tryd.prog 26 #[evV A ca C cc x] W fun z w' => z = .returned (.tuple #[]) ∧ Below B W w' := by
  have s1 := spot_of h1 (nums_len _)
  have s2 := spot_of h2 (texts_len _)
  have hb := (Below.refl W.heap.size W).alloc (Nat.le_refl _) (.cells #[.int .u8 x.v, .int .u8 x.k, .slice A x.ns.length ca, .slice C x.ts.length cc] 26)
  have HI : Hid (SpI W B W.heap.size (.int .u8 x.v) (.int .u8 x.k) (.slice A x.ns.length ca) (.slice C x.ts.length cc) A x.ns.length C x.ts.length (W.alloc (.cells #[.int .u8 x.v, .int .u8 x.k, .slice A x.ns.length ca, .slice C x.ts.length cc] 26))) :=
    ⟨hb.mono hB, box4 W _ _ _ _ _, s1.imp id (fun ⟨g, q1, q2, q3, q4⟩ => ⟨g, q1, q2, q3, q4.below q3 hb⟩), s2.imp id (fun ⟨g, q1, q2, q3, q4⟩ => ⟨g, q1, q2, q3, q4.below q3 hb⟩)⟩
  have HB := Lib.hid hB
  clear s1 s2 hb h1 h2 hB
  obtain ⟨v, k, ns, ts⟩ := x
  simp only [evV] at *
  generalize ns.length = n at HI hl1 ⊢
  generalize ts.length = m at HI hl2 ⊢
  go_enter Tryd.func26, Tryd.ntmps26
  go_wp2_with fail
  generalize W.alloc (.cells #[.int .u8 v, .int .u8 k, .slice A n ca, .slice C m cc] 26) = W1 at HI ⊢
  generalize W.heap.size = b at HI ⊢
  go_loopw [2] (fun i wr => ∃ q : Nat, i = .int .i64 q ∧ q ≤ n ∧ Hid (SpI W B b (.int .u8 v) (.int .u8 k) (.slice A n ca) (.slice C m cc) A n C m wr)) (fun i _ => n - (intOf i).toNat)
  case atStart => exact ⟨0, rfl, Nat.zero_le _, HI⟩
  case round =>
    obtain ⟨q, rfl, hq, HIq⟩ := hrel
    obtain ⟨p0, p1, p2, p3⟩ := HIq.out.four
    clear p0 p1 p3
    by_cases hlt : q < n
    · have z0 : (0 : Int) ≤ (q : Int) := by omega
      have z1 : (q : Int) < (n : Int) := by omega
      rcases HIq.out.s1 with h0 | ⟨g, rfl, hBg, hgb, hsp⟩
      · omega
      · obtain ⟨u, c0⟩ := hsp.1 q hlt
        have f0 := hsp.2 q
        have HI2 := Lib.hid (HIq.out.set HB.out g q (.int .i64 (-7)) hBg hgb)
        clear hsp hBg hgb
        go_wp2_with fail
        go_roundw
        case rel => exact ⟨q + 1, by go_num, by omega, HI2⟩
        case measure => simp [intOf] <;> omega
    · have z1 : ¬ (q : Int) < (n : Int) := by omega
      clear hlt
      go_wp2_with fail
      clear p2 z1
      go_loopw [3] (fun i wr => ∃ q : Nat, i = .int .i64 q ∧ q ≤ m ∧ Hid (SpI W B b (.int .u8 v) (.int .u8 k) (.slice A n ca) (.slice C m cc) A n C m wr)) (fun i _ => m - (intOf i).toNat)
      case atStart => exact ⟨0, rfl, Nat.zero_le _, HIq⟩
      case round =>
        obtain ⟨q2, rfl, hq2, HIr⟩ := hrel
        obtain ⟨p0, p1, p2, p3⟩ := HIr.out.four
        clear p0 p1 p2
        by_cases hlt : q2 < m
        · have z0 : (0 : Int) ≤ (q2 : Int) := by omega
          have z1 : (q2 : Int) < (m : Int) := by omega
          rcases HIr.out.s2 with h0 | ⟨g, rfl, hBg, hgb, hsp⟩
          · omega
          · obtain ⟨u, c0⟩ := hsp.1 q2 hlt
            have f0 := hsp.2 q2
            have HI2 := Lib.hid (HIr.out.set HB.out g q2 (.string ⟨#[115, 112, 111, 105, 108, 116]⟩) hBg hgb)
            clear hsp hBg hgb
            go_wp2_with fail
            go_roundw
            case rel => exact ⟨q2 + 1, by go_num, by omega, HI2⟩
            case measure => simp [intOf] <;> omega
        · have z1 : ¬ (q2 : Int) < (m : Int) := by omega
          go_wp2_with fail
          first | (go_end0; exact ⟨rfl, HIr.out.bel⟩) | exact bodyPost_ret (by simp [results, Tryd.results26, go_sem]) rfl ⟨rfl, HIr.out.bel⟩

set_option maxRecDepth 100000 in
set_option maxHeartbeats 4000000 in
theorem tells_any (A : Option Addr) (ca : Nat) (C : Option Addr) (cc : Nat) (e : Ev) (s : ByteArray) (w : World) (hA : EvAt w A ca C cc e) (lA : e.ns.length ≤ 140737488355328 ∧ e.ts.length ≤ 140737488355328) (hs : s.size ≤ maxLen) (E : Env w) :
    Calls Tryd.prog 4 #[evV A ca C cc e, .string s] w fun z w' => z = .returned (.bool true) ∧ Below w.heap.size w w' := by
  have hb := (Below.refl w.heap.size w).alloc (Nat.le_refl _) (.cells #[.int .u8 e.v, .int .u8 e.k, .slice A e.ns.length ca, .slice C e.ts.length cc] 26)
  have HP := Lib.hid (show Four _ w.heap.size _ _ _ _ from box4 w (.int .u8 e.v) (.int .u8 e.k) (.slice A e.ns.length ca) (.slice C e.ts.length cc) 26)
  have HA := Lib.hid (hA.below hb)
  have HE := Lib.hid E
  have HB := Lib.hid hb
  have HLA := Lib.hid lA
  have HS := Lib.hid hs
  clear hb hA E lA hs
  unfold evV
  go_enter Tryd.func4, Tryd.ntmps4
  go_upto_region 1 with (fail)
  generalize w.alloc (.cells #[.int .u8 e.v, .int .u8 e.k, .slice A e.ns.length ca, .slice C e.ts.length cc] 26) = W at HP HA HB ⊢
  have HW := Lib.hid (weight_any A ca C cc e HLA.out.1 HLA.out.2 W HA.out)
  simp only [evV] at HW
  obtain ⟨p0, p1, p2, p3⟩ := HP.out
  go_wp2_with fail
  refine HW.out.mono ?_
  clear p0 p1 p2 p3
  rintro z W2 ⟨n, rfl, hn1, hn2, hb⟩
  replace HP := Lib.hid (HP.out.below hb)
  replace HA := Lib.hid (HA.out.below hb)
  replace HB := Lib.hid (below_step HB.out hb)
  clear hb HW
  by_cases hn : 2000 ≤ n
  · have z1 : decide ((n : Int) ≥ 2000) = true := decide_eq_true (by omega)
    have z2 : (2000 : Int) ≤ (n : Int) := by omega
    clear hn1 hn2 hn
    go_wp2_with fail
    refine (works_any W2 (HE.out.below HB.out)).mono ?_
    rintro z W3 ⟨rfl, hb⟩
    replace HB := Lib.hid (below_step HB.out hb)
    clear hb
    go_wp2_with fail
    go_ret
    exact ⟨rfl, HB.out⟩
  have HL1 := Lib.hid (hn2 (by omega))
  have z1 : decide ((n : Int) ≥ 2000) = false := decide_eq_false (by omega)
  have z2 : ¬ (2000 : Int) ≤ (n : Int) := by omega
  have z3 : (n : Int) < 2000 := by omega
  clear hn1 hn2 hn
  have hsz := HS.out
  unfold maxLen at hsz
  by_cases hn : 2000 < s.size
  · have z4 : decide ((s.size : Int) > 2000) = true := decide_eq_true (by omega)
    have z5 : decide ((2000 : Int) < (s.size : Int)) = true := decide_eq_true (by omega)
    have z6 : (2000 : Int) < (s.size : Int) := by omega
    clear hn hsz
    go_wp2_with fail
    refine (works_any W2 (HE.out.below HB.out)).mono ?_
    rintro z W3 ⟨rfl, hb⟩
    replace HB := Lib.hid (below_step HB.out hb)
    clear hb
    go_wp2_with fail
    go_ret
    exact ⟨rfl, HB.out⟩
  have z4 : decide ((s.size : Int) > 2000) = false := decide_eq_false (by omega)
  have z5 : decide ((2000 : Int) < (s.size : Int)) = false := decide_eq_false (by omega)
  have z6 : ¬ (2000 : Int) < (s.size : Int) := by omega
  have HT := Lib.hid (show s.size ≤ 2000 by omega)
  clear hn hsz
  have HW := Lib.hid (own_x A ca C cc e (by have := HL1.out; omega) (by have := HL1.out; omega) W2 HA.out)
  simp only [evV] at HW
  obtain ⟨p0, p1, p2, p3⟩ := HP.out
  go_wp2_with fail
  refine HW.out.mono ?_
  clear p0 p1 p2 p3 z1 z2 z3 z4 z5 z6 HW
  rintro z W3 ⟨A1, c1, B1, c2, mid, rfl, hm1, hm2, ho1, ho2, hb⟩
  replace HP := Lib.hid (HP.out.below hb)
  have HX := Lib.hid (Schema.ev_of HA.out.v HA.out.k HA.out.fit HA.out.txt ho1 ho2)
  replace HA := Lib.hid (HA.out.below hb)
  replace HB := Lib.hid (below_step HB.out hb)
  clear hb hm1 hm2 ho1 ho2
  simp only [evV]
  go_upto_region 4 with (fail)
  have hb := (Below.refl W3.heap.size W3).alloc (Nat.le_refl _) (.cells #[.int .u8 e.v, .int .u8 e.k, .slice A1 e.ns.length c1, .slice B1 e.ts.length c2] 26)
  have HQ := Lib.hid (show Four _ W3.heap.size _ _ _ _ from box4 W3 (.int .u8 e.v) (.int .u8 e.k) (.slice A1 e.ns.length c1) (.slice B1 e.ts.length c2) 26)
  replace HP := Lib.hid (HP.out.below hb)
  replace HX := Lib.hid (HX.out.below hb)
  replace HA := Lib.hid (HA.out.below hb)
  replace HB := Lib.hid (below_step HB.out hb)
  clear hb
  generalize W3.alloc (.cells #[.int .u8 e.v, .int .u8 e.k, .slice A1 e.ns.length c1, .slice B1 e.ts.length c2] 26) = W4 at HP HQ HX HA HB ⊢
  generalize W3.heap.size = q at HQ ⊢
  have HW := Lib.hid (Encode_any W4 A1 c1 B1 c2 e (by have := HL1.out; omega) HX.out (HE.out.below HB.out))
  simp only [evV] at HW
  obtain ⟨x0, x1, x2, x3⟩ := HQ.out
  go_wp2_with fail
  refine HW.out.mono ?_
  clear x0 x1 x2 x3 HW
  rintro z W5 ⟨rfl, hb⟩
  replace HP := Lib.hid (HP.out.below hb)
  replace HQ := Lib.hid (HQ.out.below hb)
  replace HX := Lib.hid (HX.out.below hb)
  replace HA := Lib.hid (HA.out.below hb)
  replace HB := Lib.hid (below_step HB.out hb)
  clear hb
  have HW := Lib.hid (rEncode_any A ca C cc e W5 HA.out)
  simp only [evV] at HW
  obtain ⟨p0, p1, p2, p3⟩ := HP.out
  go_wp2_with fail
  refine HW.out.mono ?_
  clear p0 p1 p2 p3 HW
  rintro z W6 ⟨rfl, hb⟩
  replace HP := Lib.hid (HP.out.below hb)
  replace HQ := Lib.hid (HQ.out.below hb)
  replace HX := Lib.hid (HX.out.below hb)
  replace HA := Lib.hid (HA.out.below hb)
  replace HB := Lib.hid (below_step HB.out hb)
  clear hb
  have HW := Lib.hid (Size_any W6 A1 c1 B1 c2 e (by have := HL1.out; omega) HX.out (HE.out.below HB.out))
  have hsl : (encB e).length = (Wire.S (encB e)).size := (S_size _).symm
  rw [hsl] at HW
  clear hsl
  simp only [evV] at HW
  generalize Wire.S (encB e) = T at HW ⊢
  generalize putE e = pe
  have q1 := str_self T
  have q2 : (T.toList != T.toList) = false := by rw [bne, q1]; rfl
  have q3 : ((pe : Int) != (pe : Int)) = false := by simp
  have q4 : (pe != pe) = false := by simp
  obtain ⟨x0, x1, x2, x3⟩ := HQ.out
  go_wp2_with fail
  refine HW.out.mono ?_
  clear x0 x1 x2 x3 HW q1 q2 q3 q4
  rintro z W7 ⟨rfl, hb⟩
  replace HP := Lib.hid (HP.out.below hb)
  replace HQ := Lib.hid (HQ.out.below hb)
  replace HX := Lib.hid (HX.out.below hb)
  replace HA := Lib.hid (HA.out.below hb)
  replace HB := Lib.hid (below_step HB.out hb)
  clear hb
  have hsm := sameE_any A1 c1 B1 c2 e A ca C cc e (by have := HL1.out; omega) (by have := HL1.out; omega) W7 HX.out HA.out
  rw [show same e e = true from same_yes rfl rfl rfl rfl] at hsm
  simp only [evV] at hsm
  have HW := Lib.hid hsm
  clear hsm
  have q3 : ((T.size : Int) != (T.size : Int)) = false := by simp
  have q4 : (T.size != T.size) = false := by simp
  obtain ⟨x0, x1, x2, x3⟩ := HQ.out
  obtain ⟨p0, p1, p2, p3⟩ := HP.out
  go_wp2_with fail
  refine HW.out.mono ?_
  clear x0 x1 x2 x3 p0 p1 p2 p3 q3 q4 HW
  rintro z W8 ⟨rfl, hb⟩
  replace HB := Lib.hid (below_step HB.out hb)
  clear hb HP HQ HX HA
  go_wp2_with fail
  go_loopw [10] (fun j wr => ∃ k : Nat, j = .int .i64 k ∧ k ≤ 2 ∧ Hid (Below w.heap.size w wr)) (fun j _ => 2 - (intOf j).toNat)
  case atStart => exact ⟨0, rfl, Nat.zero_le _, HB⟩
  case round =>
    obtain ⟨k, rfl, hk, HBk⟩ := hrel
    by_cases hlt : k < 2
    · have z0 : (k : Int) < 2 := by omega
      go_wp2_with fail
      refine (Decode_any s (by have := HT.out; omega) wr (HE.out.below HBk.out)).mono ?_
      rintro z V1 ⟨A, ca, C, cc, rfl, hn, hm, hb⟩
      have HN := Lib.hid hn
      have HM := Lib.hid hm
      have HR := Lib.hid hb
      clear hn hm hb
      simp only [evV]
      obtain ⟨x, hx⟩ : ∃ x, decE s = x := ⟨_, rfl⟩
      obtain ⟨y, hy⟩ : ∃ y, decW s = y := ⟨_, rfl⟩
      have HXY := Lib.hid (And.intro hx hy)
      have hat := dec_at HN.out HM.out
      rw [hx] at HN HM hat ⊢
      rw [hy]
      have HAT := Lib.hid hat
      clear hx hy hat
      go_upto_region 12 with (fail)
      have hb := (Below.refl V1.heap.size V1).alloc (Nat.le_refl _) (.cells #[.int .u8 x.v, .int .u8 x.k, .slice A x.ns.length ca, .slice C x.ts.length cc] 26)
      have HP := Lib.hid (show Four _ V1.heap.size _ _ _ _ from box4 V1 (.int .u8 x.v) (.int .u8 x.k) (.slice A x.ns.length ca) (.slice C x.ts.length cc) 26)
      replace HN := Lib.hid (HN.out.below hb)
      replace HM := Lib.hid (HM.out.below hb)
      replace HR := Lib.hid (below_step HR.out hb)
      have HE1 := Lib.hid (HAT.out.1.below hb)
      clear hb
      generalize V1.alloc (.cells #[.int .u8 x.v, .int .u8 x.k, .slice A x.ns.length ca, .slice C x.ts.length cc] 26) = V2 at HP HN HM HR HE1 ⊢
      generalize V1.heap.size = b1 at HP ⊢
      go_wp2_with fail
      refine (DDecode_any s (by have := HT.out; omega) V2).mono ?_
      rintro z V3 ⟨A2, c2, C2, d2, rfl, hn, hm, hb⟩
      have hat := (dec_at hn hm).1
      rw [HXY.out.1] at hat ⊢
      rw [HXY.out.2]
      simp only [evV]
      replace HN := Lib.hid (HN.out.below hb)
      replace HM := Lib.hid (HM.out.below hb)
      replace HR := Lib.hid (below_step HR.out hb)
      replace HE1 := Lib.hid (HE1.out.below hb)
      replace HP := Lib.hid (HP.out.below hb)
      have HE2 := Lib.hid hat
      clear hn hm hb hat
      go_upto_region 13 with (fail)
      have hb := (Below.refl V3.heap.size V3).alloc (Nat.le_refl _) (.cells #[.int .u8 x.v, .int .u8 x.k, .slice A2 x.ns.length c2, .slice C2 x.ts.length d2] 26)
      have HQ := Lib.hid (show Four _ V3.heap.size _ _ _ _ from box4 V3 (.int .u8 x.v) (.int .u8 x.k) (.slice A2 x.ns.length c2) (.slice C2 x.ts.length d2) 26)
      replace HN := Lib.hid (HN.out.below hb)
      replace HM := Lib.hid (HM.out.below hb)
      replace HR := Lib.hid (below_step HR.out hb)
      replace HE1 := Lib.hid (HE1.out.below hb)
      replace HE2 := Lib.hid (HE2.out.below hb)
      replace HP := Lib.hid (HP.out.below hb)
      clear hb
      generalize V3.alloc (.cells #[.int .u8 x.v, .int .u8 x.k, .slice A2 x.ns.length c2, .slice C2 x.ts.length d2] 26) = V4 at HP HQ HN HM HR HE1 HE2 ⊢
      generalize V3.heap.size = b2 at HQ ⊢
      have hsm := sameE_any A ca C cc x A2 c2 C2 d2 x (by have := HAT.out.2.1; omega) (by have := HAT.out.2.2; omega) V4 HE1.out HE2.out
      rw [show same x x = true from same_yes rfl rfl rfl rfl] at hsm
      simp only [evV] at hsm
      have HW := Lib.hid hsm
      clear hsm
      have q3 : ((y : Int) != (y : Int)) = false := by simp
      have q4 : (y != y) = false := by simp
      obtain ⟨x0, x1, x2, x3⟩ := HQ.out
      obtain ⟨p0, p1, p2, p3⟩ := HP.out
      go_wp2_with fail
      refine HW.out.mono ?_
      clear x0 x1 x2 x3 p0 p1 p2 p3 q3 q4 HW
      rintro z V5 ⟨rfl, hb⟩
      replace HN := Lib.hid (HN.out.below hb)
      replace HM := Lib.hid (HM.out.below hb)
      replace HR := Lib.hid (below_step HR.out hb)
      replace HP := Lib.hid (HP.out.below hb)
      clear hb HQ HE1 HE2
      have HW := Lib.hid (spoil_any A ca C cc x wr.heap.size V5 HN.out HM.out HR.out.size (by have := HAT.out.2.1; omega) (by have := HAT.out.2.2; omega))
      simp only [evV] at HW
      obtain ⟨p0, p1, p2, p3⟩ := HP.out
      go_wp2_with fail
      refine HW.out.mono ?_
      clear p0 p1 p2 p3 HW
      rintro z V6 ⟨rfl, hb⟩
      have HB2 : Hid (Below w.heap.size w V6) := HBk.out.trans ((HR.out.trans hb).mono HBk.out.size)
      clear hb
      go_wp2_with fail
      go_roundw
      case rel => exact ⟨k + 1, by go_num, by omega, HB2⟩
      case measure => simp [intOf] <;> omega
    · have z0 : ¬ (k : Int) < 2 := by omega
      have z1 : decide ((k : Int) < 2) = false := decide_eq_false z0
      go_wp2_with fail
      refine (works_any wr (HE.out.below HBk.out)).mono ?_
      rintro z V1 ⟨rfl, hb⟩
      have HB2 := Lib.hid (below_step HBk.out hb)
      clear hb
      go_wp2_with fail
      go_ret
      exact ⟨rfl, HB2.out⟩

end Go.Proofs.YtefkfjbdmglkjaaDoor.Codec
