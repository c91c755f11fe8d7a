import Derived.Test.YtiibeemjkdipnaaGreatDoorE26
import Derived.Test.YtiibeemjkdipnaaGreatDoorGLUnlike
import Derived.Deep.RegionHeld3
/-
  The document's Bare and Encode; an event in new memory, and one that is written over.
-/
namespace Go.Proofs.YtiibeemjkdipnaaGreatDoor.Schema
open Go Go.RowKit

set_option maxRecDepth 100000 in
set_option maxHeartbeats 2000000 in
theorem own_any (A : Option Addr) (ca : Nat) (B : Option Addr) (cb : Nat) (e : Ev) (hl : e.ns.length * 8 ≤ 140737488351232) (hm : e.ts.length * 16 ≤ 140737488351232) (w : World) (hA : EvAt w A ca B cb e) :
    Calls Tryz.prog 26 #[evV A ca B cb e] w (OwnEv w e) := by
  have HNs := Lib.hid hA.ns
  have HTs := Lib.hid hA.ts
  have HnA := Lib.hid hA.nA
  have HnB := Lib.hid hA.nB
  have HNC := Lib.hid (nums_cell e.ns)
  have HTC := Lib.hid (texts_cell e.ts)
  have HLN := Lib.hid (show e.ns.length = (nums e.ns).length from (nums_len _).symm)
  have HLT := Lib.hid (show e.ts.length = (texts e.ts).length from (texts_len _).symm)
  clear hA
  obtain ⟨v, k, ns, ts⟩ := e
  simp only [evV] at *
  have HA0 := (Below.refl w.heap.size w).alloc (Nat.le_refl _) (.cells #[.int .u8 v, .int .u8 k, .slice A ns.length ca, .slice B ts.length cb] 39)
  have HB4 := box4 w (.int .u8 v) (.int .u8 k) (.slice A ns.length ca) (.slice B ts.length cb) 39
  have hs : (w.alloc (.cells #[.int .u8 v, .int .u8 k, .slice A ns.length ca, .slice B ts.length cb] 39)).heap.size = w.heap.size + 1 := by simp
  have HC0 := (Below.refl (w.alloc (.cells #[.int .u8 v, .int .u8 k, .slice A ns.length ca, .slice B ts.length cb] 39)).heap.size (w.alloc (.cells #[.int .u8 v, .int .u8 k, .slice A ns.length ca, .slice B ts.length cb] 39))).alloc (Nat.le_refl _) (.cells #[.int .u8 0, .int .u8 0, .slice none 0 0, .slice none 0 0] 39)
  have HC4 := box4 (w.alloc (.cells #[.int .u8 v, .int .u8 k, .slice A ns.length ca, .slice B ts.length cb] 39)) (.int .u8 0) (.int .u8 0) (.slice none 0 0) (.slice none 0 0) 39
  have HFr := free_new (w.alloc (.cells #[.int .u8 v, .int .u8 k, .slice A ns.length ca, .slice B ts.length cb] 39)) #[.int .u8 0, .int .u8 0, .slice none 0 0, .slice none 0 0] 39
  rw [hs] at HC4 HFr
  have HX4 := Four.below HB4 HC0
  have HBW := below_step HA0 HC0
  have HHX := Lib.hid HX4
  have HHC := Lib.hid (show Four _ (w.heap.size + 1) _ _ _ _ from HC4)
  have HHF := Lib.hid HFr
  have HHB := Lib.hid HBW
  clear HA0 HB4 hs HC0 HC4 HFr HX4 HBW
  go_enter Tryz.func26, Tryz.ntmps26
  go_wp2_with fail
  generalize (w.alloc (.cells #[.int .u8 v, .int .u8 k, .slice A ns.length ca, .slice B ts.length cb] 39)).alloc (.cells #[.int .u8 0, .int .u8 0, .slice none 0 0, .slice none 0 0] 39) = Y at HHX HHC HHF HHB ⊢
  have g0 : Four Y.drew w.heap.size _ _ _ _ := HHX.out
  have g1 : Four Y.drew (w.heap.size + 1) _ _ _ _ := HHC.out
  have g2 : Free Y.drew (w.heap.size + 1) := HHF.out
  have g3 : Below Y.heap.size Y Y.drew := below_drew _ _
  clear g0 g1 g2
  have HK := Lib.hid (fun W (hW : Below Y.heap.size Y W) => show (fun w' => (Below (w.heap.size + 1) Y w' ∧ Y.heap.size ≤ w'.heap.size) ∧ w'.cell? ⟨w.heap.size, 0, none⟩ = some (.int .u8 v) ∧ w'.cell? ⟨w.heap.size, 1, none⟩ = some (.int .u8 k) ∧ w'.cell? ⟨w.heap.size, 2, none⟩ = some (.slice A ns.length ca) ∧ w'.cell? ⟨w.heap.size, 3, none⟩ = some (.slice B ts.length cb) ∧ w'.cell? ⟨w.heap.size + 1, 0, none⟩ = some (at0 w' (w.heap.size + 1) 0) ∧ w'.cell? ⟨w.heap.size + 1, 1, none⟩ = some (at0 w' (w.heap.size + 1) 1) ∧ w'.cell? ⟨w.heap.size + 1, 2, none⟩ = some (at0 w' (w.heap.size + 1) 2) ∧ w'.cell? ⟨w.heap.size + 1, 3, none⟩ = some (at0 w' (w.heap.size + 1) 3) ∧ w'.frozen? ⟨w.heap.size + 1, 0, none⟩ = false ∧ w'.frozen? ⟨w.heap.size + 1, 1, none⟩ = false ∧ w'.frozen? ⟨w.heap.size + 1, 2, none⟩ = false ∧ w'.frozen? ⟨w.heap.size + 1, 3, none⟩ = false) W from by
    have h0 := HHX.out.below hW
    have h1 := HHC.out.below hW
    have h2 := HHF.out.below hW
    have h3 := HHF.out.1
    exact ⟨⟨hW.mono (by omega), hW.size⟩, h0.1, h0.2.1, h0.2.2.1, h0.2.2.2, at0_of h1.1, at0_of h1.2.1, at0_of h1.2.2.1, at0_of h1.2.2.2, h2.2 _, h2.2 _, h2.2 _, h2.2 _⟩)
  have HK2 := Lib.hid (fun W W' (h : (fun w' => (Below (w.heap.size + 1) Y w' ∧ Y.heap.size ≤ w'.heap.size) ∧ w'.cell? ⟨w.heap.size, 0, none⟩ = some (.int .u8 v) ∧ w'.cell? ⟨w.heap.size, 1, none⟩ = some (.int .u8 k) ∧ w'.cell? ⟨w.heap.size, 2, none⟩ = some (.slice A ns.length ca) ∧ w'.cell? ⟨w.heap.size, 3, none⟩ = some (.slice B ts.length cb) ∧ w'.cell? ⟨w.heap.size + 1, 0, none⟩ = some (at0 w' (w.heap.size + 1) 0) ∧ w'.cell? ⟨w.heap.size + 1, 1, none⟩ = some (at0 w' (w.heap.size + 1) 1) ∧ w'.cell? ⟨w.heap.size + 1, 2, none⟩ = some (at0 w' (w.heap.size + 1) 2) ∧ w'.cell? ⟨w.heap.size + 1, 3, none⟩ = some (at0 w' (w.heap.size + 1) 3) ∧ w'.frozen? ⟨w.heap.size + 1, 0, none⟩ = false ∧ w'.frozen? ⟨w.heap.size + 1, 1, none⟩ = false ∧ w'.frozen? ⟨w.heap.size + 1, 2, none⟩ = false ∧ w'.frozen? ⟨w.heap.size + 1, 3, none⟩ = false) W) (hW : Below W.heap.size W W') => show (fun w' => (Below (w.heap.size + 1) Y w' ∧ Y.heap.size ≤ w'.heap.size) ∧ w'.cell? ⟨w.heap.size, 0, none⟩ = some (.int .u8 v) ∧ w'.cell? ⟨w.heap.size, 1, none⟩ = some (.int .u8 k) ∧ w'.cell? ⟨w.heap.size, 2, none⟩ = some (.slice A ns.length ca) ∧ w'.cell? ⟨w.heap.size, 3, none⟩ = some (.slice B ts.length cb) ∧ w'.cell? ⟨w.heap.size + 1, 0, none⟩ = some (at0 w' (w.heap.size + 1) 0) ∧ w'.cell? ⟨w.heap.size + 1, 1, none⟩ = some (at0 w' (w.heap.size + 1) 1) ∧ w'.cell? ⟨w.heap.size + 1, 2, none⟩ = some (at0 w' (w.heap.size + 1) 2) ∧ w'.cell? ⟨w.heap.size + 1, 3, none⟩ = some (at0 w' (w.heap.size + 1) 3) ∧ w'.frozen? ⟨w.heap.size + 1, 0, none⟩ = false ∧ w'.frozen? ⟨w.heap.size + 1, 1, none⟩ = false ∧ w'.frozen? ⟨w.heap.size + 1, 2, none⟩ = false ∧ w'.frozen? ⟨w.heap.size + 1, 3, none⟩ = false) W' from by
    obtain ⟨⟨h0, h0s⟩, h1, h2, h3, h4, h5, h6, h7, h8, f0, f1, f2, f3⟩ := h
    have hz := HHF.out.1
    have hq : ∀ o, W'.cell? ⟨w.heap.size + 1, o, none⟩ = W.cell? ⟨w.heap.size + 1, o, none⟩ := fun o => World.cell?_of_block (hW.block _ (show w.heap.size + 1 < W.heap.size by omega))
    have hf : ∀ o, W'.frozen? ⟨w.heap.size + 1, o, none⟩ = W.frozen? ⟨w.heap.size + 1, o, none⟩ := fun o => World.frozen?_of_block (hW.block _ (show w.heap.size + 1 < W.heap.size by omega))
    exact ⟨⟨h0.trans (hW.mono (by omega)), Nat.le_trans h0s hW.size⟩, cell_kept h1 hW, cell_kept h2 hW, cell_kept h3 hW, cell_kept h4 hW, at0_of ((hq _).trans h5), at0_of ((hq _).trans h6), at0_of ((hq _).trans h7), at0_of ((hq _).trans h8), by rw [hf]; exact f0, by rw [hf]; exact f1, by rw [hf]; exact f2, by rw [hf]; exact f3⟩)
  have hk3 : ∀ (W : World) (o : Nat) (x : Value), (fun w' => (Below (w.heap.size + 1) Y w' ∧ Y.heap.size ≤ w'.heap.size) ∧ w'.cell? ⟨w.heap.size, 0, none⟩ = some (.int .u8 v) ∧ w'.cell? ⟨w.heap.size, 1, none⟩ = some (.int .u8 k) ∧ w'.cell? ⟨w.heap.size, 2, none⟩ = some (.slice A ns.length ca) ∧ w'.cell? ⟨w.heap.size, 3, none⟩ = some (.slice B ts.length cb) ∧ w'.cell? ⟨w.heap.size + 1, 0, none⟩ = some (at0 w' (w.heap.size + 1) 0) ∧ w'.cell? ⟨w.heap.size + 1, 1, none⟩ = some (at0 w' (w.heap.size + 1) 1) ∧ w'.cell? ⟨w.heap.size + 1, 2, none⟩ = some (at0 w' (w.heap.size + 1) 2) ∧ w'.cell? ⟨w.heap.size + 1, 3, none⟩ = some (at0 w' (w.heap.size + 1) 3) ∧ w'.frozen? ⟨w.heap.size + 1, 0, none⟩ = false ∧ w'.frozen? ⟨w.heap.size + 1, 1, none⟩ = false ∧ w'.frozen? ⟨w.heap.size + 1, 2, none⟩ = false ∧ w'.frozen? ⟨w.heap.size + 1, 3, none⟩ = false) W → (fun w' => (Below (w.heap.size + 1) Y w' ∧ Y.heap.size ≤ w'.heap.size) ∧ w'.cell? ⟨w.heap.size, 0, none⟩ = some (.int .u8 v) ∧ w'.cell? ⟨w.heap.size, 1, none⟩ = some (.int .u8 k) ∧ w'.cell? ⟨w.heap.size, 2, none⟩ = some (.slice A ns.length ca) ∧ w'.cell? ⟨w.heap.size, 3, none⟩ = some (.slice B ts.length cb) ∧ w'.cell? ⟨w.heap.size + 1, 0, none⟩ = some (at0 w' (w.heap.size + 1) 0) ∧ w'.cell? ⟨w.heap.size + 1, 1, none⟩ = some (at0 w' (w.heap.size + 1) 1) ∧ w'.cell? ⟨w.heap.size + 1, 2, none⟩ = some (at0 w' (w.heap.size + 1) 2) ∧ w'.cell? ⟨w.heap.size + 1, 3, none⟩ = some (at0 w' (w.heap.size + 1) 3) ∧ w'.frozen? ⟨w.heap.size + 1, 0, none⟩ = false ∧ w'.frozen? ⟨w.heap.size + 1, 1, none⟩ = false ∧ w'.frozen? ⟨w.heap.size + 1, 2, none⟩ = false ∧ w'.frozen? ⟨w.heap.size + 1, 3, none⟩ = false) (W.setCell ⟨w.heap.size + 1, o, none⟩ x) := fun W o x h => by
    obtain ⟨⟨h0, h0s⟩, h1, h2, h3, h4, h5, h6, h7, h8, f0, f1, f2, f3⟩ := h
    have hx : ∀ j, (W.setCell ⟨w.heap.size + 1, o, none⟩ x).cell? ⟨w.heap.size, j, none⟩ = W.cell? ⟨w.heap.size, j, none⟩ := fun j => World.cell?_setCell_far W _ _ x (show w.heap.size + 1 ≠ w.heap.size by omega)
    have hs : ∀ j u, W.cell? ⟨w.heap.size + 1, j, none⟩ = some u → (W.setCell ⟨w.heap.size + 1, o, none⟩ x).cell? ⟨w.heap.size + 1, j, none⟩ = some (at0 (W.setCell ⟨w.heap.size + 1, o, none⟩ x) (w.heap.size + 1) j) := fun j u hu => by
      obtain ⟨v', hy⟩ := cell?_setCell_some (w := W) (p := ⟨w.heap.size + 1, o, none⟩) (x := x) (q := ⟨w.heap.size + 1, j, none⟩) (v := u) hu
      exact at0_of hy
    have hf : ∀ j, (W.setCell ⟨w.heap.size + 1, o, none⟩ x).frozen? ⟨w.heap.size + 1, j, none⟩ = W.frozen? ⟨w.heap.size + 1, j, none⟩ := fun j => by simp
    exact ⟨⟨h0.setCell (Nat.le_refl _) x, by simpa using h0s⟩, by rw [hx]; exact h1, by rw [hx]; exact h2, by rw [hx]; exact h3, by rw [hx]; exact h4, hs _ _ h5, hs _ _ h6, hs _ _ h7, hs _ _ h8, by rw [hf]; exact f0, by rw [hf]; exact f1, by rw [hf]; exact f2, by rw [hf]; exact f3⟩
  have HK3 := Lib.hid hk3
  clear hk3
  have HWY := Lib.hid (fun W (h : Below (w.heap.size + 1) Y W ∧ Y.heap.size ≤ W.heap.size) => HHB.out.trans (h.1.mono (Nat.le_succ w.heap.size)))
  go_region_held3 (fun w' => (Below (w.heap.size + 1) Y w' ∧ Y.heap.size ≤ w'.heap.size) ∧ w'.cell? ⟨w.heap.size, 0, none⟩ = some (.int .u8 v) ∧ w'.cell? ⟨w.heap.size, 1, none⟩ = some (.int .u8 k) ∧ w'.cell? ⟨w.heap.size, 2, none⟩ = some (.slice A ns.length ca) ∧ w'.cell? ⟨w.heap.size, 3, none⟩ = some (.slice B ts.length cb) ∧ w'.cell? ⟨w.heap.size + 1, 0, none⟩ = some (at0 w' (w.heap.size + 1) 0) ∧ w'.cell? ⟨w.heap.size + 1, 1, none⟩ = some (at0 w' (w.heap.size + 1) 1) ∧ w'.cell? ⟨w.heap.size + 1, 2, none⟩ = some (at0 w' (w.heap.size + 1) 2) ∧ w'.cell? ⟨w.heap.size + 1, 3, none⟩ = some (at0 w' (w.heap.size + 1) 3) ∧ w'.frozen? ⟨w.heap.size + 1, 0, none⟩ = false ∧ w'.frozen? ⟨w.heap.size + 1, 1, none⟩ = false ∧ w'.frozen? ⟨w.heap.size + 1, 2, none⟩ = false ∧ w'.frozen? ⟨w.heap.size + 1, 3, none⟩ = false)
    (first | assumption | exact HK.out _ (below_drew _ _) | exact HK2.out _ _ (by assumption) (by assumption) | exact HK2.out _ _ (by assumption) ((Below.refl _ _).alloc (Nat.le_refl _) _) | exact HK3.out _ _ _ (HK3.out _ _ _ (HK3.out _ _ _ (HK3.out _ _ _ (by assumption)))))
    (first
      | (refine step_append_big 36 2 (.int .i64 0) 8 Tryz.underlying36 infoN rfl (by decide) rfl (.tmp 7) (.tmp 9) rfl _ rfl A _ ca (nums ns) rfl HLN.out (HNs.out.below (HWY.out _ (hb_of (by assumption)))) HNC.out HnA.out (by rw [← HLN.out]; omega) (by rw [← HLN.out]; omega) ?_; intro v' w' hO1 hb1; obtain ⟨A1, c1, rfl, _⟩ := hO1.vat; (have q1 := hO1.less (base' := Y.heap.size) (hb_of (by assumption)).2); (have q1u := q1.under); (have q1z : Y.heap.size ≤ w'.heap.size := Nat.le_trans (hb_of (by assumption)).2 hb1.size))
      | (refine step_append_big 37 9 (.string ByteArray.empty) 16 Tryz.underlying37 infoT rfl (by decide) rfl (.tmp 11) (.tmp 13) rfl _ rfl B _ cb (texts ts) rfl HLT.out (HTs.out.below (HWY.out _ (hb_of (by assumption)))) HTC.out HnB.out (by rw [← HLT.out]; omega) (by rw [← HLT.out]; omega) ?_; intro v2' w2' hO2 hb2; obtain ⟨A2, c2, rfl, _⟩ := hO2.vat; (have q2 : OwnE w2' w'.heap.size 9 (.slice A2 (texts ts).length c2) (texts ts) := hO2.less (by first | exact Nat.le_refl _ | simp)); (have q2s : w'.heap.size ≤ w2'.heap.size := Nat.le_trans (by first | exact Nat.le_refl _ | simp) hb2.size); (have q3 : OwnE w2' Y.heap.size 2 (.slice A1 (nums ns).length c1) (nums ns) := by first | exact q1.below hb2 | exact (q1.below ((Below.refl _ _).alloc (Nat.le_refl _) _)).below hb2); (have q4 := HK2.out _ _ (by assumption) hb2)))
  all_goals
    have r1 := (((q3.set (b := w.heap.size + 1) (o := 0) HHF.out.1 (.int .u8 v)).set (b := w.heap.size + 1) (o := 1) HHF.out.1 (.int .u8 k)).set (b := w.heap.size + 1) (o := 2) HHF.out.1 (.slice A1 (nums ns).length c1)).set (b := w.heap.size + 1) (o := 3) HHF.out.1 (.slice A2 (texts ts).length c2)
    have r2 := (((q2.set (b := w.heap.size + 1) (o := 0) (Nat.lt_of_lt_of_le HHF.out.1 q1z) (.int .u8 v)).set (b := w.heap.size + 1) (o := 1) (Nat.lt_of_lt_of_le HHF.out.1 q1z) (.int .u8 k)).set (b := w.heap.size + 1) (o := 2) (Nat.lt_of_lt_of_le HHF.out.1 q1z) (.slice A1 (nums ns).length c1)).set (b := w.heap.size + 1) (o := 3) (Nat.lt_of_lt_of_le HHF.out.1 q1z) (.slice A2 (texts ts).length c2)
    have r3 := HWY.out _ (hb_of (HK3.out _ 3 (.slice A2 (texts ts).length c2) (HK3.out _ 2 (.slice A1 (nums ns).length c1) (HK3.out _ 1 (.int .u8 k) (HK3.out _ 0 (.int .u8 v) q4)))))
    obtain ⟨_, _, _, _, _, d0, d1, d2, d3, _⟩ := q4
    have HR1 := Lib.hid r1
    have HR2 := Lib.hid r2
    have HR3 := Lib.hid r3
    have HQ := Lib.hid (And.intro q1u (And.intro q1z q2s))
    clear r1 r2 r3 q1u q1z q2s
    go_wp2_with fail
    refine bodyPost_ret (v := .agg #[.int .u8 v, .int .u8 k, .slice A1 (nums ns).length c1, .slice A2 (texts ts).length c2]) ?_ rfl ⟨_, _, rfl, w'.heap.size, Nat.le_trans HHB.out.size HQ.out.2.1, by simpa using HQ.out.2.2, (HR1.out.less HHB.out.size).put HQ.out.1, HR2.out.put HR2.out.under, HR3.out⟩
    simp [results, Tryz.results26, go_sem, d0, d1, d2, d3]

theorem own_x (A : Option Addr) (ca : Nat) (B : Option Addr) (cb : Nat) (e : Ev) (hl : e.ns.length * 8 ≤ 140737488351232) (hm : e.ts.length * 16 ≤ 140737488351232) (w : World) (hA : EvAt w A ca B cb e) :
    Calls Tryz.prog 26 #[evV A ca B cb e] w (OwnX w e) :=
  (own_any A ca B cb e hl hm w hA).mono fun z w' h => by
    obtain ⟨v1, v2, hz, mid, h1, h2, h3, h4, h5⟩ := h
    obtain ⟨A1, c1, e1, _⟩ := h3.own.vat
    obtain ⟨B1, c2, e2, _⟩ := h4.own.vat
    rw [nums_len] at e1
    rw [texts_len] at e2
    subst e1 e2
    exact ⟨A1, c1, B1, c2, mid, hz, h1, h2, h3, h4, h5⟩

end Go.Proofs.YtiibeemjkdipnaaGreatDoor.Schema
namespace Go.Proofs.YtiibeemjkdipnaaGreatDoor.Codec
open Go Go.RowKit
open Go.Proofs.YtiibeemjkdipnaaGreatDoor.Wire (U fixB shortB textB refShort_any refText_any conv1_now conv1_drew conv1_after one_byte str1_size S_append below_a below_b)
open Go.Proofs.YtiibeemjkdipnaaGreatDoor.Schema

theorem S_snoc (l m : List UInt8) : Wire.S l ++ Wire.S m = Wire.S (l ++ m) := S_append l m
theorem kind_byte (k : Nat) (h : k < 256) : strOfNums [(k : Int)] = Wire.S (fixB 1 k) := by
  rw [one_byte k (k : Int) (by unfold U; omega)]
  rw [Wire.fix1]; rfl
set_option maxRecDepth 100000 in
set_option maxHeartbeats 2000000 in
theorem Bare_any (A : Option Addr) (ca : Nat) (C : Option Addr) (cc : Nat) (e : Ev) (w : World) (hA : EvAt w A ca C cc e) (hm : may e = true) :
    Calls Tryz.prog 30 #[evV A ca C cc e] w fun z w' => z = .returned (.string (Wire.S (bare e))) ∧ Below w.heap.size w w' := by
  have hb := (Below.refl w.heap.size w).alloc (Nat.le_refl _) (.cells #[.int .u8 e.v, .int .u8 e.k, .slice A e.ns.length ca, .slice C e.ts.length cc] 39)
  have HP := Lib.hid (show Four _ w.heap.size _ _ _ _ from box4 w (.int .u8 e.v) (.int .u8 e.k) (.slice A e.ns.length ca) (.slice C e.ts.length cc) 39)
  have HNs := Lib.hid (hA.ns.below hb)
  have HTs := Lib.hid (hA.ts.below hb)
  have HB := Lib.hid hb
  have HKB := Lib.hid (kind_byte e.k hA.k)
  have hk := hA.k
  have HMR := Lib.hid (fun j (hj : j < e.ns.length) => may_range hm j hj)
  have HMT := Lib.hid (fun j (hj : j < e.ts.length) => may_text hm j hj)
  have HML := Lib.hid (may_lens hm)
  have HBR := Lib.hid (show bare e = fixB 1 e.k ++ nsB e.ns ++ tsB e.ts from rfl)
  have hl1 : e.ns.length ≤ 9223372036854775807 := by have := (may_lens hm).1; omega
  have hl2 : e.ts.length ≤ 9223372036854775807 := by have := (may_lens hm).2; omega
  clear hb hA hm
  obtain ⟨v, kk, ns, ts⟩ := e
  simp only [evV] at *
  go_enter Tryz.func30, Tryz.ntmps30
  go_upto_region 1 with (fail)
  generalize w.alloc (.cells #[.int .u8 v, .int .u8 kk, .slice A ns.length ca, .slice C ts.length cc] 39) = W at HP HNs HTs HB ⊢
  obtain ⟨p0, p1, p2, p3⟩ := HP.out
  have hc1 := conv1_now
  have hb1 := (Below.refl W.heap.size W).alloc (Nat.le_refl _) (.cells #[.int .u8 (kk : Int)] 5)
  have HP1 := Lib.hid (HP.out.below hb1)
  have HN1 := Lib.hid (HNs.out.below hb1)
  have HT1 := Lib.hid (HTs.out.below hb1)
  have HB1 := Lib.hid (below_step HB.out hb1)
  clear hb1 HP HNs HTs HB
  go_wp2_with fail
  clear p0 p1 p2 p3 hc1
  rw [HKB.out]
  generalize W.alloc (.cells #[.int .u8 (kk : Int)] 5) = W1 at HP1 HN1 HT1 HB1 ⊢
  go_loopw [3, 4] (fun x j wr => ∃ k : Nat, j = .int .i64 k ∧ k ≤ ns.length ∧ x = .string (Wire.S (fixB 1 kk ++ nsB (ns.take k))) ∧ Hid (Below W1.heap.size W1 wr)) (fun _ j _ => ns.length - (intOf j).toNat)
  case atStart => exact ⟨0, rfl, Nat.zero_le _, by rw [nsB_zero, List.append_nil], Below.refl _ _⟩
  case round =>
    obtain ⟨k, rfl, hk2, rfl, HBk⟩ := hrel
    obtain ⟨p0, p1, p2, p3⟩ := HP1.out.below HBk.out
    by_cases hlt : k < ns.length
    · have z0 : (0 : Int) ≤ (k : Int) := by omega
      have z1 : (k : Int) < (ns.length : Int) := by omega
      obtain ⟨b, o, rfl, c0⟩ := (HN1.out.below HBk.out) k _ (nums_at ns k hlt)
      have hr := HMR.out k hlt
      have hcv := conv64 _ hr.1 hr.2
      have HS := Lib.hid (show Wire.S (fixB 1 kk ++ nsB (ns.take k)) ++ Wire.S (shortB (ns.getD k 0).toNat) = Wire.S (fixB 1 kk ++ nsB (ns.take (k + 1))) by rw [S_snoc, nsB_snoc ns k hlt, List.append_assoc])
      have hz1 : (Wire.S (fixB 1 kk ++ nsB (ns.take k))).size ≤ 100000 := by
        have h1 := nsB_len (ns.take k)
        have h2 := HML.out.1
        rw [List.length_take] at h1
        rw [S_size, List.length_append, Wire.fixB_length]; omega
      have hz2 : (Wire.S (shortB (ns.getD k 0).toNat)).size ≤ 11 := by rw [S_size]; exact Wire.shortB_le _
      have HRG := Lib.hid hr
      clear hr
      generalize ns.getD k 0 = x at c0 hcv HS hz2 HRG
      generalize hq1 : Wire.S (fixB 1 kk ++ nsB (ns.take k)) = s1 at HS hz1 ⊢
      clear hq1
      go_wp2_with fail
      have hx : Hid (x.toNat < 18446744073709551616) := by show _ < _; have := HRG.out; omega
      refine (refShort_any x.toNat wr hx).mono ?_
      rintro z W2 ⟨rfl, hb⟩
      have HB2 := Lib.hid (below_step HBk.out hb)
      clear hb
      go_wp2_with fail
      go_roundw
      case rel => exact ⟨k + 1, by go_num, by omega, by rw [HS.out], HB2⟩
      case measure => simp [intOf] <;> omega
    · have z1 : ¬ (k : Int) < (ns.length : Int) := by omega
      have hkk : k = ns.length := by omega
      rw [hkk, List.take_length]
      clear hkk hlt
      go_wp2_with fail
      clear p0 p1 p2 p3 z1
      have HP2 := Lib.hid (HP1.out.below HBk.out)
      have HT2 := Lib.hid (HT1.out.below HBk.out)
      have HB2 := Lib.hid (below_step HB1.out HBk.out)
      clear HP1 HN1 HT1 HB1 HBk
      generalize wr = W2 at HP2 HT2 HB2 ⊢
      go_loopw [3, 5] (fun x j wr => ∃ k : Nat, j = .int .i64 k ∧ k ≤ ts.length ∧ x = .string (Wire.S (fixB 1 kk ++ nsB ns ++ tsB (ts.take k))) ∧ Hid (Below W2.heap.size W2 wr)) (fun _ j _ => ts.length - (intOf j).toNat)
      case atStart => exact ⟨0, rfl, Nat.zero_le _, by rw [tsB_zero, List.append_nil], Below.refl _ _⟩
      case round =>
        obtain ⟨k, rfl, hk2, rfl, HBk⟩ := hrel
        obtain ⟨p0, p1, p2, p3⟩ := HP2.out.below HBk.out
        by_cases hlt : k < ts.length
        · have z0 : (0 : Int) ≤ (k : Int) := by omega
          have z1 : (k : Int) < (ts.length : Int) := by omega
          obtain ⟨b, o, rfl, c0⟩ := (HT2.out.below HBk.out) k _ (texts_at ts k hlt)
          have hr := HMT.out k hlt
          have HS := Lib.hid (show Wire.S (fixB 1 kk ++ nsB ns ++ tsB (ts.take k)) ++ Wire.S (textB (ts.getD k ByteArray.empty)) = Wire.S (fixB 1 kk ++ nsB ns ++ tsB (ts.take (k + 1))) by rw [S_snoc, tsB_snoc ts k hlt, List.append_assoc])
          have hk0 : k = 0 := by have := HML.out.2; omega
          have hz1 : (Wire.S (fixB 1 kk ++ nsB ns ++ tsB (ts.take k))).size ≤ 100000 := by
            have h1 := nsB_len ns
            have h2 := HML.out.1
            rw [hk0, tsB_zero, List.append_nil, S_size, List.length_append, Wire.fixB_length]; omega
          have hz2 : (Wire.S (textB (ts.getD k ByteArray.empty))).size ≤ 100 := by
            rw [S_size, textB_len]; have := Wire.shortB_le (ts.getD k ByteArray.empty).size; omega
          have HRG := Lib.hid hr
          clear hr hk0
          generalize ts.getD k ByteArray.empty = x at c0 HS hz2 HRG
          generalize hq1 : Wire.S (fixB 1 kk ++ nsB ns ++ tsB (ts.take k)) = s1 at HS hz1 ⊢
          clear hq1
          go_wp2_with fail
          refine (refText_any x wr (by have := HRG.out; omega)).mono ?_
          rintro z W3 ⟨rfl, hb⟩
          have HB3 := Lib.hid (below_step HBk.out hb)
          clear hb
          go_wp2_with fail
          go_roundw
          case rel => exact ⟨k + 1, by go_num, by omega, by rw [HS.out], HB3⟩
          case measure => simp [intOf] <;> omega
        · have z1 : ¬ (k : Int) < (ts.length : Int) := by omega
          have hkk : k = ts.length := by omega
          rw [hkk, List.take_length]
          clear hkk hlt
          go_wp2_with fail
          go_ret
          exact ⟨by rw [HBR.out]; rfl, below_step HB2.out HBk.out⟩

end Go.Proofs.YtiibeemjkdipnaaGreatDoor.Codec
