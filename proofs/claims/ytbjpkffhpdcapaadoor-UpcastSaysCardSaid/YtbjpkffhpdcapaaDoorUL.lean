import Derived.Test.YtbjpkffhpdcapaaDoorUS
/-
  What the laws of layer 7 call: event, told.
-/
namespace Go.Proofs.YtbjpkffhpdcapaaDoor.Upcast
open Go Go.RowKit
open Go.Proofs.YtbjpkffhpdcapaaDoor.Schema

set_option maxRecDepth 100000 in
set_option maxHeartbeats 1000000 in
theorem event_any (v k : Nat) (A : Option Addr) (n c : Nat) (w : World) :
    Calls Tryd.prog 25 #[.int .u8 (v : Int), .int .u8 (k : Int), .slice A n c] w (fun z w' => z = .returned (.agg #[.int .u8 (v : Int), .int .u8 (k : Int), .slice A n c, .slice none 0 0]) ∧ Below w.heap.size w w') := by
  have HN := Lib.hid (box4 w (.int .u8 0) (.int .u8 0) (.slice none 0 0) (.slice none 0 0) 25)
  have HF := Lib.hid (free_new w #[.int .u8 0, .int .u8 0, .slice none 0 0, .slice none 0 0] 25)
  have HB := Lib.hid ((Below.refl w.heap.size w).alloc (Nat.le_refl _) (.cells #[.int .u8 0, .int .u8 0, .slice none 0 0, .slice none 0 0] 25))
  go_enter Tryd.func25, Tryd.ntmps25
  go_upto_region 1 with (fail)
  generalize w.alloc (.cells #[.int .u8 0, .int .u8 0, .slice none 0 0, .slice none 0 0] 25) = W at HN HF HB ⊢
  obtain ⟨x0, x1, x2, x3⟩ := HN.out
  have f0 := HF.out.2 0
  have f1 := HF.out.2 1
  have f2 := HF.out.2 2
  have f3 := HF.out.2 3
  go_wp2_with fail
  clear x0 x1 x2 x3 f0 f1 f2 f3
  obtain ⟨e0, e1, e2, e3⟩ := Four.set4 (show Four W w.heap.size _ _ _ _ from HN.out) (.int .u8 (v : Int)) (.int .u8 (k : Int)) (.slice A n c) (.slice none 0 0)
  refine bodyPost_ret (v := .agg #[.int .u8 (v : Int), .int .u8 (k : Int), .slice A n c, .slice none 0 0]) (by simp [results, Tryd.results25, go_sem, e0, e1, e2, e3]) rfl ⟨rfl, ?_⟩
  exact HB.out.trans ((touch4 W w.heap.size _ _ _ _).below (Nat.le_refl _) HB.out.size)

set_option maxRecDepth 100000 in
set_option maxHeartbeats 1000000 in
theorem told_any (A : Option Addr) (ca : Nat) (C : Option Addr) (cc : Nat) (e : Ev) (n : Nat) (B : Option Addr) (cb : Nat) (D : Option Addr) (cd : Nat) (f : Ev) (h1 : e.ns.length ≤ 1000000) (h2 : f.ns.length ≤ 1000000) (h3 : e.ts.length ≤ 1000000) (h4 : f.ts.length ≤ 1000000) (w : World) (hA : EvAt w A ca C cc e) (hC : EvAt w B cb D cd f) :
    Calls Tryd.prog 21 #[evV A ca C cc e, .int .i64 (n : Int), evV B cb D cd f] w (fun z w' => z = .returned (.bool (decide (n = 0) && same e f)) ∧ Below w.heap.size w w') := by
  have HA := Lib.hid hA
  have HC := Lib.hid hC
  have H1 := Lib.hid h1
  have H2 := Lib.hid h2
  have H3 := Lib.hid h3
  have H4 := Lib.hid h4
  clear hA hC h1 h2 h3 h4
  unfold evV
  have hb1 := (Below.refl w.heap.size w).alloc (Nat.le_refl _) (.cells #[.int .u8 e.v, .int .u8 e.k, .slice A e.ns.length ca, .slice C e.ts.length cc] 25)
  have hb2 := (Below.refl (w.alloc (.cells #[.int .u8 e.v, .int .u8 e.k, .slice A e.ns.length ca, .slice C e.ts.length cc] 25)).heap.size (w.alloc (.cells #[.int .u8 e.v, .int .u8 e.k, .slice A e.ns.length ca, .slice C e.ts.length cc] 25))).alloc (Nat.le_refl _) (.cells #[.int .u8 f.v, .int .u8 f.k, .slice B f.ns.length cb, .slice D f.ts.length cd] 25)
  have hx : Four _ w.heap.size _ _ _ _ := Four.below (box4 w (.int .u8 e.v) (.int .u8 e.k) (.slice A e.ns.length ca) (.slice C e.ts.length cc) 25) hb2
  have hp : Four _ (w.alloc (.cells #[.int .u8 e.v, .int .u8 e.k, .slice A e.ns.length ca, .slice C e.ts.length cc] 25)).heap.size _ _ _ _ := box4 (w.alloc (.cells #[.int .u8 e.v, .int .u8 e.k, .slice A e.ns.length ca, .slice C e.ts.length cc] 25)) (.int .u8 f.v) (.int .u8 f.k) (.slice B f.ns.length cb) (.slice D f.ts.length cd) 25
  have hs1 : (w.alloc (.cells #[.int .u8 e.v, .int .u8 e.k, .slice A e.ns.length ca, .slice C e.ts.length cc] 25)).heap.size = w.heap.size + 1 := by simp
  rw [hs1] at hp
  have HX := Lib.hid hx
  have HP := Lib.hid hp
  have HB := Lib.hid (below_step hb1 hb2)
  clear hb1 hb2 hs1 hx hp
  go_enter Tryd.func21, Tryd.ntmps21
  go_upto_region 1 with (fail)
  generalize ((w.alloc (.cells #[.int .u8 e.v, .int .u8 e.k, .slice A e.ns.length ca, .slice C e.ts.length cc] 25)).alloc (.cells #[.int .u8 f.v, .int .u8 f.k, .slice B f.ns.length cb, .slice D f.ts.length cd] 25)) = W at HX HP HB ⊢
  by_cases hn : n = 0
  case pos =>
    subst hn
    obtain ⟨x0, x1, x2, x3⟩ := HX.out
    obtain ⟨p0, p1, p2, p3⟩ := HP.out
    go_wp2_with fail
    clear x0 x1 x2 x3 p0 p1 p2 p3
    refine (same_any A ca C cc e B cb D cd f H1.out H2.out H3.out H4.out W (HA.out.below HB.out) (HC.out.below HB.out)).mono ?_
    rintro z W2 ⟨rfl, hb⟩
    replace HB := Lib.hid (below_step HB.out hb)
    clear hb
    go_wp2_with fail
    go_ret
    exact ⟨by simp, HB.out⟩
  case neg =>
    have q1 : ((n : Int) == 0) = false := by rw [beq_eq_false_iff_ne]; omega
    have HD := Lib.hid (decide_eq_false hn)
    clear hn
    go_wp2_with fail
    go_ret
    exact ⟨by rw [HD.out, Bool.false_and]; rfl, HB.out⟩

end Go.Proofs.YtbjpkffhpdcapaaDoor.Upcast
