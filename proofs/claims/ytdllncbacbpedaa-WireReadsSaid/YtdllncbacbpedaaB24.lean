/-
  The document's Reader: Text; what is asked of it ('asked').
-/
import Derived.Test.YtdllncbacbpedaaB23
import Derived.Test.YtdllncbacbpedaaB19
namespace Go.Proofs.Ytdllncbacbpedaa.Wire
open Go.RowKit

set_option maxRecDepth 100000 in
set_option maxHeartbeats 1000000 in
theorem dtext_walk (d : Nat) (s : ByteArray) (i e : Nat) (most : Int) (m : Nat) (w : World) (h : Dr w d s i e) (hi : i ≤ s.size) (hs : s.size ≤ 1000000000000)
    (hmax : max most 0 = (m : Int)) (hm : m ≤ 9223372036854775807) :
    Calls Try.prog 62 #[.pointer (some ⟨d, 0, none⟩), .int .i64 most] w fun x w' => x = .returned (.string (txR s i e m).1) ∧ DStep w w' d s (txR s i e m).2.1 (txR s i e m).2.2 := by
  have hw1 : IntKind.u64.wrap (m : Int) = U m := wrapM (m : Int) (by omega) (by omega)
  have hw2 : IntKind.i64.wrap (U (shR s i e m).1) = ((shR s i e m).1 : Int) := wrapI _ (by have := shR_most s i e m; omega)
  have hle := shR_le s i e m hi
  have HX : Hid (txR s i e m = (tkT s (shR s i e m).2.1 (shR s i e m).2.2 (shR s i e m).1, if tkE s (shR s i e m).2.1 (shR s i e m).2.2 (shR s i e m).1 = 0 then tkI s (shR s i e m).2.1 (shR s i e m).2.2 (shR s i e m).1 else i, tkE s (shR s i e m).2.1 (shR s i e m).2.2 (shR s i e m).1)) := rfl
  have HSR := Lib.hid (dshort_any d s i e m w h hi hs)
  have HERR : Hid ((shR s i e m).2.2 ≠ 0 → (shR s i e m).2.1 = i) := fun hh => (sh_err hh).2
  have cc := h.cells.2.1
  have HM := Lib.hid hm
  clear hm
  generalize shR s i e m = R at *
  obtain ⟨n, j, f⟩ := R
  simp only [] at hw2 hle
  have hsub : IntKind.i64.wrap ((s.size : Int) - (j : Int)) = (s.size : Int) - (j : Int) := IntWalk.i64_in _ (by omega)
  have hsubU : IntKind.u64.wrap ((s.size : Int) - (j : Int)) = (s.size : Int) - (j : Int) := by rw [IntKind.wrap_u64]; omega
  have HLE := Lib.hid hle
  clear hle
  by_cases hf : f = 0
  · subst hf
    by_cases hn : j + n ≤ s.size
    · have HX2 : Hid (txR s i e m = (tkT s j 0 n, tkI s j 0 n, tkE s j 0 n)) := by
        have h0 : tkE s j 0 n = 0 := by unfold tkE; rw [if_pos rfl, if_pos hn]
        have := HX.out; rw [if_pos h0] at this; exact this
      have hg : U n ≤ (s.size : Int) - (j : Int) := by unfold U; have := HLE.out; omega
      clear hn HX
      go_enter Try.func62, Try.ntmps62
      go_wp2_with fail
      refine HSR.out.mono ?_; rintro x w1 ⟨rfl, hst⟩
      obtain ⟨c0, c1, c2, c3⟩ := hst.1.cells
      have HST := Lib.hid hst; clear hst cc c3
      go_wp2_with fail
      go_quiet (fail)
      go_wp2_with fail
      refine (draw_any d s j 0 (n : Int) (w1.drewN nq) HST.out.1 HLE.out hs).mono ?_; rintro x w2 ⟨rfl, hst⟩
      rw [Int.toNat_natCast] at hst ⊢
      have HST2 := Lib.hid hst; clear hst
      go_wp2_with fail
      go_ret
      refine ⟨by rw [HX2.out]; rfl, ?_⟩
      rw [HX2.out]
      exact (HST.out.drewN nq).trans HST2.out
    · have HX2 : Hid (txR s i e m = (⟨#[]⟩, i, 8)) := by
        have h0 : tkE s j 0 n = 8 := by unfold tkE; rw [if_pos rfl, if_neg hn]
        have h1 : tkT s j 0 n = ⟨#[]⟩ := if_neg (by omega)
        have := HX.out; rw [if_neg (by rw [h0]; decide), h0, h1] at this; exact this
      have hg : (s.size : Int) - (j : Int) < U n := by unfold U; have := HLE.out; omega
      clear hn HX
      go_enter Try.func62, Try.ntmps62
      go_wp2_with fail
      refine HSR.out.mono ?_; rintro x w1 ⟨rfl, hst⟩
      obtain ⟨c0, c1, c2, c3⟩ := hst.1.cells
      have f1 := frozen_row hst.1 1
      have HST := Lib.hid hst; clear hst cc c3
      go_wp2_with fail
      go_quiet (fail)
      go_wp2_with fail
      have HD : Hid (DStep (w1.drewN nq) ((w1.drewN nq).setCell ⟨d, 1, none⟩ (.int .i64 (i : Int))) d s i 0) := ⟨heap_set (w := w1.drewN nq) HST.out.1 1 (.int .i64 (i : Int)), grown_set _ _ _ _⟩
      refine (dwrong d s i 8 _ HD.out.1 (by decide) 8 rfl).mono ?_; rintro x w2 ⟨rfl, hst⟩
      have HST2 := Lib.hid ((HST.out.drewN nq).trans (HD.out.trans hst)); clear hst
      go_wp2_with fail
      go_ret
      refine ⟨by rw [HX2.out]; rfl, ?_⟩
      rw [HX2.out]
      exact HST2.out
  · have HX2 : Hid (txR s i e m = (⟨#[]⟩, i, f)) := by
      have h0 : tkE s j f n = f := if_neg hf
      have h1 : tkT s j f n = ⟨#[]⟩ := if_neg (by omega)
      have := HX.out; rw [if_neg (by rw [h0]; exact hf), h0, h1] at this; exact this
    obtain rfl : j = i := HERR.out hf
    have hb : ((f : Int) != 0) = true := by rw [bne_iff_ne]; omega
    clear hf HX
    go_enter Try.func62, Try.ntmps62
    go_wp2_with fail
    refine HSR.out.mono ?_; rintro x w1 ⟨rfl, hst⟩
    obtain ⟨c0, c1, c2, c3⟩ := hst.1.cells
    have HST := Lib.hid hst; clear hst cc c3
    go_wp2_with fail
    go_ret
    refine ⟨by rw [HX2.out]; rfl, ?_⟩
    rw [HX2.out]
    exact HST.out
theorem dtext_any (d : Nat) (s : ByteArray) (i e : Nat) (most : Int) (w : World) (h : Dr w d s i e) (hi : i ≤ s.size) (hs : s.size ≤ 1000000000000) (hm : most ≤ 9223372036854775807) :
    Calls Try.prog 62 #[.pointer (some ⟨d, 0, none⟩), .int .i64 most] w fun x w' => x = .returned (.string (txR s i e most.toNat).1) ∧ DStep w w' d s (txR s i e most.toNat).2.1 (txR s i e most.toNat).2.2 :=
  dtext_walk d s i e most most.toNat w h hi hs (by omega) (by omega)

theorem ask_end {w w1 : World} {d : Nat} {s : ByteArray} {o : Obj} {i' e' : Nat} (k : DStep (w.alloc o) w1 d s i' e') (G : (Nat × ByteArray) × Nat × Nat) (hG : G.2 = (i', e')) : DStep w w1 d s G.2.1 G.2.2 := by
  rw [hG]
  exact ⟨k.1, grown_trans (grown_below ((Below.refl _ _).alloc (Nat.le_refl _) _)) k.2⟩
theorem dr_alloc {w : World} {d : Nat} {s : ByteArray} {i e : Nat} (h : Dr w d s i e) (o : Obj) : Dr (w.alloc o) d s i e := (Below.heap_alloc w o d (row_lt h)).trans h

set_option maxRecDepth 100000 in
set_option maxHeartbeats 1000000 in
theorem lask_any (d : Nat) (s : ByteArray) (i e : Nat) (x : It) (w : World) (hrd : Dr w d s i e) (hi : i ≤ s.size) (hs : s.size ≤ 1000000000000) (hok : x.ok) :
    Calls Try.prog 40 #[.pointer (some ⟨d, 0, none⟩), x.val] w fun z w' => z = .returned (.tuple #[.int .u64 (U (gt s i e x).1.1), .string (gt s i e x).1.2]) ∧ DStep w w' d s (gt s i e x).2.1 (gt s i e x).2.2 := by
  obtain ⟨k, n, t, m⟩ := x
  obtain ⟨hk, hn, ht, hm1, hm2⟩ := hok
  simp only [] at hk hn ht hm1 hm2
  unfold It.val
  simp only []
  have HR : Hid (Dr (w.alloc (.cells #[.int .u8 (k : Int), .int .u64 (U n), .string t, .int .i64 m] 56)) d s i e) := dr_alloc hrd _
  have HI : Hid (i ≤ s.size) := hi
  have HS : Hid (s.size ≤ 1000000000000) := hs
  have HM : Hid (m ≤ 9223372036854775807) := hm1
  have u0 : U 0 = 0 := rfl
  have U0 := Lib.hid u0
  clear hn ht hm1 hm2 hrd hi hs u0
  have hc : k % 8 = 0 ∨ k % 8 = 1 ∨ k % 8 = 2 ∨ k % 8 = 3 ∨ k % 8 = 4 ∨ k % 8 = 5 ∨ k % 8 = 6 ∨ k % 8 = 7 := by omega
  rcases hc with hc | hc | hc | hc | hc | hc | hc | hc
  · have hk8 : (k : Int) % 8 = 0 := by omega
    have HG : Hid (gt s i e ⟨k, n, t, m⟩ = ((fxV s i e 1, ⟨#[]⟩), tkI s i e 1, tkE s i e 1)) := by show _ = _; simp [gt, hc]
    have hw : IntKind.u64.wrap (U (fxV s i e 1)) = U (fxV s i e 1) := wrap64U _ (by have := fxV_lt s i e 1; omega)
    clear hc hk
    go_enter Try.func40, Try.ntmps40
    go_wp2_with fail
    refine (dfixed_any d s i e 1 1 rfl _ HR.out HI.out HS.out (by decide)).mono ?_; rintro z w1 ⟨rfl, hst⟩
    have HE := Lib.hid (ask_end hst (gt s i e ⟨k, n, t, m⟩) (by rw [HG.out])); clear hst
    go_wp2_with fail
    go_ret2
    exact ⟨by rw [HG.out]; rfl, HE.out⟩
  · have hk8 : (k : Int) % 8 = 1 := by omega
    have HG : Hid (gt s i e ⟨k, n, t, m⟩ = ((fxV s i e 2, ⟨#[]⟩), tkI s i e 2, tkE s i e 2)) := by show _ = _; simp [gt, hc]
    have hw : IntKind.u64.wrap (U (fxV s i e 2)) = U (fxV s i e 2) := wrap64U _ (by have := fxV_lt s i e 2; omega)
    clear hc hk
    go_enter Try.func40, Try.ntmps40
    go_wp2_with fail
    refine (dfixed_any d s i e 2 2 rfl _ HR.out HI.out HS.out (by decide)).mono ?_; rintro z w1 ⟨rfl, hst⟩
    have HE := Lib.hid (ask_end hst (gt s i e ⟨k, n, t, m⟩) (by rw [HG.out])); clear hst
    go_wp2_with fail
    go_ret2
    exact ⟨by rw [HG.out]; rfl, HE.out⟩
  · have hk8 : (k : Int) % 8 = 2 := by omega
    have HG : Hid (gt s i e ⟨k, n, t, m⟩ = ((fxV s i e 4, ⟨#[]⟩), tkI s i e 4, tkE s i e 4)) := by show _ = _; simp [gt, hc]
    have hw : IntKind.u64.wrap (U (fxV s i e 4)) = U (fxV s i e 4) := wrap64U _ (by have := fxV_lt s i e 4; omega)
    clear hc hk
    go_enter Try.func40, Try.ntmps40
    go_wp2_with fail
    refine (dfixed_any d s i e 4 4 rfl _ HR.out HI.out HS.out (by decide)).mono ?_; rintro z w1 ⟨rfl, hst⟩
    have HE := Lib.hid (ask_end hst (gt s i e ⟨k, n, t, m⟩) (by rw [HG.out])); clear hst
    go_wp2_with fail
    go_ret2
    exact ⟨by rw [HG.out]; rfl, HE.out⟩
  · have hk8 : (k : Int) % 8 = 3 := by omega
    have HG : Hid (gt s i e ⟨k, n, t, m⟩ = ((fxV s i e 8, ⟨#[]⟩), tkI s i e 8, tkE s i e 8)) := by show _ = _; simp [gt, hc]
    clear hc hk
    go_enter Try.func40, Try.ntmps40
    go_wp2_with fail
    refine (dfixed_any d s i e 8 8 rfl _ HR.out HI.out HS.out (by decide)).mono ?_; rintro z w1 ⟨rfl, hst⟩
    have HE := Lib.hid (ask_end hst (gt s i e ⟨k, n, t, m⟩) (by rw [HG.out])); clear hst
    go_wp2_with fail
    go_ret2
    exact ⟨by rw [HG.out]; rfl, HE.out⟩
  · have hk8 : (k : Int) % 8 = 4 := by omega
    have HG : Hid (gt s i e ⟨k, n, t, m⟩ = (((shR s i e n).1, ⟨#[]⟩), (shR s i e n).2.1, (shR s i e n).2.2)) := by show _ = _; simp [gt, hc]
    clear hc hk
    go_enter Try.func40, Try.ntmps40
    go_wp2_with fail
    refine (dshort_any d s i e n _ HR.out HI.out HS.out).mono ?_; rintro z w1 ⟨rfl, hst⟩
    have HE := Lib.hid (ask_end hst (gt s i e ⟨k, n, t, m⟩) (by rw [HG.out])); clear hst
    go_wp2_with fail
    go_ret2
    exact ⟨by rw [HG.out]; rfl, HE.out⟩
  · have hk8 : (k : Int) % 8 = 5 := by omega
    have HG : Hid (gt s i e ⟨k, n, t, m⟩ = ((0, (txR s i e m.toNat).1), (txR s i e m.toNat).2.1, (txR s i e m.toNat).2.2)) := by show _ = _; simp [gt, hc]
    clear hc hk
    go_enter Try.func40, Try.ntmps40
    go_wp2_with fail
    refine (dtext_any d s i e m _ HR.out HI.out HS.out HM.out).mono ?_; rintro z w1 ⟨rfl, hst⟩
    have HE := Lib.hid (ask_end hst (gt s i e ⟨k, n, t, m⟩) (by rw [HG.out])); clear hst
    go_wp2_with fail
    go_ret2
    exact ⟨by rw [HG.out]; rfl, HE.out⟩
  · have hk8 : (k : Int) % 8 = 6 := by omega
    have HG : Hid (gt s i e ⟨k, n, t, m⟩ = ((revN (fxV s i e 4), ⟨#[]⟩), tkI s i e 4, tkE s i e 4)) := by show _ = _; simp [gt, hc]
    have hw : IntKind.u64.wrap (U (revN (fxV s i e 4))) = U (revN (fxV s i e 4)) := wrap64U _ (by have := rev_lt (fxV s i e 4); omega)
    clear hc hk
    go_enter Try.func40, Try.ntmps40
    go_wp2_with fail
    refine (dlow_any d s i e _ HR.out HI.out HS.out).mono ?_; rintro z w1 ⟨rfl, hst⟩
    have HE := Lib.hid (ask_end hst (gt s i e ⟨k, n, t, m⟩) (by rw [HG.out])); clear hst
    go_wp2_with fail
    go_ret2
    exact ⟨by rw [HG.out]; rfl, HE.out⟩
  · have hk8 : (k : Int) % 8 = 7 := by omega
    have HG : Hid (gt s i e ⟨k, n, t, m⟩ = ((0, tkT s i e m.toNat), tkI s i e m.toNat, tkE s i e m.toNat)) := by show _ = _; simp [gt, hc]
    clear hc hk
    go_enter Try.func40, Try.ntmps40
    go_wp2_with fail
    refine (draw_any d s i e m _ HR.out HI.out HS.out).mono ?_; rintro z w1 ⟨rfl, hst⟩
    have HE := Lib.hid (ask_end hst (gt s i e ⟨k, n, t, m⟩) (by rw [HG.out])); clear hst
    go_wp2_with fail
    go_ret2
    exact ⟨by rw [HG.out]; rfl, HE.out⟩


end Go.Proofs.Ytdllncbacbpedaa.Wire
