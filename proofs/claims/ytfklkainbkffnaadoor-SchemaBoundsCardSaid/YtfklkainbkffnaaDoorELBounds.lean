/-
  The walk of the statement SchemaBounds.
-/
import Derived.Test.YtfklkainbkffnaaDoorELSame
import Derived.Test.YtfklkainbkffnaaDoorE22
import Derived.Deep.RegionHeld3
import Derived.Deep.DeepCutAuto
namespace Go.Proofs.YtfklkainbkffnaaDoor.Schema
open Go Go.RowKit

set_option maxRecDepth 100000 in
set_option maxHeartbeats 8000000 in
theorem schemaBounds_walk (A0 : Option Addr) (c0 : Nat) (B0 : Option Addr) (g0 : Nat) (e0 : Ev) (pl n : Int) (w : World)
    (y0 : EvAt w A0 c0 B0 g0 e0) (r0 : e0.ns.length ≤ 140737488355328 ∧ e0.ts.length ≤ 140737488355328)
    (hpl : (Lit.int .i64 pl).wf = true) (hnw : (Lit.int .i64 n).wf = true) (E : Env w) :
    Calls Tryd.prog 8 #[evV A0 c0 B0 g0 e0, .int .i64 pl, .int .i64 n] w fun z w' => z = .returned (.bool true) ∧ Below w.heap.size w w' := by
  have HY0 := Lib.hid y0
  have HE := Lib.hid E
  have HR0 := Lib.hid r0
  have HPL := Lib.hid (bounds_i64 hpl)
  have HNW := Lib.hid (bounds_i64 hnw)
  clear y0 E r0 hpl hnw
  unfold evV
  have ha := (Below.refl w.heap.size w).alloc (Nat.le_refl _) (.cells #[.int .u8 e0.v, .int .u8 e0.k, .slice A0 e0.ns.length c0, .slice B0 e0.ts.length g0] 44)
  have HP4 := Lib.hid (show Four _ w.heap.size _ _ _ _ from box4 w (.int .u8 e0.v) (.int .u8 e0.k) (.slice A0 e0.ns.length c0) (.slice B0 e0.ts.length g0) 44)
  have HB := Lib.hid ha
  have HSZ := Lib.hid (show w.heap.size + 1 ≤ (w.alloc (.cells #[.int .u8 e0.v, .int .u8 e0.k, .slice A0 e0.ns.length c0, .slice B0 e0.ts.length g0] 44)).heap.size from by simp)
  clear ha
  go_enter Tryd.func8, Tryd.ntmps8
  go_wp2_with fail
  generalize w.alloc (.cells #[.int .u8 e0.v, .int .u8 e0.k, .slice A0 e0.ns.length c0, .slice B0 e0.ts.length g0] 44) = W0 at HP4 HB HSZ ⊢
  refine (long_any A0 c0 B0 g0 e0 HR0.out.1 HR0.out.2 W0 (HY0.out.below HB.out)).mono ?_; rintro z W1 ⟨b1, rfl, hl1, hb⟩
  have HS1 := Lib.hid (Nat.le_trans HSZ.out hb.size)
  replace HP4 := Lib.hid (HP4.out.below hb)
  replace HB := Lib.hid (below_step HB.out hb)
  clear hb HSZ
  cases b1 with
  | true =>
    clear hl1
    go_wp2_with (go_at_call 11; refine (awake_any _ (HE.out.below HB.out)).mono ?_; rintro z Wz ⟨rfl, hb⟩; have HZ := Lib.hid (below_step HB.out hb); clear hb)
    go_ret
    exact ⟨rfl, HZ.out⟩
  | false =>
    have HL0 := Lib.hid (hl1 rfl)
    clear hl1
    go_wp2_with fail
    refine (awake_any _ (HE.out.below HB.out)).mono ?_; rintro z W2 ⟨rfl, hb⟩
    have HS2 := Lib.hid (Nat.le_trans HS1.out hb.size)
    replace HP4 := Lib.hid (HP4.out.below hb)
    replace HB := Lib.hid (below_step HB.out hb)
    clear hb HS1
    obtain ⟨hp4_0, hp4_1, hp4_2, hp4_3⟩ := HP4.out
    go_wp2_with fail
    clear hp4_0 hp4_1 hp4_2 hp4_3
    refine (Fields_any e0.v e0.k HY0.out.v HY0.out.k W2 (HE.out.below HB.out)).mono ?_; rintro z W3 ⟨v, rfl, hown, hb⟩
    obtain ⟨Al, cl, rfl, -, -, -⟩ := hown.vat
    simp only [clsV_len] at hown ⊢
    have HLS := Lib.hid (show OwnB W3 W2.heap.size W3.heap.size 34 (.slice Al (lets e0.v e0.k).size cl) (clsV (lets e0.v e0.k)) from Or.inl ⟨hown, fun b hb => (World.ownsRow.lt hown b hb).2⟩)
    have HORD := Lib.hid (And.intro HS2.out hb.size)
    replace HP4 := Lib.hid (HP4.out.below hb)
    replace HB := Lib.hid (below_step HB.out hb)
    clear hb hown HS2
    obtain ⟨hp4_0, hp4_1, hp4_2, hp4_3⟩ := HP4.out
    go_wp2_with fail
    clear hp4_0 hp4_1 hp4_2 hp4_3
    refine (may_any A0 c0 B0 g0 e0 (by have := HL0.out; omega) W3 (HE.out.below HB.out) (HY0.out.below HB.out)).mono ?_; rintro z W4 ⟨rfl, hb⟩
    have HO2 := Lib.hid (And.intro HORD.out hb.size)
    clear HORD
    have HORD := HO2
    clear HO2
    replace HP4 := Lib.hid (HP4.out.below hb)
    replace HB := Lib.hid (below_step HB.out hb)
    replace HLS := Lib.hid (HLS.out.below hb)
    clear hb
    cases hm : may e0 with
    | false =>
      go_wp2_with fail
      go_ret
      exact ⟨rfl, HB.out⟩
    | true =>
      obtain ⟨p1, p2, _, p4⟩ := may_parts hm
      obtain ⟨q1, q2⟩ := mayT_len p4
      have HM := Lib.hid hm
      clear hm p4
      rw [p1]
      simp only [Bool.true_and]
      have HSN := Lib.hid p2
      have hz1 : (((lets e0.v e0.k).size : Int) != (e0.ns.length : Int)) = false := by rw [p2]; simp
      have hz2 : ((lets e0.v e0.k).size != e0.ns.length) = false := by rw [p2]; simp
      have hz3 : ¬ 1 < e0.ts.length := by omega
      have HT1 := Lib.hid p1
      clear p1 p2 q1
      generalize htx : tru e0.k = tx
      rw [htx] at q2
      have HTX := Lib.hid htx
      have HT0 := Lib.hid q2.2
      have hz4 : ((e0.ts.length : Int) == 1) = tx := by
        cases tx with
        | true => rw [q2.2 rfl]; rfl
        | false => exact beq_eq_false_iff_ne.2 (fun h => absurd (q2.1 (by omega)) (by decide))
      have hz5 : (e0.ts.length == 1) = tx := by
        cases tx with
        | true => rw [q2.2 rfl]; rfl
        | false => exact beq_eq_false_iff_ne.2 (fun h => absurd (q2.1 h) (by decide))
      have hz6 : (tx != tx) = false := by cases tx <;> rfl
      clear q2 htx
      obtain ⟨hp4_0, hp4_1, hp4_2, hp4_3⟩ := HP4.out
      go_upto_region 8 with (fail)
      clear hp4_0 hp4_1 hp4_2 hp4_3
      clear hz1 hz2 hz3 hz4 hz5 hz6
      obtain ⟨hp4_0, hp4_1, hp4_2, hp4_3⟩ := HP4.out
      go_wp2_with fail
      clear hp4_0 hp4_1 hp4_2 hp4_3
      refine (own_x A0 c0 B0 g0 e0 (by have := HL0.out; omega) (by have := HL0.out; omega) _ (HY0.out.below HB.out)).mono ?_; rintro z W5 ⟨Ax, cx, Bx, dx, mx, rfl, hm1, hm2, hn, ht, hb⟩
      simp only [evV]
      replace HP4 := Lib.hid (HP4.out.below hb)
      replace HB := Lib.hid (below_step HB.out hb)
      replace HLS := Lib.hid (HLS.out.below hb)
      have HxN := Lib.hid hn
      have HxT := Lib.hid ht
      have HO2 := Lib.hid (And.intro HORD.out (And.intro hm1 hm2))
      clear HORD
      have HORD := HO2
      clear HO2
      clear hb hm1 hm2 hn ht
      go_upto_region 9 with (fail)
      have hb := (Below.refl W5.heap.size W5).alloc (Nat.le_refl _) (.cells #[.int .u8 e0.v, .int .u8 e0.k, .slice Ax e0.ns.length cx, .slice Bx e0.ts.length dx] 44)
      have HPx := Lib.hid (show Four _ W5.heap.size _ _ _ _ from box4 W5 (.int .u8 e0.v) (.int .u8 e0.k) (.slice Ax e0.ns.length cx) (.slice Bx e0.ts.length dx) 44)
      have HFx := Lib.hid (free_new W5 #[.int .u8 e0.v, .int .u8 e0.k, .slice Ax e0.ns.length cx, .slice Bx e0.ts.length dx] 44)
      have HKx := Lib.hid (box_new W5 #[.int .u8 e0.v, .int .u8 e0.k, .slice Ax e0.ns.length cx, .slice Bx e0.ts.length dx])
      replace HP4 := Lib.hid (HP4.out.below hb)
      replace HB := Lib.hid (below_step HB.out hb)
      replace HLS := Lib.hid (HLS.out.below hb)
      replace HxN := Lib.hid (HxN.out.below hb)
      replace HxT := Lib.hid (HxT.out.below hb)
      clear hb
      generalize hWs : W5.heap.size = b9 at HPx HFx HKx HxT HORD ⊢
      clear hWs
      generalize W5.alloc (.cells #[.int .u8 e0.v, .int .u8 e0.k, .slice Ax e0.ns.length cx, .slice Bx e0.ts.length dx] 44) = Y1 at HP4 HB HLS HxN HxT HPx HFx HKx ⊢
      obtain ⟨hpx_0, hpx_1, hpx_2, hpx_3⟩ := HPx.out
      have hb := (Below.refl Y1.heap.size Y1).alloc (Nat.le_refl _) (.cells #[Value.int .i64 n] 2)
      have hzt := HFx.out.2 2
      replace HP4 := Lib.hid (HP4.out.below hb)
      replace HB := Lib.hid (below_step HB.out hb)
      replace HLS := Lib.hid (HLS.out.below hb)
      replace HxN := Lib.hid (HxN.out.below hb)
      replace HxT := Lib.hid (HxT.out.below hb)
      replace HPx := Lib.hid (HPx.out.below hb)
      replace HFx := Lib.hid (HFx.out.below hb)
      replace HKx := Lib.hid (HKx.out.below hb)
      go_wp2_with (at_builtin; refine wpList_append_one 41 2 (.int .i64 0) 8 Tryd.underlying41 infoN rfl (by decide) rfl _ _ rfl W4.heap.size mx _ _ rfl HxN.out (some ⟨Y1.heap.size, 0, none⟩) 1 (Value.int .i64 n) rfl (vat_new Y1 _ _) rfl (by have := HL0.out; have := nums_len e0.ns; have := texts_len e0.ts; omega) (by have h1 := HFx.out.1; have hord := HORD.out; omega) ?_)
      clear hpx_0 hpx_1 hpx_2 hpx_3
      intro v' W6 hO ht
      obtain ⟨Ax', cx', rfl, _⟩ := hO.own.vat
      have hq : (nums e0.ns ++ [Value.int .i64 n]).length = e0.ns.length + 1 := by simp [nums_len, texts_len]
      rw [hq] at hO ⊢
      clear hq
      replace HP4 := Lib.hid (HP4.out.touch ht (by have hord := HORD.out; omega))
      replace HB := Lib.hid (Touch.step HB.out ht (by have hord := HORD.out; omega))
      replace HLS := Lib.hid (HLS.out.touch ht (by have hord := HORD.out; omega))
      replace HxT := Lib.hid (HxT.out.touch ht (by have hord := HORD.out; omega))
      replace HPx := Lib.hid (HPx.out.touch ht (by have hord := HORD.out; omega))
      replace HFx := Lib.hid (HFx.out.touch ht (by have hord := HORD.out; omega))
      replace HKx := Lib.hid (HKx.out.touch ht (by have hord := HORD.out; omega))
      replace HxN := Lib.hid hO
      clear hb ht hO hzt
      have hzz := HFx.out.2 2
      obtain ⟨hpx_0, hpx_1, hpx_2, hpx_3⟩ := HPx.out
      go_upto_region 10 with (fail)
      clear hpx_0 hpx_1 hpx_2 hpx_3
      have ht := Touch.set W6 b9 2 (.slice Ax' (e0.ns.length + 1) cx')
      have hp := HPx.out.set2 (.slice Ax' (e0.ns.length + 1) cx')
      have hf := HFx.out.set b9 2 (.slice Ax' (e0.ns.length + 1) cx')
      have hsp := HxN.out.box HKx.out (by decide) 2 (.slice Ax' (e0.ns.length + 1) cx')
      replace HP4 := Lib.hid (HP4.out.touch ht (by have hord := HORD.out; omega))
      replace HB := Lib.hid (Touch.step HB.out ht (by have hord := HORD.out; omega))
      replace HLS := Lib.hid (HLS.out.touch ht (by have hord := HORD.out; omega))
      replace HxT := Lib.hid (HxT.out.touch ht (by have hord := HORD.out; omega))
      replace HxN := Lib.hid hsp
      clear HKx hsp
      have HO2 := Lib.hid (And.intro HORD.out ht.size)
      clear HORD
      have HORD := HO2
      clear HO2
      replace HPx := Lib.hid hp
      replace HFx := Lib.hid hf
      clear ht hp hf hzz
      generalize W6.setCell ⟨b9, 2, none⟩ (.slice Ax' (e0.ns.length + 1) cx') = Y2 at HP4 HB HLS HxT HPx HFx HxN HORD ⊢
      obtain ⟨hp4_0, hp4_1, hp4_2, hp4_3⟩ := HP4.out
      go_wp2_with fail
      clear hp4_0 hp4_1 hp4_2 hp4_3
      have hpf := HFx.out.1
      refine (own_x A0 c0 B0 g0 e0 (by have := HL0.out; omega) (by have := HL0.out; omega) _ (HY0.out.below HB.out)).mono ?_; rintro z W7 ⟨Ay, cy, By, dy, my, rfl, hm1, hm2, hn, ht, hb⟩
      simp only [evV]
      replace HP4 := Lib.hid (HP4.out.below hb)
      replace HB := Lib.hid (below_step HB.out hb)
      replace HLS := Lib.hid (HLS.out.below hb)
      replace HxT := Lib.hid (HxT.out.below hb)
      replace HPx := Lib.hid (HPx.out.below hb)
      replace HFx := Lib.hid (HFx.out.below hb)
      replace HxN := Lib.hid (HxN.out.below hb)
      have HyN := Lib.hid hn
      have HyT := Lib.hid ht
      have HO2 := Lib.hid (And.intro HORD.out (And.intro hpf (And.intro hm1 hm2)))
      clear HORD
      have HORD := HO2
      clear HO2
      clear hb hm1 hm2 hn ht hpf
      go_upto_region 11 with (fail)
      have hb := (Below.refl W7.heap.size W7).alloc (Nat.le_refl _) (.cells #[.int .u8 e0.v, .int .u8 e0.k, .slice Ay e0.ns.length cy, .slice By e0.ts.length dy] 44)
      have HPy := Lib.hid (show Four _ W7.heap.size _ _ _ _ from box4 W7 (.int .u8 e0.v) (.int .u8 e0.k) (.slice Ay e0.ns.length cy) (.slice By e0.ts.length dy) 44)
      have HFy := Lib.hid (free_new W7 #[.int .u8 e0.v, .int .u8 e0.k, .slice Ay e0.ns.length cy, .slice By e0.ts.length dy] 44)
      have HKy := Lib.hid (box_new W7 #[.int .u8 e0.v, .int .u8 e0.k, .slice Ay e0.ns.length cy, .slice By e0.ts.length dy])
      replace HP4 := Lib.hid (HP4.out.below hb)
      replace HB := Lib.hid (below_step HB.out hb)
      replace HLS := Lib.hid (HLS.out.below hb)
      replace HxT := Lib.hid (HxT.out.below hb)
      replace HPx := Lib.hid (HPx.out.below hb)
      replace HFx := Lib.hid (HFx.out.below hb)
      replace HxN := Lib.hid (HxN.out.below hb)
      replace HyN := Lib.hid (HyN.out.below hb)
      replace HyT := Lib.hid (HyT.out.below hb)
      clear hb
      generalize hWs : W7.heap.size = b10 at HPy HFy HKy HyT HORD ⊢
      clear hWs
      generalize W7.alloc (.cells #[.int .u8 e0.v, .int .u8 e0.k, .slice Ay e0.ns.length cy, .slice By e0.ts.length dy] 44) = Y3 at HP4 HB HLS HxT HPx HFx HxN HyN HyT HPy HFy HKy ⊢
      obtain ⟨hpy_0, hpy_1, hpy_2, hpy_3⟩ := HPy.out
      have hb := (Below.refl Y3.heap.size Y3).alloc (Nat.le_refl _) (.cells #[Value.string ⟨#[109, 111, 114, 101]⟩] 9)
      have hzt := HFy.out.2 3
      replace HP4 := Lib.hid (HP4.out.below hb)
      replace HB := Lib.hid (below_step HB.out hb)
      replace HLS := Lib.hid (HLS.out.below hb)
      replace HxT := Lib.hid (HxT.out.below hb)
      replace HPx := Lib.hid (HPx.out.below hb)
      replace HFx := Lib.hid (HFx.out.below hb)
      replace HxN := Lib.hid (HxN.out.below hb)
      replace HyN := Lib.hid (HyN.out.below hb)
      replace HyT := Lib.hid (HyT.out.below hb)
      replace HPy := Lib.hid (HPy.out.below hb)
      replace HFy := Lib.hid (HFy.out.below hb)
      replace HKy := Lib.hid (HKy.out.below hb)
      go_wp2_with (at_builtin; refine wpList_append_one 42 9 (.string ByteArray.empty) 16 Tryd.underlying42 infoT rfl (by decide) rfl _ _ rfl my b10 _ _ rfl HyT.out (some ⟨Y3.heap.size, 0, none⟩) 1 (Value.string ⟨#[109, 111, 114, 101]⟩) rfl (vat_new Y3 _ _) rfl (by have := HL0.out; have := nums_len e0.ns; have := texts_len e0.ts; omega) (by have h1 := HFy.out.1; have hord := HORD.out; omega) ?_)
      clear hpy_0 hpy_1 hpy_2 hpy_3
      intro v' W8 hO ht
      obtain ⟨Ay', cy', rfl, _⟩ := hO.own.vat
      have hq : (texts e0.ts ++ [Value.string ⟨#[109, 111, 114, 101]⟩]).length = e0.ts.length + 1 := by simp [nums_len, texts_len]
      rw [hq] at hO ⊢
      clear hq
      replace HP4 := Lib.hid (HP4.out.touch ht (by have hord := HORD.out; omega))
      replace HB := Lib.hid (Touch.step HB.out ht (by have hord := HORD.out; omega))
      replace HLS := Lib.hid (HLS.out.touch ht (by have hord := HORD.out; omega))
      replace HxT := Lib.hid (HxT.out.touch ht (by have hord := HORD.out; omega))
      replace HPx := Lib.hid (HPx.out.touch ht (by have hord := HORD.out; omega))
      replace HFx := Lib.hid (HFx.out.touch ht (by have hord := HORD.out; omega))
      replace HxN := Lib.hid (HxN.out.touch ht (by have hord := HORD.out; omega))
      replace HyN := Lib.hid (HyN.out.touch ht (by have hord := HORD.out; omega))
      replace HPy := Lib.hid (HPy.out.touch ht (by have hord := HORD.out; omega))
      replace HFy := Lib.hid (HFy.out.touch ht (by have hord := HORD.out; omega))
      replace HKy := Lib.hid (HKy.out.touch ht (by have hord := HORD.out; omega))
      replace HyT := Lib.hid hO
      clear hb ht hO hzt
      have hzz := HFy.out.2 3
      obtain ⟨hpy_0, hpy_1, hpy_2, hpy_3⟩ := HPy.out
      go_upto_region 12 with (fail)
      clear hpy_0 hpy_1 hpy_2 hpy_3
      have ht := Touch.set W8 b10 3 (.slice Ay' (e0.ts.length + 1) cy')
      have hp := HPy.out.set3 (.slice Ay' (e0.ts.length + 1) cy')
      have hf := HFy.out.set b10 3 (.slice Ay' (e0.ts.length + 1) cy')
      have hsp := HyT.out.box HKy.out (by decide) 3 (.slice Ay' (e0.ts.length + 1) cy')
      replace HP4 := Lib.hid (HP4.out.touch ht (by have hord := HORD.out; omega))
      replace HB := Lib.hid (Touch.step HB.out ht (by have hord := HORD.out; omega))
      replace HLS := Lib.hid (HLS.out.touch ht (by have hord := HORD.out; omega))
      replace HxT := Lib.hid (HxT.out.touch ht (by have hord := HORD.out; omega))
      replace HPx := Lib.hid (HPx.out.touch ht (by have hord := HORD.out; omega))
      replace HFx := Lib.hid (HFx.out.touch ht (by have hord := HORD.out; omega))
      replace HxN := Lib.hid (HxN.out.touch ht (by have hord := HORD.out; omega))
      replace HyN := Lib.hid (HyN.out.touch ht (by have hord := HORD.out; omega))
      replace HyT := Lib.hid hsp
      clear HKy hsp
      have HO2 := Lib.hid (And.intro HORD.out ht.size)
      clear HORD
      have HORD := HO2
      clear HO2
      replace HPy := Lib.hid hp
      replace HFy := Lib.hid hf
      clear ht hp hf hzz
      generalize W8.setCell ⟨b10, 3, none⟩ (.slice Ay' (e0.ts.length + 1) cy') = Y4 at HP4 HB HLS HxT HPx HFx HxN HyN HPy HFy HyT HORD ⊢
      have HFN := Lib.hid (show Fits64 (e0.ns ++ [n]) from fun x hx => by
          rcases List.mem_append.1 hx with h | h
          · exact HY0.out.fit x h
          · rw [List.mem_singleton.1 h]; exact HNW.out)
      have HTN := Lib.hid (show ∀ t ∈ e0.ts ++ [⟨#[109, 111, 114, 101]⟩], t.size ≤ maxLen from fun t ht => by
          rcases List.mem_append.1 ht with h | h
          · exact HY0.out.txt t h
          · rw [List.mem_singleton.1 h]; decide)
      have hxn : OwnB Y4 W4.heap.size W6.heap.size 2 (.slice Ax' (moreN e0 n).ns.length cx') (nums (moreN e0 n).ns) := by
        have h := HxN.out
        simpa [moreN, nums] using h
      have hyt : OwnB Y4 my W8.heap.size 9 (.slice Ay' (moreT e0).ts.length cy') (texts (moreT e0).ts) := by
        have h := HyT.out
        simpa [moreT, texts] using h
      have HxN2 := Lib.hid hxn
      have HyT2 := Lib.hid hyt
      clear hxn hyt
      have HXe := Lib.hid (ev_of (e := moreN e0 n) (by simp only [moreN]; have := HY0.out.v; omega) (by simp only [moreN]; have := HY0.out.k; omega) HFN.out HY0.out.txt HxN2.out HxT.out)
      have HYe := Lib.hid (ev_of (e := moreT e0) (by simp only [moreT]; have := HY0.out.v; omega) (by simp only [moreT]; have := HY0.out.k; omega) HY0.out.fit HTN.out HyN.out HyT2.out)
      clear HxN2 HyT2 HFN HTN
      clear HxN
      clear HxT
      clear HyN
      clear HyT
      obtain ⟨hpx_0, hpx_1, hpx_2, hpx_3⟩ := HPx.out
      go_wp2_with fail
      clear hpx_0 hpx_1 hpx_2 hpx_3
      have hcall := may_any _ _ _ _ (moreN e0 n) (by have := HL0.out; simp only [moreN, List.length_append, List.length_cons, List.length_nil]; omega) _ (HE.out.below HB.out) HXe.out
      rw [may_moreN HM.out n] at hcall
      simp only [evV, moreN] at hcall
      try simp only [List.length_append, List.length_cons, List.length_nil, Nat.zero_add] at hcall
      refine hcall.mono ?_; rintro z U1 ⟨rfl, hb⟩; clear hcall
      have HO2 := Lib.hid (And.intro HORD.out hb.size)
      clear HORD
      have HORD := HO2
      clear HO2
      replace HP4 := Lib.hid (HP4.out.below hb)
      replace HB := Lib.hid (below_step HB.out hb)
      replace HLS := Lib.hid (HLS.out.below hb)
      replace HPx := Lib.hid (HPx.out.below hb)
      replace HFx := Lib.hid (HFx.out.below hb)
      replace HPy := Lib.hid (HPy.out.below hb)
      replace HFy := Lib.hid (HFy.out.below hb)
      replace HXe := Lib.hid (HXe.out.below hb)
      replace HYe := Lib.hid (HYe.out.below hb)
      clear hb
      obtain ⟨hpy_0, hpy_1, hpy_2, hpy_3⟩ := HPy.out
      go_wp2_with fail
      clear hpy_0 hpy_1 hpy_2 hpy_3
      have hcall := may_any _ _ _ _ (moreT e0) (by have := HL0.out; simp only [moreT, List.length_append, List.length_cons, List.length_nil]; omega) _ (HE.out.below HB.out) HYe.out
      rw [may_moreT HM.out] at hcall
      simp only [evV, moreT] at hcall
      try simp only [List.length_append, List.length_cons, List.length_nil, Nat.zero_add] at hcall
      refine hcall.mono ?_; rintro z U2 ⟨rfl, hb⟩; clear hcall
      have HO2 := Lib.hid (And.intro HORD.out hb.size)
      clear HORD
      have HORD := HO2
      clear HO2
      replace HP4 := Lib.hid (HP4.out.below hb)
      replace HB := Lib.hid (below_step HB.out hb)
      replace HLS := Lib.hid (HLS.out.below hb)
      replace HPx := Lib.hid (HPx.out.below hb)
      replace HFx := Lib.hid (HFx.out.below hb)
      replace HPy := Lib.hid (HPy.out.below hb)
      replace HFy := Lib.hid (HFy.out.below hb)
      replace HXe := Lib.hid (HXe.out.below hb)
      replace HYe := Lib.hid (HYe.out.below hb)
      clear hb
      clear HXe
      clear HYe
      go_upto_if 82 with (fail)
      go_cut [12, 13] (fun _ _ wx => Hid (Four wx w.heap.size (.int .u8 e0.v) (.int .u8 e0.k) (.slice A0 e0.ns.length c0) (.slice B0 e0.ts.length g0) ∧ Below w.heap.size w wx ∧ OwnB wx W2.heap.size W3.heap.size 34 (.slice Al (lets e0.v e0.k).size cl) (clsV (lets e0.v e0.k)) ∧ Four wx b9 (.int .u8 e0.v) (.int .u8 e0.k) (.slice Ax' (e0.ns.length + 1) cx') (.slice Bx e0.ts.length dx) ∧ Free wx b9 ∧ Four wx b10 (.int .u8 e0.v) (.int .u8 e0.k) (.slice Ay e0.ns.length cy) (.slice Ay' (e0.ts.length + 1) cy') ∧ Free wx b10 ∧ U2.heap.size ≤ wx.heap.size))
      case first =>
        cases tx with
        | false =>
          go_wp2_with fail
          go_meet
          exact Lib.hid ⟨HP4.out, HB.out, HLS.out, HPx.out, HFx.out, HPy.out, HFy.out, Nat.le_refl _⟩
        | true =>
          replace HT0 := Lib.hid (HT0.out rfl)
          obtain ⟨hp4_0, hp4_1, hp4_2, hp4_3⟩ := HP4.out
          go_wp2_with fail
          clear hp4_0 hp4_1 hp4_2 hp4_3
          have hpf := HFy.out.1
          refine (own_x A0 c0 B0 g0 e0 (by have := HL0.out; omega) (by have := HL0.out; omega) _ (HY0.out.below HB.out)).mono ?_; rintro z W15 ⟨Az, cz, Bz, dz, mz, rfl, hm1, hm2, hn, ht, hb⟩
          simp only [evV]
          replace HP4 := Lib.hid (HP4.out.below hb)
          replace HB := Lib.hid (below_step HB.out hb)
          replace HLS := Lib.hid (HLS.out.below hb)
          replace HPx := Lib.hid (HPx.out.below hb)
          replace HFx := Lib.hid (HFx.out.below hb)
          replace HPy := Lib.hid (HPy.out.below hb)
          replace HFy := Lib.hid (HFy.out.below hb)
          have HzN := Lib.hid hn
          have HzT := Lib.hid ht
          have HO2 := Lib.hid (And.intro HORD.out (And.intro hpf (And.intro hm1 hm2)))
          clear HORD
          have HORD := HO2
          clear HO2
          clear hb hm1 hm2 hn ht hpf
          go_upto_region 16 with (fail)
          have hb := (Below.refl W15.heap.size W15).alloc (Nat.le_refl _) (.cells #[.int .u8 e0.v, .int .u8 e0.k, .slice Az e0.ns.length cz, .slice Bz e0.ts.length dz] 44)
          have HPz := Lib.hid (show Four _ W15.heap.size _ _ _ _ from box4 W15 (.int .u8 e0.v) (.int .u8 e0.k) (.slice Az e0.ns.length cz) (.slice Bz e0.ts.length dz) 44)
          have HFz := Lib.hid (free_new W15 #[.int .u8 e0.v, .int .u8 e0.k, .slice Az e0.ns.length cz, .slice Bz e0.ts.length dz] 44)
          have HKz := Lib.hid (box_new W15 #[.int .u8 e0.v, .int .u8 e0.k, .slice Az e0.ns.length cz, .slice Bz e0.ts.length dz])
          replace HP4 := Lib.hid (HP4.out.below hb)
          replace HB := Lib.hid (below_step HB.out hb)
          replace HLS := Lib.hid (HLS.out.below hb)
          replace HPx := Lib.hid (HPx.out.below hb)
          replace HFx := Lib.hid (HFx.out.below hb)
          replace HPy := Lib.hid (HPy.out.below hb)
          replace HFy := Lib.hid (HFy.out.below hb)
          replace HzN := Lib.hid (HzN.out.below hb)
          replace HzT := Lib.hid (HzT.out.below hb)
          clear hb
          generalize hWs : W15.heap.size = b11 at HPz HFz HKz HzT HORD ⊢
          clear hWs
          generalize W15.alloc (.cells #[.int .u8 e0.v, .int .u8 e0.k, .slice Az e0.ns.length cz, .slice Bz e0.ts.length dz] 44) = Z1 at HP4 HB HLS HPx HFx HPy HFy HzN HzT HPz HFz HKz ⊢
          clear HzT
          clear HKz
          have hzz := HFz.out.2 3
          obtain ⟨hpz_0, hpz_1, hpz_2, hpz_3⟩ := HPz.out
          go_upto_region 17 with (fail)
          clear hpz_0 hpz_1 hpz_2 hpz_3
          have ht := Touch.set Z1 b11 3 (.slice none 0 0)
          have hp := HPz.out.set3 (.slice none 0 0)
          have hf := HFz.out.set b11 3 (.slice none 0 0)
          replace HP4 := Lib.hid (HP4.out.touch ht (by have hord := HORD.out; omega))
          replace HB := Lib.hid (Touch.step HB.out ht (by have hord := HORD.out; omega))
          replace HLS := Lib.hid (HLS.out.touch ht (by have hord := HORD.out; omega))
          replace HPx := Lib.hid (HPx.out.touch ht (by have hord := HORD.out; omega))
          replace HFx := Lib.hid (HFx.out.touch ht (by have hord := HORD.out; omega))
          replace HPy := Lib.hid (HPy.out.touch ht (by have hord := HORD.out; omega))
          replace HFy := Lib.hid (HFy.out.touch ht (by have hord := HORD.out; omega))
          replace HzN := Lib.hid (HzN.out.touch ht (by have hord := HORD.out; omega))
          have HO2 := Lib.hid (And.intro HORD.out ht.size)
          clear HORD
          have HORD := HO2
          clear HO2
          replace HPz := Lib.hid hp
          replace HFz := Lib.hid hf
          clear ht hp hf hzz
          generalize Z1.setCell ⟨b11, 3, none⟩ (.slice none 0 0) = Z2 at HP4 HB HLS HPx HFx HPy HFy HzN HPz HFz HORD ⊢
          obtain ⟨hp4_0, hp4_1, hp4_2, hp4_3⟩ := HP4.out
          go_wp2_with fail
          clear hp4_0 hp4_1 hp4_2 hp4_3
          have hpf := HFz.out.1
          refine (own_x A0 c0 B0 g0 e0 (by have := HL0.out; omega) (by have := HL0.out; omega) _ (HY0.out.below HB.out)).mono ?_; rintro z W17 ⟨Aw, cw, Bw, dw, mw, rfl, hm1, hm2, hn, ht, hb⟩
          simp only [evV]
          replace HP4 := Lib.hid (HP4.out.below hb)
          replace HB := Lib.hid (below_step HB.out hb)
          replace HLS := Lib.hid (HLS.out.below hb)
          replace HPx := Lib.hid (HPx.out.below hb)
          replace HFx := Lib.hid (HFx.out.below hb)
          replace HPy := Lib.hid (HPy.out.below hb)
          replace HFy := Lib.hid (HFy.out.below hb)
          replace HzN := Lib.hid (HzN.out.below hb)
          replace HPz := Lib.hid (HPz.out.below hb)
          replace HFz := Lib.hid (HFz.out.below hb)
          have HwN := Lib.hid hn
          have HwT := Lib.hid ht
          have HO2 := Lib.hid (And.intro HORD.out (And.intro hpf (And.intro hm1 hm2)))
          clear HORD
          have HORD := HO2
          clear HO2
          clear hb hm1 hm2 hn ht hpf
          go_upto_region 18 with (fail)
          have hb := (Below.refl W17.heap.size W17).alloc (Nat.le_refl _) (.cells #[.int .u8 e0.v, .int .u8 e0.k, .slice Aw e0.ns.length cw, .slice Bw e0.ts.length dw] 44)
          have HPw := Lib.hid (show Four _ W17.heap.size _ _ _ _ from box4 W17 (.int .u8 e0.v) (.int .u8 e0.k) (.slice Aw e0.ns.length cw) (.slice Bw e0.ts.length dw) 44)
          have HFw := Lib.hid (free_new W17 #[.int .u8 e0.v, .int .u8 e0.k, .slice Aw e0.ns.length cw, .slice Bw e0.ts.length dw] 44)
          have HKw := Lib.hid (box_new W17 #[.int .u8 e0.v, .int .u8 e0.k, .slice Aw e0.ns.length cw, .slice Bw e0.ts.length dw])
          replace HP4 := Lib.hid (HP4.out.below hb)
          replace HB := Lib.hid (below_step HB.out hb)
          replace HLS := Lib.hid (HLS.out.below hb)
          replace HPx := Lib.hid (HPx.out.below hb)
          replace HFx := Lib.hid (HFx.out.below hb)
          replace HPy := Lib.hid (HPy.out.below hb)
          replace HFy := Lib.hid (HFy.out.below hb)
          replace HzN := Lib.hid (HzN.out.below hb)
          replace HPz := Lib.hid (HPz.out.below hb)
          replace HFz := Lib.hid (HFz.out.below hb)
          replace HwN := Lib.hid (HwN.out.below hb)
          replace HwT := Lib.hid (HwT.out.below hb)
          clear hb
          generalize hWs : W17.heap.size = b12 at HPw HFw HKw HwT HORD ⊢
          clear hWs
          generalize W17.alloc (.cells #[.int .u8 e0.v, .int .u8 e0.k, .slice Aw e0.ns.length cw, .slice Bw e0.ts.length dw] 44) = Z3 at HP4 HB HLS HPx HFx HPy HFy HzN HPz HFz HwN HwT HPw HFw HKw ⊢
          have hne : 0 < (texts e0.ts).length := by rw [texts_len, HT0.out]; decide
          obtain ⟨hown, hu⟩ := HwT.out.resolve_right (fun h => by rw [h.1] at hne; exact absurd hne (by decide))
          obtain ⟨q, cap, hs, hg1, hg2, _, hcs⟩ := hown.cells hne
          rw [texts_len] at hs
          injection hs with hs1 _ hs2
          subst hs1 hs2
          have hg3 := hu q rfl
          have hg3 := hu q rfl
          have hown' : Own Z3 mw 9 (.slice (some ⟨q, 0, none⟩) (texts e0.ts).length dw) (texts e0.ts) := by rw [texts_len]; exact hown
          have hst := (World.ownsRow.stored hown' 0 (.string ⟨#[]⟩)).1
          have hfz := World.ownsRow.frozenAt hown' 0
          have hck := hcs 0 _ (texts_at e0.ts 0 (by rw [HT0.out]; decide))
          have HST := Lib.hid hst
          clear hst hown hown' hcs hne hu
          obtain ⟨hpw_0, hpw_1, hpw_2, hpw_3⟩ := HPw.out
          have z1 : 0 < e0.ts.length := by rw [HT0.out]; decide
          go_upto_region 19 with (fail)
          clear hpw_0 hpw_1 hpw_2 hpw_3
          clear z1
          have ht := Touch.set Z3 q 0 (.string ⟨#[]⟩)
          have HO2 := Lib.hid (And.intro HORD.out (And.intro hg1 (And.intro hg2 (And.intro hg3 (And.intro ht.size HFw.out.1)))))
          clear HORD
          have HORD := HO2
          clear HO2
          have HG3 := Lib.hid hg3
          clear hg1 hg2 hg3 hck hfz
          clear HwT
          clear HFw
          clear HKw
          replace HP4 := Lib.hid (HP4.out.touch ht (by have hord := HORD.out; omega))
          replace HB := Lib.hid (Touch.step HB.out ht (by have hord := HORD.out; omega))
          replace HLS := Lib.hid (HLS.out.touch ht (by have hord := HORD.out; omega))
          replace HPx := Lib.hid (HPx.out.touch ht (by have hord := HORD.out; omega))
          replace HFx := Lib.hid (HFx.out.touch ht (by have hord := HORD.out; omega))
          replace HPy := Lib.hid (HPy.out.touch ht (by have hord := HORD.out; omega))
          replace HFy := Lib.hid (HFy.out.touch ht (by have hord := HORD.out; omega))
          replace HzN := Lib.hid (HzN.out.touch ht (by have hord := HORD.out; omega))
          replace HPz := Lib.hid (HPz.out.touch ht (by have hord := HORD.out; omega))
          replace HFz := Lib.hid (HFz.out.touch ht (by have hord := HORD.out; omega))
          replace HwN := Lib.hid (HwN.out.touch ht (by have hord := HORD.out; omega))
          replace HPw := Lib.hid (HPw.out.touch ht (by have hord := HORD.out; omega))
          clear ht
          have hset : (texts e0.ts).set 0 (.string ⟨#[]⟩) = texts (blankT e0).ts := by
            show (e0.ts.map Value.string).set 0 (Value.string ByteArray.empty) = (e0.ts.set 0 ByteArray.empty).map Value.string
            rw [List.map_set]
          have hwt : OwnB (Z3.setCell ⟨q, 0, none⟩ (.string ⟨#[]⟩)) mw b12 9 (.slice (some ⟨q, 0, none⟩) (blankT e0).ts.length dw) (texts (blankT e0).ts) := by
            refine Or.inl ⟨?_, fun b hb => by
              injection hb with hb; subst hb; exact HG3.out⟩
            unfold Own
            rw [← hset]
            simpa [blankT, texts_len] using HST.out
          have HwT := Lib.hid hwt
          clear hset hwt HST HG3
          generalize Z3.setCell ⟨q, 0, none⟩ (.string ⟨#[]⟩) = Z4 at HORD HP4 HB HLS HPx HFx HPy HFy HzN HPz HFz HwN HPw HwT ⊢
          have HTB := Lib.hid (show ∀ t ∈ (blankT e0).ts, t.size ≤ maxLen from fun t ht => by
              rcases List.mem_or_eq_of_mem_set ht with h | h
              · exact HY0.out.txt t h
              · rw [h]; decide)
          have HZN := Lib.hid (show OwnB Z4 0 0 9 (.slice none (noT e0).ts.length 0) (texts (noT e0).ts) from Or.inl ⟨Own.nil _ _ _, fun b hb => by cases hb⟩)
          have HZe := Lib.hid (ev_of (e := noT e0) (by simp only [noT]; have := HY0.out.v; omega) (by simp only [noT]; have := HY0.out.k; omega) HY0.out.fit (fun t ht => by cases ht) HzN.out HZN.out)
          have HWe := Lib.hid (ev_of (e := blankT e0) (by simp only [blankT]; have := HY0.out.v; omega) (by simp only [blankT]; have := HY0.out.k; omega) HY0.out.fit HTB.out HwN.out HwT.out)
          clear HZN HTB
          clear HzN
          clear HwN
          clear HwT
          obtain ⟨hpz_0, hpz_1, hpz_2, hpz_3⟩ := HPz.out
          go_wp2_with fail
          clear hpz_0 hpz_1 hpz_2 hpz_3
          have hcall := may_any _ _ _ _ (noT e0) (by have := HL0.out; simp only [noT, List.length_append, List.length_cons, List.length_nil]; omega) _ (HE.out.below HB.out) HZe.out
          rw [may_noT HTX.out] at hcall
          simp only [evV, noT] at hcall
          try simp only [List.length_append, List.length_cons, List.length_nil, Nat.zero_add] at hcall
          refine hcall.mono ?_; rintro z U3 ⟨rfl, hb⟩; clear hcall
          have HO2 := Lib.hid (And.intro HORD.out hb.size)
          clear HORD
          have HORD := HO2
          clear HO2
          replace HP4 := Lib.hid (HP4.out.below hb)
          replace HB := Lib.hid (below_step HB.out hb)
          replace HLS := Lib.hid (HLS.out.below hb)
          replace HPx := Lib.hid (HPx.out.below hb)
          replace HFx := Lib.hid (HFx.out.below hb)
          replace HPy := Lib.hid (HPy.out.below hb)
          replace HFy := Lib.hid (HFy.out.below hb)
          replace HPz := Lib.hid (HPz.out.below hb)
          replace HFz := Lib.hid (HFz.out.below hb)
          replace HPw := Lib.hid (HPw.out.below hb)
          replace HZe := Lib.hid (HZe.out.below hb)
          replace HWe := Lib.hid (HWe.out.below hb)
          clear hb
          obtain ⟨hpw_0, hpw_1, hpw_2, hpw_3⟩ := HPw.out
          go_wp2_with fail
          clear hpw_0 hpw_1 hpw_2 hpw_3
          have hcall := may_any _ _ _ _ (blankT e0) (by have := HL0.out; simp only [blankT, List.length_set, List.length_append, List.length_cons, List.length_nil]; omega) _ (HE.out.below HB.out) HWe.out
          rw [may_blankT HTX.out HT0.out] at hcall
          simp only [evV, blankT, List.length_set] at hcall
          try simp only [List.length_append, List.length_cons, List.length_nil, Nat.zero_add] at hcall
          refine hcall.mono ?_; rintro z U4 ⟨rfl, hb⟩; clear hcall
          have HO2 := Lib.hid (And.intro HORD.out hb.size)
          clear HORD
          have HORD := HO2
          clear HO2
          replace HP4 := Lib.hid (HP4.out.below hb)
          replace HB := Lib.hid (below_step HB.out hb)
          replace HLS := Lib.hid (HLS.out.below hb)
          replace HPx := Lib.hid (HPx.out.below hb)
          replace HFx := Lib.hid (HFx.out.below hb)
          replace HPy := Lib.hid (HPy.out.below hb)
          replace HFy := Lib.hid (HFy.out.below hb)
          replace HPz := Lib.hid (HPz.out.below hb)
          replace HFz := Lib.hid (HFz.out.below hb)
          replace HPw := Lib.hid (HPw.out.below hb)
          replace HZe := Lib.hid (HZe.out.below hb)
          replace HWe := Lib.hid (HWe.out.below hb)
          clear hb
          clear HZe
          clear HWe
          clear HPz
          clear HPw
          clear HFz
          go_wp2_with fail
          go_meet
          exact Lib.hid ⟨HP4.out, HB.out, HLS.out, HPx.out, HFx.out, HPy.out, HFy.out, by have hord := HORD.out; omega⟩
      case rest =>
        obtain ⟨h1, h2, h3, h4, h5, h6, h7, h8⟩ := hcut.out
        clear hcut
        replace HP4 := Lib.hid h1
        replace HB := Lib.hid h2
        replace HLS := Lib.hid h3
        replace HPx := Lib.hid h4
        replace HFx := Lib.hid h5
        replace HPy := Lib.hid h6
        replace HFy := Lib.hid h7
        have HO2 := Lib.hid (And.intro HORD.out h8)
        clear HORD
        have HORD := HO2
        clear HO2
        clear h1 h2 h3 h4 h5 h6 h7 h8
        have hsz : 0 < (lets e0.v e0.k).size := by
          have h := HT1.out
          unfold tall at h
          exact of_decide_eq_true h
        have hz0 : (((lets e0.v e0.k).size : Int) == 0) = false := beq_eq_false_iff_ne.2 (by omega)
        have hz1 : ((lets e0.v e0.k).size == 0) = false := beq_eq_false_iff_ne.2 (by omega)
        go_upto_region 23 with (fail)
        obtain ⟨k, hk, hk1, hk2⟩ := k_lt pl (lets e0.v e0.k).size hsz (by have := (lets_ok e0.v e0.k).1; omega)
        have HKL := Lib.hid hk1
        have HKE := Lib.hid hk
        have hlen := (lets_ok e0.v e0.k).1
        clear hk hk1
        go_cut [14] (fun u wx => wx = wc ∧ u = .int .i64 (k : Int))
        case first =>
          go_wp2_with fail
          go_meet
          exact ⟨rfl, by rw [HKE.out]⟩
        case rest =>
          obtain ⟨rfl, rfl⟩ := hcut
          clear hlen hk2 hz0 hz1 hsz HKE
          obtain ⟨hp4_0, hp4_1, hp4_2, hp4_3⟩ := HP4.out
          go_wp2_with fail
          clear hp4_0 hp4_1 hp4_2 hp4_3
          have hpf := HFy.out.1
          refine (own_x A0 c0 B0 g0 e0 (by have := HL0.out; omega) (by have := HL0.out; omega) _ (HY0.out.below HB.out)).mono ?_; rintro z W9 ⟨Av, cv, Bv, dv, mv, rfl, hm1, hm2, hn, ht, hb⟩
          simp only [evV]
          replace HP4 := Lib.hid (HP4.out.below hb)
          replace HB := Lib.hid (below_step HB.out hb)
          replace HLS := Lib.hid (HLS.out.below hb)
          replace HPx := Lib.hid (HPx.out.below hb)
          replace HFx := Lib.hid (HFx.out.below hb)
          replace HPy := Lib.hid (HPy.out.below hb)
          replace HFy := Lib.hid (HFy.out.below hb)
          have HvN := Lib.hid hn
          have HvT := Lib.hid ht
          have HO2 := Lib.hid (And.intro HORD.out (And.intro hpf (And.intro hm1 hm2)))
          clear HORD
          have HORD := HO2
          clear HO2
          clear hb hm1 hm2 hn ht hpf
          obtain ⟨hpx_0, hpx_1, hpx_2, hpx_3⟩ := HPx.out
          have z0 := HFx.out.2 0
          have z1 := HFx.out.2 1
          have z2 := HFx.out.2 2
          have z3 := HFx.out.2 3
          go_upto_region 25 with (fail)
          clear hpx_0 hpx_1 hpx_2 hpx_3
          clear z0 z1 z2 z3
          have hp := (((HPx.out.set0 (.int .u8 e0.v)).set1 (.int .u8 e0.k)).set2 (.slice Av e0.ns.length cv)).set3 (.slice Bv e0.ts.length dv)
          have ht := Touch.set W9 b9 0 (.int .u8 e0.v)
          have hf := HFx.out.set b9 0 (.int .u8 e0.v)
          replace HP4 := Lib.hid (HP4.out.touch ht (by have hord := HORD.out; omega))
          replace HB := Lib.hid (Touch.step HB.out ht (by have hord := HORD.out; omega))
          replace HLS := Lib.hid (HLS.out.touch ht (by have hord := HORD.out; omega))
          replace HPy := Lib.hid (HPy.out.touch ht (by have hord := HORD.out; omega))
          replace HFy := Lib.hid (HFy.out.touch ht (by have hord := HORD.out; omega))
          replace HvN := Lib.hid (HvN.out.touch ht (by have hord := HORD.out; omega))
          replace HvT := Lib.hid (HvT.out.touch ht (by have hord := HORD.out; omega))
          replace HFx := Lib.hid hf
          clear ht hf
          have ht := Touch.set (W9.setCell ⟨b9, 0, none⟩ (.int .u8 e0.v)) b9 1 (.int .u8 e0.k)
          have hf := HFx.out.set b9 1 (.int .u8 e0.k)
          replace HP4 := Lib.hid (HP4.out.touch ht (by have hord := HORD.out; omega))
          replace HB := Lib.hid (Touch.step HB.out ht (by have hord := HORD.out; omega))
          replace HLS := Lib.hid (HLS.out.touch ht (by have hord := HORD.out; omega))
          replace HPy := Lib.hid (HPy.out.touch ht (by have hord := HORD.out; omega))
          replace HFy := Lib.hid (HFy.out.touch ht (by have hord := HORD.out; omega))
          replace HvN := Lib.hid (HvN.out.touch ht (by have hord := HORD.out; omega))
          replace HvT := Lib.hid (HvT.out.touch ht (by have hord := HORD.out; omega))
          replace HFx := Lib.hid hf
          clear ht hf
          have ht := Touch.set ((W9.setCell ⟨b9, 0, none⟩ (.int .u8 e0.v)).setCell ⟨b9, 1, none⟩ (.int .u8 e0.k)) b9 2 (.slice Av e0.ns.length cv)
          have hf := HFx.out.set b9 2 (.slice Av e0.ns.length cv)
          replace HP4 := Lib.hid (HP4.out.touch ht (by have hord := HORD.out; omega))
          replace HB := Lib.hid (Touch.step HB.out ht (by have hord := HORD.out; omega))
          replace HLS := Lib.hid (HLS.out.touch ht (by have hord := HORD.out; omega))
          replace HPy := Lib.hid (HPy.out.touch ht (by have hord := HORD.out; omega))
          replace HFy := Lib.hid (HFy.out.touch ht (by have hord := HORD.out; omega))
          replace HvN := Lib.hid (HvN.out.touch ht (by have hord := HORD.out; omega))
          replace HvT := Lib.hid (HvT.out.touch ht (by have hord := HORD.out; omega))
          replace HFx := Lib.hid hf
          clear ht hf
          have ht := Touch.set (((W9.setCell ⟨b9, 0, none⟩ (.int .u8 e0.v)).setCell ⟨b9, 1, none⟩ (.int .u8 e0.k)).setCell ⟨b9, 2, none⟩ (.slice Av e0.ns.length cv)) b9 3 (.slice Bv e0.ts.length dv)
          have hf := HFx.out.set b9 3 (.slice Bv e0.ts.length dv)
          replace HP4 := Lib.hid (HP4.out.touch ht (by have hord := HORD.out; omega))
          replace HB := Lib.hid (Touch.step HB.out ht (by have hord := HORD.out; omega))
          replace HLS := Lib.hid (HLS.out.touch ht (by have hord := HORD.out; omega))
          replace HPy := Lib.hid (HPy.out.touch ht (by have hord := HORD.out; omega))
          replace HFy := Lib.hid (HFy.out.touch ht (by have hord := HORD.out; omega))
          replace HvN := Lib.hid (HvN.out.touch ht (by have hord := HORD.out; omega))
          replace HvT := Lib.hid (HvT.out.touch ht (by have hord := HORD.out; omega))
          replace HFx := Lib.hid hf
          clear ht hf
          have hs : W9.heap.size ≤ ((((W9.setCell ⟨b9, 0, none⟩ (.int .u8 e0.v)).setCell ⟨b9, 1, none⟩ (.int .u8 e0.k)).setCell ⟨b9, 2, none⟩ (.slice Av e0.ns.length cv)).setCell ⟨b9, 3, none⟩ (.slice Bv e0.ts.length dv)).heap.size := by simp
          have HO2 := Lib.hid (And.intro HORD.out hs)
          clear HORD
          have HORD := HO2
          clear HO2
          replace HPx := Lib.hid hp
          clear hp hs
          generalize ((((W9.setCell ⟨b9, 0, none⟩ (.int .u8 e0.v)).setCell ⟨b9, 1, none⟩ (.int .u8 e0.k)).setCell ⟨b9, 2, none⟩ (.slice Av e0.ns.length cv)).setCell ⟨b9, 3, none⟩ (.slice Bv e0.ts.length dv)) = Y5 at HP4 HB HLS HPx HFx HPy HFy HvN HvT HORD ⊢
          have hkn : k < e0.ns.length := by have := HKL.out; have := HSN.out; omega
          have HKN := Lib.hid hkn
          clear hkn
          have hne : 0 < (nums e0.ns).length := by rw [nums_len]; have := HKN.out; omega
          obtain ⟨hown, hu⟩ := HvN.out.resolve_right (fun h => by rw [h.1] at hne; exact absurd hne (by decide))
          obtain ⟨g, cap, hs, hg1, hg2, _, hcs⟩ := hown.cells hne
          rw [nums_len] at hs
          injection hs with hs1 _ hs2
          subst hs1 hs2
          have hg3 := hu g rfl
          have hown' : Own Y5 wc.heap.size 2 (.slice (some ⟨g, 0, none⟩) (nums e0.ns).length cv) (nums e0.ns) := by rw [nums_len]; exact hown
          have hst := (World.ownsRow.stored hown' k (.int .i64 n)).1
          have hfz := World.ownsRow.frozenAt hown' k
          have hck := hcs k _ (nums_at e0.ns k HKN.out)
          have HST := Lib.hid hst
          clear hst hown hown' hcs hne hu
          obtain ⟨hpx_0, hpx_1, hpx_2, hpx_3⟩ := HPx.out
          have z0 : (0 : Int) ≤ (k : Int) := by omega
          have z1 : (k : Int) < (e0.ns.length : Int) := by have := HKN.out; omega
          go_upto_region 26 with (fail)
          clear hpx_0 hpx_1 hpx_2 hpx_3
          clear z0 z1
          have ht := Touch.set Y5 g k (.int .i64 n)
          have HO2 := Lib.hid (And.intro HORD.out (And.intro hg1 (And.intro hg2 (And.intro hg3 (And.intro ht.size HFx.out.1)))))
          clear HORD
          have HORD := HO2
          clear HO2
          have HG3 := Lib.hid hg3
          clear hg1 hg2 hg3 hck hfz
          clear HvN
          clear HFx
          replace HP4 := Lib.hid (HP4.out.touch ht (by have hord := HORD.out; omega))
          replace HB := Lib.hid (Touch.step HB.out ht (by have hord := HORD.out; omega))
          replace HLS := Lib.hid (HLS.out.touch ht (by have hord := HORD.out; omega))
          replace HPx := Lib.hid (HPx.out.touch ht (by have hord := HORD.out; omega))
          replace HPy := Lib.hid (HPy.out.touch ht (by have hord := HORD.out; omega))
          replace HFy := Lib.hid (HFy.out.touch ht (by have hord := HORD.out; omega))
          replace HvT := Lib.hid (HvT.out.touch ht (by have hord := HORD.out; omega))
          clear ht
          have hset : (nums e0.ns).set k (.int .i64 n) = nums (putN e0 k n).ns := by unfold nums putN; rw [List.map_set]
          have hvn : OwnB (Y5.setCell ⟨g, k, none⟩ (.int .i64 n)) wc.heap.size mv 2 (.slice (some ⟨g, 0, none⟩) (putN e0 k n).ns.length cv) (nums (putN e0 k n).ns) := by
            refine Or.inl ⟨?_, fun b hb => by
              injection hb with hb; subst hb; exact HG3.out⟩
            unfold Own
            rw [← hset]
            simpa [putN, nums_len] using HST.out
          have HvN := Lib.hid hvn
          clear hset hvn HST HG3
          generalize Y5.setCell ⟨g, k, none⟩ (.int .i64 n) = Y6 at HORD HP4 HB HLS HPx HPy HFy HvT HvN ⊢
          obtain ⟨hp4_0, hp4_1, hp4_2, hp4_3⟩ := HP4.out
          go_wp2_with fail
          clear hp4_0 hp4_1 hp4_2 hp4_3
          have hpf := HFy.out.1
          refine (own_x A0 c0 B0 g0 e0 (by have := HL0.out; omega) (by have := HL0.out; omega) _ (HY0.out.below HB.out)).mono ?_; rintro z W10 ⟨Au, cu, Bu, du, mu, rfl, hm1, hm2, hn, ht, hb⟩
          simp only [evV]
          replace HP4 := Lib.hid (HP4.out.below hb)
          replace HB := Lib.hid (below_step HB.out hb)
          replace HLS := Lib.hid (HLS.out.below hb)
          replace HPx := Lib.hid (HPx.out.below hb)
          replace HPy := Lib.hid (HPy.out.below hb)
          replace HFy := Lib.hid (HFy.out.below hb)
          replace HvT := Lib.hid (HvT.out.below hb)
          replace HvN := Lib.hid (HvN.out.below hb)
          have HuN := Lib.hid hn
          have HuT := Lib.hid ht
          have HO2 := Lib.hid (And.intro HORD.out (And.intro hpf (And.intro hm1 hm2)))
          clear HORD
          have HORD := HO2
          clear HO2
          clear hb hm1 hm2 hn ht hpf
          obtain ⟨hpy_0, hpy_1, hpy_2, hpy_3⟩ := HPy.out
          have z0 := HFy.out.2 0
          have z1 := HFy.out.2 1
          have z2 := HFy.out.2 2
          have z3 := HFy.out.2 3
          go_upto_region 27 with (fail)
          clear hpy_0 hpy_1 hpy_2 hpy_3
          clear z0 z1 z2 z3
          have hp := (((HPy.out.set0 (.int .u8 e0.v)).set1 (.int .u8 e0.k)).set2 (.slice Au e0.ns.length cu)).set3 (.slice Bu e0.ts.length du)
          have ht := Touch.set W10 b10 0 (.int .u8 e0.v)
          have hf := HFy.out.set b10 0 (.int .u8 e0.v)
          replace HP4 := Lib.hid (HP4.out.touch ht (by have hord := HORD.out; omega))
          replace HB := Lib.hid (Touch.step HB.out ht (by have hord := HORD.out; omega))
          replace HLS := Lib.hid (HLS.out.touch ht (by have hord := HORD.out; omega))
          replace HPx := Lib.hid (HPx.out.touch ht (by have hord := HORD.out; omega))
          replace HvT := Lib.hid (HvT.out.touch ht (by have hord := HORD.out; omega))
          replace HvN := Lib.hid (HvN.out.touch ht (by have hord := HORD.out; omega))
          replace HuN := Lib.hid (HuN.out.touch ht (by have hord := HORD.out; omega))
          replace HuT := Lib.hid (HuT.out.touch ht (by have hord := HORD.out; omega))
          replace HFy := Lib.hid hf
          clear ht hf
          have ht := Touch.set (W10.setCell ⟨b10, 0, none⟩ (.int .u8 e0.v)) b10 1 (.int .u8 e0.k)
          have hf := HFy.out.set b10 1 (.int .u8 e0.k)
          replace HP4 := Lib.hid (HP4.out.touch ht (by have hord := HORD.out; omega))
          replace HB := Lib.hid (Touch.step HB.out ht (by have hord := HORD.out; omega))
          replace HLS := Lib.hid (HLS.out.touch ht (by have hord := HORD.out; omega))
          replace HPx := Lib.hid (HPx.out.touch ht (by have hord := HORD.out; omega))
          replace HvT := Lib.hid (HvT.out.touch ht (by have hord := HORD.out; omega))
          replace HvN := Lib.hid (HvN.out.touch ht (by have hord := HORD.out; omega))
          replace HuN := Lib.hid (HuN.out.touch ht (by have hord := HORD.out; omega))
          replace HuT := Lib.hid (HuT.out.touch ht (by have hord := HORD.out; omega))
          replace HFy := Lib.hid hf
          clear ht hf
          have ht := Touch.set ((W10.setCell ⟨b10, 0, none⟩ (.int .u8 e0.v)).setCell ⟨b10, 1, none⟩ (.int .u8 e0.k)) b10 2 (.slice Au e0.ns.length cu)
          have hf := HFy.out.set b10 2 (.slice Au e0.ns.length cu)
          replace HP4 := Lib.hid (HP4.out.touch ht (by have hord := HORD.out; omega))
          replace HB := Lib.hid (Touch.step HB.out ht (by have hord := HORD.out; omega))
          replace HLS := Lib.hid (HLS.out.touch ht (by have hord := HORD.out; omega))
          replace HPx := Lib.hid (HPx.out.touch ht (by have hord := HORD.out; omega))
          replace HvT := Lib.hid (HvT.out.touch ht (by have hord := HORD.out; omega))
          replace HvN := Lib.hid (HvN.out.touch ht (by have hord := HORD.out; omega))
          replace HuN := Lib.hid (HuN.out.touch ht (by have hord := HORD.out; omega))
          replace HuT := Lib.hid (HuT.out.touch ht (by have hord := HORD.out; omega))
          replace HFy := Lib.hid hf
          clear ht hf
          have ht := Touch.set (((W10.setCell ⟨b10, 0, none⟩ (.int .u8 e0.v)).setCell ⟨b10, 1, none⟩ (.int .u8 e0.k)).setCell ⟨b10, 2, none⟩ (.slice Au e0.ns.length cu)) b10 3 (.slice Bu e0.ts.length du)
          have hf := HFy.out.set b10 3 (.slice Bu e0.ts.length du)
          replace HP4 := Lib.hid (HP4.out.touch ht (by have hord := HORD.out; omega))
          replace HB := Lib.hid (Touch.step HB.out ht (by have hord := HORD.out; omega))
          replace HLS := Lib.hid (HLS.out.touch ht (by have hord := HORD.out; omega))
          replace HPx := Lib.hid (HPx.out.touch ht (by have hord := HORD.out; omega))
          replace HvT := Lib.hid (HvT.out.touch ht (by have hord := HORD.out; omega))
          replace HvN := Lib.hid (HvN.out.touch ht (by have hord := HORD.out; omega))
          replace HuN := Lib.hid (HuN.out.touch ht (by have hord := HORD.out; omega))
          replace HuT := Lib.hid (HuT.out.touch ht (by have hord := HORD.out; omega))
          replace HFy := Lib.hid hf
          clear ht hf
          have hs : W10.heap.size ≤ ((((W10.setCell ⟨b10, 0, none⟩ (.int .u8 e0.v)).setCell ⟨b10, 1, none⟩ (.int .u8 e0.k)).setCell ⟨b10, 2, none⟩ (.slice Au e0.ns.length cu)).setCell ⟨b10, 3, none⟩ (.slice Bu e0.ts.length du)).heap.size := by simp
          have HO2 := Lib.hid (And.intro HORD.out hs)
          clear HORD
          have HORD := HO2
          clear HO2
          replace HPy := Lib.hid hp
          clear hp hs
          generalize ((((W10.setCell ⟨b10, 0, none⟩ (.int .u8 e0.v)).setCell ⟨b10, 1, none⟩ (.int .u8 e0.k)).setCell ⟨b10, 2, none⟩ (.slice Au e0.ns.length cu)).setCell ⟨b10, 3, none⟩ (.slice Bu e0.ts.length du)) = Y7 at HP4 HB HLS HPx HPy HFy HvT HvN HuN HuT HORD ⊢
          clear HuN
          have HBT := Lib.hid (show w.heap.size < b10 ∧ b10 < Y7.heap.size from ⟨by have hord := HORD.out; omega, HFy.out.1⟩)
          have HK27 := Lib.hid (fun W (hW : Below Y7.heap.size Y7 W) => show (fun w' => (Below b10 Y7 w' ∧ Y7.heap.size ≤ w'.heap.size) ∧ w'.cell? ⟨w.heap.size, 0, none⟩ = some (.int .u8 e0.v) ∧ w'.cell? ⟨w.heap.size, 1, none⟩ = some (.int .u8 e0.k) ∧ w'.cell? ⟨w.heap.size, 2, none⟩ = some (.slice A0 e0.ns.length c0) ∧ w'.cell? ⟨w.heap.size, 3, none⟩ = some (.slice B0 e0.ts.length g0) ∧ w'.cell? ⟨b10, 2, none⟩ = some (at0 w' b10 2) ∧ w'.frozen? ⟨b10, 2, none⟩ = false) W from by
            obtain ⟨p0, p1, p2, p3⟩ := HP4.out.below hW
            obtain ⟨_, _, q2, _⟩ := HPy.out.below hW
            exact ⟨⟨hW.mono (Nat.le_of_lt HBT.out.2), hW.size⟩, p0, p1, p2, p3, at0_of q2, (HFy.out.below hW).2 _⟩)
          have HK3 := Lib.hid (fun W (x : Value) (h : (fun w' => (Below b10 Y7 w' ∧ Y7.heap.size ≤ w'.heap.size) ∧ w'.cell? ⟨w.heap.size, 0, none⟩ = some (.int .u8 e0.v) ∧ w'.cell? ⟨w.heap.size, 1, none⟩ = some (.int .u8 e0.k) ∧ w'.cell? ⟨w.heap.size, 2, none⟩ = some (.slice A0 e0.ns.length c0) ∧ w'.cell? ⟨w.heap.size, 3, none⟩ = some (.slice B0 e0.ts.length g0) ∧ w'.cell? ⟨b10, 2, none⟩ = some (at0 w' b10 2) ∧ w'.frozen? ⟨b10, 2, none⟩ = false) W) => show (fun w' => (Below b10 Y7 w' ∧ Y7.heap.size ≤ w'.heap.size) ∧ w'.cell? ⟨w.heap.size, 0, none⟩ = some (.int .u8 e0.v) ∧ w'.cell? ⟨w.heap.size, 1, none⟩ = some (.int .u8 e0.k) ∧ w'.cell? ⟨w.heap.size, 2, none⟩ = some (.slice A0 e0.ns.length c0) ∧ w'.cell? ⟨w.heap.size, 3, none⟩ = some (.slice B0 e0.ts.length g0) ∧ w'.cell? ⟨b10, 2, none⟩ = some (at0 w' b10 2) ∧ w'.frozen? ⟨b10, 2, none⟩ = false) (W.setCell ⟨b10, 2, none⟩ x) from by
            obtain ⟨⟨h0, h0s⟩, p0, p1, p2, p3, q2, f2⟩ := h
            have hx : ∀ j, (W.setCell ⟨b10, 2, none⟩ x).cell? ⟨w.heap.size, j, none⟩ = W.cell? ⟨w.heap.size, j, none⟩ := fun j => World.cell?_setCell_far W _ _ x (by have := HBT.out.1; show b10 ≠ w.heap.size; omega)
            exact ⟨⟨h0.setCell (Nat.le_refl _) x, by simpa using h0s⟩, by rw [hx]; exact p0, by rw [hx]; exact p1, by rw [hx]; exact p2, by rw [hx]; exact p3, at0_of (World.cell?_setCell_same _ _ _ q2), by simpa using f2⟩)
          have HVN := Lib.hid (And.intro (HY0.out.below HB.out).ns (And.intro HY0.out.nA HY0.out.lA))
          have HNC := Lib.hid (nums_cell e0.ns)
          have T1 := fun W => run_head A0 e0.ns.length c0 k (by have := HKN.out; omega) HY0.out.lA W
          have T2 := fun W => (show (Instr.slice 41 (.slice A0 e0.ns.length c0) (some (.int .i64 ((k : Int) + 1))) none none).run Tryd.prog W = .ok (.slice (cutA A0 c0 (k + 1)) (e0.ns.length - (k + 1)) (c0 - (k + 1))) W from run_tail A0 e0.ns.length c0 (k + 1) HKN.out HY0.out.lA W)
          have T3 := fun W => run_tail A0 e0.ns.length c0 (k + 1) HKN.out HY0.out.lA W
          have hw0 : RowKit.wrap64 ((k : Int) + 1) = (k : Int) + 1 := by have := HKN.out; have := HL0.out; unfold RowKit.wrap64; omega
          have hw1 : IntKind.i64.wrap ((k : Int) + 1) = (k : Int) + 1 := by
            have := HKN.out
            have := HL0.out
            simp [IntKind.wrap, IntKind.signed, IntKind.bits]
            first | omega | (split <;> omega)
          have z1 : (k : Int) < 1000 := by have := HKN.out; have := HL0.out; omega
          have HQ2 := Lib.hid (show (([] ++ (nums e0.ns).take k) ++ (nums e0.ns).drop (k + 1)).length = e0.ns.length - 1 from by have := HKN.out; simp [nums_len]; omega)
          go_region_held3 (fun w' => (Below b10 Y7 w' ∧ Y7.heap.size ≤ w'.heap.size) ∧ w'.cell? ⟨w.heap.size, 0, none⟩ = some (.int .u8 e0.v) ∧ w'.cell? ⟨w.heap.size, 1, none⟩ = some (.int .u8 e0.k) ∧ w'.cell? ⟨w.heap.size, 2, none⟩ = some (.slice A0 e0.ns.length c0) ∧ w'.cell? ⟨w.heap.size, 3, none⟩ = some (.slice B0 e0.ts.length g0) ∧ w'.cell? ⟨b10, 2, none⟩ = some (at0 w' b10 2) ∧ w'.frozen? ⟨b10, 2, none⟩ = false)
            (first | assumption | exact HK27.out _ (below_drew _ _) | exact HK27.out _ ((below_drew _ _).alloc (Nat.le_refl _) _) | exact HK27.out _ HB1.out | exact HK27.out _ HB2.out | exact HK3.out _ _ (HK27.out _ HB2.out))
            (first
              | (refine step_append_vals 41 2 (.int .i64 0) 8 Tryd.underlying41 infoN rfl (by decide) rfl (.tmp 116) (.tmp 120) rfl Y7.heap.size (.slice (some ⟨Y7.heap.size, 0, none⟩) 0 0) [] rfl (Own.made Y7.drew Y7.heap.size 2 (Nat.le_refl _)) (cutA A0 c0 0) k c0 ((nums e0.ns).take k) rfl (by rw [List.length_take, nums_len]; have := HKN.out; omega) ((HVN.out.1.below ((below_drew _ _).alloc (Nat.le_refl _) _)).head c0 k (by rw [nums_len]; exact HVN.out.2.2)) (fun u hu => HNC.out u (List.mem_of_mem_take hu)) (fun h => by have := cutA_none (k := 0) HVN.out.2.1 h; omega) (by have := HL0.out; simp [nums_len]; omega) (by simp) ?_; intro v1 V1 o1 g1; (have HB1 : Hid (Below Y7.heap.size Y7 V1) := Lib.hid (((below_drew Y7.heap.size Y7).alloc (Nat.le_refl _) _).trans (below_grown (Own.made Y7.drew Y7.heap.size 2 (Nat.le_refl _)) (Nat.le_refl _) (by simp) g1))); have HO1 := Lib.hid o1; clear o1 g1)
              | (refine step_append_vals 41 2 (.int .i64 0) 8 Tryd.underlying41 infoN rfl (by decide) rfl (.tmp 121) (.tmp 126) rfl Y7.heap.size v1 _ rfl HO1.out (cutA A0 c0 (k + 1)) (e0.ns.length - (k + 1)) (c0 - (k + 1)) ((nums e0.ns).drop (k + 1)) rfl (by rw [List.length_drop, nums_len]) ((HVN.out.1.below HB1.out).cut c0 (k + 1) (by rw [nums_len]; exact HVN.out.2.2)) (fun u hu => HNC.out u (List.mem_of_mem_drop hu)) (fun h => cutA_none HVN.out.2.1 h) (by have := HL0.out; simp [nums_len]; omega) HB1.out.size ?_; intro v2 V2 o2 g2; (have HB2 : Hid (Below Y7.heap.size Y7 V2) := Lib.hid (HB1.out.trans (below_grown HO1.out (Nat.le_refl _) HB1.out.size g2))); obtain ⟨A2, c2, rfl, _, _, _⟩ := o2.vat; rw [HQ2.out] at o2 ⊢; have HO2 := Lib.hid o2; clear o2 g2))
          replace HP4 := Lib.hid (HP4.out.below HB2.out)
          replace HB := Lib.hid (below_step HB.out HB2.out)
          replace HLS := Lib.hid (HLS.out.below HB2.out)
          replace HPx := Lib.hid (HPx.out.below HB2.out)
          replace HPy := Lib.hid (HPy.out.below HB2.out)
          replace HFy := Lib.hid (HFy.out.below HB2.out)
          replace HvT := Lib.hid (HvT.out.below HB2.out)
          replace HvN := Lib.hid (HvN.out.below HB2.out)
          replace HuT := Lib.hid (HuT.out.below HB2.out)
          have hy2 := Lib.hid (show OwnB V2 Y7.heap.size V2.heap.size 2 (.slice A2 (e0.ns.length - 1) c2) (([] ++ (nums e0.ns).take k) ++ (nums e0.ns).drop (k + 1)) from Or.inl ⟨HO2.out, fun b hb => (World.ownsRow.lt HO2.out b hb).2⟩)
          have HyN := hy2
          clear hy2
          have HO2 := Lib.hid (And.intro HORD.out (And.intro HBT.out.2 HB2.out.size))
          clear HORD
          have HORD := HO2
          clear HO2
          have ht := Touch.set V2 b10 2 (.slice A2 (e0.ns.length - 1) c2)
          have hp := HPy.out.set2 (.slice A2 (e0.ns.length - 1) c2)
          clear HFy
          replace HP4 := Lib.hid (HP4.out.touch ht (by have hord := HORD.out; omega))
          replace HB := Lib.hid (Touch.step HB.out ht (by have hord := HORD.out; omega))
          replace HLS := Lib.hid (HLS.out.touch ht (by have hord := HORD.out; omega))
          replace HPx := Lib.hid (HPx.out.touch ht (by have hord := HORD.out; omega))
          replace HvT := Lib.hid (HvT.out.touch ht (by have hord := HORD.out; omega))
          replace HvN := Lib.hid (HvN.out.touch ht (by have hord := HORD.out; omega))
          replace HuT := Lib.hid (HuT.out.touch ht (by have hord := HORD.out; omega))
          replace HyN := Lib.hid (HyN.out.touch ht (by have hord := HORD.out; omega))
          replace HPy := Lib.hid hp
          clear ht hp HO2 HO1 HB1 HB2 HK27 HK3 T1 T2 T3 hw0 hw1 HQ2
          generalize V2.setCell ⟨b10, 2, none⟩ (.slice A2 (e0.ns.length - 1) c2) = Y8 at HP4 HB HLS HPx HPy HvT HvN HuT HyN ⊢
          have hdl : (dropN e0 k).ns.length = e0.ns.length - 1 := by have := HKN.out; simp [dropN]; omega
          have hyn : OwnB Y8 Y7.heap.size V2.heap.size 2 (.slice A2 (dropN e0 k).ns.length c2) (nums (dropN e0 k).ns) := by
            have h := HyN.out
            rw [hdl]
            simpa [dropN, nums, List.map_take, List.map_drop] using h
          have HXe := Lib.hid (ev_of (e := putN e0 k n) HY0.out.v HY0.out.k (fun x hx => by
              rcases List.mem_or_eq_of_mem_set hx with h | h
              · exact HY0.out.fit x h
              · rw [h]; exact HNW.out) HY0.out.txt HvN.out HvT.out)
          have HYe := Lib.hid (ev_of (e := dropN e0 k) HY0.out.v HY0.out.k (fun x hx => by
              rcases List.mem_append.1 hx with h | h
              · exact HY0.out.fit x (List.mem_of_mem_take h)
              · exact HY0.out.fit x (List.mem_of_mem_drop h)) HY0.out.txt hyn HuT.out)
          clear hyn
          clear HvN
          clear HvT
          clear HyN
          clear HuT
          obtain ⟨Al', cl', e1, hvat, -, -⟩ := HLS.out.own.vat
          injection e1 with i1 i2 i3
          clear i2 i3
          subst i1
          obtain ⟨bl, ol, e2, hcell⟩ := hvat k _ (clsV_at (lets e0.v e0.k) k HKL.out)
          subst e2
          clear hvat
          have HC256 := Lib.hid (byteAt_lt (lets e0.v e0.k) k)
          have HBD := Lib.hid (lets_bnd e0.v e0.k k HKL.out)
          have HMX := Lib.hid (may_putN HM.out k n HKN.out)
          have HMY := Lib.hid (may_dropN HM.out k HKN.out)
          have HLC := Lib.hid hcell
          clear hcell
          generalize byteAt (lets e0.v e0.k) k = c at HC256 HBD HMX HLC
          have HFB := Lib.hid (fits_bnd (n := n) HBD.out)
          obtain ⟨lo, hlo⟩ : ∃ lo, (bnd e0.v c).low = lo := ⟨_, rfl⟩
          obtain ⟨hi, hhi⟩ : ∃ hi, (bnd e0.v c).high = hi := ⟨_, rfl⟩
          obtain ⟨f, hf⟩ : ∃ f, fits e0.v c n = f := ⟨_, rfl⟩
          have HFF := Lib.hid (show f = (decide (lo ≤ n) && decide (n ≤ hi)) from by rw [← hf, ← hlo, ← hhi]; exact HFB.out)
          have HLO := Lib.hid hlo
          have HHI := Lib.hid hhi
          have HF := Lib.hid hf
          clear hlo hhi hf
          have HCB := Lib.hid (fun W (hW : Below Y8.heap.size Y8 W) => show Calls Tryd.prog 17 #[.int .u8 e0.v, .int .u8 c] W fun z w' => z = .returned (.tuple #[.int .i64 lo, .int .i64 hi, .bool true]) ∧ Below W.heap.size W w' from by
            have h := bound_any e0.v c HY0.out.v HC256.out W (HE.out.below (below_step HB.out hW))
            rw [HLO.out, HHI.out, HBD.out] at h
            exact h)
          have HCF := Lib.hid (fun W (hW : Below Y8.heap.size Y8 W) => show Calls Tryd.prog 20 #[.int .u8 e0.v, .int .u8 c, .int .i64 n] W fun z w' => z = .returned (.bool f) ∧ Below W.heap.size W w' from by
            have h := fits_any e0.v c n HY0.out.v HC256.out HNW.out W (HE.out.below (below_step HB.out hW))
            rw [HF.out] at h
            exact h)
          have HCX := Lib.hid (fun W (hW : Below Y8.heap.size Y8 W) => show Calls Tryd.prog 25 #[.agg #[.int .u8 e0.v, .int .u8 e0.k, .slice (some ⟨g, 0, none⟩) e0.ns.length cv, .slice Bv e0.ts.length dv]] W fun z w' => z = .returned (.bool f) ∧ Below W.heap.size W w' from by
            have h := may_any _ _ _ _ (putN e0 k n) (by have := HL0.out; simp only [putN, List.length_set]; omega) W (HE.out.below (below_step HB.out hW)) (HXe.out.below hW)
            rw [HMX.out, HF.out] at h
            simp only [evV, putN, List.length_set] at h
            exact h)
          have HDL := Lib.hid hdl
          have HCY := Lib.hid (fun W (hW : Below Y8.heap.size Y8 W) => show Calls Tryd.prog 25 #[.agg #[.int .u8 e0.v, .int .u8 e0.k, .slice A2 (e0.ns.length - 1) c2, .slice Bu e0.ts.length du]] W fun z w' => z = .returned (.bool false) ∧ Below W.heap.size W w' from by
            have h := may_any _ _ _ _ (dropN e0 k) (by have := HL0.out; rw [HDL.out]; omega) W (HE.out.below (below_step HB.out hW)) (HYe.out.below hW)
            rw [HMY.out] at h
            simp only [evV, HDL.out] at h
            exact h)
          clear hdl HXe HYe HMX HMY HBD HLO HHI HF
          have HK28 := Lib.hid (fun W (hW : Below Y8.heap.size Y8 W) => show (fun w' => Below Y8.heap.size Y8 w' ∧ w'.cell? ⟨w.heap.size, 0, none⟩ = some (.int .u8 e0.v) ∧ w'.cell? ⟨bl, ol + k, none⟩ = some (.int .u8 c)) W from ⟨hW, (HP4.out.below hW).1, cell_kept HLC.out hW⟩)
          have z0 : (0 : Int) ≤ (k : Int) := by omega
          have z2 : (k : Int) < ((lets e0.v e0.k).size : Int) := by have := HKL.out; omega
          go_upto_region 28 with (fail)
          have g3 : Below Y8.heap.size Y8 Y8.drew := below_drew _ _
          refine wp_region_held_drew (S := (fun w' => Below Y8.heap.size Y8 w' ∧ w'.cell? ⟨w.heap.size, 0, none⟩ = some (.int .u8 e0.v) ∧ w'.cell? ⟨bl, ol + k, none⟩ = some (.int .u8 c))) (by kernel_rfl) (HK28.out _ g3) (fun hHeld => ?_)
          refine wpAnyH_take (i := 0) (oi := { dst := some 130, op := Go.Op.fieldAddr 44 (Go.Operand.tmp 3) 0, type := 0, pos := "outright.go:101", after := #[], guard := none }) (v := ?v1) rfl (by kernel_rfl) (by kernel_rfl) (by kernel_rfl) (fun _ _ _ h => h) (Or.inl ⟨by rfl, ?hy1⟩) (by assumption) ?rest1
          case hy1 => (intro w hSw; obtain ⟨s0, s1, s2⟩ := hSw; go_simp; try with_reducible rfl)
          try simp only [Act.put, List.setIfInBounds_toArray, List.set_cons_zero, List.set_cons_succ]
          refine wpAnyH_take (i := 1) (oi := { dst := some 131, op := Go.Op.load 5 (Go.Operand.tmp 130), type := 5, pos := "outright.go:101", after := #[{ on := 0, ground := Go.Ground.data }], guard := none }) (v := ?v2) rfl (by kernel_rfl) (by kernel_rfl) (by kernel_rfl) (fun _ _ _ h => h) (Or.inl ⟨by rfl, ?hy2⟩) (by assumption) ?rest2
          case hy2 => (intro w hSw; obtain ⟨s0, s1, s2⟩ := hSw; go_simp; try with_reducible rfl)
          try simp only [Act.put, List.setIfInBounds_toArray, List.set_cons_zero, List.set_cons_succ]
          refine wpAnyH_take (i := 2) (oi := { dst := some 132, op := Go.Op.move (Go.Operand.tmp 7), type := 27, pos := "outright.go:101", after := #[], guard := none }) (v := ?v3) rfl (by kernel_rfl) (by kernel_rfl) (by kernel_rfl) (fun _ _ _ h => h) (Or.inl ⟨by rfl, ?hy3⟩) (by assumption) ?rest3
          case hy3 => (intro w hSw; obtain ⟨s0, s1, s2⟩ := hSw; go_simp; try with_reducible rfl)
          try simp only [Act.put, List.setIfInBounds_toArray, List.set_cons_zero, List.set_cons_succ]
          refine wpAnyH_take (i := 3) (oi := { dst := some 133, op := Go.Op.move (Go.Operand.tmp 14), type := 3, pos := "outright.go:101", after := #[], guard := none }) (v := ?v4) rfl (by kernel_rfl) (by kernel_rfl) (by kernel_rfl) (fun _ _ _ h => h) (Or.inl ⟨by rfl, ?hy4⟩) (by assumption) ?rest4
          case hy4 => (intro w hSw; obtain ⟨s0, s1, s2⟩ := hSw; go_simp; try with_reducible rfl)
          try simp only [Act.put, List.setIfInBounds_toArray, List.set_cons_zero, List.set_cons_succ]
          refine wpAnyH_take (i := 4) (oi := { dst := some 134, op := Go.Op.indexAddr 27 (Go.Operand.tmp 132) (Go.Operand.tmp 133), type := 0, pos := "outright.go:101", after := #[{ on := 2, ground := Go.Ground.data }, { on := 3, ground := Go.Ground.data }], guard := none }) (v := ?v5) rfl (by kernel_rfl) (by kernel_rfl) (by kernel_rfl) (fun _ _ _ h => h) (Or.inl ⟨by rfl, ?hy5⟩) (by assumption) ?rest5
          case hy5 => (intro w hSw; obtain ⟨s0, s1, s2⟩ := hSw; go_simp; try with_reducible rfl)
          try simp only [Act.put, List.setIfInBounds_toArray, List.set_cons_zero, List.set_cons_succ]
          refine wpAnyH_take (i := 5) (oi := { dst := some 135, op := Go.Op.load 34 (Go.Operand.tmp 134), type := 34, pos := "outright.go:101", after := #[{ on := 4, ground := Go.Ground.data }], guard := none }) (v := ?v6) rfl (by kernel_rfl) (by kernel_rfl) (by kernel_rfl) (fun _ _ _ h => h) (Or.inl ⟨by rfl, ?hy6⟩) (by assumption) ?rest6
          case hy6 => (intro w hSw; obtain ⟨s0, s1, s2⟩ := hSw; go_simp; try with_reducible rfl)
          try simp only [Act.put, List.setIfInBounds_toArray, List.set_cons_zero, List.set_cons_succ]
          refine wpAnyH_ready (rs := [6]) (by kernel_rfl) (by simp) ?_
          refine AllReadyH.cons (o := { dst := some 136, op := Go.Op.call { callee := Go.Callee.value (Go.Operand.func 17), args := #[Go.Operand.tmp 131, Go.Operand.tmp 135], argTypes := #[5, 34] }, type := 25, pos := "outright.go:101", after := #[{ on := 1, ground := Go.Ground.data }, { on := 5, ground := Go.Ground.data }], guard := none }) rfl (fun K hK => ?_) AllReadyH.nil
          go_simp
          go_at_call 17
          refine (HCB.out _ g3).mono ?_
          rintro z V4 ⟨rfl, hb⟩
          have g4 := below_step g3 hb
          refine hK.out _ _ (HK28.out _ g4) (fun hHeld4 => ?_)
          clear hK K hb
          try simp only [Act.put, List.setIfInBounds_toArray, List.set_cons_zero, List.set_cons_succ]
          refine wpAnyH_take (i := 7) (oi := { dst := some 129, op := Go.Op.move (Go.Operand.tmp 136), type := 25, pos := "outright.go:101", after := #[{ on := 6, ground := Go.Ground.data }], guard := none }) (v := ?v7) rfl (by kernel_rfl) (by kernel_rfl) (by kernel_rfl) (fun _ _ _ h => h) (Or.inl ⟨by rfl, ?hy7⟩) (by assumption) ?rest7
          case hy7 => (intro w hSw; obtain ⟨s0, s1, s2⟩ := hSw; go_simp; try with_reducible rfl)
          try simp only [Act.put, List.setIfInBounds_toArray, List.set_cons_zero, List.set_cons_succ]
          refine wpAnyH_take (i := 8) (oi := { dst := some 137, op := Go.Op.extract (Go.Operand.tmp 129) 0, type := 2, pos := "outright.go:101", after := #[{ on := 7, ground := Go.Ground.data }], guard := none }) (v := ?v8) rfl (by kernel_rfl) (by kernel_rfl) (by kernel_rfl) (fun _ _ _ h => h) (Or.inl ⟨by rfl, ?hy8⟩) (by assumption) ?rest8
          case hy8 => (intro w hSw; obtain ⟨s0, s1, s2⟩ := hSw; go_simp; try with_reducible rfl)
          try simp only [Act.put, List.setIfInBounds_toArray, List.set_cons_zero, List.set_cons_succ]
          refine wpAnyH_take (i := 9) (oi := { dst := some 138, op := Go.Op.extract (Go.Operand.tmp 129) 1, type := 2, pos := "outright.go:101", after := #[{ on := 7, ground := Go.Ground.data }, { on := 11, ground := Go.Ground.gcOnly Go.Departure.lateStores }], guard := none }) (v := ?v9) rfl (by kernel_rfl) (by kernel_rfl) (by kernel_rfl) (fun _ _ _ h => h) (Or.inl ⟨by rfl, ?hy9⟩) (by assumption) ?rest9
          case hy9 => (intro w hSw; obtain ⟨s0, s1, s2⟩ := hSw; go_simp; try with_reducible rfl)
          try simp only [Act.put, List.setIfInBounds_toArray, List.set_cons_zero, List.set_cons_succ]
          refine wpAnyH_take (i := 10) (oi := { dst := some 139, op := Go.Op.extract (Go.Operand.tmp 129) 2, type := 4, pos := "outright.go:101", after := #[{ on := 7, ground := Go.Ground.data }, { on := 12, ground := Go.Ground.gcOnly Go.Departure.lateStores }], guard := none }) (v := ?v10) rfl (by kernel_rfl) (by kernel_rfl) (by kernel_rfl) (fun _ _ _ h => h) (Or.inl ⟨by rfl, ?hy10⟩) (by assumption) ?rest10
          case hy10 => (intro w hSw; obtain ⟨s0, s1, s2⟩ := hSw; go_simp; try with_reducible rfl)
          try simp only [Act.put, List.setIfInBounds_toArray, List.set_cons_zero, List.set_cons_succ]
          refine wpAnyH_take (i := 11) (oi := { dst := some 15, op := Go.Op.assign (Go.Operand.tmp 137), type := 2, pos := "outright.go:101", after := #[{ on := 8, ground := Go.Ground.data }, { on := 6, ground := Go.Ground.chain }, { on := 0, ground := Go.Ground.phase }, { on := 1, ground := Go.Ground.phase }, { on := 2, ground := Go.Ground.phase }, { on := 3, ground := Go.Ground.phase }, { on := 4, ground := Go.Ground.phase }, { on := 5, ground := Go.Ground.phase }, { on := 6, ground := Go.Ground.phase }, { on := 7, ground := Go.Ground.phase }, { on := 8, ground := Go.Ground.phase }, { on := 9, ground := Go.Ground.textOnly Go.Departure.lateStores }, { on := 10, ground := Go.Ground.textOnly Go.Departure.lateStores }], guard := none }) (v := ?v11) rfl (by kernel_rfl) (by kernel_rfl) (by kernel_rfl) (fun _ _ _ h => h) (Or.inl ⟨by rfl, ?hy11⟩) (by assumption) ?rest11
          case hy11 => (intro w hSw; obtain ⟨s0, s1, s2⟩ := hSw; go_simp; try with_reducible rfl)
          try simp only [Act.put, List.setIfInBounds_toArray, List.set_cons_zero, List.set_cons_succ]
          refine wpAnyH_take (i := 12) (oi := { dst := some 16, op := Go.Op.assign (Go.Operand.tmp 138), type := 2, pos := "outright.go:101", after := #[{ on := 9, ground := Go.Ground.data }, { on := 11, ground := Go.Ground.chain }, { on := 0, ground := Go.Ground.phase }, { on := 1, ground := Go.Ground.phase }, { on := 2, ground := Go.Ground.phase }, { on := 3, ground := Go.Ground.phase }, { on := 4, ground := Go.Ground.phase }, { on := 5, ground := Go.Ground.phase }, { on := 6, ground := Go.Ground.phase }, { on := 7, ground := Go.Ground.phase }, { on := 8, ground := Go.Ground.phase }, { on := 9, ground := Go.Ground.phase }, { on := 10, ground := Go.Ground.textOnly Go.Departure.lateStores }, { on := 11, ground := Go.Ground.phase }], guard := none }) (v := ?v12) rfl (by kernel_rfl) (by kernel_rfl) (by kernel_rfl) (fun _ _ _ h => h) (Or.inl ⟨by rfl, ?hy12⟩) (by assumption) ?rest12
          case hy12 => (intro w hSw; obtain ⟨s0, s1, s2⟩ := hSw; go_simp; try with_reducible rfl)
          try simp only [Act.put, List.setIfInBounds_toArray, List.set_cons_zero, List.set_cons_succ]
          refine wpAnyH_take (i := 13) (oi := { dst := some 17, op := Go.Op.assign (Go.Operand.tmp 139), type := 4, pos := "outright.go:101", after := #[{ on := 10, ground := Go.Ground.data }, { on := 12, ground := Go.Ground.chain }, { on := 0, ground := Go.Ground.phase }, { on := 1, ground := Go.Ground.phase }, { on := 2, ground := Go.Ground.phase }, { on := 3, ground := Go.Ground.phase }, { on := 4, ground := Go.Ground.phase }, { on := 5, ground := Go.Ground.phase }, { on := 6, ground := Go.Ground.phase }, { on := 7, ground := Go.Ground.phase }, { on := 8, ground := Go.Ground.phase }, { on := 9, ground := Go.Ground.phase }, { on := 10, ground := Go.Ground.phase }, { on := 11, ground := Go.Ground.phase }, { on := 12, ground := Go.Ground.phase }], guard := none }) (v := ?v13) rfl (by kernel_rfl) (by kernel_rfl) (by kernel_rfl) (fun _ _ _ h => h) (Or.inl ⟨by rfl, ?hy13⟩) (by assumption) ?rest13
          case hy13 => (intro w hSw; obtain ⟨s0, s1, s2⟩ := hSw; go_simp; try with_reducible rfl)
          try simp only [Act.put, List.setIfInBounds_toArray, List.set_cons_zero, List.set_cons_succ]
          refine wpAnyH_done (by kernel_rfl) ?_ _
          have HK29 := Lib.hid (fun W (hW : Below Y8.heap.size Y8 W) => show (fun w' => Below Y8.heap.size Y8 w' ∧ w'.cell? ⟨w.heap.size, 0, none⟩ = some (.int .u8 e0.v) ∧ w'.cell? ⟨b9, 0, none⟩ = some (.int .u8 e0.v) ∧ w'.cell? ⟨b9, 1, none⟩ = some (.int .u8 e0.k) ∧ w'.cell? ⟨b9, 2, none⟩ = some (.slice (some ⟨g, 0, none⟩) e0.ns.length cv) ∧ w'.cell? ⟨b9, 3, none⟩ = some (.slice Bv e0.ts.length dv) ∧ w'.cell? ⟨b10, 0, none⟩ = some (.int .u8 e0.v) ∧ w'.cell? ⟨b10, 1, none⟩ = some (.int .u8 e0.k) ∧ w'.cell? ⟨b10, 2, none⟩ = some (.slice A2 (e0.ns.length - 1) c2) ∧ w'.cell? ⟨b10, 3, none⟩ = some (.slice Bu e0.ts.length du) ∧ w'.cell? ⟨bl, ol + k, none⟩ = some (.int .u8 c)) W from by
            obtain ⟨p0, p1, p2, p3⟩ := HPx.out.below hW
            obtain ⟨q0, q1, q2, q3⟩ := HPy.out.below hW
            exact ⟨hW, (HP4.out.below hW).1, p0, p1, p2, p3, q0, q1, q2, q3, cell_kept HLC.out hW⟩)
          go_wp2_with fail
          clear HK28 hHeld hHeld4
          have g5 := below_step g4 (below_drew _ _)
          by_cases h1 : lo ≤ n
          · by_cases h2 : n ≤ hi
            · have hf : f = true := by rw [HFF.out]; simp [h1, h2]
              clear HFF
              subst hf
              refine wp_region_held_drew (S := (fun w' => Below Y8.heap.size Y8 w' ∧ w'.cell? ⟨w.heap.size, 0, none⟩ = some (.int .u8 e0.v) ∧ w'.cell? ⟨b9, 0, none⟩ = some (.int .u8 e0.v) ∧ w'.cell? ⟨b9, 1, none⟩ = some (.int .u8 e0.k) ∧ w'.cell? ⟨b9, 2, none⟩ = some (.slice (some ⟨g, 0, none⟩) e0.ns.length cv) ∧ w'.cell? ⟨b9, 3, none⟩ = some (.slice Bv e0.ts.length dv) ∧ w'.cell? ⟨b10, 0, none⟩ = some (.int .u8 e0.v) ∧ w'.cell? ⟨b10, 1, none⟩ = some (.int .u8 e0.k) ∧ w'.cell? ⟨b10, 2, none⟩ = some (.slice A2 (e0.ns.length - 1) c2) ∧ w'.cell? ⟨b10, 3, none⟩ = some (.slice Bu e0.ts.length du) ∧ w'.cell? ⟨bl, ol + k, none⟩ = some (.int .u8 c))) (by kernel_rfl) (HK29.out _ g5) (fun hHeld => ?_)
              refine wpAnyH_take (i := 0) (oi := { dst := some 140, op := Go.Op.load 44 (Go.Operand.tmp 10), type := 44, pos := "outright.go:102", after := #[], guard := none }) (v := ?v14) rfl (by kernel_rfl) (by kernel_rfl) (by kernel_rfl) (fun _ _ _ h => h) (Or.inl ⟨by rfl, ?hy14⟩) (by assumption) ?rest14
              case hy14 => (intro w hSw; obtain ⟨s0, s1, s2, s3, s4, s5, s6, s7, s8, s9, s10⟩ := hSw; go_simp; try with_reducible rfl)
              try simp only [Act.put, List.setIfInBounds_toArray, List.set_cons_zero, List.set_cons_succ]
              refine wpAnyH_take (i := 2) (oi := { dst := some 142, op := Go.Op.fieldAddr 44 (Go.Operand.tmp 3) 0, type := 0, pos := "outright.go:102", after := #[], guard := none }) (v := ?v15) rfl (by kernel_rfl) (by kernel_rfl) (by kernel_rfl) (fun _ _ _ h => h) (Or.inl ⟨by rfl, ?hy15⟩) (by assumption) ?rest15
              case hy15 => (intro w hSw; obtain ⟨s0, s1, s2, s3, s4, s5, s6, s7, s8, s9, s10⟩ := hSw; go_simp; try with_reducible rfl)
              try simp only [Act.put, List.setIfInBounds_toArray, List.set_cons_zero, List.set_cons_succ]
              refine wpAnyH_take (i := 3) (oi := { dst := some 143, op := Go.Op.load 5 (Go.Operand.tmp 142), type := 5, pos := "outright.go:102", after := #[{ on := 2, ground := Go.Ground.data }], guard := none }) (v := ?v16) rfl (by kernel_rfl) (by kernel_rfl) (by kernel_rfl) (fun _ _ _ h => h) (Or.inl ⟨by rfl, ?hy16⟩) (by assumption) ?rest16
              case hy16 => (intro w hSw; obtain ⟨s0, s1, s2, s3, s4, s5, s6, s7, s8, s9, s10⟩ := hSw; go_simp; try with_reducible rfl)
              try simp only [Act.put, List.setIfInBounds_toArray, List.set_cons_zero, List.set_cons_succ]
              refine wpAnyH_take (i := 4) (oi := { dst := some 144, op := Go.Op.move (Go.Operand.tmp 7), type := 27, pos := "outright.go:102", after := #[], guard := none }) (v := ?v17) rfl (by kernel_rfl) (by kernel_rfl) (by kernel_rfl) (fun _ _ _ h => h) (Or.inl ⟨by rfl, ?hy17⟩) (by assumption) ?rest17
              case hy17 => (intro w hSw; obtain ⟨s0, s1, s2, s3, s4, s5, s6, s7, s8, s9, s10⟩ := hSw; go_simp; try with_reducible rfl)
              try simp only [Act.put, List.setIfInBounds_toArray, List.set_cons_zero, List.set_cons_succ]
              refine wpAnyH_take (i := 5) (oi := { dst := some 145, op := Go.Op.move (Go.Operand.tmp 14), type := 3, pos := "outright.go:102", after := #[], guard := none }) (v := ?v18) rfl (by kernel_rfl) (by kernel_rfl) (by kernel_rfl) (fun _ _ _ h => h) (Or.inl ⟨by rfl, ?hy18⟩) (by assumption) ?rest18
              case hy18 => (intro w hSw; obtain ⟨s0, s1, s2, s3, s4, s5, s6, s7, s8, s9, s10⟩ := hSw; go_simp; try with_reducible rfl)
              try simp only [Act.put, List.setIfInBounds_toArray, List.set_cons_zero, List.set_cons_succ]
              refine wpAnyH_take (i := 6) (oi := { dst := some 146, op := Go.Op.indexAddr 27 (Go.Operand.tmp 144) (Go.Operand.tmp 145), type := 0, pos := "outright.go:102", after := #[{ on := 4, ground := Go.Ground.data }, { on := 5, ground := Go.Ground.data }], guard := none }) (v := ?v19) rfl (by kernel_rfl) (by kernel_rfl) (by kernel_rfl) (fun _ _ _ h => h) (Or.inl ⟨by rfl, ?hy19⟩) (by assumption) ?rest19
              case hy19 => (intro w hSw; obtain ⟨s0, s1, s2, s3, s4, s5, s6, s7, s8, s9, s10⟩ := hSw; go_simp; try with_reducible rfl)
              try simp only [Act.put, List.setIfInBounds_toArray, List.set_cons_zero, List.set_cons_succ]
              refine wpAnyH_take (i := 7) (oi := { dst := some 147, op := Go.Op.load 34 (Go.Operand.tmp 146), type := 34, pos := "outright.go:102", after := #[{ on := 6, ground := Go.Ground.data }], guard := none }) (v := ?v20) rfl (by kernel_rfl) (by kernel_rfl) (by kernel_rfl) (fun _ _ _ h => h) (Or.inl ⟨by rfl, ?hy20⟩) (by assumption) ?rest20
              case hy20 => (intro w hSw; obtain ⟨s0, s1, s2, s3, s4, s5, s6, s7, s8, s9, s10⟩ := hSw; go_simp; try with_reducible rfl)
              try simp only [Act.put, List.setIfInBounds_toArray, List.set_cons_zero, List.set_cons_succ]
              refine wpAnyH_take (i := 8) (oi := { dst := some 148, op := Go.Op.move (Go.Operand.tmp 2), type := 2, pos := "outright.go:102", after := #[], guard := none }) (v := ?v21) rfl (by kernel_rfl) (by kernel_rfl) (by kernel_rfl) (fun _ _ _ h => h) (Or.inl ⟨by rfl, ?hy21⟩) (by assumption) ?rest21
              case hy21 => (intro w hSw; obtain ⟨s0, s1, s2, s3, s4, s5, s6, s7, s8, s9, s10⟩ := hSw; go_simp; try with_reducible rfl)
              try simp only [Act.put, List.setIfInBounds_toArray, List.set_cons_zero, List.set_cons_succ]
              refine wpAnyH_ready (rs := [1]) (by kernel_rfl) (by simp) ?_
              refine AllReadyH.cons (o := { dst := some 141, op := Go.Op.call { callee := Go.Callee.value (Go.Operand.func 25), args := #[Go.Operand.tmp 140], argTypes := #[44] }, type := 4, pos := "outright.go:102", after := #[{ on := 0, ground := Go.Ground.data }], guard := none }) rfl (fun K hK => ?_) AllReadyH.nil
              go_simp
              go_at_call 25
              refine (HCX.out _ g5).mono ?_
              rintro z V6 ⟨rfl, hb⟩
              have g6 := below_step g5 hb
              refine hK.out _ _ (HK29.out _ g6) (fun hHeld6 => ?_)
              clear hK K hb
              try simp only [Act.put, List.setIfInBounds_toArray, List.set_cons_zero, List.set_cons_succ]
              refine wpAnyH_ready (rs := [9]) (by kernel_rfl) (by simp) ?_
              refine AllReadyH.cons (o := { dst := some 149, op := Go.Op.call { callee := Go.Callee.value (Go.Operand.func 20), args := #[Go.Operand.tmp 143, Go.Operand.tmp 147, Go.Operand.tmp 148], argTypes := #[5, 34, 2] }, type := 4, pos := "outright.go:102", after := #[{ on := 3, ground := Go.Ground.data }, { on := 7, ground := Go.Ground.data }, { on := 8, ground := Go.Ground.data }, { on := 1, ground := Go.Ground.chain }], guard := none }) rfl (fun K hK => ?_) AllReadyH.nil
              go_simp
              go_at_call 20
              refine (HCF.out _ g6).mono ?_
              rintro z V7 ⟨rfl, hb⟩
              have g7 := below_step g6 hb
              refine hK.out _ _ (HK29.out _ g7) (fun hHeld7 => ?_)
              clear hK K hb
              try simp only [Act.put, List.setIfInBounds_toArray, List.set_cons_zero, List.set_cons_succ]
              refine wpAnyH_take (i := 10) (oi := { dst := some 150, op := Go.Op.binOp Go.BinOp.eql 4 (Go.Operand.tmp 141) (Go.Operand.tmp 149) 4, type := 4, pos := "outright.go:102", after := #[{ on := 1, ground := Go.Ground.data }, { on := 9, ground := Go.Ground.data }], guard := none }) (v := ?v22) rfl (by kernel_rfl) (by kernel_rfl) (by kernel_rfl) (fun _ _ _ h => h) (Or.inl ⟨by rfl, ?hy22⟩) (by assumption) ?rest22
              case hy22 => (intro w hSw; obtain ⟨s0, s1, s2, s3, s4, s5, s6, s7, s8, s9, s10⟩ := hSw; go_simp; try with_reducible rfl)
              try simp only [Act.put, List.setIfInBounds_toArray, List.set_cons_zero, List.set_cons_succ]
              refine wpAnyH_take (i := 11) (oi := { dst := some 151, op := Go.Op.move (Go.Operand.tmp 150), type := 4, pos := "outright.go:102", after := #[{ on := 10, ground := Go.Ground.data }, { on := 9, ground := Go.Ground.chain }], guard := none }) (v := ?v23) rfl (by kernel_rfl) (by kernel_rfl) (by kernel_rfl) (fun _ _ _ h => h) (Or.inl ⟨by rfl, ?hy23⟩) (by assumption) ?rest23
              case hy23 => (intro w hSw; obtain ⟨s0, s1, s2, s3, s4, s5, s6, s7, s8, s9, s10⟩ := hSw; go_simp; try with_reducible rfl)
              try simp only [Act.put, List.setIfInBounds_toArray, List.set_cons_zero, List.set_cons_succ]
              refine wpAnyH_take (i := 12) (oi := { dst := some 152, op := Go.Op.load 44 (Go.Operand.tmp 11), type := 44, pos := "outright.go:102", after := #[{ on := 11, ground := Go.Ground.guard }], guard := some (11, true) }) (v := ?v24) rfl (by kernel_rfl) (by kernel_rfl) (by kernel_rfl) (fun _ _ _ h => h) (Or.inl ⟨by rfl, ?hy24⟩) (by assumption) ?rest24
              case hy24 => (intro w hSw; obtain ⟨s0, s1, s2, s3, s4, s5, s6, s7, s8, s9, s10⟩ := hSw; go_simp; try with_reducible rfl)
              try simp only [Act.put, List.setIfInBounds_toArray, List.set_cons_zero, List.set_cons_succ]
              refine wpAnyH_ready (rs := [13]) (by kernel_rfl) (by simp) ?_
              refine AllReadyH.cons (o := { dst := some 153, op := Go.Op.call { callee := Go.Callee.value (Go.Operand.func 25), args := #[Go.Operand.tmp 152], argTypes := #[44] }, type := 4, pos := "outright.go:102", after := #[{ on := 12, ground := Go.Ground.data }, { on := 11, ground := Go.Ground.chain }, { on := 11, ground := Go.Ground.guard }], guard := some (11, true) }) rfl (fun K hK => ?_) AllReadyH.nil
              go_simp
              go_at_call 25
              refine (HCY.out _ g7).mono ?_
              rintro z V8 ⟨rfl, hb⟩
              have g8 := below_step g7 hb
              refine hK.out _ _ (HK29.out _ g8) (fun hHeld8 => ?_)
              clear hK K hb
              try simp only [Act.put, List.setIfInBounds_toArray, List.set_cons_zero, List.set_cons_succ]
              refine wpAnyH_take (i := 14) (oi := { dst := some 154, op := Go.Op.unOp Go.UnOp.not 4 (Go.Operand.tmp 153), type := 4, pos := "outright.go:102", after := #[{ on := 13, ground := Go.Ground.data }, { on := 11, ground := Go.Ground.guard }], guard := some (11, true) }) (v := ?v25) rfl (by kernel_rfl) (by kernel_rfl) (by kernel_rfl) (fun _ _ _ h => h) (Or.inl ⟨by rfl, ?hy25⟩) (by assumption) ?rest25
              case hy25 => (intro w hSw; obtain ⟨s0, s1, s2, s3, s4, s5, s6, s7, s8, s9, s10⟩ := hSw; go_simp; try with_reducible rfl)
              try simp only [Act.put, List.setIfInBounds_toArray, List.set_cons_zero, List.set_cons_succ]
              refine wpAnyH_take (i := 15) (oi := { dst := some 155, op := Go.Op.pick (Go.Operand.tmp 151) (Go.Operand.tmp 154) (Go.Operand.const (Go.Value.bool false)), type := 4, pos := "outright.go:102", after := #[{ on := 11, ground := Go.Ground.data }, { on := 14, ground := Go.Ground.data }], guard := none }) (v := ?v26) rfl (by kernel_rfl) (by kernel_rfl) (by kernel_rfl) (fun _ _ _ h => h) (Or.inl ⟨by rfl, ?hy26⟩) (by assumption) ?rest26
              case hy26 => (intro w hSw; obtain ⟨s0, s1, s2, s3, s4, s5, s6, s7, s8, s9, s10⟩ := hSw; go_simp; try with_reducible rfl)
              try simp only [Act.put, List.setIfInBounds_toArray, List.set_cons_zero, List.set_cons_succ]
              refine wpAnyH_take (i := 16) (oi := { dst := some 156, op := Go.Op.move (Go.Operand.tmp 155), type := 4, pos := "outright.go:102", after := #[{ on := 15, ground := Go.Ground.data }, { on := 13, ground := Go.Ground.chain }], guard := none }) (v := ?v27) rfl (by kernel_rfl) (by kernel_rfl) (by kernel_rfl) (fun _ _ _ h => h) (Or.inl ⟨by rfl, ?hy27⟩) (by assumption) ?rest27
              case hy27 => (intro w hSw; obtain ⟨s0, s1, s2, s3, s4, s5, s6, s7, s8, s9, s10⟩ := hSw; go_simp; try with_reducible rfl)
              try simp only [Act.put, List.setIfInBounds_toArray, List.set_cons_zero, List.set_cons_succ]
              refine wpAnyH_take (i := 17) (oi := { dst := some 157, op := Go.Op.move (Go.Operand.tmp 17), type := 4, pos := "outright.go:102", after := #[{ on := 16, ground := Go.Ground.guard }], guard := some (16, true) }) (v := ?v28) rfl (by kernel_rfl) (by kernel_rfl) (by kernel_rfl) (fun _ _ _ h => h) (Or.inl ⟨by rfl, ?hy28⟩) (by assumption) ?rest28
              case hy28 => (intro w hSw; obtain ⟨s0, s1, s2, s3, s4, s5, s6, s7, s8, s9, s10⟩ := hSw; go_simp; try with_reducible rfl)
              try simp only [Act.put, List.setIfInBounds_toArray, List.set_cons_zero, List.set_cons_succ]
              refine wpAnyH_take (i := 18) (oi := { dst := some 158, op := Go.Op.pick (Go.Operand.tmp 156) (Go.Operand.tmp 157) (Go.Operand.const (Go.Value.bool false)), type := 4, pos := "outright.go:102", after := #[{ on := 16, ground := Go.Ground.data }, { on := 17, ground := Go.Ground.data }], guard := none }) (v := ?v29) rfl (by kernel_rfl) (by kernel_rfl) (by kernel_rfl) (fun _ _ _ h => h) (Or.inl ⟨by rfl, ?hy29⟩) (by assumption) ?rest29
              case hy29 => (intro w hSw; obtain ⟨s0, s1, s2, s3, s4, s5, s6, s7, s8, s9, s10⟩ := hSw; go_simp; try with_reducible rfl)
              try simp only [Act.put, List.setIfInBounds_toArray, List.set_cons_zero, List.set_cons_succ]
              refine wpAnyH_take (i := 19) (oi := { dst := some 159, op := Go.Op.move (Go.Operand.tmp 158), type := 4, pos := "outright.go:102", after := #[{ on := 18, ground := Go.Ground.data }, { on := 16, ground := Go.Ground.chain }], guard := none }) (v := ?v30) rfl (by kernel_rfl) (by kernel_rfl) (by kernel_rfl) (fun _ _ _ h => h) (Or.inl ⟨by rfl, ?hy30⟩) (by assumption) ?rest30
              case hy30 => (intro w hSw; obtain ⟨s0, s1, s2, s3, s4, s5, s6, s7, s8, s9, s10⟩ := hSw; go_simp; try with_reducible rfl)
              try simp only [Act.put, List.setIfInBounds_toArray, List.set_cons_zero, List.set_cons_succ]
              refine wpAnyH_take (i := 20) (oi := { dst := some 160, op := Go.Op.fieldAddr 44 (Go.Operand.tmp 3) 0, type := 0, pos := "outright.go:102", after := #[{ on := 19, ground := Go.Ground.guard }], guard := some (19, true) }) (v := ?v31) rfl (by kernel_rfl) (by kernel_rfl) (by kernel_rfl) (fun _ _ _ h => h) (Or.inl ⟨by rfl, ?hy31⟩) (by assumption) ?rest31
              case hy31 => (intro w hSw; obtain ⟨s0, s1, s2, s3, s4, s5, s6, s7, s8, s9, s10⟩ := hSw; go_simp; try with_reducible rfl)
              try simp only [Act.put, List.setIfInBounds_toArray, List.set_cons_zero, List.set_cons_succ]
              refine wpAnyH_take (i := 21) (oi := { dst := some 161, op := Go.Op.load 5 (Go.Operand.tmp 160), type := 5, pos := "outright.go:102", after := #[{ on := 20, ground := Go.Ground.data }, { on := 19, ground := Go.Ground.guard }], guard := some (19, true) }) (v := ?v32) rfl (by kernel_rfl) (by kernel_rfl) (by kernel_rfl) (fun _ _ _ h => h) (Or.inl ⟨by rfl, ?hy32⟩) (by assumption) ?rest32
              case hy32 => (intro w hSw; obtain ⟨s0, s1, s2, s3, s4, s5, s6, s7, s8, s9, s10⟩ := hSw; go_simp; try with_reducible rfl)
              try simp only [Act.put, List.setIfInBounds_toArray, List.set_cons_zero, List.set_cons_succ]
              refine wpAnyH_take (i := 22) (oi := { dst := some 162, op := Go.Op.move (Go.Operand.tmp 7), type := 27, pos := "outright.go:102", after := #[{ on := 19, ground := Go.Ground.guard }], guard := some (19, true) }) (v := ?v33) rfl (by kernel_rfl) (by kernel_rfl) (by kernel_rfl) (fun _ _ _ h => h) (Or.inl ⟨by rfl, ?hy33⟩) (by assumption) ?rest33
              case hy33 => (intro w hSw; obtain ⟨s0, s1, s2, s3, s4, s5, s6, s7, s8, s9, s10⟩ := hSw; go_simp; try with_reducible rfl)
              try simp only [Act.put, List.setIfInBounds_toArray, List.set_cons_zero, List.set_cons_succ]
              refine wpAnyH_take (i := 23) (oi := { dst := some 163, op := Go.Op.move (Go.Operand.tmp 14), type := 3, pos := "outright.go:102", after := #[{ on := 19, ground := Go.Ground.guard }], guard := some (19, true) }) (v := ?v34) rfl (by kernel_rfl) (by kernel_rfl) (by kernel_rfl) (fun _ _ _ h => h) (Or.inl ⟨by rfl, ?hy34⟩) (by assumption) ?rest34
              case hy34 => (intro w hSw; obtain ⟨s0, s1, s2, s3, s4, s5, s6, s7, s8, s9, s10⟩ := hSw; go_simp; try with_reducible rfl)
              try simp only [Act.put, List.setIfInBounds_toArray, List.set_cons_zero, List.set_cons_succ]
              refine wpAnyH_take (i := 24) (oi := { dst := some 164, op := Go.Op.indexAddr 27 (Go.Operand.tmp 162) (Go.Operand.tmp 163), type := 0, pos := "outright.go:102", after := #[{ on := 22, ground := Go.Ground.data }, { on := 23, ground := Go.Ground.data }, { on := 19, ground := Go.Ground.guard }], guard := some (19, true) }) (v := ?v35) rfl (by kernel_rfl) (by kernel_rfl) (by kernel_rfl) (fun _ _ _ h => h) (Or.inl ⟨by rfl, ?hy35⟩) (by assumption) ?rest35
              case hy35 => (intro w hSw; obtain ⟨s0, s1, s2, s3, s4, s5, s6, s7, s8, s9, s10⟩ := hSw; go_simp; try with_reducible rfl)
              try simp only [Act.put, List.setIfInBounds_toArray, List.set_cons_zero, List.set_cons_succ]
              refine wpAnyH_take (i := 25) (oi := { dst := some 165, op := Go.Op.load 34 (Go.Operand.tmp 164), type := 34, pos := "outright.go:102", after := #[{ on := 24, ground := Go.Ground.data }, { on := 19, ground := Go.Ground.guard }], guard := some (19, true) }) (v := ?v36) rfl (by kernel_rfl) (by kernel_rfl) (by kernel_rfl) (fun _ _ _ h => h) (Or.inl ⟨by rfl, ?hy36⟩) (by assumption) ?rest36
              case hy36 => (intro w hSw; obtain ⟨s0, s1, s2, s3, s4, s5, s6, s7, s8, s9, s10⟩ := hSw; go_simp; try with_reducible rfl)
              try simp only [Act.put, List.setIfInBounds_toArray, List.set_cons_zero, List.set_cons_succ]
              refine wpAnyH_take (i := 26) (oi := { dst := some 166, op := Go.Op.move (Go.Operand.tmp 2), type := 2, pos := "outright.go:102", after := #[{ on := 19, ground := Go.Ground.guard }], guard := some (19, true) }) (v := ?v37) rfl (by kernel_rfl) (by kernel_rfl) (by kernel_rfl) (fun _ _ _ h => h) (Or.inl ⟨by rfl, ?hy37⟩) (by assumption) ?rest37
              case hy37 => (intro w hSw; obtain ⟨s0, s1, s2, s3, s4, s5, s6, s7, s8, s9, s10⟩ := hSw; go_simp; try with_reducible rfl)
              try simp only [Act.put, List.setIfInBounds_toArray, List.set_cons_zero, List.set_cons_succ]
              refine wpAnyH_take (i := 28) (oi := { dst := some 168, op := Go.Op.move (Go.Operand.tmp 2), type := 2, pos := "outright.go:102", after := #[{ on := 19, ground := Go.Ground.guard }], guard := some (19, true) }) (v := ?v38) rfl (by kernel_rfl) (by kernel_rfl) (by kernel_rfl) (fun _ _ _ h => h) (Or.inl ⟨by rfl, ?hy38⟩) (by assumption) ?rest38
              case hy38 => (intro w hSw; obtain ⟨s0, s1, s2, s3, s4, s5, s6, s7, s8, s9, s10⟩ := hSw; go_simp; try with_reducible rfl)
              try simp only [Act.put, List.setIfInBounds_toArray, List.set_cons_zero, List.set_cons_succ]
              refine wpAnyH_take (i := 29) (oi := { dst := some 169, op := Go.Op.move (Go.Operand.tmp 15), type := 2, pos := "outright.go:102", after := #[{ on := 19, ground := Go.Ground.guard }], guard := some (19, true) }) (v := ?v39) rfl (by kernel_rfl) (by kernel_rfl) (by kernel_rfl) (fun _ _ _ h => h) (Or.inl ⟨by rfl, ?hy39⟩) (by assumption) ?rest39
              case hy39 => (intro w hSw; obtain ⟨s0, s1, s2, s3, s4, s5, s6, s7, s8, s9, s10⟩ := hSw; go_simp; try with_reducible rfl)
              try simp only [Act.put, List.setIfInBounds_toArray, List.set_cons_zero, List.set_cons_succ]
              refine wpAnyH_take (i := 30) (oi := { dst := some 170, op := Go.Op.binOp Go.BinOp.geq 2 (Go.Operand.tmp 168) (Go.Operand.tmp 169) 2, type := 4, pos := "outright.go:102", after := #[{ on := 28, ground := Go.Ground.data }, { on := 29, ground := Go.Ground.data }, { on := 19, ground := Go.Ground.guard }], guard := some (19, true) }) (v := ?v40) rfl (by kernel_rfl) (by kernel_rfl) (by kernel_rfl) (fun _ _ _ h => h) (Or.inl ⟨by rfl, ?hy40⟩) (by assumption) ?rest40
              case hy40 => (intro w hSw; obtain ⟨s0, s1, s2, s3, s4, s5, s6, s7, s8, s9, s10⟩ := hSw; go_simp; try with_reducible rfl)
              try simp only [Act.put, List.setIfInBounds_toArray, List.set_cons_zero, List.set_cons_succ]
              refine wpAnyH_ready (rs := [27]) (by kernel_rfl) (by simp) ?_
              refine AllReadyH.cons (o := { dst := some 167, op := Go.Op.call { callee := Go.Callee.value (Go.Operand.func 20), args := #[Go.Operand.tmp 161, Go.Operand.tmp 165, Go.Operand.tmp 166], argTypes := #[5, 34, 2] }, type := 4, pos := "outright.go:102", after := #[{ on := 21, ground := Go.Ground.data }, { on := 25, ground := Go.Ground.data }, { on := 26, ground := Go.Ground.data }, { on := 19, ground := Go.Ground.chain }, { on := 19, ground := Go.Ground.guard }], guard := some (19, true) }) rfl (fun K hK => ?_) AllReadyH.nil
              go_simp
              go_at_call 20
              refine (HCF.out _ g8).mono ?_
              rintro z V9 ⟨rfl, hb⟩
              have g9 := below_step g8 hb
              refine hK.out _ _ (HK29.out _ g9) (fun hHeld9 => ?_)
              clear hK K hb
              try simp only [Act.put, List.setIfInBounds_toArray, List.set_cons_zero, List.set_cons_succ]
              refine wpAnyH_take (i := 31) (oi := { dst := some 171, op := Go.Op.move (Go.Operand.tmp 170), type := 4, pos := "outright.go:102", after := #[{ on := 30, ground := Go.Ground.data }, { on := 27, ground := Go.Ground.chain }, { on := 19, ground := Go.Ground.guard }], guard := some (19, true) }) (v := ?v41) rfl (by kernel_rfl) (by kernel_rfl) (by kernel_rfl) (fun _ _ _ h => h) (Or.inl ⟨by rfl, ?hy41⟩) (by assumption) ?rest41
              case hy41 => (intro w hSw; obtain ⟨s0, s1, s2, s3, s4, s5, s6, s7, s8, s9, s10⟩ := hSw; go_simp; try with_reducible rfl)
              try simp only [Act.put, List.setIfInBounds_toArray, List.set_cons_zero, List.set_cons_succ]
              refine wpAnyH_take (i := 32) (oi := { dst := some 172, op := Go.Op.move (Go.Operand.tmp 2), type := 2, pos := "outright.go:102", after := #[{ on := 31, ground := Go.Ground.guard }], guard := some (31, true) }) (v := ?v42) rfl (by kernel_rfl) (by kernel_rfl) (by kernel_rfl) (fun _ _ _ h => h) (Or.inl ⟨by rfl, ?hy42⟩) (by assumption) ?rest42
              case hy42 => (intro w hSw; obtain ⟨s0, s1, s2, s3, s4, s5, s6, s7, s8, s9, s10⟩ := hSw; go_simp; try with_reducible rfl)
              try simp only [Act.put, List.setIfInBounds_toArray, List.set_cons_zero, List.set_cons_succ]
              refine wpAnyH_take (i := 33) (oi := { dst := some 173, op := Go.Op.move (Go.Operand.tmp 16), type := 2, pos := "outright.go:102", after := #[{ on := 31, ground := Go.Ground.guard }], guard := some (31, true) }) (v := ?v43) rfl (by kernel_rfl) (by kernel_rfl) (by kernel_rfl) (fun _ _ _ h => h) (Or.inl ⟨by rfl, ?hy43⟩) (by assumption) ?rest43
              case hy43 => (intro w hSw; obtain ⟨s0, s1, s2, s3, s4, s5, s6, s7, s8, s9, s10⟩ := hSw; go_simp; try with_reducible rfl)
              try simp only [Act.put, List.setIfInBounds_toArray, List.set_cons_zero, List.set_cons_succ]
              refine wpAnyH_take (i := 34) (oi := { dst := some 174, op := Go.Op.binOp Go.BinOp.leq 2 (Go.Operand.tmp 172) (Go.Operand.tmp 173) 2, type := 4, pos := "outright.go:102", after := #[{ on := 32, ground := Go.Ground.data }, { on := 33, ground := Go.Ground.data }, { on := 31, ground := Go.Ground.guard }], guard := some (31, true) }) (v := ?v44) rfl (by kernel_rfl) (by kernel_rfl) (by kernel_rfl) (fun _ _ _ h => h) (Or.inl ⟨by rfl, ?hy44⟩) (by assumption) ?rest44
              case hy44 => (intro w hSw; obtain ⟨s0, s1, s2, s3, s4, s5, s6, s7, s8, s9, s10⟩ := hSw; go_simp; try with_reducible rfl)
              try simp only [Act.put, List.setIfInBounds_toArray, List.set_cons_zero, List.set_cons_succ]
              refine wpAnyH_take (i := 35) (oi := { dst := some 175, op := Go.Op.pick (Go.Operand.tmp 171) (Go.Operand.tmp 174) (Go.Operand.const (Go.Value.bool false)), type := 4, pos := "outright.go:102", after := #[{ on := 31, ground := Go.Ground.data }, { on := 34, ground := Go.Ground.data }, { on := 19, ground := Go.Ground.guard }], guard := some (19, true) }) (v := ?v45) rfl (by kernel_rfl) (by kernel_rfl) (by kernel_rfl) (fun _ _ _ h => h) (Or.inl ⟨by rfl, ?hy45⟩) (by assumption) ?rest45
              case hy45 => (intro w hSw; obtain ⟨s0, s1, s2, s3, s4, s5, s6, s7, s8, s9, s10⟩ := hSw; go_simp; try with_reducible rfl)
              try simp only [Act.put, List.setIfInBounds_toArray, List.set_cons_zero, List.set_cons_succ]
              refine wpAnyH_take (i := 36) (oi := { dst := some 176, op := Go.Op.binOp Go.BinOp.eql 4 (Go.Operand.tmp 167) (Go.Operand.tmp 175) 4, type := 4, pos := "outright.go:102", after := #[{ on := 27, ground := Go.Ground.data }, { on := 35, ground := Go.Ground.data }, { on := 19, ground := Go.Ground.guard }], guard := some (19, true) }) (v := ?v46) rfl (by kernel_rfl) (by kernel_rfl) (by kernel_rfl) (fun _ _ _ h => h) (Or.inl ⟨by rfl, ?hy46⟩) (by assumption) ?rest46
              case hy46 => (intro w hSw; obtain ⟨s0, s1, s2, s3, s4, s5, s6, s7, s8, s9, s10⟩ := hSw; go_simp; try with_reducible rfl)
              try simp only [Act.put, List.setIfInBounds_toArray, List.set_cons_zero, List.set_cons_succ]
              refine wpAnyH_take (i := 37) (oi := { dst := some 177, op := Go.Op.pick (Go.Operand.tmp 159) (Go.Operand.tmp 176) (Go.Operand.const (Go.Value.bool false)), type := 4, pos := "outright.go:102", after := #[{ on := 19, ground := Go.Ground.data }, { on := 36, ground := Go.Ground.data }], guard := none }) (v := ?v47) rfl (by kernel_rfl) (by kernel_rfl) (by kernel_rfl) (fun _ _ _ h => h) (Or.inl ⟨by rfl, ?hy47⟩) (by assumption) ?rest47
              case hy47 => (intro w hSw; obtain ⟨s0, s1, s2, s3, s4, s5, s6, s7, s8, s9, s10⟩ := hSw; go_simp; try with_reducible rfl)
              try simp only [Act.put, List.setIfInBounds_toArray, List.set_cons_zero, List.set_cons_succ]
              refine wpAnyH_take (i := 38) (oi := { dst := some 6, op := Go.Op.assign (Go.Operand.tmp 177), type := 4, pos := "outright.go:102", after := #[{ on := 37, ground := Go.Ground.data }, { on := 31, ground := Go.Ground.chain }, { on := 0, ground := Go.Ground.phase }, { on := 1, ground := Go.Ground.phase }, { on := 2, ground := Go.Ground.phase }, { on := 3, ground := Go.Ground.phase }, { on := 4, ground := Go.Ground.phase }, { on := 5, ground := Go.Ground.phase }, { on := 6, ground := Go.Ground.phase }, { on := 7, ground := Go.Ground.phase }, { on := 8, ground := Go.Ground.phase }, { on := 9, ground := Go.Ground.phase }, { on := 10, ground := Go.Ground.phase }, { on := 11, ground := Go.Ground.phase }, { on := 12, ground := Go.Ground.phase }, { on := 13, ground := Go.Ground.phase }, { on := 14, ground := Go.Ground.phase }, { on := 15, ground := Go.Ground.phase }, { on := 16, ground := Go.Ground.phase }, { on := 17, ground := Go.Ground.phase }, { on := 18, ground := Go.Ground.phase }, { on := 19, ground := Go.Ground.phase }, { on := 20, ground := Go.Ground.phase }, { on := 21, ground := Go.Ground.phase }, { on := 22, ground := Go.Ground.phase }, { on := 23, ground := Go.Ground.phase }, { on := 24, ground := Go.Ground.phase }, { on := 25, ground := Go.Ground.phase }, { on := 26, ground := Go.Ground.phase }, { on := 27, ground := Go.Ground.phase }, { on := 28, ground := Go.Ground.phase }, { on := 29, ground := Go.Ground.phase }, { on := 30, ground := Go.Ground.phase }, { on := 31, ground := Go.Ground.phase }, { on := 32, ground := Go.Ground.phase }, { on := 33, ground := Go.Ground.phase }, { on := 34, ground := Go.Ground.phase }, { on := 35, ground := Go.Ground.phase }, { on := 36, ground := Go.Ground.phase }, { on := 37, ground := Go.Ground.phase }], guard := none }) (v := ?v48) rfl (by kernel_rfl) (by kernel_rfl) (by kernel_rfl) (fun _ _ _ h => h) (Or.inl ⟨by rfl, ?hy48⟩) (by assumption) ?rest48
              case hy48 => (intro w hSw; obtain ⟨s0, s1, s2, s3, s4, s5, s6, s7, s8, s9, s10⟩ := hSw; go_simp; try with_reducible rfl)
              try simp only [Act.put, List.setIfInBounds_toArray, List.set_cons_zero, List.set_cons_succ]
              refine wpAnyH_done (by kernel_rfl) ?_ _
              have HG := Lib.hid (below_step HB.out g9)
              go_wp2_with fail
              go_ret
              exact ⟨by simp <;> omega, HG.out⟩
            · have hf : f = false := by rw [HFF.out]; simp [h1, h2]
              have h2' : hi < n := by omega
              clear HFF h2
              subst hf
              refine wp_region_held_drew (S := (fun w' => Below Y8.heap.size Y8 w' ∧ w'.cell? ⟨w.heap.size, 0, none⟩ = some (.int .u8 e0.v) ∧ w'.cell? ⟨b9, 0, none⟩ = some (.int .u8 e0.v) ∧ w'.cell? ⟨b9, 1, none⟩ = some (.int .u8 e0.k) ∧ w'.cell? ⟨b9, 2, none⟩ = some (.slice (some ⟨g, 0, none⟩) e0.ns.length cv) ∧ w'.cell? ⟨b9, 3, none⟩ = some (.slice Bv e0.ts.length dv) ∧ w'.cell? ⟨b10, 0, none⟩ = some (.int .u8 e0.v) ∧ w'.cell? ⟨b10, 1, none⟩ = some (.int .u8 e0.k) ∧ w'.cell? ⟨b10, 2, none⟩ = some (.slice A2 (e0.ns.length - 1) c2) ∧ w'.cell? ⟨b10, 3, none⟩ = some (.slice Bu e0.ts.length du) ∧ w'.cell? ⟨bl, ol + k, none⟩ = some (.int .u8 c))) (by kernel_rfl) (HK29.out _ g5) (fun hHeld => ?_)
              refine wpAnyH_take (i := 0) (oi := { dst := some 140, op := Go.Op.load 44 (Go.Operand.tmp 10), type := 44, pos := "outright.go:102", after := #[], guard := none }) (v := ?v49) rfl (by kernel_rfl) (by kernel_rfl) (by kernel_rfl) (fun _ _ _ h => h) (Or.inl ⟨by rfl, ?hy49⟩) (by assumption) ?rest49
              case hy49 => (intro w hSw; obtain ⟨s0, s1, s2, s3, s4, s5, s6, s7, s8, s9, s10⟩ := hSw; go_simp; try with_reducible rfl)
              try simp only [Act.put, List.setIfInBounds_toArray, List.set_cons_zero, List.set_cons_succ]
              refine wpAnyH_take (i := 2) (oi := { dst := some 142, op := Go.Op.fieldAddr 44 (Go.Operand.tmp 3) 0, type := 0, pos := "outright.go:102", after := #[], guard := none }) (v := ?v50) rfl (by kernel_rfl) (by kernel_rfl) (by kernel_rfl) (fun _ _ _ h => h) (Or.inl ⟨by rfl, ?hy50⟩) (by assumption) ?rest50
              case hy50 => (intro w hSw; obtain ⟨s0, s1, s2, s3, s4, s5, s6, s7, s8, s9, s10⟩ := hSw; go_simp; try with_reducible rfl)
              try simp only [Act.put, List.setIfInBounds_toArray, List.set_cons_zero, List.set_cons_succ]
              refine wpAnyH_take (i := 3) (oi := { dst := some 143, op := Go.Op.load 5 (Go.Operand.tmp 142), type := 5, pos := "outright.go:102", after := #[{ on := 2, ground := Go.Ground.data }], guard := none }) (v := ?v51) rfl (by kernel_rfl) (by kernel_rfl) (by kernel_rfl) (fun _ _ _ h => h) (Or.inl ⟨by rfl, ?hy51⟩) (by assumption) ?rest51
              case hy51 => (intro w hSw; obtain ⟨s0, s1, s2, s3, s4, s5, s6, s7, s8, s9, s10⟩ := hSw; go_simp; try with_reducible rfl)
              try simp only [Act.put, List.setIfInBounds_toArray, List.set_cons_zero, List.set_cons_succ]
              refine wpAnyH_take (i := 4) (oi := { dst := some 144, op := Go.Op.move (Go.Operand.tmp 7), type := 27, pos := "outright.go:102", after := #[], guard := none }) (v := ?v52) rfl (by kernel_rfl) (by kernel_rfl) (by kernel_rfl) (fun _ _ _ h => h) (Or.inl ⟨by rfl, ?hy52⟩) (by assumption) ?rest52
              case hy52 => (intro w hSw; obtain ⟨s0, s1, s2, s3, s4, s5, s6, s7, s8, s9, s10⟩ := hSw; go_simp; try with_reducible rfl)
              try simp only [Act.put, List.setIfInBounds_toArray, List.set_cons_zero, List.set_cons_succ]
              refine wpAnyH_take (i := 5) (oi := { dst := some 145, op := Go.Op.move (Go.Operand.tmp 14), type := 3, pos := "outright.go:102", after := #[], guard := none }) (v := ?v53) rfl (by kernel_rfl) (by kernel_rfl) (by kernel_rfl) (fun _ _ _ h => h) (Or.inl ⟨by rfl, ?hy53⟩) (by assumption) ?rest53
              case hy53 => (intro w hSw; obtain ⟨s0, s1, s2, s3, s4, s5, s6, s7, s8, s9, s10⟩ := hSw; go_simp; try with_reducible rfl)
              try simp only [Act.put, List.setIfInBounds_toArray, List.set_cons_zero, List.set_cons_succ]
              refine wpAnyH_take (i := 6) (oi := { dst := some 146, op := Go.Op.indexAddr 27 (Go.Operand.tmp 144) (Go.Operand.tmp 145), type := 0, pos := "outright.go:102", after := #[{ on := 4, ground := Go.Ground.data }, { on := 5, ground := Go.Ground.data }], guard := none }) (v := ?v54) rfl (by kernel_rfl) (by kernel_rfl) (by kernel_rfl) (fun _ _ _ h => h) (Or.inl ⟨by rfl, ?hy54⟩) (by assumption) ?rest54
              case hy54 => (intro w hSw; obtain ⟨s0, s1, s2, s3, s4, s5, s6, s7, s8, s9, s10⟩ := hSw; go_simp; try with_reducible rfl)
              try simp only [Act.put, List.setIfInBounds_toArray, List.set_cons_zero, List.set_cons_succ]
              refine wpAnyH_take (i := 7) (oi := { dst := some 147, op := Go.Op.load 34 (Go.Operand.tmp 146), type := 34, pos := "outright.go:102", after := #[{ on := 6, ground := Go.Ground.data }], guard := none }) (v := ?v55) rfl (by kernel_rfl) (by kernel_rfl) (by kernel_rfl) (fun _ _ _ h => h) (Or.inl ⟨by rfl, ?hy55⟩) (by assumption) ?rest55
              case hy55 => (intro w hSw; obtain ⟨s0, s1, s2, s3, s4, s5, s6, s7, s8, s9, s10⟩ := hSw; go_simp; try with_reducible rfl)
              try simp only [Act.put, List.setIfInBounds_toArray, List.set_cons_zero, List.set_cons_succ]
              refine wpAnyH_take (i := 8) (oi := { dst := some 148, op := Go.Op.move (Go.Operand.tmp 2), type := 2, pos := "outright.go:102", after := #[], guard := none }) (v := ?v56) rfl (by kernel_rfl) (by kernel_rfl) (by kernel_rfl) (fun _ _ _ h => h) (Or.inl ⟨by rfl, ?hy56⟩) (by assumption) ?rest56
              case hy56 => (intro w hSw; obtain ⟨s0, s1, s2, s3, s4, s5, s6, s7, s8, s9, s10⟩ := hSw; go_simp; try with_reducible rfl)
              try simp only [Act.put, List.setIfInBounds_toArray, List.set_cons_zero, List.set_cons_succ]
              refine wpAnyH_ready (rs := [1]) (by kernel_rfl) (by simp) ?_
              refine AllReadyH.cons (o := { dst := some 141, op := Go.Op.call { callee := Go.Callee.value (Go.Operand.func 25), args := #[Go.Operand.tmp 140], argTypes := #[44] }, type := 4, pos := "outright.go:102", after := #[{ on := 0, ground := Go.Ground.data }], guard := none }) rfl (fun K hK => ?_) AllReadyH.nil
              go_simp
              go_at_call 25
              refine (HCX.out _ g5).mono ?_
              rintro z V6 ⟨rfl, hb⟩
              have g6 := below_step g5 hb
              refine hK.out _ _ (HK29.out _ g6) (fun hHeld6 => ?_)
              clear hK K hb
              try simp only [Act.put, List.setIfInBounds_toArray, List.set_cons_zero, List.set_cons_succ]
              refine wpAnyH_ready (rs := [9]) (by kernel_rfl) (by simp) ?_
              refine AllReadyH.cons (o := { dst := some 149, op := Go.Op.call { callee := Go.Callee.value (Go.Operand.func 20), args := #[Go.Operand.tmp 143, Go.Operand.tmp 147, Go.Operand.tmp 148], argTypes := #[5, 34, 2] }, type := 4, pos := "outright.go:102", after := #[{ on := 3, ground := Go.Ground.data }, { on := 7, ground := Go.Ground.data }, { on := 8, ground := Go.Ground.data }, { on := 1, ground := Go.Ground.chain }], guard := none }) rfl (fun K hK => ?_) AllReadyH.nil
              go_simp
              go_at_call 20
              refine (HCF.out _ g6).mono ?_
              rintro z V7 ⟨rfl, hb⟩
              have g7 := below_step g6 hb
              refine hK.out _ _ (HK29.out _ g7) (fun hHeld7 => ?_)
              clear hK K hb
              try simp only [Act.put, List.setIfInBounds_toArray, List.set_cons_zero, List.set_cons_succ]
              refine wpAnyH_take (i := 10) (oi := { dst := some 150, op := Go.Op.binOp Go.BinOp.eql 4 (Go.Operand.tmp 141) (Go.Operand.tmp 149) 4, type := 4, pos := "outright.go:102", after := #[{ on := 1, ground := Go.Ground.data }, { on := 9, ground := Go.Ground.data }], guard := none }) (v := ?v57) rfl (by kernel_rfl) (by kernel_rfl) (by kernel_rfl) (fun _ _ _ h => h) (Or.inl ⟨by rfl, ?hy57⟩) (by assumption) ?rest57
              case hy57 => (intro w hSw; obtain ⟨s0, s1, s2, s3, s4, s5, s6, s7, s8, s9, s10⟩ := hSw; go_simp; try with_reducible rfl)
              try simp only [Act.put, List.setIfInBounds_toArray, List.set_cons_zero, List.set_cons_succ]
              refine wpAnyH_take (i := 11) (oi := { dst := some 151, op := Go.Op.move (Go.Operand.tmp 150), type := 4, pos := "outright.go:102", after := #[{ on := 10, ground := Go.Ground.data }, { on := 9, ground := Go.Ground.chain }], guard := none }) (v := ?v58) rfl (by kernel_rfl) (by kernel_rfl) (by kernel_rfl) (fun _ _ _ h => h) (Or.inl ⟨by rfl, ?hy58⟩) (by assumption) ?rest58
              case hy58 => (intro w hSw; obtain ⟨s0, s1, s2, s3, s4, s5, s6, s7, s8, s9, s10⟩ := hSw; go_simp; try with_reducible rfl)
              try simp only [Act.put, List.setIfInBounds_toArray, List.set_cons_zero, List.set_cons_succ]
              refine wpAnyH_take (i := 12) (oi := { dst := some 152, op := Go.Op.load 44 (Go.Operand.tmp 11), type := 44, pos := "outright.go:102", after := #[{ on := 11, ground := Go.Ground.guard }], guard := some (11, true) }) (v := ?v59) rfl (by kernel_rfl) (by kernel_rfl) (by kernel_rfl) (fun _ _ _ h => h) (Or.inl ⟨by rfl, ?hy59⟩) (by assumption) ?rest59
              case hy59 => (intro w hSw; obtain ⟨s0, s1, s2, s3, s4, s5, s6, s7, s8, s9, s10⟩ := hSw; go_simp; try with_reducible rfl)
              try simp only [Act.put, List.setIfInBounds_toArray, List.set_cons_zero, List.set_cons_succ]
              refine wpAnyH_ready (rs := [13]) (by kernel_rfl) (by simp) ?_
              refine AllReadyH.cons (o := { dst := some 153, op := Go.Op.call { callee := Go.Callee.value (Go.Operand.func 25), args := #[Go.Operand.tmp 152], argTypes := #[44] }, type := 4, pos := "outright.go:102", after := #[{ on := 12, ground := Go.Ground.data }, { on := 11, ground := Go.Ground.chain }, { on := 11, ground := Go.Ground.guard }], guard := some (11, true) }) rfl (fun K hK => ?_) AllReadyH.nil
              go_simp
              go_at_call 25
              refine (HCY.out _ g7).mono ?_
              rintro z V8 ⟨rfl, hb⟩
              have g8 := below_step g7 hb
              refine hK.out _ _ (HK29.out _ g8) (fun hHeld8 => ?_)
              clear hK K hb
              try simp only [Act.put, List.setIfInBounds_toArray, List.set_cons_zero, List.set_cons_succ]
              refine wpAnyH_take (i := 14) (oi := { dst := some 154, op := Go.Op.unOp Go.UnOp.not 4 (Go.Operand.tmp 153), type := 4, pos := "outright.go:102", after := #[{ on := 13, ground := Go.Ground.data }, { on := 11, ground := Go.Ground.guard }], guard := some (11, true) }) (v := ?v60) rfl (by kernel_rfl) (by kernel_rfl) (by kernel_rfl) (fun _ _ _ h => h) (Or.inl ⟨by rfl, ?hy60⟩) (by assumption) ?rest60
              case hy60 => (intro w hSw; obtain ⟨s0, s1, s2, s3, s4, s5, s6, s7, s8, s9, s10⟩ := hSw; go_simp; try with_reducible rfl)
              try simp only [Act.put, List.setIfInBounds_toArray, List.set_cons_zero, List.set_cons_succ]
              refine wpAnyH_take (i := 15) (oi := { dst := some 155, op := Go.Op.pick (Go.Operand.tmp 151) (Go.Operand.tmp 154) (Go.Operand.const (Go.Value.bool false)), type := 4, pos := "outright.go:102", after := #[{ on := 11, ground := Go.Ground.data }, { on := 14, ground := Go.Ground.data }], guard := none }) (v := ?v61) rfl (by kernel_rfl) (by kernel_rfl) (by kernel_rfl) (fun _ _ _ h => h) (Or.inl ⟨by rfl, ?hy61⟩) (by assumption) ?rest61
              case hy61 => (intro w hSw; obtain ⟨s0, s1, s2, s3, s4, s5, s6, s7, s8, s9, s10⟩ := hSw; go_simp; try with_reducible rfl)
              try simp only [Act.put, List.setIfInBounds_toArray, List.set_cons_zero, List.set_cons_succ]
              refine wpAnyH_take (i := 16) (oi := { dst := some 156, op := Go.Op.move (Go.Operand.tmp 155), type := 4, pos := "outright.go:102", after := #[{ on := 15, ground := Go.Ground.data }, { on := 13, ground := Go.Ground.chain }], guard := none }) (v := ?v62) rfl (by kernel_rfl) (by kernel_rfl) (by kernel_rfl) (fun _ _ _ h => h) (Or.inl ⟨by rfl, ?hy62⟩) (by assumption) ?rest62
              case hy62 => (intro w hSw; obtain ⟨s0, s1, s2, s3, s4, s5, s6, s7, s8, s9, s10⟩ := hSw; go_simp; try with_reducible rfl)
              try simp only [Act.put, List.setIfInBounds_toArray, List.set_cons_zero, List.set_cons_succ]
              refine wpAnyH_take (i := 17) (oi := { dst := some 157, op := Go.Op.move (Go.Operand.tmp 17), type := 4, pos := "outright.go:102", after := #[{ on := 16, ground := Go.Ground.guard }], guard := some (16, true) }) (v := ?v63) rfl (by kernel_rfl) (by kernel_rfl) (by kernel_rfl) (fun _ _ _ h => h) (Or.inl ⟨by rfl, ?hy63⟩) (by assumption) ?rest63
              case hy63 => (intro w hSw; obtain ⟨s0, s1, s2, s3, s4, s5, s6, s7, s8, s9, s10⟩ := hSw; go_simp; try with_reducible rfl)
              try simp only [Act.put, List.setIfInBounds_toArray, List.set_cons_zero, List.set_cons_succ]
              refine wpAnyH_take (i := 18) (oi := { dst := some 158, op := Go.Op.pick (Go.Operand.tmp 156) (Go.Operand.tmp 157) (Go.Operand.const (Go.Value.bool false)), type := 4, pos := "outright.go:102", after := #[{ on := 16, ground := Go.Ground.data }, { on := 17, ground := Go.Ground.data }], guard := none }) (v := ?v64) rfl (by kernel_rfl) (by kernel_rfl) (by kernel_rfl) (fun _ _ _ h => h) (Or.inl ⟨by rfl, ?hy64⟩) (by assumption) ?rest64
              case hy64 => (intro w hSw; obtain ⟨s0, s1, s2, s3, s4, s5, s6, s7, s8, s9, s10⟩ := hSw; go_simp; try with_reducible rfl)
              try simp only [Act.put, List.setIfInBounds_toArray, List.set_cons_zero, List.set_cons_succ]
              refine wpAnyH_take (i := 19) (oi := { dst := some 159, op := Go.Op.move (Go.Operand.tmp 158), type := 4, pos := "outright.go:102", after := #[{ on := 18, ground := Go.Ground.data }, { on := 16, ground := Go.Ground.chain }], guard := none }) (v := ?v65) rfl (by kernel_rfl) (by kernel_rfl) (by kernel_rfl) (fun _ _ _ h => h) (Or.inl ⟨by rfl, ?hy65⟩) (by assumption) ?rest65
              case hy65 => (intro w hSw; obtain ⟨s0, s1, s2, s3, s4, s5, s6, s7, s8, s9, s10⟩ := hSw; go_simp; try with_reducible rfl)
              try simp only [Act.put, List.setIfInBounds_toArray, List.set_cons_zero, List.set_cons_succ]
              refine wpAnyH_take (i := 20) (oi := { dst := some 160, op := Go.Op.fieldAddr 44 (Go.Operand.tmp 3) 0, type := 0, pos := "outright.go:102", after := #[{ on := 19, ground := Go.Ground.guard }], guard := some (19, true) }) (v := ?v66) rfl (by kernel_rfl) (by kernel_rfl) (by kernel_rfl) (fun _ _ _ h => h) (Or.inl ⟨by rfl, ?hy66⟩) (by assumption) ?rest66
              case hy66 => (intro w hSw; obtain ⟨s0, s1, s2, s3, s4, s5, s6, s7, s8, s9, s10⟩ := hSw; go_simp; try with_reducible rfl)
              try simp only [Act.put, List.setIfInBounds_toArray, List.set_cons_zero, List.set_cons_succ]
              refine wpAnyH_take (i := 21) (oi := { dst := some 161, op := Go.Op.load 5 (Go.Operand.tmp 160), type := 5, pos := "outright.go:102", after := #[{ on := 20, ground := Go.Ground.data }, { on := 19, ground := Go.Ground.guard }], guard := some (19, true) }) (v := ?v67) rfl (by kernel_rfl) (by kernel_rfl) (by kernel_rfl) (fun _ _ _ h => h) (Or.inl ⟨by rfl, ?hy67⟩) (by assumption) ?rest67
              case hy67 => (intro w hSw; obtain ⟨s0, s1, s2, s3, s4, s5, s6, s7, s8, s9, s10⟩ := hSw; go_simp; try with_reducible rfl)
              try simp only [Act.put, List.setIfInBounds_toArray, List.set_cons_zero, List.set_cons_succ]
              refine wpAnyH_take (i := 22) (oi := { dst := some 162, op := Go.Op.move (Go.Operand.tmp 7), type := 27, pos := "outright.go:102", after := #[{ on := 19, ground := Go.Ground.guard }], guard := some (19, true) }) (v := ?v68) rfl (by kernel_rfl) (by kernel_rfl) (by kernel_rfl) (fun _ _ _ h => h) (Or.inl ⟨by rfl, ?hy68⟩) (by assumption) ?rest68
              case hy68 => (intro w hSw; obtain ⟨s0, s1, s2, s3, s4, s5, s6, s7, s8, s9, s10⟩ := hSw; go_simp; try with_reducible rfl)
              try simp only [Act.put, List.setIfInBounds_toArray, List.set_cons_zero, List.set_cons_succ]
              refine wpAnyH_take (i := 23) (oi := { dst := some 163, op := Go.Op.move (Go.Operand.tmp 14), type := 3, pos := "outright.go:102", after := #[{ on := 19, ground := Go.Ground.guard }], guard := some (19, true) }) (v := ?v69) rfl (by kernel_rfl) (by kernel_rfl) (by kernel_rfl) (fun _ _ _ h => h) (Or.inl ⟨by rfl, ?hy69⟩) (by assumption) ?rest69
              case hy69 => (intro w hSw; obtain ⟨s0, s1, s2, s3, s4, s5, s6, s7, s8, s9, s10⟩ := hSw; go_simp; try with_reducible rfl)
              try simp only [Act.put, List.setIfInBounds_toArray, List.set_cons_zero, List.set_cons_succ]
              refine wpAnyH_take (i := 24) (oi := { dst := some 164, op := Go.Op.indexAddr 27 (Go.Operand.tmp 162) (Go.Operand.tmp 163), type := 0, pos := "outright.go:102", after := #[{ on := 22, ground := Go.Ground.data }, { on := 23, ground := Go.Ground.data }, { on := 19, ground := Go.Ground.guard }], guard := some (19, true) }) (v := ?v70) rfl (by kernel_rfl) (by kernel_rfl) (by kernel_rfl) (fun _ _ _ h => h) (Or.inl ⟨by rfl, ?hy70⟩) (by assumption) ?rest70
              case hy70 => (intro w hSw; obtain ⟨s0, s1, s2, s3, s4, s5, s6, s7, s8, s9, s10⟩ := hSw; go_simp; try with_reducible rfl)
              try simp only [Act.put, List.setIfInBounds_toArray, List.set_cons_zero, List.set_cons_succ]
              refine wpAnyH_take (i := 25) (oi := { dst := some 165, op := Go.Op.load 34 (Go.Operand.tmp 164), type := 34, pos := "outright.go:102", after := #[{ on := 24, ground := Go.Ground.data }, { on := 19, ground := Go.Ground.guard }], guard := some (19, true) }) (v := ?v71) rfl (by kernel_rfl) (by kernel_rfl) (by kernel_rfl) (fun _ _ _ h => h) (Or.inl ⟨by rfl, ?hy71⟩) (by assumption) ?rest71
              case hy71 => (intro w hSw; obtain ⟨s0, s1, s2, s3, s4, s5, s6, s7, s8, s9, s10⟩ := hSw; go_simp; try with_reducible rfl)
              try simp only [Act.put, List.setIfInBounds_toArray, List.set_cons_zero, List.set_cons_succ]
              refine wpAnyH_take (i := 26) (oi := { dst := some 166, op := Go.Op.move (Go.Operand.tmp 2), type := 2, pos := "outright.go:102", after := #[{ on := 19, ground := Go.Ground.guard }], guard := some (19, true) }) (v := ?v72) rfl (by kernel_rfl) (by kernel_rfl) (by kernel_rfl) (fun _ _ _ h => h) (Or.inl ⟨by rfl, ?hy72⟩) (by assumption) ?rest72
              case hy72 => (intro w hSw; obtain ⟨s0, s1, s2, s3, s4, s5, s6, s7, s8, s9, s10⟩ := hSw; go_simp; try with_reducible rfl)
              try simp only [Act.put, List.setIfInBounds_toArray, List.set_cons_zero, List.set_cons_succ]
              refine wpAnyH_take (i := 28) (oi := { dst := some 168, op := Go.Op.move (Go.Operand.tmp 2), type := 2, pos := "outright.go:102", after := #[{ on := 19, ground := Go.Ground.guard }], guard := some (19, true) }) (v := ?v73) rfl (by kernel_rfl) (by kernel_rfl) (by kernel_rfl) (fun _ _ _ h => h) (Or.inl ⟨by rfl, ?hy73⟩) (by assumption) ?rest73
              case hy73 => (intro w hSw; obtain ⟨s0, s1, s2, s3, s4, s5, s6, s7, s8, s9, s10⟩ := hSw; go_simp; try with_reducible rfl)
              try simp only [Act.put, List.setIfInBounds_toArray, List.set_cons_zero, List.set_cons_succ]
              refine wpAnyH_take (i := 29) (oi := { dst := some 169, op := Go.Op.move (Go.Operand.tmp 15), type := 2, pos := "outright.go:102", after := #[{ on := 19, ground := Go.Ground.guard }], guard := some (19, true) }) (v := ?v74) rfl (by kernel_rfl) (by kernel_rfl) (by kernel_rfl) (fun _ _ _ h => h) (Or.inl ⟨by rfl, ?hy74⟩) (by assumption) ?rest74
              case hy74 => (intro w hSw; obtain ⟨s0, s1, s2, s3, s4, s5, s6, s7, s8, s9, s10⟩ := hSw; go_simp; try with_reducible rfl)
              try simp only [Act.put, List.setIfInBounds_toArray, List.set_cons_zero, List.set_cons_succ]
              refine wpAnyH_take (i := 30) (oi := { dst := some 170, op := Go.Op.binOp Go.BinOp.geq 2 (Go.Operand.tmp 168) (Go.Operand.tmp 169) 2, type := 4, pos := "outright.go:102", after := #[{ on := 28, ground := Go.Ground.data }, { on := 29, ground := Go.Ground.data }, { on := 19, ground := Go.Ground.guard }], guard := some (19, true) }) (v := ?v75) rfl (by kernel_rfl) (by kernel_rfl) (by kernel_rfl) (fun _ _ _ h => h) (Or.inl ⟨by rfl, ?hy75⟩) (by assumption) ?rest75
              case hy75 => (intro w hSw; obtain ⟨s0, s1, s2, s3, s4, s5, s6, s7, s8, s9, s10⟩ := hSw; go_simp; try with_reducible rfl)
              try simp only [Act.put, List.setIfInBounds_toArray, List.set_cons_zero, List.set_cons_succ]
              refine wpAnyH_ready (rs := [27]) (by kernel_rfl) (by simp) ?_
              refine AllReadyH.cons (o := { dst := some 167, op := Go.Op.call { callee := Go.Callee.value (Go.Operand.func 20), args := #[Go.Operand.tmp 161, Go.Operand.tmp 165, Go.Operand.tmp 166], argTypes := #[5, 34, 2] }, type := 4, pos := "outright.go:102", after := #[{ on := 21, ground := Go.Ground.data }, { on := 25, ground := Go.Ground.data }, { on := 26, ground := Go.Ground.data }, { on := 19, ground := Go.Ground.chain }, { on := 19, ground := Go.Ground.guard }], guard := some (19, true) }) rfl (fun K hK => ?_) AllReadyH.nil
              go_simp
              go_at_call 20
              refine (HCF.out _ g8).mono ?_
              rintro z V9 ⟨rfl, hb⟩
              have g9 := below_step g8 hb
              refine hK.out _ _ (HK29.out _ g9) (fun hHeld9 => ?_)
              clear hK K hb
              try simp only [Act.put, List.setIfInBounds_toArray, List.set_cons_zero, List.set_cons_succ]
              refine wpAnyH_take (i := 31) (oi := { dst := some 171, op := Go.Op.move (Go.Operand.tmp 170), type := 4, pos := "outright.go:102", after := #[{ on := 30, ground := Go.Ground.data }, { on := 27, ground := Go.Ground.chain }, { on := 19, ground := Go.Ground.guard }], guard := some (19, true) }) (v := ?v76) rfl (by kernel_rfl) (by kernel_rfl) (by kernel_rfl) (fun _ _ _ h => h) (Or.inl ⟨by rfl, ?hy76⟩) (by assumption) ?rest76
              case hy76 => (intro w hSw; obtain ⟨s0, s1, s2, s3, s4, s5, s6, s7, s8, s9, s10⟩ := hSw; go_simp; try with_reducible rfl)
              try simp only [Act.put, List.setIfInBounds_toArray, List.set_cons_zero, List.set_cons_succ]
              refine wpAnyH_take (i := 32) (oi := { dst := some 172, op := Go.Op.move (Go.Operand.tmp 2), type := 2, pos := "outright.go:102", after := #[{ on := 31, ground := Go.Ground.guard }], guard := some (31, true) }) (v := ?v77) rfl (by kernel_rfl) (by kernel_rfl) (by kernel_rfl) (fun _ _ _ h => h) (Or.inl ⟨by rfl, ?hy77⟩) (by assumption) ?rest77
              case hy77 => (intro w hSw; obtain ⟨s0, s1, s2, s3, s4, s5, s6, s7, s8, s9, s10⟩ := hSw; go_simp; try with_reducible rfl)
              try simp only [Act.put, List.setIfInBounds_toArray, List.set_cons_zero, List.set_cons_succ]
              refine wpAnyH_take (i := 33) (oi := { dst := some 173, op := Go.Op.move (Go.Operand.tmp 16), type := 2, pos := "outright.go:102", after := #[{ on := 31, ground := Go.Ground.guard }], guard := some (31, true) }) (v := ?v78) rfl (by kernel_rfl) (by kernel_rfl) (by kernel_rfl) (fun _ _ _ h => h) (Or.inl ⟨by rfl, ?hy78⟩) (by assumption) ?rest78
              case hy78 => (intro w hSw; obtain ⟨s0, s1, s2, s3, s4, s5, s6, s7, s8, s9, s10⟩ := hSw; go_simp; try with_reducible rfl)
              try simp only [Act.put, List.setIfInBounds_toArray, List.set_cons_zero, List.set_cons_succ]
              refine wpAnyH_take (i := 34) (oi := { dst := some 174, op := Go.Op.binOp Go.BinOp.leq 2 (Go.Operand.tmp 172) (Go.Operand.tmp 173) 2, type := 4, pos := "outright.go:102", after := #[{ on := 32, ground := Go.Ground.data }, { on := 33, ground := Go.Ground.data }, { on := 31, ground := Go.Ground.guard }], guard := some (31, true) }) (v := ?v79) rfl (by kernel_rfl) (by kernel_rfl) (by kernel_rfl) (fun _ _ _ h => h) (Or.inl ⟨by rfl, ?hy79⟩) (by assumption) ?rest79
              case hy79 => (intro w hSw; obtain ⟨s0, s1, s2, s3, s4, s5, s6, s7, s8, s9, s10⟩ := hSw; go_simp; try with_reducible rfl)
              try simp only [Act.put, List.setIfInBounds_toArray, List.set_cons_zero, List.set_cons_succ]
              refine wpAnyH_take (i := 35) (oi := { dst := some 175, op := Go.Op.pick (Go.Operand.tmp 171) (Go.Operand.tmp 174) (Go.Operand.const (Go.Value.bool false)), type := 4, pos := "outright.go:102", after := #[{ on := 31, ground := Go.Ground.data }, { on := 34, ground := Go.Ground.data }, { on := 19, ground := Go.Ground.guard }], guard := some (19, true) }) (v := ?v80) rfl (by kernel_rfl) (by kernel_rfl) (by kernel_rfl) (fun _ _ _ h => h) (Or.inl ⟨by rfl, ?hy80⟩) (by assumption) ?rest80
              case hy80 => (intro w hSw; obtain ⟨s0, s1, s2, s3, s4, s5, s6, s7, s8, s9, s10⟩ := hSw; go_simp; try with_reducible rfl)
              try simp only [Act.put, List.setIfInBounds_toArray, List.set_cons_zero, List.set_cons_succ]
              refine wpAnyH_take (i := 36) (oi := { dst := some 176, op := Go.Op.binOp Go.BinOp.eql 4 (Go.Operand.tmp 167) (Go.Operand.tmp 175) 4, type := 4, pos := "outright.go:102", after := #[{ on := 27, ground := Go.Ground.data }, { on := 35, ground := Go.Ground.data }, { on := 19, ground := Go.Ground.guard }], guard := some (19, true) }) (v := ?v81) rfl (by kernel_rfl) (by kernel_rfl) (by kernel_rfl) (fun _ _ _ h => h) (Or.inl ⟨by rfl, ?hy81⟩) (by assumption) ?rest81
              case hy81 => (intro w hSw; obtain ⟨s0, s1, s2, s3, s4, s5, s6, s7, s8, s9, s10⟩ := hSw; go_simp; try with_reducible rfl)
              try simp only [Act.put, List.setIfInBounds_toArray, List.set_cons_zero, List.set_cons_succ]
              refine wpAnyH_take (i := 37) (oi := { dst := some 177, op := Go.Op.pick (Go.Operand.tmp 159) (Go.Operand.tmp 176) (Go.Operand.const (Go.Value.bool false)), type := 4, pos := "outright.go:102", after := #[{ on := 19, ground := Go.Ground.data }, { on := 36, ground := Go.Ground.data }], guard := none }) (v := ?v82) rfl (by kernel_rfl) (by kernel_rfl) (by kernel_rfl) (fun _ _ _ h => h) (Or.inl ⟨by rfl, ?hy82⟩) (by assumption) ?rest82
              case hy82 => (intro w hSw; obtain ⟨s0, s1, s2, s3, s4, s5, s6, s7, s8, s9, s10⟩ := hSw; go_simp; try with_reducible rfl)
              try simp only [Act.put, List.setIfInBounds_toArray, List.set_cons_zero, List.set_cons_succ]
              refine wpAnyH_take (i := 38) (oi := { dst := some 6, op := Go.Op.assign (Go.Operand.tmp 177), type := 4, pos := "outright.go:102", after := #[{ on := 37, ground := Go.Ground.data }, { on := 31, ground := Go.Ground.chain }, { on := 0, ground := Go.Ground.phase }, { on := 1, ground := Go.Ground.phase }, { on := 2, ground := Go.Ground.phase }, { on := 3, ground := Go.Ground.phase }, { on := 4, ground := Go.Ground.phase }, { on := 5, ground := Go.Ground.phase }, { on := 6, ground := Go.Ground.phase }, { on := 7, ground := Go.Ground.phase }, { on := 8, ground := Go.Ground.phase }, { on := 9, ground := Go.Ground.phase }, { on := 10, ground := Go.Ground.phase }, { on := 11, ground := Go.Ground.phase }, { on := 12, ground := Go.Ground.phase }, { on := 13, ground := Go.Ground.phase }, { on := 14, ground := Go.Ground.phase }, { on := 15, ground := Go.Ground.phase }, { on := 16, ground := Go.Ground.phase }, { on := 17, ground := Go.Ground.phase }, { on := 18, ground := Go.Ground.phase }, { on := 19, ground := Go.Ground.phase }, { on := 20, ground := Go.Ground.phase }, { on := 21, ground := Go.Ground.phase }, { on := 22, ground := Go.Ground.phase }, { on := 23, ground := Go.Ground.phase }, { on := 24, ground := Go.Ground.phase }, { on := 25, ground := Go.Ground.phase }, { on := 26, ground := Go.Ground.phase }, { on := 27, ground := Go.Ground.phase }, { on := 28, ground := Go.Ground.phase }, { on := 29, ground := Go.Ground.phase }, { on := 30, ground := Go.Ground.phase }, { on := 31, ground := Go.Ground.phase }, { on := 32, ground := Go.Ground.phase }, { on := 33, ground := Go.Ground.phase }, { on := 34, ground := Go.Ground.phase }, { on := 35, ground := Go.Ground.phase }, { on := 36, ground := Go.Ground.phase }, { on := 37, ground := Go.Ground.phase }], guard := none }) (v := ?v83) rfl (by kernel_rfl) (by kernel_rfl) (by kernel_rfl) (fun _ _ _ h => h) (Or.inl ⟨by rfl, ?hy83⟩) (by assumption) ?rest83
              case hy83 => (intro w hSw; obtain ⟨s0, s1, s2, s3, s4, s5, s6, s7, s8, s9, s10⟩ := hSw; go_simp; try with_reducible rfl)
              try simp only [Act.put, List.setIfInBounds_toArray, List.set_cons_zero, List.set_cons_succ]
              refine wpAnyH_done (by kernel_rfl) ?_ _
              have HG := Lib.hid (below_step HB.out g9)
              go_wp2_with fail
              go_ret
              exact ⟨by simp <;> omega, HG.out⟩
          · have hf : f = false := by rw [HFF.out]; simp [h1]
            have h1' : n < lo := by omega
            have hd1 : decide (lo ≤ n) = false := decide_eq_false h1
            clear HFF
            subst hf
            refine wp_region_held_drew (S := (fun w' => Below Y8.heap.size Y8 w' ∧ w'.cell? ⟨w.heap.size, 0, none⟩ = some (.int .u8 e0.v) ∧ w'.cell? ⟨b9, 0, none⟩ = some (.int .u8 e0.v) ∧ w'.cell? ⟨b9, 1, none⟩ = some (.int .u8 e0.k) ∧ w'.cell? ⟨b9, 2, none⟩ = some (.slice (some ⟨g, 0, none⟩) e0.ns.length cv) ∧ w'.cell? ⟨b9, 3, none⟩ = some (.slice Bv e0.ts.length dv) ∧ w'.cell? ⟨b10, 0, none⟩ = some (.int .u8 e0.v) ∧ w'.cell? ⟨b10, 1, none⟩ = some (.int .u8 e0.k) ∧ w'.cell? ⟨b10, 2, none⟩ = some (.slice A2 (e0.ns.length - 1) c2) ∧ w'.cell? ⟨b10, 3, none⟩ = some (.slice Bu e0.ts.length du) ∧ w'.cell? ⟨bl, ol + k, none⟩ = some (.int .u8 c))) (by kernel_rfl) (HK29.out _ g5) (fun hHeld => ?_)
            refine wpAnyH_take (i := 0) (oi := { dst := some 140, op := Go.Op.load 44 (Go.Operand.tmp 10), type := 44, pos := "outright.go:102", after := #[], guard := none }) (v := ?v84) rfl (by kernel_rfl) (by kernel_rfl) (by kernel_rfl) (fun _ _ _ h => h) (Or.inl ⟨by rfl, ?hy84⟩) (by assumption) ?rest84
            case hy84 => (intro w hSw; obtain ⟨s0, s1, s2, s3, s4, s5, s6, s7, s8, s9, s10⟩ := hSw; go_simp; try with_reducible rfl)
            try simp only [Act.put, List.setIfInBounds_toArray, List.set_cons_zero, List.set_cons_succ]
            refine wpAnyH_take (i := 2) (oi := { dst := some 142, op := Go.Op.fieldAddr 44 (Go.Operand.tmp 3) 0, type := 0, pos := "outright.go:102", after := #[], guard := none }) (v := ?v85) rfl (by kernel_rfl) (by kernel_rfl) (by kernel_rfl) (fun _ _ _ h => h) (Or.inl ⟨by rfl, ?hy85⟩) (by assumption) ?rest85
            case hy85 => (intro w hSw; obtain ⟨s0, s1, s2, s3, s4, s5, s6, s7, s8, s9, s10⟩ := hSw; go_simp; try with_reducible rfl)
            try simp only [Act.put, List.setIfInBounds_toArray, List.set_cons_zero, List.set_cons_succ]
            refine wpAnyH_take (i := 3) (oi := { dst := some 143, op := Go.Op.load 5 (Go.Operand.tmp 142), type := 5, pos := "outright.go:102", after := #[{ on := 2, ground := Go.Ground.data }], guard := none }) (v := ?v86) rfl (by kernel_rfl) (by kernel_rfl) (by kernel_rfl) (fun _ _ _ h => h) (Or.inl ⟨by rfl, ?hy86⟩) (by assumption) ?rest86
            case hy86 => (intro w hSw; obtain ⟨s0, s1, s2, s3, s4, s5, s6, s7, s8, s9, s10⟩ := hSw; go_simp; try with_reducible rfl)
            try simp only [Act.put, List.setIfInBounds_toArray, List.set_cons_zero, List.set_cons_succ]
            refine wpAnyH_take (i := 4) (oi := { dst := some 144, op := Go.Op.move (Go.Operand.tmp 7), type := 27, pos := "outright.go:102", after := #[], guard := none }) (v := ?v87) rfl (by kernel_rfl) (by kernel_rfl) (by kernel_rfl) (fun _ _ _ h => h) (Or.inl ⟨by rfl, ?hy87⟩) (by assumption) ?rest87
            case hy87 => (intro w hSw; obtain ⟨s0, s1, s2, s3, s4, s5, s6, s7, s8, s9, s10⟩ := hSw; go_simp; try with_reducible rfl)
            try simp only [Act.put, List.setIfInBounds_toArray, List.set_cons_zero, List.set_cons_succ]
            refine wpAnyH_take (i := 5) (oi := { dst := some 145, op := Go.Op.move (Go.Operand.tmp 14), type := 3, pos := "outright.go:102", after := #[], guard := none }) (v := ?v88) rfl (by kernel_rfl) (by kernel_rfl) (by kernel_rfl) (fun _ _ _ h => h) (Or.inl ⟨by rfl, ?hy88⟩) (by assumption) ?rest88
            case hy88 => (intro w hSw; obtain ⟨s0, s1, s2, s3, s4, s5, s6, s7, s8, s9, s10⟩ := hSw; go_simp; try with_reducible rfl)
            try simp only [Act.put, List.setIfInBounds_toArray, List.set_cons_zero, List.set_cons_succ]
            refine wpAnyH_take (i := 6) (oi := { dst := some 146, op := Go.Op.indexAddr 27 (Go.Operand.tmp 144) (Go.Operand.tmp 145), type := 0, pos := "outright.go:102", after := #[{ on := 4, ground := Go.Ground.data }, { on := 5, ground := Go.Ground.data }], guard := none }) (v := ?v89) rfl (by kernel_rfl) (by kernel_rfl) (by kernel_rfl) (fun _ _ _ h => h) (Or.inl ⟨by rfl, ?hy89⟩) (by assumption) ?rest89
            case hy89 => (intro w hSw; obtain ⟨s0, s1, s2, s3, s4, s5, s6, s7, s8, s9, s10⟩ := hSw; go_simp; try with_reducible rfl)
            try simp only [Act.put, List.setIfInBounds_toArray, List.set_cons_zero, List.set_cons_succ]
            refine wpAnyH_take (i := 7) (oi := { dst := some 147, op := Go.Op.load 34 (Go.Operand.tmp 146), type := 34, pos := "outright.go:102", after := #[{ on := 6, ground := Go.Ground.data }], guard := none }) (v := ?v90) rfl (by kernel_rfl) (by kernel_rfl) (by kernel_rfl) (fun _ _ _ h => h) (Or.inl ⟨by rfl, ?hy90⟩) (by assumption) ?rest90
            case hy90 => (intro w hSw; obtain ⟨s0, s1, s2, s3, s4, s5, s6, s7, s8, s9, s10⟩ := hSw; go_simp; try with_reducible rfl)
            try simp only [Act.put, List.setIfInBounds_toArray, List.set_cons_zero, List.set_cons_succ]
            refine wpAnyH_take (i := 8) (oi := { dst := some 148, op := Go.Op.move (Go.Operand.tmp 2), type := 2, pos := "outright.go:102", after := #[], guard := none }) (v := ?v91) rfl (by kernel_rfl) (by kernel_rfl) (by kernel_rfl) (fun _ _ _ h => h) (Or.inl ⟨by rfl, ?hy91⟩) (by assumption) ?rest91
            case hy91 => (intro w hSw; obtain ⟨s0, s1, s2, s3, s4, s5, s6, s7, s8, s9, s10⟩ := hSw; go_simp; try with_reducible rfl)
            try simp only [Act.put, List.setIfInBounds_toArray, List.set_cons_zero, List.set_cons_succ]
            refine wpAnyH_ready (rs := [1]) (by kernel_rfl) (by simp) ?_
            refine AllReadyH.cons (o := { dst := some 141, op := Go.Op.call { callee := Go.Callee.value (Go.Operand.func 25), args := #[Go.Operand.tmp 140], argTypes := #[44] }, type := 4, pos := "outright.go:102", after := #[{ on := 0, ground := Go.Ground.data }], guard := none }) rfl (fun K hK => ?_) AllReadyH.nil
            go_simp
            go_at_call 25
            refine (HCX.out _ g5).mono ?_
            rintro z V6 ⟨rfl, hb⟩
            have g6 := below_step g5 hb
            refine hK.out _ _ (HK29.out _ g6) (fun hHeld6 => ?_)
            clear hK K hb
            try simp only [Act.put, List.setIfInBounds_toArray, List.set_cons_zero, List.set_cons_succ]
            refine wpAnyH_ready (rs := [9]) (by kernel_rfl) (by simp) ?_
            refine AllReadyH.cons (o := { dst := some 149, op := Go.Op.call { callee := Go.Callee.value (Go.Operand.func 20), args := #[Go.Operand.tmp 143, Go.Operand.tmp 147, Go.Operand.tmp 148], argTypes := #[5, 34, 2] }, type := 4, pos := "outright.go:102", after := #[{ on := 3, ground := Go.Ground.data }, { on := 7, ground := Go.Ground.data }, { on := 8, ground := Go.Ground.data }, { on := 1, ground := Go.Ground.chain }], guard := none }) rfl (fun K hK => ?_) AllReadyH.nil
            go_simp
            go_at_call 20
            refine (HCF.out _ g6).mono ?_
            rintro z V7 ⟨rfl, hb⟩
            have g7 := below_step g6 hb
            refine hK.out _ _ (HK29.out _ g7) (fun hHeld7 => ?_)
            clear hK K hb
            try simp only [Act.put, List.setIfInBounds_toArray, List.set_cons_zero, List.set_cons_succ]
            refine wpAnyH_take (i := 10) (oi := { dst := some 150, op := Go.Op.binOp Go.BinOp.eql 4 (Go.Operand.tmp 141) (Go.Operand.tmp 149) 4, type := 4, pos := "outright.go:102", after := #[{ on := 1, ground := Go.Ground.data }, { on := 9, ground := Go.Ground.data }], guard := none }) (v := ?v92) rfl (by kernel_rfl) (by kernel_rfl) (by kernel_rfl) (fun _ _ _ h => h) (Or.inl ⟨by rfl, ?hy92⟩) (by assumption) ?rest92
            case hy92 => (intro w hSw; obtain ⟨s0, s1, s2, s3, s4, s5, s6, s7, s8, s9, s10⟩ := hSw; go_simp; try with_reducible rfl)
            try simp only [Act.put, List.setIfInBounds_toArray, List.set_cons_zero, List.set_cons_succ]
            refine wpAnyH_take (i := 11) (oi := { dst := some 151, op := Go.Op.move (Go.Operand.tmp 150), type := 4, pos := "outright.go:102", after := #[{ on := 10, ground := Go.Ground.data }, { on := 9, ground := Go.Ground.chain }], guard := none }) (v := ?v93) rfl (by kernel_rfl) (by kernel_rfl) (by kernel_rfl) (fun _ _ _ h => h) (Or.inl ⟨by rfl, ?hy93⟩) (by assumption) ?rest93
            case hy93 => (intro w hSw; obtain ⟨s0, s1, s2, s3, s4, s5, s6, s7, s8, s9, s10⟩ := hSw; go_simp; try with_reducible rfl)
            try simp only [Act.put, List.setIfInBounds_toArray, List.set_cons_zero, List.set_cons_succ]
            refine wpAnyH_take (i := 12) (oi := { dst := some 152, op := Go.Op.load 44 (Go.Operand.tmp 11), type := 44, pos := "outright.go:102", after := #[{ on := 11, ground := Go.Ground.guard }], guard := some (11, true) }) (v := ?v94) rfl (by kernel_rfl) (by kernel_rfl) (by kernel_rfl) (fun _ _ _ h => h) (Or.inl ⟨by rfl, ?hy94⟩) (by assumption) ?rest94
            case hy94 => (intro w hSw; obtain ⟨s0, s1, s2, s3, s4, s5, s6, s7, s8, s9, s10⟩ := hSw; go_simp; try with_reducible rfl)
            try simp only [Act.put, List.setIfInBounds_toArray, List.set_cons_zero, List.set_cons_succ]
            refine wpAnyH_ready (rs := [13]) (by kernel_rfl) (by simp) ?_
            refine AllReadyH.cons (o := { dst := some 153, op := Go.Op.call { callee := Go.Callee.value (Go.Operand.func 25), args := #[Go.Operand.tmp 152], argTypes := #[44] }, type := 4, pos := "outright.go:102", after := #[{ on := 12, ground := Go.Ground.data }, { on := 11, ground := Go.Ground.chain }, { on := 11, ground := Go.Ground.guard }], guard := some (11, true) }) rfl (fun K hK => ?_) AllReadyH.nil
            go_simp
            go_at_call 25
            refine (HCY.out _ g7).mono ?_
            rintro z V8 ⟨rfl, hb⟩
            have g8 := below_step g7 hb
            refine hK.out _ _ (HK29.out _ g8) (fun hHeld8 => ?_)
            clear hK K hb
            try simp only [Act.put, List.setIfInBounds_toArray, List.set_cons_zero, List.set_cons_succ]
            refine wpAnyH_take (i := 14) (oi := { dst := some 154, op := Go.Op.unOp Go.UnOp.not 4 (Go.Operand.tmp 153), type := 4, pos := "outright.go:102", after := #[{ on := 13, ground := Go.Ground.data }, { on := 11, ground := Go.Ground.guard }], guard := some (11, true) }) (v := ?v95) rfl (by kernel_rfl) (by kernel_rfl) (by kernel_rfl) (fun _ _ _ h => h) (Or.inl ⟨by rfl, ?hy95⟩) (by assumption) ?rest95
            case hy95 => (intro w hSw; obtain ⟨s0, s1, s2, s3, s4, s5, s6, s7, s8, s9, s10⟩ := hSw; go_simp; try with_reducible rfl)
            try simp only [Act.put, List.setIfInBounds_toArray, List.set_cons_zero, List.set_cons_succ]
            refine wpAnyH_take (i := 15) (oi := { dst := some 155, op := Go.Op.pick (Go.Operand.tmp 151) (Go.Operand.tmp 154) (Go.Operand.const (Go.Value.bool false)), type := 4, pos := "outright.go:102", after := #[{ on := 11, ground := Go.Ground.data }, { on := 14, ground := Go.Ground.data }], guard := none }) (v := ?v96) rfl (by kernel_rfl) (by kernel_rfl) (by kernel_rfl) (fun _ _ _ h => h) (Or.inl ⟨by rfl, ?hy96⟩) (by assumption) ?rest96
            case hy96 => (intro w hSw; obtain ⟨s0, s1, s2, s3, s4, s5, s6, s7, s8, s9, s10⟩ := hSw; go_simp; try with_reducible rfl)
            try simp only [Act.put, List.setIfInBounds_toArray, List.set_cons_zero, List.set_cons_succ]
            refine wpAnyH_take (i := 16) (oi := { dst := some 156, op := Go.Op.move (Go.Operand.tmp 155), type := 4, pos := "outright.go:102", after := #[{ on := 15, ground := Go.Ground.data }, { on := 13, ground := Go.Ground.chain }], guard := none }) (v := ?v97) rfl (by kernel_rfl) (by kernel_rfl) (by kernel_rfl) (fun _ _ _ h => h) (Or.inl ⟨by rfl, ?hy97⟩) (by assumption) ?rest97
            case hy97 => (intro w hSw; obtain ⟨s0, s1, s2, s3, s4, s5, s6, s7, s8, s9, s10⟩ := hSw; go_simp; try with_reducible rfl)
            try simp only [Act.put, List.setIfInBounds_toArray, List.set_cons_zero, List.set_cons_succ]
            refine wpAnyH_take (i := 17) (oi := { dst := some 157, op := Go.Op.move (Go.Operand.tmp 17), type := 4, pos := "outright.go:102", after := #[{ on := 16, ground := Go.Ground.guard }], guard := some (16, true) }) (v := ?v98) rfl (by kernel_rfl) (by kernel_rfl) (by kernel_rfl) (fun _ _ _ h => h) (Or.inl ⟨by rfl, ?hy98⟩) (by assumption) ?rest98
            case hy98 => (intro w hSw; obtain ⟨s0, s1, s2, s3, s4, s5, s6, s7, s8, s9, s10⟩ := hSw; go_simp; try with_reducible rfl)
            try simp only [Act.put, List.setIfInBounds_toArray, List.set_cons_zero, List.set_cons_succ]
            refine wpAnyH_take (i := 18) (oi := { dst := some 158, op := Go.Op.pick (Go.Operand.tmp 156) (Go.Operand.tmp 157) (Go.Operand.const (Go.Value.bool false)), type := 4, pos := "outright.go:102", after := #[{ on := 16, ground := Go.Ground.data }, { on := 17, ground := Go.Ground.data }], guard := none }) (v := ?v99) rfl (by kernel_rfl) (by kernel_rfl) (by kernel_rfl) (fun _ _ _ h => h) (Or.inl ⟨by rfl, ?hy99⟩) (by assumption) ?rest99
            case hy99 => (intro w hSw; obtain ⟨s0, s1, s2, s3, s4, s5, s6, s7, s8, s9, s10⟩ := hSw; go_simp; try with_reducible rfl)
            try simp only [Act.put, List.setIfInBounds_toArray, List.set_cons_zero, List.set_cons_succ]
            refine wpAnyH_take (i := 19) (oi := { dst := some 159, op := Go.Op.move (Go.Operand.tmp 158), type := 4, pos := "outright.go:102", after := #[{ on := 18, ground := Go.Ground.data }, { on := 16, ground := Go.Ground.chain }], guard := none }) (v := ?v100) rfl (by kernel_rfl) (by kernel_rfl) (by kernel_rfl) (fun _ _ _ h => h) (Or.inl ⟨by rfl, ?hy100⟩) (by assumption) ?rest100
            case hy100 => (intro w hSw; obtain ⟨s0, s1, s2, s3, s4, s5, s6, s7, s8, s9, s10⟩ := hSw; go_simp; try with_reducible rfl)
            try simp only [Act.put, List.setIfInBounds_toArray, List.set_cons_zero, List.set_cons_succ]
            refine wpAnyH_take (i := 20) (oi := { dst := some 160, op := Go.Op.fieldAddr 44 (Go.Operand.tmp 3) 0, type := 0, pos := "outright.go:102", after := #[{ on := 19, ground := Go.Ground.guard }], guard := some (19, true) }) (v := ?v101) rfl (by kernel_rfl) (by kernel_rfl) (by kernel_rfl) (fun _ _ _ h => h) (Or.inl ⟨by rfl, ?hy101⟩) (by assumption) ?rest101
            case hy101 => (intro w hSw; obtain ⟨s0, s1, s2, s3, s4, s5, s6, s7, s8, s9, s10⟩ := hSw; go_simp; try with_reducible rfl)
            try simp only [Act.put, List.setIfInBounds_toArray, List.set_cons_zero, List.set_cons_succ]
            refine wpAnyH_take (i := 21) (oi := { dst := some 161, op := Go.Op.load 5 (Go.Operand.tmp 160), type := 5, pos := "outright.go:102", after := #[{ on := 20, ground := Go.Ground.data }, { on := 19, ground := Go.Ground.guard }], guard := some (19, true) }) (v := ?v102) rfl (by kernel_rfl) (by kernel_rfl) (by kernel_rfl) (fun _ _ _ h => h) (Or.inl ⟨by rfl, ?hy102⟩) (by assumption) ?rest102
            case hy102 => (intro w hSw; obtain ⟨s0, s1, s2, s3, s4, s5, s6, s7, s8, s9, s10⟩ := hSw; go_simp; try with_reducible rfl)
            try simp only [Act.put, List.setIfInBounds_toArray, List.set_cons_zero, List.set_cons_succ]
            refine wpAnyH_take (i := 22) (oi := { dst := some 162, op := Go.Op.move (Go.Operand.tmp 7), type := 27, pos := "outright.go:102", after := #[{ on := 19, ground := Go.Ground.guard }], guard := some (19, true) }) (v := ?v103) rfl (by kernel_rfl) (by kernel_rfl) (by kernel_rfl) (fun _ _ _ h => h) (Or.inl ⟨by rfl, ?hy103⟩) (by assumption) ?rest103
            case hy103 => (intro w hSw; obtain ⟨s0, s1, s2, s3, s4, s5, s6, s7, s8, s9, s10⟩ := hSw; go_simp; try with_reducible rfl)
            try simp only [Act.put, List.setIfInBounds_toArray, List.set_cons_zero, List.set_cons_succ]
            refine wpAnyH_take (i := 23) (oi := { dst := some 163, op := Go.Op.move (Go.Operand.tmp 14), type := 3, pos := "outright.go:102", after := #[{ on := 19, ground := Go.Ground.guard }], guard := some (19, true) }) (v := ?v104) rfl (by kernel_rfl) (by kernel_rfl) (by kernel_rfl) (fun _ _ _ h => h) (Or.inl ⟨by rfl, ?hy104⟩) (by assumption) ?rest104
            case hy104 => (intro w hSw; obtain ⟨s0, s1, s2, s3, s4, s5, s6, s7, s8, s9, s10⟩ := hSw; go_simp; try with_reducible rfl)
            try simp only [Act.put, List.setIfInBounds_toArray, List.set_cons_zero, List.set_cons_succ]
            refine wpAnyH_take (i := 24) (oi := { dst := some 164, op := Go.Op.indexAddr 27 (Go.Operand.tmp 162) (Go.Operand.tmp 163), type := 0, pos := "outright.go:102", after := #[{ on := 22, ground := Go.Ground.data }, { on := 23, ground := Go.Ground.data }, { on := 19, ground := Go.Ground.guard }], guard := some (19, true) }) (v := ?v105) rfl (by kernel_rfl) (by kernel_rfl) (by kernel_rfl) (fun _ _ _ h => h) (Or.inl ⟨by rfl, ?hy105⟩) (by assumption) ?rest105
            case hy105 => (intro w hSw; obtain ⟨s0, s1, s2, s3, s4, s5, s6, s7, s8, s9, s10⟩ := hSw; go_simp; try with_reducible rfl)
            try simp only [Act.put, List.setIfInBounds_toArray, List.set_cons_zero, List.set_cons_succ]
            refine wpAnyH_take (i := 25) (oi := { dst := some 165, op := Go.Op.load 34 (Go.Operand.tmp 164), type := 34, pos := "outright.go:102", after := #[{ on := 24, ground := Go.Ground.data }, { on := 19, ground := Go.Ground.guard }], guard := some (19, true) }) (v := ?v106) rfl (by kernel_rfl) (by kernel_rfl) (by kernel_rfl) (fun _ _ _ h => h) (Or.inl ⟨by rfl, ?hy106⟩) (by assumption) ?rest106
            case hy106 => (intro w hSw; obtain ⟨s0, s1, s2, s3, s4, s5, s6, s7, s8, s9, s10⟩ := hSw; go_simp; try with_reducible rfl)
            try simp only [Act.put, List.setIfInBounds_toArray, List.set_cons_zero, List.set_cons_succ]
            refine wpAnyH_take (i := 26) (oi := { dst := some 166, op := Go.Op.move (Go.Operand.tmp 2), type := 2, pos := "outright.go:102", after := #[{ on := 19, ground := Go.Ground.guard }], guard := some (19, true) }) (v := ?v107) rfl (by kernel_rfl) (by kernel_rfl) (by kernel_rfl) (fun _ _ _ h => h) (Or.inl ⟨by rfl, ?hy107⟩) (by assumption) ?rest107
            case hy107 => (intro w hSw; obtain ⟨s0, s1, s2, s3, s4, s5, s6, s7, s8, s9, s10⟩ := hSw; go_simp; try with_reducible rfl)
            try simp only [Act.put, List.setIfInBounds_toArray, List.set_cons_zero, List.set_cons_succ]
            refine wpAnyH_take (i := 28) (oi := { dst := some 168, op := Go.Op.move (Go.Operand.tmp 2), type := 2, pos := "outright.go:102", after := #[{ on := 19, ground := Go.Ground.guard }], guard := some (19, true) }) (v := ?v108) rfl (by kernel_rfl) (by kernel_rfl) (by kernel_rfl) (fun _ _ _ h => h) (Or.inl ⟨by rfl, ?hy108⟩) (by assumption) ?rest108
            case hy108 => (intro w hSw; obtain ⟨s0, s1, s2, s3, s4, s5, s6, s7, s8, s9, s10⟩ := hSw; go_simp; try with_reducible rfl)
            try simp only [Act.put, List.setIfInBounds_toArray, List.set_cons_zero, List.set_cons_succ]
            refine wpAnyH_take (i := 29) (oi := { dst := some 169, op := Go.Op.move (Go.Operand.tmp 15), type := 2, pos := "outright.go:102", after := #[{ on := 19, ground := Go.Ground.guard }], guard := some (19, true) }) (v := ?v109) rfl (by kernel_rfl) (by kernel_rfl) (by kernel_rfl) (fun _ _ _ h => h) (Or.inl ⟨by rfl, ?hy109⟩) (by assumption) ?rest109
            case hy109 => (intro w hSw; obtain ⟨s0, s1, s2, s3, s4, s5, s6, s7, s8, s9, s10⟩ := hSw; go_simp; try with_reducible rfl)
            try simp only [Act.put, List.setIfInBounds_toArray, List.set_cons_zero, List.set_cons_succ]
            refine wpAnyH_take (i := 30) (oi := { dst := some 170, op := Go.Op.binOp Go.BinOp.geq 2 (Go.Operand.tmp 168) (Go.Operand.tmp 169) 2, type := 4, pos := "outright.go:102", after := #[{ on := 28, ground := Go.Ground.data }, { on := 29, ground := Go.Ground.data }, { on := 19, ground := Go.Ground.guard }], guard := some (19, true) }) (v := ?v110) rfl (by kernel_rfl) (by kernel_rfl) (by kernel_rfl) (fun _ _ _ h => h) (Or.inl ⟨by rfl, ?hy110⟩) (by assumption) ?rest110
            case hy110 => (intro w hSw; obtain ⟨s0, s1, s2, s3, s4, s5, s6, s7, s8, s9, s10⟩ := hSw; go_simp; try with_reducible rfl)
            try simp only [Act.put, List.setIfInBounds_toArray, List.set_cons_zero, List.set_cons_succ]
            refine wpAnyH_ready (rs := [27]) (by kernel_rfl) (by simp) ?_
            refine AllReadyH.cons (o := { dst := some 167, op := Go.Op.call { callee := Go.Callee.value (Go.Operand.func 20), args := #[Go.Operand.tmp 161, Go.Operand.tmp 165, Go.Operand.tmp 166], argTypes := #[5, 34, 2] }, type := 4, pos := "outright.go:102", after := #[{ on := 21, ground := Go.Ground.data }, { on := 25, ground := Go.Ground.data }, { on := 26, ground := Go.Ground.data }, { on := 19, ground := Go.Ground.chain }, { on := 19, ground := Go.Ground.guard }], guard := some (19, true) }) rfl (fun K hK => ?_) AllReadyH.nil
            go_simp
            go_at_call 20
            refine (HCF.out _ g8).mono ?_
            rintro z V9 ⟨rfl, hb⟩
            have g9 := below_step g8 hb
            refine hK.out _ _ (HK29.out _ g9) (fun hHeld9 => ?_)
            clear hK K hb
            try simp only [Act.put, List.setIfInBounds_toArray, List.set_cons_zero, List.set_cons_succ]
            refine wpAnyH_take (i := 31) (oi := { dst := some 171, op := Go.Op.move (Go.Operand.tmp 170), type := 4, pos := "outright.go:102", after := #[{ on := 30, ground := Go.Ground.data }, { on := 27, ground := Go.Ground.chain }, { on := 19, ground := Go.Ground.guard }], guard := some (19, true) }) (v := ?v111) rfl (by kernel_rfl) (by kernel_rfl) (by kernel_rfl) (fun _ _ _ h => h) (Or.inl ⟨by rfl, ?hy111⟩) (by assumption) ?rest111
            case hy111 => (intro w hSw; obtain ⟨s0, s1, s2, s3, s4, s5, s6, s7, s8, s9, s10⟩ := hSw; go_simp; try with_reducible rfl)
            try simp only [Act.put, List.setIfInBounds_toArray, List.set_cons_zero, List.set_cons_succ]
            refine wpAnyH_take (i := 32) (oi := { dst := some 172, op := Go.Op.move (Go.Operand.tmp 2), type := 2, pos := "outright.go:102", after := #[{ on := 31, ground := Go.Ground.guard }], guard := some (31, true) }) (v := undef) rfl (by kernel_rfl) (by kernel_rfl) (by kernel_rfl) (fun _ _ _ h => h) (Or.inr ⟨by rfl, rfl⟩) (by assumption) ?_
            try simp only [Act.put, List.setIfInBounds_toArray, List.set_cons_zero, List.set_cons_succ]
            refine wpAnyH_take (i := 33) (oi := { dst := some 173, op := Go.Op.move (Go.Operand.tmp 16), type := 2, pos := "outright.go:102", after := #[{ on := 31, ground := Go.Ground.guard }], guard := some (31, true) }) (v := undef) rfl (by kernel_rfl) (by kernel_rfl) (by kernel_rfl) (fun _ _ _ h => h) (Or.inr ⟨by rfl, rfl⟩) (by assumption) ?_
            try simp only [Act.put, List.setIfInBounds_toArray, List.set_cons_zero, List.set_cons_succ]
            refine wpAnyH_take (i := 34) (oi := { dst := some 174, op := Go.Op.binOp Go.BinOp.leq 2 (Go.Operand.tmp 172) (Go.Operand.tmp 173) 2, type := 4, pos := "outright.go:102", after := #[{ on := 32, ground := Go.Ground.data }, { on := 33, ground := Go.Ground.data }, { on := 31, ground := Go.Ground.guard }], guard := some (31, true) }) (v := undef) rfl (by kernel_rfl) (by kernel_rfl) (by kernel_rfl) (fun _ _ _ h => h) (Or.inr ⟨by rfl, rfl⟩) (by assumption) ?_
            try simp only [Act.put, List.setIfInBounds_toArray, List.set_cons_zero, List.set_cons_succ]
            refine wpAnyH_take (i := 35) (oi := { dst := some 175, op := Go.Op.pick (Go.Operand.tmp 171) (Go.Operand.tmp 174) (Go.Operand.const (Go.Value.bool false)), type := 4, pos := "outright.go:102", after := #[{ on := 31, ground := Go.Ground.data }, { on := 34, ground := Go.Ground.data }, { on := 19, ground := Go.Ground.guard }], guard := some (19, true) }) (v := ?v115) rfl (by kernel_rfl) (by kernel_rfl) (by kernel_rfl) (fun _ _ _ h => h) (Or.inl ⟨by rfl, ?hy115⟩) (by assumption) ?rest115
            case hy115 => (intro w hSw; obtain ⟨s0, s1, s2, s3, s4, s5, s6, s7, s8, s9, s10⟩ := hSw; go_simp; try with_reducible rfl)
            try simp only [Act.put, List.setIfInBounds_toArray, List.set_cons_zero, List.set_cons_succ]
            refine wpAnyH_take (i := 36) (oi := { dst := some 176, op := Go.Op.binOp Go.BinOp.eql 4 (Go.Operand.tmp 167) (Go.Operand.tmp 175) 4, type := 4, pos := "outright.go:102", after := #[{ on := 27, ground := Go.Ground.data }, { on := 35, ground := Go.Ground.data }, { on := 19, ground := Go.Ground.guard }], guard := some (19, true) }) (v := ?v116) rfl (by kernel_rfl) (by kernel_rfl) (by kernel_rfl) (fun _ _ _ h => h) (Or.inl ⟨by rfl, ?hy116⟩) (by assumption) ?rest116
            case hy116 => (intro w hSw; obtain ⟨s0, s1, s2, s3, s4, s5, s6, s7, s8, s9, s10⟩ := hSw; go_simp; try with_reducible rfl)
            try simp only [Act.put, List.setIfInBounds_toArray, List.set_cons_zero, List.set_cons_succ]
            refine wpAnyH_take (i := 37) (oi := { dst := some 177, op := Go.Op.pick (Go.Operand.tmp 159) (Go.Operand.tmp 176) (Go.Operand.const (Go.Value.bool false)), type := 4, pos := "outright.go:102", after := #[{ on := 19, ground := Go.Ground.data }, { on := 36, ground := Go.Ground.data }], guard := none }) (v := ?v117) rfl (by kernel_rfl) (by kernel_rfl) (by kernel_rfl) (fun _ _ _ h => h) (Or.inl ⟨by rfl, ?hy117⟩) (by assumption) ?rest117
            case hy117 => (intro w hSw; obtain ⟨s0, s1, s2, s3, s4, s5, s6, s7, s8, s9, s10⟩ := hSw; go_simp; try with_reducible rfl)
            try simp only [Act.put, List.setIfInBounds_toArray, List.set_cons_zero, List.set_cons_succ]
            refine wpAnyH_take (i := 38) (oi := { dst := some 6, op := Go.Op.assign (Go.Operand.tmp 177), type := 4, pos := "outright.go:102", after := #[{ on := 37, ground := Go.Ground.data }, { on := 31, ground := Go.Ground.chain }, { on := 0, ground := Go.Ground.phase }, { on := 1, ground := Go.Ground.phase }, { on := 2, ground := Go.Ground.phase }, { on := 3, ground := Go.Ground.phase }, { on := 4, ground := Go.Ground.phase }, { on := 5, ground := Go.Ground.phase }, { on := 6, ground := Go.Ground.phase }, { on := 7, ground := Go.Ground.phase }, { on := 8, ground := Go.Ground.phase }, { on := 9, ground := Go.Ground.phase }, { on := 10, ground := Go.Ground.phase }, { on := 11, ground := Go.Ground.phase }, { on := 12, ground := Go.Ground.phase }, { on := 13, ground := Go.Ground.phase }, { on := 14, ground := Go.Ground.phase }, { on := 15, ground := Go.Ground.phase }, { on := 16, ground := Go.Ground.phase }, { on := 17, ground := Go.Ground.phase }, { on := 18, ground := Go.Ground.phase }, { on := 19, ground := Go.Ground.phase }, { on := 20, ground := Go.Ground.phase }, { on := 21, ground := Go.Ground.phase }, { on := 22, ground := Go.Ground.phase }, { on := 23, ground := Go.Ground.phase }, { on := 24, ground := Go.Ground.phase }, { on := 25, ground := Go.Ground.phase }, { on := 26, ground := Go.Ground.phase }, { on := 27, ground := Go.Ground.phase }, { on := 28, ground := Go.Ground.phase }, { on := 29, ground := Go.Ground.phase }, { on := 30, ground := Go.Ground.phase }, { on := 31, ground := Go.Ground.phase }, { on := 32, ground := Go.Ground.phase }, { on := 33, ground := Go.Ground.phase }, { on := 34, ground := Go.Ground.phase }, { on := 35, ground := Go.Ground.phase }, { on := 36, ground := Go.Ground.phase }, { on := 37, ground := Go.Ground.phase }], guard := none }) (v := ?v118) rfl (by kernel_rfl) (by kernel_rfl) (by kernel_rfl) (fun _ _ _ h => h) (Or.inl ⟨by rfl, ?hy118⟩) (by assumption) ?rest118
            case hy118 => (intro w hSw; obtain ⟨s0, s1, s2, s3, s4, s5, s6, s7, s8, s9, s10⟩ := hSw; go_simp; try with_reducible rfl)
            try simp only [Act.put, List.setIfInBounds_toArray, List.set_cons_zero, List.set_cons_succ]
            refine wpAnyH_done (by kernel_rfl) ?_ _
            have HG := Lib.hid (below_step HB.out g9)
            go_wp2_with fail
            go_ret
            exact ⟨by simp <;> omega, HG.out⟩

end Go.Proofs.YtfklkainbkffnaaDoor.Schema
