import Derived.Test.YtkccdffccjgajaaGreatDoorRJ
/-
  The document's own Split.
-/
namespace Go.Proofs.YtkccdffccjgajaaGreatDoor.Seg
open Go Go.RowKit
open Go.Proofs.YtkccdffccjgajaaGreatDoor.Wire (S S_list S_size S_append cell_row frozen_row row_lt heap_set heap_far U)
open Go.Proofs.YtkccdffccjgajaaGreatDoor.Frame Go.Proofs.YtkccdffccjgajaaGreatDoor.Ranges

/-- a row of one's own, its parts -/
theorem own_split {w : World} {base m : Nat} {v : Value} {zs : List ByteArray} (h : OwnS w base v zs) (hm : zs.length = m) (hp : 0 < m) : ∃ g cap, v = .slice (some ⟨g, 0, none⟩) m cap ∧ g < w.heap.size ∧ base ≤ g ∧ ∀ j (hj : j < zs.length), w.cell? ⟨g, j, none⟩ = some (.string zs[j]) ∧ w.frozen? ⟨g, j, none⟩ = false := by
  obtain ⟨A, cap, e, _, _, h3⟩ := h.row
  obtain ⟨g, rfl, hg, hb, _, _⟩ := h3 0 (by omega)
  refine ⟨g, cap, by rw [e, hm], hg, hb, fun j hj => ?_⟩
  obtain ⟨g2, e2, _, _, c, f⟩ := h3 j hj
  injection e2 with e2
  injection e2 with e2
  subst e2
  exact ⟨c, f⟩
theorem own_put {w : World} {base g cap m : Nat} {zs : List ByteArray} (h : OwnS w base (.slice (some ⟨g, 0, none⟩) m cap) zs) (hm : zs.length = m) (j : Nat) (hj : j < m) (y : ByteArray) : OwnS (w.setCell ⟨g, j, none⟩ (.string y)) base (.slice (some ⟨g, 0, none⟩) m cap) (zs.set j y) := by
  subst hm
  have := h.set j hj y
  rwa [List.length_set] at this
theorem own_one {w : World} {base : Nat} (hb : base ≤ w.heap.size) (y : ByteArray) : OwnS (w.alloc (.cells #[.string y] 9)) base (.slice (some ⟨w.heap.size, 0, none⟩) 1 1) [y] :=
  ⟨rfl, Or.inr ⟨w.heap.size, 1, #[.string y], rfl, hb, heap_alloc_new w _, Nat.le_refl _, by decide, rfl, rfl⟩⟩
theorem set_last (ys : List ByteArray) (x y : ByteArray) : (ys ++ [x]).set ys.length y = ys ++ [y] := by
  rw [List.set_append_right _ _ (Nat.le_refl _), Nat.sub_self]; rfl
theorem put_last {W : World} {base g cc n : Nat} {ys : List ByteArray} {T : ByteArray} (Y : ByteArray) (h : OwnS W base (.slice (some ⟨g, 0, none⟩) (n + 1) cc) (ys ++ [T])) (hn : ys.length = n) : OwnS (W.setCell ⟨g, n, none⟩ (.string Y)) base (.slice (some ⟨g, 0, none⟩) (n + 1) cc) (ys ++ [Y]) := by
  subst hn
  have h2 := own_put h (by rw [List.length_append]; rfl) ys.length (Nat.lt_succ_self _) Y
  rwa [set_last] at h2
theorem meas_step (i n : Nat) (h : i < n) : n - ((i : Int) + 1).toNat < n - (i : Int).toNat := by omega
theorem drop_bytes (xs : List ByteArray) (j : Nat) (h : j < xs.length) : (bytesP xs).drop j = (xs[j]'h).data.toList :: (bytesP xs).drop (j + 1) := by
  rw [List.drop_eq_getElem_cons (by rw [bytesP_len]; exact h), bytesP_at xs j h]
/-- how far the document's Split is -/
structure SpR (most : Int) (a : Nat) (xs : List ByteArray) (i : Nat) (ys : List ByteArray) (q : Nat) (cur : List (List UInt8)) (Dg : List (Nat × List (List UInt8))) : Prop where
  yes : ys = Dg.map (fun g => S (segB g.1 g.2))
  grp : grp most a xs = Dg ++ spl most q cur ((bytesP xs).drop i)
  here : q + cur.length = a + i
  len : ys.length ≤ i
  big : segN cur ≤ 16 + 4112 * i
theorem seg_ge16 (ps : List (List UInt8)) : 16 ≤ segN ps := by
  rw [← segB_length 0]; unfold segB; rw [List.length_append, segH_length]; omega
theorem SpR.same {most : Int} {a : Nat} {xs : List ByteArray} {i : Nat} {ys : List ByteArray} {q : Nat} {cur : List (List UInt8)} {Dg : List (Nat × List (List UInt8))} (h : SpR most a xs i ys q cur Dg) (hi : i < xs.length) (hs : (xs[i]'hi).size ≤ 4096) (hf : fitsB (segN cur : Int) ((xs[i]'hi).size : Int) most = true) : SpR most a xs (i + 1) ys q (cur ++ [(xs[i]'hi).data.toList]) Dg := by
  refine ⟨h.yes, ?_, ?_, Nat.le_succ_of_le h.len, ?_⟩
  · rw [h.grp, drop_bytes xs i hi, spl, s_len, if_pos hf]
  · rw [List.length_append, List.length_singleton]; have := h.here; omega
  · rw [segN_snoc, s_len]; have := h.big; omega
theorem SpR.next {most : Int} {a : Nat} {xs : List ByteArray} {i : Nat} {ys : List ByteArray} {q : Nat} {cur : List (List UInt8)} {Dg : List (Nat × List (List UInt8))} (h : SpR most a xs i ys q cur Dg) (hi : i < xs.length) (hs : (xs[i]'hi).size ≤ 4096) (hf : ¬ fitsB (segN cur : Int) ((xs[i]'hi).size : Int) most = true) : SpR most a xs (i + 1) (ys ++ [S (segB q cur)]) (a + i) [(xs[i]'hi).data.toList] (Dg ++ [(q, cur)]) := by
  refine ⟨by rw [List.map_append, h.yes]; rfl, ?_, by rw [List.length_singleton]; omega, by rw [List.length_append, List.length_singleton]; have := h.len; omega, ?_⟩
  · rw [h.grp, drop_bytes xs i hi, spl, s_len, if_neg hf, h.here, List.append_assoc]; rfl
  · rw [← List.nil_append [(xs[i]'hi).data.toList], segN_snoc, segN_nil, s_len]; omega
theorem fits_cond {cur p : Nat} {most : Int} (h1 : 1 ≤ p) (h4 : p ≤ 4096) (h16 : 16 ≤ cur) : fitsB (cur : Int) (p : Int) most = true ↔ cur ≤ 16 ∨ ((cur + (16 + p) : Nat) : Int) ≤ most := by
  unfold fitsB
  rw [decide_eq_true (show 1 ≤ (p : Int) ∧ (p : Int) ≤ 4096 by omega), Bool.true_and, Bool.or_eq_true, decide_eq_true_iff, decide_eq_true_iff]
  omega

set_option maxRecDepth 100000 in
set_option maxHeartbeats 4000000 in
/-- **the document's Split** -/
theorem refSplit_any (q most : Int) (hm : (Lit.int .i64 most).wf = true) (A : Option Addr) (cap : Nat) (xs : List ByteArray) (hl : xs.length ≤ 100000) (w : World) (hx : Strs w A xs) :
    Calls Tryz.prog 32 #[.int .i64 q, .slice A xs.length cap, .int .i64 most] w fun e w' => ∃ v, e = .returned (.tuple #[v, .int .i64 (spE q (bytesP xs) most : Int)]) ∧ OwnS w' w.heap.size v (spS q xs most) ∧ Below w.heap.size w w' := by
  have HHD := Lib.hid (fun Q W => refHeader_any Q W)
  have HX := Lib.hid hx
  by_cases hmm : 64 ≤ most ∧ most ≤ 65536
  · have he : spE q (bytesP xs) most = wrE q (bytesP xs) := if_pos hmm
    have d1 : decide (most < 64) = false := decide_eq_false (by omega)
    have d2 : decide (65536 < most) = false := decide_eq_false (by omega)
    have d3 : ¬ most < 64 := by omega
    have d4 : ¬ 65536 < most := by omega
    by_cases hmf : mayF q
    · have HWR := Lib.hid (fun W (hw : Strs W A xs) => refWrong_any q hmf A cap xs (by omega) W hw)
      have HH1 := Lib.hid (HHD.out q w)
      rw [show hdE q = 0 from if_pos hmf, show hdB q = segH q.toNat from if_pos hmf] at HH1
      by_cases h0 : wrE q (bytesP xs) = 0
      · obtain ⟨a, rfl⟩ : ∃ a : Nat, q = (a : Int) := ⟨q.toNat, by have := hmf.1; omega⟩
        have hS : spS (a : Int) xs most = outs most a xs := by unfold spS; rw [if_pos (by rw [he, h0]), Int.toNat_natCast]
        rw [hS, he, h0]
        rw [h0] at HWR
        rw [Int.toNat_natCast] at HH1
        have hk := (wrE_zero h0).2
        rw [Int.toNat_natCast] at hk
        have hok : ∀ j (h : j < xs.length), 1 ≤ xs[j].size ∧ xs[j].size ≤ 4096 := bytesP_ok.1 (okL_all.2 hk.2)
        have HK := Lib.hid hok
        have HQ := Lib.hid (show a + xs.length ≤ 1048576 by have := hk.1; rw [bytesP_len] at this; exact this)
        have HL := Lib.hid hl
        have HM := Lib.hid hmm
        clear hm hl hx hmm he hmf h0 hS hk hok
        go_enter Tryz.func32, Tryz.ntmps32
        go_wp2_with fail
        refine HH1.out.mono ?_
        rintro e w1 ⟨rfl, hb⟩
        have HB := Lib.hid hb
        clear hb
        go_wp2_with fail
        refine (HWR.out _ (HX.out.below HB.out)).mono ?_
        rintro e w2 ⟨rfl, rfl⟩
        go_wp2_with fail
        obtain ⟨w3, hw3⟩ : ∃ w3, w1.alloc (.cells #[.string (S (segH a))] 9) = w3 := ⟨_, rfl⟩
        have hb3 : Below w1.heap.size w1 w3 := by rw [← hw3]; exact (Below.refl _ _).alloc (Nat.le_refl _) _
        have HO3 := Lib.hid (show OwnS w3 w.heap.size (.slice (some ⟨w1.heap.size, 0, none⟩) (([] : List ByteArray).length + 1) 1) ([] ++ [S (segB a [])]) by rw [← hw3, segB_nil]; exact own_one HB.out.size _)
        have HB3 := Lib.hid (HB.out.trans (hb3.mono HB.out.size))
        have HR3 := Lib.hid (show SpR most a xs 0 [] a [] [] from ⟨rfl, rfl, rfl, Nat.le_refl _, by rw [segN_nil]; omega⟩)
        rw [hw3]
        clear hb3 hw3 HB HH1 HWR
        go_loopw [10, 11] (fun v y wr => ∃ (i : Nat) (n : Nat) (g : Nat) (cc : Nat) (ys : List ByteArray) (q : Nat) (cur : List (List UInt8)) (Dg : List (Nat × List (List UInt8))), i ≤ xs.length ∧ y = .int .i64 (i : Int) ∧ v = .slice (some ⟨g, 0, none⟩) (n + 1) cc ∧ Hid (ys.length = n) ∧ Hid (OwnS wr w.heap.size (.slice (some ⟨g, 0, none⟩) (n + 1) cc) (ys ++ [S (segB q cur)])) ∧ Hid (SpR most a xs i ys q cur Dg) ∧ Hid (Below w.heap.size w wr)) (fun _ y _ => xs.length - (intOf y).toNat)
        case atStart => exact ⟨0, 0, w1.heap.size, 1, [], a, [], [], Nat.zero_le _, rfl, rfl, Lib.hid rfl, HO3, HR3, HB3⟩
        case round =>
          clear HO3 HB3 HR3
          obtain ⟨i, n, g, cc, ys, q, cur, Dg, hi, rfl, rfl, HN, HO, HR, HB⟩ := hrel
          by_cases hlt : i < xs.length
          · obtain ⟨b, o, rfl, hb, hsz, c0⟩ := HX.out.below HB.out i hlt
            have hs := HK.out i hlt
            have HLT := Lib.hid hlt
            have hq := HQ.out
            have Y1 := Lib.hid (show wrap64 ((a : Int) + (i : Int)) = (a : Int) + (i : Int) from IntWalk.wrap64_in _ ⟨by omega, by omega⟩)
            have Y2 := Lib.hid (show IntKind.i64.wrap ((a : Int) + (i : Int)) = (a : Int) + (i : Int) from IntWalk.i64_in _ ⟨by omega, by omega⟩)
            have hmk : mkE ((a : Int) + (i : Int)) (xs[i]'hlt).data.toList = 0 := by
              unfold mkE; rw [s_len, if_pos ⟨by omega, by omega⟩, if_neg (by omega), if_neg (by omega)]
            have HMK := Lib.hid (fun W => refMake_any ((a : Int) + (i : Int)) (xs[i]'hlt) (by omega) W)
            unfold mkV mkB at HMK
            rw [hmk, if_pos rfl, show ((a : Int) + (i : Int)).toNat = a + i by omega] at HMK
            obtain ⟨hFs, hF⟩ : (S (frB (a + i) (xs[i]'hlt).data.toList)).size = 16 + (xs[i]'hlt).size ∧ True := ⟨by rw [S_size, frB_length, s_len], trivial⟩
            have hlen : (ys ++ [S (segB q cur)]).length = n + 1 := by rw [List.length_append, List.length_singleton, HN.out]
            obtain ⟨g', cc', e', hg, hgb, hrow⟩ := own_split HO.out hlen (by omega)
            cases e'
            obtain ⟨k0, k1⟩ := hrow n (by omega)
            have hat : (ys ++ [S (segB q cur)])[n]'(by omega) = S (segB q cur) := by
              have hn := HN.out
              subst hn
              simp
            rw [hat] at k0
            have hbig := HR.out.big
            have hle := HR.out.len
            have hnn := HN.out
            have hll := HL.out
            have hTs : (S (segB q cur)).size = segN cur := by rw [S_size, segB_length]
            have HFC := fits_cond (most := most) hs.1 hs.2 (seg_ge16 cur)
            have N1 := Lib.hid (show wrap64 (((n + 1 : Nat) : Int) - 1) = (n : Int) by rw [show ((n + 1 : Nat) : Int) - 1 = (n : Int) by omega]; exact IntWalk.wrap64_in _ ⟨by omega, by omega⟩)
            have N5 := Lib.hid (show wrap64 (n : Int) = (n : Int) from IntWalk.wrap64_in _ ⟨by omega, by omega⟩)
            have n2 : (0 : Int) ≤ (n : Int) := by omega
            have n3 : (n : Int) < ((n + 1 : Nat) : Int) := by omega
            have n4 : n < n + 1 := by omega
            have HW1 := Lib.hid (small64 i (by omega))
            have hsz1 := hs.1
            have hsz2 := hs.2
            have hcat1 : ¬ ((S (segB q cur)).size + (S (frB (a + i) (xs[i]'hlt).data.toList)).size > 9223372036854775807) := by rw [hTs, hFs]; omega
            have HADD := Lib.hid (show wrap64 (((S (segB q cur)).size : Int) + ((S (frB (a + i) (xs[i]'hlt).data.toList)).size : Int)) = ((S (segB q cur)).size : Int) + ((S (frB (a + i) (xs[i]'hlt).data.toList)).size : Int) from IntWalk.wrap64_in _ ⟨by omega, by rw [hTs, hFs]; omega⟩)
            by_cases hf : fitsB (segN cur : Int) ((xs[i]'hlt).size : Int) most = true
            · have HR2 := Lib.hid (HR.out.same hlt hs.2 hf)
              have hc := HFC.1 hf
              have hT2 : S (segB q cur) ++ S (frB (a + i) (xs[i]'hlt).data.toList) = S (segB q (cur ++ [(xs[i]'hlt).data.toList])) := by rw [S_append, segB_snoc, HR.out.here]
              have HPUT := Lib.hid (fun (W : World) (h : OwnS W w.heap.size (.slice (some ⟨g, 0, none⟩) (n + 1) cc) (ys ++ [S (segB q cur)])) => put_last (S (segB q cur) ++ S (frB (a + i) (xs[i]'hlt).data.toList)) h HN.out)
              have HT2 := Lib.hid hT2
              have hc2 : ¬ (16 : Int) < ((S (segB q cur)).size : Int) ∨ ((16 : Int) < ((S (segB q cur)).size : Int) ∧ ¬ most < ((S (segB q cur)).size : Int) + ((S (frB (a + i) (xs[i]'hlt).data.toList)).size : Int)) := by rw [hTs, hFs]; omega
              have HG := Lib.hid (And.intro hg hgb)
              clear hs hmk hq hf hFs hTs hc hbig hle hll HFC hrow hat hlen hnn hF hb hsz hT2 hsz1 hsz2 hg hgb
              generalize xs[i]'hlt = p at *
              generalize S (segB q cur) = T at *
              generalize S (frB (a + i) p.data.toList) = F at *
              have HCAT := Lib.hid (show ¬ 9223372036854775807 < T.size + F.size from hcat1)
              rcases hc2 with hc2 | ⟨hc2, hc3⟩
              · have y1 := Y1.out; have y2 := Y2.out; have n1 := N1.out; have n5 := N5.out; have hadd := HADD.out
                go_wp2_with fail
                refine (HMK.out wr).mono ?_
                rintro e w5 ⟨rfl, hb5⟩
                have HO6 := Lib.hid (HPUT.out _ (HO.out.below hb5))
                have HB6 := Lib.hid ((HB.out.trans (hb5.mono HB.out.size)).setCell (p := ⟨g, n, none⟩) HG.out.2 (.string (T ++ F)))
                have k0' : w5.cell? ⟨g, n, none⟩ = some (.string T) := (hb5.cell (p := ⟨g, n, none⟩) HG.out.1).trans k0
                have k1' : w5.frozen? ⟨g, n, none⟩ = false := (hb5.frozen (p := ⟨g, n, none⟩) HG.out.1).trans k1
                clear hb5 k0 k1 hcat1 y1 y2 n1
                go_wp2_with fail
                all_goals first
                  | exact absurd ‹9223372036854775807 < T.size + F.size› HCAT.out
                  | (clear n5 hadd; refine ⟨⟨i + 1, n, g, cc, ys, q, cur ++ [p.data.toList], Dg, HLT.out, by rw [HW1.out]; rfl, rfl, HN, by rw [← HT2.out]; exact HO6, HR2, HB6⟩, ?_⟩; rw [HW1.out]; show xs.length - ((i : Int) + 1).toNat < xs.length - (i : Int).toNat; exact meas_step i xs.length HLT.out)
              · have y1 := Y1.out; have y2 := Y2.out; have n1 := N1.out; have n5 := N5.out; have hadd := HADD.out
                go_wp2_with fail
                refine (HMK.out wr).mono ?_
                rintro e w5 ⟨rfl, hb5⟩
                have HO6 := Lib.hid (HPUT.out _ (HO.out.below hb5))
                have HB6 := Lib.hid ((HB.out.trans (hb5.mono HB.out.size)).setCell (p := ⟨g, n, none⟩) HG.out.2 (.string (T ++ F)))
                have k0' : w5.cell? ⟨g, n, none⟩ = some (.string T) := (hb5.cell (p := ⟨g, n, none⟩) HG.out.1).trans k0
                have k1' : w5.frozen? ⟨g, n, none⟩ = false := (hb5.frozen (p := ⟨g, n, none⟩) HG.out.1).trans k1
                clear hb5 k0 k1 hcat1 y1 y2 n1
                go_wp2_with fail
                all_goals first
                  | exact absurd ‹9223372036854775807 < T.size + F.size› HCAT.out
                  | (clear n5 hadd; refine ⟨⟨i + 1, n, g, cc, ys, q, cur ++ [p.data.toList], Dg, HLT.out, by rw [HW1.out]; rfl, rfl, HN, by rw [← HT2.out]; exact HO6, HR2, HB6⟩, ?_⟩; rw [HW1.out]; show xs.length - ((i : Int) + 1).toNat < xs.length - (i : Int).toNat; exact meas_step i xs.length HLT.out)
            · have HR2 := Lib.hid (HR.out.next hlt hs.2 hf)
              have hc2 : (16 : Int) < ((S (segB q cur)).size : Int) ∧ most < ((S (segB q cur)).size : Int) + ((S (frB (a + i) (xs[i]'hlt).data.toList)).size : Int) := by
                rw [hTs, hFs]
                have h1 : ¬ (segN cur ≤ 16 ∨ ((segN cur + (16 + (xs[i]'hlt).size) : Nat) : Int) ≤ most) := fun h => hf (HFC.2 h)
                omega
              obtain ⟨hc2, hc3⟩ := hc2
              have HHX := Lib.hid (fun W => HHD.out ((a : Int) + (i : Int)) W)
              have hmx : mayF ((a : Int) + (i : Int)) := ⟨by omega, by omega⟩
              rw [show hdE ((a : Int) + (i : Int)) = 0 from if_pos hmx, show hdB ((a : Int) + (i : Int)) = segH (a + i) from by unfold hdB; rw [if_pos hmx]; congr 1] at HHX
              have hT2 : S (segH (a + i)) ++ S (frB (a + i) (xs[i]'hlt).data.toList) = S (segB (a + i) [(xs[i]'hlt).data.toList]) := by
                rw [S_append, ← List.nil_append [(xs[i]'hlt).data.toList], segB_snoc, segB_nil]; rfl
              have hcat2 : ¬ ((S (segH (a + i))).size + (S (frB (a + i) (xs[i]'hlt).data.toList)).size > 9223372036854775807) := by rw [S_size, segH_length, hFs]; omega
              have HPUT := Lib.hid (fun (W : World) (g7 c7 : Nat) (h : OwnS W w.heap.size (.slice (some ⟨g7, 0, none⟩) (n + 1 + 1) c7) ((ys ++ [S (segB q cur)]) ++ [S (segH (a + i))])) => put_last (S (segH (a + i)) ++ S (frB (a + i) (xs[i]'hlt).data.toList)) h hlen)
              have HT2 := Lib.hid hT2
              have HLN := Lib.hid (show (ys ++ [S (segB q cur)]).length ≤ 1000000 by omega)
              have HLE := Lib.hid hlen
              have HG := Lib.hid (And.intro hg hgb)
              have M1 := Lib.hid (show wrap64 ((n : Int) + 1) = (n : Int) + 1 from IntWalk.wrap64_in _ ⟨by omega, by omega⟩)
              have HN2 := Lib.hid (show (ys ++ [S (segB q cur)]).length = n + 1 from hlen)
              clear hs hmk hq hf hFs hTs hbig hle hll HFC hrow hat hlen hnn hF hb hsz hT2 hsz1 hsz2 hg hgb hmx
              generalize xs[i]'hlt = p at *
              generalize S (frB (a + i) p.data.toList) = F at *
              generalize hH : S (segH (a + i)) = H at *
              obtain ⟨T, hT⟩ : ∃ T, S (segB q cur) = T := ⟨_, rfl⟩
              have HTT := Lib.hid hT
              rw [hT] at HPUT HLN HO HN2 HLE k0 hc2 hc3 hcat1 HADD
              clear hH hT
              have y1 := Y1.out; have y2 := Y2.out; have n1 := N1.out; have n5 := N5.out; have hadd := HADD.out
              have m1 := M1.out
              have HCAT := Lib.hid (show ¬ 9223372036854775807 < H.size + F.size from hcat2)
              clear hcat1 hcat2
              go_wp2_with fail
              refine (HMK.out wr).mono ?_
              rintro e w5 ⟨rfl, hb5⟩
              have HO5 := Lib.hid (HO.out.below hb5)
              have HB5 := Lib.hid (HB.out.trans (hb5.mono HB.out.size))
              have k0' : w5.cell? ⟨g, n, none⟩ = some (.string T) := (hb5.cell (p := ⟨g, n, none⟩) HG.out.1).trans k0
              clear hb5 k0 k1 y1 y2 n1
              go_wp2_with fail
              refine (HHX.out w5).mono ?_
              rintro e w6 ⟨rfl, hb6⟩
              have hbn := (Below.refl w6.heap.size w6).alloc (Nat.le_refl _) (.cells #[.string H] 9)
              have HOA := Lib.hid ((HO5.out.below hb6).below hbn)
              have HBA := Lib.hid ((HB5.out.trans (hb6.mono HB5.out.size)).trans (hbn.mono (Nat.le_trans HB5.out.size hb6.size)))
              have HCL := Lib.hid (cell_row (heap_alloc_new w6 (.cells #[.string H] 9)) 0)
              clear hb6 hbn k0'
              go_wp2_with (at_builtin; refine wpList_append_s rfl _ _ rfl w.heap.size (.slice (some ⟨g, 0, none⟩) (n + 1) cc) _ rfl HOA.out w6.heap.size 1 H rfl HCL.out HLN.out HBA.out.size ?_)
              intro v' w7 hown0 hgr
              have hown : OwnS w7 w.heap.size v' ((ys ++ [T]) ++ [H]) := by simpa using hown0
              clear hown0
              have hB7 := below_own HBA.out HOA.out hgr (Nat.le_refl _)
              obtain ⟨g7, c7, rfl, hg7, hgb7, hrow7⟩ := own_split (m := n + 2) hown (by rw [List.length_append, HN2.out]; rfl) (by omega)
              obtain ⟨k2, k3⟩ := hrow7 (n + 1) (by rw [List.length_append, HN2.out]; simp)
              have hat7 : ((ys ++ [T]) ++ [H])[n + 1]'(by rw [List.length_append, HN2.out]; simp) = H := by
                have hn := HN2.out
                rw [List.getElem_append_right (by omega)]
                simp [hn]
              rw [hat7] at k2
              have HO8 := Lib.hid (HPUT.out w7 g7 c7 hown)
              have HB8 := Lib.hid (hB7.setCell (p := ⟨g7, n + 1, none⟩) hgb7 (.string (H ++ F)))
              have o1 : (0 : Int) ≤ (n : Int) + 1 := by omega
              have o2 : (n : Int) + 1 < ((n + 2 : Nat) : Int) := by omega
              have o3 : ((n : Int) + 1).toNat = n + 1 := by omega
              clear hrow7 hat7 hown hgr hB7 hg7 hgb7
              clear hadd
              go_wp2_with fail
              all_goals first
                | exact absurd ‹9223372036854775807 < H.size + F.size› HCAT.out
                | (clear n5 m1; refine ⟨⟨i + 1, n + 1, g7, c7, ys ++ [S (segB q cur)], a + i, [p.data.toList], Dg ++ [(q, cur)], HLT.out, by rw [HW1.out]; rfl, rfl, by rw [HTT.out]; exact HN2, by rw [HTT.out, ← HT2.out]; exact HO8, HR2, HB8⟩, ?_⟩; rw [HW1.out]; show xs.length - ((i : Int) + 1).toNat < xs.length - (i : Int).toNat; exact meas_step i xs.length HLT.out)
          · obtain rfl : i = xs.length := by omega
            have HFI := Lib.hid (show outs most a xs = ys ++ [S (segB q cur)] by
              unfold outs
              rw [HR.out.grp, HR.out.yes, List.drop_of_length_le (by rw [bytesP_len]; exact Nat.le_refl _), spl, List.map_append]; rfl)
            go_wp2_with fail
            go_ret2
            exact ⟨_, rfl, by rw [HFI.out]; exact HO.out, HB.out⟩
      · have hS : spS q xs most = [] := if_neg (by rw [he]; exact h0)
        rw [hS, he]
        obtain ⟨q1, q2, q3, q4, q5⟩ := nat_ne h0
        clear he h0 hmm hS hx hm hl hmf
        generalize wrE q (bytesP xs) = x at *
        go_enter Tryz.func32, Tryz.ntmps32
        go_wp2_with fail
        refine HH1.out.mono ?_
        rintro e w1 ⟨rfl, hb⟩
        have HB := Lib.hid hb
        clear hb
        go_wp2_with fail
        refine (HWR.out _ (HX.out.below HB.out)).mono ?_
        rintro e w2 ⟨rfl, rfl⟩
        go_wp2_with fail
        go_ret2
        exact ⟨_, rfl, OwnS.nil _ _, HB.out⟩
    · have hS : spS q xs most = [] := if_neg (by rw [he, show wrE q (bytesP xs) = 1 from if_pos hmf]; decide)
      rw [hS, he, show wrE q (bytesP xs) = 1 from if_pos hmf]
      have HH1 := Lib.hid (HHD.out q w)
      rw [show hdE q = 1 from if_neg hmf, show hdB q = [] from if_neg hmf] at HH1
      clear he hmm hS hx hm hl hmf
      go_enter Tryz.func32, Tryz.ntmps32
      go_wp2_with fail
      refine HH1.out.mono ?_
      rintro e w1 ⟨rfl, hb⟩
      have HB := Lib.hid hb
      clear hb
      go_wp2_with fail
      go_ret2
      exact ⟨_, rfl, OwnS.nil _ _, HB.out⟩
  · have he : spE q (bytesP xs) most = 1 := if_neg hmm
    have hS : spS q xs most = [] := if_neg (by rw [he]; decide)
    rw [hS, he]
    clear he hS hx hm hl
    have HH1 := Lib.hid (HHD.out q w)
    generalize S (hdB q) = T at *
    by_cases hz : hdE q = 0
    · rw [hz] at HH1
      by_cases h1 : most < 64
      · clear hmm
        go_enter Tryz.func32, Tryz.ntmps32
        go_wp2_with fail
        refine HH1.out.mono ?_
        rintro e w1 ⟨rfl, hb⟩
        go_wp2_with fail
        go_ret2
        exact ⟨_, rfl, OwnS.nil _ _, hb⟩
      · have h2 : 65536 < most := by omega
        clear hmm
        go_enter Tryz.func32, Tryz.ntmps32
        go_wp2_with fail
        refine HH1.out.mono ?_
        rintro e w1 ⟨rfl, hb⟩
        go_wp2_with fail
        go_ret2
        exact ⟨_, rfl, OwnS.nil _ _, hb⟩
    · have hz1 : hdE q = 1 := by unfold hdE at hz ⊢; split at hz <;> simp_all
      rw [hz1] at HH1
      clear hmm hz hz1
      go_enter Tryz.func32, Tryz.ntmps32
      go_wp2_with fail
      refine HH1.out.mono ?_
      rintro e w1 ⟨rfl, hb⟩
      go_wp2_with fail
      go_ret2
      exact ⟨_, rfl, OwnS.nil _ _, hb⟩
end Go.Proofs.YtkccdffccjgajaaGreatDoor.Seg
