import Derived.Test.YtkjnddgjnlbopaaIO
/-
  The laws' own examples.
-/
namespace Go.Proofs.Ytkjnddgjnlbopaa.Index
open Go Go.RowKit
open Go.Proofs.Ytkjnddgjnlbopaa.Wire (S S_list S_size cell_row frozen_row row_lt heap_set heap_far)
open Go.Proofs.Ytkjnddgjnlbopaa.Frame Go.Proofs.Ytkjnddgjnlbopaa.Seg Go.Proofs.Ytkjnddgjnlbopaa.Ranges

def abd : List ByteArray := [⟨#[97, 98]⟩, ⟨#[99]⟩, ⟨#[100, 101, 102]⟩]
theorem abd_ok : okP 5 (bytesP abd) := ⟨by decide, by decide⟩
theorem abd_join : joV 5 abd = .returned (.tuple #[.string (S (segB 5 (bytesP abd))), .int .i64 0]) := by
  have h : joE 5 (bytesP abd) = 0 := by decide +kernel
  unfold joV joB; rw [h, if_pos rfl]; rfl
theorem abd_seg : fiE (segB 5 (bytesP abd)) = 0 ∧ fiN (segB 5 (bytesP abd)) = 5 ∧ atsP (pays (scL (segB 5 (bytesP abd)))) = [16, 34, 51] ∧ scG (segB 5 (bytesP abd)) = 70 ∧ scL (segB 5 (bytesP abd)) = rowF 5 16 (bytesP abd) := by
  obtain ⟨h1, h2, h3, h4⟩ := sc_seg 5 (bytesP abd) abd_ok
  refine ⟨h1, h2, ?_, ?_, h3⟩
  · rw [h3, pays_row]; decide +kernel
  · rw [h4, segB_length]; decide +kernel
theorem abd_isL : isL (S (segB 5 (bytesP abd))) 16 5 = rowF 5 16 (bytesP abd) := by
  obtain ⟨h1, h2, _, _, h5⟩ := abd_seg
  rw [← h5]
  unfold scL isL
  rw [if_pos h1, h2, S_list]
theorem abd_get : gtP (S (segB 5 (bytesP abd))) 16 5 1 = [99] ∧ gtE (S (segB 5 (bytesP abd))) 16 5 1 = 0 := by
  unfold gtP gtE
  rw [abd_isL]
  decide +kernel
theorem abd_mks : mks 2 5 [16, 34, 51] = [(5, 16), (7, 51)] := by decide +kernel
theorem abd_strs (w : World) : Strs (w.alloc (.cells #[.string ⟨#[97, 98]⟩, .string ⟨#[99]⟩, .string ⟨#[100, 101, 102]⟩] 9)) (some ⟨w.heap.size, 0, none⟩) abd := fun j hj => by
  have hb := heap_alloc_new w (.cells #[.string ⟨#[97, 98]⟩, .string ⟨#[99]⟩, .string ⟨#[100, 101, 102]⟩] 9)
  refine ⟨w.heap.size, 0, rfl, by simp, ?_, ?_⟩
  · have : ∀ k (h : k < abd.length), abd[k].size ≤ 3 := by decide +kernel
    have := this j hj
    unfold maxLen; omega
  · rw [cell_row hb, Nat.zero_add]
    have h2 : j < 3 := hj
    match j, h2 with
    | 0, _ => rfl
    | 1, _ => rfl
    | 2, _ => rfl
set_option maxRecDepth 100000 in
set_option maxHeartbeats 2000000 in
/-- **works** -/
theorem works_any (w : World) : Calls Try.prog 9 #[] w fun e w' => e = .returned (.bool true) ∧ Below w.heap.size w w' := by
  have HJ := Lib.hid (fun W (h : Strs W (some ⟨w.heap.size, 0, none⟩) abd) => Join_any 5 (some ⟨w.heap.size, 0, none⟩) 3 abd (by decide) W h)
  rw [abd_join] at HJ
  have hST := abd_strs w
  have hb0 := (Below.refl w.heap.size w).alloc (Nat.le_refl _) (.cells #[.string ⟨#[97, 98]⟩, .string ⟨#[99]⟩, .string ⟨#[100, 101, 102]⟩] 9)
  have HST := Lib.hid hST
  have HB0 := Lib.hid hb0
  obtain ⟨a1, a2, a3, a4, a5⟩ := abd_seg
  have HBU := Lib.hid (fun W => build_yes (S (segB 5 (bytesP abd))) (by rw [S_size, segB_length]; decide +kernel) 2 ⟨by decide, by decide⟩ (by rw [S_list]; exact a1) W)
  rw [S_list, a2, a3, a4] at HBU
  have HGS := Lib.hid (fun W base b (h : Ix W base b 2 5 [16, 34, 51] 70) => get_some W base b 2 5 [16, 34, 51] 70 (S (segB 5 (bytesP abd))) 6 h (by decide) (by decide) (by decide) (by decide) (by rw [S_size, segB_length]; decide +kernel))
  have hfa : frA 2 5 6 [16, 34, 51] = 16 := by decide +kernel
  have hfs : frS 2 5 6 = 5 := by decide +kernel
  rw [hfa, hfs, show 6 - 5 = 1 from rfl, abd_get.1, abd_get.2] at HGS
  clear hST hb0 a1 a2 a3 a4 a5 hfa hfs
  generalize S (segB 5 (bytesP abd)) = T at *
  go_enter Try.func9, Try.ntmps9
  go_wp2_with fail
  refine (HJ.out _ HST.out).mono ?_
  rintro e w1 ⟨rfl, hb⟩
  have HB1 := Lib.hid (HB0.out.trans (hb.mono HB0.out.size))
  clear hb HB0 HST
  go_wp2_with fail
  refine (HBU.out w1).mono ?_
  rintro e w2 ⟨b, hbb, rfl, hi, hb⟩
  have HB2 := Lib.hid (HB1.out.trans (hb.mono HB1.out.size))
  have HI2 := Lib.hid hi
  clear hb hi HB1 hbb
  go_wp2_with fail
  refine (marks_any w2 b b 2 5 [16, 34, 51] 70 HI2.out (by decide) (by decide)).mono ?_
  rintro e w3 ⟨u, rfl, ho, hb⟩
  have HB3 := Lib.hid (HB2.out.trans (hb.mono HB2.out.size))
  have HI3 := Lib.hid (HI2.out.below hb)
  rw [abd_mks] at ho
  obtain ⟨A, c, rfl, -, -, hrow, -⟩ := ho.row
  have HR3 := Lib.hid hrow
  clear hb ho hrow HB2 HI2
  go_wp2_with fail
  refine (HGS.out w3 b b HI3.out).mono ?_
  rintro e w4 ⟨rfl, hb⟩
  have HB4 := Lib.hid (HB3.out.trans (hb.mono HB3.out.size))
  have HI4 := Lib.hid (HI3.out.below hb)
  have HR4 := Lib.hid (HR3.out.below hb)
  clear hb HB3 HI3 HR3
  go_wp2_with fail
  refine (get_none w4 b b 2 5 [16, 34, 51] 70 T 8 HI4.out (by decide)).mono ?_
  rintro e w5 ⟨rfl, hb⟩
  have HB5 := Lib.hid (HB4.out.trans (hb.mono HB4.out.size))
  have HI5 := Lib.hid (HI4.out.below hb)
  have HR5 := Lib.hid (HR4.out.below hb)
  clear hb HB4 HI4 HR4
  obtain ⟨g2, hA, -, d0, d1⟩ := HR5.out 0 (by decide)
  obtain ⟨g3, hA3, -, d2, d3⟩ := HR5.out 1 (by decide)
  subst hA
  injection hA3 with hA3
  injection hA3 with hA3
  subst hA3
  obtain ⟨v, hx, -⟩ := HI5.out
  have HX := Lib.hid hx
  clear hx
  go_wp2_with fail
  refine (next_x w5 b 2 5 8 v 70 HX.out).mono ?_
  rintro e w6 ⟨rfl, rfl⟩
  go_wp2_with fail
  refine (good_x w5 b 2 5 8 v 70 HX.out).mono ?_
  rintro e w6 ⟨rfl, rfl⟩
  go_wp2_with fail
  refine (first_x w5 b 2 5 8 v 70 HX.out).mono ?_
  rintro e w6 ⟨rfl, rfl⟩
  have hs9 : S [99] = ⟨#[99]⟩ := rfl
  go_wp2_with fail
  refine (steps_any w5 b b 2 5 [16, 34, 51] 70 6 HI5.out (by decide) (by decide) (by decide)).mono ?_
  rintro e w6 ⟨rfl, hb⟩
  have HB6 := Lib.hid (HB5.out.trans (hb.mono HB5.out.size))
  clear hb
  go_wp2_with fail
  go_ret
  exact ⟨rfl, HB6.out⟩
end Go.Proofs.Ytkjnddgjnlbopaa.Index
