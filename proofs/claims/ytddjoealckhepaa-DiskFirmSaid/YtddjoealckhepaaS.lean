import Derived.Test.YtddjoealckhepaaR
/-
  The examples of layer 9: awake.
-/
namespace Go.Proofs.Ytddjoealckhepaa.Disk
open Go Go.RowKit Go.Maps Go.Shelf Go.Proofs

def Got (a b : Nat) (e : Nat) (d' : Dk) (w : World) (z : Ending) (w' : World) : Prop := z = .returned (.int .i64 (e : Int)) ∧ DkAt w' a b d' ∧ Tn a b w w'
theorem at_create {a b : Nat} {d d' : Dk} {n : Nm} {e : Nat} (hf : createD d n = (e, d')) (hn : n.length ≤ maxLen) (w : World) (h : DkAt w a b d) :
    Calls Try.prog 17 #[.pointer (some ⟨a, 0, none⟩), .string (S n)] w (Got a b e d' w) := by
  have := create_any a b d n hn w h
  rw [hf] at this; exact this
theorem at_append {a b : Nat} {d d' : Dk} {n : Nm} {s : List UInt8} {e : Nat} (hf : appendD d n s = (e, d')) (hn : n.length ≤ maxLen) (hs : s.length ≤ maxLen) (w : World) (h : DkAt w a b d) :
    Calls Try.prog 18 #[.pointer (some ⟨a, 0, none⟩), .string (S n), .string (S s)] w (Got a b e d' w) := by
  have := append_any a b d n hn s hs w h
  rw [hf] at this; exact this
theorem at_sync {a b : Nat} {d d' : Dk} {n : Nm} {e : Nat} (hf : syncD d n = (e, d')) (hn : n.length ≤ maxLen) (w : World) (h : DkAt w a b d) :
    Calls Try.prog 19 #[.pointer (some ⟨a, 0, none⟩), .string (S n)] w (Got a b e d' w) := by
  have := sync_any a b d n hn w h
  rw [hf] at this; exact this
theorem at_trim {a b : Nat} {d d' : Dk} {n : Nm} {m : Int} {e : Nat} (hf : trimD d n m = (e, d')) (hn : n.length ≤ maxLen) (w : World) (h : DkAt w a b d) :
    Calls Try.prog 20 #[.pointer (some ⟨a, 0, none⟩), .string (S n), .int .i64 m] w (Got a b e d' w) := by
  have := trim_any a b d n hn m w h
  rw [hf] at this; exact this
theorem at_rename {a b : Nat} {d d' : Dk} {n m : Nm} {e : Nat} (hf : renameD d n m = (e, d')) (hn : n.length ≤ maxLen) (hm : m.length ≤ maxLen) (w : World) (h : DkAt w a b d) :
    Calls Try.prog 21 #[.pointer (some ⟨a, 0, none⟩), .string (S n), .string (S m)] w (Got a b e d' w) := by
  have := rename_any a b d n m hn hm w h
  rw [hf] at this; exact this
theorem at_cut {a b : Nat} {d d' : Dk} {m : Int} {e : Nat} (hf : cutD d m = (e, d')) (hm : m ≤ 9223372036854775807) (w : World) (h : DkAt w a b d) :
    Calls Try.prog 23 #[.pointer (some ⟨a, 0, none⟩), .int .i64 m] w (Got a b e d' w) := by
  have := cut_any a b d m hm w h
  rw [hf] at this; exact this
theorem kat_new (w : World) (k : Int) (a : Nat) (ha : a < w.heap.size) : KAt (w.alloc (.cells #[.int .i64 k] 3)) a (some ⟨w.heap.size, 0, none⟩) [k] := fun j hj => by
  obtain rfl : j = 0 := by simpa using hj
  exact ⟨w.heap.size, 0, rfl, by simp, by omega, (bx_new w #[.int .i64 k] 3).cell 0⟩
theorem at_crash {a b : Nat} {d d' : Dk} {k : Int} (hf : crashD d [k] = d') (w : World) (h : DkAt w a b d) :
    Calls Try.prog 24 #[.pointer (some ⟨a, 0, none⟩), .slice (some ⟨w.heap.size, 0, none⟩) 1 1] (w.alloc (.cells #[.int .i64 k] 3)) (Got a b 0 d' (w.alloc (.cells #[.int .i64 k] 3))) := by
  have := crash_any a b d (some ⟨w.heap.size, 0, none⟩) 1 [k] (Nat.le_refl _) (by decide) _ (h.new _) (kat_new w k a h.lt.1)
  rw [hf] at this; exact this
theorem at_one {a b : Nat} {d : Dk} {x : Fi} {r : Bool} (hf : decide (told d.l = [x]) = r) (w : World) (h : DkAt w a b d) :
    Calls Try.prog 44 #[.pointer (some ⟨a, 0, none⟩), .string (S x.n), .string (S x.d), .string (S x.p)] w fun z w' => z = .returned (.bool r) ∧ Below w.heap.size w w' := by
  have := one_any a b d x w h
  rw [hf] at this; exact this
theorem Tn.base {a b B : Nat} {u w w' : World} (h : Tn a b w w') (hb : Below B u w) (hB : B ≤ u.heap.size) (ha : B ≤ a ∧ B ≤ b) : Below B u w' := hb.trans (h.low (Nat.le_trans hB hb.size) ha.1 ha.2)
theorem fx0 : createD ⟨9, [], false, false, 0⟩ [97] = (0, ⟨9, [([97], ⟨[], 0⟩)], false, false, 0⟩) := by kernel_rfl
theorem fx1 : appendD ⟨9, [([97], ⟨[], 0⟩)], false, false, 0⟩ [97] [120] = (0, ⟨9, [([97], ⟨[120], 0⟩)], false, false, 0⟩) := by kernel_rfl
theorem fx2 : syncD ⟨9, [([97], ⟨[120], 0⟩)], false, false, 0⟩ [97] = (0, ⟨9, [([97], ⟨[120], 1⟩)], false, false, 0⟩) := by kernel_rfl
theorem fx3 : appendD ⟨9, [([97], ⟨[120], 1⟩)], false, false, 0⟩ [97] [121, 122] = (0, ⟨9, [([97], ⟨[120, 121, 122], 1⟩)], false, false, 0⟩) := by kernel_rfl
theorem fx4 : appendD ⟨9, [([97], ⟨[120, 121, 122], 1⟩)], false, false, 0⟩ [97] [49, 50, 51, 52, 53, 54, 55] = (44, ⟨9, [([97], ⟨[120, 121, 122], 1⟩)], false, false, 0⟩) := by kernel_rfl
theorem fx5 : decide (told (Dk.l ⟨9, [([97], ⟨[120, 121, 122], 1⟩)], false, false, 0⟩) = [⟨[97], [120], [121, 122]⟩]) = true := by kernel_rfl
theorem fx6 : crashD ⟨9, [([97], ⟨[120, 121, 122], 1⟩)], false, false, 0⟩ [0] = ⟨9, [([97], ⟨[120], 1⟩)], false, false, 0⟩ := by kernel_rfl
theorem fx7 : decide (told (Dk.l ⟨9, [([97], ⟨[120], 1⟩)], false, false, 0⟩) = [⟨[97], [120], []⟩]) = true := by kernel_rfl
theorem fx8 : crashD ⟨9, [([97], ⟨[120, 121, 122], 1⟩)], false, false, 0⟩ [1] = ⟨9, [([97], ⟨[120, 121], 2⟩)], false, false, 0⟩ := by kernel_rfl
theorem fx9 : decide (told (Dk.l ⟨9, [([97], ⟨[120, 121], 2⟩)], false, false, 0⟩) = [⟨[97], [120, 121], []⟩]) = true := by kernel_rfl
theorem fx10 : crashD ⟨9, [([97], ⟨[120, 121, 122], 1⟩)], false, false, 0⟩ [2] = ⟨9, [([97], ⟨[120, 121, 122], 3⟩)], false, false, 0⟩ := by kernel_rfl
theorem fx11 : decide (told (Dk.l ⟨9, [([97], ⟨[120, 121, 122], 3⟩)], false, false, 0⟩) = [⟨[97], [120, 121, 122], []⟩]) = true := by kernel_rfl
theorem fx12 : crashD ⟨9, [([97], ⟨[120, 121, 122], 1⟩)], false, false, 0⟩ [3] = ⟨9, [([97], ⟨[120], 1⟩)], false, false, 0⟩ := by kernel_rfl
theorem fx13 : decide (told (Dk.l ⟨9, [([97], ⟨[120], 1⟩)], false, false, 0⟩) = [⟨[97], [120], []⟩]) = true := by kernel_rfl
theorem fx14 : cutD ⟨9, [], false, false, 0⟩ 1 = (0, ⟨9, [], false, true, 1⟩) := by kernel_rfl
theorem fx15 : createD ⟨9, [], false, true, 1⟩ [97] = (0, ⟨9, [([97], ⟨[], 0⟩)], false, true, 0⟩) := by kernel_rfl
theorem fx16 : appendD ⟨9, [([97], ⟨[], 0⟩)], false, true, 0⟩ [97] [120] = (45, ⟨9, [([97], ⟨[120], 0⟩)], true, true, 0⟩) := by kernel_rfl
theorem fx17 : (fndF ⟨9, [([97], ⟨[120], 0⟩)], true, true, 0⟩ [97]).b = [] := by kernel_rfl
theorem fx18 : fndE ⟨9, [([97], ⟨[120], 0⟩)], true, true, 0⟩ [97] = 45 := by kernel_rfl
theorem fx19 : crashD ⟨9, [([97], ⟨[120], 0⟩)], true, true, 0⟩ [1] = ⟨9, [([97], ⟨[120], 1⟩)], false, false, 0⟩ := by kernel_rfl
theorem fx20 : decide (told (Dk.l ⟨9, [([97], ⟨[120], 1⟩)], false, false, 0⟩) = [⟨[97], [120], []⟩]) = true := by kernel_rfl
theorem fx21 : createD ⟨9, [([97], ⟨[120, 121, 122], 1⟩)], false, false, 0⟩ [98] = (0, ⟨9, [([97], ⟨[120, 121, 122], 1⟩), ([98], ⟨[], 0⟩)], false, false, 0⟩) := by kernel_rfl
theorem fx22 : renameD ⟨9, [([97], ⟨[120, 121, 122], 1⟩), ([98], ⟨[], 0⟩)], false, false, 0⟩ [97] [98] = (0, ⟨9, [([98], ⟨[120, 121, 122], 1⟩)], false, false, 0⟩) := by kernel_rfl
theorem fx23 : decide (told (Dk.l ⟨9, [([98], ⟨[120, 121, 122], 1⟩)], false, false, 0⟩) = [⟨[98], [120], [121, 122]⟩]) = true := by kernel_rfl
theorem fx24 : trimD ⟨9, [([98], ⟨[120, 121, 122], 1⟩)], false, false, 0⟩ [98] 0 = (0, ⟨9, [([98], ⟨[], 0⟩)], false, false, 0⟩) := by kernel_rfl
theorem fx25 : decide (told (Dk.l ⟨9, [([98], ⟨[], 0⟩)], false, false, 0⟩) = [⟨[98], [], []⟩]) = true := by kernel_rfl
theorem fx26 : createD ⟨9, [([98], ⟨[], 0⟩)], false, false, 0⟩ [97, 47, 98] = (4, ⟨9, [([98], ⟨[], 0⟩)], false, false, 0⟩) := by kernel_rfl

set_option maxRecDepth 100000 in
set_option maxHeartbeats 4000000 in
theorem awake_any (w : World) :
    Calls Try.prog 11 #[] w fun z w' => z = .returned (.bool true) ∧ Below w.heap.size w w' := by
  have HB := Lib.hid (Below.refl w.heap.size w)
  go_enter Try.func11, Try.ntmps11
  go_wp2_with fail
  refine (small_any 9 (by decide) (by decide) _).mono ?_
  rintro z W1 ⟨a, b, rfl, h1, h2, h3, h4⟩
  have HD := Lib.hid h1
  have HA := Lib.hid (show w.heap.size ≤ a ∧ w.heap.size ≤ b from ⟨Nat.le_trans HB.out.size h2, Nat.le_trans HB.out.size h3⟩)
  replace HB := Lib.hid (HB.out.trans h4)
  clear h1 h2 h3 h4
  go_wp2_with fail
  refine (at_create fx0 (by decide) _ HD.out).mono ?_
  rintro z W1 ⟨rfl, h1, h2⟩
  replace HD := Lib.hid h1
  replace HB := Lib.hid (h2.base HB.out (Nat.le_refl _) HA.out)
  clear h1 h2
  go_wp2_with fail
  refine (at_append fx1 (by decide) (by decide) _ HD.out).mono ?_
  rintro z W1 ⟨rfl, h1, h2⟩
  replace HD := Lib.hid h1
  replace HB := Lib.hid (h2.base HB.out (Nat.le_refl _) HA.out)
  clear h1 h2
  go_wp2_with fail
  refine (at_sync fx2 (by decide) _ HD.out).mono ?_
  rintro z W1 ⟨rfl, h1, h2⟩
  replace HD := Lib.hid h1
  replace HB := Lib.hid (h2.base HB.out (Nat.le_refl _) HA.out)
  clear h1 h2
  go_wp2_with fail
  refine (at_append fx3 (by decide) (by decide) _ HD.out).mono ?_
  rintro z W1 ⟨rfl, h1, h2⟩
  replace HD := Lib.hid h1
  replace HB := Lib.hid (h2.base HB.out (Nat.le_refl _) HA.out)
  clear h1 h2
  go_wp2_with fail
  refine (at_append fx4 (by decide) (by decide) _ HD.out).mono ?_
  rintro z W1 ⟨rfl, h1, h2⟩
  replace HD := Lib.hid h1
  replace HB := Lib.hid (h2.base HB.out (Nat.le_refl _) HA.out)
  clear h1 h2
  go_wp2_with fail
  refine (at_one (x := ⟨[97], [120], [121, 122]⟩) fx5 _ HD.out).mono ?_
  rintro z W1 ⟨rfl, h2⟩
  replace HD := Lib.hid (HD.out.below h2)
  replace HB := Lib.hid (HB.out.trans (h2.mono HB.out.size))
  clear h2
  go_wp2_with fail
  have hq0 := cell_row (bx_own W1 #[.string ⟨#[120]⟩, .string ⟨#[120, 121]⟩, .string ⟨#[120, 121, 122]⟩, .string ⟨#[120]⟩] 9) 0
  have hq1 := cell_row (bx_own W1 #[.string ⟨#[120]⟩, .string ⟨#[120, 121]⟩, .string ⟨#[120, 121, 122]⟩, .string ⟨#[120]⟩] 9) 1
  have hq2 := cell_row (bx_own W1 #[.string ⟨#[120]⟩, .string ⟨#[120, 121]⟩, .string ⟨#[120, 121, 122]⟩, .string ⟨#[120]⟩] 9) 2
  have hq3 := cell_row (bx_own W1 #[.string ⟨#[120]⟩, .string ⟨#[120, 121]⟩, .string ⟨#[120, 121, 122]⟩, .string ⟨#[120]⟩] 9) 3
  have hqs : W1.heap.size < (W1.alloc (.cells #[.string ⟨#[120]⟩, .string ⟨#[120, 121]⟩, .string ⟨#[120, 121, 122]⟩, .string ⟨#[120]⟩] 9)).heap.size := by simp
  replace HD := Lib.hid (HD.out.new (.cells #[.string ⟨#[120]⟩, .string ⟨#[120, 121]⟩, .string ⟨#[120, 121, 122]⟩, .string ⟨#[120]⟩] 9))
  replace HB := Lib.hid (below_new HB.out (.cells #[.string ⟨#[120]⟩, .string ⟨#[120, 121]⟩, .string ⟨#[120, 121, 122]⟩, .string ⟨#[120]⟩] 9))
  generalize hW0 : W1.alloc (.cells #[.string ⟨#[120]⟩, .string ⟨#[120, 121]⟩, .string ⟨#[120, 121, 122]⟩, .string ⟨#[120]⟩] 9) = W0 at *
  clear hW0
  generalize W1.heap.size = q at *
  have HQ0 := Lib.hid hq0
  have HQ1 := Lib.hid hq1
  have HQ2 := Lib.hid hq2
  have HQ3 := Lib.hid hq3
  have HQS := Lib.hid hqs
  clear hq0 hq1 hq2 hq3 hqs
  go_loopw [43] (fun i wr => ∃ k : Nat, k ≤ 4 ∧ i = .int .i64 (k : Int) ∧ Below W0.heap.size W0 wr) (fun i _ => 4 - (intOf i).toNat)
  case atStart => exact ⟨0, Nat.zero_le _, rfl, Below.refl _ _⟩
  case round =>
    obtain ⟨k, hk, rfl, hB⟩ := hrel
    have HBL := Lib.hid hB
    have HDW := Lib.hid (HD.out.below hB)
    clear hB
    have hcase : k = 0 ∨ k = 1 ∨ k = 2 ∨ k = 3 ∨ k = 4 := by omega
    rcases hcase with rfl | rfl | rfl | rfl | rfl
    · have c0 := (HBL.out.cell (p := ⟨q, 0, none⟩) HQS.out).trans HQ0.out
      simp only [List.getElem?_toArray, List.getElem?_cons_zero, List.getElem?_cons_succ] at c0
      go_wp2_with fail
      refine (copy_any a b _ _ HDW.out).mono ?_
      rintro z W2 ⟨a2, b2, rfl, h1, h2, h3, h4⟩
      have HC := Lib.hid h1
      have HAC := Lib.hid (show W0.heap.size ≤ a2 ∧ W0.heap.size ≤ b2 from ⟨Nat.le_trans HBL.out.size h2, Nat.le_trans HBL.out.size h3⟩)
      replace HBL := Lib.hid (HBL.out.trans (h4.mono HBL.out.size))
      clear h1 h2 h3 h4 c0
      go_wp2_with fail
      refine (at_crash fx6 _ HC.out).mono ?_
      rintro z W3 ⟨rfl, h1, h2⟩
      replace HC := Lib.hid h1
      replace HBL := Lib.hid (h2.base (below_new HBL.out _) (Nat.le_refl _) HAC.out)
      clear h1 h2
      go_wp2_with fail
      refine (at_one (x := ⟨[97], [120], []⟩) fx7 _ HC.out).mono ?_
      rintro z W4 ⟨rfl, h2⟩
      replace HBL := Lib.hid (HBL.out.trans (h2.mono HBL.out.size))
      clear h2
      go_wp2_with fail
      go_roundw
      case rel => exact ⟨1, by omega, by go_num, HBL.out⟩
      case measure => simp [intOf]
    · have c0 := (HBL.out.cell (p := ⟨q, 1, none⟩) HQS.out).trans HQ1.out
      simp only [List.getElem?_toArray, List.getElem?_cons_zero, List.getElem?_cons_succ] at c0
      go_wp2_with fail
      refine (copy_any a b _ _ HDW.out).mono ?_
      rintro z W2 ⟨a2, b2, rfl, h1, h2, h3, h4⟩
      have HC := Lib.hid h1
      have HAC := Lib.hid (show W0.heap.size ≤ a2 ∧ W0.heap.size ≤ b2 from ⟨Nat.le_trans HBL.out.size h2, Nat.le_trans HBL.out.size h3⟩)
      replace HBL := Lib.hid (HBL.out.trans (h4.mono HBL.out.size))
      clear h1 h2 h3 h4 c0
      go_wp2_with fail
      refine (at_crash fx8 _ HC.out).mono ?_
      rintro z W3 ⟨rfl, h1, h2⟩
      replace HC := Lib.hid h1
      replace HBL := Lib.hid (h2.base (below_new HBL.out _) (Nat.le_refl _) HAC.out)
      clear h1 h2
      go_wp2_with fail
      refine (at_one (x := ⟨[97], [120, 121], []⟩) fx9 _ HC.out).mono ?_
      rintro z W4 ⟨rfl, h2⟩
      replace HBL := Lib.hid (HBL.out.trans (h2.mono HBL.out.size))
      clear h2
      go_wp2_with fail
      go_roundw
      case rel => exact ⟨2, by omega, by go_num, HBL.out⟩
      case measure => simp [intOf]
    · have c0 := (HBL.out.cell (p := ⟨q, 2, none⟩) HQS.out).trans HQ2.out
      simp only [List.getElem?_toArray, List.getElem?_cons_zero, List.getElem?_cons_succ] at c0
      go_wp2_with fail
      refine (copy_any a b _ _ HDW.out).mono ?_
      rintro z W2 ⟨a2, b2, rfl, h1, h2, h3, h4⟩
      have HC := Lib.hid h1
      have HAC := Lib.hid (show W0.heap.size ≤ a2 ∧ W0.heap.size ≤ b2 from ⟨Nat.le_trans HBL.out.size h2, Nat.le_trans HBL.out.size h3⟩)
      replace HBL := Lib.hid (HBL.out.trans (h4.mono HBL.out.size))
      clear h1 h2 h3 h4 c0
      go_wp2_with fail
      refine (at_crash fx10 _ HC.out).mono ?_
      rintro z W3 ⟨rfl, h1, h2⟩
      replace HC := Lib.hid h1
      replace HBL := Lib.hid (h2.base (below_new HBL.out _) (Nat.le_refl _) HAC.out)
      clear h1 h2
      go_wp2_with fail
      refine (at_one (x := ⟨[97], [120, 121, 122], []⟩) fx11 _ HC.out).mono ?_
      rintro z W4 ⟨rfl, h2⟩
      replace HBL := Lib.hid (HBL.out.trans (h2.mono HBL.out.size))
      clear h2
      go_wp2_with fail
      go_roundw
      case rel => exact ⟨3, by omega, by go_num, HBL.out⟩
      case measure => simp [intOf]
    · have c0 := (HBL.out.cell (p := ⟨q, 3, none⟩) HQS.out).trans HQ3.out
      simp only [List.getElem?_toArray, List.getElem?_cons_zero, List.getElem?_cons_succ] at c0
      go_wp2_with fail
      refine (copy_any a b _ _ HDW.out).mono ?_
      rintro z W2 ⟨a2, b2, rfl, h1, h2, h3, h4⟩
      have HC := Lib.hid h1
      have HAC := Lib.hid (show W0.heap.size ≤ a2 ∧ W0.heap.size ≤ b2 from ⟨Nat.le_trans HBL.out.size h2, Nat.le_trans HBL.out.size h3⟩)
      replace HBL := Lib.hid (HBL.out.trans (h4.mono HBL.out.size))
      clear h1 h2 h3 h4 c0
      go_wp2_with fail
      refine (at_crash fx12 _ HC.out).mono ?_
      rintro z W3 ⟨rfl, h1, h2⟩
      replace HC := Lib.hid h1
      replace HBL := Lib.hid (h2.base (below_new HBL.out _) (Nat.le_refl _) HAC.out)
      clear h1 h2
      go_wp2_with fail
      refine (at_one (x := ⟨[97], [120], []⟩) fx13 _ HC.out).mono ?_
      rintro z W4 ⟨rfl, h2⟩
      replace HBL := Lib.hid (HBL.out.trans (h2.mono HBL.out.size))
      clear h2
      go_wp2_with fail
      go_roundw
      case rel => exact ⟨4, by omega, by go_num, HBL.out⟩
      case measure => simp [intOf]
    · replace HB := Lib.hid (HB.out.trans (HBL.out.mono HB.out.size))
      replace HD := HDW
      clear HDW HBL HQ0 HQ1 HQ2 HQ3 HQS
      go_wp2_with fail
      refine (small_any 9 (by decide) (by decide) _).mono ?_
      rintro z W1 ⟨a2, b2, rfl, h1, h2, h3, h4⟩
      have HD2 := Lib.hid h1
      have HA2 := Lib.hid (show w.heap.size ≤ a2 ∧ w.heap.size ≤ b2 from ⟨Nat.le_trans HB.out.size h2, Nat.le_trans HB.out.size h3⟩)
      have HNE2 := Lib.hid (show a ≠ a2 ∧ b ≠ b2 by have := HD.out.lt; omega)
      replace HD := Lib.hid (HD.out.below h4)
      replace HB := Lib.hid (HB.out.trans (h4.mono HB.out.size))
      clear h1 h2 h3 h4
      go_wp2_with fail
      refine (at_cut fx14 (by decide) _ HD2.out).mono ?_
      rintro z W1 ⟨rfl, h1, h2⟩
      replace HD := Lib.hid (HD.out.tn HD2.out h2 HNE2.out.1 HNE2.out.2)
      replace HD2 := Lib.hid h1
      replace HB := Lib.hid (h2.base HB.out (Nat.le_refl _) HA2.out)
      clear h1 h2
      go_wp2_with fail
      refine (at_create fx15 (by decide) _ HD2.out).mono ?_
      rintro z W1 ⟨rfl, h1, h2⟩
      replace HD := Lib.hid (HD.out.tn HD2.out h2 HNE2.out.1 HNE2.out.2)
      replace HD2 := Lib.hid h1
      replace HB := Lib.hid (h2.base HB.out (Nat.le_refl _) HA2.out)
      clear h1 h2
      go_wp2_with fail
      refine (at_append fx16 (by decide) (by decide) _ HD2.out).mono ?_
      rintro z W1 ⟨rfl, h1, h2⟩
      replace HD := Lib.hid (HD.out.tn HD2.out h2 HNE2.out.1 HNE2.out.2)
      replace HD2 := Lib.hid h1
      replace HB := Lib.hid (h2.base HB.out (Nat.le_refl _) HA2.out)
      clear h1 h2
      go_wp2_with fail
      refine (up_any a2 b2 _ _ HD2.out).mono ?_
      rintro z W1 ⟨rfl, rfl⟩
      go_wp2_with fail
      refine (read_any a2 b2 _ [97] (by decide) _ HD2.out).mono ?_
      rintro z W1 ⟨rfl, h2⟩
      rw [fx17, fx18]
      replace HD := Lib.hid (HD.out.below h2)
      replace HD2 := Lib.hid (HD2.out.below h2)
      replace HB := Lib.hid (HB.out.trans (h2.mono HB.out.size))
      clear h2
      go_wp2_with fail
      refine (at_crash fx19 _ HD2.out).mono ?_
      rintro z W1 ⟨rfl, h1, h2⟩
      replace HD := Lib.hid ((HD.out.new _).tn (HD2.out.new _) h2 HNE2.out.1 HNE2.out.2)
      replace HD2 := Lib.hid h1
      replace HB := Lib.hid (h2.base (below_new HB.out _) (Nat.le_refl _) HA2.out)
      clear h1 h2
      go_wp2_with fail
      refine (at_one (x := ⟨[97], [120], []⟩) fx20 _ HD2.out).mono ?_
      rintro z W1 ⟨rfl, h2⟩
      replace HD := Lib.hid (HD.out.below h2)
      replace HD2 := Lib.hid (HD2.out.below h2)
      replace HB := Lib.hid (HB.out.trans (h2.mono HB.out.size))
      clear h2
      go_wp2_with fail
      refine (up_any a2 b2 _ _ HD2.out).mono ?_
      rintro z W1 ⟨rfl, rfl⟩
      go_wp2_with fail
      clear HD2 HA2 HNE2
      refine (at_create fx21 (by decide) _ HD.out).mono ?_
      rintro z W1 ⟨rfl, h1, h2⟩
      replace HD := Lib.hid h1
      replace HB := Lib.hid (h2.base HB.out (Nat.le_refl _) HA.out)
      clear h1 h2
      go_wp2_with fail
      refine (at_rename fx22 (by decide) (by decide) _ HD.out).mono ?_
      rintro z W1 ⟨rfl, h1, h2⟩
      replace HD := Lib.hid h1
      replace HB := Lib.hid (h2.base HB.out (Nat.le_refl _) HA.out)
      clear h1 h2
      go_wp2_with fail
      refine (at_one (x := ⟨[98], [120], [121, 122]⟩) fx23 _ HD.out).mono ?_
      rintro z W1 ⟨rfl, h2⟩
      replace HD := Lib.hid (HD.out.below h2)
      replace HB := Lib.hid (HB.out.trans (h2.mono HB.out.size))
      clear h2
      go_wp2_with fail
      refine (at_trim fx24 (by decide) _ HD.out).mono ?_
      rintro z W1 ⟨rfl, h1, h2⟩
      replace HD := Lib.hid h1
      replace HB := Lib.hid (h2.base HB.out (Nat.le_refl _) HA.out)
      clear h1 h2
      go_wp2_with fail
      refine (at_one (x := ⟨[98], [], []⟩) fx25 _ HD.out).mono ?_
      rintro z W1 ⟨rfl, h2⟩
      replace HD := Lib.hid (HD.out.below h2)
      replace HB := Lib.hid (HB.out.trans (h2.mono HB.out.size))
      clear h2
      go_wp2_with fail
      refine (at_create fx26 (by decide) _ HD.out).mono ?_
      rintro z W1 ⟨rfl, h1, h2⟩
      replace HD := Lib.hid h1
      replace HB := Lib.hid (h2.base HB.out (Nat.le_refl _) HA.out)
      clear h1 h2
      go_wp2_with fail
      go_ret
      exact ⟨rfl, HB.out⟩
end Go.Proofs.Ytddjoealckhepaa.Disk
