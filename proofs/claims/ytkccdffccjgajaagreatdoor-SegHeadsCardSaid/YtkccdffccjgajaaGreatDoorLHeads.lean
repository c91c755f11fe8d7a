import Derived.Test.YtkccdffccjgajaaGreatDoorRN
/-
  The walk of the statement SegHeads.
-/
namespace Go.Proofs.YtkccdffccjgajaaGreatDoor.Seg
open Go Go.RowKit
open Go.Proofs.YtkccdffccjgajaaGreatDoor.Wire (S S_list S_size S_append U cell_row frozen_row row_lt heap_set)
open Go.Proofs.YtkccdffccjgajaaGreatDoor.Frame

set_option maxRecDepth 100000 in
set_option maxHeartbeats 4000000 in
theorem heads_law (g q : Int) (s nm : ByteArray) (w : World) (w0 : (Lit.int .i64 g).wf = true) (w1 : (Lit.int .i64 q).wf = true) (w2 : s.size ≤ maxLen) (w3 : nm.size ≤ maxLen) (E : Env w) :
    Calls Tryz.prog 4 #[.int .i64 g, .int .i64 q, .string s, .string nm] w fun e w' => e = .returned (.bool true) ∧ Below w.heap.size w w' := by
  have HAW := Lib.hid (fun W EW => awake_any W EW)
  have HE := Lib.hid E
  clear E w0 w1
  by_cases hs : 20000 < s.size
  · have z1 : (20000 : Int) < (s.size : Int) := by omega
    clear w2 w3
    go_enter Tryz.func4, Tryz.ntmps4
    go_wp2_with fail
    refine (HAW.out w HE.out).mono ?_
    rintro e w1 ⟨rfl, hb⟩
    go_wp2_with fail
    go_ret
    exact ⟨rfl, hb⟩
  · have z0 : decide ((20000 : Int) < (s.size : Int)) = false := decide_eq_false (by omega)
    have z1 : decide (20000 < s.size) = false := decide_eq_false (by omega)
    by_cases hn : 200 < nm.size
    · have y1 : (200 : Int) < (nm.size : Int) := by omega
      clear w2 w3 hs
      go_enter Tryz.func4, Tryz.ntmps4
      go_wp2_with fail
      refine (HAW.out w HE.out).mono ?_
      rintro e w1 ⟨rfl, hb⟩
      go_wp2_with fail
      go_ret
      exact ⟨rfl, hb⟩
    · have y0 : decide ((200 : Int) < (nm.size : Int)) = false := decide_eq_false (by omega)
      have y1 : decide (200 < nm.size) = false := decide_eq_false (by omega)
      have H1 := Lib.hid (fun W => Header_any q W)
      have H2 := Lib.hid (fun W => refHeader_any q W)
      have H3 := Lib.hid (fun W => First_any s (by omega) W)
      have H4 := Lib.hid (fun W => refFirst_any s (by omega) W)
      have H5 := Lib.hid (fun W EW => Named_any nm (by omega) W EW)
      have H6 : Hid (∀ W, Calls Tryz.prog 23 #[.string nm] W fun e w' => e = .returned (.tuple #[.int .i64 (namedR nm.data.toList).1, .int .i64 (namedR nm.data.toList).2.1, .bool (namedR nm.data.toList).2.2]) ∧ W = w') := Lib.hid (fun W => refNamed_any nm W)
      have H7 := Lib.hid (fun W EW => Name_any g q W EW)
      have H8 := Lib.hid (fun W => refName_any g q W)
      clear w2 w3 hs hn
      generalize S (hdB q) = a at *
      generalize hdE q = b at *
      generalize fiQ s.data.toList = c at *
      generalize fiE s.data.toList = d at *
      generalize (namedR nm.data.toList).1 = n1 at *
      generalize (namedR nm.data.toList).2.1 = n2 at *
      generalize (namedR nm.data.toList).2.2 = n3 at *
      generalize S (nameE g q) = N at *
      go_enter Tryz.func4, Tryz.ntmps4
      go_wp2_with fail
      refine (H1.out w).mono ?_
      rintro e w1 ⟨rfl, hb⟩
      have HB := Lib.hid hb; clear hb
      go_wp2_with fail
      refine (H2.out _).mono ?_
      rintro e w2 ⟨rfl, hb⟩
      replace HB := Lib.hid (HB.out.trans (hb.mono HB.out.size)); clear hb
      go_wp2_with fail
      refine (H3.out _).mono ?_
      rintro e w3 ⟨rfl, hb⟩
      replace HB := Lib.hid (HB.out.trans (hb.mono HB.out.size)); clear hb
      go_wp2_with fail
      refine (H4.out _).mono ?_
      rintro e w4 ⟨rfl, hb⟩
      replace HB := Lib.hid (HB.out.trans (hb.mono HB.out.size)); clear hb
      go_wp2_with fail
      refine (H5.out _ (HE.out.over HB.out)).mono ?_
      rintro e w5 ⟨rfl, hb⟩
      replace HB := Lib.hid (HB.out.trans (hb.mono HB.out.size)); clear hb
      go_wp2_with fail
      refine (H6.out _).mono ?_
      rintro e w6 ⟨rfl, rfl⟩
      go_wp2_with fail
      refine (H7.out _ (HE.out.over HB.out)).mono ?_
      rintro e w7 ⟨rfl, hb⟩
      replace HB := Lib.hid (HB.out.trans (hb.mono HB.out.size)); clear hb
      go_wp2_with fail
      refine (H8.out _).mono ?_
      rintro e w8 ⟨rfl, hb⟩
      replace HB := Lib.hid (HB.out.trans (hb.mono HB.out.size)); clear hb
      go_wp2_with fail
      refine (HAW.out _ (HE.out.over HB.out)).mono ?_
      rintro e w9 ⟨rfl, hb⟩
      replace HB := Lib.hid (HB.out.trans (hb.mono HB.out.size)); clear hb
      go_wp2_with fail
      go_ret
      exact ⟨rfl, HB.out⟩
end Go.Proofs.YtkccdffccjgajaaGreatDoor.Seg
