import Derived.Test.YtiibeemjkdipnaaDoorHK
/-
  The examples of layer 8: works.
-/
namespace Go.Proofs.YtiibeemjkdipnaaDoor.Batch
open Go Go.RowKit
open Go.Proofs.YtiibeemjkdipnaaDoor.Schema
open Go.Proofs.YtiibeemjkdipnaaDoor.Upcast (ev0 ev_lit row_one event_any)

theorem lit50 (w : World) : EvAt (w.alloc (.cells #[.int .i64 50] 2)) (some ⟨w.heap.size, 0, none⟩) 1 none 0 e50 := ev_lit w 3 20 [50] (by decide) (by decide) (by decide)
theorem lit55 (w : World) : EvAt (w.alloc (.cells #[.int .i64 55] 2)) (some ⟨w.heap.size, 0, none⟩) 1 none 0 e55 := ev_lit w 3 20 [55] (by decide) (by decide) (by decide)
def xl (q : Nat) (e : Ev) : Lx := ⟨some ⟨q, 0, none⟩, 1, none, 0, e⟩
theorem row50 (w : World) (q : Nat) (h : EvAt w (some ⟨q, 0, none⟩) 1 none 0 e50) : Row (w.alloc (.cells #[.int .u8 3, .int .u8 20, .slice (some ⟨q, 0, none⟩) 1 1, .slice none 0 0] 27)) (some ⟨w.heap.size, 0, none⟩) [xl q e50] := row_one w (xl q e50) h
theorem row55 (w : World) (q : Nat) (h : EvAt w (some ⟨q, 0, none⟩) 1 none 0 e55) : Row (w.alloc (.cells #[.int .u8 3, .int .u8 20, .slice (some ⟨q, 0, none⟩) 1 1, .slice none 0 0] 27)) (some ⟨w.heap.size, 0, none⟩) [xl q e55] := row_one w (xl q e55) h
theorem one_small (q : Nat) (e : Ev) (h : e.ns.length ≤ 10) : ∀ x ∈ [xl q e], x.e.ns.length ≤ 140737488355328 := fun x hx => by rw [List.mem_singleton.1 hx]; show e.ns.length ≤ _; omega
theorem enc50 (w : World) (A : Option Addr) (q : Nat) (hX : Row w A [xl q e50]) (E : Env w) : Calls Tryd.prog 9 #[.slice A 1 1] w fun z w' => z = .returned (.tuple #[.string ⟨#[3, 1, 20, 50]⟩, .int .i64 0]) ∧ Below w.heap.size w w' := by
  have h := Encode_any A 1 [xl q e50] (by show 1 ≤ _; omega) (one_small q e50 (by decide)) w hX E
  rw [show [xl q e50].map (·.e) = [e50] from rfl, x1, x2] at h
  exact h
theorem enc_none (w : World) (E : Env w) : Calls Tryd.prog 9 #[.slice none 0 0] w fun z w' => z = .returned (.tuple #[.string ⟨#[]⟩, .int .i64 4]) ∧ Below w.heap.size w w' :=
  Encode_any none 0 [] (by decide) (fun x hx => by cases hx) w (Row.nil _ _) E
theorem says50 (w : World) (A : Option Addr) (q : Nat) (hX : Row w A [xl q e50]) (E : Env w) : Calls Tryd.prog 15 #[.slice A 1 1, .int .u8 1, .string ⟨#[1, 1, 20, 5]⟩] w fun z w' => z = .returned (.bool true) ∧ Below w.heap.size w w' :=
  says_yes A 1 [xl q e50] 1 _ x3.1 x3.2 (by decide) (by show 1 ≤ _; omega) (one_small q e50 (by decide)) w hX E
theorem says55 (w : World) (A : Option Addr) (q : Nat) (hX : Row w A [xl q e55]) (E : Env w) : Calls Tryd.prog 15 #[.slice A 1 1, .int .u8 1, .string ⟨#[3, 1, 20, 55]⟩] w fun z w' => z = .returned (.bool true) ∧ Below w.heap.size w w' :=
  says_yes A 1 [xl q e55] 1 _ x4.1 x4.2 (by decide) (by show 1 ≤ _; omega) (one_small q e55 (by decide)) w hX E
theorem str_eq4 : (ByteArray.toList ⟨#[3, 1, 20, 50]⟩ == ByteArray.toList ⟨#[3, 1, 20, 50]⟩) = true := toList_self _

set_option maxRecDepth 100000 in
set_option maxHeartbeats 2000000 in
theorem works_any (w : World) (E : Env w) : Calls Tryd.prog 7 #[] w fun z w' => z = .returned (.bool true) ∧ Below w.heap.size w w' := by
  have HE := Lib.hid E
  clear E
  go_enter Tryd.func7, Tryd.ntmps7
  go_wp2_with fail
  have hb := (Below.refl w.heap.size w).alloc (Nat.le_refl _) (.cells #[.int .i64 50] 2)
  refine (event_any 3 20 _ 1 1 _).mono ?_
  rintro z W1 ⟨rfl, hb1⟩
  have HA := Lib.hid ((lit50 w).below hb1)
  have HB := Lib.hid (below_step hb hb1)
  clear hb hb1
  generalize w.heap.size = q at HA ⊢
  go_wp2_with fail
  have hb := (Below.refl W1.heap.size W1).alloc (Nat.le_refl _) (.cells #[.int .u8 3, .int .u8 20, .slice (some ⟨q, 0, none⟩) 1 1, .slice none 0 0] 27)
  refine (list_any _ 1 1 _).mono ?_
  rintro z W2 ⟨rfl, hb1⟩
  have HR := Lib.hid ((row50 W1 q HA.out).below hb1)
  replace HB := Lib.hid (below_step HB.out (below_step hb hb1))
  clear hb hb1 HA
  generalize W1.heap.size = q1 at HR ⊢
  have hc := enc50 W2 _ q HR.out (HE.out.below HB.out)
  go_wp2_with fail
  refine hc.mono ?_
  rintro z W3 ⟨rfl, hb⟩
  replace HR := Lib.hid (HR.out.below hb)
  replace HB := Lib.hid (below_step HB.out hb)
  clear hb hc
  go_wp2_with fail
  refine (enc_none W3 (HE.out.below HB.out)).mono ?_
  rintro z W4 ⟨rfl, hb⟩
  replace HR := Lib.hid (HR.out.below hb)
  replace HB := Lib.hid (below_step HB.out hb)
  clear hb
  have hs := str_eq4
  go_wp2_with fail
  refine (says50 W4 _ q HR.out (HE.out.below HB.out)).mono ?_
  rintro z W5 ⟨rfl, hb⟩
  replace HB := Lib.hid (below_step HB.out hb)
  clear hb HR hs
  go_wp2_with fail
  have hb := (Below.refl W5.heap.size W5).alloc (Nat.le_refl _) (.cells #[.int .i64 55] 2)
  refine (event_any 3 20 _ 1 1 _).mono ?_
  rintro z W6 ⟨rfl, hb1⟩
  have HA := Lib.hid ((lit55 W5).below hb1)
  replace HB := Lib.hid (below_step HB.out (below_step hb hb1))
  clear hb hb1
  generalize W5.heap.size = q2 at HA ⊢
  go_wp2_with fail
  have hb := (Below.refl W6.heap.size W6).alloc (Nat.le_refl _) (.cells #[.int .u8 3, .int .u8 20, .slice (some ⟨q2, 0, none⟩) 1 1, .slice none 0 0] 27)
  refine (list_any _ 1 1 _).mono ?_
  rintro z W7 ⟨rfl, hb1⟩
  have HR := Lib.hid ((row55 W6 q2 HA.out).below hb1)
  replace HB := Lib.hid (below_step HB.out (below_step hb hb1))
  clear hb hb1 HA
  generalize W6.heap.size = q3 at HR ⊢
  have hc := says55 W7 _ q2 HR.out (HE.out.below HB.out)
  go_wp2_with fail
  refine hc.mono ?_
  rintro z W8 ⟨rfl, hb⟩
  replace HB := Lib.hid (below_step HB.out hb)
  clear hb hc HR
  go_wp2_with fail
  refine (refused_yes ⟨#[3, 0]⟩ 4 x5 (by decide) (by decide) W8 (HE.out.below HB.out)).mono ?_
  rintro z W9 ⟨rfl, hb⟩
  replace HB := Lib.hid (below_step HB.out hb)
  clear hb
  go_wp2_with fail
  refine (refused_yes ⟨#[3, 41]⟩ 40 x6 (by decide) (by decide) W9 (HE.out.below HB.out)).mono ?_
  rintro z W10 ⟨rfl, hb⟩
  replace HB := Lib.hid (below_step HB.out hb)
  clear hb
  go_wp2_with fail
  go_ret
  exact ⟨rfl, HB.out⟩
end Go.Proofs.YtiibeemjkdipnaaDoor.Batch
