import Derived.Test.YtddjoealckhepaaH
/-
  What is done to a disk: Append.
-/
namespace Go.Proofs.Ytddjoealckhepaa.Disk
open Go Go.RowKit Go.Maps

def appendD (d : Dk) (n : Nm) (s : List UInt8) : Nat × Dk :=
  if d.gone then (45, d) else match get d.l n with
    | none => (5, d)
    | some f => if 1048576 < f.b.length + s.length ∨ d.cap < used d.l + s.length then (44, d) else (cntE d, { cntD d (put n ⟨f.b ++ s, f.g⟩ d.l) with l := put n ⟨f.b ++ s, f.g⟩ d.l })
theorem below_on {u v w : World} {k : Nat} (hs : u.heap.size = k) (h : Below k u v) (hb : Below v.heap.size v w) : Below k u w := h.trans (hb.mono (by have := h.size; omega))

set_option maxRecDepth 100000 in
set_option maxHeartbeats 1000000 in
theorem append_any (a b : Nat) (d : Dk) (n : Nm) (hn : n.length ≤ maxLen) (s : List UInt8) (hs : s.length ≤ maxLen) (w : World) (h : DkAt w a b d) :
    Calls Try.prog 18 #[.pointer (some ⟨a, 0, none⟩), .string (S n), .string (S s)] w (Res a b (appendD d n s) w) := by
  have hmx : Try.prog.follows .mixedOrders = true := by kernel_rfl
  have eg := enters_of Try.func50 (by kernel_rfl) rfl
  have HA := Lib.hid h.lt.1
  have HN := Lib.hid hn
  have HSL := Lib.hid hs
  have HX : Hid (∀ W0, W0 = (((w.alloc (.cells #[.pointer (some ⟨a, 0, none⟩)] 25)).alloc (.cells #[.string (S n)] 9)).alloc (.cells #[.string (S s)] 9)) → DkAt W0 a b d ∧ Bx W0 (w.heap.size) #[.pointer (some ⟨a, 0, none⟩)] ∧ Bx W0 (w.heap.size + 1) #[.string (S n)] ∧ Bx W0 (w.heap.size + 2) #[.string (S s)] ∧ Tn a b w W0) := fun W0 e => by
    subst e
    exact ⟨(((h.new _).new _).new _), bx3_0 _ _ _ _ _ _ _, bx3_1 _ _ _ _ _ _ _, bx3_2 _ _ _ _ _ _ _, ((((Tn.refl _ _ _).new _).new _).new _)⟩
  clear h hn hs
  go_enter Try.func18, Try.ntmps18
  go_wp2_with fail
  generalize hW : (((w.alloc (.cells #[.pointer (some ⟨a, 0, none⟩)] 25)).alloc (.cells #[.string (S n)] 9)).alloc (.cells #[.string (S s)] 9)) = W0
  obtain ⟨hd0, hb0, hb1, hb2, ht0⟩ := HX.out W0 hW.symm
  have HD := Lib.hid hd0
  have HB0 := Lib.hid hb0
  have HB1 := Lib.hid hb1
  have HB2 := Lib.hid hb2
  have HT := Lib.hid ht0
  clear HX hW hd0 ht0 hb0 hb1 hb2
  refine (find_any a b d n HN.out W0 HD.out).mono ?_
  rintro z w2 ⟨rfl, hb⟩
  replace HD := Lib.hid (HD.out.below hb)
  replace HB0 := Lib.hid (HB0.out.below hb)
  replace HB1 := Lib.hid (HB1.out.below hb)
  replace HB2 := Lib.hid (HB2.out.below hb)
  replace HT := Lib.hid (HT.out.step hb)
  clear hb
  have e0 := HB0.out.cell 0
  have e1 := HB1.out.cell 0
  have e2 := HB2.out.cell 0
  obtain ⟨c0, c1, c2, c3, c4⟩ := HD.out.cell
  simp only [List.getElem?_toArray, List.getElem?_cons_zero] at e0 e1 e2
  cases hg : d.gone with
  | true =>
    have HR := Lib.hid (show appendD d n s = (45, d) by simp [appendD, hg])
    rw [show fndF d n = ⟨[], 0⟩ by simp [fndF, hg, Disk.f0], show fndE d n = 45 by simp [fndE, hg]]
    unfold fV S
    clear hg 
    go_wp2_with fail
    go_ret
    exact res_stay HR.out (HD.out.new _) (HT.out.new _)
  | false =>
    cases hf : get d.l n with
    | none =>
      have HR := Lib.hid (show appendD d n s = (5, d) by simp [appendD, hg, hf])
      rw [show fndF d n = ⟨[], 0⟩ by simp [fndF, hg, hf, Disk.f0], show fndE d n = 5 by simp [fndE, hg, hf]]
      unfold fV S
      clear hg hf
      go_wp2_with fail
      go_ret
      exact res_stay HR.out (HD.out.new _) (HT.out.new _)
    | some f =>
      have HF := Lib.hid hf
      have HG := Lib.hid hg
      have HFO := Lib.hid (HD.out.ok.fs _ (get_mem hf))
      rw [show fndF d n = f by simp [fndF, hg, hf], show fndE d n = 0 by simp [fndE, hg, hf]]
      obtain ⟨fb, fg⟩ := f
      unfold fV
      have g0 : ∀ o : Obj, (w2.alloc o).cell? ⟨w.heap.size, 0, none⟩ = some (.pointer (some ⟨a, 0, none⟩)) := fun o => (HB0.out.new o).cell 0
      have g1 : ∀ o : Obj, (w2.alloc o).cell? ⟨w.heap.size + 1, 0, none⟩ = some (.string (S n)) := fun o => (HB1.out.new o).cell 0
      have g2 : ∀ o : Obj, (w2.alloc o).cell? ⟨w.heap.size + 2, 0, none⟩ = some (.string (S s)) := fun o => (HB2.out.new o).cell 0
      clear hg hf
      have hfl := HFO.out.2
      have gf : (w2.alloc (.cells #[.string (S fb), .int .i64 (fg : Int)] 78)).cell? ⟨w2.heap.size, 0, none⟩ = some (.string (S fb)) := (bx_new w2 _ _).cell 0
      have HA2 := Lib.hid HD.out.lt.1
      have z0 : IntKind.i64.wrap (1048576 - ((S fb).size : Int)) = 1048576 - ((S fb).size : Int) := by rw [IntKind.wrap_i64]; have := S_size fb; simp only at hfl; omega
      by_cases hbig : 1048576 < fb.length + s.length
      · have HR := Lib.hid (show appendD d n s = (44, d) by unfold appendD; rw [HG.out, HF.out]; simp [hbig])
        have z : (1048576 - ((S fb).size : Int) < ((S s).size : Int)) := by have := S_size fb; have := S_size s; omega
        clear hbig hfl
        go_wp2_with fail
        go_quiet (fail)
        go_wp2_with fail
        go_ret
        exact res_stay HR.out ((HD.out.new _).dn _) ((HT.out.new _).dn _)
      · have z : ¬ (1048576 - ((S fb).size : Int) < ((S s).size : Int)) := by have := S_size fb; have := S_size s; omega
        have zd : decide (1048576 - ((S fb).size : Int) < ((S s).size : Int)) = false := decide_eq_false z
        have HS1 := Lib.hid hbig
        have hcap := HD.out.ok.cap
        have hus := HD.out.ok.used
        have z2 : IntKind.i64.wrap ((d.cap : Int) - (used d.l : Int)) = (d.cap : Int) - (used d.l : Int) := by rw [IntKind.wrap_i64]; omega
        have HS : Hid (∀ w' : World, Below (w2.heap.size + 1) (w2.alloc (.cells #[.string (S fb), .int .i64 (fg : Int)] 78)) w' → Below (w2.heap.size + 1) (w2.alloc (.cells #[.string (S fb), .int .i64 (fg : Int)] 78)) w' ∧ DkAt w' a b d ∧ w'.cell? ⟨w.heap.size, 0, none⟩ = some (.pointer (some ⟨a, 0, none⟩)) ∧ w'.cell? ⟨w.heap.size + 2, 0, none⟩ = some (.string (S s)) ∧ w'.cell? ⟨w2.heap.size, 0, none⟩ = some (.string (S fb)) ∧ w'.cell? ⟨a, 0, none⟩ = some (.int .i64 (d.cap : Int))) := fun w' hb => by
          have hb' : Below (w2.alloc (.cells #[.string (S fb), .int .i64 (fg : Int)] 78)).heap.size (w2.alloc (.cells #[.string (S fb), .int .i64 (fg : Int)] 78)) w' := by simpa using hb
          exact ⟨hb, (HD.out.new _).below hb', ((HB0.out.new _).below hb').cell 0, ((HB2.out.new _).below hb').cell 0, ((bx_new w2 _ _).below hb').cell 0, ((HD.out.new _).below hb').cell.1⟩
        have hb0 : Below (w2.heap.size + 1) (w2.alloc (.cells #[.string (S fb), .int .i64 (fg : Int)] 78)) (w2.alloc (.cells #[.string (S fb), .int .i64 (fg : Int)] 78)) := Below.refl _ _
        obtain ⟨-, -, q3, q4, q5, q6⟩ := HS.out _ hb0
        obtain ⟨r1, r2, -⟩ := HS.out _ hb0.drew
        have HU : Hid (∀ w' : World, DkAt w' a b d → Calls Try.prog 26 #[.pointer (some ⟨a, 0, none⟩)] w' fun z w'' => z = .returned (.int .i64 (used d.l : Int)) ∧ Below w'.heap.size w' w'') := fun w' h' => used_any a b d w' h'
        have HSZ := Lib.hid (show (w2.alloc (.cells #[.string (S fb), .int .i64 (fg : Int)] 78)).heap.size = w2.heap.size + 1 by simp)
        clear hbig hfl hb0
        go_wp2_with fail
        go_region_held3 (fun w' => Below (w2.heap.size + 1) (w2.alloc (.cells #[.string (S fb), .int .i64 (fg : Int)] 78)) w' ∧ DkAt w' a b d ∧ w'.cell? ⟨w.heap.size, 0, none⟩ = some (.pointer (some ⟨a, 0, none⟩)) ∧ w'.cell? ⟨w.heap.size + 2, 0, none⟩ = some (.string (S s)) ∧ w'.cell? ⟨w2.heap.size, 0, none⟩ = some (.string (S fb)) ∧ w'.cell? ⟨a, 0, none⟩ = some (.int .i64 (d.cap : Int)))
          (first | assumption | (refine ⟨?_, ?_, ?_, ?_, ?_, ?_⟩ <;> assumption) | go_keep)
          ((first | (go_at_call 26; refine (HU.out _ (by assumption)).mono ?_; rintro z w' ⟨rfl, hb4⟩; obtain ⟨p1, p2, p3, p4, p5, p6⟩ := HS.out w' (below_on HSZ.out (by assumption) hb4); clear hb4)))
        all_goals
          clear r1 r2 q3 q4 q5 q6 e0 e1 e2 c0 c1 c2 c3 c4 g0 g1 g2 gf
          have HD4 := Lib.hid (show DkAt _ a b d by assumption)
          have hbl := (show Below (w2.heap.size + 1) (w2.alloc (.cells #[.string (S fb), .int .i64 (fg : Int)] 78)) _ by assumption)
          have hbl2 := (show Below (w2.alloc (.cells #[.string (S fb), .int .i64 (fg : Int)] 78)).heap.size (w2.alloc (.cells #[.string (S fb), .int .i64 (fg : Int)] 78)) _ by rw [HSZ.out]; exact hbl)
          have HT4 := Lib.hid ((HT.out.new _).step hbl2)
          have HB40 := Lib.hid ((HB0.out.new _).below hbl2)
          have HB41 := Lib.hid ((HB1.out.new _).below hbl2)
          have HB42 := Lib.hid ((HB2.out.new _).below hbl2)
          have HBF4 := Lib.hid ((bx_new w2 _ _).below hbl2)
          clear HS HU hbl hbl2
          have e0 := HB40.out.cell 0
          simp only [List.getElem?_toArray, List.getElem?_cons_zero] at e0
          by_cases hroom : d.cap < used d.l + s.length
          · have HR := Lib.hid (show appendD d n s = (44, d) by unfold appendD; rw [HG.out, HF.out]; simp [hroom])
            have zr : decide ((d.cap : Int) - (used d.l : Int) < ((S s).size : Int)) = true := decide_eq_true (by have := S_size s; omega)
            have zr2 : (d.cap : Int) - (used d.l : Int) < ((S s).size : Int) := by have := S_size s; omega
            clear hroom
            go_wp2_with fail
            go_ret
            exact res_stay HR.out HD4.out HT4.out
          · have hfl := HFO.out
            have HR := Lib.hid (show appendD d n s = (cntE d, { cntD d (put n ⟨fb ++ s, fg⟩ d.l) with l := put n ⟨fb ++ s, fg⟩ d.l }) by unfold appendD; rw [HG.out, HF.out]; simp [hroom, HS1.out])
            have zr : decide ((d.cap : Int) - (used d.l : Int) < ((S s).size : Int)) = false := decide_eq_false (by have := S_size s; omega)
            have zr2 : ¬ (d.cap : Int) - (used d.l : Int) < ((S s).size : Int) := by have := S_size s; omega
            have HFN := Lib.hid (show (⟨fb ++ s, fg⟩ : F).ok from by
              have h1 := hfl.1
              have h2 := HS1.out
              simp only at h1
              exact ⟨by simp only [List.length_append]; omega, by simp only [List.length_append]; omega⟩)
            have HO := Lib.hid (show ({ d with l := put n ⟨fb ++ s, fg⟩ d.l } : Dk).ok from by
              have h1 := put_len HD4.out.ok.up n ⟨fb ++ s, fg⟩
              have h2 := used_put HD4.out.ok.up n ⟨fb ++ s, fg⟩
              rw [HF.out] at h1 h2
              simp only [Option.isSome_some, if_true, Option.getD_some, List.length_append] at h1 h2
              exact HD4.out.ok.put (n := n) (HD4.out.ok.nm _ (get_mem HF.out)) HFN.out (by rw [h1]; exact HD4.out.ok.len) (by omega))
            have HC := Lib.hid (count_any a b 50 #[.pointer (some ⟨w2.heap.size, 0, none⟩), .pointer (some ⟨w.heap.size + 2, 0, none⟩), .pointer (some ⟨w.heap.size, 0, none⟩), .pointer (some ⟨w.heap.size + 1, 0, none⟩)] d (put n ⟨fb ++ s, fg⟩ d.l) _ HD4.out eg (fun W hW ht =>
              append1_any a b _ _ _ _ { d with left := d.left - 1 } n HN.out fb fg s HFN.out W hW (HBF4.out.tn HD4.out (by have := HA2.out; omega) ht) (HB42.out.tn HD4.out (by have := HA.out; omega) ht) (HB40.out.tn HD4.out (by have := HA.out; omega) ht) (HB41.out.tn HD4.out (by have := HA.out; omega) ht) HO.out.step))
            clear hroom hfl zd z0 z2 z hcap hus
            go_wp2_with fail
            refine HC.out.mono ?_
            rintro z w4 ⟨rfl, h5, h6⟩
            have H5 := Lib.hid h5
            have H6 := Lib.hid h6
            have E0 := Lib.hid ((HB40.out.tn HD4.out (by have := HA.out; omega) h6))
            have E1 := Lib.hid ((HB41.out.tn HD4.out (by have := HA.out; omega) h6))
            have E2 := Lib.hid ((HB42.out.tn HD4.out (by have := HA.out; omega) h6))
            have EF := Lib.hid ((HBF4.out.tn HD4.out (by have := HA2.out; omega) h6))
            clear h5 h6
            by_cases hct : d.cut = true ∧ d.left = 0
            · have hE : cntE d = 45 := if_pos hct
              have hDD : cntD d (put n ⟨fb ++ s, fg⟩ d.l) = { d with gone := true } := if_pos hct
              have HEE := Lib.hid hE
              have HDD := Lib.hid hDD
              rw [hE]
              rw [hDD] at H5
              have HA5 := Lib.hid (append1_any a b _ _ _ _ { d with gone := true } n HN.out fb fg s HFN.out w4 H5.out EF.out E2.out E0.out E1.out { HO.out with })
              clear hE hDD hct
              go_wp2_with (first
                | (go_at_call 50; refine HA5.out.mono ?_; rintro z w5 ⟨rfl, h7, h8⟩; have H7 := Lib.hid h7; have H8 := Lib.hid h8; clear h7 h8)
                | go_in)
              go_ret
              rw [HR.out, HEE.out, HDD.out]
              exact ⟨rfl, H7.out, (HT4.out.trans H6.out).trans H8.out⟩
            · have hE : cntE d = 0 := if_neg hct
              have hDD : cntD d (put n ⟨fb ++ s, fg⟩ d.l) = { d with left := d.left - 1, l := put n ⟨fb ++ s, fg⟩ d.l } := if_neg hct
              have HEE := Lib.hid hE
              have HDD := Lib.hid hDD
              rw [hE]
              rw [hDD] at H5
              clear hE hDD hct
              go_wp2_with fail
              go_ret
              rw [HR.out, HEE.out, HDD.out]
              exact ⟨rfl, H5.out, HT4.out.trans H6.out⟩
end Go.Proofs.Ytddjoealckhepaa.Disk
