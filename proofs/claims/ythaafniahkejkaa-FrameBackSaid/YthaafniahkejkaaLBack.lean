import Derived.Test.YthaafniahkejkaaSA
import Derived.Test.YthaafniahkejkaaLBurst
import Derived.BigQuiet
import Derived.Deep.QuietTactic
/-
  The walk of the statement FrameBack.
-/
namespace Go.Proofs.Ythaafniahkejkaa.Frame
open Go Go.RowKit
open Go.Proofs.Ythaafniahkejkaa.Wire (S S_list S_size cell_row frozen_row row_lt)

theorem wrap_small (n : Nat) (h : n ≤ 100000000000000) : wrap64 (n : Int) = (n : Int) := IntWalk.wrap64_in _ ⟨by omega, by omega⟩
theorem sum_step (xs : List ByteArray) (i : Nat) (z : Int) (hi : i < xs.length) (hz : z < 12000) (h : Small xs i → z = (RB xs i : Int)) : Small xs (i + 1) → wrap64 (wrap64 (z + 16) + (xs[i].size : Int)) = (RB xs (i + 1) : Int) := fun hs => by
  have h1 := h (fun j hj hji => hs j hj (by omega))
  have h2 := hs i hi (by omega)
  rw [IntWalk.wrap64_in (z + 16) ⟨by omega, by omega⟩, IntWalk.wrap64_in _ ⟨by omega, by omega⟩, RB_succ xs i hi]
  omega

theorem rowB_min : ∀ (ps : List (List UInt8)) (q : Nat), ps.length ≤ (rowB q ps).length
  | [], _ => Nat.zero_le _
  | p :: r, q => by
    have := rowB_min r (q + 1)
    rw [rowB, List.length_append, frB_length, List.length_cons]; omega
set_option maxRecDepth 100000 in
set_option maxHeartbeats 8000000 in
theorem back_law (A : Option Addr) (cap : Nat) (xs : List ByteArray) (first cut : Int) (bh : ByteArray) (hf : (Lit.int .i64 first).wf = true) (hl : xs.length ≤ cap) (hc : cap ≤ maxLen) (w : World) (hx : Strs w A xs) :
    Calls Try.prog 6 #[.slice A xs.length cap, .int .i64 first, .int .i64 cut, .string bh] w fun e w' => e = .returned (.bool true) ∧ Below w.heap.size w w' := by
  have HW := Lib.hid (fun W => works_any W)
  have HX := Lib.hid hx
  have HF := Lib.hid (i64_of hf)
  have HFW := Lib.hid hf
  have HL := Lib.hid (Nat.le_trans hl hc)
  have HAL := Lib.hid (show ∀ (j : Nat) (_ : j < xs.length) (b o : Nat), A = some ⟨b, o, none⟩ → b < w.heap.size from fun j hj b o e => by obtain ⟨b', o', e', h1, _⟩ := hx j hj; rw [e'] at e; injection e with e; injection e with e1; omega)
  clear hf hl hc hx
  go_enter Try.func6, Try.ntmps6
  go_wp2_with fail
  go_loop [9, 10] (fun n y => ∃ (i : Nat) (z : Int), i ≤ xs.length ∧ n = .int .i64 z ∧ y = .int .i64 (i : Int) ∧ Hid (Small xs i → z = (RB xs i : Int))) (fun _ y => xs.length - (intOf y).toNat)
  case atStart => exact ⟨0, 0, Nat.zero_le _, rfl, rfl, Lib.hid (fun _ => by rw [RB_zero]; rfl)⟩
  case round =>
    obtain ⟨i, z, hi, rfl, rfl, HZ⟩ := hrel
    by_cases hgo : i < xs.length ∧ z < 12000
    · obtain ⟨hlt, hz⟩ := hgo
      obtain ⟨b, o, hA, hb, hs, c0⟩ := HX.out i hlt
      subst hA
      have HST := Lib.hid (sum_step xs i z hlt hz HZ.out)
      have HI1 : Hid (wrap64 ((i : Int) + 1) = (i : Int) + 1) := Lib.hid (IntWalk.wrap64_in _ ⟨by omega, by have := HL.out; unfold maxLen at this; omega⟩)
      have e1 : decide ((i : Int) < (xs.length : Int)) = true := decide_eq_true (by omega)
      have e2 : decide (z < 12000) = true := decide_eq_true hz
      have e3 : (i : Int) < (xs.length : Int) := by omega
      have e4 : (0 : Int) ≤ (i : Int) := by omega
      have HLT := Lib.hid hlt
      generalize xs[i] = x at *
      go_wp2_with fail
      rw [HI1.out]
      exact ⟨⟨i + 1, _, HLT.out, rfl, rfl, HST⟩, by show xs.length - ((i : Int) + 1).toNat < xs.length - (i : Int).toNat; have := HLT.out; omega⟩
    · -- behind the first loop
      have HEX : Hid (z < 12000 → i = xs.length) := Lib.hid (fun h => by omega)
      have hcond : ¬ ((i : Int) < (xs.length : Int)) ∨ ¬ (z < 12000) := by omega
      by_cases hz : 12000 ≤ z
      · have e1 : decide ((12000 : Int) ≤ z) = true := decide_eq_true hz
        have e2 : decide (z < 12000) = false := decide_eq_false (by omega)
        clear hgo hcond
        by_cases hii : (i : Int) < (xs.length : Int)
        · go_wp2_with fail
          refine (HW.out _).mono ?_
          rintro e w1 ⟨rfl, hb⟩
          have HB := Lib.hid hb; clear hb
          go_wp2_with fail
          refine (HW.out _).mono ?_
          rintro e w2 ⟨rfl, hb⟩
          replace HB := Lib.hid (HB.out.trans (hb.mono HB.out.size)); clear hb
          go_wp2_with fail
          go_ret
          exact ⟨rfl, HB.out⟩
        · go_wp2_with fail
          refine (HW.out _).mono ?_
          rintro e w1 ⟨rfl, hb⟩
          have HB := Lib.hid hb; clear hb
          go_wp2_with fail
          refine (HW.out _).mono ?_
          rintro e w2 ⟨rfl, hb⟩
          replace HB := Lib.hid (HB.out.trans (hb.mono HB.out.size)); clear hb
          go_wp2_with fail
          go_ret
          exact ⟨rfl, HB.out⟩
      · have hi2 : i = xs.length := HEX.out (by omega)
        subst hi2
        have e1 : decide ((12000 : Int) ≤ z) = false := decide_eq_false hz
        have e2 : decide (z < 12000) = true := decide_eq_true (by omega)
        have HSM : Hid (Small xs xs.length → RB xs xs.length < 12000) := Lib.hid (fun h => by have := HZ.out h; omega)
        clear hgo hcond HEX HZ hi
        by_cases hb3 : 3000 < bh.size
        · have e3 : decide ((3000 : Int) < (bh.size : Int)) = true := decide_eq_true (by omega)
          have e4 : (3000 : Int) < (bh.size : Int) := by omega
          go_wp2_with fail
          refine (HW.out _).mono ?_
          rintro e w1 ⟨rfl, hb⟩
          have HB := Lib.hid hb; clear hb
          go_wp2_with fail
          refine (HW.out _).mono ?_
          rintro e w2 ⟨rfl, hb⟩
          replace HB := Lib.hid (HB.out.trans (hb.mono HB.out.size)); clear hb
          go_wp2_with fail
          go_ret
          exact ⟨rfl, HB.out⟩
        · have e3 : decide ((3000 : Int) < (bh.size : Int)) = false := decide_eq_false (by omega)
          have e4 : decide (3000 < bh.size) = false := decide_eq_false hb3
          have HBH := Lib.hid (show bh.size ≤ 3000 by omega)
          clear hb3
          go_wp2_with fail
          refine (HW.out _).mono ?_
          rintro e w1 ⟨rfl, hb⟩
          have HB := Lib.hid hb
          have HX1 := Lib.hid (HX.out.below hb)
          clear hb HX
          go_wp2_with fail
          go_loopw [11, 12, 13] (fun s v y wr => ∃ (i : Nat), i ≤ xs.length ∧ y = .int .i64 (i : Int) ∧ s = .string (S (rowB first.toNat ((bytesP xs).take i))) ∧ Hid (OwnN wr w.heap.size v (endsB first.toNat ((bytesP xs).take i))) ∧ Hid (Good xs first i) ∧ Hid (Below w.heap.size w wr) ∧ Hid (Strs wr A xs)) (fun _ _ y _ => xs.length - (intOf y).toNat)
          case atStart => exact ⟨0, Nat.zero_le _, rfl, by rw [List.take_zero]; rfl, by rw [List.take_zero]; exact Lib.hid (OwnN.nil _ _), Lib.hid ⟨fun h => absurd h (by omega), fun h => absurd h (by omega), fun j _ h => absurd h (by omega)⟩, HB, HX1⟩
          case round =>
            clear HB HX1
            obtain ⟨i, hi, rfl, rfl, HO, HG, HB, HX1⟩ := hrel
            by_cases hlt : i < xs.length
            · obtain ⟨b, o, hA, hb, hs, c0⟩ := HX1.out i hlt
              subst hA
              have HLT := Lib.hid hlt
              have HI1 : Hid (wrap64 ((i : Int) + 1) = (i : Int) + 1) := Lib.hid (small64 i (Nat.le_trans HG.out.bound (by decide)))
              have g1 : decide ((i : Int) < (xs.length : Int)) = true := decide_eq_true (by omega)
              have g3 : (i : Int) < (xs.length : Int) := by omega
              have g4 : (0 : Int) ≤ (i : Int) := by omega
              have hrn := row_next xs first.toNat i hlt
              have HEN := Lib.hid (ends_next xs first.toNat i hlt)
              have hrs := RB_succ xs i hlt
              have hgn := HG.out.next hlt HF.out
              generalize xs[i]'hlt = x at hrn hrs hgn c0 hs
              have hmm := fun W => Make_all (wrap64 (first + (i : Int))) x W
              have HRN := Lib.hid hrn
              clear hrn
              by_cases hm : mkE (wrap64 (first + (i : Int))) x.data.toList = 0
              · obtain ⟨hg2, hq2⟩ := hgn hm
                have HG2 := Lib.hid hg2
                unfold mkV mkB at hmm
                rw [if_pos hm, hm] at hmm
                rw [hq2] at hmm
                rw [Int.toNat_natCast] at hmm
                have HMM := Lib.hid hmm
                have HQ2 := Lib.hid hq2
                clear hq2 hgn hmm
                have hbytes := Good.bytes (i + 1) hlt hg2
                have hbound := hg2.bound
                have HS1 : Hid ((S (rowB first.toNat ((bytesP xs).take i))).size = RB xs i) := Lib.hid (by rw [S_size, RB_any])
                have HS2 : Hid ((S (frB (first.toNat + i) x.data.toList)).size = 16 + x.size) := Lib.hid (by rw [S_size, frB_length, s_len])
                have HSUM : Hid (RB xs i + (16 + x.size) ≤ 10000000000) := Lib.hid (by rw [← hrs]; omega)
                have HCA : Hid (S (rowB first.toNat ((bytesP xs).take i)) ++ S (frB (first.toNat + i) x.data.toList) = S (rowB first.toNat ((bytesP xs).take (i + 1)))) := Lib.hid (by rw [HRN.out]; exact S_app _ _)
                have HS3 : Hid ((S (rowB first.toNat ((bytesP xs).take (i + 1)))).size = RB xs (i + 1)) := Lib.hid (by rw [S_size, RB_any])
                have HEL : Hid ((endsB first.toNat ((bytesP xs).take i)).length ≤ 2000000) := Lib.hid (by rw [endsB_len, List.length_take]; omega)
                clear hm hg2 hbytes hbound hrs
                generalize hP1 : S (rowB first.toNat ((bytesP xs).take i)) = P1 at *
                generalize hP2 : S (frB (first.toNat + i) x.data.toList) = P2 at *
                generalize hP3 : S (rowB first.toNat ((bytesP xs).take (i + 1))) = P3 at *
                generalize hEE : endsB first.toNat ((bytesP xs).take i) = E at *
                go_wp2_with fail
                rw [HQ2.out]
                refine (HMM.out _).mono ?_
                rintro e w2 ⟨rfl, hb2⟩
                have HB2 := Lib.hid hb2
                have hca : ∀ W, (Op.stringOp .add P1 P2).run Try.prog W = .ok (.string P3) W := fun W => by
                  rw [← HCA.out]; exact run_string_add_sum W _ _ (by rw [HS1.out, HS2.out]; exact Nat.le_trans HSUM.out (by decide))
                have hs3 := HS3.out
                have HB3 := Lib.hid (HB.out.trans (hb2.mono HB.out.size))
                have HB4 := Lib.hid (HB3.out.alloc HB3.out.size (.cells #[.int .i64 (RB xs (i + 1) : Int)] 3))
                have HOA := Lib.hid ((HO.out.below hb2).below ((Below.refl w2.heap.size w2).alloc (Nat.le_refl _) (.cells #[.int .i64 (RB xs (i + 1) : Int)] 3)))
                have HXA := Lib.hid ((HX1.out.below hb2).below ((Below.refl w2.heap.size w2).alloc (Nat.le_refl _) (.cells #[.int .i64 (RB xs (i + 1) : Int)] 3)))
                have HCL := Lib.hid (show (w2.alloc (.cells #[.int .i64 (RB xs (i + 1) : Int)] 3)).cell? ⟨w2.heap.size, 0, none⟩ = some (.int .i64 (RB xs (i + 1) : Int)) from cell_row (heap_alloc_new w2 (.cells #[.int .i64 (RB xs (i + 1) : Int)] 3)) 0)
                clear hb2 c0
                go_wp2_with (at_builtin; refine wpList_append_n rfl _ _ rfl w.heap.size u12 E rfl HOA.out w2.heap.size 1 (RB xs (i + 1)) rfl HCL.out HEL.out HB4.out.size ?_)
                intro v2 w3 ho3 hg3
                have HO3 := Lib.hid ho3
                have HB5 := Lib.hid (Below.grown HB4.out hg3 HB4.out.size (fun q hq => (World.ownsRow.lt HOA.out q hq).1))
                have HX3 : Hid (Strs w3 (some ⟨b, o, none⟩) xs) := Lib.hid (fun j hj => by
                  obtain ⟨b', o', e', h1, h2, h3⟩ := HXA.out j hj
                  injection e' with e'; injection e' with e1 e2 e3
                  subst e1 e2
                  refine ⟨b, o, rfl, Nat.lt_of_lt_of_le h1 hg3.size, h2, ?_⟩
                  rw [← h3]
                  exact World.cell?_of_block (hg3.block b h1 (fun e => by
                    have := (World.ownsRow.lt HOA.out b e.symm).1
                    have := HAL.out i HLT.out b o rfl; omega)))
                clear hg3 ho3 hs3 hca
                go_wp2_with fail
                go_roundw
                case rel => exact ⟨i + 1, HLT.out, by rw [HI1.out]; rfl, by rw [hP3], by rw [HEN.out]; exact HO3, HG2, HB5, HX3⟩
                case measure =>
                  rw [HI1.out]
                  show xs.length - ((i : Int) + 1).toNat < xs.length - (i : Int).toNat
                  have := HLT.out; omega
              · unfold mkV mkB at hmm
                rw [if_neg hm] at hmm
                obtain ⟨q1, q2, q3, q4, q5⟩ := nat_ne hm
                generalize mkE (wrap64 (first + (i : Int))) x.data.toList = em at *
                rw [show S [] = ⟨#[]⟩ from rfl] at hmm
                have HMM := Lib.hid hmm
                clear hmm hm hgn hrs
                go_wp2_with fail
                refine (HMM.out _).mono ?_
                rintro e w2 ⟨rfl, hb2⟩
                have HB2 := Lib.hid (HB.out.trans (hb2.mono HB.out.size))
                clear hb2 c0
                go_wp2_with fail
                go_ret
                exact ⟨rfl, HB2.out⟩
            · -- all of them are made
              obtain rfl : i = xs.length := by omega
              have g1 : decide ((xs.length : Int) < (xs.length : Int)) = false := decide_eq_false (by omega)
              have HRL := Lib.hid (HSM.out (fun j hj _ => (HG.out.ok j hj hj).2))
              rw [List.take_of_length_le (by rw [bytesP_len]; exact Nat.le_refl _)] at HO ⊢
              have HSL : Hid ((rowB first.toNat (bytesP xs)).length = RB xs xs.length) := Lib.hid (by
                rw [← RB_any xs first.toNat xs.length, List.take_of_length_le (by rw [bytesP_len]; exact Nat.le_refl _)])
              have HNL : Hid (xs.length ≤ 1000000) := Lib.hid (by
                have h1 := rowB_min (bytesP xs) first.toNat
                rw [HSL.out, bytesP_len] at h1
                have := HRL.out; omega)
              have hsc := fun W => Scan_any (S (rowB first.toNat (bytesP xs))) 0 (Nat.zero_le _) (by rw [S_size, HSL.out]; have := HRL.out; omega) first HFW.out W
              unfold ScR at hsc
              obtain ⟨M0, hM0, hM1⟩ := scan_good HG.out []
              rw [List.append_nil, hM1 rfl, List.append_nil] at hM0
              rw [S_list, List.drop_zero, hM0, bytesOf_row, HSL.out] at hsc
              have HSC := Lib.hid hsc
              have HCUT := Lib.hid (fun k => scan_goodcut HG.out k)
              have HBHD := Lib.hid (fun m => scan_good HG.out m)
              have HPS : Hid ((S (rowB first.toNat (bytesP xs))).size = RB xs xs.length) := Lib.hid (by rw [S_size, HSL.out])
              clear hsc hM0 hM1 M0
              obtain ⟨A2, cap2, rfl, hc2, hrow2⟩ := HO.out.row
              have HR2 := Lib.hid hrow2
              rw [endsB_len, bytesP_len]
              generalize hPP : S (rowB first.toNat (bytesP xs)) = P at *
              have hps := HPS.out
              clear hrow2 hc2 hi hlt
              go_wp2_with fail
              refine (HSC.out _).mono ?_
              rintro e w3 ⟨v1, rfl, ho1, hb3⟩
              obtain ⟨A1, c1, rfl, -, -, hrow1, -⟩ := ho1.row
              rw [rowF_length, bytesP_len]
              have HBK : Hid (Bk w w3 A A1 A2 xs first.toNat) := Lib.hid ⟨HX1.out.below hb3, hrow1, fun j hj => by
                obtain ⟨g, e1, h1, _, h3⟩ := HR2.out j hj
                exact ⟨g, e1, Nat.lt_of_lt_of_le h1 hb3.size, (hb3.cell (p := ⟨g, j, none⟩) h1).trans h3⟩, HB.out.trans (hb3.mono HB.out.size)⟩
              clear ho1 hrow1 hb3 HX1 HB HO HR2
              go_wp2_with fail
              go_loopw [18, 19] (fun f y wr => ∃ (i : Nat), i ≤ xs.length ∧ y = .int .i64 (i : Int) ∧ f = .int .i64 (RB xs i : Int) ∧ Hid (Bk w wr A A1 A2 xs first.toNat)) (fun _ y _ => xs.length - (intOf y).toNat)
              case atStart => exact ⟨0, Nat.zero_le _, rfl, by rw [RB_zero]; rfl, HBK⟩
              case round =>
                clear HBK
                obtain ⟨i, hi, rfl, rfl, HBK⟩ := hrel
                by_cases hlt : i < xs.length
                · obtain ⟨b, o, b1, o1, g, rfl, rfl, rfl, c0, l0, l1, l2, d0⟩ := HBK.out.at i hlt
                  have HLT := Lib.hid hlt
                  have hq := (HG.out.all (by omega)).2
                  have HQI : Hid (first + (i : Int) = ((first.toNat + i : Nat) : Int)) := Lib.hid (by omega)
                  have hb4 : first.toNat + i ≤ 1048576 := by have := HG.out.top (by omega); omega
                  have HW1 : Hid (IntKind.i64.wrap (first + (i : Int)) = ((first.toNat + i : Nat) : Int)) := Lib.hid (by rw [HQI.out]; exact IntWalk.i64_in _ ⟨by omega, by omega⟩)
                  have HW2 : Hid (wrap64 (first + (i : Int)) = ((first.toNat + i : Nat) : Int)) := Lib.hid (by rw [HQI.out]; exact IntWalk.wrap64_in _ ⟨by omega, by omega⟩)
                  have HI1 := Lib.hid (small64 i (by have := HNL.out; omega))
                  have f1 : decide ((i : Int) < (xs.length : Int)) = true := decide_eq_true (by omega)
                  have f2 : (i : Int) < (xs.length : Int) := by omega
                  have f3 : (0 : Int) ≤ (i : Int) := by omega
                  clear hq hb4
                  generalize hqi : first.toNat + i = qi at *
                  generalize xs[i]'hlt = x at *
                  have hmx : Try.prog.follows .mixedOrders = true := by kernel_rfl
                  have hw1 := HW1.out
                  have hw2 := HW2.out
                  go_wp2_with fail
                  go_big_quiet (fail)
                  go_wp2_with fail
                  rw [HI1.out]
                  exact ⟨⟨i + 1, HLT.out, rfl, rfl, Lib.hid (HBK.out.below (below_dn _ _ _))⟩, by show xs.length - ((i : Int) + 1).toNat < xs.length - (i : Int).toNat; have := HLT.out; omega⟩
                · obtain rfl : i = xs.length := by omega
                  clear hi hlt
                  obtain ⟨k, hk, hkw⟩ := rem_ok cut (RB xs xs.length + 1) (by omega) (by have := HRL.out; omega)
                  have HK := Lib.hid (show k ≤ RB xs xs.length by omega)
                  have HK1 : Hid (wrap64 ((RB xs xs.length : Int) + 1) = (RB xs xs.length : Int) + 1) := Lib.hid (small64 _ (by have := HRL.out; omega))
                  have HK2 : Hid (IntKind.u64.wrap ((RB xs xs.length : Int) + 1) = (RB xs xs.length : Int) + 1) := Lib.hid (by rw [IntKind.wrap_u64]; have := HRL.out; omega)
                  have HK3 : Hid (wrap64 ((IntKind.u64.wrap cut).tmod ((RB xs xs.length : Int) + 1)) = (k : Int)) := Lib.hid hkw
                  have kz : ((RB xs xs.length : Int) + 1 == 0) = false := beq_eq_false_iff_ne.2 (by omega)
                  have kz2 : ¬ (RB xs xs.length : Int) + 1 = 0 := by omega
                  have HSS := Lib.hid hPP
                  have hsl := fun W => slice_to (rowB first.toNat (bytesP xs)) k (by rw [HSL.out]; exact HK.out) W
                  have HEX : Hid (P.extract 0 k = S ((rowB first.toNat (bytesP xs)).take k)) := Lib.hid (by rw [← hPP]; exact S_take _ _)
                  rw [hPP] at hsl
                  have hsc := fun W => Scan_any (S ((rowB first.toNat (bytesP xs)).take k)) 0 (Nat.zero_le _) (by rw [S_size, List.length_take]; have := HK.out; have := HRL.out; omega) first HFW.out W
                  unfold ScR at hsc
                  rw [S_list, List.drop_zero, HCUT.out k, bytesOf_row, RB_any] at hsc
                  have HSC2 := Lib.hid hsc
                  have HWN := Lib.hid (show wholeN (bytesP xs) k ≤ xs.length by have := wholeN_le (bytesP xs) k; rw [bytesP_len] at this; exact this)
                  have kb : (k : Int) ≤ (RB xs xs.length : Int) := by have := HK.out; omega
                  have kb0 : (0 : Int) ≤ (k : Int) := by omega
                  have kb2 : k ≤ RB xs xs.length := HK.out
                  clear hsc hk hkw HCUT hPP
                  have hex := HEX.out
                  have hk1 := HK1.out
                  have hk2 := HK2.out
                  have hk3 := HK3.out
                  generalize hP4 : S ((rowB first.toNat (bytesP xs)).take k) = P4 at *
                  go_wp2_with fail
                  rw [show ((0 : Nat) : Int) = 0 from rfl] at HSC2
                  refine (HSC2.out _).mono ?_
                  rintro e w4 ⟨v2, rfl, ho2, hb4⟩
                  obtain ⟨A4, c4, rfl, -, -, -, -⟩ := ho2.row
                  rw [rowF_length, List.length_take, bytesP_len, Nat.min_eq_left HWN.out]
                  replace HBK := Lib.hid (HBK.out.below hb4)
                  clear ho2 hb4 hsl hex hk1 hk2 hk3
                  go_wp2_with fail
                  go_loopw [23] (fun y wr => ∃ (j : Nat), j ≤ xs.length ∧ RB xs j ≤ k ∧ y = .int .i64 (j : Int) ∧ Hid (Bk w wr A A1 A2 xs first.toNat)) (fun y _ => xs.length - (intOf y).toNat)
                  case atStart => exact ⟨0, Nat.zero_le _, by rw [RB_zero]; exact Nat.zero_le _, rfl, HBK⟩
                  case round =>
                    clear HBK
                    obtain ⟨j, hj, hjk, rfl, HBK⟩ := hrel
                    by_cases hgo : j < xs.length ∧ RB xs (j + 1) ≤ k
                    · obtain ⟨hlt, hle⟩ := hgo
                      obtain ⟨b, o, b1, o1, g, rfl, rfl, rfl, c0, l0, l1, l2, d0⟩ := HBK.out.at j hlt
                      have HLT := Lib.hid (And.intro hlt hle)
                      have HI1 := Lib.hid (small64 j (by have := HNL.out; omega))
                      have f2 : (j : Int) < (xs.length : Int) := by omega
                      have f3 : (0 : Int) ≤ (j : Int) := by omega
                      have f4 : (RB xs (j + 1) : Int) ≤ (k : Int) := by omega
                      have f5 : RB xs (j + 1) ≤ k := hle
                      have hk3 := HK3.out
                      go_wp2_with fail
                      rw [HI1.out]
                      exact ⟨⟨j + 1, HLT.out.1, HLT.out.2, rfl, HBK⟩, by show xs.length - ((j : Int) + 1).toNat < xs.length - (j : Int).toNat; have := HLT.out.1; omega⟩
                    · have hwn : wholeN (bytesP xs) k = j := whole_end xs k j hj hjk (fun h => by omega)
                      have HGO : Hid (∀ (h : j < xs.length), ¬ (RB xs (j + 1) : Int) ≤ (k : Int)) := Lib.hid (fun h h2 => hgo ⟨h, by omega⟩)
                      have HJ := Lib.hid (And.intro hj hjk)
                      rw [hwn] at *
                      -- what is behind
                      obtain ⟨M, hM, _⟩ := HBHD.out bh.data.toList
                      have HCA : Hid (P ++ bh = S (rowB first.toNat (bytesP xs) ++ bh.data.toList)) := Lib.hid (by rw [← HSS.out]; exact S_app _ bh.data.toList)
                      have hsc := fun W => Scan_any (S (rowB first.toNat (bytesP xs) ++ bh.data.toList)) 0 (Nat.zero_le _) (by rw [S_size, List.length_append, HSL.out, s_len]; have := HRL.out; have := HBH.out; omega) first HFW.out W
                      unfold ScR at hsc
                      rw [S_list, List.drop_zero, hM, bytes_append, bytesOf_row, HSL.out] at hsc
                      have HSC3 := Lib.hid hsc
                      have HML := Lib.hid (show (rowF first.toNat 0 (bytesP xs) ++ M).length = xs.length + M.length by rw [List.length_append, rowF_length, bytesP_len])
                      have hca : ∀ W, (Op.stringOp .add P bh).run Try.prog W = .ok (.string (S (rowB first.toNat (bytesP xs) ++ bh.data.toList))) W := fun W => by
                        rw [← HCA.out]; exact run_string_add_sum W _ _ (by rw [HPS.out]; have := HRL.out; have := HBH.out; omega)
                      have m1 : ¬ ((xs.length : Int) + (M.length : Int)) < (xs.length : Int) := by omega
                      have m2 : ¬ ((RB xs xs.length : Int) + (bytesOf M : Int)) < (RB xs xs.length : Int) := by omega
                      have m3 : ¬ (xs.length + M.length < xs.length) := by omega
                      have m4 : ¬ (RB xs xs.length + bytesOf M < RB xs xs.length) := by omega
                      generalize hP5 : S (rowB first.toNat (bytesP xs) ++ bh.data.toList) = P5 at *
                      clear hsc hM hwn hgo
                      by_cases hlt : j < xs.length
                      · obtain ⟨b, o, b1, o1, g, rfl, rfl, rfl, c0, l0, l1, l2, d0⟩ := HBK.out.at j hlt
                        have f2 : (j : Int) < (xs.length : Int) := by omega
                        have f3 : (0 : Int) ≤ (j : Int) := by omega
                        have f4 := HGO.out hlt
                        by_cases hj0 : j = 0
                        · subst hj0
                          have hrz : RB xs 0 = 0 := RB_zero xs
                          have hk3 := HK3.out
                          go_wp2_with fail
                          refine (HSC3.out _).mono ?_
                          rintro e w5 ⟨v3, rfl, ho3, hb5⟩
                          obtain ⟨A3, c3, rfl, -, -, hrow3, -⟩ := ho3.row
                          rw [HML.out]
                          try clear hj1
                          try clear hj2
                          clear hk3
                          have HR3 := Lib.hid hrow3
                          have HBK5 := Lib.hid (HBK.out.below hb5)
                          clear ho3 hrow3 hb5 hca HBK
                          go_wp2_with fail
                          go_loopw [26] (fun y wr => ∃ (i : Nat), i ≤ xs.length ∧ y = .int .i64 (i : Int) ∧ Hid (Bk w wr (some ⟨b, o, none⟩) (some ⟨b1, o1, none⟩) (some ⟨g, 0, none⟩) xs first.toNat) ∧ Hid (RowFr wr A3 (rowF first.toNat 0 (bytesP xs) ++ M))) (fun y _ => xs.length - (intOf y).toNat)
                          case atStart => exact ⟨0, Nat.zero_le _, rfl, HBK5, HR3⟩
                          case round =>
                            clear HBK5 HR3
                            obtain ⟨i, hi, rfl, HBK5, HR3⟩ := hrel
                            by_cases hil : i < xs.length
                            · obtain ⟨bq, oq, b1q, o1q, gq, hA0, hA1, hA2, c0q, l0q, l1q, l2q, d0q⟩ := HBK5.out.at i hil
                              obtain ⟨b3, o3, hA3, r0, r1, r2⟩ := at_more HR3.out i hil
                              cases hA1
                              cases hA3
                              clear hA0 hA2
                              have HLT := Lib.hid hil
                              have HI1 := Lib.hid (small64 i (by have := HNL.out; omega))
                              have n2 : (i : Int) < (xs.length : Int) := by omega
                              have n3 : (0 : Int) ≤ (i : Int) := by omega
                              have n4 : (i : Int) < (xs.length : Int) + (M.length : Int) := by omega
                              have n5 : i < xs.length + M.length := by omega
                              generalize first.toNat + i = qi at *
                              generalize xs[i]'hil = x at *
                              have hmx : Try.prog.follows .mixedOrders = true := by kernel_rfl
                              go_wp2_with fail
                              go_big_quiet (fail)
                              go_wp2_with fail
                              rw [HI1.out]
                              exact ⟨⟨i + 1, HLT.out, rfl, Lib.hid (HBK5.out.below (below_dn _ _ _)), Lib.hid (HR3.out.below (below_dn _ _ _))⟩, by show xs.length - ((i : Int) + 1).toNat < xs.length - (i : Int).toNat; have := HLT.out; omega⟩
                            · obtain rfl : i = xs.length := by omega
                              go_wp2_with fail
                              go_ret
                              exact ⟨rfl, HBK5.out.bel⟩
                        · obtain ⟨jj, hjj⟩ : ∃ jj, j = jj + 1 := ⟨j - 1, by omega⟩
                          obtain ⟨b', o', b1', o1', g', hA, hA1, hA2, c0', l0', l1', l2', d0'⟩ := HBK.out.at jj (by omega)
                          cases hA
                          cases hA1
                          cases hA2
                          have HJ2 : Hid (wrap64 (jj : Int) = (jj : Int)) := Lib.hid (wrap_small jj (by have := HNL.out; omega))
                          have HJ1 : Hid (wrap64 ((j : Int) - 1) = (jj : Int)) := Lib.hid (IntWalk.wrap64_in _ ⟨by omega, by have := HNL.out; omega⟩ |>.trans (by omega))
                          have f6 : (jj : Int) < (xs.length : Int) := by omega
                          have f7 : (0 : Int) < (j : Int) := by omega
                          have f8 : ((j : Int) == 0) = false := beq_eq_false_iff_ne.2 (by omega)
                          have f9 : (0 : Int) ≤ (jj : Int) := by omega
                          rw [← hjj] at d0'
                          clear c0' l0' l1' l2' hjj
                          have hj1 := HJ1.out
                          have hj2 : wrap64 (jj : Int) = (jj : Int) := HJ2.out
                          have hk3 := HK3.out
                          go_wp2_with fail
                          refine (HSC3.out _).mono ?_
                          rintro e w5 ⟨v3, rfl, ho3, hb5⟩
                          obtain ⟨A3, c3, rfl, -, -, hrow3, -⟩ := ho3.row
                          rw [HML.out]
                          try clear hj1
                          try clear hj2
                          clear hk3
                          have HR3 := Lib.hid hrow3
                          have HBK5 := Lib.hid (HBK.out.below hb5)
                          clear ho3 hrow3 hb5 hca HBK
                          go_wp2_with fail
                          go_loopw [26] (fun y wr => ∃ (i : Nat), i ≤ xs.length ∧ y = .int .i64 (i : Int) ∧ Hid (Bk w wr (some ⟨b, o, none⟩) (some ⟨b1, o1, none⟩) (some ⟨g, 0, none⟩) xs first.toNat) ∧ Hid (RowFr wr A3 (rowF first.toNat 0 (bytesP xs) ++ M))) (fun y _ => xs.length - (intOf y).toNat)
                          case atStart => exact ⟨0, Nat.zero_le _, rfl, HBK5, HR3⟩
                          case round =>
                            clear HBK5 HR3
                            obtain ⟨i, hi, rfl, HBK5, HR3⟩ := hrel
                            by_cases hil : i < xs.length
                            · obtain ⟨bq, oq, b1q, o1q, gq, hA0, hA1, hA2, c0q, l0q, l1q, l2q, d0q⟩ := HBK5.out.at i hil
                              obtain ⟨b3, o3, hA3, r0, r1, r2⟩ := at_more HR3.out i hil
                              cases hA1
                              cases hA3
                              clear hA0 hA2
                              have HLT := Lib.hid hil
                              have HI1 := Lib.hid (small64 i (by have := HNL.out; omega))
                              have n2 : (i : Int) < (xs.length : Int) := by omega
                              have n3 : (0 : Int) ≤ (i : Int) := by omega
                              have n4 : (i : Int) < (xs.length : Int) + (M.length : Int) := by omega
                              have n5 : i < xs.length + M.length := by omega
                              generalize first.toNat + i = qi at *
                              generalize xs[i]'hil = x at *
                              have hmx : Try.prog.follows .mixedOrders = true := by kernel_rfl
                              go_wp2_with fail
                              go_big_quiet (fail)
                              go_wp2_with fail
                              rw [HI1.out]
                              exact ⟨⟨i + 1, HLT.out, rfl, Lib.hid (HBK5.out.below (below_dn _ _ _)), Lib.hid (HR3.out.below (below_dn _ _ _))⟩, by show xs.length - ((i : Int) + 1).toNat < xs.length - (i : Int).toNat; have := HLT.out; omega⟩
                            · obtain rfl : i = xs.length := by omega
                              go_wp2_with fail
                              go_ret
                              exact ⟨rfl, HBK5.out.bel⟩
                      · obtain rfl : j = xs.length := by omega
                        have f2 : ¬ (xs.length : Int) < (xs.length : Int) := by omega
                        by_cases hj0 : xs.length = 0
                        · have hrz : RB xs xs.length = 0 := by rw [hj0]; exact RB_zero xs
                          have hlz : (xs.length : Int) = 0 := by omega
                          have hk3 := HK3.out
                          go_wp2_with fail
                          refine (HSC3.out _).mono ?_
                          rintro e w5 ⟨v3, rfl, ho3, hb5⟩
                          obtain ⟨A3, c3, rfl, -, -, hrow3, -⟩ := ho3.row
                          rw [HML.out]
                          try clear hj1
                          try clear hj2
                          clear hk3
                          have HR3 := Lib.hid hrow3
                          have HBK5 := Lib.hid (HBK.out.below hb5)
                          clear ho3 hrow3 hb5 hca HBK
                          go_wp2_with fail
                          go_loopw [26] (fun y wr => ∃ (i : Nat), i ≤ xs.length ∧ y = .int .i64 (i : Int) ∧ Hid (Bk w wr A A1 A2 xs first.toNat) ∧ Hid (RowFr wr A3 (rowF first.toNat 0 (bytesP xs) ++ M))) (fun y _ => xs.length - (intOf y).toNat)
                          case atStart => exact ⟨0, Nat.zero_le _, rfl, HBK5, HR3⟩
                          case round =>
                            clear HBK5 HR3
                            obtain ⟨i, hi, rfl, HBK5, HR3⟩ := hrel
                            by_cases hil : i < xs.length
                            · exact absurd hil (by omega)
                            · obtain rfl : i = xs.length := by omega
                              go_wp2_with fail
                              go_ret
                              exact ⟨rfl, HBK5.out.bel⟩
                        · obtain ⟨jj, hjj⟩ : ∃ jj, xs.length = jj + 1 := ⟨xs.length - 1, by omega⟩
                          obtain ⟨b, o, b1, o1, g, rfl, rfl, rfl, c0', l0', l1', l2', d0'⟩ := HBK.out.at jj (by omega)
                          have HJ2 : Hid (wrap64 (jj : Int) = (jj : Int)) := Lib.hid (wrap_small jj (by have := HNL.out; omega))
                          have HJ1 : Hid (wrap64 ((xs.length : Int) - 1) = (jj : Int)) := Lib.hid (IntWalk.wrap64_in _ ⟨by omega, by have := HNL.out; omega⟩ |>.trans (by omega))
                          rw [← hjj] at d0'
                          have f6 : (jj : Int) < (xs.length : Int) := by omega
                          have f7 : (0 : Int) < (xs.length : Int) := by omega
                          have f8 : ((xs.length : Int) == 0) = false := beq_eq_false_iff_ne.2 (by omega)
                          have f9 : (0 : Int) ≤ (jj : Int) := by omega
                          clear c0' l0' l1' l2'
                          clear hjj
                          have hj1 := HJ1.out
                          have hj2 : wrap64 (jj : Int) = (jj : Int) := HJ2.out
                          have hk3 := HK3.out
                          go_wp2_with fail
                          refine (HSC3.out _).mono ?_
                          rintro e w5 ⟨v3, rfl, ho3, hb5⟩
                          obtain ⟨A3, c3, rfl, -, -, hrow3, -⟩ := ho3.row
                          rw [HML.out]
                          try clear hj1
                          try clear hj2
                          clear hk3
                          have HR3 := Lib.hid hrow3
                          have HBK5 := Lib.hid (HBK.out.below hb5)
                          clear ho3 hrow3 hb5 hca HBK
                          go_wp2_with fail
                          go_loopw [26] (fun y wr => ∃ (i : Nat), i ≤ xs.length ∧ y = .int .i64 (i : Int) ∧ Hid (Bk w wr (some ⟨b, o, none⟩) (some ⟨b1, o1, none⟩) (some ⟨g, 0, none⟩) xs first.toNat) ∧ Hid (RowFr wr A3 (rowF first.toNat 0 (bytesP xs) ++ M))) (fun y _ => xs.length - (intOf y).toNat)
                          case atStart => exact ⟨0, Nat.zero_le _, rfl, HBK5, HR3⟩
                          case round =>
                            clear HBK5 HR3
                            obtain ⟨i, hi, rfl, HBK5, HR3⟩ := hrel
                            by_cases hil : i < xs.length
                            · obtain ⟨bq, oq, b1q, o1q, gq, hA0, hA1, hA2, c0q, l0q, l1q, l2q, d0q⟩ := HBK5.out.at i hil
                              obtain ⟨b3, o3, hA3, r0, r1, r2⟩ := at_more HR3.out i hil
                              cases hA1
                              cases hA3
                              clear hA0 hA2
                              have HLT := Lib.hid hil
                              have HI1 := Lib.hid (small64 i (by have := HNL.out; omega))
                              have n2 : (i : Int) < (xs.length : Int) := by omega
                              have n3 : (0 : Int) ≤ (i : Int) := by omega
                              have n4 : (i : Int) < (xs.length : Int) + (M.length : Int) := by omega
                              have n5 : i < xs.length + M.length := by omega
                              generalize first.toNat + i = qi at *
                              generalize xs[i]'hil = x at *
                              have hmx : Try.prog.follows .mixedOrders = true := by kernel_rfl
                              go_wp2_with fail
                              go_big_quiet (fail)
                              go_wp2_with fail
                              rw [HI1.out]
                              exact ⟨⟨i + 1, HLT.out, rfl, Lib.hid (HBK5.out.below (below_dn _ _ _)), Lib.hid (HR3.out.below (below_dn _ _ _))⟩, by show xs.length - ((i : Int) + 1).toNat < xs.length - (i : Int).toNat; have := HLT.out; omega⟩
                            · obtain rfl : i = xs.length := by omega
                              go_wp2_with fail
                              go_ret
                              exact ⟨rfl, HBK5.out.bel⟩
end Go.Proofs.Ythaafniahkejkaa.Frame
