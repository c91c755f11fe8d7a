import Derived.Test.YtkccdffccjgajaaGreatDoorRK
import Derived.Test.YtkccdffccjgajaaGreatDoorRL
import Derived.Laws.AppendOwnNone
/-
  The walk of the statement SegJoins.
-/
namespace Go.Proofs.YtkccdffccjgajaaGreatDoor.Seg
open Go Go.RowKit
open Go.Proofs.YtkccdffccjgajaaGreatDoor.Wire (S S_list S_size S_append cell_row frozen_row row_lt heap_set heap_far U)
open Go.Proofs.YtkccdffccjgajaaGreatDoor.Frame Go.Proofs.YtkccdffccjgajaaGreatDoor.Ranges

theorem spl_size (most : Int) (n : Nat) : ∀ (ps : List (List UInt8)) (q : Nat) (cur : List (List UInt8)), (∀ p ∈ ps, p.length ≤ 4096) → segN cur + 4112 * ps.length ≤ n → ∀ g ∈ spl most q cur ps, segN g.2 ≤ n
  | [], q, cur, _, hn, g, hg => by
    rw [spl, List.mem_singleton] at hg
    subst hg
    have : ([] : List (List UInt8)).length = 0 := rfl
    show segN cur ≤ n
    omega
  | p :: r, q, cur, hp, hn, g, hg => by
    have h4 := hp p (List.mem_cons_self ..)
    rw [List.length_cons] at hn
    rw [spl] at hg
    split at hg
    · exact spl_size most n r q (cur ++ [p]) (fun x hx => hp x (List.mem_cons_of_mem _ hx)) (by rw [segN_snoc]; omega) g hg
    · rcases List.mem_cons.1 hg with rfl | hg
      · show segN cur ≤ n
        omega
      · refine spl_size most n r (q + cur.length) [p] (fun x hx => hp x (List.mem_cons_of_mem _ hx)) ?_ g hg
        have := seg_ge16 cur
        rw [← List.nil_append [p], segN_snoc, segN_nil]
        omega
theorem spS_size (q most : Int) (xs : List ByteArray) (hl : xs.length ≤ 20000) : (∀ y ∈ spS q xs most, y.size ≤ maxLen) ∧ (spS q xs most).length ≤ 1000000 := by
  by_cases h : spE q (bytesP xs) most = 0
  · have hS : spS q xs most = outs most q.toNat xs := if_pos h
    have hw : wrE q (bytesP xs) = 0 := by
      unfold spE at h
      split at h
      · exact h
      · cases h
    have hok := (wrE_zero hw).2
    rw [hS]
    refine ⟨fun y hy => ?_, ?_⟩
    · unfold outs at hy
      obtain ⟨g, hg, rfl⟩ := List.mem_map.1 hy
      rw [S_size, segB_length]
      have := spl_size most (16 + 4112 * 20000) (bytesP xs) q.toNat [] (fun p hp => (hok.2 p hp).2) (by rw [segN_nil, bytesP_len]; omega) g hg
      unfold maxLen; omega
    · rw [outs_len]
      have := grp_len most q.toNat xs
      omega
  · have hS : spS q xs most = [] := if_neg h
    rw [hS]
    exact ⟨fun y hy => by simp at hy, Nat.zero_le _⟩

set_option maxRecDepth 100000 in
set_option maxHeartbeats 4000000 in
/-- where the list is copied: what stands behind -/
theorem joins_gen (q : Int) (A0 : Option Addr) (cap : Nat) (xs : List ByteArray) (most : Int) (w : World) (hx : Strs w A0 xs)
    (happ : ∀ (ops : Array Oper) (rest : List Oper) (o : Oper) (a : Act) (Q : Exit → Act → World → Prop) (_ : o.guard = none) (s x : Operand) (_ : o.op = .call { callee := .builtin .append, args := #[s, x], argTypes := #[23, 23] }) (_ : a.eval s = .slice (some ⟨w.heap.size, 0, none⟩) 0 0) (_ : a.eval x = .slice A0 xs.length cap)
      (_ : ∀ v' w', OwnS w' w.heap.size v' xs → (w.alloc (.cells #[] 9)).grownBy w' (Value.slice (some ⟨w.heap.size, 0, none⟩) 0 0).ownBlock → wpList Tryz.prog ops Q rest (a.put o.dst v') w'), wpList Tryz.prog ops Q (o :: rest) a (w.alloc (.cells #[] 9)))
    (hm : sumM xs ≤ 20000) (hl : xs.length ≤ 20000) (h2 : (Lit.int .i64 most).wf = true) (E : Env w) :
    Calls Tryz.prog 6 #[.int .i64 q, .slice A0 xs.length cap, .int .i64 most] w fun e w' => e = .returned (.bool true) ∧ Below w.heap.size w w' := by
  have HAW := Lib.hid (fun W EW => awake_any W EW)
  have HE := Lib.hid E
  have HX := Lib.hid hx
  have HAP := Lib.hid happ
  have HMY := Lib.hid (fun W (h : Strs W A0 xs) => many_any A0 cap xs (by unfold maxLen; omega) W h)
  rw [show decide (20000 < sumM xs) = false from decide_eq_false (by omega)] at HMY
  have HJ := Lib.hid (fun A c W (h : Strs W A xs) => Join_any q A c xs (by omega) W h)
  have HK := Lib.hid (fun A c W (h : Strs W A xs) => refJoin_any q A c xs (by omega) W h)
  have HSP := Lib.hid (fun A c W (h : Strs W A xs) => Split_any q most h2 A c xs (by omega) W h)
  have HRS := Lib.hid (fun A c W (h : Strs W A xs) => refSplit_any q most h2 A c xs (by omega) W h)
  have HL := Lib.hid hl
  have HSZ := Lib.hid (spS_size q most xs hl)
  have hbn := (Below.refl w.heap.size w).alloc (Nat.le_refl _) (.cells #[] 9)
  have HB := Lib.hid hbn
  have HO := Lib.hid (own_none (w := w) (base := w.heap.size) (Nat.le_refl _))
  have HX1 := Lib.hid (hx.below hbn)
  have HLN := Lib.hid (show ([] : List ByteArray).length + xs.length ≤ 1000000 by simp; omega)
  clear hx hm hl h2 E hbn happ
  go_enter Tryz.func6, Tryz.ntmps6
  go_wp2_with fail
  refine (HMY.out w HX.out).mono ?_
  rintro e w1 ⟨rfl, rfl⟩
  go_wp2_with (at_builtin; refine HAP.out _ _ _ _ _ rfl _ _ rfl rfl rfl ?_)
  intro v' w2 hown hg
  have hown2 : OwnS w2 w.heap.size v' xs := hown
  have hB2 := below_own HB.out HO.out hg (Nat.le_refl _)
  obtain ⟨A, ca, rfl, hcl, hcm, hst⟩ := hown2.strs (fun y hy => by
    obtain ⟨j, hj, rfl⟩ := List.mem_iff_getElem.1 hy
    obtain ⟨_, _, _, _, hs, _⟩ := HX.out j hj
    exact hs)
  have HO2 := Lib.hid hown2
  have HS2 := Lib.hid hst
  have HB2 := Lib.hid hB2
  clear hown hown2 hg hst hB2 HO HB HX1 HLN hcl hcm
  go_wp2_with fail
  refine (HJ.out A ca w2 HS2.out).mono ?_
  rintro e w3 ⟨rfl, hb⟩
  have HB3 := Lib.hid (HB2.out.trans (hb.mono HB2.out.size))
  have HO3 := Lib.hid (HO2.out.below hb)
  have HS3 := Lib.hid (HS2.out.below hb)
  clear hb HB2 HO2 HS2
  unfold joV
  go_wp2_with fail
  refine (HK.out _ cap w3 (HX.out.below HB3.out)).mono ?_
  rintro e w4 ⟨rfl, hb⟩
  have HB4 := Lib.hid (HB3.out.trans (hb.mono HB3.out.size))
  have HO4 := Lib.hid (HO3.out.below hb)
  have HS4 := Lib.hid (HS3.out.below hb)
  clear hb HB3 HO3 HS3
  unfold joV
  go_wp2_with fail
  refine (HRS.out _ cap w4 (HX.out.below HB4.out)).mono ?_
  rintro e w5 ⟨v5, rfl, ho, hb⟩
  obtain ⟨B, cb, rfl, -, -, hsb⟩ := ho.strs HSZ.out.1
  have HR5 := Lib.hid hsb
  have HB5 := Lib.hid (HB4.out.trans (hb.mono HB4.out.size))
  have HO5 := Lib.hid (HO4.out.below hb)
  have HS5 := Lib.hid (HS4.out.below hb)
  clear ho hsb hb HB4 HO4 HS4 HJ HK HRS
  generalize spS q xs most = SP at *
  generalize (spE q (bytesP xs) most : Int) = se at *
  generalize S (joB q (bytesP xs)) = ja at *
  generalize (joE q (bytesP xs) : Int) = je at *
  go_wp2_with fail
  go_loopw [14] (fun y wr => ∃ j : Nat, j ≤ 2 ∧ y = .int .i64 (j : Int) ∧ Hid (OwnS wr w.heap.size (.slice A xs.length ca) xs) ∧ Hid (Strs wr A xs) ∧ Hid (Strs wr B SP) ∧ Hid (Below w.heap.size w wr)) (fun y _ => 2 - (intOf y).toNat)
  case atStart => exact ⟨0, by omega, rfl, HO5, HS5, HR5, HB5⟩
  case round =>
    clear HO5 HS5 HR5 HB5
    obtain ⟨j, hj, rfl, HO, HS, HR, HB⟩ := hrel
    by_cases hlt : j < 2
    · have e1 : (j : Int) < 2 := by omega
      have e2 : decide ((j : Int) < 2) = true := decide_eq_true e1
      go_wp2_with fail
      refine (HSP.out A ca wr HS.out).mono ?_
      rintro e w6 ⟨v6, rfl, ho, hb⟩
      obtain ⟨C, cc, rfl, -, -, -⟩ := ho.strs HSZ.out.1
      have HR6 := Lib.hid (HR.out.below hb)
      have HO6 := Lib.hid (HO.out.below hb)
      have HS6 := Lib.hid (HS.out.below hb)
      have HB6 := Lib.hid (HB.out.trans (hb.mono HB.out.size))
      have HC := Lib.hid ho
      have HBL := Lib.hid (show ∀ b, B = some b → 0 < SP.length → b.block < wr.heap.size from fun b hb0 hp => by obtain ⟨b2, o, e, h1, _⟩ := HR.out 0 hp; rw [hb0] at e; rw [Option.some.inj e]; exact h1)
      have HAL := Lib.hid (show ∀ r, (Value.slice A xs.length ca).ownBlock = some r → r < wr.heap.size from fun r hr => (HO.out.lt r hr).1)
      have HCG := Lib.hid (show ∀ r, (Value.slice C SP.length cc).ownBlock = some r → wr.heap.size ≤ r from fun r hr => (ho.lt r hr).2)
      have HTX := Lib.hid (texts_any wr.heap.size C B cc cb SP HSZ.out.2 w6 ho HR6.out (fun x y h1 h2 hp => by
        have q1 := HCG.out x.block (by rw [h1]; rfl)
        have q2 := HBL.out y h2 hp
        omega))
      clear ho hb
      go_wp2_with fail
      refine HTX.out.mono ?_
      rintro e w7 ⟨rfl, hg⟩
      have HB7 := Lib.hid (hg.below HB6.out (Nat.le_refl _) (fun r hr => by have := HCG.out r hr; have := HB.out.size; omega))
      have HO7 := Lib.hid (HO6.out.keep (fun z hz => hg.block z (HO6.out.lt z hz).1 (fun e => by have := HCG.out z e; have := HAL.out z hz; omega)))
      have HS7 : Hid (Strs w7 A xs) := Lib.hid (by
        rcases Nat.eq_zero_or_pos xs.length with hp | hp
        · exact fun i hi => absurd hi (by omega)
        · exact strs_over HS6.out hg.size (fun a ha _ => by
            have hz : (Value.slice A xs.length ca).ownBlock = some a.block := by rw [ha]; rfl
            exact hg.block _ (HO6.out.lt _ hz).1 (fun e => by have := HCG.out _ e; have := HAL.out _ hz; omega)))
      have HR7 := Lib.hid (strs_over HR6.out hg.size (fun b hb0 hp => by
        obtain ⟨b2, o2, e3, h3, _⟩ := HR6.out 0 hp
        have e4 : b = ⟨b2, o2, none⟩ := Option.some.inj (hb0.symm.trans e3)
        have q2 := HBL.out b hb0 hp
        exact hg.block _ (by rw [e4]; exact h3) (fun e => by have := HCG.out _ e; omega)))
      clear hg
      go_wp2_with fail
      go_roundw
      case rel => exact ⟨j + 1, by omega, by go_num, HO7, HS7, HR7, HB7⟩
      case measure => simp [intOf]; omega
    · obtain rfl : j = 2 := by omega
      have HTX := Lib.hid (texts_any w.heap.size A A0 ca cap xs (by have := HL.out; omega) wr HO.out (HX.out.below HB.out) (fun x y h1 h2 hp => by
        have q1 := (HO.out.lt x.block (by rw [h1]; rfl)).2
        obtain ⟨b2, o2, e3, h3, _⟩ := HX.out 0 hp
        have e4 : y = ⟨b2, o2, none⟩ := Option.some.inj (h2.symm.trans e3)
        rw [e4]
        show x.block ≠ b2
        omega))
      have HAG := Lib.hid (show ∀ r, (Value.slice A xs.length ca).ownBlock = some r → w.heap.size ≤ r from fun r hr => (HO.out.lt r hr).2)
      go_wp2_with fail
      refine HTX.out.mono ?_
      rintro e w7 ⟨rfl, hg⟩
      have HB7 := Lib.hid (hg.below HB.out (Nat.le_refl _) HAG.out)
      clear hg
      go_wp2_with fail
      refine (HAW.out _ (HE.out.over HB7.out)).mono ?_
      rintro e w8 ⟨rfl, hb⟩
      have HB8 := Lib.hid (HB7.out.trans (hb.mono HB7.out.size))
      clear hb
      go_wp2_with fail
      go_ret
      exact ⟨rfl, HB8.out⟩

set_option maxRecDepth 100000 in
theorem joins_law (q : Int) (A : Option Addr) (cap : Nat) (xs : List ByteArray) (most : Int) (w : World) (_w0 : (Lit.int .i64 q).wf = true) (hx : Strs w A xs) (hl : xs.length ≤ cap) (hc : cap ≤ maxLen) (hnil : A = none → cap = 0) (w2 : (Lit.int .i64 most).wf = true) (E : Env w) :
    Calls Tryz.prog 6 #[.int .i64 q, .slice A xs.length cap, .int .i64 most] w fun e w' => e = .returned (.bool true) ∧ Below w.heap.size w w' := by
  by_cases hm : sumM xs ≤ 20000
  · have hl2 := (sumM_small xs hm).1
    cases A with
    | none =>
      have hz : xs = [] := by
        have := hnil rfl
        exact List.eq_nil_of_length_eq_zero (by omega)
      subst hz
      obtain rfl := hnil rfl
      obtain ⟨i0, hi, hz0, hz1, hz2⟩ := info_parts infoS
      refine joins_gen q none 0 [] most w hx (fun ops rest o a Q hgd s x ho hs hx2 h => ?_) hm hl2 w2 E
      refine wpList_append_own_none hgd s x 23 ho w.heap.size 9 i0 1 Tryz.underlying23 hi _ 0 [] hs ?_ hx2 ?_
      · exact own_none (Nat.le_refl _)
      · exact h _ _ (own_none (Nat.le_refl _)) ⟨rfl, rfl, rfl, Nat.le_refl _, fun _ _ _ => rfl⟩
    | some ad =>
      refine joins_gen q (some ad) cap xs most w hx (fun ops rest o a Q hgd s x ho hs hx2 h => ?_) hm hl2 w2 E
      have hbn := (Below.refl w.heap.size w).alloc (Nat.le_refl _) (.cells #[] 9)
      exact wpList_append_all hgd s x ho w.heap.size _ [] hs (own_none (Nat.le_refl _)) ad cap xs hx2 (hx.below hbn) (by simp; omega) hbn.size (fun v' w' h1 h2 => h v' w' (by simpa using h1) h2)
  · have HAW := Lib.hid (fun W EW => awake_any W EW)
    have HE := Lib.hid E
    have HMY := Lib.hid (many_any A cap xs (by omega) w hx)
    rw [show decide (20000 < sumM xs) = true from decide_eq_true (by omega)] at HMY
    clear hm hx hl hc hnil E
    go_enter Tryz.func6, Tryz.ntmps6
    go_wp2_with fail
    refine HMY.out.mono ?_
    rintro e w1 ⟨rfl, rfl⟩
    go_wp2_with fail
    refine (HAW.out w HE.out).mono ?_
    rintro e w1 ⟨rfl, hb⟩
    go_wp2_with fail
    go_ret
    exact ⟨rfl, hb⟩
end Go.Proofs.YtkccdffccjgajaaGreatDoor.Seg
