import Derived.Test.YtkjnddgjnlbopaaIU
/-
  For the statement IndexNames: what its examples are.
-/
namespace Go.Proofs.Ytkjnddgjnlbopaa.Index
open Go Go.RowKit
open Go.Proofs.Ytkjnddgjnlbopaa.Wire (S S_list S_size S_append cell_row row_lt)
open Go.Proofs.Ytkjnddgjnlbopaa.Frame Go.Proofs.Ytkjnddgjnlbopaa.Seg

def abP : List ByteArray := [⟨#[97]⟩, ⟨#[98]⟩, ⟨#[99]⟩, ⟨#[100]⟩]
def sg (q : Nat) : List UInt8 := segB q (bytesP abP)
theorem sg_len (q : Nat) : (sg q).length = 84 := by unfold sg; rw [segB_length]; decide +kernel
theorem ab_ok (q : Nat) (h : q ≤ 1000) : okP q (bytesP abP) := ⟨by show q + 4 ≤ 1048576; omega, by decide⟩
theorem ab_join (q : Nat) (h : q ≤ 1000) : joV (q : Int) abP = .returned (.tuple #[.string (S (sg q)), .int .i64 0]) := by
  have h1 : joE (q : Int) (bytesP abP) = 0 := by
    unfold joE; rw [if_pos (wrE_ok (ab_ok q h)), if_neg (by decide +kernel)]
  unfold joV joB; rw [h1, if_pos rfl, Int.toNat_natCast]; rfl
theorem ab_strs (w : World) : Strs (w.alloc (.cells #[.string ⟨#[97]⟩, .string ⟨#[98]⟩, .string ⟨#[99]⟩, .string ⟨#[100]⟩] 9)) (some ⟨w.heap.size, 0, none⟩) abP := fun j hj => by
  have hb := heap_alloc_new w (.cells #[.string ⟨#[97]⟩, .string ⟨#[98]⟩, .string ⟨#[99]⟩, .string ⟨#[100]⟩] 9)
  refine ⟨w.heap.size, 0, rfl, by simp, ?_, ?_⟩
  · have : ∀ k (h : k < abP.length), abP[k].size ≤ 3 := by decide +kernel
    have := this j hj
    unfold maxLen; omega
  · rw [cell_row hb, Nat.zero_add]
    have h2 : j < 4 := hj
    match j, h2 with
    | 0, _ => rfl
    | 1, _ => rfl
    | 2, _ => rfl
    | 3, _ => rfl
theorem build_ex (l : List UInt8) (hl : l.length ≤ 1000) (h0 : fiE l = 0) (a : Nat) (ha : fiN l = a) (ats : List Nat) (hat : atsP (pays (scL l)) = ats) (g : Nat) (hg : scG l = g) (ev : Nat) (hev : 1 ≤ ev ∧ ev ≤ 64) (W : World) :
    Calls Try.prog 11 #[.string (S l), .int .i64 (ev : Int)] W fun e w' => ∃ b, W.heap.size ≤ b ∧ e = .returned (.tuple #[.pointer (some ⟨b, 0, none⟩), .int .i64 0]) ∧ Ix w' b b ev a ats g ∧ Below W.heap.size W w' := by
  have h := build_yes (S l) (by rw [S_size]; omega) ev hev (by rw [S_list]; exact h0) W
  rw [S_list, ha, hat, hg] at h
  exact h
theorem ab_seg : fiE (sg 0) = 0 ∧ fiN (sg 0) = 0 ∧ atsP (pays (scL (sg 0))) = [16, 33, 50, 67] ∧ scG (sg 0) = 84 := by
  obtain ⟨h1, h2, h3, h4⟩ := sc_seg 0 (bytesP abP) (ab_ok 0 (by decide))
  refine ⟨h1, h2, ?_, ?_⟩
  · unfold sg; rw [h3, pays_row]; decide +kernel
  · unfold sg; rw [h4]; exact sg_len 0
theorem ab_torn : fiE ((sg 0).take 83) = 0 ∧ fiN ((sg 0).take 83) = 0 ∧ atsP (pays (scL ((sg 0).take 83))) = [16, 33, 50] ∧ scG ((sg 0).take 83) = 67 := by
  obtain ⟨h1, h2, h3⟩ := sc_cut 0 (bytesP abP) 83 (ab_ok 0 (by decide)) (by decide)
  refine ⟨h1, h2, ?_, ?_⟩
  · unfold sg; rw [h3, pays_row]; decide +kernel
  · unfold scG
    unfold sg; rw [if_pos h1, h3]; decide +kernel
theorem ab_bare : fiE ((sg 0).take 16) = 0 ∧ fiN ((sg 0).take 16) = 0 ∧ atsP (pays (scL ((sg 0).take 16))) = [] ∧ scG ((sg 0).take 16) = 16 := by
  obtain ⟨h1, h2, h3⟩ := sc_cut 0 (bytesP abP) 16 (ab_ok 0 (by decide)) (by decide)
  refine ⟨h1, h2, ?_, ?_⟩
  · unfold sg; rw [h3, pays_row]; decide +kernel
  · unfold scG
    unfold sg; rw [if_pos h1, h3]; decide +kernel
theorem ab_head : fiE (segH 1048575) = 0 ∧ fiN (segH 1048575) = 1048575 ∧ atsP (pays (scL (segH 1048575))) = [] ∧ scG (segH 1048575) = 16 := by
  obtain ⟨h1, h2, h3, h4⟩ := sc_seg 1048575 [] ⟨by decide, by simp⟩
  rw [segB_nil] at h1 h2 h3 h4
  refine ⟨h1, h2, ?_, ?_⟩
  · rw [h3]; decide +kernel
  · rw [h4]; exact segH_length _
theorem ab_two : fiE ([115, 101, 103, 50] ++ (sg 0).drop 4) = 4 := by
  have hl : ([115, 101, 103, 50] ++ (sg 0).drop 4).length = 84 := by rw [List.length_append, List.length_drop, sg_len]; rfl
  unfold fiE
  rw [if_neg (by omega), if_pos (by rw [show (4 : Nat) = ([115, 101, 103, 50] : List UInt8).length from rfl, List.take_left]; decide)]
/-! ### what is got -/
theorem got_a : gtP (S (sg 0)) 16 0 0 = [97] ∧ gtE (S (sg 0)) 16 0 0 = 0 := by
  have hL : isL (S (sg 0)) 16 0 = rowF 0 16 (bytesP abP) := isL_row 0 0 (bytesP abP) (ab_ok 0 (by decide)) (by decide)
  unfold gtP gtE
  rw [hL]; decide +kernel
theorem isL_cut : isL (S ((sg 0).take 40)) 16 0 = rowF 0 16 ((bytesP abP).take 1) := by
  have h1 : ((sg 0).take 40).drop 16 = (rowB 0 (bytesP abP)).take 24 := by
    have h2 : sg 0 = segH 0 ++ rowB 0 (bytesP abP) := rfl
    rw [h2, List.drop_take, ← segH_length 0, List.drop_left, segH_length]
  unfold isL
  rw [S_list, h1]
  exact scan_cut (bytesP abP) 0 16 24 (ab_ok 0 (by decide))
theorem short_all (s : ByteArray) (p q : Nat) (h : s.size < p + 16) : isX s p q = 8 := by
  have h1 : rdE (s.data.toList.drop p) = 8 := by
    unfold rdE; rw [if_pos (by rw [List.length_drop]; simp; omega)]
  unfold isX; rw [h1, if_neg (by decide)]
theorem got_cut : gtP (S ((sg 0).take 40)) 16 0 3 = [] ∧ gtE (S ((sg 0).take 40)) 16 0 3 = 8 := by
  have hn : ¬ (3 < (isL (S ((sg 0).take 40)) 16 0).length) := by rw [isL_cut]; decide +kernel
  unfold gtP gtE
  rw [if_neg hn, if_neg hn]
  refine ⟨rfl, ?_⟩
  unfold exE
  rw [isL_cut]
  refine short_all _ _ _ ?_
  rw [S_size, List.length_take, sg_len]
  decide +kernel
theorem got_far : gtP (S ((sg 0).take 40)) 67 3 0 = [] ∧ gtE (S ((sg 0).take 40)) 67 3 0 = 8 := by
  have hx : isX (S ((sg 0).take 40)) 67 3 = 8 := short_all _ _ _ (by rw [S_size, List.length_take, sg_len]; decide)
  have hL : isL (S ((sg 0).take 40)) 67 3 = [] := isL_no (by rw [hx]; decide)
  unfold gtP gtE exE
  rw [hL, if_neg (by decide), if_neg (by decide)]
  refine ⟨rfl, ?_⟩
  simp only [bytesOf, List.length_nil, Nat.add_zero]
  exact hx
theorem got_other : gtP (S (sg 1)) 16 0 2 = [] ∧ gtE (S (sg 1)) 16 0 2 = 4 := by
  have hd : (S (sg 1)).data.toList.drop 16 = rowB 1 (bytesP abP) := by
    rw [S_list]
    have h2 : sg 1 = segH 1 ++ rowB 1 (bytesP abP) := rfl
    rw [h2, ← segH_length 1, List.drop_left]
  have hx : isX (S (sg 1)) 16 0 = 4 := by
    have e : rowB 1 (bytesP abP) = frB 1 [97] ++ rowB 2 (bytesP (abP.drop 1)) := rfl
    obtain ⟨f1, f2, f3, f4⟩ := fr_parts 1 [97] (rowB 2 (bytesP (abP.drop 1))) (by decide) (by decide)
    have f0 := rd_fr 1 [97] (rowB 2 (bytesP (abP.drop 1))) (by decide) (by decide) (by decide)
    unfold isX
    rw [hd, e, if_pos f0, f2, if_neg (by decide)]
  have hL : isL (S (sg 1)) 16 0 = [] := isL_no (by rw [hx]; decide)
  unfold gtP gtE exE
  rw [hL, if_neg (by decide), if_neg (by decide)]
  refine ⟨rfl, ?_⟩
  simp only [bytesOf, List.length_nil, Nat.add_zero]
  exact hx
theorem got_ex (ev a : Nat) (ats : List Nat) (g q : Nat) (s : ByteArray) (p0 q0 D : Nat) (r : ByteArray) (x : Nat) (hev : 1 ≤ ev) (hq : a ≤ q ∧ q < a + ats.length) (hl : ats.length ≤ 900) (hsm : a ≤ 1000) (hs : s.size ≤ 1000) (hp : frA ev a q ats = p0) (hq0 : frS ev a q = q0) (hD : q - q0 = D) (hr : S (gtP s p0 q0 D) = r) (hx : gtE s p0 q0 D = x) (W : World) (b0 b : Nat) (h : Ix W b0 b ev a ats g) :
    Calls Try.prog 15 #[.pointer (some ⟨b, 0, none⟩), .string s, .int .i64 (q : Int)] W fun e w' => e = .returned (.tuple #[.string r, .int .i64 (x : Int)]) ∧ Below W.heap.size W w' := by
  have h1 := get_some W b0 b ev a ats g s q h hev hq (by omega) (by omega) (by omega)
  rw [hp, hq0, hD, hr, hx] at h1
  exact h1
/-- **head** -/
theorem head_ex (W : World) : Calls Try.prog 17 #[.int .i64 1048575] W fun e w' => e = .returned (.string (S (segH 1048575))) ∧ Below W.heap.size W w' := by
  have HH := Lib.hid (fun W => Header_any 1048575 W)
  have h1 : hdB 1048575 = segH 1048575 := if_pos (by decide)
  have h2 : hdE 1048575 = 0 := by decide
  rw [h1, h2] at HH
  clear h1 h2
  generalize S (segH 1048575) = T at *
  go_enter Try.func17, Try.ntmps17
  go_wp2_with fail
  refine (HH.out W).mono ?_
  rintro e w1 ⟨rfl, hb⟩
  go_wp2_with fail
  go_ret
  exact ⟨rfl, hb⟩
theorem steps_nil (q : Int) (w : World) : Calls Try.prog 20 #[.pointer none, .int .i64 q] w fun e w' => e = .returned (.int .i64 0) ∧ w = w' := by
  have HH : Hid (∀ W, Calls Try.prog 38 #[.pointer none, .int .i64 q] W fun e w' => e = .returned (.bool false) ∧ W = w') := Lib.hid fun W => by
    by_cases h : (0 : Int) ≤ q
    · have k1 : decide ((0 : Int) ≤ q) = true := decide_eq_true h
      have k2 : decide (q < (0 : Int)) = false := decide_eq_false (by omega)
      have k3 : ¬ q < 0 := by omega
      go_enter Try.func38, Try.ntmps38
      go_wp2_with fail
      refine (first_nil W).mono ?_
      rintro e w1 ⟨rfl, rfl⟩
      go_wp2_with fail
      refine (next_nil W).mono ?_
      rintro e w1 ⟨rfl, rfl⟩
      go_wp2_with fail
      go_ret
      exact ⟨rfl, rfl⟩
    · have k1 : decide ((0 : Int) ≤ q) = false := decide_eq_false h
      go_enter Try.func38, Try.ntmps38
      go_wp2_with fail
      refine (first_nil W).mono ?_
      rintro e w1 ⟨rfl, rfl⟩
      go_wp2_with fail
      go_ret
      exact ⟨rfl, rfl⟩
  go_enter Try.func20, Try.ntmps20
  go_wp2_with fail
  refine (HH.out w).mono ?_
  rintro e w1 ⟨rfl, rfl⟩
  go_wp2_with fail
  go_ret
  exact ⟨rfl, rfl⟩
/-- an index all of whose blocks lie below one -/
def IxN (N : Nat) (w : World) (b ev a : Nat) (ats : List Nat) (g : Nat) : Prop :=
  ∃ v, IBx w b ev a (a + ats.length) v g ∧ OwnM w b v (mks ev a ats) ∧ b < N ∧ ∀ r, v.ownBlock = some r → r < N
theorem IxN.of {N : Nat} {w : World} {b ev a : Nat} {ats : List Nat} {g : Nat} (h : Ix w b b ev a ats g) (hn : w.heap.size ≤ N) : IxN N w b ev a ats g := by
  obtain ⟨v, h1, h2⟩ := h
  exact ⟨v, h1, h2, Nat.lt_of_lt_of_le (row_lt h1) hn, fun r hr => Nat.lt_of_lt_of_le (h2.lt r hr).1 hn⟩
theorem IxN.ix {N : Nat} {w : World} {b ev a : Nat} {ats : List Nat} {g : Nat} (h : IxN N w b ev a ats g) : Ix w b b ev a ats g := by
  obtain ⟨v, h1, h2, _⟩ := h
  exact ⟨v, h1, h2⟩
theorem IxN.below {N : Nat} {w w' : World} {b ev a : Nat} {ats : List Nat} {g : Nat} (h : IxN N w b ev a ats g) (hb : Below w.heap.size w w') : IxN N w' b ev a ats g := by
  obtain ⟨v, h1, h2, h3⟩ := h
  exact ⟨v, (hb.block _ (row_lt h1)).trans h1, h2.below hb, h3⟩
theorem IxN.under {N : Nat} {w w' : World} {b ev a : Nat} {ats : List Nat} {g : Nat} (h : IxN N w b ev a ats g) (hb : Below N w w') : IxN N w' b ev a ats g := by
  obtain ⟨v, h1, h2, h3, h4⟩ := h
  exact ⟨v, (hb.block _ h3).trans h1, h2.keep (fun r hr => hb.block r (h4 r hr)), h3, h4⟩
end Go.Proofs.Ytkjnddgjnlbopaa.Index
