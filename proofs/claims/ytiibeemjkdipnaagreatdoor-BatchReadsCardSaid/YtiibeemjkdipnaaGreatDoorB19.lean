/-
  What is read, written again; what is written, read; what is cut short. Plain mathematics on the values.
-/
import Derived.Test.YtiibeemjkdipnaaGreatDoorB18
namespace Go.Proofs.YtiibeemjkdipnaaGreatDoor.Wire
open Go.RowKit

theorem ba_ext {s t : ByteArray} (h : s.data.toList = t.data.toList) : s = t := by
  apply ByteArray.ext; exact Array.toList_inj.1 h
theorem size_list (s : ByteArray) : s.data.toList.length = s.size := rfl
theorem ext_list (s : ByteArray) (a n : Nat) : (s.extract a (a + n)).data.toList = (s.data.toList.drop a).take n := by
  rw [Lib.extract_data, Nat.add_sub_cancel_left]

/-! ### so many bytes -/
theorem tk_ok {s : ByteArray} {i e n : Nat} (h : tkE s i e n = 0) : e = 0 ∧ i + n ≤ s.size ∧ (tkT s i e n).data.toList = (s.data.toList.drop i).take n ∧ tkI s i e n = i + n := by
  unfold tkE at h
  split at h
  · rename_i he
    split at h
    · rename_i hn
      refine ⟨he, hn, ?_, ?_⟩
      · unfold tkT; rw [if_pos ⟨he, hn⟩, ext_list]
      · unfold tkI; rw [if_pos ⟨he, hn⟩]
    · cases h
  · rename_i he; exact absurd h he
theorem tk_err {s : ByteArray} {i e n : Nat} (h : tkE s i e n ≠ 0) : tkT s i e n = ⟨#[]⟩ ∧ tkI s i e n = i := by
  have hn : ¬ (e = 0 ∧ i + n ≤ s.size) := fun ⟨h1, h2⟩ => h (by unfold tkE; rw [if_pos h1, if_pos h2])
  exact ⟨by unfold tkT; rw [if_neg hn], by unfold tkI; rw [if_neg hn]⟩
theorem tk_is {s : ByteArray} {i n : Nat} {b c : List UInt8} (h : s.data.toList.drop i = b ++ c) (hb : b.length = n) (hi : i ≤ s.size) : tkE s i 0 n = 0 ∧ tkI s i 0 n = i + n ∧ (tkT s i 0 n).data.toList = b := by
  have hl := congrArg List.length h
  rw [List.length_drop, List.length_append, size_list] at hl
  have hE : tkE s i 0 n = 0 := by unfold tkE; rw [if_pos rfl, if_pos (by omega)]
  obtain ⟨_, _, h3, h4⟩ := tk_ok hE
  refine ⟨hE, h4, ?_⟩
  rw [h3, h, ← hb, List.take_left']; rfl
theorem tk_cut {s : ByteArray} {i n : Nat} (h : (s.data.toList.drop i).length < n) (hi : i ≤ s.size) : tkE s i 0 n = 8 ∧ tkI s i 0 n = i ∧ tkT s i 0 n = ⟨#[]⟩ := by
  rw [List.length_drop, size_list] at h
  have hE : tkE s i 0 n = 8 := by unfold tkE; rw [if_pos rfl, if_neg (by omega)]
  obtain ⟨h1, h2⟩ := tk_err (s := s) (i := i) (e := 0) (n := n) (by rw [hE]; decide)
  exact ⟨hE, h2, h1⟩

/-! ### short numbers -/
theorem sh_ok {s : ByteArray} {i e m : Nat} (h : (shR s i e m).2.2 = 0) : e = 0 ∧ ∃ n sz, scan (s.data.toList.drop i) 0 0 = (n, sz, 0) ∧ n ≤ m ∧ shR s i e m = (n, i + sz, 0) := by
  by_cases he : e = 0
  · refine ⟨he, ?_⟩
    have hR : shR s i e m = if m < (scan (s.data.toList.drop i) 0 0).1 then (0, i, 40) else ((scan (s.data.toList.drop i) 0 0).1, i + (scan (s.data.toList.drop i) 0 0).2.1, (scan (s.data.toList.drop i) 0 0).2.2) := if_pos he
    rw [hR] at h ⊢
    generalize scan (s.data.toList.drop i) 0 0 = R at *
    obtain ⟨n, sz, f⟩ := R
    by_cases hm : m < n
    · rw [if_pos hm] at h; cases h
    · rw [if_neg hm] at h ⊢
      have hf : f = 0 := h
      subst hf
      exact ⟨n, sz, rfl, by omega, rfl⟩
  · have hR : shR s i e m = (0, i, e) := if_neg he
    rw [hR] at h; exact absurd h he
theorem sh_err {s : ByteArray} {i e m : Nat} (h : (shR s i e m).2.2 ≠ 0) : (shR s i e m).1 = 0 ∧ (shR s i e m).2.1 = i := by
  by_cases he : e = 0
  · have hR : shR s i e m = if m < (scan (s.data.toList.drop i) 0 0).1 then (0, i, 40) else ((scan (s.data.toList.drop i) 0 0).1, i + (scan (s.data.toList.drop i) 0 0).2.1, (scan (s.data.toList.drop i) 0 0).2.2) := if_pos he
    have hx := scan_err (s.data.toList.drop i) 0 0
    rw [hR] at h ⊢
    generalize scan (s.data.toList.drop i) 0 0 = R at *
    obtain ⟨n, sz, f⟩ := R
    by_cases hm : m < n
    · rw [if_pos hm]; exact ⟨rfl, rfl⟩
    · rw [if_neg hm] at h ⊢
      rcases hx with hx | ⟨h1, h2, _⟩
      · exact absurd hx h
      · exact ⟨h1, by show i + sz = i; have : sz = 0 := h2; omega⟩
  · have hR : shR s i e m = (0, i, e) := if_neg he
    rw [hR]; exact ⟨rfl, rfl⟩
theorem sh_is {s : ByteArray} {i n m : Nat} {c : List UInt8} (h : s.data.toList.drop i = shortB n ++ c) (hn : n < 18446744073709551616) (hm : n ≤ m) : shR s i 0 m = (n, i + (shortB n).length, 0) := by
  unfold shR
  rw [if_pos rfl, h, scan_shortB n c hn, if_neg (by show ¬ m < n; omega)]
theorem sh_cut {s : ByteArray} {i n m j : Nat} (h : s.data.toList.drop i = (shortB n).take j) (hn : n < 18446744073709551616) (hj : j < (shortB n).length) : shR s i 0 m = (0, i, 8) := by
  unfold shR
  rw [if_pos rfl, h, scan_cutB n j hn hj, if_neg (by show ¬ m < 0; omega)]; rfl

/-! ### texts -/
theorem tx_ok {s : ByteArray} {i e m : Nat} (h : (txR s i e m).2.2 = 0) : e = 0 ∧ ∃ n sz, scan (s.data.toList.drop i) 0 0 = (n, sz, 0) ∧ n ≤ m ∧ i + sz + n ≤ s.size ∧ (txR s i e m).1.data.toList = (s.data.toList.drop (i + sz)).take n ∧ (txR s i e m).2.1 = i + sz + n := by
  have hE : tkE s (shR s i e m).2.1 (shR s i e m).2.2 (shR s i e m).1 = 0 := h
  obtain ⟨h1, h2, h3, h4⟩ := tk_ok hE
  obtain ⟨he, n, sz, hs, hm, hR⟩ := sh_ok h1
  rw [hR] at h2 h3 h4 hE
  refine ⟨he, n, sz, hs, hm, h2, ?_, ?_⟩
  · show (tkT s (shR s i e m).2.1 (shR s i e m).2.2 (shR s i e m).1).data.toList = _
    rw [hR]; exact h3
  · show (if tkE s (shR s i e m).2.1 (shR s i e m).2.2 (shR s i e m).1 = 0 then tkI s (shR s i e m).2.1 (shR s i e m).2.2 (shR s i e m).1 else i) = _
    rw [hR, if_pos hE]; exact h4
theorem tx_err {s : ByteArray} {i e m : Nat} (h : (txR s i e m).2.2 ≠ 0) : (txR s i e m).1 = ⟨#[]⟩ ∧ (txR s i e m).2.1 = i := by
  have hE : tkE s (shR s i e m).2.1 (shR s i e m).2.2 (shR s i e m).1 ≠ 0 := h
  exact ⟨(tk_err hE).1, if_neg hE⟩
theorem tx_is {s : ByteArray} {i m : Nat} {t : ByteArray} {c : List UInt8} (h : s.data.toList.drop i = textB t ++ c) (ht : t.size < 18446744073709551616) (hm : t.size ≤ m) (hi : i ≤ s.size) : txR s i 0 m = (t, i + (textB t).length, 0) := by
  unfold textB at h ⊢
  rw [List.append_assoc] at h
  have hR := sh_is h ht hm
  have hd : s.data.toList.drop (i + (shortB t.size).length) = t.data.toList ++ c := by
    rw [← List.drop_drop, h, List.drop_left]
  have hl := congrArg List.length h
  rw [List.length_drop, List.length_append, size_list] at hl
  obtain ⟨h1, h2, h3⟩ := tk_is (n := t.size) hd rfl (by omega)
  unfold txR
  rw [hR]
  show (tkT s (i + (shortB t.size).length) 0 t.size, if tkE s (i + (shortB t.size).length) 0 t.size = 0 then tkI s (i + (shortB t.size).length) 0 t.size else i, tkE s (i + (shortB t.size).length) 0 t.size) = _
  rw [h1, if_pos rfl, h2, List.length_append, size_list, Nat.add_assoc, ba_ext h3]
theorem tx_cut {s : ByteArray} {i m j : Nat} {t : ByteArray} (h : s.data.toList.drop i = (textB t).take j) (ht : t.size < 18446744073709551616) (hm : t.size ≤ m) (hi : i ≤ s.size) (hj : j < (textB t).length) : txR s i 0 m = (⟨#[]⟩, i, 8) := by
  have hlt : (textB t).length = (shortB t.size).length + t.size := by unfold textB; rw [List.length_append, size_list]
  by_cases hjs : j < (shortB t.size).length
  · have h2 : s.data.toList.drop i = (shortB t.size).take j := by
      rw [h]; unfold textB; rw [List.take_append_of_le_length (by omega)]
    have hR := sh_cut (m := m) h2 ht hjs
    unfold txR
    rw [hR]
    show (tkT s i 8 0, if tkE s i 8 0 = 0 then tkI s i 8 0 else i, tkE s i 8 0) = _
    have hE : tkE s i 8 0 = 8 := by unfold tkE; rw [if_neg (by decide)]
    obtain ⟨h4, h5⟩ := tk_err (s := s) (i := i) (e := 8) (n := 0) (by rw [hE]; decide)
    rw [hE, h4, if_neg (by decide)]
  · have h2 : s.data.toList.drop i = shortB t.size ++ t.data.toList.take (j - (shortB t.size).length) := by
      rw [h]; unfold textB; rw [List.take_append]; rw [List.take_of_length_le (by omega)]
    have hR := sh_is (m := m) h2 ht hm
    have hd : s.data.toList.drop (i + (shortB t.size).length) = t.data.toList.take (j - (shortB t.size).length) := by
      rw [← List.drop_drop, h2, List.drop_left]
    have hl := congrArg List.length h2
    rw [List.length_drop, List.length_append, size_list] at hl
    obtain ⟨h3, h4, h5⟩ := tk_cut (s := s) (i := i + (shortB t.size).length) (n := t.size) (by rw [hd, List.length_take, size_list]; omega) (by omega)
    unfold txR
    rw [hR]
    show (tkT s (i + (shortB t.size).length) 0 t.size, if tkE s (i + (shortB t.size).length) 0 t.size = 0 then tkI s (i + (shortB t.size).length) 0 t.size else i, tkE s (i + (shortB t.size).length) 0 t.size) = _
    rw [h3, h5, if_neg (by decide)]

/-! ### what is asked -/
theorem be_empty : be (ByteArray.mk #[]).data.toList = 0 := rfl
theorem gt_err {s : ByteArray} {i e : Nat} {x : It} (h : (gt s i e x).2.2 ≠ 0) : (gt s i e x).1 = (0, ⟨#[]⟩) ∧ (gt s i e x).2.1 = i := by
  unfold gt at *
  repeat' split
  all_goals simp only [*, if_true, if_false] at h
  · obtain ⟨h1, h2⟩ := tk_err h; unfold fxV; rw [h1, h2]; exact ⟨rfl, rfl⟩
  · obtain ⟨h1, h2⟩ := tk_err h; unfold fxV; rw [h1, h2]; exact ⟨rfl, rfl⟩
  · obtain ⟨h1, h2⟩ := tk_err h; unfold fxV; rw [h1, h2]; exact ⟨rfl, rfl⟩
  · obtain ⟨h1, h2⟩ := tk_err h; unfold fxV; rw [h1, h2]; exact ⟨rfl, rfl⟩
  · obtain ⟨h1, h2⟩ := sh_err h; rw [h1, h2]; exact ⟨rfl, rfl⟩
  · obtain ⟨h1, h2⟩ := tx_err h; rw [h1, h2]; exact ⟨rfl, rfl⟩
  · obtain ⟨h1, h2⟩ := tk_err h; unfold fxV; rw [h1, h2]; exact ⟨by rw [be_empty, rev_zero], rfl⟩
  · obtain ⟨h1, h2⟩ := tk_err h; rw [h1, h2]; exact ⟨rfl, rfl⟩
theorem tkE_stuck (s : ByteArray) (i e n : Nat) (h : e ≠ 0) : tkE s i e n = e := if_neg h
theorem gt_stuck {s : ByteArray} {i e : Nat} {x : It} (h : e ≠ 0) : gt s i e x = ((0, ⟨#[]⟩), i, e) := by
  have hE : (gt s i e x).2.2 = e := by
    have hR : ∀ m, shR s i e m = (0, i, e) := fun m => if_neg h
    unfold gt
    repeat' split
    all_goals first | exact tkE_stuck _ _ _ _ h | (rw [hR]) | (unfold txR; rw [hR]; exact tkE_stuck _ _ _ _ h)
  obtain ⟨h1, h2⟩ := gt_err (s := s) (i := i) (e := e) (x := x) (by rw [hE]; exact h)
  exact Prod.ext h1 (Prod.ext h2 hE)
/-- the Item as it was read -/
def back (x : It) (v : Nat) (t : ByteArray) : It := { x with n := v, t := t }
theorem fx_back (s : ByteArray) (i k : Nat) (h : tkE s i 0 k = 0) : fixB k (fxV s i 0 k) = (s.data.toList.drop i).take k := by
  obtain ⟨_, h2, h3, _⟩ := tk_ok h
  unfold fxV
  rw [h3]
  exact fixB_be k _ (by rw [List.length_take, List.length_drop, size_list]; omega)
theorem gt_ok {s : ByteArray} {i e : Nat} {x : It} (h : (gt s i e x).2.2 = 0) : e = 0 ∧ i ≤ (gt s i e x).2.1 ∧ (s.data.toList.drop i).take ((gt s i e x).2.1 - i) = wrB (back x (gt s i e x).1.1 (gt s i e x).1.2) ∧
    (gt s i e x).1.1 < 18446744073709551616 ∧ (gt s i e x).1.2.size ≤ s.size := by
  have hz : (ByteArray.mk #[]).size ≤ s.size := Nat.zero_le _
  unfold gt at *
  unfold wrB back
  have fin : ∀ k, tkE s i e k = 0 → k ≤ 8 → e = 0 ∧ i ≤ tkI s i e k ∧ (s.data.toList.drop i).take (tkI s i e k - i) = fixB k (fxV s i e k) ∧ fxV s i e k < 18446744073709551616 := by
    intro k hk h8
    obtain ⟨h1, h2, h3, h4⟩ := tk_ok hk
    subst h1
    refine ⟨rfl, by omega, ?_, ?_⟩
    · rw [h4, Nat.add_sub_cancel_left, fx_back s i k hk]
    · have := fxV_lt s i 0 k
      have := Nat.pow_le_pow_right (n := 256) (by decide) h8
      omega
  by_cases c0 : x.k % 8 = 0
  · simp only [if_pos c0] at h ⊢
    obtain ⟨h1, h2, h3, h4⟩ := fin 1 h (by omega); exact ⟨h1, h2, h3, h4, hz⟩
  simp only [if_neg c0] at h ⊢
  by_cases c1 : x.k % 8 = 1
  · simp only [if_pos c1] at h ⊢
    obtain ⟨h1, h2, h3, h4⟩ := fin 2 h (by omega); exact ⟨h1, h2, h3, h4, hz⟩
  simp only [if_neg c1] at h ⊢
  by_cases c2 : x.k % 8 = 2
  · simp only [if_pos c2] at h ⊢
    obtain ⟨h1, h2, h3, h4⟩ := fin 4 h (by omega); exact ⟨h1, h2, h3, h4, hz⟩
  simp only [if_neg c2] at h ⊢
  by_cases c3 : x.k % 8 = 3
  · simp only [if_pos c3] at h ⊢
    obtain ⟨h1, h2, h3, h4⟩ := fin 8 h (by omega); exact ⟨h1, h2, h3, h4, hz⟩
  simp only [if_neg c3] at h ⊢
  by_cases c4 : x.k % 8 = 4
  · simp only [if_pos c4] at h ⊢
    obtain ⟨h1, n, sz, hs, hm, hR⟩ := sh_ok h
    obtain ⟨g1, g2, g3⟩ := scan_backB hs
    rw [hR]
    refine ⟨h1, by show i ≤ i + sz; omega, ?_, g1, hz⟩
    show List.take (i + sz - i) _ = shortB n
    rw [Nat.add_sub_cancel_left]; exact g3
  simp only [if_neg c4] at h ⊢
  by_cases c5 : x.k % 8 = 5
  · simp only [if_pos c5] at h ⊢
    obtain ⟨h1, n, sz, hs, hm, hsz, hT, hI⟩ := tx_ok h
    obtain ⟨g1, g2, g3⟩ := scan_backB hs
    generalize txR s i e x.m.toNat = R at *
    obtain ⟨t, j, f⟩ := R
    simp only [] at hT hI ⊢
    have hts : t.size = n := by
      rw [← size_list, hT, List.length_take, List.length_drop, size_list]; omega
    refine ⟨h1, by omega, ?_, by omega, by omega⟩
    unfold textB
    rw [hts, hT, hI, ← g3, show i + sz + n - i = sz + n by omega, ← List.drop_drop, List.take_add]
  simp only [if_neg c5] at h ⊢
  by_cases c6 : x.k % 8 = 6
  · simp only [if_pos c6] at h ⊢
    obtain ⟨h1, h2, h3, h4⟩ := fin 4 h (by omega)
    refine ⟨h1, h2, ?_, by have := rev_lt (fxV s i e 4); omega, hz⟩
    rw [h3]; unfold lowB; rw [fix_rev, List.reverse_reverse]
  simp only [if_neg c6] at h ⊢
  obtain ⟨h1, h2, h3, h4⟩ := tk_ok h
  refine ⟨h1, by omega, ?_, by decide, ?_⟩
  · rw [h4, Nat.add_sub_cancel_left, h3]
  · rw [← size_list, h3, List.length_take, List.length_drop, size_list]; omega

/-- asked for as it was written -/
def fitI (x : It) : It := if x.k % 8 = 4 then x else { x with m := (x.t.size : Int) }
/-- is that what an Item is? -/
def isI (x : It) (v : Nat) (t : ByteArray) : Prop :=
  if x.k % 8 = 0 then v = x.n % 256 else if x.k % 8 = 1 then v = x.n % 65536 else if x.k % 8 = 2 then v = x.n % 4294967296 else if x.k % 8 = 3 then v = x.n else if x.k % 8 = 4 then v = x.n else if x.k % 8 = 6 then v = x.n % 4294967296 else t = x.t
theorem gt_is {s : ByteArray} {i : Nat} {x : It} {c : List UInt8} (h : s.data.toList.drop i = wrB x ++ c) (hn : x.n < 18446744073709551616) (ht : x.t.size < 18446744073709551616) (hi : i ≤ s.size) :
    isI x (gt s i 0 (fitI x)).1.1 (gt s i 0 (fitI x)).1.2 ∧ (gt s i 0 (fitI x)).2 = (i + (wrB x).length, 0) := by
  have fx : ∀ k, s.data.toList.drop i = fixB k x.n ++ c → fxV s i 0 k = x.n % 256 ^ k ∧ tkI s i 0 k = i + (fixB k x.n).length ∧ tkE s i 0 k = 0 := by
    intro k hk
    obtain ⟨h1, h2, h3⟩ := tk_is hk (fixB_length k x.n) hi
    exact ⟨by unfold fxV; rw [h3, be_fixB], by rw [h2, fixB_length], h1⟩
  unfold wrB at h ⊢
  unfold isI gt fitI
  by_cases c0 : x.k % 8 = 0
  · have c4 : ¬ x.k % 8 = 4 := by omega
    simp only [if_pos c0, if_neg c4] at h ⊢
    obtain ⟨h1, h2, h3⟩ := fx 1 h; exact ⟨h1, Prod.ext h2 h3⟩
  by_cases c1 : x.k % 8 = 1
  · have c4 : ¬ x.k % 8 = 4 := by omega
    simp only [if_neg c0, if_pos c1, if_neg c4] at h ⊢
    obtain ⟨h1, h2, h3⟩ := fx 2 h; exact ⟨h1, Prod.ext h2 h3⟩
  by_cases c2 : x.k % 8 = 2
  · have c4 : ¬ x.k % 8 = 4 := by omega
    simp only [if_neg c0, if_neg c1, if_pos c2, if_neg c4] at h ⊢
    obtain ⟨h1, h2, h3⟩ := fx 4 h; exact ⟨h1, Prod.ext h2 h3⟩
  by_cases c3 : x.k % 8 = 3
  · have c4 : ¬ x.k % 8 = 4 := by omega
    simp only [if_neg c0, if_neg c1, if_neg c2, if_pos c3, if_neg c4] at h ⊢
    obtain ⟨h1, h2, h3⟩ := fx 8 h; exact ⟨by rw [h1]; exact Nat.mod_eq_of_lt hn, Prod.ext h2 h3⟩
  by_cases c4 : x.k % 8 = 4
  · simp only [if_neg c0, if_neg c1, if_neg c2, if_neg c3, if_pos c4] at h ⊢
    rw [sh_is h hn (Nat.le_refl _)]; exact ⟨rfl, rfl⟩
  by_cases c5 : x.k % 8 = 5
  · have c6 : ¬ x.k % 8 = 6 := by omega
    simp only [if_neg c0, if_neg c1, if_neg c2, if_neg c3, if_neg c4, if_pos c5, if_neg c6] at h ⊢
    rw [Int.toNat_natCast, tx_is h ht (Nat.le_refl _) hi]; exact ⟨rfl, rfl⟩
  by_cases c6 : x.k % 8 = 6
  · simp only [if_neg c0, if_neg c1, if_neg c2, if_neg c3, if_neg c4, if_neg c5, if_pos c6] at h ⊢
    obtain ⟨h1, h2, h3⟩ := tk_is h (lowB_length x.n) hi
    refine ⟨?_, Prod.ext (by rw [h2, lowB_length]) h1⟩
    unfold fxV
    rw [h3]
    unfold lowB revN
    have e : fixB 4 (be (fixB 4 x.n).reverse) = (fixB 4 x.n).reverse := fixB_be 4 _ (by rw [List.length_reverse, fixB_length])
    rw [e, List.reverse_reverse, be_fixB]
  · simp only [if_neg c0, if_neg c1, if_neg c2, if_neg c3, if_neg c4, if_neg c5, if_neg c6] at h ⊢
    rw [Int.toNat_natCast]
    obtain ⟨h1, h2, h3⟩ := tk_is (n := x.t.size) h rfl hi
    exact ⟨ba_ext h3, Prod.ext (by rw [h2, size_list]) h1⟩
theorem gt_cut {s : ByteArray} {i j : Nat} {x : It} (h : s.data.toList.drop i = (wrB x).take j) (hj : j < (wrB x).length) (hn : x.n < 18446744073709551616) (ht : x.t.size < 18446744073709551616) (hi : i ≤ s.size) :
    gt s i 0 (fitI x) = ((0, ⟨#[]⟩), i, 8) := by
  have hE : (gt s i 0 (fitI x)).2.2 = 8 := by
    have fx : ∀ k, (wrB x).length = k → tkE s i 0 k = 8 := by
      intro k hk
      exact (tk_cut (by rw [h, List.length_take]; omega) hi).1
    have fx' := fx _ rfl
    unfold wrB at h hj fx'
    unfold gt fitI
    by_cases c0 : x.k % 8 = 0
    · have c4 : ¬ x.k % 8 = 4 := by omega
      simp only [if_pos c0, if_neg c4] at fx' ⊢; rw [fixB_length] at fx'; exact fx'
    by_cases c1 : x.k % 8 = 1
    · have c4 : ¬ x.k % 8 = 4 := by omega
      simp only [if_neg c0, if_pos c1, if_neg c4] at fx' ⊢; rw [fixB_length] at fx'; exact fx'
    by_cases c2 : x.k % 8 = 2
    · have c4 : ¬ x.k % 8 = 4 := by omega
      simp only [if_neg c0, if_neg c1, if_pos c2, if_neg c4] at fx' ⊢; rw [fixB_length] at fx'; exact fx'
    by_cases c3 : x.k % 8 = 3
    · have c4 : ¬ x.k % 8 = 4 := by omega
      simp only [if_neg c0, if_neg c1, if_neg c2, if_pos c3, if_neg c4] at fx' ⊢; rw [fixB_length] at fx'; exact fx'
    by_cases c4 : x.k % 8 = 4
    · simp only [if_neg c0, if_neg c1, if_neg c2, if_neg c3, if_pos c4] at h hj ⊢
      rw [sh_cut h hn hj]
    by_cases c5 : x.k % 8 = 5
    · simp only [if_neg c0, if_neg c1, if_neg c2, if_neg c3, if_neg c4, if_pos c5] at h hj ⊢
      rw [Int.toNat_natCast, tx_cut h ht (Nat.le_refl _) hi hj]
    by_cases c6 : x.k % 8 = 6
    · simp only [if_neg c0, if_neg c1, if_neg c2, if_neg c3, if_neg c4, if_neg c5, if_pos c6] at fx' ⊢; rw [lowB_length] at fx'; exact fx'
    · simp only [if_neg c0, if_neg c1, if_neg c2, if_neg c3, if_neg c4, if_neg c5, if_neg c6] at fx' ⊢
      rw [Int.toNat_natCast]; exact fx'
  obtain ⟨h1, h2⟩ := gt_err (s := s) (i := i) (e := 0) (x := fitI x) (by rw [hE]; decide)
  exact Prod.ext h1 (Prod.ext h2 hE)

end Go.Proofs.YtiibeemjkdipnaaGreatDoor.Wire
