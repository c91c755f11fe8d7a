import Derived.Test.YtiibeemjkdipnaaGreatDoorG11
import Derived.Test.YtiibeemjkdipnaaGreatDoorB19
import Derived.Test.YtiibeemjkdipnaaGreatDoorEF
/-
  The examples.
-/
namespace Go.Proofs.YtiibeemjkdipnaaGreatDoor.Codec
open Go Go.RowKit
open Go.Proofs.YtiibeemjkdipnaaGreatDoor.Wire (Wr Only Rd Step U cell_row rdS fxV shR txR tkI tkE tkT)
open Go.Proofs.YtiibeemjkdipnaaGreatDoor.Schema

theorem S_size (l : List UInt8) : (Wire.S l).size = l.length := by
  show l.toArray.size = l.length
  simp
theorem decE_bad {s : ByteArray} (h : decW s ≠ 0) : decE s = noEv := if_neg h
theorem str_self (s : ByteArray) : (s.toList == s.toList) = true := by rw [str_eq]; exact decide_eq_true rfl
theorem ownE_ev {w : World} {b1 b2 : Nat} {A : Option Addr} {ca : Nat} {C : Option Addr} {cc : Nat} {e : Ev} (hv : e.v < 256) (hk : e.k < 256) (hf : Fits64 e.ns) (ht : ∀ t ∈ e.ts, t.size ≤ maxLen) (h1 : OwnE w b1 2 (.slice A e.ns.length ca) (nums e.ns)) (h2 : OwnE w b2 9 (.slice C e.ts.length cc) (texts e.ts)) : EvAt w A ca C cc e := ev_of hv hk hf ht h1.b h2.b

theorem ex1_may : may ⟨3, 6, [1, 500], []⟩ = true := by decide +kernel
theorem ex1_enc : Wire.S (encB ⟨3, 6, [1, 500], []⟩) = ⟨#[3, 6, 1, 244, 3]⟩ := by kernel_rfl
theorem ex1_dec : decW ⟨#[3, 6, 1, 244, 3]⟩ = 0 := by decide +kernel
theorem ex1_ev : decE ⟨#[3, 6, 1, 244, 3]⟩ = ⟨3, 6, [1, 500], []⟩ := by kernel_rfl
theorem ex2_may : may ⟨3, 1, [2], [⟨#[97, 98]⟩]⟩ = true := by decide +kernel
theorem ex2_enc : Wire.S (encB ⟨3, 1, [2], [⟨#[97, 98]⟩]⟩) = ⟨#[3, 1, 2, 2, 97, 98]⟩ := by kernel_rfl
theorem ex2_dec : decW ⟨#[3, 1, 2, 2, 97, 98]⟩ = 0 := by decide +kernel
theorem ex2_ev : decE ⟨#[3, 1, 2, 2, 97, 98]⟩ = ⟨3, 1, [2], [⟨#[97, 98]⟩]⟩ := by kernel_rfl
theorem ex3_dec : decW ⟨#[3, 6, 0, 5]⟩ = 4 := by decide +kernel
theorem ex4_dec : decW ⟨#[4, 6, 1, 5]⟩ = 43 := by decide +kernel
theorem ex5_dec : decW ⟨#[1, 21, 1, 2, 3]⟩ = 4 := by decide +kernel


set_option maxRecDepth 100000 in
theorem event_any (v k : Nat) (A : Option Addr) (n cap : Nat) (w : World) :
    Calls Tryz.prog 23 #[.int .u8 (v : Int), .int .u8 (k : Int), .slice A n cap] w fun z w' => z = .returned (.agg #[.int .u8 (v : Int), .int .u8 (k : Int), .slice A n cap, .slice none 0 0]) ∧ Below w.heap.size w w' := by
  go_enter Tryz.func23, Tryz.ntmps23
  go_wp2
  exact bodyPost_ret (v := .agg #[.int .u8 (v : Int), .int .u8 (k : Int), .slice A n cap, .slice none 0 0]) (by simp [results, Tryz.results23, go_sem]) rfl ⟨rfl, (Below.refl _ _).alloc (Nat.le_refl _) _⟩

/-- what a world holds behind an event of one name -/
def NamedRes (v k : Nat) (t : ByteArray) (A : Option Addr) (n cap : Nat) (w : World) (z : Ending) (w' : World) : Prop := ∃ q, z = .returned (.agg #[.int .u8 (v : Int), .int .u8 (k : Int), .slice A n cap, .slice (some ⟨q, 0, none⟩) 1 1]) ∧ One w' q (.string t) ∧ Below w.heap.size w w'
end Go.Proofs.YtiibeemjkdipnaaGreatDoor.Codec

/-
  The examples, all of them.
-/
namespace Go.Proofs.YtiibeemjkdipnaaGreatDoor.Codec
open Go Go.RowKit
open Go.Proofs.YtiibeemjkdipnaaGreatDoor.Wire (Wr Only Rd Step U cell_row rdS fxV shR txR tkI tkE tkT)
open Go.Proofs.YtiibeemjkdipnaaGreatDoor.Schema

theorem vat1_new (w : World) (a : Value) (T : TypeId) : VAt (w.alloc (.cells #[a] T)) (some ⟨w.heap.size, 0, none⟩) [a] := by
  intro k u h
  match k with
  | 0 => obtain rfl : a = u := by simpa using h
         exact ⟨_, 0, rfl, one_new w a T⟩
  | k + 1 => simp at h
theorem vat2_new (w : World) (a b : Value) (T : TypeId) : VAt (w.alloc (.cells #[a, b] T)) (some ⟨w.heap.size, 0, none⟩) [a, b] := by
  intro k u h
  match k with
  | 0 => obtain rfl : a = u := by simpa using h
         exact ⟨_, 0, rfl, (two_new w a b T).1⟩
  | 1 => obtain rfl : b = u := by simpa using h
         exact ⟨_, 0, rfl, (two_new w a b T).2⟩
  | k + 2 => simp at h
theorem one_vat {w : World} {q : Nat} {a : Value} (h : One w q a) : VAt w (some ⟨q, 0, none⟩) [a] := by
  intro k u hk
  match k with
  | 0 => obtain rfl : a = u := by simpa using hk
         exact ⟨_, 0, rfl, h⟩
  | k + 1 => simp at hk
theorem ex1_at {w : World} {q : Nat} (h : VAt w (some ⟨q, 0, none⟩) [.int .i64 1, .int .i64 500]) : EvAt w (some ⟨q, 0, none⟩) 2 none 0 ⟨3, 6, [1, 500], []⟩ :=
  ⟨by decide, by decide, (fun x hx => by simp at hx; omega), by simp, h, VAt.nil _ _, (fun h => by cases h), (fun _ => rfl), Nat.le_refl _, Nat.le_refl _⟩
theorem ex2_at {w : World} {q p : Nat} (h : VAt w (some ⟨q, 0, none⟩) [.int .i64 2]) (h2 : VAt w (some ⟨p, 0, none⟩) [.string ⟨#[97, 98]⟩]) : EvAt w (some ⟨q, 0, none⟩) 1 (some ⟨p, 0, none⟩) 1 ⟨3, 1, [2], [⟨#[97, 98]⟩]⟩ :=
  ⟨by decide, by decide, (fun x hx => by simp at hx; omega), (fun t ht => by simp at ht; subst ht; decide), h, h2, (fun h => by cases h), (fun h => by cases h), Nat.le_refl _, Nat.le_refl _⟩

end Go.Proofs.YtiibeemjkdipnaaGreatDoor.Codec

/-
  What is read of what was written, or of a front of it. Plain mathematics on the values.
-/
namespace Go.Proofs.YtiibeemjkdipnaaGreatDoor.Codec
open Go Go.RowKit
open Go.Proofs.YtiibeemjkdipnaaGreatDoor.Wire (fixB shortB textB be fxV shR txR tkI tkE tkT tk_is tk_cut tk_ok sh_is sh_cut sh_ok tx_is tx_cut tx_ok fixB_length be_fixB fixB_be size_list ba_ext)
open Go.Proofs.YtiibeemjkdipnaaGreatDoor.Schema

theorem take_app {α : Type} (a b : List α) (j : Nat) (h : a.length ≤ j) : (a ++ b).take j = a ++ b.take (j - a.length) := by
  rw [List.take_append, List.take_of_length_le h]
theorem nsB_cut (xs : List Int) (k : Nat) (h : k < xs.length) : nsB xs = nsB (xs.take k) ++ (shortB (xs.getD k 0).toNat ++ nsB (xs.drop (k + 1))) := by
  have e : xs = xs.take k ++ (xs.getD k 0 :: xs.drop (k + 1)) := by
    rw [List.getD_eq_getElem?_getD, List.getElem?_eq_getElem h]
    show xs = xs.take k ++ (xs[k] :: xs.drop (k + 1))
    rw [← List.drop_eq_getElem_cons h, List.take_append_drop]
  have h2 : nsB xs = nsB (xs.take k ++ (xs.getD k 0 :: xs.drop (k + 1))) := congrArg nsB e
  rw [h2]
  unfold nsB
  rw [List.flatMap_append, List.flatMap_cons]
theorem take_snoc (xs : List Int) (k : Nat) (h : k < xs.length) : xs.take (k + 1) = xs.take k ++ [xs.getD k 0] := by
  rw [List.take_succ_eq_append_getElem h, List.getD_eq_getElem?_getD, List.getElem?_eq_getElem h]; rfl

theorem fold_front (v i j : Nat) (s l : ByteArray) (ns : List Int) (X : List UInt8) (hl : ns.length = l.size) (hf : ∀ k, k < l.size → fits v (byteAt l k) (ns.getD k 0) = true) (h : s.data.toList.drop i = (nsB ns ++ X).take j) :
    ∀ k, k ≤ l.size → ((nsB (ns.take k)).length ≤ j ∧ foldR v s l k ⟨i, 0, 0, []⟩ = ⟨i + (nsB (ns.take k)).length, 0, 0, ns.take k⟩) ∨ (j < (nsB (ns.take k)).length ∧ (foldR v s l k ⟨i, 0, 0, []⟩).w = 8) := by
  intro k
  induction k with
  | zero => intro _; exact Or.inl ⟨Nat.zero_le _, rfl⟩
  | succ k ih =>
    intro hk
    have hk1 : k < ns.length := by omega
    have hsn := nsB_snoc ns k hk1
    have hlen : (nsB (ns.take (k + 1))).length = (nsB (ns.take k)).length + (shortB (ns.getD k 0).toNat).length := by rw [hsn, List.length_append]
    rw [foldR_succ]
    rcases ih (by omega) with ⟨h1, h2⟩ | ⟨h1, h2⟩
    · have hfk := hf k (by omega)
      have hr := fits_range hfk
      have hlo : (bnd v (byteAt l k)).low ≤ ns.getD k 0 ∧ ns.getD k 0 ≤ (bnd v (byteAt l k)).high := by
        unfold fits at hfk
        simp only [Bool.and_eq_true, decide_eq_true_eq] at hfk
        exact ⟨hfk.1.2, hfk.2⟩
      have hd : s.data.toList.drop (i + (nsB (ns.take k)).length) = (shortB (ns.getD k 0).toNat ++ (nsB (ns.drop (k + 1)) ++ X)).take (j - (nsB (ns.take k)).length) := by
        rw [← List.drop_drop, h, nsB_cut ns k hk1, List.append_assoc, take_app _ _ _ h1, List.drop_left, List.append_assoc]
      rw [h2, stepR_go rfl]
      by_cases hj : j - (nsB (ns.take k)).length < (shortB (ns.getD k 0).toNat).length
      · right
        have hc : s.data.toList.drop (i + (nsB (ns.take k)).length) = (shortB (ns.getD k 0).toNat).take (j - (nsB (ns.take k)).length) := by
          rw [hd, List.take_append_of_le_length (by omega)]
        have hx := sh_cut (m := (bnd v (byteAt l k)).high.toNat) hc (by omega) hj
        refine ⟨by omega, ?_⟩
        show wrN (nx s (i + (nsB (ns.take k)).length) 0 (bnd v (byteAt l k)).high) _ = 8
        unfold nx wrN
        rw [hx]; rfl
      · left
        have hc : s.data.toList.drop (i + (nsB (ns.take k)).length) = shortB (ns.getD k 0).toNat ++ (nsB (ns.drop (k + 1)) ++ X).take (j - (nsB (ns.take k)).length - (shortB (ns.getD k 0).toNat).length) := by
          rw [hd, take_app _ _ _ (by omega)]
        have hx := sh_is (m := (bnd v (byteAt l k)).high.toNat) hc (by omega) (by omega)
        refine ⟨by omega, ?_⟩
        unfold nx wrN
        rw [hx]
        show RS.mk (i + (nsB (ns.take k)).length + (shortB (ns.getD k 0).toNat).length) 0 (if decide ((bnd v (byteAt l k)).low ≤ ((ns.getD k 0).toNat : Int)) then 0 else 4) (ns.take k ++ [((ns.getD k 0).toNat : Int)]) = _
        rw [Int.toNat_of_nonneg hr.1, if_pos (decide_eq_true hlo.1), hlen, take_snoc ns k hk1, Nat.add_assoc]
    · right
      exact ⟨by omega, by rw [stepR_skip (by rw [h2]; decide)]; exact h2⟩

theorem fold_back (v i : Nat) (s l : ByteArray) (hb : ∀ k, k < l.size → (bnd v (byteAt l k)).is = true) (hi : i ≤ s.size) :
    ∀ k, k ≤ l.size → (foldR v s l k ⟨i, 0, 0, []⟩).w = 0 → ∃ ns : List Int, ns.length = k ∧ foldR v s l k ⟨i, 0, 0, []⟩ = ⟨i + (nsB ns).length, 0, 0, ns⟩ ∧ (∀ j, j < k → fits v (byteAt l j) (ns.getD j 0) = true) ∧ (s.data.toList.drop i).take (nsB ns).length = nsB ns ∧ i + (nsB ns).length ≤ s.size := by
  intro k
  induction k with
  | zero => intro _ _; exact ⟨[], rfl, rfl, fun j hj => absurd hj (Nat.not_lt_zero _), rfl, hi⟩
  | succ k ih =>
    intro hk hw
    rw [foldR_succ] at hw ⊢
    by_cases h0 : (foldR v s l k ⟨i, 0, 0, []⟩).w = 0
    · obtain ⟨ns, hl, he, hf, ht, hs⟩ := ih (by omega) h0
      rw [he, stepR_go rfl] at hw ⊢
      have hw2 : wrN (nx s (i + (nsB ns).length) 0 (bnd v (byteAt l k)).high) (bnd v (byteAt l k)).low = 0 := hw
      have hE : (nx s (i + (nsB ns).length) 0 (bnd v (byteAt l k)).high).2.2 = 0 := by
        unfold wrN at hw2
        by_cases hq : (nx s (i + (nsB ns).length) 0 (bnd v (byteAt l k)).high).2.2 = 0
        · exact hq
        · rw [if_neg hq] at hw2; exact hw2
      have hL : (bnd v (byteAt l k)).low ≤ ((nx s (i + (nsB ns).length) 0 (bnd v (byteAt l k)).high).1 : Int) := by
        unfold wrN at hw2
        rw [if_pos hE] at hw2
        by_cases hq : (bnd v (byteAt l k)).low ≤ ((nx s (i + (nsB ns).length) 0 (bnd v (byteAt l k)).high).1 : Int)
        · exact hq
        · rw [if_neg (by simpa using hq)] at hw2; cases hw2
      obtain ⟨_, n, sz, hsc, hn, hR⟩ := sh_ok hE
      have hRn : nx s (i + (nsB ns).length) 0 (bnd v (byteAt l k)).high = (n, i + (nsB ns).length + sz, 0) := hR
      obtain ⟨hn64, hsz, htk⟩ := Wire.scan_backB hsc
      rw [hRn] at hL hw2 ⊢
      have hwf := bnd_wf v (byteAt l k)
      have hnn : nsB (ns ++ [(n : Int)]) = nsB ns ++ shortB n := by
        unfold nsB; rw [List.flatMap_append]; simp
      have hlen : (nsB (ns ++ [(n : Int)])).length = (nsB ns).length + sz := by rw [hnn, List.length_append, hsz]
      have hss : (i + (nsB ns).length) + sz ≤ s.size := by
        have hh := congrArg List.length htk
        rw [List.length_take, List.length_drop, size_list, ← hsz] at hh
        omega
      refine ⟨ns ++ [(n : Int)], by simp [hl], ?_, ?_, ?_, by omega⟩
      · show RS.mk (i + (nsB ns).length + sz) 0 _ (ns ++ [(n : Int)]) = _
        rw [hlen, ← Nat.add_assoc]
        exact congrArg (fun q => RS.mk (i + (nsB ns).length + sz) 0 q (ns ++ [(n : Int)])) hw2
      · intro j hj
        by_cases hjk : j < k
        · rw [List.getD_eq_getElem?_getD, List.getElem?_append_left (by omega), ← List.getD_eq_getElem?_getD]; exact hf j hjk
        · obtain rfl : j = k := by omega
          rw [List.getD_eq_getElem?_getD, List.getElem?_append_right (by omega), hl, Nat.sub_self]
          show fits v (byteAt l j) (n : Int) = true
          unfold fits
          rw [hb j (by omega), decide_eq_true (show (bnd v (byteAt l j)).low ≤ (n : Int) from hL), decide_eq_true (show (n : Int) ≤ (bnd v (byteAt l j)).high by omega)]; rfl
      · rw [hlen, hnn, List.take_add, ht, List.drop_drop, htk]
    · rw [stepR_skip h0] at hw; exact absurd hw h0

end Go.Proofs.YtiibeemjkdipnaaGreatDoor.Codec

/-
  An event read of its bytes, of a front of them, and written again. Plain mathematics on the values.
-/
namespace Go.Proofs.YtiibeemjkdipnaaGreatDoor.Codec
open Go Go.RowKit
open Go.Proofs.YtiibeemjkdipnaaGreatDoor.Wire (fixB shortB textB be fxV shR txR tkI tkE tkT tk_is tk_cut tk_ok sh_is sh_cut sh_ok tx_is tx_cut tx_ok fixB_length be_fixB fixB_be size_list ba_ext)
open Go.Proofs.YtiibeemjkdipnaaGreatDoor.Schema

theorem tall_range {v k : Nat} (h : tall v k = true) : (1 ≤ v ∧ v ≤ 3) ∧ k < 24 := by
  by_cases hq : v < 1 ∨ 3 < v ∨ ¬ k < 24
  · unfold tall at h
    rw [lets_out v k hq] at h; cases h
  · omega
theorem fold_skip (v : Nat) (s l : ByteArray) (st : RS) (h : st.w ≠ 0) : ∀ k, foldR v s l k st = st := by
  intro k
  induction k with
  | zero => rfl
  | succ k ih => rw [foldR_succ, ih, stepR_skip h]
theorem rs2_w {s : ByteArray} {i e v : Nat} (h : (rs1 s i e v).w ≠ 0) : (rs2 s i e v).2.2.1 = (rs1 s i e v).w := by
  unfold rs2
  split
  · first | rfl | rw [if_neg h]
  · rfl
theorem tsB_one (t : ByteArray) : tsB [t] = textB t := by unfold tsB; simp
theorem mayT_is {k : Nat} {ts : List ByteArray} (h : mayT k ts = true) : (tru k = true ∧ ∃ t, ts = [t] ∧ mayName t = true) ∨ (tru k = false ∧ ts = []) := by
  unfold mayT at h
  cases ht : tru k with
  | true =>
    rw [ht] at h
    simp only [if_true, Bool.and_eq_true, decide_eq_true_eq] at h
    obtain ⟨h1, h2⟩ := h
    match ts, h1 with
    | [t], _ => exact Or.inl ⟨rfl, t, rfl, h2⟩
  | false =>
    rw [ht] at h
    simp only [Bool.false_eq_true, if_false, decide_eq_true_eq] at h
    exact Or.inr ⟨rfl, List.eq_nil_of_length_eq_zero h⟩
theorem mayName_size {t : ByteArray} (h : mayName t = true) : t.size ≤ 24 := by
  unfold mayName at h
  simp only [Bool.and_eq_true, decide_eq_true_eq] at h
  exact h.1.2

theorem get_front {e : Ev} (hm : may e = true) (s : ByteArray) (i j : Nat) (X : List UInt8) (hi : i ≤ s.size) (h : s.data.toList.drop i = (bare e ++ X).take j) :
    ((bare e).length ≤ j → getW s i 0 e.v = 0 ∧ getE s i 0 e.v = e ∧ getI s i 0 e.v = i + (bare e).length ∧ getF s i 0 e.v = 0) ∧ (j < (bare e).length → getW s i 0 e.v = 8) := by
  obtain ⟨ht, hl, hf, hx⟩ := may_parts hm
  obtain ⟨hv, hk⟩ := tall_range ht
  have hbl : (bare e).length = 1 + (nsB e.ns).length + (tsB e.ts).length := by unfold bare; rw [List.length_append, List.length_append, fixB_length]
  have hW : getW s i 0 e.v = (rs2 s i 0 e.v).2.2.1 := if_pos hv
  have hI : getI s i 0 e.v = (rs2 s i 0 e.v).1 := if_pos hv
  have hF : getF s i 0 e.v = (rs2 s i 0 e.v).2.1 := if_pos hv
  by_cases hj : j = 0
  · subst hj
    have h0 : s.data.toList.drop i = [] := by rw [h, List.take_zero]
    obtain ⟨c1, c2, c3⟩ := tk_cut (n := 1) (by rw [h0]; decide) hi
    have hw : (rs0 s i 0 e.v).w = 8 := by
      show wrK s i 0 e.v = 8
      unfold wrK
      rw [if_neg (by rw [c1]; decide), c1]
    have h1 : (rs1 s i 0 e.v).w = 8 := by unfold rs1; rw [fold_skip _ _ _ _ (by rw [hw]; decide)]; exact hw
    refine ⟨fun hq => absurd hq (by omega), fun _ => ?_⟩
    rw [hW, rs2_w (by rw [h1]; decide)]; exact h1
  · have hd : s.data.toList.drop i = fixB 1 e.k ++ (nsB e.ns ++ (tsB e.ts ++ X)).take (j - 1) := by
      rw [h]
      unfold bare
      rw [List.append_assoc, List.append_assoc, take_app _ _ _ (by rw [fixB_length]; omega), fixB_length]
    obtain ⟨c1, c2, c3⟩ := tk_is (n := 1) hd (fixB_length 1 e.k) hi
    have hkd : kd s i 0 = e.k := by unfold kd fxV; rw [c3, be_fixB]; omega
    have hwk : wrK s i 0 e.v = 0 := by
      unfold wrK
      rw [if_pos c1, show fxV s i 0 1 = e.k from hkd, ht]; rfl
    have h0 : rs0 s i 0 e.v = ⟨i + 1, 0, 0, []⟩ := by unfold rs0; rw [c1, c2, hwk]
    have hd1 : s.data.toList.drop (i + 1) = (nsB e.ns ++ (tsB e.ts ++ X)).take (j - 1) := by
      rw [← List.drop_drop, hd]
      exact List.drop_left' (fixB_length 1 e.k)
    have hff := fold_front e.v (i + 1) (j - 1) s (lets e.v e.k) e.ns (tsB e.ts ++ X) hl hf hd1 _ (Nat.le_refl _)
    have htk : e.ns.take (lets e.v e.k).size = e.ns := List.take_of_length_le (by omega)
    rw [htk] at hff
    have h1 : rs1 s i 0 e.v = foldR e.v s (lets e.v e.k) (lets e.v e.k).size ⟨i + 1, 0, 0, []⟩ := by unfold rs1; rw [hkd, h0]
    rw [← h1] at hff
    rcases hff with ⟨q1, q2⟩ | ⟨q1, q2⟩
    · have hi2 : i + 1 + (nsB e.ns).length ≤ s.size := by
        have hh := congrArg List.length hd1
        rw [List.length_drop, size_list, List.length_take, List.length_append] at hh
        have hh2 := congrArg List.length hd
        rw [List.length_drop, size_list, List.length_append, fixB_length] at hh2
        omega
      have hd2 : s.data.toList.drop (i + 1 + (nsB e.ns).length) = (tsB e.ts ++ X).take (j - 1 - (nsB e.ns).length) := by
        rw [← List.drop_drop, hd1, take_app _ _ _ q1, List.drop_left]
      have hE : ∀ ts, getW s i 0 e.v = 0 → (rs2 s i 0 e.v).2.2.2 = ts → ts = e.ts → getE s i 0 e.v = e := by
        intro ts g1 g2 g3
        unfold getE
        rw [if_pos g1, hkd, q2, g2, g3]
      rcases mayT_is hx with ⟨k1, t, k2, k3⟩ | ⟨k1, k2⟩
      · have ht24 := mayName_size k3
        rw [k2, tsB_one] at hd2
        rw [k2, tsB_one] at hbl
        have hR : rs2 s i 0 e.v = ((tx s (i + 1 + (nsB e.ns).length) 0).2.1, (tx s (i + 1 + (nsB e.ns).length) 0).2.2, wrT (tx s (i + 1 + (nsB e.ns).length) 0), [(tx s (i + 1 + (nsB e.ns).length) 0).1]) := by
          unfold rs2
          rw [hkd, ht, k1, if_pos (by rfl), q2, if_pos rfl]
        refine ⟨fun hq => ?_, fun hq => ?_⟩
        · have hd3 : s.data.toList.drop (i + 1 + (nsB e.ns).length) = textB t ++ X.take (j - 1 - (nsB e.ns).length - (textB t).length) := by rw [hd2, take_app _ _ _ (by omega)]
          have hT : tx s (i + 1 + (nsB e.ns).length) 0 = (t, i + 1 + (nsB e.ns).length + (textB t).length, 0) := tx_is hd3 (by omega) ht24 hi2
          rw [hT] at hR
          have hwt : wrT (t, i + 1 + (nsB e.ns).length + (textB t).length, 0) = 0 := by unfold wrT; rw [if_pos rfl, k3]; rfl
          have hW0 : getW s i 0 e.v = 0 := by rw [hW, hR]; exact hwt
          refine ⟨hW0, hE [t] hW0 (by rw [hR]) k2.symm, ?_, ?_⟩
          · rw [hI, hR]; show i + 1 + _ + _ = _; omega
          · rw [hF, hR]
        · have hd3 : s.data.toList.drop (i + 1 + (nsB e.ns).length) = (textB t).take (j - 1 - (nsB e.ns).length) := by rw [hd2, List.take_append_of_le_length (by omega)]
          have hT : tx s (i + 1 + (nsB e.ns).length) 0 = (⟨#[]⟩, i + 1 + (nsB e.ns).length, 8) := tx_cut hd3 (by omega) ht24 hi2 (by omega)
          rw [hT] at hR
          rw [hW, hR]; rfl
      · have hR : rs2 s i 0 e.v = (i + 1 + (nsB e.ns).length, 0, 0, []) := by
          unfold rs2
          rw [hkd, ht, k1, if_neg (by decide), q2]
        rw [k2, show tsB ([] : List ByteArray) = [] from rfl] at hbl
        simp only [List.length_nil] at hbl
        have hW0 : getW s i 0 e.v = 0 := by rw [hW, hR]
        refine ⟨fun _ => ⟨hW0, hE [] hW0 (by rw [hR]) k2.symm, ?_, ?_⟩, fun hq => absurd hq (by omega)⟩
        · rw [hI, hR]; show i + 1 + _ = _; omega
        · rw [hF, hR]
    · refine ⟨fun hq => absurd hq (by omega), fun _ => ?_⟩
      rw [hW, rs2_w (by rw [q2]; decide)]; exact q2

end Go.Proofs.YtiibeemjkdipnaaGreatDoor.Codec

/-
  An event's bytes decoded; a text that is decoded, encoded. Plain mathematics on the values.
-/
namespace Go.Proofs.YtiibeemjkdipnaaGreatDoor.Codec
open Go Go.RowKit
open Go.Proofs.YtiibeemjkdipnaaGreatDoor.Wire (fixB shortB textB be fxV shR txR tkI tkE tkT endE tk_is tk_cut tk_ok sh_is sh_cut sh_ok tx_is tx_cut tx_ok fixB_length be_fixB fixB_be size_list ba_ext)
open Go.Proofs.YtiibeemjkdipnaaGreatDoor.Schema

theorem S_list (l : List UInt8) : (Wire.S l).data.toList = l := rfl
theorem encB_is {e : Ev} (h : may e = true) : encB e = fixB 1 e.v ++ bare e := if_pos h
theorem dec_ver {e : Ev} (hm : may e = true) (s : ByteArray) (j : Nat) (X : List UInt8) (h : s.data.toList = (encB e ++ X).take j) (hj : 1 ≤ j) :
    tkE s 0 0 1 = 0 ∧ tkI s 0 0 1 = 1 ∧ ver s = e.v ∧ s.data.toList.drop 1 = (bare e ++ X).take (j - 1) ∧ 1 ≤ s.size := by
  obtain ⟨hv, _⟩ := tall_range (may_parts hm).1
  have hd : s.data.toList.drop 0 = fixB 1 e.v ++ (bare e ++ X).take (j - 1) := by
    rw [List.drop_zero, h, encB_is hm, List.append_assoc, take_app _ _ _ (by rw [fixB_length]; omega), fixB_length]
  obtain ⟨c1, c2, c3⟩ := tk_is (n := 1) hd (fixB_length 1 e.v) (Nat.zero_le _)
  refine ⟨c1, c2, ?_, ?_, ?_⟩
  · unfold ver fxV; rw [c3, be_fixB]; omega
  · rw [List.drop_zero] at hd
    rw [hd]
    exact List.drop_left' (fixB_length 1 e.v)
  · have hh := congrArg List.length hd
    rw [List.drop_zero, size_list, List.length_append, fixB_length] at hh
    omega
theorem dec_is {s : ByteArray} (h : tkE s 0 0 1 = 0) (h1 : tkI s 0 0 1 = 1) : decW s = if getW s 1 0 (ver s) = 0 then endE s (getI s 1 0 (ver s)) (getF s 1 0 (ver s)) else getW s 1 0 (ver s) := by
  unfold decW
  rw [if_pos h, h1]
theorem dec_cut {e : Ev} (hm : may e = true) (s : ByteArray) (j : Nat) (h : s.data.toList = (encB e).take j) (hj : j < (encB e).length) : decW s = 8 := by
  by_cases h0 : j = 0
  · subst h0
    have hd : s.data.toList.drop 0 = [] := by rw [List.drop_zero, h, List.take_zero]
    obtain ⟨c1, _, _⟩ := tk_cut (n := 1) (by rw [hd]; decide) (Nat.zero_le s.size)
    unfold decW
    rw [if_neg (by rw [c1]; decide), c1]
  · obtain ⟨c1, c2, c3, c4, c5⟩ := dec_ver hm s j [] (by rw [List.append_nil]; exact h) (by omega)
    have hl : (encB e).length = 1 + (bare e).length := by rw [encB_is hm, List.length_append, fixB_length]
    have hg := (get_front hm s 1 (j - 1) [] c5 c4).2 (by omega)
    rw [dec_is c1 c2, c3, hg]; rfl
theorem dec_more {e : Ev} (hm : may e = true) (s : ByteArray) (X : List UInt8) (h : s.data.toList = encB e ++ X) : (X = [] → decW s = 0 ∧ decE s = e) ∧ (X ≠ [] → decW s = 4) ∧ getE s 1 0 (ver s) = e := by
  have hl : (encB e).length = 1 + (bare e).length := by rw [encB_is hm, List.length_append, fixB_length]
  have hs : s.size = 1 + (bare e).length + X.length := by rw [← size_list, h, List.length_append, hl]
  obtain ⟨c1, c2, c3, c4, c5⟩ := dec_ver hm s s.size X (by rw [List.take_of_length_le (by rw [← h, size_list]; exact Nat.le_refl _)]; exact h) (by omega)
  obtain ⟨g1, g2, g3, g4⟩ := (get_front hm s 1 (s.size - 1) X c5 c4).1 (by omega)
  have hd : decW s = endE s (1 + (bare e).length) 0 := by rw [dec_is c1 c2, c3, g1, if_pos rfl, g3, g4]
  refine ⟨fun hX => ?_, fun hX => ?_, by rw [c3]; exact g2⟩
  · subst hX
    have h0 : decW s = 0 := by
      rw [hd]
      unfold endE
      rw [if_neg (by simp only [List.length_nil] at hs; omega)]
    refine ⟨h0, ?_⟩
    unfold decE
    rw [if_pos h0, c2, c3]; exact g2
  · have hX2 : 0 < X.length := List.length_pos_iff.2 hX
    rw [hd]
    unfold endE
    rw [if_pos ⟨rfl, by omega⟩]
theorem dec_enc {e : Ev} (hm : may e = true) : decW (Wire.S (encB e)) = 0 ∧ decE (Wire.S (encB e)) = e := (dec_more hm (Wire.S (encB e)) [] (by rw [List.append_nil]; rfl)).1 rfl
/-- no event's bytes are a front of another one's -/
theorem enc_unlike {e f : Ev} (he : may e = true) (hf : may f = true) (X : List UInt8) (h : encB f = encB e ++ X) : e = f := by
  have h1 := (dec_more he (Wire.S (encB f)) X h).2.2
  have h2 := (dec_more hf (Wire.S (encB f)) [] (by rw [List.append_nil]; rfl)).2.2
  rw [h1] at h2; exact h2

end Go.Proofs.YtiibeemjkdipnaaGreatDoor.Codec

/-
  The walk of the statement CodecUnlike.
-/
namespace Go.Proofs.YtiibeemjkdipnaaGreatDoor.Schema
open Go Go.RowKit
open Go.Proofs.YtiibeemjkdipnaaGreatDoor.Codec

theorem same_iff' (a b : Ev) : same a b = true ↔ a = b := by
  obtain ⟨v, k, ns, ts⟩ := a
  obtain ⟨v', k', ns', ts'⟩ := b
  unfold same
  simp only [Bool.and_eq_true, decide_eq_true_eq, Ev.mk.injEq]
  exact ⟨fun h => ⟨h.1.1.1, h.1.1.2, h.1.2, h.2⟩, fun h => ⟨⟨⟨h.1, h.2.1⟩, h.2.2.1⟩, h.2.2.2⟩⟩
theorem putE_may {e : Ev} (h : putE e = 0) : may e = true := by
  unfold putE at h
  cases hm : may e with
  | true => rfl
  | false => rw [hm] at h; cases h
/-- the one starts with the other just where the events are the same -/
theorem starts_same {e f : Ev} (he : may e = true) (hf : may f = true) : decide ((encB e).length ≤ (encB f).length ∧ (encB f).take (encB e).length = encB e) = same e f := by
  rw [Bool.eq_iff_iff, decide_eq_true_iff, same_iff']
  constructor
  · intro h
    have hX : encB f = encB e ++ (encB f).drop (encB e).length := by
      have := List.take_append_drop (encB e).length (encB f)
      rw [h.2] at this; exact this.symm
    exact enc_unlike he hf _ hX
  · rintro rfl
    exact ⟨Nat.le_refl _, List.take_length⟩

end Go.Proofs.YtiibeemjkdipnaaGreatDoor.Schema
