import Derived.Lib.ItoaNum
import Derived.Lib.ParseIntB
import Derived.Lib.IndexMore
import Derived.Lib.IndexLaws
import Derived.Lib.Strings
import Derived.Lib.Repeat
import Derived.Test.YticfnfekkmkclaaGreatDoorB12
import Derived.Lib.AppendIntMem
import Derived.WalkSmall
import Derived.Test.YticfnfekkmkclaaGreatDoorCT
import Derived.Test.YticfnfekkmkclaaGreatDoorW8
import Derived.Test.YticfnfekkmkclaaGreatDoorMR
/-
  Names of segments' files: digits, what a text's number is, what a name is that. Plain mathematics.
-/
namespace Go.Proofs.YticfnfekkmkclaaGreatDoor.Seg
open Go

/-- so many of a number's digits, the last ones -/
def dig : Nat → Nat → List UInt8
  | 0, _ => []
  | k + 1, n => dig k (n / 10) ++ [UInt8.ofNat (48 + n % 10)]
theorem dig_length : ∀ k n, (dig k n).length = k
  | 0, _ => rfl
  | k + 1, n => by rw [dig, List.length_append, dig_length k]; rfl
theorem dig_zero : ∀ k, dig k 0 = List.replicate k 48
  | 0 => rfl
  | k + 1 => by rw [dig, Nat.zero_div, dig_zero k, List.replicate_succ']; rfl
theorem dig_pad : ∀ (k u : Nat), Lib.nDigits u ≤ k → List.replicate (k - Lib.nDigits u) 48 ++ Lib.decDigits u = dig k u
  | 0, u, h => by have := Lib.nDigits_pos u; omega
  | k + 1, u, h => by
    by_cases hu : u < 10
    · rw [Lib.nDigits_small hu, Lib.decDigits_one hu, dig, show u / 10 = 0 by omega, dig_zero, show u % 10 = u by omega]; rfl
    · have hn := Lib.nDigits_big hu
      rw [hn, Lib.decDigits, dif_neg hu, dig, ← List.append_assoc, show k + 1 - (Lib.nDigits (u / 10) + 1) = k - Lib.nDigits (u / 10) by omega, dig_pad k (u / 10) (by omega)]
theorem nDigits_le : ∀ (k u : Nat), u < 10 ^ (k + 1) → Lib.nDigits u ≤ k + 1
  | 0, u, h => by rw [Lib.nDigits_small (by simpa using h)]; exact Nat.le_refl _
  | k + 1, u, h => by
    by_cases hu : u < 10
    · rw [Lib.nDigits_small hu]; omega
    · rw [Lib.nDigits_big hu]
      have := nDigits_le k (u / 10) (by rw [Nat.pow_succ] at h; omega)
      omega
def isD (c : UInt8) : Prop := 48 ≤ c.toNat ∧ c.toNat ≤ 57
instance (c : UInt8) : Decidable (isD c) := inferInstanceAs (Decidable (_ ∧ _))
theorem isD_of (n : Nat) : (UInt8.ofNat (48 + n % 10)).toNat = 48 + n % 10 := by rw [UInt8.toNat_ofNat']; omega
theorem dig_all : ∀ (k n : Nat), ∀ c ∈ dig k n, isD c
  | 0, _, c, h => by cases h
  | k + 1, n, c, h => by
    rw [dig, List.mem_append] at h
    rcases h with h | h
    · exact dig_all k _ c h
    · obtain rfl := List.mem_singleton.1 h
      unfold isD; rw [isD_of]; omega
def valD (acc : Nat) (l : List UInt8) : Nat := l.foldl (fun a c => a * 10 + (c.toNat - 48)) acc
theorem valD_nil (acc : Nat) : valD acc [] = acc := rfl
theorem valD_cons (acc : Nat) (c : UInt8) (l : List UInt8) : valD acc (c :: l) = valD (acc * 10 + (c.toNat - 48)) l := by unfold valD; rw [List.foldl_cons]
theorem valD_snoc (acc : Nat) (l : List UInt8) (c : UInt8) : valD acc (l ++ [c]) = valD acc l * 10 + (c.toNat - 48) := by unfold valD; rw [List.foldl_append]; rfl
theorem valD_dig (k : Nat) : ∀ (n : Nat), n < 10 ^ k → valD 0 (dig k n) = n := by
  induction k with
  | zero =>
    intro n h
    have : n = 0 := by rw [Nat.pow_zero] at h; omega
    subst this; rfl
  | succ k ih =>
    intro n h
    rw [Nat.pow_succ] at h
    have hi := ih (n / 10) (by omega)
    rw [dig, valD_snoc, hi, isD_of]; omega
theorem valD_lt (l : List UInt8) (h : ∀ c ∈ l, isD c) : ∀ acc a : Nat, acc < 10 ^ a → valD acc l < 10 ^ (a + l.length) := by
  induction l with
  | nil => intro acc a ha; simpa [valD] using ha
  | cons c r ih =>
    intro acc a ha
    have hc := h c (List.mem_cons_self ..)
    unfold isD at hc
    rw [valD_cons, List.length_cons, show a + (r.length + 1) = (a + 1) + r.length by omega]
    exact ih (fun x hx => h x (List.mem_cons_of_mem _ hx)) _ _ (by rw [Nat.pow_succ]; omega)
theorem u8_eq {c : UInt8} (h : isD c) : UInt8.ofNat (48 + (c.toNat - 48) % 10) = c := by
  unfold isD at h
  apply UInt8.toNat_inj.1
  rw [isD_of]; omega
theorem dig_val (l : List UInt8) (h : ∀ c ∈ l, isD c) : dig l.length (valD 0 l) = l := by
  generalize hn : l.length = n
  induction n generalizing l with
  | zero => rw [List.eq_nil_of_length_eq_zero hn]; rfl
  | succ n ih =>
    have hne : l ≠ [] := fun e => by rw [e] at hn; cases hn
    rw [← List.dropLast_concat_getLast hne] at h ⊢
    generalize hL : l.dropLast = m at *
    generalize l.getLast hne = c at *
    have hc := h c (by simp)
    have hm : m.length = n := by rw [← hL, List.length_dropLast]; omega
    rw [valD_snoc, dig]
    have h48 : 48 ≤ c.toNat ∧ c.toNat ≤ 57 := hc
    rw [show (valD 0 m * 10 + (c.toNat - 48)) / 10 = valD 0 m by omega, show (valD 0 m * 10 + (c.toNat - 48)) % 10 = (c.toNat - 48) % 10 by omega, u8_eq hc]
    rw [ih m (fun x hx => h x (by simp [hx])) hm]

/-! ### a text's number -/
theorem parseM (M : Nat) (hM : 10 ^ 18 ≤ M) : ∀ (l : List UInt8) (acc a : Nat), (∀ c ∈ l, isD c) → acc < 10 ^ a → a + l.length ≤ 18 → Lib.parseUintM M acc l = .ok (valD acc l)
  | [], acc, a, _, _, _ => rfl
  | c :: r, acc, a, h, ha, hl => by
    have hc : 48 ≤ c.toNat ∧ c.toNat ≤ 57 := h c (List.mem_cons_self ..)
    rw [List.length_cons] at hl
    have h1 : acc * 10 + (c.toNat - 48) < 10 ^ (a + 1) := by rw [Nat.pow_succ]; omega
    have h2 : (10 : Nat) ^ (a + 1) ≤ 10 ^ 18 := Nat.pow_le_pow_right (by decide) (by omega)
    have h3 : (10 : Nat) ^ 18 = 1000000000000000000 := by decide
    rw [Lib.parseUintM, if_pos hc, if_neg (by omega), if_neg (by omega), parseM M hM r _ (a + 1) (fun x hx => h x (List.mem_cons_of_mem _ hx)) h1 (by omega), valD_cons]
/-- what ParseInt tells, whatever the text -/
def pI (l : List UInt8) : Int := match Lib.parseIntB 64 l with | .ok v => v | .range => Lib.intSat 64 l | _ => 0
theorem pI_dig (k n : Nat) (hk : k + 1 ≤ 18) (hn : n < 10 ^ (k + 1)) : pI (dig (k + 1) n) = (n : Int) := by
  have hl := dig_length (k + 1) n
  have ha := dig_all (k + 1) n
  have hv := valD_dig (k + 1) n hn
  have hlt := valD_lt _ ha 0 0 (by decide)
  generalize dig (k + 1) n = l at *
  cases l with
  | nil => cases hl
  | cons c r =>
    have hc : 48 ≤ c.toNat ∧ c.toNat ≤ 57 := ha c (List.mem_cons_self ..)
    have hm := parseM (2 ^ 64 - 1) (by decide) (c :: r) 0 0 ha (by decide) (by omega)
    have h63 : n < 2 ^ 63 := by
      have : (10 : Nat) ^ (0 + (c :: r).length) ≤ 10 ^ 18 := Nat.pow_le_pow_right (by decide) (by omega)
      have h3 : (10 : Nat) ^ 18 < 2 ^ 63 := by decide
      omega
    have hp : Lib.parseIntB 64 (c :: r) = .ok (n : Int) := by
      unfold Lib.parseIntB
      simp only []
      rw [if_neg (by omega), Lib.parseUintB, if_neg (by simp), hm, hv]
      simp only []
      rw [if_neg (by rw [show (64 : Nat) - 1 = 63 from rfl]; omega), if_neg (by omega), if_neg (by omega)]
    unfold pI; rw [hp]
theorem pI_nil : pI [] = 0 := rfl

/-! ### names -/
def nameL (g f : Nat) : List UInt8 := 115 :: (dig 8 g ++ 45 :: dig 10 f)
theorem nameL_length (g f : Nat) : (nameL g f).length = 20 := by unfold nameL; rw [List.length_cons, List.length_append, List.length_cons, dig_length, dig_length]
def mayN (g f : Int) : Prop := 0 ≤ g ∧ g ≤ 99999999 ∧ 0 ≤ f ∧ f ≤ 1048576
instance (g f : Int) : Decidable (mayN g f) := inferInstanceAs (Decidable (_ ∧ _))
def nameE (g f : Int) : List UInt8 := if mayN g f then nameL g.toNat f.toNat else []
def partG (s : List UInt8) : List UInt8 := (Lib.cut (Lib.trimPrefix s [115]) [45]).1
def partF (s : List UInt8) : List UInt8 := (Lib.cut (Lib.trimPrefix s [115]) [45]).2.1
/-- what a name is that: generation, first batch, whether it is one -/
def namedR (s : List UInt8) : Int × Int × Bool := if nameE (pI (partG s)) (pI (partF s)) = s then (pI (partG s), pI (partF s), true) else (0, 0, false)
theorem cut_one : ∀ (a b : List UInt8) (c : UInt8), c ∉ a → Lib.cut (a ++ c :: b) [c] = (a, b, true) := by
  intro a b c h
  have hi : Lib.index (a ++ c :: b) [c] = (a.length : Int) := by
    refine Lib.index_hit ?_ (by simp) ?_
    · intro j hj
      unfold Lib.occAt
      have hd : (a ++ c :: b).drop j = a[j] :: (a.drop (j + 1) ++ c :: b) := by
        rw [List.drop_append_of_le_length (by omega), List.drop_eq_getElem_cons hj]; rfl
      rw [hd]
      have : a[j] ≠ c := fun e => h (e ▸ List.getElem_mem _)
      simp [List.isPrefixOf, Ne.symm this]
    · unfold Lib.occAt
      rw [List.drop_left]
      simp [List.isPrefixOf]
  unfold Lib.cut
  rw [hi, if_pos (by omega), Int.toNat_natCast, List.take_left, List.length_singleton, ← List.drop_drop, List.drop_left]
  rfl
theorem parts (g f : Nat) : partG (nameL g f) = dig 8 g ∧ partF (nameL g f) = dig 10 f := by
  have ht : Lib.trimPrefix (nameL g f) [115] = dig 8 g ++ 45 :: dig 10 f := by
    unfold Lib.trimPrefix Lib.hasPrefix nameL
    simp [List.isPrefixOf]
  have hc : (45 : UInt8) ∉ dig 8 g := fun h => by have := (dig_all 8 g _ h).1; exact absurd this (by decide)
  unfold partG partF
  rw [ht, cut_one _ _ _ hc]
  exact ⟨rfl, rfl⟩
theorem pI_parts {g f : Int} (h : mayN g f) : pI (partG (nameE g f)) = g ∧ pI (partF (nameE g f)) = f := by
  unfold nameE; rw [if_pos h]
  obtain ⟨h0, h1, h2, h3⟩ := h
  obtain ⟨a, b⟩ := parts g.toNat f.toNat
  rw [a, b, pI_dig 7 _ (by decide) (by omega), pI_dig 9 _ (by decide) (by omega)]
  omega
/-- **Named of Name is it** -/
theorem named_name {g f : Int} (h : mayN g f) : namedR (nameE g f) = (g, f, true) := by
  obtain ⟨a, b⟩ := pI_parts h
  unfold namedR; rw [a, b, if_pos rfl]
/-- **Name of Named is the name** -/
theorem named_yes {s : List UInt8} (h : nameE (pI (partG s)) (pI (partF s)) = s) : mayN (pI (partG s)) (pI (partF s)) := by
  by_cases hm : mayN (pI (partG s)) (pI (partF s))
  · exact hm
  · unfold nameE at h
    rw [if_neg hm] at h
    subst h
    exact absurd (show mayN (pI (partG [])) (pI (partF [])) from by decide) hm
theorem named_empty : namedR [] = (0, 0, false) := by decide +kernel

/-! ### as the document reads it -/
def namedD (s : List UInt8) : Int × Int × Bool :=
  if s.length = 20 ∧ s[0]? = some 115 ∧ s[9]? = some 45 ∧ (∀ c ∈ (s.drop 1).take 8, isD c) ∧ (∀ c ∈ (s.drop 10).take 10, isD c) ∧ valD 0 ((s.drop 10).take 10) ≤ 1048576
  then ((valD 0 ((s.drop 1).take 8) : Int), (valD 0 ((s.drop 10).take 10) : Int), true) else (0, 0, false)
theorem split_name {s : List UInt8} (h : s.length = 20) (h0 : s[0]? = some 115) (h9 : s[9]? = some 45) : s = 115 :: ((s.drop 1).take 8 ++ 45 :: (s.drop 10).take 10) := by
  have a0 : s = 115 :: s.drop 1 := by
    cases s with
    | nil => cases h
    | cons c r => simp at h0; subst h0; rfl
  have a1 : s.drop 1 = (s.drop 1).take 8 ++ s.drop 9 := by
    conv => lhs; rw [← List.take_append_drop 8 (s.drop 1), List.drop_drop]
  have a2 : s.drop 9 = 45 :: s.drop 10 := by
    obtain ⟨hlt, he⟩ := List.getElem?_eq_some_iff.1 h9
    rw [List.drop_eq_getElem_cons hlt, he]
  have a3 : (s.drop 10).take 10 = s.drop 10 := List.take_of_length_le (by rw [List.length_drop]; omega)
  rw [a3, ← a2, ← a1, ← a0]
theorem named_doc (s : List UInt8) : namedD s = namedR s := by
  unfold namedD
  split
  · rename_i h
    obtain ⟨h1, h2, h3, h4, h5, h6⟩ := h
    have hs := split_name h1 h2 h3
    have l4 : ((s.drop 1).take 8).length = 8 := by rw [List.length_take, List.length_drop]; omega
    have l5 : ((s.drop 10).take 10).length = 10 := by rw [List.length_take, List.length_drop]; omega
    have v4 := dig_val _ h4
    have v5 := dig_val _ h5
    have w4 := valD_lt _ h4 0 0 (by decide)
    rw [l4] at v4 w4
    rw [l5] at v5
    generalize (s.drop 1).take 8 = A at *
    generalize (s.drop 10).take 10 = B at *
    have hm : mayN (valD 0 A : Int) (valD 0 B : Int) := ⟨by omega, by omega, by omega, by omega⟩
    have he : nameE (valD 0 A : Int) (valD 0 B : Int) = s := by
      unfold nameE; rw [if_pos hm, Int.toNat_natCast, Int.toNat_natCast]
      unfold nameL; rw [v4, v5, ← hs]
    rw [← he, named_name hm]
  · rename_i h
    unfold namedR
    rw [if_neg]
    intro he
    have hm := named_yes he
    apply h
    obtain ⟨m0, m1, m2, m3⟩ := hm
    have hs : s = nameL (pI (partG s)).toNat (pI (partF s)).toNat := by
      have h2 := he
      unfold nameE at h2
      rw [if_pos ⟨m0, m1, m2, m3⟩] at h2
      exact h2.symm
    generalize (pI (partG s)).toNat = a at hs
    have hb : (pI (partF s)).toNat ≤ 1048576 := by omega
    generalize (pI (partF s)).toNat = b at hs hb
    subst hs
    have d1 : ((nameL a b).drop 1).take 8 = dig 8 a := by unfold nameL; rw [List.drop_one, List.tail_cons, List.take_append_of_le_length (by rw [dig_length]; exact Nat.le_refl _), List.take_of_length_le (by rw [dig_length]; exact Nat.le_refl _)]
    have d9 : (nameL a b).drop 9 = 45 :: dig 10 b := by
      unfold nameL
      rw [show (9 : Nat) = 8 + 1 from rfl, List.drop_succ_cons]
      have := List.drop_left (l₁ := dig 8 a) (l₂ := 45 :: dig 10 b)
      rw [dig_length] at this
      exact this
    have d10 : ((nameL a b).drop 10).take 10 = dig 10 b := by
      rw [show (10 : Nat) = 9 + 1 from rfl, ← List.drop_drop, d9]
      show List.take 10 (dig 10 b) = dig 10 b
      rw [List.take_of_length_le (by rw [dig_length]; exact Nat.le_refl _)]
    have h9 : (nameL a b)[9]? = some 45 := by
      have := congrArg (fun l => l[0]?) d9
      simpa using this
    refine ⟨nameL_length a b, rfl, h9, ?_, ?_, ?_⟩
    · rw [d1]; exact dig_all 8 a
    · rw [d10]; exact dig_all 10 b
    · rw [d10, valD_dig 10 b (by omega)]; exact hb
/-- **names rise as first batches do** -/
theorem dig_inj {k a b : Nat} (ha : a < 10 ^ k) (hb : b < 10 ^ k) (h : dig k a = dig k b) : a = b := by rw [← valD_dig k a ha, ← valD_dig k b hb, h]
end Go.Proofs.YticfnfekkmkclaaGreatDoor.Seg

namespace Go.Proofs.YticfnfekkmkclaaGreatDoor.Seg
def mayF (q : Int) : Prop := 0 ≤ q ∧ q ≤ 1048576
instance (q : Int) : Decidable (mayF q) := inferInstanceAs (Decidable (_ ∧ _))
end Go.Proofs.YticfnfekkmkclaaGreatDoor.Seg

/-
  What stands in the library's variables.
-/

namespace Go.Proofs.YticfnfekkmkclaaGreatDoor.Seg
open Go Go.RowKit Go.Sort

/-- the library's variables, as start-up code leaves them -/
def Env (w : World) : Prop :=
  0 < w.heap.size ∧ 2 < w.heap.size ∧ 1 < w.heap.size ∧ 3 < w.heap.size ∧
  (∃ m, w.cell? ⟨0, 0, none⟩ = some (.int .i64 m)) ∧ (∃ a : Addr, w.var? Tryz.prog "strconv.ErrRange" = some #[.iface 226 (.pointer (some a))]) ∧ (∃ a : Addr, w.var? Tryz.prog "strconv.ErrSyntax" = some #[.iface 226 (.pointer (some a))]) ∧
  Lib.TabIs Tryz.prog w "internal/strconv.uint64pow10" .u64 Lib.pow10Tab
theorem gErr : Tryz.prog.globalNamed "strconv.ErrRange" = some 2 := by kernel_rfl
theorem gSyn : Tryz.prog.globalNamed "strconv.ErrSyntax" = some 1 := by kernel_rfl
theorem gTab : Tryz.prog.globalNamed "internal/strconv.uint64pow10" = some 3 := by kernel_rfl
theorem Env.below {w w' : World} (h : Env w) {n : Nat} (hb : Below n w w') (hn : n = w.heap.size) : Env w' := by
  subst hn
  obtain ⟨h1, h2, h3, h4, ⟨m, hm⟩, ⟨a, hv⟩, ⟨b, hs⟩, ht⟩ := h
  have hz := hb.size
  refine ⟨by omega, by omega, by omega, by omega, ⟨m, ?_⟩, ⟨a, ?_⟩, ⟨b, ?_⟩, ?_⟩
  · rw [hb.cell h1]; exact hm
  · exact var?_below hb gErr h2 hv
  · exact var?_below hb gSyn h3 hs
  · exact var?_below hb gTab h4 ht
/-- it goes on to hold where only blocks from B on turn -/
theorem Env.over {w w' : World} (h : Env w) (hb : Below w.heap.size w w') : Env w' := h.below hb rfl
theorem Env.drew {w : World} (h : Env w) (n : Nat) : Env (w.drewN n) := h.over ⟨rfl, rfl, rfl, Nat.le_refl _, fun _ _ => rfl⟩
/-- the digits' table alone -/
def EnvP (w : World) : Prop := 3 < w.heap.size ∧ Lib.TabIs Tryz.prog w "internal/strconv.uint64pow10" .u64 Lib.pow10Tab
theorem EnvP.over {w w' : World} (h : EnvP w) (hb : Below w.heap.size w w') : EnvP w' := ⟨Nat.lt_of_lt_of_le h.1 hb.size, var?_below hb gTab h.1 h.2⟩
theorem Env.p {w : World} (h : Env w) : EnvP w := ⟨h.2.2.2.1, h.2.2.2.2.2.2.2⟩
end Go.Proofs.YticfnfekkmkclaaGreatDoor.Seg

/-
  The walks of padded, Name and Named.
-/
namespace Go.Proofs.YticfnfekkmkclaaGreatDoor.Seg
open Go Go.RowKit Go.Sort
open Go.Proofs.YticfnfekkmkclaaGreatDoor.Wire (S S_list S_size)

theorem S_append (l m : List UInt8) : S l ++ S m = S (l ++ m) := by
  apply ByteArray.ext
  rw [ByteArray.data_append]
  unfold S; simp

theorem itoa_nat (n : Nat) : Lib.itoa (n : Int) = Lib.decDigits n := by
  unfold Lib.itoa; rw [if_neg (by omega), Int.toNat_natCast]
theorem rep48 (k : Nat) : Lib.repeatL [48] k = List.replicate k 48 := by
  have := Lib.repeatL_replicate 48 1 k
  rw [Nat.mul_one] at this
  exact this
set_option maxRecDepth 100000 in
theorem padded_any (n k : Nat) (h : n < 10 ^ (k + 1)) (hk : k ≤ 17) (w : World) (E : EnvP w) :
    Calls Tryz.prog 98 #[.int .i64 (n : Int), .int .i64 ((k + 1 : Nat) : Int)] w fun e w' => e = .returned (.string (S (dig (k + 1) n))) ∧ Below w.heap.size w w' := by
  have hnd := nDigits_le k n h
  have hp := dig_pad (k + 1) n hnd
  have h18 : (10 : Nat) ^ (k + 1) ≤ 10 ^ 18 := Nat.pow_le_pow_right (by decide) (by omega)
  have h18' : (10 : Nat) ^ 18 = 1000000000000000000 := by decide
  have hf := fun W ht => Tryz.strconv_FormatInt_10 (n : Int) (by omega) (by omega) W ht
  rw [itoa_nat] at hf
  have hlen := Lib.decDigits_length n
  have hr := fun W => Tryz.strings_Repeat (S [48]) (k + 1 - Lib.nDigits n) W (by omega) (by rw [S_size]; simp; omega)
  rw [S_list, rep48] at hr
  have hcat : S (List.replicate (k + 1 - Lib.nDigits n) 48) ++ S (Lib.decDigits n) = S (dig (k + 1) n) := by rw [S_append, hp]
  have hsz : (S (Lib.decDigits n)).size = Lib.nDigits n := by rw [S_size, hlen]
  have hsz2 : (S (List.replicate (k + 1 - Lib.nDigits n) 48)).size = k + 1 - Lib.nDigits n := by rw [S_size, List.length_replicate]
  have hsub : ((k + 1 : Nat) : Int) - (Lib.nDigits n : Int) = ((k + 1 - Lib.nDigits n : Nat) : Int) := by omega
  have HF := Lib.hid hf
  have HR := Lib.hid hr
  have HT := Lib.hid E.2
  have HC := Lib.hid hcat
  have hs1 : wrap64 (((k + 1 : Nat) : Int) - (Lib.nDigits n : Int)) = ((k + 1 - Lib.nDigits n : Nat) : Int) := by rw [hsub]; exact IntWalk.wrap64_in _ ⟨by omega, by omega⟩
  have hq18 : Lib.nDigits n ≤ 18 := by omega
  have hm18 : k + 1 - Lib.nDigits n ≤ 18 := by omega
  clear hf hr hp h18 h18' hcat E h hlen hsub hnd
  change Hid (∀ W, Lib.TabIs Tryz.prog W "internal/strconv.uint64pow10" .u64 Lib.pow10Tab → Calls Tryz.prog 128 #[.int .i64 (n : Int), .int .i64 10] W fun e w' => e = .returned (.string (S (Lib.decDigits n))) ∧ ∃ k os, w' = grow (W.drewN k) os) at HF
  generalize ((k + 1 : Nat) : Int) = K at *
  generalize k + 1 - Lib.nDigits n = m at *
  generalize Lib.nDigits n = q at *
  generalize S (Lib.decDigits n) = D at *
  change Hid (∀ W, Calls Tryz.prog 129 #[.string ⟨#[48]⟩, .int .i64 (m : Int)] W fun e w' => e = .returned (.string (S (List.replicate m 48))) ∧ Below W.heap.size W w') at HR
  generalize S (List.replicate m 48) = Z at *
  generalize S (dig (k + 1) n) = R at *
  go_enter Tryz.func98, Tryz.ntmps98
  go_wp2_with fail
  refine (HF.out _ HT.out).mono ?_
  rintro e w1 ⟨rfl, k1, os, rfl⟩
  have HB := Lib.hid (Lib.below_grow w.heap.size w (Nat.le_refl _) k1 os)
  go_wp2_with fail
  refine (HR.out _).mono ?_
  rintro e w2 ⟨rfl, hb⟩
  have HB2 := Lib.hid (HB.out.trans (hb.mono HB.out.size))
  clear hb
  go_wp2_with fail
  go_ret
  exact ⟨by rw [HC.out]; rfl, HB2.out⟩

/-- may it be a first batch's number -/
theorem mayBegin_any (q : Int) (w : World) :
    Calls Tryz.prog 97 #[.int .i64 q] w fun e w' => e = .returned (.bool (decide (mayF q))) ∧ w = w' := by
  by_cases h1 : 0 ≤ q
  · by_cases h2 : q ≤ 1048576
    · have hs : decide (mayF q) = true := decide_eq_true ⟨h1, h2⟩
      rw [hs]
      go_enter Tryz.func97, Tryz.ntmps97
      go_wp2_with fail
      go_ret
      exact ⟨rfl, rfl⟩
    · have hs : decide (mayF q) = false := decide_eq_false (fun h => h2 h.2)
      rw [hs]
      go_enter Tryz.func97, Tryz.ntmps97
      go_wp2_with fail
      go_ret
      exact ⟨rfl, rfl⟩
  · have hs : decide (mayF q) = false := decide_eq_false (fun h => h1 h.1)
    rw [hs]
    go_enter Tryz.func97, Tryz.ntmps97
    go_wp2_with fail
    go_ret
    exact ⟨rfl, rfl⟩
theorem S_nameL (g f : Nat) : (⟨#[115]⟩ : ByteArray) ++ S (dig 8 g) ++ ⟨#[45]⟩ ++ S (dig 10 f) = S (nameL g f) := by
  rw [show (⟨#[115]⟩ : ByteArray) = S [115] from rfl, show (⟨#[45]⟩ : ByteArray) = S [45] from rfl, S_append, S_append, S_append]
  unfold nameL
  congr 1
set_option maxRecDepth 100000 in
set_option maxHeartbeats 1000000 in
/-- **Name** -/
theorem Name_any (g f : Int) (w : World) (E : EnvP w) :
    Calls Tryz.prog 50 #[.int .i64 g, .int .i64 f] w fun e w' => e = .returned (.string (S (nameE g f))) ∧ Below w.heap.size w w' := by
  have HMF := Lib.hid (fun W => mayBegin_any f W)
  by_cases hm : mayN g f
  · obtain ⟨a, rfl⟩ : ∃ a : Nat, g = (a : Int) := ⟨g.toNat, by have := hm.1; omega⟩
    obtain ⟨b, rfl⟩ : ∃ b : Nat, f = (b : Int) := ⟨f.toNat, by have := hm.2.2.1; omega⟩
    have hn : nameE (a : Int) (b : Int) = nameL a b := by unfold nameE; rw [if_pos hm, Int.toNat_natCast, Int.toNat_natCast]
    rw [hn]
    have hmf : decide (mayF (b : Int)) = true := decide_eq_true ⟨hm.2.2.1, hm.2.2.2⟩
    rw [hmf] at HMF
    have d0 : decide ((a : Int) < 0) = false := decide_eq_false (by omega)
    have d1 : decide ((99999999 : Int) < (a : Int)) = false := decide_eq_false (by have := hm.2.1; omega)
    have d2 : decide (99999999 < a) = false := decide_eq_false (by have := hm.2.1; omega)
    have H8 : Hid (∀ W, EnvP W → Calls Tryz.prog 98 #[.int .i64 (a : Int), .int .i64 8] W fun e w' => e = .returned (.string (S (dig 8 a))) ∧ Below W.heap.size W w') :=
      Lib.hid (fun W EW => padded_any a 7 (by have := hm.2.1; omega) (by decide) W EW)
    have H10 : Hid (∀ W, EnvP W → Calls Tryz.prog 98 #[.int .i64 (b : Int), .int .i64 10] W fun e w' => e = .returned (.string (S (dig 10 b))) ∧ Below W.heap.size W w') :=
      Lib.hid (fun W EW => padded_any b 9 (by have := hm.2.2.2; omega) (by decide) W EW)
    have HS := Lib.hid (S_nameL a b)
    have z8 : (S (dig 8 a)).size = 8 := by rw [S_size, dig_length]
    have z10 : (S (dig 10 b)).size = 10 := by rw [S_size, dig_length]
    have HE := Lib.hid E
    clear E hm hn hmf
    generalize S (dig 8 a) = A at *
    generalize S (dig 10 b) = B at *
    generalize S (nameL a b) = R at *
    go_enter Tryz.func50, Tryz.ntmps50
    go_wp2_with (go_at_call 97; refine (HMF.out _).mono ?_; rintro e w1 ⟨rfl, rfl⟩)
    refine (H8.out _ HE.out).mono ?_
    rintro e w1 ⟨rfl, hb⟩
    have HB := Lib.hid hb
    clear hb
    go_wp2_with fail
    refine (H10.out _ (HE.out.over HB.out)).mono ?_
    rintro e w2 ⟨rfl, hb⟩
    have HB2 := Lib.hid (HB.out.trans (hb.mono HB.out.size))
    clear hb HB
    go_wp2_with fail
    go_ret
    exact ⟨by rw [HS.out]; rfl, HB2.out⟩
  · have hn : nameE g f = [] := if_neg hm
    rw [hn, show S [] = ⟨#[]⟩ from rfl]
    clear E hn
    by_cases h0 : g < 0
    · clear hm
      go_enter Tryz.func50, Tryz.ntmps50
      go_wp2_with fail
      go_ret
      exact ⟨rfl, Below.refl _ _⟩
    · by_cases h1 : 99999999 < g
      · clear hm
        go_enter Tryz.func50, Tryz.ntmps50
        go_wp2_with fail
        go_ret
        exact ⟨rfl, Below.refl _ _⟩
      · have hmf : decide (mayF f) = false := decide_eq_false (fun h => hm ⟨by omega, by omega, h.1, h.2⟩)
        rw [hmf] at HMF
        clear hm hmf
        go_enter Tryz.func50, Tryz.ntmps50
        go_wp2_with (go_at_call 97; refine (HMF.out _).mono ?_; rintro e w1 ⟨rfl, rfl⟩)
        go_ret
        exact ⟨rfl, Below.refl _ _⟩
/-- **ParseInt, whatever the text** -/
theorem parse_any (l : List UInt8) (hl : l.length ≤ 281474976710656) (w : World) (E : Env w) :
    Calls Tryz.prog 92 #[.string (S l), .int .i64 10, .int .i64 64] w fun e w' => ∃ ev, e = .returned (.tuple #[.int .i64 (pI l), ev]) ∧ Below w.heap.size w w' := by
  have hz := S_size l
  obtain ⟨a, ha⟩ := E.2.2.2.2.2.1
  obtain ⟨b, hb⟩ := E.2.2.2.2.2.2.1
  cases h : Lib.parseIntB 64 l
  case ok v =>
    have hp : pI l = v := by unfold pI; rw [h]
    rw [hp]
    refine (Tryz.strconv_ParseInt_10_at64_ok (S l) (by omega) v h w).mono ?_
    rintro e w' ⟨rfl, hw⟩
    refine ⟨_, rfl, ?_⟩
    rcases hw with rfl | ⟨t, rfl⟩
    · exact Below.refl _ _
    · exact ⟨rfl, rfl, rfl, by rw [Lib.bytesWorld_size]; omega, fun k hk => Lib.bytesWorld_at_old _ _ _ _ hk⟩
  case range =>
    have hp : pI l = Lib.intSat 64 l := by unfold pI; rw [h]
    rw [hp]
    refine (Tryz.strconv_ParseInt_10_at64_range_var (S l) (by omega) h _ _ w ha).mono ?_
    rintro e w' ⟨N, rfl, _, _, hbw⟩
    exact ⟨_, rfl, hbw⟩
  · have hp : pI l = 0 := by unfold pI; rw [h]
    rw [hp]
    refine (show Calls Tryz.prog 92 #[.string (S l), .int .i64 10, .int .i64 64] w _ from Any.strconv_ParseInt_10_at64_syntax_var Tryz.laysC174 (S l) (by omega) h _ _ w hb).mono ?_
    rintro e w' ⟨N, rfl, _, _, hbw⟩
    exact ⟨_, rfl, hbw⟩
theorem part_len (l : List UInt8) : (partG l).length ≤ l.length ∧ (partF l).length ≤ l.length := by
  have ht : (Lib.trimPrefix l [115]).length ≤ l.length := by
    unfold Lib.trimPrefix; split
    · rw [List.length_drop]; omega
    · exact Nat.le_refl _
  unfold partG partF Lib.cut
  split
  · simp only []
    rw [List.length_take, List.length_drop]; omega
  · simp; omega
set_option maxRecDepth 100000 in
set_option maxHeartbeats 1000000 in
/-- **Named** -/
theorem Named_any (s : ByteArray) (hs : s.size ≤ 1000000000) (w : World) (E : Env w) :
    Calls Tryz.prog 42 #[.string s] w fun e w' => e = .returned (.tuple #[.int .i64 (namedR s.data.toList).1, .int .i64 (namedR s.data.toList).2.1, .bool (namedR s.data.toList).2.2]) ∧ Below w.heap.size w w' := by
  have hz : s.data.toList.length = s.size := by simp
  have hp := part_len s.data.toList
  have HTP := Lib.hid (fun W => Tryz.strings_TrimPrefix s ⟨#[115]⟩ W)
  have htl : (Lib.trimPrefix s.data.toList [115]).length ≤ s.data.toList.length := by
    unfold Lib.trimPrefix; split
    · rw [List.length_drop]; omega
    · exact Nat.le_refl _
  obtain ⟨m, hm⟩ := E.2.2.2.2.1
  have HCU := Lib.hid (fun (W : World) (h : W.cell? ⟨0, 0, none⟩ = some (.int .i64 m)) => Tryz.strings_Cut (S (Lib.trimPrefix s.data.toList [115])) ⟨#[45]⟩ m W (by rw [S_size]; omega) h)
  change Hid (∀ W, W.cell? ⟨0, 0, none⟩ = some (.int .i64 m) → Calls Tryz.prog 90 #[.string (S (Lib.trimPrefix s.data.toList [115])), .string ⟨#[45]⟩] W fun e w' => e = .returned (.tuple #[.string (S (partG s.data.toList)), .string (S (partF s.data.toList)), .bool (Lib.cut (Lib.trimPrefix s.data.toList [115]) [45]).2.2]) ∧ ∃ n, w' = W.drewN n) at HCU
  change Hid (∀ W, Calls Tryz.prog 91 #[.string s, .string ⟨#[115]⟩] W fun e w' => e = .returned (.string (S (Lib.trimPrefix s.data.toList [115]))) ∧ w' = W) at HTP
  have HP1 := Lib.hid (fun W EW => parse_any (partG s.data.toList) (by omega) W EW)
  have HP2 := Lib.hid (fun W EW => parse_any (partF s.data.toList) (by omega) W EW)
  have HNA := Lib.hid (fun W (EW : Env W) => Name_any (pI (partG s.data.toList)) (pI (partF s.data.toList)) W EW.p)
  have HM := Lib.hid hm
  have HE := Lib.hid E
  have hR : namedR s.data.toList = if nameE (pI (partG s.data.toList)) (pI (partF s.data.toList)) = s.data.toList then (pI (partG s.data.toList), pI (partF s.data.toList), true) else (0, 0, false) := rfl
  rw [hR]
  have hne : ((S (nameE (pI (partG s.data.toList)) (pI (partF s.data.toList)))).toList == s.toList) = decide (nameE (pI (partG s.data.toList)) (pI (partF s.data.toList)) = s.data.toList) := by
    rw [ByteArray.toList_eq, ByteArray.toList_eq, S_list]
    by_cases h : nameE (pI (partG s.data.toList)) (pI (partF s.data.toList)) = s.data.toList
    · rw [decide_eq_true h, beq_iff_eq.2 h]
    · rw [decide_eq_false h, beq_eq_false_iff_ne.2 h]
  clear hz hp htl hm E hR
  generalize hx : (Lib.cut (Lib.trimPrefix s.data.toList [115]) [45]).2.2 = x at HCU
  generalize S (Lib.trimPrefix s.data.toList [115]) = T at *
  generalize pI (partG s.data.toList) = g at *
  generalize pI (partF s.data.toList) = f at *
  generalize S (partG s.data.toList) = G at *
  generalize S (partF s.data.toList) = F at *
  by_cases hn : nameE g f = s.data.toList
  · rw [if_pos hn]
    rw [decide_eq_true hn] at hne
    clear hn hx
    generalize S (nameE g f) = R at *
    go_enter Tryz.func42, Tryz.ntmps42
    go_wp2_with (first | (go_at_call 91; refine (HTP.out _).mono ?_; rintro e w1 ⟨rfl, rfl⟩) | (go_at_call 90; refine (HCU.out _ HM.out).mono ?_; rintro e w1 ⟨rfl, nq, rfl⟩))
    have HE1 := Lib.hid (HE.out.drew nq)
    refine (HP1.out _ HE1.out).mono ?_
    rintro e w2 ⟨ev, rfl, hb⟩
    have HB := Lib.hid hb
    clear hb
    go_wp2_with fail
    refine (HP2.out _ (HE1.out.over HB.out)).mono ?_
    rintro e w3 ⟨ev2, rfl, hb⟩
    have HB2 := Lib.hid (HB.out.trans (hb.mono HB.out.size))
    clear hb HB
    go_wp2_with fail
    refine (HNA.out _ (HE1.out.over HB2.out)).mono ?_
    rintro e w4 ⟨rfl, hb⟩
    have HB3 := Lib.hid (HB2.out.trans (hb.mono HB2.out.size))
    clear hb HB2
    go_wp2_with fail
    go_ret3
    exact ⟨rfl, (show Below w1.heap.size w1 (w1.drewN nq) from ⟨rfl, rfl, rfl, Nat.le_refl _, fun _ _ => rfl⟩).trans HB3.out⟩
  · rw [if_neg hn]
    rw [decide_eq_false hn] at hne
    clear hn hx
    generalize S (nameE g f) = R at *
    go_enter Tryz.func42, Tryz.ntmps42
    go_wp2_with (first | (go_at_call 91; refine (HTP.out _).mono ?_; rintro e w1 ⟨rfl, rfl⟩) | (go_at_call 90; refine (HCU.out _ HM.out).mono ?_; rintro e w1 ⟨rfl, nq, rfl⟩))
    have HE1 := Lib.hid (HE.out.drew nq)
    refine (HP1.out _ HE1.out).mono ?_
    rintro e w2 ⟨ev, rfl, hb⟩
    have HB := Lib.hid hb
    clear hb
    go_wp2_with fail
    refine (HP2.out _ (HE1.out.over HB.out)).mono ?_
    rintro e w3 ⟨ev2, rfl, hb⟩
    have HB2 := Lib.hid (HB.out.trans (hb.mono HB.out.size))
    clear hb HB
    go_wp2_with fail
    refine (HNA.out _ (HE1.out.over HB2.out)).mono ?_
    rintro e w4 ⟨rfl, hb⟩
    have HB3 := Lib.hid (HB2.out.trans (hb.mono HB2.out.size))
    clear hb HB2
    go_wp2_with fail
    go_ret3
    exact ⟨rfl, (show Below w1.heap.size w1 (w1.drewN nq) from ⟨rfl, rfl, rfl, Nat.le_refl _, fun _ _ => rfl⟩).trans HB3.out⟩
end Go.Proofs.YticfnfekkmkclaaGreatDoor.Seg

/-
  Texts of one's own.
-/
namespace Go.Proofs.YticfnfekkmkclaaGreatDoor.Seg
open Go Go.RowKit
open Go.Proofs.YticfnfekkmkclaaGreatDoor.Wire (S S_list S_size cell_row frozen_row row_lt heap_set U)

def strV (ys : List ByteArray) : List Value := ys.map Value.string
def OwnS (w : World) (base : Nat) (v : Value) (ys : List ByteArray) : Prop := w.ownsRow base 9 1 v ys.length (strV ys)
theorem infoS : (Tryz.prog.info? 9).map (fun i => (i.zero, i.size, i.bytes)) = some (some (.string ⟨#[]⟩), 1, 16) := by kernel_rfl
theorem strV_snoc (ys : List ByteArray) (y : ByteArray) : strV (ys ++ [y]) = strV ys ++ [.string y] := by unfold strV; rw [List.map_append]; rfl
theorem strV_len (ys : List ByteArray) : (strV ys).length = ys.length := by unfold strV; simp
theorem OwnS.nil (w : World) (base : Nat) : OwnS w base (.slice none 0 0) [] := ⟨rfl, Or.inl ⟨rfl, rfl⟩⟩
theorem OwnS.keep {w w' : World} {base : Nat} {v : Value} {ys : List ByteArray} (h : OwnS w base v ys) (hk : ∀ g, v.ownBlock = some g → w'.heap[g]? = w.heap[g]?) : OwnS w' base v ys := by
  obtain ⟨h1, h2⟩ := h
  refine ⟨h1, ?_⟩
  rcases h2 with h2 | ⟨b, cap, cur, e, hbg, hh, r⟩
  · exact Or.inl h2
  · exact Or.inr ⟨b, cap, cur, e, hbg, (hk b (by rw [e]; rfl)).trans hh, r⟩
theorem OwnS.less {w : World} {base base' : Nat} {v : Value} {ys : List ByteArray} (h : OwnS w base v ys) (hb : base' ≤ base) : OwnS w base' v ys := by
  obtain ⟨h1, h2⟩ := h
  refine ⟨h1, ?_⟩
  rcases h2 with h2 | ⟨b, cap, cur, e, hbg, r⟩
  · exact Or.inl h2
  · exact Or.inr ⟨b, cap, cur, e, Nat.le_trans hb hbg, r⟩
theorem OwnS.lt {w : World} {base : Nat} {v : Value} {ys : List ByteArray} (h : OwnS w base v ys) (g : Nat) (hg : v.ownBlock = some g) : g < w.heap.size ∧ base ≤ g := by
  rcases h.2 with ⟨rfl, _⟩ | ⟨b, cap, cur, rfl, hbg, hh, _⟩
  · cases hg
  · have : b = g := by simpa [Value.ownBlock] using hg
    subst this; exact ⟨row_lt hh, hbg⟩
theorem OwnS.row {w : World} {base : Nat} {v : Value} {ys : List ByteArray} (h : OwnS w base v ys) : ∃ A cap, v = .slice A ys.length cap ∧ cap ≤ maxLen ∧ ys.length ≤ cap ∧ (∀ j (hj : j < ys.length), ∃ g, A = some ⟨g, 0, none⟩ ∧ g < w.heap.size ∧ base ≤ g ∧ w.cell? ⟨g, j, none⟩ = some (.string ys[j]) ∧ w.frozen? ⟨g, j, none⟩ = false) := by
  rcases h.2 with ⟨rfl, hn⟩ | ⟨g, cap, cur, rfl, hb, hg, h1, h2, h3, h4⟩
  · have hx : ys = [] := List.eq_nil_of_length_eq_zero hn
    subst hx
    exact ⟨none, 0, rfl, Nat.zero_le _, Nat.zero_le _, fun i hi => absurd hi (Nat.not_lt_zero _)⟩
  · refine ⟨some ⟨g, 0, none⟩, cap, rfl, h2, h1, fun j hj => ⟨g, rfl, row_lt hg, hb, ?_, frozen_row hg j⟩⟩
    have e : (strV ys)[j]? = some (.string ys[j]) := by unfold strV; rw [List.getElem?_map, List.getElem?_eq_getElem hj]; rfl
    rw [cell_row hg, ← e, ← h4, List.getElem?_take, if_pos (by omega), ← Array.getElem?_toList]
theorem wpList_append_s {ops : Array Oper} {rest : List Oper} {o : Oper} {a : Act} {w : World} {Q : Exit → Act → World → Prop} (hgd : o.guard = none) (s x : Operand)
    (ho : o.op = .call { callee := .builtin .append, args := #[s, x], argTypes := #[35, 35] })
    (base : Nat) (v : Value) (ys : List ByteArray) (hs : a.eval s = v) (hown : OwnS w base v ys)
    (g : Nat) (cap : Nat) (y : ByteArray) (hx : a.eval x = .slice (some ⟨g, 0, none⟩) 1 cap) (hn : w.cell? ⟨g, 0, none⟩ = some (.string y))
    (hlen : ys.length ≤ 1000000) (hbase : base ≤ w.heap.size)
    (h : ∀ v' w', OwnS w' base v' (ys ++ [y]) → w.grownBy w' v.ownBlock → wpList Tryz.prog ops Q rest (a.put o.dst v') w') : wpList Tryz.prog ops Q (o :: rest) a w := by
  obtain ⟨i0, hi, hz0, hz1, hz2⟩ := info_parts infoS
  refine wpList_append_own w hgd s x 35 ho base 9 i0 _ 1 16 Tryz.underlying35 hi hz0 hz1 hz2 rfl (by decide) v ys.length (strV ys) hs hown ⟨g, 0, none⟩ 1 cap [.string y] hx rfl ?_ (by intro u hu; rw [List.mem_singleton.1 hu]; rfl) (by unfold maxLen; omega) (by omega) hbase ?_
  · intro j u hj
    cases j with
    | zero => rw [Manif.addr_z]; rw [hn]; simpa using hj
    | succ j => simp at hj
  · intro v' w' hown' hg _
    exact h v' w' (by unfold OwnS; rw [strV_snoc, List.length_append]; exact hown') hg
theorem OwnS.below {w w' : World} {base : Nat} {v : Value} {ys : List ByteArray} (h : OwnS w base v ys) (hb : Below w.heap.size w w') : OwnS w' base v ys := h.keep (fun g hg => hb.block g (h.lt g hg).1)
theorem below_own {n : Nat} {a b c : World} {v : Value} {ys : List ByteArray} (h : Below n a b) (ho : OwnS b n v ys) (g : b.grownBy c v.ownBlock) (hn : n ≤ a.heap.size) : Below n a c :=
  ⟨g.os.trans h.os, g.tape.trans h.tape, g.output.trans h.output, Nat.le_trans h.size g.size, fun k hk => (g.block k (by have := h.size; omega) (fun e => by have := (ho.lt k e.symm).2; omega)).trans (h.block k hk)⟩
end Go.Proofs.YticfnfekkmkclaaGreatDoor.Seg

/-
  Manifests: Names.
-/
namespace Go.Proofs.YticfnfekkmkclaaGreatDoor.Manif
open Go Go.RowKit
open Go.Proofs.YticfnfekkmkclaaGreatDoor.Wire (S S_list S_size cell_row frozen_row row_lt heap_set)
open Go.Proofs.YticfnfekkmkclaaGreatDoor.Seg (OwnS EnvP Name_any nameE wpList_append_s below_own)

/-- the names of a manifest's segments' files -/
def nmL (l : List (Int × Int)) : List ByteArray := l.map fun p => S (nameE p.1 p.2)
theorem nmL_len (l : List (Int × Int)) : (nmL l).length = l.length := by unfold nmL; rw [List.length_map]
theorem nmL_take (l : List (Int × Int)) (j : Nat) (h : j < l.length) : nmL (l.take (j + 1)) = nmL (l.take j) ++ [S (nameE (l[j]'h).1 (l[j]'h).2)] := by
  rw [List.take_succ_eq_append_getElem h]; unfold nmL; rw [List.map_append]; rfl
def nmR (g : Int) (l : List (Int × Int)) : List ByteArray := if mayM g l = true then nmL l else []
set_option maxRecDepth 100000 in
set_option maxHeartbeats 4000000 in
/-- **Names** -/
theorem Names_any (w : World) (E : EnvP w) (g : Int) (A : Option Addr) (cap : Nat) (l : List (Int × Int)) (hl : l.length ≤ maxLen) (hx : RowE w A l) :
    Calls Tryz.prog 14 #[.agg #[.int .i64 g, .slice A l.length cap]] w fun e w' => ∃ v, e = .returned v ∧ OwnS w' w.heap.size v (nmR g l) ∧ Below w.heap.size w w' := by
  obtain ⟨w0, hw0⟩ : ∃ w0, w.alloc (.cells #[.int .i64 g, .slice A l.length cap] 25) = w0 := ⟨_, rfl⟩
  have hb0 : Below w.heap.size w w0 := by rw [← hw0]; exact (Below.refl _ _).alloc (Nat.le_refl _) _
  have hm0 : w0.heap[w.heap.size]? = some (.cells #[.int .i64 g, .slice A l.length cap] 25 (0, 0)) := by rw [← hw0]; exact heap_alloc_new w _
  have HMY := Lib.hid (May_any w0 g A cap l hl (hx.below hb0))
  have HB0 := Lib.hid hb0
  have HM0 := Lib.hid hm0
  have HX := Lib.hid hx
  have HE := Lib.hid E
  have HW0 := Lib.hid hw0
  have c0 : w0.cell? ⟨w.heap.size, 0, none⟩ = some (.int .i64 g) := cell_row hm0 0
  have c1 : w0.cell? ⟨w.heap.size, 1, none⟩ = some (.slice A l.length cap) := cell_row hm0 1
  clear hb0 hm0 hx hl E
  by_cases hm : mayM g l = true
  case neg =>
    have HV := Lib.hid (show nmR g l = [] from if_neg hm)
    rw [Bool.not_eq_true] at hm
    rw [hm] at HMY
    clear hm
    go_enter Tryz.func14, Tryz.ntmps14
    go_wp2_with fail
    refine HMY.out.mono ?_
    rintro e w1 ⟨rfl, hb⟩
    have HB1 := Lib.hid (HB0.out.trans (hb.mono HB0.out.size))
    clear hb
    go_wp2_with fail
    go_ret
    exact ⟨_, rfl, by rw [HV.out]; exact OwnS.nil _ _, HB1.out⟩
  have HV := Lib.hid (show nmR g l = nmL l from if_pos hm)
  rw [hm] at HMY
  have HL := Lib.hid (mayM_parts hm).2.2.2.1
  clear hm
  go_enter Tryz.func14, Tryz.ntmps14
  go_wp2_with fail
  refine HMY.out.mono ?_
  rintro e w1 ⟨rfl, hb⟩
  have HB1 := Lib.hid (HB0.out.trans (hb.mono HB0.out.size))
  have hm1 := (hb.block _ (row_lt HM0.out)).trans HM0.out
  have HM1 := Lib.hid hm1
  clear c0 c1
  have c0 : w1.cell? ⟨w.heap.size, 0, none⟩ = some (.int .i64 g) := cell_row hm1 0
  have c1 : w1.cell? ⟨w.heap.size, 1, none⟩ = some (.slice A l.length cap) := cell_row hm1 1
  have HN0 := Lib.hid (OwnS.nil w1 (w.heap.size + 1))
  clear hb hm1 hw0
  go_wp2_with fail
  clear c0 c1
  go_loopw [3, 12] (fun v y wr => ∃ j : Nat, j ≤ l.length ∧ y = .int .i64 (j : Int) ∧ Hid (OwnS wr w.heap.size v (nmL (l.take j))) ∧ Hid (Below w.heap.size w wr)) (fun _ y _ => l.length - (intOf y).toNat)
  case atStart => exact ⟨0, Nat.zero_le _, rfl, Lib.hid (OwnS.nil _ _), HB1⟩
  case round =>
    clear HN0
    obtain ⟨j, hj, rfl, HO, HB⟩ := hrel
    by_cases hlt : j < l.length
    · as_aux_lemma =>
        have e1 : decide ((j : Int) < (l.length : Int)) = true := decide_eq_true (by omega)
        obtain ⟨B, o, rfl, hbb, d0, d1⟩ := HX.out.below HB.out j hlt
        have HLT := Lib.hid hlt
        have HN := Lib.hid (nmL_take l j hlt)
        have HI1 := Lib.hid (show wrap64 ((j : Int) + 1) = (j : Int) + 1 from IntWalk.wrap64_in _ ⟨by omega, by have := HL.out; omega⟩)
        have HLN := Lib.hid (show (nmL (l.take j)).length ≤ 1000000 by rw [nmL_len, List.length_take]; have := HL.out; omega)
        generalize (l[j]'hlt).1 = x at *
        generalize (l[j]'hlt).2 = y at *
        obtain ⟨w5, hw5⟩ : ∃ w5, wr.alloc (.cells #[.int .i64 x, .int .i64 y] 27) = w5 := ⟨_, rfl⟩
        have hb5 : Below wr.heap.size wr w5 := by rw [← hw5]; exact (Below.refl _ _).alloc (Nat.le_refl _) _
        have he5 : w5.heap[wr.heap.size]? = some (.cells #[.int .i64 x, .int .i64 y] 27 (0, 0)) := by rw [← hw5]; exact heap_alloc_new wr _
        have g1 : w5.cell? ⟨wr.heap.size, 0, none⟩ = some (.int .i64 x) := cell_row he5 0
        have g2 : w5.cell? ⟨wr.heap.size, 1, none⟩ = some (.int .i64 y) := cell_row he5 1
        have HB5 := Lib.hid (HB.out.trans (hb5.mono HB.out.size))
        have HO5 := Lib.hid (HO.out.below hb5)
        have HNM := Lib.hid (Name_any x y w5 (HE.out.over HB5.out))
        clear hb5 he5 hj hbb
        generalize S (nameE x y) = p at *
        go_wp2_with fail
        refine HNM.out.mono ?_
        rintro e w6 ⟨rfl, hb⟩
        have hbn := (Below.refl w6.heap.size w6).alloc (Nat.le_refl _) (.cells #[.string p] 9)
        have HOA := Lib.hid ((HO5.out.below hb).below hbn)
        have HB6 := Lib.hid (HB5.out.trans (hb.mono HB5.out.size))
        have HBA := Lib.hid (HB6.out.trans (hbn.mono HB6.out.size))
        have HCL := Lib.hid (cell_row (heap_alloc_new w6 (.cells #[.string p] 9)) 0)
        clear hbn hb d0 d1 g1 g2 hw5
        go_wp2_with (at_builtin; refine wpList_append_s rfl _ _ rfl w.heap.size _ _ rfl HOA.out w6.heap.size 1 p rfl HCL.out HLN.out HBA.out.size ?_)
        intro v' w7 hown hg
        rw [← HN.out] at hown
        have HO2 := Lib.hid hown
        have HB2 := Lib.hid (below_own HBA.out HOA.out hg (Nat.le_refl _))
        clear hown hg
        go_wp2_with fail
        go_roundw
        case rel => exact ⟨j + 1, HLT.out, by rw [HI1.out]; rfl, HO2, HB2⟩
        case measure =>
          rw [HI1.out]
          show l.length - ((j : Int) + 1).toNat < l.length - (j : Int).toNat
          have := HLT.out; omega
    · as_aux_lemma =>
        have e1 : decide ((j : Int) < (l.length : Int)) = false := decide_eq_false (by omega)
        obtain rfl : j = l.length := by omega
        rw [List.take_length] at HO
        clear hj hlt
        go_wp2_with fail
        go_ret
        exact ⟨_, rfl, by rw [HV.out]; exact HO.out, HB.out⟩
end Go.Proofs.YticfnfekkmkclaaGreatDoor.Manif
