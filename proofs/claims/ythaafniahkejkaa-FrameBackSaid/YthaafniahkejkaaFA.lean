import Derived.Test.YthaafniahkejkaaMath3
import Derived.Test.YthaafniahkejkaaB6
/-
  Frames as bytes: what is made, what is read of any bytes, what is scanned. Plain mathematics.
-/
namespace Go.Proofs.Ythaafniahkejkaa.Frame
open Go
open Go.Proofs.Ythaafniahkejkaa.Crc (W ofW fourL raw addW raw_append)
open Go.Proofs.Ythaafniahkejkaa.Wire (fixB be fixB_length be_fixB fixB_be be_lt S S_list S_size lowB revN rev_rev rev_lt fix_rev)

/-- the length, and the number -/
def headB (n q : Nat) : List UInt8 := fixB 4 n ++ fixB 8 q
theorem headB_length (n q : Nat) : (headB n q).length = 12 := by unfold headB; rw [List.length_append, fixB_length, fixB_length]
theorem fourL_length (c : W) : (fourL c).length = 4 := rfl
/-- the checksum of a head and a payload -/
def sumW (h p : List UInt8) : W := ofW (h ++ p)
/-- a frame's bytes -/
def frB (q : Nat) (p : List UInt8) : List UInt8 := headB p.length q ++ (fourL (sumW (headB p.length q) p) ++ p)
theorem frB_length (q : Nat) (p : List UInt8) : (frB q p).length = 16 + p.length := by
  unfold frB; rw [List.length_append, List.length_append, headB_length, fourL_length]; omega
/-- what Make says: by number and payload -/
def mkE (q : Int) (p : List UInt8) : Nat := if 0 ≤ q ∧ q < 1048576 then (if p.length = 0 then 4 else if 4096 < p.length then 40 else 0) else 1
def mkB (q : Int) (p : List UInt8) : List UInt8 := if mkE q p = 0 then frB q.toNat p else []
theorem mkE_zero {q : Int} {p : List UInt8} (h : mkE q p = 0) : 0 ≤ q ∧ q < 1048576 ∧ 1 ≤ p.length ∧ p.length ≤ 4096 := by
  unfold mkE at h
  split at h
  · split at h
    · cases h
    · split at h
      · cases h
      · omega
  · cases h
theorem mkE_ok {q : Int} {p : List UInt8} (h0 : 0 ≤ q) (h1 : q < 1048576) (h2 : 1 ≤ p.length) (h3 : p.length ≤ 4096) : mkE q p = 0 := by
  unfold mkE; rw [if_pos ⟨h0, h1⟩, if_neg (by omega), if_neg (by omega)]

/-! ### what is read -/
def rdN (l : List UInt8) : Nat := be (l.take 4)
def rdQ (l : List UInt8) : Nat := be ((l.drop 4).take 8)
def rdC (l : List UInt8) : List UInt8 := (l.drop 12).take 4
def rdP (l : List UInt8) : List UInt8 := (l.drop 16).take (rdN l)
def rdE (l : List UInt8) : Nat :=
  if l.length < 16 then 8 else if ¬ (1 ≤ rdN l ∧ rdN l ≤ 4096 ∧ rdQ l < 1048576) then 4 else if l.length < 16 + rdN l then 8 else if fourL (sumW (l.take 12) (rdP l)) = rdC l then 0 else 42
/-- how many bytes are taken -/
def rdK (l : List UInt8) : Nat := 16 + rdN l
theorem rd_zero {l : List UInt8} (h : rdE l = 0) : 16 + rdN l ≤ l.length ∧ 1 ≤ rdN l ∧ rdN l ≤ 4096 ∧ rdQ l < 1048576 ∧ fourL (sumW (l.take 12) (rdP l)) = rdC l := by
  unfold rdE at h
  by_cases h1 : l.length < 16
  · rw [if_pos h1] at h; cases h
  · rw [if_neg h1] at h
    by_cases h2 : 1 ≤ rdN l ∧ rdN l ≤ 4096 ∧ rdQ l < 1048576
    · rw [if_neg (fun k => k h2)] at h
      by_cases h3 : l.length < 16 + rdN l
      · rw [if_pos h3] at h; cases h
      · rw [if_neg h3] at h
        by_cases h4 : fourL (sumW (l.take 12) (rdP l)) = rdC l
        · exact ⟨by omega, h2.1, h2.2.1, h2.2.2, h4⟩
        · rw [if_neg h4] at h; cases h
    · rw [if_pos h2] at h; cases h
theorem rdP_length {l : List UInt8} (h : 16 + rdN l ≤ l.length) : (rdP l).length = rdN l := by
  unfold rdP; rw [List.length_take, List.length_drop]; omega
/-- twelve bytes are a head -/
theorem head_of {l : List UInt8} (h : 12 ≤ l.length) : headB (rdN l) (rdQ l) = l.take 12 := by
  unfold headB rdN rdQ
  rw [fixB_be 4 _ (by rw [List.length_take]; omega), fixB_be 8 _ (by rw [List.length_take, List.length_drop]; omega)]
  rw [show (12 : Nat) = 4 + 8 from rfl, List.take_add]
/-- **just one way to say it** -/
theorem rd_back {l : List UInt8} (h : rdE l = 0) : frB (rdQ l) (rdP l) = l.take (rdK l) ∧ mkE (rdQ l : Int) (rdP l) = 0 := by
  obtain ⟨h1, h2, h3, h4, h5⟩ := rd_zero h
  have hp := rdP_length h1
  refine ⟨?_, mkE_ok (by omega) (by omega) (by omega) (by omega)⟩
  unfold frB rdK
  rw [hp, head_of (by omega), h5]
  unfold rdC rdP
  rw [show 16 + rdN l = 12 + (4 + rdN l) by omega, List.take_add, List.take_add (i := 4), List.drop_drop]

theorem take_front {a b : List UInt8} {n : Nat} (h : a.length = n) : (a ++ b).take n = a := by rw [← h, List.take_left]
theorem drop_front {a b : List UInt8} {n : Nat} (h : a.length = n) : (a ++ b).drop n = b := by rw [← h, List.drop_left]
theorem fr_take12 (q : Nat) (p m : List UInt8) : (frB q p ++ m).take 12 = headB p.length q := by
  unfold frB; rw [List.append_assoc, take_front (headB_length _ _)]
theorem fr_parts (q : Nat) (p m : List UInt8) (hq : q < 1048576) (hp : p.length ≤ 4096) :
    rdN (frB q p ++ m) = p.length ∧ rdQ (frB q p ++ m) = q ∧ rdC (frB q p ++ m) = fourL (sumW (headB p.length q) p) ∧ rdP (frB q p ++ m) = p := by
  have hn : rdN (frB q p ++ m) = p.length := by
    unfold rdN frB headB
    rw [List.append_assoc, List.append_assoc, take_front (fixB_length _ _), be_fixB, Nat.mod_eq_of_lt (by omega)]
  refine ⟨hn, ?_, ?_, ?_⟩
  · unfold rdQ frB headB
    rw [List.append_assoc, List.append_assoc, drop_front (fixB_length _ _), take_front (fixB_length _ _), be_fixB, Nat.mod_eq_of_lt (by omega)]
  · unfold rdC frB
    rw [List.append_assoc, drop_front (headB_length _ _), List.append_assoc, take_front (fourL_length _)]
  · unfold rdP; rw [hn]
    unfold frB
    rw [show (16 : Nat) = 12 + 4 from rfl, ← List.drop_drop, List.append_assoc, drop_front (headB_length _ _), List.append_assoc, drop_front (fourL_length _), take_front rfl]
/-- **what is made is read** -/
theorem rd_fr (q : Nat) (p m : List UInt8) (hq : q < 1048576) (h1 : 1 ≤ p.length) (hp : p.length ≤ 4096) : rdE (frB q p ++ m) = 0 := by
  obtain ⟨a, b, c, d⟩ := fr_parts q p m hq hp
  have hl : (frB q p ++ m).length = 16 + p.length + m.length := by rw [List.length_append, frB_length]
  unfold rdE
  rw [if_neg (by omega), a, b, c, d, if_neg (by omega), if_neg (by omega), fr_take12, if_pos rfl]
/-- cut short it is not -/
theorem rd_cut (q : Nat) (p : List UInt8) (k : Nat) (hq : q < 1048576) (h1 : 1 ≤ p.length) (hp : p.length ≤ 4096) (hk : k < 16 + p.length) : rdE ((frB q p).take k) = 8 := by
  have hl : ((frB q p).take k).length = k := by rw [List.length_take, frB_length]; omega
  unfold rdE
  by_cases h16 : k < 16
  · rw [hl, if_pos h16]
  · obtain ⟨a, b, _, _⟩ := fr_parts q p [] hq hp
    rw [List.append_nil] at a b
    have a' : rdN ((frB q p).take k) = p.length := by
      rw [← a]; unfold rdN; rw [List.take_take, Nat.min_eq_left (by omega)]
    have b' : rdQ ((frB q p).take k) = q := by
      conv => rhs; rw [← b]
      unfold rdQ; rw [List.drop_take, List.take_take, Nat.min_eq_left (by omega)]
    rw [hl, if_neg h16, a', b', if_neg (by omega), if_pos hk]

/-! ### scanning -/
structure Fr where
  q : Nat
  p : List UInt8
  i : Nat
deriving DecidableEq
/-- all frames of bytes that stand at a place, whatever their numbers -/
def allF : Nat → List UInt8 → Nat → List Fr
  | 0, _, _ => []
  | k + 1, l, i => if rdE l = 0 then ⟨rdQ l, rdP l, i⟩ :: allF k (l.drop (rdK l)) (i + rdK l) else []
/-- what stands behind them -/
def restF : Nat → List UInt8 → List UInt8
  | 0, l => l
  | k + 1, l => if rdE l = 0 then restF k (l.drop (rdK l)) else l
/-- those that are numbered on -/
def pref : Int → List Fr → List Fr
  | _, [] => []
  | first, f :: r => if (f.q : Int) = first then f :: pref (first + 1) r else []
def bytesOf : List Fr → Nat
  | [] => 0
  | f :: r => 16 + f.p.length + bytesOf r
def scanF (l : List UInt8) (i : Nat) (first : Int) : List Fr := pref first (allF l.length l i)
theorem rdE_nil : rdE [] = 8 := rfl
theorem rdK_le {l : List UInt8} (h : rdE l = 0) : 17 ≤ rdK l ∧ rdK l ≤ l.length := by
  obtain ⟨h1, h2, _⟩ := rd_zero h; unfold rdK; omega
/-- more rounds than bytes tell no more -/
theorem allF_more : ∀ (k : Nat) (l : List UInt8) (i : Nat), l.length ≤ k → allF k l i = allF l.length l i
  | 0, l, i, h => by rw [List.eq_nil_of_length_eq_zero (Nat.le_zero.1 h)]; rfl
  | k + 1, l, i, h => by
    by_cases h0 : rdE l = 0
    · have hk := rdK_le h0
      obtain ⟨n, hn⟩ : ∃ n, l.length = n + 1 := ⟨l.length - 1, by omega⟩
      have hd : (l.drop (rdK l)).length ≤ n := by rw [List.length_drop]; omega
      rw [hn, allF, allF, if_pos h0, if_pos h0, allF_more k _ _ (by omega), allF_more n _ _ hd]
    · rw [allF, if_neg h0]
      cases hn : l.length with
      | zero => rfl
      | succ n => rw [allF, if_neg h0]
theorem all_step {l : List UInt8} {i : Nat} (h : rdE l = 0) : allF l.length l i = ⟨rdQ l, rdP l, i⟩ :: allF (l.drop (rdK l)).length (l.drop (rdK l)) (i + rdK l) := by
  have hk := rdK_le h
  obtain ⟨n, hn⟩ : ∃ n, l.length = n + 1 := ⟨l.length - 1, by omega⟩
  have hd : (l.drop (rdK l)).length ≤ n := by rw [List.length_drop]; omega
  rw [hn, allF, if_pos h, allF_more n _ _ hd]
theorem all_none {l : List UInt8} {i : Nat} (h : ¬ rdE l = 0) : allF l.length l i = [] := by
  cases hn : l.length with
  | zero => rfl
  | succ n => rw [allF, if_neg h]
theorem scan_step {l : List UInt8} {i : Nat} {first : Int} (h : rdE l = 0) (hf : (rdQ l : Int) = first) : scanF l i first = ⟨rdQ l, rdP l, i⟩ :: scanF (l.drop (rdK l)) (i + rdK l) (first + 1) := by
  unfold scanF; rw [all_step h, pref, if_pos hf]
theorem scan_none {l : List UInt8} {i : Nat} {first : Int} (h : ¬ (rdE l = 0 ∧ (rdQ l : Int) = first)) : scanF l i first = [] := by
  unfold scanF
  by_cases h0 : rdE l = 0
  · rw [all_step h0, pref, if_neg (fun e => h ⟨h0, e⟩)]
  · rw [all_none h0]; rfl
theorem bytes_append (a b : List Fr) : bytesOf (a ++ b) = bytesOf a + bytesOf b := by
  induction a with
  | nil => simp [bytesOf]
  | cons x r ih => simp only [List.cons_append, bytesOf, ih]; omega

/-! ### rows of frames -/
/-- frames of payloads, numbered on -/
def rowB : Nat → List (List UInt8) → List UInt8
  | _, [] => []
  | q, p :: r => frB q p ++ rowB (q + 1) r
def rowF : Nat → Nat → List (List UInt8) → List Fr
  | _, _, [] => []
  | q, i, p :: r => ⟨q, p, i⟩ :: rowF (q + 1) (i + (16 + p.length)) r
def okP (q : Nat) (ps : List (List UInt8)) : Prop := q + ps.length ≤ 1048576 ∧ ∀ p ∈ ps, 1 ≤ p.length ∧ p.length ≤ 4096
theorem okP.cons {q : Nat} {p : List UInt8} {r : List (List UInt8)} (h : okP q (p :: r)) : q < 1048576 ∧ 1 ≤ p.length ∧ p.length ≤ 4096 ∧ okP (q + 1) r := by
  obtain ⟨h1, h2⟩ := h
  rw [List.length_cons] at h1
  exact ⟨by omega, (h2 p (List.mem_cons_self ..)).1, (h2 p (List.mem_cons_self ..)).2, ⟨by omega, fun x hx => h2 x (List.mem_cons_of_mem _ hx)⟩⟩
theorem scan_fr (q : Nat) (p m : List UInt8) (i : Nat) (hq : q < 1048576) (h1 : 1 ≤ p.length) (hp : p.length ≤ 4096) :
    scanF (frB q p ++ m) i (q : Int) = ⟨q, p, i⟩ :: scanF m (i + (16 + p.length)) ((q : Int) + 1) := by
  obtain ⟨a, b, _, d⟩ := fr_parts q p m hq hp
  have hk : rdK (frB q p ++ m) = 16 + p.length := by unfold rdK; rw [a]
  rw [scan_step (rd_fr q p m hq h1 hp) (by rw [b]), b, d, hk, drop_front (frB_length q p)]
/-- **scanned as they are, whatever stands behind** -/
theorem scan_row : ∀ (ps : List (List UInt8)) (q i : Nat) (m : List UInt8), okP q ps → scanF (rowB q ps ++ m) i (q : Int) = rowF q i ps ++ scanF m (i + (rowB q ps).length) ((q + ps.length : Nat) : Int)
  | [], q, i, m, _ => by simp [rowB, rowF]
  | p :: r, q, i, m, h => by
    obtain ⟨h1, h2, h3, h4⟩ := h.cons
    have ih := scan_row r (q + 1) (i + (16 + p.length)) m h4
    rw [rowB, List.append_assoc, scan_fr q p _ i h1 h2 h3, rowF, List.cons_append]
    rw [show ((q : Int) + 1) = ((q + 1 : Nat) : Int) by omega, ih]
    congr 2
    rw [List.length_append, frB_length, List.length_cons]
    congr 1 <;> omega
theorem scan_nil (i : Nat) (first : Int) : scanF [] i first = [] := rfl
/-- how many are whole in so many bytes -/
def wholeN : List (List UInt8) → Nat → Nat
  | [], _ => 0
  | p :: r, k => if 16 + p.length ≤ k then 1 + wholeN r (k - (16 + p.length)) else 0
theorem wholeN_le : ∀ (ps : List (List UInt8)) (k : Nat), wholeN ps k ≤ ps.length
  | [], _ => Nat.le_refl _
  | p :: r, k => by
    have := wholeN_le r (k - (16 + p.length))
    unfold wholeN; rw [List.length_cons]; split <;> omega
/-- **cut short: those that are whole** -/
theorem scan_cut : ∀ (ps : List (List UInt8)) (q i k : Nat), okP q ps → scanF ((rowB q ps).take k) i (q : Int) = rowF q i (ps.take (wholeN ps k))
  | [], q, i, k, _ => by simp [rowB, rowF, scan_nil, wholeN]
  | p :: r, q, i, k, h => by
    obtain ⟨h1, h2, h3, h4⟩ := h.cons
    have ih := scan_cut r (q + 1) (i + (16 + p.length)) (k - (16 + p.length)) h4
    rw [rowB, wholeN]
    by_cases hk : 16 + p.length ≤ k
    · rw [if_pos hk, List.take_append, frB_length, List.take_of_length_le (by rw [frB_length]; exact hk), scan_fr q p _ i h1 h2 h3, Nat.add_comm 1, List.take_succ_cons, rowF]
      rw [show ((q : Int) + 1) = ((q + 1 : Nat) : Int) by omega, ih]
    · rw [if_neg hk, List.take_append, frB_length, show k - (16 + p.length) = 0 by omega, List.take_zero, List.append_nil, List.take_zero, rowF]
      exact scan_none (fun hz => by have := rd_cut q p k h1 h2 h3 (by omega); omega)
theorem rowB_append : ∀ (a b : List (List UInt8)) (q : Nat), rowB q (a ++ b) = rowB q a ++ rowB (q + a.length) b
  | [], b, q => by simp [rowB]
  | p :: r, b, q => by
    rw [List.cons_append, rowB, rowB, rowB_append r b (q + 1), List.append_assoc, List.length_cons]
    congr 3; omega
theorem rowB_length : ∀ (ps : List (List UInt8)) (q r : Nat), (rowB q ps).length = (rowB r ps).length
  | [], _, _ => rfl
  | p :: t, q, r => by rw [rowB, rowB, List.length_append, List.length_append, frB_length, frB_length, rowB_length t (q + 1) (r + 1)]
theorem rowF_length : ∀ (ps : List (List UInt8)) (q i : Nat), (rowF q i ps).length = ps.length
  | [], _, _ => rfl
  | p :: t, q, i => by rw [rowF, List.length_cons, List.length_cons, rowF_length t]
theorem rowF_at : ∀ (ps : List (List UInt8)) (q i j : Nat) (h : j < ps.length), (rowF q i ps)[j]? = some ⟨q + j, ps[j], i + (rowB q (ps.take j)).length⟩
  | [], _, _, j, h => by simp at h
  | p :: t, q, i, 0, _ => by simp [rowF, rowB]
  | p :: t, q, i, j + 1, h => by
    rw [rowF, List.getElem?_cons_succ, rowF_at t (q + 1) (i + (16 + p.length)) j (by simpa using h)]
    rw [List.getElem_cons_succ, List.take_succ_cons, rowB, List.length_append, frB_length]
    congr 2 <;> omega
theorem bytesOf_row : ∀ (ps : List (List UInt8)) (q i : Nat), bytesOf (rowF q i ps) = (rowB q ps).length
  | [], _, _ => rfl
  | p :: t, q, i => by rw [rowF, rowB, bytesOf, List.length_append, frB_length, bytesOf_row t]

/-! ### the checksum as bytes -/
theorem fourL_low (c : W) : fourL c = lowB c.toNat := by
  unfold fourL lowB fixB fixB fixB fixB fixB
  simp only [List.nil_append, List.cons_append, List.reverse_cons, List.reverse_nil]
  have := c.isLt
  have e : ∀ x : Nat, UInt8.ofNat (x % 256) = UInt8.ofNat x := fun x => by
    apply UInt8.toNat_inj.1; rw [UInt8.toNat_ofNat', UInt8.toNat_ofNat', Nat.mod_mod]
  rw [e, e, e, e, Nat.div_div_eq_div_mul, Nat.div_div_eq_div_mul]
theorem fourL_inj {a b : W} (h : fourL a = fourL b) : a = b := by
  have h2 : fixB 4 a.toNat = fixB 4 b.toNat := by
    rw [fourL_low, fourL_low] at h
    unfold lowB at h
    exact List.reverse_inj.1 h
  have h3 : be (fixB 4 a.toNat) = be (fixB 4 b.toNat) := by rw [h2]
  rw [be_fixB, be_fixB, Nat.mod_eq_of_lt (by have := a.isLt; omega), Nat.mod_eq_of_lt (by have := b.isLt; omega)] at h3
  exact BitVec.eq_of_toNat_eq h3
/-- what four bytes tell, the lowest first -/
theorem low_iff (c : W) (l : List UInt8) (h : l.length = 4) : (c.toNat = revN (be l)) ↔ fourL c = l := by
  have hb : be l < 4294967296 := be_lt 4 l h
  constructor
  · intro e
    rw [fourL_low, e]
    unfold lowB
    rw [fix_rev, List.reverse_reverse, fixB_be 4 l h]
  · intro e
    rw [← e, fourL_low]
    unfold lowB
    have h2 : (fixB 4 c.toNat).reverse = fixB 4 (revN c.toNat) := (fix_rev c.toNat).symm
    rw [h2, be_fixB, Nat.mod_eq_of_lt (rev_lt _), rev_rev _ (by have := c.isLt; omega)]
end Go.Proofs.Ythaafniahkejkaa.Frame
