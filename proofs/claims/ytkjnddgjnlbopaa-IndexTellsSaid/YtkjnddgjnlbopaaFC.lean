import Derived.Test.YtkjnddgjnlbopaaMath
import Derived.Test.YtkjnddgjnlbopaaB6
import Derived.Test.YtkjnddgjnlbopaaB22
import Derived.Test.YtkjnddgjnlbopaaW8
/-
  Frames as bytes: what is made, what is read of any bytes, what is scanned. Plain mathematics.
-/
namespace Go.Proofs.Ytkjnddgjnlbopaa.Frame
open Go
open Go.Proofs.Ytkjnddgjnlbopaa.Crc (W ofW fourL raw addW raw_append)
open Go.Proofs.Ytkjnddgjnlbopaa.Wire (fixB be fixB_length be_fixB fixB_be be_lt S S_list S_size lowB revN rev_rev rev_lt fix_rev)

/-- the length, and the number -/
def headB (n q : Nat) : List UInt8 := fixB 4 n ++ fixB 8 q
theorem headB_length (n q : Nat) : (headB n q).length = 12 := by unfold headB; rw [List.length_append, fixB_length, fixB_length]
theorem fourL_length (c : W) : (fourL c).length = 4 := rfl
/-- the checksum of a head and a payload -/
def sumW (h p : List UInt8) : W := ofW (h ++ p)
/-- a frame's bytes -/
def frB (q : Nat) (p : List UInt8) : List UInt8 := headB p.length q ++ (fourL (sumW (headB p.length q) p) ++ p)
theorem frB_length (q : Nat) (p : List UInt8) : (frB q p).length = 16 + p.length := by
  unfold frB; rw [List.length_append, List.length_append, headB_length, fourL_length]; omega
/-- what Make says: by number and payload -/
def mkE (q : Int) (p : List UInt8) : Nat := if 0 ≤ q ∧ q < 1048576 then (if p.length = 0 then 4 else if 4096 < p.length then 40 else 0) else 1
def mkB (q : Int) (p : List UInt8) : List UInt8 := if mkE q p = 0 then frB q.toNat p else []
theorem mkE_zero {q : Int} {p : List UInt8} (h : mkE q p = 0) : 0 ≤ q ∧ q < 1048576 ∧ 1 ≤ p.length ∧ p.length ≤ 4096 := by
  unfold mkE at h
  split at h
  · split at h
    · cases h
    · split at h
      · cases h
      · omega
  · cases h
theorem mkE_ok {q : Int} {p : List UInt8} (h0 : 0 ≤ q) (h1 : q < 1048576) (h2 : 1 ≤ p.length) (h3 : p.length ≤ 4096) : mkE q p = 0 := by
  unfold mkE; rw [if_pos ⟨h0, h1⟩, if_neg (by omega), if_neg (by omega)]

/-! ### what is read -/
def rdN (l : List UInt8) : Nat := be (l.take 4)
def rdQ (l : List UInt8) : Nat := be ((l.drop 4).take 8)
def rdC (l : List UInt8) : List UInt8 := (l.drop 12).take 4
def rdP (l : List UInt8) : List UInt8 := (l.drop 16).take (rdN l)
def rdE (l : List UInt8) : Nat :=
  if l.length < 16 then 8 else if ¬ (1 ≤ rdN l ∧ rdN l ≤ 4096 ∧ rdQ l < 1048576) then 4 else if l.length < 16 + rdN l then 8 else if fourL (sumW (l.take 12) (rdP l)) = rdC l then 0 else 42
/-- how many bytes are taken -/
def rdK (l : List UInt8) : Nat := 16 + rdN l
theorem rd_zero {l : List UInt8} (h : rdE l = 0) : 16 + rdN l ≤ l.length ∧ 1 ≤ rdN l ∧ rdN l ≤ 4096 ∧ rdQ l < 1048576 ∧ fourL (sumW (l.take 12) (rdP l)) = rdC l := by
  unfold rdE at h
  by_cases h1 : l.length < 16
  · rw [if_pos h1] at h; cases h
  · rw [if_neg h1] at h
    by_cases h2 : 1 ≤ rdN l ∧ rdN l ≤ 4096 ∧ rdQ l < 1048576
    · rw [if_neg (fun k => k h2)] at h
      by_cases h3 : l.length < 16 + rdN l
      · rw [if_pos h3] at h; cases h
      · rw [if_neg h3] at h
        by_cases h4 : fourL (sumW (l.take 12) (rdP l)) = rdC l
        · exact ⟨by omega, h2.1, h2.2.1, h2.2.2, h4⟩
        · rw [if_neg h4] at h; cases h
    · rw [if_pos h2] at h; cases h
theorem rdP_length {l : List UInt8} (h : 16 + rdN l ≤ l.length) : (rdP l).length = rdN l := by
  unfold rdP; rw [List.length_take, List.length_drop]; omega
/-- twelve bytes are a head -/
theorem head_of {l : List UInt8} (h : 12 ≤ l.length) : headB (rdN l) (rdQ l) = l.take 12 := by
  unfold headB rdN rdQ
  rw [fixB_be 4 _ (by rw [List.length_take]; omega), fixB_be 8 _ (by rw [List.length_take, List.length_drop]; omega)]
  rw [show (12 : Nat) = 4 + 8 from rfl, List.take_add]
/-- **just one way to say it** -/
theorem rd_back {l : List UInt8} (h : rdE l = 0) : frB (rdQ l) (rdP l) = l.take (rdK l) ∧ mkE (rdQ l : Int) (rdP l) = 0 := by
  obtain ⟨h1, h2, h3, h4, h5⟩ := rd_zero h
  have hp := rdP_length h1
  refine ⟨?_, mkE_ok (by omega) (by omega) (by omega) (by omega)⟩
  unfold frB rdK
  rw [hp, head_of (by omega), h5]
  unfold rdC rdP
  rw [show 16 + rdN l = 12 + (4 + rdN l) by omega, List.take_add, List.take_add (i := 4), List.drop_drop]

theorem take_front {a b : List UInt8} {n : Nat} (h : a.length = n) : (a ++ b).take n = a := by rw [← h, List.take_left]
theorem drop_front {a b : List UInt8} {n : Nat} (h : a.length = n) : (a ++ b).drop n = b := by rw [← h, List.drop_left]
theorem fr_take12 (q : Nat) (p m : List UInt8) : (frB q p ++ m).take 12 = headB p.length q := by
  unfold frB; rw [List.append_assoc, take_front (headB_length _ _)]
theorem fr_parts (q : Nat) (p m : List UInt8) (hq : q < 1048576) (hp : p.length ≤ 4096) :
    rdN (frB q p ++ m) = p.length ∧ rdQ (frB q p ++ m) = q ∧ rdC (frB q p ++ m) = fourL (sumW (headB p.length q) p) ∧ rdP (frB q p ++ m) = p := by
  have hn : rdN (frB q p ++ m) = p.length := by
    unfold rdN frB headB
    rw [List.append_assoc, List.append_assoc, take_front (fixB_length _ _), be_fixB, Nat.mod_eq_of_lt (by omega)]
  refine ⟨hn, ?_, ?_, ?_⟩
  · unfold rdQ frB headB
    rw [List.append_assoc, List.append_assoc, drop_front (fixB_length _ _), take_front (fixB_length _ _), be_fixB, Nat.mod_eq_of_lt (by omega)]
  · unfold rdC frB
    rw [List.append_assoc, drop_front (headB_length _ _), List.append_assoc, take_front (fourL_length _)]
  · unfold rdP; rw [hn]
    unfold frB
    rw [show (16 : Nat) = 12 + 4 from rfl, ← List.drop_drop, List.append_assoc, drop_front (headB_length _ _), List.append_assoc, drop_front (fourL_length _), take_front rfl]
/-- **what is made is read** -/
theorem rd_fr (q : Nat) (p m : List UInt8) (hq : q < 1048576) (h1 : 1 ≤ p.length) (hp : p.length ≤ 4096) : rdE (frB q p ++ m) = 0 := by
  obtain ⟨a, b, c, d⟩ := fr_parts q p m hq hp
  have hl : (frB q p ++ m).length = 16 + p.length + m.length := by rw [List.length_append, frB_length]
  unfold rdE
  rw [if_neg (by omega), a, b, c, d, if_neg (by omega), if_neg (by omega), fr_take12, if_pos rfl]
/-- cut short it is not -/
theorem rd_cut (q : Nat) (p : List UInt8) (k : Nat) (hq : q < 1048576) (h1 : 1 ≤ p.length) (hp : p.length ≤ 4096) (hk : k < 16 + p.length) : rdE ((frB q p).take k) = 8 := by
  have hl : ((frB q p).take k).length = k := by rw [List.length_take, frB_length]; omega
  unfold rdE
  by_cases h16 : k < 16
  · rw [hl, if_pos h16]
  · obtain ⟨a, b, _, _⟩ := fr_parts q p [] hq hp
    rw [List.append_nil] at a b
    have a' : rdN ((frB q p).take k) = p.length := by
      rw [← a]; unfold rdN; rw [List.take_take, Nat.min_eq_left (by omega)]
    have b' : rdQ ((frB q p).take k) = q := by
      conv => rhs; rw [← b]
      unfold rdQ; rw [List.drop_take, List.take_take, Nat.min_eq_left (by omega)]
    rw [hl, if_neg h16, a', b', if_neg (by omega), if_pos hk]

/-! ### scanning -/
structure Fr where
  q : Nat
  p : List UInt8
  i : Nat
deriving DecidableEq
/-- all frames of bytes that stand at a place, whatever their numbers -/
def allF : Nat → List UInt8 → Nat → List Fr
  | 0, _, _ => []
  | k + 1, l, i => if rdE l = 0 then ⟨rdQ l, rdP l, i⟩ :: allF k (l.drop (rdK l)) (i + rdK l) else []
/-- what stands behind them -/
def restF : Nat → List UInt8 → List UInt8
  | 0, l => l
  | k + 1, l => if rdE l = 0 then restF k (l.drop (rdK l)) else l
/-- those that are numbered on -/
def pref : Int → List Fr → List Fr
  | _, [] => []
  | first, f :: r => if (f.q : Int) = first then f :: pref (first + 1) r else []
def bytesOf : List Fr → Nat
  | [] => 0
  | f :: r => 16 + f.p.length + bytesOf r
def scanF (l : List UInt8) (i : Nat) (first : Int) : List Fr := pref first (allF l.length l i)
theorem rdE_nil : rdE [] = 8 := rfl
theorem rdK_le {l : List UInt8} (h : rdE l = 0) : 17 ≤ rdK l ∧ rdK l ≤ l.length := by
  obtain ⟨h1, h2, _⟩ := rd_zero h; unfold rdK; omega
/-- more rounds than bytes tell no more -/
theorem allF_more : ∀ (k : Nat) (l : List UInt8) (i : Nat), l.length ≤ k → allF k l i = allF l.length l i
  | 0, l, i, h => by rw [List.eq_nil_of_length_eq_zero (Nat.le_zero.1 h)]; rfl
  | k + 1, l, i, h => by
    by_cases h0 : rdE l = 0
    · have hk := rdK_le h0
      obtain ⟨n, hn⟩ : ∃ n, l.length = n + 1 := ⟨l.length - 1, by omega⟩
      have hd : (l.drop (rdK l)).length ≤ n := by rw [List.length_drop]; omega
      rw [hn, allF, allF, if_pos h0, if_pos h0, allF_more k _ _ (by omega), allF_more n _ _ hd]
    · rw [allF, if_neg h0]
      cases hn : l.length with
      | zero => rfl
      | succ n => rw [allF, if_neg h0]
theorem all_step {l : List UInt8} {i : Nat} (h : rdE l = 0) : allF l.length l i = ⟨rdQ l, rdP l, i⟩ :: allF (l.drop (rdK l)).length (l.drop (rdK l)) (i + rdK l) := by
  have hk := rdK_le h
  obtain ⟨n, hn⟩ : ∃ n, l.length = n + 1 := ⟨l.length - 1, by omega⟩
  have hd : (l.drop (rdK l)).length ≤ n := by rw [List.length_drop]; omega
  rw [hn, allF, if_pos h, allF_more n _ _ hd]
theorem all_none {l : List UInt8} {i : Nat} (h : ¬ rdE l = 0) : allF l.length l i = [] := by
  cases hn : l.length with
  | zero => rfl
  | succ n => rw [allF, if_neg h]
theorem scan_step {l : List UInt8} {i : Nat} {first : Int} (h : rdE l = 0) (hf : (rdQ l : Int) = first) : scanF l i first = ⟨rdQ l, rdP l, i⟩ :: scanF (l.drop (rdK l)) (i + rdK l) (first + 1) := by
  unfold scanF; rw [all_step h, pref, if_pos hf]
theorem scan_none {l : List UInt8} {i : Nat} {first : Int} (h : ¬ (rdE l = 0 ∧ (rdQ l : Int) = first)) : scanF l i first = [] := by
  unfold scanF
  by_cases h0 : rdE l = 0
  · rw [all_step h0, pref, if_neg (fun e => h ⟨h0, e⟩)]
  · rw [all_none h0]; rfl
theorem bytes_append (a b : List Fr) : bytesOf (a ++ b) = bytesOf a + bytesOf b := by
  induction a with
  | nil => simp [bytesOf]
  | cons x r ih => simp only [List.cons_append, bytesOf, ih]; omega

/-! ### rows of frames -/
/-- frames of payloads, numbered on -/
def rowB : Nat → List (List UInt8) → List UInt8
  | _, [] => []
  | q, p :: r => frB q p ++ rowB (q + 1) r
def rowF : Nat → Nat → List (List UInt8) → List Fr
  | _, _, [] => []
  | q, i, p :: r => ⟨q, p, i⟩ :: rowF (q + 1) (i + (16 + p.length)) r
def okP (q : Nat) (ps : List (List UInt8)) : Prop := q + ps.length ≤ 1048576 ∧ ∀ p ∈ ps, 1 ≤ p.length ∧ p.length ≤ 4096
theorem okP.cons {q : Nat} {p : List UInt8} {r : List (List UInt8)} (h : okP q (p :: r)) : q < 1048576 ∧ 1 ≤ p.length ∧ p.length ≤ 4096 ∧ okP (q + 1) r := by
  obtain ⟨h1, h2⟩ := h
  rw [List.length_cons] at h1
  exact ⟨by omega, (h2 p (List.mem_cons_self ..)).1, (h2 p (List.mem_cons_self ..)).2, ⟨by omega, fun x hx => h2 x (List.mem_cons_of_mem _ hx)⟩⟩
theorem scan_fr (q : Nat) (p m : List UInt8) (i : Nat) (hq : q < 1048576) (h1 : 1 ≤ p.length) (hp : p.length ≤ 4096) :
    scanF (frB q p ++ m) i (q : Int) = ⟨q, p, i⟩ :: scanF m (i + (16 + p.length)) ((q : Int) + 1) := by
  obtain ⟨a, b, _, d⟩ := fr_parts q p m hq hp
  have hk : rdK (frB q p ++ m) = 16 + p.length := by unfold rdK; rw [a]
  rw [scan_step (rd_fr q p m hq h1 hp) (by rw [b]), b, d, hk, drop_front (frB_length q p)]
/-- **scanned as they are, whatever stands behind** -/
theorem scan_row : ∀ (ps : List (List UInt8)) (q i : Nat) (m : List UInt8), okP q ps → scanF (rowB q ps ++ m) i (q : Int) = rowF q i ps ++ scanF m (i + (rowB q ps).length) ((q + ps.length : Nat) : Int)
  | [], q, i, m, _ => by simp [rowB, rowF]
  | p :: r, q, i, m, h => by
    obtain ⟨h1, h2, h3, h4⟩ := h.cons
    have ih := scan_row r (q + 1) (i + (16 + p.length)) m h4
    rw [rowB, List.append_assoc, scan_fr q p _ i h1 h2 h3, rowF, List.cons_append]
    rw [show ((q : Int) + 1) = ((q + 1 : Nat) : Int) by omega, ih]
    congr 2
    rw [List.length_append, frB_length, List.length_cons]
    congr 1 <;> omega
theorem scan_nil (i : Nat) (first : Int) : scanF [] i first = [] := rfl
/-- how many are whole in so many bytes -/
def wholeN : List (List UInt8) → Nat → Nat
  | [], _ => 0
  | p :: r, k => if 16 + p.length ≤ k then 1 + wholeN r (k - (16 + p.length)) else 0
theorem wholeN_le : ∀ (ps : List (List UInt8)) (k : Nat), wholeN ps k ≤ ps.length
  | [], _ => Nat.le_refl _
  | p :: r, k => by
    have := wholeN_le r (k - (16 + p.length))
    unfold wholeN; rw [List.length_cons]; split <;> omega
/-- **cut short: those that are whole** -/
theorem scan_cut : ∀ (ps : List (List UInt8)) (q i k : Nat), okP q ps → scanF ((rowB q ps).take k) i (q : Int) = rowF q i (ps.take (wholeN ps k))
  | [], q, i, k, _ => by simp [rowB, rowF, scan_nil, wholeN]
  | p :: r, q, i, k, h => by
    obtain ⟨h1, h2, h3, h4⟩ := h.cons
    have ih := scan_cut r (q + 1) (i + (16 + p.length)) (k - (16 + p.length)) h4
    rw [rowB, wholeN]
    by_cases hk : 16 + p.length ≤ k
    · rw [if_pos hk, List.take_append, frB_length, List.take_of_length_le (by rw [frB_length]; exact hk), scan_fr q p _ i h1 h2 h3, Nat.add_comm 1, List.take_succ_cons, rowF]
      rw [show ((q : Int) + 1) = ((q + 1 : Nat) : Int) by omega, ih]
    · rw [if_neg hk, List.take_append, frB_length, show k - (16 + p.length) = 0 by omega, List.take_zero, List.append_nil, List.take_zero, rowF]
      exact scan_none (fun hz => by have := rd_cut q p k h1 h2 h3 (by omega); omega)
theorem rowB_append : ∀ (a b : List (List UInt8)) (q : Nat), rowB q (a ++ b) = rowB q a ++ rowB (q + a.length) b
  | [], b, q => by simp [rowB]
  | p :: r, b, q => by
    rw [List.cons_append, rowB, rowB, rowB_append r b (q + 1), List.append_assoc, List.length_cons]
    congr 3; omega
theorem rowB_length : ∀ (ps : List (List UInt8)) (q r : Nat), (rowB q ps).length = (rowB r ps).length
  | [], _, _ => rfl
  | p :: t, q, r => by rw [rowB, rowB, List.length_append, List.length_append, frB_length, frB_length, rowB_length t (q + 1) (r + 1)]
theorem rowF_length : ∀ (ps : List (List UInt8)) (q i : Nat), (rowF q i ps).length = ps.length
  | [], _, _ => rfl
  | p :: t, q, i => by rw [rowF, List.length_cons, List.length_cons, rowF_length t]
theorem rowF_at : ∀ (ps : List (List UInt8)) (q i j : Nat) (h : j < ps.length), (rowF q i ps)[j]? = some ⟨q + j, ps[j], i + (rowB q (ps.take j)).length⟩
  | [], _, _, j, h => by simp at h
  | p :: t, q, i, 0, _ => by simp [rowF, rowB]
  | p :: t, q, i, j + 1, h => by
    rw [rowF, List.getElem?_cons_succ, rowF_at t (q + 1) (i + (16 + p.length)) j (by simpa using h)]
    rw [List.getElem_cons_succ, List.take_succ_cons, rowB, List.length_append, frB_length]
    congr 2 <;> omega
theorem bytesOf_row : ∀ (ps : List (List UInt8)) (q i : Nat), bytesOf (rowF q i ps) = (rowB q ps).length
  | [], _, _ => rfl
  | p :: t, q, i => by rw [rowF, rowB, bytesOf, List.length_append, frB_length, bytesOf_row t]

/-! ### the checksum as bytes -/
theorem fourL_low (c : W) : fourL c = lowB c.toNat := by
  unfold fourL lowB fixB fixB fixB fixB fixB
  simp only [List.nil_append, List.cons_append, List.reverse_cons, List.reverse_nil]
  have := c.isLt
  have e : ∀ x : Nat, UInt8.ofNat (x % 256) = UInt8.ofNat x := fun x => by
    apply UInt8.toNat_inj.1; rw [UInt8.toNat_ofNat', UInt8.toNat_ofNat', Nat.mod_mod]
  rw [e, e, e, e, Nat.div_div_eq_div_mul, Nat.div_div_eq_div_mul]
theorem fourL_inj {a b : W} (h : fourL a = fourL b) : a = b := by
  have h2 : fixB 4 a.toNat = fixB 4 b.toNat := by
    rw [fourL_low, fourL_low] at h
    unfold lowB at h
    exact List.reverse_inj.1 h
  have h3 : be (fixB 4 a.toNat) = be (fixB 4 b.toNat) := by rw [h2]
  rw [be_fixB, be_fixB, Nat.mod_eq_of_lt (by have := a.isLt; omega), Nat.mod_eq_of_lt (by have := b.isLt; omega)] at h3
  exact BitVec.eq_of_toNat_eq h3
/-- what four bytes tell, the lowest first -/
theorem low_iff (c : W) (l : List UInt8) (h : l.length = 4) : (c.toNat = revN (be l)) ↔ fourL c = l := by
  have hb : be l < 4294967296 := be_lt 4 l h
  constructor
  · intro e
    rw [fourL_low, e]
    unfold lowB
    rw [fix_rev, List.reverse_reverse, fixB_be 4 l h]
  · intro e
    rw [← e, fourL_low]
    unfold lowB
    have h2 : (fixB 4 c.toNat).reverse = fixB 4 (revN c.toNat) := (fix_rev c.toNat).symm
    rw [h2, be_fixB, Nat.mod_eq_of_lt (rev_lt _), rev_rev _ (by have := c.isLt; omega)]
end Go.Proofs.Ytkjnddgjnlbopaa.Frame

/-
  The walks of Size, mayNumber, checksum, Make.
-/
namespace Go.Proofs.Ytkjnddgjnlbopaa.Frame
open Go Go.RowKit
open Go.Proofs.Ytkjnddgjnlbopaa.Crc (W V ofW addW fourL add_append of_any add_any)
open Go.Proofs.Ytkjnddgjnlbopaa.Wire (fixB be S S_list S_size lowB U Wr Only u32_any u64_any low_any raw_any bytes_any)

/-- how many bytes a frame has whose payload has n -/
def szI (n : Int) : Int := if 1 ≤ n ∧ n ≤ 4096 then 16 + n else 0
theorem Size_any (n : Int) (w : World) :
    Calls Try.prog 36 #[.int .i64 n] w fun e w' => e = .returned (.int .i64 (szI n)) ∧ w = w' := by
  by_cases h1 : n < 1
  · have hs : szI n = 0 := if_neg (by omega)
    rw [hs]
    go_enter Try.func36, Try.ntmps36
    go_wp2_with fail
    go_ret
    exact ⟨rfl, rfl⟩
  · by_cases h2 : 4096 < n
    · have hs : szI n = 0 := if_neg (by omega)
      rw [hs]
      go_enter Try.func36, Try.ntmps36
      go_wp2_with fail
      go_ret
      exact ⟨rfl, rfl⟩
    · have hs : szI n = 16 + n := if_pos (by omega)
      have hw : IntKind.i64.wrap (16 + n) = 16 + n := IntWalk.i64_in _ (by omega)
      rw [hs]
      go_enter Try.func36, Try.ntmps36
      go_wp2_with fail
      go_ret
      exact ⟨rfl, rfl⟩
/-- may it be a number -/
def mayQ (q : Int) : Bool := decide (0 ≤ q ∧ q < 1048576)
theorem mayNumber_any (q : Int) (w : World) :
    Calls Try.prog 52 #[.int .i64 q] w fun e w' => e = .returned (.bool (mayQ q)) ∧ w = w' := by
  by_cases h1 : 0 ≤ q
  · by_cases h2 : q < 1048576
    · have hs : mayQ q = true := decide_eq_true ⟨h1, h2⟩
      rw [hs]
      go_enter Try.func52, Try.ntmps52
      go_wp2_with fail
      go_ret
      exact ⟨rfl, rfl⟩
    · have hs : mayQ q = false := decide_eq_false (fun h => h2 h.2)
      rw [hs]
      go_enter Try.func52, Try.ntmps52
      go_wp2_with fail
      go_ret
      exact ⟨rfl, rfl⟩
  · have hs : mayQ q = false := decide_eq_false (fun h => h1 h.1)
    rw [hs]
    go_enter Try.func52, Try.ntmps52
    go_wp2_with fail
    go_ret
    exact ⟨rfl, rfl⟩
theorem sum_two (h p : List UInt8) : addW (ofW h) p = sumW h p := by unfold sumW ofW; rw [add_append]
theorem checksum_any (s t : ByteArray) (w : World) (hs : s.size ≤ maxLen) (ht : t.size ≤ maxLen) :
    Calls Try.prog 54 #[.string s, .string t] w fun e w' => e = .returned (.int .u32 (V (sumW s.data.toList t.data.toList))) ∧ Below w.heap.size w w' := by
  have HS := Lib.hid hs
  have HT := Lib.hid ht
  clear hs ht
  go_enter Try.func54, Try.ntmps54
  go_wp2_with fail
  refine (of_any s w HS.out).mono ?_
  rintro e w1 ⟨rfl, hb1⟩
  have HB1 := Lib.hid hb1; clear hb1
  go_wp2_with fail
  refine (add_any (ofW s.data.toList) t _ rfl w1 HT.out).mono ?_
  rintro e w2 ⟨rfl, hb2⟩
  have HB2 := Lib.hid hb2; clear hb2
  rw [sum_two]
  go_wp2_with fail
  go_ret
  exact ⟨rfl, HB1.out.trans (HB2.out.mono HB1.out.size)⟩
theorem U_V (c : W) : V c = U c.toNat := rfl
/-- what Make tells -/
def mkV (q : Int) (s : ByteArray) : Ending := .returned (.tuple #[.string (S (mkB q s.data.toList)), .int .i64 (mkE q s.data.toList : Int)])
theorem s_len (s : ByteArray) : s.data.toList.length = s.size := by simp
set_option maxRecDepth 100000 in
set_option maxHeartbeats 1000000 in
theorem Make_any (q : Int) (s : ByteArray) (hs : s.size ≤ 1000000000000) (w : World) :
    Calls Try.prog 28 #[.int .i64 q, .string s] w fun e w' => e = mkV q s ∧ Below w.heap.size w w' := by
  have HMQ := fun W => mayNumber_any q W
  have HB0 := Lib.hid (Below.refl w.heap.size w)
  have HL := Lib.hid (s_len s)
  by_cases hq : 0 ≤ q ∧ q < 1048576
  · have hm : mayQ q = true := decide_eq_true hq
    by_cases h0 : s.size = 0
    · have hV : mkV q s = .returned (.tuple #[.string ByteArray.empty, .int .i64 4]) := by
        unfold mkV mkB mkE; rw [if_pos hq, s_len, if_pos h0]; rfl
      have HV := Lib.hid hV
      have he : s = ⟨#[]⟩ := by
        have := s_len s; rw [h0] at this
        have := List.eq_nil_of_length_eq_zero this
        cases s with | mk d => cases d with | mk l => simp at this; subst this; rfl
      subst he
      clear hV
      rw [hm] at HMQ
      go_enter Try.func28, Try.ntmps28
      go_wp2_with (go_at_call 52; refine (HMQ _).mono ?_; rintro e w1 ⟨rfl, rfl⟩)
      go_ret2
      exact ⟨HV.out.symm, HB0.out⟩
    · have hne : ¬ s.toList = [] := fun h => h0 (by rw [ByteArray.toList_eq] at h; rw [← s_len, h]; rfl)
      have hne2 : (s.toList == []) = false := beq_eq_false_iff_ne.2 hne
      by_cases h1 : 4096 < s.size
      · have hV : mkV q s = .returned (.tuple #[.string ByteArray.empty, .int .i64 40]) := by
          unfold mkV mkB mkE; rw [if_pos hq, s_len, if_neg h0, if_pos h1]; rfl
        have HV := Lib.hid hV
        clear hV
        rw [hm] at HMQ
        go_enter Try.func28, Try.ntmps28
        go_wp2_with (go_at_call 52; refine (HMQ _).mono ?_; rintro e w1 ⟨rfl, rfl⟩)
        go_ret2
        exact ⟨HV.out.symm, HB0.out⟩
      · have hE : mkE q s.data.toList = 0 := mkE_ok hq.1 hq.2 (by rw [s_len]; omega) (by rw [s_len]; omega)
        have hV : mkV q s = .returned (.tuple #[.string (S (frB q.toNat s.data.toList)), .int .i64 0]) := by
          unfold mkV mkB; rw [if_pos hE, hE]; rfl
        have HV := Lib.hid hV
        have w1 : IntKind.u32.wrap (s.size : Int) = U s.size := by rw [IntKind.wrap_u32]; unfold U; omega
        have w2 : IntKind.u64.wrap q = U q.toNat := by rw [IntKind.wrap_u64]; unfold U; omega
        have w3 : (s.size : Int) % 4294967296 = U s.size := by unfold U; omega
        have w4 : q % 18446744073709551616 = U q.toNat := by unfold U; omega
        have HN1 : Hid (s.size < 4294967296) := Lib.hid (by omega)
        have HS := Lib.hid (show s.size ≤ 4096 by omega)
        have HWN := Lib.hid (Wr.new (w := w) (Nat.le_refl _))
        have HON := Lib.hid ((Only.refl w.heap.size w).alloc (Nat.le_refl _) (.cells #[.pointer none, .int .i64 0] 65))
        clear hV hE
        rw [hm] at HMQ
        go_enter Try.func28, Try.ntmps28
        go_wp2_with (go_at_call 52; refine (HMQ _).mono ?_; rintro e w1 ⟨rfl, rfl⟩)
        refine (u32_any _ _ _ _ s.size HWN.out (by decide) _ rfl HN1).mono ?_
        rintro e W1 ⟨rfl, hw1, ho1⟩
        replace HON := Lib.hid (HON.out.trans ho1)
        replace HWN := Lib.hid hw1
        clear hw1 ho1
        go_wp2_with fail
        refine (u64_any _ _ _ _ q.toNat HWN.out (by rw [List.nil_append, Wire.fixB_length]; decide) _ rfl).mono ?_
        rintro e W2 ⟨rfl, hw1, ho1⟩
        replace HON := Lib.hid (HON.out.trans ho1)
        replace HWN := Lib.hid hw1
        clear hw1 ho1
        have hhd : [] ++ fixB 4 s.size ++ fixB 8 q.toNat = headB s.data.toList.length q.toNat := by rw [s_len]; rfl
        rw [hhd] at HWN
        clear hhd
        go_wp2_with fail
        refine (bytes_any _ _ _ _ HWN.out).mono ?_
        rintro e w' ⟨rfl, nq, rfl⟩
        go_wp2_with fail
        refine (checksum_any (S (headB s.data.toList.length q.toNat)) s _ (by rw [S_size, headB_length]; decide) (by have := HS.out; unfold maxLen; omega)).mono ?_
        rintro e W3 ⟨rfl, hb⟩
        rw [S_list]
        have HO3 := Lib.hid ((HON.out.drewN nq).trans (Only.of_below hb (HON.out.drewN nq).below.size))
        have HW3 := Lib.hid ((HWN.out.drewN nq).below hb)
        clear HON HWN hb
        generalize hc : sumW (headB s.data.toList.length q.toNat) s.data.toList = c
        have HC := Lib.hid hc
        clear hc
        have HCL : Hid (c.toNat < 4294967296) := Lib.hid c.isLt
        go_wp2_with fail
        refine (low_any _ _ _ _ c.toNat HW3.out (by rw [headB_length]; decide) _ rfl HCL).mono ?_
        rintro e W4 ⟨rfl, hw1, ho1⟩
        replace HO3 := Lib.hid (HO3.out.trans ho1)
        replace HW3 := Lib.hid hw1
        clear hw1 ho1
        go_wp2_with fail
        refine (raw_any _ _ _ _ s HW3.out (by have := HS.out; rw [List.length_append, headB_length, Wire.lowB_length]; omega)).mono ?_
        rintro e W5 ⟨rfl, hw1, ho1⟩
        replace HO3 := Lib.hid (HO3.out.trans ho1)
        replace HW3 := Lib.hid hw1
        clear hw1 ho1
        go_wp2_with fail
        refine (bytes_any _ _ _ _ HW3.out).mono ?_
        rintro e w' ⟨rfl, nr, rfl⟩
        have HF : Hid (headB s.data.toList.length q.toNat ++ lowB c.toNat ++ s.data.toList = frB q.toNat s.data.toList) := by
          refine Lib.hid ?_
          unfold frB; rw [HC.out, fourL_low, List.append_assoc]
        rw [HF.out]
        go_wp2_with fail
        go_ret2
        exact ⟨HV.out.symm, (HO3.out.drewN nr).below⟩
  · have hm : mayQ q = false := decide_eq_false hq
    have hV : mkV q s = .returned (.tuple #[.string ByteArray.empty, .int .i64 1]) := by
      unfold mkV mkB mkE; rw [if_neg hq]; rfl
    have HV := Lib.hid hV
    clear hV
    rw [hm] at HMQ
    go_enter Try.func28, Try.ntmps28
    go_wp2_with (go_at_call 52; refine (HMQ _).mono ?_; rintro e w1 ⟨rfl, rfl⟩)
    go_ret2
    exact ⟨HV.out.symm, HB0.out⟩
end Go.Proofs.Ytkjnddgjnlbopaa.Frame

/-
  The walk of Read.
-/
namespace Go.Proofs.Ytkjnddgjnlbopaa.Frame
open Go Go.RowKit
open Go.Proofs.Ytkjnddgjnlbopaa.Crc (W V ofW fourL)
open Go.Proofs.Ytkjnddgjnlbopaa.Wire (be fixB S S_list S_size U Rd Step rdS fxV tkT tkI tkE errAt new_any ru32_any ru64_any rlow_any rraw_any err_any at_any grown_below grown_trans revN cell_row frozen_row be_lt)

/-- a frame as a value -/
def frV (q : Int) (p : List UInt8) (i : Int) : Value := .agg #[.int .i64 q, .string (S p), .int .i64 i]
/-- what Read tells -/
def rdV (s : ByteArray) (i : Int) : Value :=
  if 0 ≤ i ∧ i ≤ s.size then
    (if rdE (s.data.toList.drop i.toNat) = 0 then .tuple #[frV (rdQ (s.data.toList.drop i.toNat)) (rdP (s.data.toList.drop i.toNat)) i, .int .i64 (i + rdK (s.data.toList.drop i.toNat)), .int .i64 0]
     else .tuple #[frV 0 [] 0, .int .i64 0, .int .i64 (rdE (s.data.toList.drop i.toNat) : Int)])
  else .tuple #[frV 0 [] 0, .int .i64 0, .int .i64 1]
theorem S_of (s : ByteArray) : S s.data.toList = s := rfl
theorem S_drop (l : List UInt8) (n : Nat) : (S l).extract n (S l).size = S (l.drop n) := by
  apply ByteArray.ext
  apply Array.ext'
  rw [ByteArray.data_extract, S_size]
  simp [S, List.take_of_length_le]
theorem S_mid (l : List UInt8) (a b : Nat) : (S l).extract a b = S ((l.drop a).take (b - a)) := by
  apply ByteArray.ext
  apply Array.ext'
  rw [ByteArray.data_extract]
  simp [S, List.drop_take]
theorem slice_from (s : ByteArray) (k : Nat) (h : k ≤ s.size) (W : World) : (Instr.slice 9 (.string s) (some (.int .i64 (k : Int))) none none).run Try.prog W = .ok (.string (S (s.data.toList.drop k))) W := by
  have y0 : (0 : Int) ≤ (k : Int) := by omega
  have y1 : (k : Int) ≤ (s.size : Int) := by omega
  have e : s.extract k s.size = S (s.data.toList.drop k) := S_drop s.data.toList k
  rw [← e]
  go_simp
theorem slice_mid (s : ByteArray) (a b : Nat) (h1 : a ≤ b) (h2 : b ≤ s.size) (W : World) : (Instr.slice 9 (.string s) (some (.int .i64 (a : Int))) (some (.int .i64 (b : Int))) none).run Try.prog W = .ok (.string (S ((s.data.toList.drop a).take (b - a)))) W := by
  have y0 : (0 : Int) ≤ (a : Int) := by omega
  have y1 : (a : Int) ≤ (b : Int) := by omega
  have y2 : (b : Int) ≤ (s.size : Int) := by omega
  have e : s.extract a b = S ((s.data.toList.drop a).take (b - a)) := S_mid s.data.toList a b
  rw [← e]
  go_simp

/-! ### what the Reader has read of the bytes from the place on -/
theorem tk_list (T : List UInt8) (i n : Nat) (h : i + n ≤ T.length) : (tkT (S T) i 0 n).data.toList = (T.drop i).take n := by
  unfold tkT
  rw [if_pos ⟨rfl, by rw [S_size]; exact h⟩, S_mid, S_list, Nat.add_sub_cancel_left]
theorem short3 (s : ByteArray) (h : s.size < 16) : tkE s (tkI s (tkI s 0 0 4) (tkE s 0 0 4) 8) (tkE s (tkI s 0 0 4) (tkE s 0 0 4) 8) 4 = 8 := by
  unfold tkE tkI
  by_cases h1 : 0 + 4 ≤ s.size
  · by_cases h2 : 4 + 8 ≤ s.size
    · simp [h1, h2, show 4 ≤ s.size by omega, show 12 ≤ s.size by omega, show ¬ 16 ≤ s.size by omega]
    · simp [show 4 ≤ s.size by omega, show ¬ 12 ≤ s.size by omega]
  · simp [show ¬ 4 ≤ s.size by omega]
theorem le3 (s : ByteArray) : tkI s 0 0 4 ≤ s.size ∧ tkI s (tkI s 0 0 4) (tkE s 0 0 4) 8 ≤ s.size ∧ tkI s (tkI s (tkI s 0 0 4) (tkE s 0 0 4) 8) (tkE s (tkI s 0 0 4) (tkE s 0 0 4) 8) 4 ≤ s.size := by
  have key : ∀ i e n, i ≤ s.size → tkI s i e n ≤ s.size := fun i e n h => by unfold tkI; split <;> omega
  exact ⟨key _ _ _ (Nat.zero_le _), key _ _ _ (key _ _ _ (Nat.zero_le _)), key _ _ _ (key _ _ _ (key _ _ _ (Nat.zero_le _)))⟩
theorem long3 (s : ByteArray) (h : 16 ≤ s.size) : tkI s 0 0 4 = 4 ∧ tkE s 0 0 4 = 0 ∧ tkI s 4 0 8 = 12 ∧ tkE s 4 0 8 = 0 ∧ tkI s 12 0 4 = 16 ∧ tkE s 12 0 4 = 0 := by
  unfold tkI tkE
  simp [show 4 ≤ s.size by omega, show 12 ≤ s.size by omega, h]

theorem zero_fr : frV 0 [] 0 = .agg #[.int .i64 0, .string ⟨#[]⟩, .int .i64 0] := rfl
/-- the box of the frame that is told -/
def FBx (w : World) (b : Nat) : Prop := w.heap[b]? = some (.cells #[.int .i64 0, .string ⟨#[]⟩, .int .i64 0] 51 (0, 0))
theorem FBx.facts {w : World} {b : Nat} (h : FBx w b) : (w.cell? ⟨b, 0, none⟩ = some (.int .i64 0) ∧ w.cell? ⟨b, 1, none⟩ = some (.string ⟨#[]⟩) ∧ w.cell? ⟨b, 2, none⟩ = some (.int .i64 0)) ∧ w.frozen? ⟨b, 0, none⟩ = false ∧ w.frozen? ⟨b, 1, none⟩ = false ∧ w.frozen? ⟨b, 2, none⟩ = false :=
  ⟨⟨cell_row h 0, cell_row h 1, cell_row h 2⟩, frozen_row h 0, frozen_row h 1, frozen_row h 2⟩
theorem FBx.grown {w w' : World} {b r : Nat} (h : FBx w b) (g : w.grownBy w' (some r)) (hne : b ≠ r) : FBx w' b := (g.block b (Wire.row_lt h) (fun e => hne (by injection e))).trans h
/-- what stood below stays -/
theorem below_grown {n : Nat} {a b c : World} {r : Nat} (h : Below n a b) (g : b.grownBy c (some r)) (hr : n ≤ r) (hn : n ≤ b.heap.size) : Below n a c :=
  h.trans ⟨g.os, g.tape, g.output, g.size, fun k hk => g.block k (by omega) (fun e => by injection e with e; omega)⟩

set_option maxRecDepth 100000 in
set_option maxHeartbeats 2000000 in
theorem Read_no (s : ByteArray) (i : Int) (h : ¬ (0 ≤ i ∧ i ≤ s.size)) (w : World) :
    Calls Try.prog 27 #[.string s, .int .i64 i] w fun e w' => e = .returned (.tuple #[frV 0 [] 0, .int .i64 0, .int .i64 1]) ∧ Below w.heap.size w w' := by
  rw [zero_fr]
  by_cases h0 : i < 0
  · clear h
    go_enter Try.func27, Try.ntmps27
    go_wp2_with fail
    refine bodyPost_ret (v := .tuple #[.agg #[.int .i64 0, .string ⟨#[]⟩, .int .i64 0], .int .i64 0, .int .i64 1]) (by simp [results, Try.results27, go_sem]) rfl ⟨rfl, ?_⟩
    exact (Below.refl _ _).alloc (Nat.le_refl _) _
  · have h1 : (s.size : Int) < i := by omega
    clear h
    go_enter Try.func27, Try.ntmps27
    go_wp2_with fail
    refine bodyPost_ret (v := .tuple #[.agg #[.int .i64 0, .string ⟨#[]⟩, .int .i64 0], .int .i64 0, .int .i64 1]) (by simp [results, Try.results27, go_sem]) rfl ⟨rfl, ?_⟩
    exact (Below.refl _ _).alloc (Nat.le_refl _) _
/-- the frame's box, written over -/
theorem FBx.store {w : World} {b : Nat} (h : FBx w b) (q : Int) (p : ByteArray) (i : Int) :
    (((w.setCell ⟨b, 0, none⟩ (.int .i64 q)).setCell ⟨b, 1, none⟩ (.string p)).setCell ⟨b, 2, none⟩ (.int .i64 i)).cell? ⟨b, 0, none⟩ = some (.int .i64 q) ∧
    (((w.setCell ⟨b, 0, none⟩ (.int .i64 q)).setCell ⟨b, 1, none⟩ (.string p)).setCell ⟨b, 2, none⟩ (.int .i64 i)).cell? ⟨b, 1, none⟩ = some (.string p) ∧
    (((w.setCell ⟨b, 0, none⟩ (.int .i64 q)).setCell ⟨b, 1, none⟩ (.string p)).setCell ⟨b, 2, none⟩ (.int .i64 i)).cell? ⟨b, 2, none⟩ = some (.int .i64 i) ∧
    (w.setCell ⟨b, 0, none⟩ (.int .i64 q)).cell? ⟨b, 0, none⟩ = some (.int .i64 q) ∧ ((w.setCell ⟨b, 0, none⟩ (.int .i64 q)).setCell ⟨b, 1, none⟩ (.string p)).cell? ⟨b, 1, none⟩ = some (.string p) := by
  have h1 := Wire.heap_set h 0 (.int .i64 q)
  have h2 := Wire.heap_set h1 1 (.string p)
  have h3 := Wire.heap_set h2 2 (.int .i64 i)
  exact ⟨cell_row h3 0, cell_row h3 1, cell_row h3 2, cell_row h1 0, cell_row h2 1⟩
theorem nat_ne {e : Nat} (h : ¬ e = 0) : ((e : Int) == 0) = false ∧ ((e : Int) != 0) = true ∧ (e == 0) = false ∧ (e != 0) = true ∧ ¬ (e : Int) = 0 := by
  refine ⟨beq_eq_false_iff_ne.2 (by omega), bne_iff_ne.2 (by omega), beq_eq_false_iff_ne.2 h, bne_iff_ne.2 h, by omega⟩

theorem mayQ_u (q : Nat) (h : q < 18446744073709551616) : mayQ (wrap64 (U q)) = decide (q < 1048576) := by
  have e : wrap64 (U q) = if q < 9223372036854775808 then (q : Int) else (q : Int) - 18446744073709551616 := by
    unfold wrap64 U; split <;> omega
  unfold mayQ
  rw [e]
  split
  · exact decide_eq_decide.2 (by omega)
  · rw [decide_eq_false (by omega), decide_eq_false (by omega)]
theorem wrapq (q : Nat) (h : q < 1048576) : wrap64 (U q) = (q : Int) := by unfold U; exact IntWalk.wrap64_in _ (by omega)
theorem szI_no {n : Nat} (h : ¬ (1 ≤ n ∧ n ≤ 4096)) : szI (n : Int) = 0 := if_neg (by omega)
theorem szI_yes {n : Nat} (h : 1 ≤ n ∧ n ≤ 4096) : szI (n : Int) = 16 + (n : Int) := if_pos (by omega)

set_option maxRecDepth 100000 in
set_option maxHeartbeats 4000000 in
theorem Read_at (s : ByteArray) (k : Nat) (h : k ≤ s.size) (hs : s.size ≤ 1000000000000) (T : List UInt8) (hT : s.data.toList.drop k = T) (w : World) :
    Calls Try.prog 27 #[.string s, .int .i64 (k : Int)] w fun e w' => (rdE T = 0 ∧ e = .returned (.tuple #[.agg #[.int .i64 (rdQ T : Int), .string (S (rdP T)), .int .i64 (k : Int)], .int .i64 ((k : Int) + rdK T), .int .i64 0]) ∨ ¬ rdE T = 0 ∧ e = .returned (.tuple #[.agg #[.int .i64 0, .string ⟨#[]⟩, .int .i64 0], .int .i64 0, .int .i64 (rdE T : Int)])) ∧ Below w.heap.size w w' := by
  have hsl := slice_from s k h
  rw [hT] at hsl
  have hTs : (S T).size ≤ 1000000000000 := by rw [S_size, ← hT, List.length_drop]; simp; omega
  have hTk : (S T).size = s.size - k := by rw [S_size, ← hT, List.length_drop]; simp
  have HTS := Lib.hid hTs
  have HTK := Lib.hid hTk
  have HK := Lib.hid h
  have HS := Lib.hid hs
  have y0 : decide ((k : Int) < 0) = false := decide_eq_false (by omega)
  have y1 : decide ((s.size : Int) < (k : Int)) = false := decide_eq_false (by omega)
  have y2 : decide (s.size < k) = false := decide_eq_false (by omega)
  have HT := Lib.hid hT
  have HLE := Lib.hid (le3 (S T))
  clear h hs hT hTs hTk
  obtain ⟨W0, hW0⟩ : ∃ W0, w.alloc (.cells #[.int .i64 0, .string ⟨#[]⟩, .int .i64 0] 51) = W0 := ⟨_, rfl⟩
  have HF := Lib.hid (show FBx W0 w.heap.size by rw [← hW0]; exact heap_alloc_new w _)
  have HB := Lib.hid (show Below w.heap.size w W0 by rw [← hW0]; exact (Below.refl _ _).alloc (Nat.le_refl _) _)
  have HZ := Lib.hid (show W0.heap.size = w.heap.size + 1 by rw [← hW0]; simp)
  go_enter Try.func27, Try.ntmps27
  go_wp2_with fail
  refine (new_any (S T) W0).mono ?_
  rintro e w1 ⟨rfl, rfl⟩
  have HR := Lib.hid (Rd.new (S T) W0)
  have HF1 := Lib.hid (show FBx (W0.alloc (.cells (rdS (S T) 0 0) 127)) w.heap.size from (((Below.refl W0.heap.size W0).alloc (Nat.le_refl _) _).block _ (by have := HZ.out; omega)).trans HF.out)
  have HB1 := Lib.hid (HB.out.alloc (by have := HZ.out; omega) (.cells (rdS (S T) 0 0) 127))
  have HG := Lib.hid (Wire.grown_refl (W0.alloc (.cells (rdS (S T) 0 0) 127)) W0.heap.size)
  obtain ⟨W1, hW1⟩ : ∃ W1, W0.alloc (.cells (rdS (S T) 0 0) 127) = W1 := ⟨_, rfl⟩
  rw [hW1] at HR HF1 HB1 HG ⊢
  have HZ1 := Lib.hid (show W1.heap.size = w.heap.size + 2 by rw [← hW1]; have := HZ.out; simp; omega)
  obtain ⟨r, hr⟩ : ∃ r, W0.heap.size = r := ⟨_, rfl⟩
  rw [hr] at HR HG HZ ⊢
  clear hW0 hW1 hr HF HB
  have HRN := Lib.hid (show w.heap.size ≠ r by have := HZ.out; omega)
  have HWR := Lib.hid (show w.heap.size ≤ r by have := HZ.out; omega)
  by_cases h16 : (S T).size < 16
  · have hE8 : rdE T = 8 := by unfold rdE; rw [if_pos (by rw [S_size] at h16; exact h16)]
    have HE8 := Lib.hid hE8
    have HSH := Lib.hid (short3 (S T) h16)
    clear hE8 h16
    go_wp2_with fail
    refine (ru32_any r (S T) 0 0 W1 HR.out (Nat.zero_le _) HTS.out).mono ?_
    rintro e W2 ⟨rfl, hst⟩
    replace HR := Lib.hid hst.1; replace HG := Lib.hid (grown_trans HG.out hst.2); clear hst
    go_wp2_with fail
    refine (ru64_any r (S T) _ _ W2 HR.out HLE.out.1 HTS.out).mono ?_
    rintro e W3 ⟨rfl, hst⟩
    replace HR := Lib.hid hst.1; replace HG := Lib.hid (grown_trans HG.out hst.2); clear hst
    go_wp2_with fail
    refine (rlow_any r (S T) _ _ W3 HR.out HLE.out.2.1 HTS.out).mono ?_
    rintro e W4 ⟨rfl, hst⟩
    replace HR := Lib.hid hst.1; replace HG := Lib.hid (grown_trans HG.out hst.2); clear hst
    rw [HSH.out] at HR
    go_wp2_with fail
    refine (err_any r (S T) _ _ W4 HR.out).mono ?_
    rintro e W5 ⟨rfl, nq, rfl⟩
    have HF5 := Lib.hid (show FBx (W4.drewN nq) w.heap.size from HF1.out.grown (Wire.grown_drewN HG.out nq) HRN.out)
    have HB5 := Lib.hid (below_grown HB1.out (Wire.grown_drewN HG.out nq) HWR.out (by have := HZ1.out; omega))
    generalize W4.drewN nq = W5 at HF5 HB5 ⊢
    obtain ⟨⟨c0, c1, c2⟩, f0, f1, f2⟩ := HF5.out.facts
    obtain ⟨d0, d1, d2, d3, d4⟩ := HF5.out.store 0 ⟨#[]⟩ 0
    clear HR HG HF1 HB1
    go_wp2_with fail
    refine bodyPost_ret (v := .tuple #[.agg #[.int .i64 0, .string ⟨#[]⟩, .int .i64 0], .int .i64 0, .int .i64 (8)]) (by simp [results, Try.results27, go_sem, d0, d1, d2, d3, d4]) rfl ⟨Or.inr ⟨by rw [HE8.out]; decide, by rw [HE8.out]; rfl⟩, ?_⟩
    exact ((HB5.out.setCell (p := ⟨w.heap.size, 0, none⟩) (Nat.le_refl _) _).setCell (p := ⟨w.heap.size, 1, none⟩) (Nat.le_refl _) _).setCell (p := ⟨w.heap.size, 2, none⟩) (Nat.le_refl _) _
  · have HL3 := Lib.hid (long3 (S T) (by omega))
    have HTL := Lib.hid (show 16 ≤ T.length by rw [S_size] at h16; omega)
    have HNN := Lib.hid (show fxV (S T) 0 0 4 = rdN T by unfold fxV; rw [tk_list T 0 4 (by have := HTL.out; omega)]; rfl)
    have HQQ := Lib.hid (show fxV (S T) 4 0 8 = rdQ T by unfold fxV; rw [tk_list T 4 8 (by have := HTL.out; omega)]; rfl)
    have HCC := Lib.hid (show fxV (S T) 12 0 4 = be (rdC T) by unfold fxV; rw [tk_list T 12 4 (by have := HTL.out; omega)]; rfl)
    have HNL := Lib.hid (show rdN T < 4294967296 by rw [← HNN.out]; exact Wire.fxV_lt _ _ _ 4)
    have HQL := Lib.hid (show rdQ T < 18446744073709551616 by rw [← HQQ.out]; exact Wire.fxV_lt _ _ _ 8)
    clear h16
    go_wp2_with fail
    refine (ru32_any r (S T) 0 0 W1 HR.out (Nat.zero_le _) HTS.out).mono ?_
    rintro e W2 ⟨rfl, hst⟩
    rw [HL3.out.1, HL3.out.2.1] at hst
    rw [HNN.out]
    replace HR := Lib.hid hst.1; replace HG := Lib.hid (grown_trans HG.out hst.2); clear hst
    go_wp2_with fail
    refine (ru64_any r (S T) 4 0 W2 HR.out (by have := HTL.out; rw [S_size]; omega) HTS.out).mono ?_
    rintro e W3 ⟨rfl, hst⟩
    rw [HL3.out.2.2.1, HL3.out.2.2.2.1] at hst
    rw [HQQ.out]
    replace HR := Lib.hid hst.1; replace HG := Lib.hid (grown_trans HG.out hst.2); clear hst
    go_wp2_with fail
    refine (rlow_any r (S T) 12 0 W3 HR.out (by have := HTL.out; rw [S_size]; omega) HTS.out).mono ?_
    rintro e W4 ⟨rfl, hst⟩
    rw [HL3.out.2.2.2.2.1, HL3.out.2.2.2.2.2] at hst
    rw [HCC.out]
    replace HR := Lib.hid hst.1; replace HG := Lib.hid (grown_trans HG.out hst.2); clear hst
    go_wp2_with fail
    refine (err_any r (S T) 16 0 W4 HR.out).mono ?_
    rintro e W5 ⟨rfl, nq, rfl⟩
    replace HG := Lib.hid (Wire.grown_drewN HG.out nq)
    replace HR := Lib.hid (show Rd (W4.drewN nq) r (S T) 16 0 from HR.out)
    generalize W4.drewN nq = W5 at HG HR ⊢
    have HF5 := Lib.hid (show FBx W5 w.heap.size from HF1.out.grown HG.out HRN.out)
    have HB5 := Lib.hid (below_grown HB1.out HG.out HWR.out (by have := HZ1.out; omega))
    clear HL3 HNN HQQ HCC
    have HMQ := fun W => mayNumber_any (wrap64 (U (rdQ T))) W
    rw [mayQ_u _ HQL.out] at HMQ
    have HMM := Lib.hid HMQ
    have hwn : wrap64 (U (rdN T)) = (rdN T : Int) := by have := HNL.out; unfold U; exact IntWalk.wrap64_in _ (by omega)
    clear HMQ
    by_cases hn : 1 ≤ rdN T ∧ rdN T ≤ 4096
    · have hz := szI_yes hn
      have HSZ := Lib.hid (fun W => Size_any (rdN T : Int) W)
      rw [hz] at HSZ
      have z1 : ((16 + (rdN T : Int)) == 0) = false := beq_eq_false_iff_ne.2 (by omega)
      have HNB := Lib.hid hn
      clear hn hz
      by_cases hq : rdQ T < 1048576
      · have HMT := HMM.out
        rw [decide_eq_true hq] at HMT
        have HM2 := Lib.hid HMT
        clear HMT HMM
        go_wp2_with (first | (go_at_call 36; refine (HSZ.out _).mono ?_; rintro e w1 ⟨rfl, rfl⟩) | (go_at_call 52; refine (HM2.out _).mono ?_; rintro e w1 ⟨rfl, rfl⟩))
        refine (rraw_any r (S T) 16 0 (rdN T : Int) W5 HR.out (by have := HTL.out; rw [S_size]; omega) HTS.out).mono ?_
        rintro e W6 ⟨rfl, hst⟩
        rw [Int.toNat_natCast] at hst ⊢
        replace HR := Lib.hid hst.1; replace HG := Lib.hid (grown_trans HG.out hst.2); clear hst
        have HQ2 := Lib.hid hq
        clear HM2 hq
        by_cases hl : 16 + rdN T ≤ T.length
        · have HP := Lib.hid (show tkT (S T) 16 0 (rdN T) = S (rdP T) by unfold tkT; rw [if_pos ⟨rfl, by rw [S_size]; exact hl⟩, S_mid, Nat.add_sub_cancel_left]; rfl)
          have HI : Hid (tkI (S T) 16 0 (rdN T) = 16 + rdN T ∧ tkE (S T) 16 0 (rdN T) = 0) := Lib.hid (by unfold tkI tkE; rw [if_pos ⟨rfl, by rw [S_size]; exact hl⟩, if_pos rfl, if_pos (by rw [S_size]; exact hl)]; exact ⟨rfl, rfl⟩)
          rw [HI.out.1, HI.out.2] at HR
          rw [HP.out]
          have HPL := Lib.hid (rdP_length hl)
          have HLL := Lib.hid hl
          clear HI HP hl
          go_wp2_with fail
          refine (err_any r (S T) _ 0 W6 HR.out).mono ?_
          rintro e W7 ⟨rfl, nr, rfl⟩
          replace HG := Lib.hid (Wire.grown_drewN HG.out nr)
          replace HR := Lib.hid (show Rd (W6.drewN nr) r (S T) _ 0 from HR.out)
          generalize W6.drewN nr = W7 at HG HR ⊢
          have hk12 : IntKind.i64.wrap ((k : Int) + 12) = (k : Int) + 12 := IntWalk.i64_in _ (by have := HK.out; have := HS.out; omega)
          have hsm := slice_mid s k (k + 12) (by omega) (by have h1 := HTK.out; have h2 := HTL.out; rw [S_size] at h1; have h3 := HK.out; omega)
          rw [HT.out, Nat.add_sub_cancel_left, show ((k + 12 : Nat) : Int) = (k : Int) + 12 by omega] at hsm
          go_wp2_with fail
          refine (checksum_any (S (T.take 12)) (S (rdP T)) W7 (by rw [S_size, List.length_take]; unfold maxLen; omega) (by rw [S_size, HPL.out]; have := HNB.out; unfold maxLen; omega)).mono ?_
          rintro e W8 ⟨rfl, hb⟩
          rw [S_list, S_list]
          have HC2 := Lib.hid (low_iff (sumW (T.take 12) (rdP T)) (rdC T) (by have := HTL.out; unfold rdC; rw [List.length_take, List.length_drop]; omega))
          have HG8 := Lib.hid (grown_trans HG.out (grown_below hb))
          have HR8 := Lib.hid (show Rd W8 r (S T) _ 0 from (hb.block r (Wire.row_lt HR.out)).trans HR.out)
          clear hb HR HG
          have HF5 := Lib.hid (show FBx W8 w.heap.size from HF1.out.grown HG8.out HRN.out)
          have HB5 := Lib.hid (below_grown HB1.out HG8.out HWR.out (by have := HZ1.out; omega))
          obtain ⟨⟨c0, c1, c2⟩, f0, f1, f2⟩ := HF5.out.facts
          by_cases hc : fourL (sumW (T.take 12) (rdP T)) = rdC T
          · have HE0 := Lib.hid (show rdE T = 0 by unfold rdE; rw [if_neg (by have := HTL.out; omega), if_neg (fun h => h ⟨HNB.out.1, HNB.out.2, HQ2.out⟩), if_neg (by have := HLL.out; omega), if_pos hc])
            have hcb : V (sumW (T.take 12) (rdP T)) = U (revN (be (rdC T))) := by
              show ((sumW (T.take 12) (rdP T)).toNat : Int) = ((revN (be (rdC T)) : Nat) : Int)
              rw [HC2.out.2 hc]
            rw [hcb]
            have hcz : (U (revN (be (rdC T))) != U (revN (be (rdC T)))) = false := by simp
            have hwq := wrapq (rdQ T) HQ2.out
            obtain ⟨d0, d1, d2, d3, d4⟩ := HF5.out.store (rdQ T : Int) (S (rdP T)) (k : Int)
            have hki : wrap64 ((k : Int) + (16 + (rdN T : Int))) = (k : Int) + (rdK T : Int) := by
              rw [IntWalk.wrap64_in _ (by have h1 := HK.out; have h2 := HS.out; have h3 := HNB.out; omega)]
              unfold rdK; omega
            clear hc hcb
            rw [hwq]
            go_wp2_with (go_at_call 55; refine (at_any r (S T) _ 0 W8 HR8.out).mono ?_; rintro e w1 ⟨rfl, rfl⟩)
            refine bodyPost_ret (v := .tuple #[.agg #[.int .i64 (rdQ T : Int), .string (S (rdP T)), .int .i64 (k : Int)], .int .i64 ((k : Int) + rdK T), .int .i64 0]) (by simp [results, Try.results27, go_sem, d0, d1, d2, d3, d4, hki]) rfl ⟨Or.inl ⟨HE0.out, rfl⟩, ?_⟩
            exact ((HB5.out.setCell (p := ⟨w.heap.size, 0, none⟩) (Nat.le_refl _) _).setCell (p := ⟨w.heap.size, 1, none⟩) (Nat.le_refl _) _).setCell (p := ⟨w.heap.size, 2, none⟩) (Nat.le_refl _) _
          · have HE4 := Lib.hid (show rdE T = 42 by unfold rdE; rw [if_neg (by have := HTL.out; omega), if_neg (fun h => h ⟨HNB.out.1, HNB.out.2, HQ2.out⟩), if_neg (by have := HLL.out; omega), if_neg hc])
            have hcz : (V (sumW (T.take 12) (rdP T)) != U (revN (be (rdC T)))) = true := bne_iff_ne.2 (fun h => hc (HC2.out.1 (by unfold V U at h; omega)))
            obtain ⟨d0, d1, d2, d3, d4⟩ := HF5.out.store 0 ⟨#[]⟩ 0
            clear hc
            go_wp2_with fail
            refine bodyPost_ret (v := .tuple #[.agg #[.int .i64 0, .string ⟨#[]⟩, .int .i64 0], .int .i64 0, .int .i64 42]) (by simp [results, Try.results27, go_sem, d0, d1, d2, d3, d4]) rfl ⟨Or.inr ⟨by rw [HE4.out]; decide, by rw [HE4.out]; rfl⟩, ?_⟩
            exact ((HB5.out.setCell (p := ⟨w.heap.size, 0, none⟩) (Nat.le_refl _) _).setCell (p := ⟨w.heap.size, 1, none⟩) (Nat.le_refl _) _).setCell (p := ⟨w.heap.size, 2, none⟩) (Nat.le_refl _) _
        · have HE4 := Lib.hid (show rdE T = 8 by unfold rdE; rw [if_neg (by have := HTL.out; omega), if_neg (fun h => h ⟨HNB.out.1, HNB.out.2, HQ2.out⟩), if_pos (by omega)])
          have HI : Hid (tkE (S T) 16 0 (rdN T) = 8) := Lib.hid (by unfold tkE; rw [if_pos rfl, if_neg (by rw [S_size]; exact hl)])
          rw [HI.out] at HR
          clear HI hl
          go_wp2_with fail
          refine (err_any r (S T) _ 8 W6 HR.out).mono ?_
          rintro e W7 ⟨rfl, nr, rfl⟩
          replace HG := Lib.hid (Wire.grown_drewN HG.out nr)
          generalize W6.drewN nr = W7 at HG ⊢
          clear HF5 HB5
          have HF5 := Lib.hid (show FBx W7 w.heap.size from HF1.out.grown HG.out HRN.out)
          have HB5 := Lib.hid (below_grown HB1.out HG.out HWR.out (by have := HZ1.out; omega))
          obtain ⟨⟨c0, c1, c2⟩, f0, f1, f2⟩ := HF5.out.facts
          obtain ⟨d0, d1, d2, d3, d4⟩ := HF5.out.store 0 ⟨#[]⟩ 0
          clear HR HG
          go_wp2_with fail
          refine bodyPost_ret (v := .tuple #[.agg #[.int .i64 0, .string ⟨#[]⟩, .int .i64 0], .int .i64 0, .int .i64 8]) (by simp [results, Try.results27, go_sem, d0, d1, d2, d3, d4]) rfl ⟨Or.inr ⟨by rw [HE4.out]; decide, by rw [HE4.out]; rfl⟩, ?_⟩
          exact ((HB5.out.setCell (p := ⟨w.heap.size, 0, none⟩) (Nat.le_refl _) _).setCell (p := ⟨w.heap.size, 1, none⟩) (Nat.le_refl _) _).setCell (p := ⟨w.heap.size, 2, none⟩) (Nat.le_refl _) _
      · have HMT := HMM.out
        rw [decide_eq_false hq] at HMT
        have HM2 := Lib.hid HMT
        have HE4 := Lib.hid (show rdE T = 4 by unfold rdE; rw [if_neg (by have := HTL.out; omega), if_pos (fun h => hq h.2.2)])
        clear HMT HMM hq
        obtain ⟨⟨c0, c1, c2⟩, f0, f1, f2⟩ := HF5.out.facts
        obtain ⟨d0, d1, d2, d3, d4⟩ := HF5.out.store 0 ⟨#[]⟩ 0
        clear HR HG HF1 HB1
        go_wp2_with (first | (go_at_call 36; refine (HSZ.out _).mono ?_; rintro e w1 ⟨rfl, rfl⟩) | (go_at_call 52; refine (HM2.out _).mono ?_; rintro e w1 ⟨rfl, rfl⟩))
        refine bodyPost_ret (v := .tuple #[.agg #[.int .i64 0, .string ⟨#[]⟩, .int .i64 0], .int .i64 0, .int .i64 (4)]) (by simp [results, Try.results27, go_sem, d0, d1, d2, d3, d4]) rfl ⟨Or.inr ⟨by rw [HE4.out]; decide, by rw [HE4.out]; rfl⟩, ?_⟩
        exact ((HB5.out.setCell (p := ⟨w.heap.size, 0, none⟩) (Nat.le_refl _) _).setCell (p := ⟨w.heap.size, 1, none⟩) (Nat.le_refl _) _).setCell (p := ⟨w.heap.size, 2, none⟩) (Nat.le_refl _) _
    · have hz := szI_no hn
      have HSZ := Lib.hid (fun W => Size_any (rdN T : Int) W)
      rw [hz] at HSZ
      have HE4 := Lib.hid (show rdE T = 4 by unfold rdE; rw [if_neg (by have := HTL.out; omega), if_pos (fun h => hn ⟨h.1, h.2.1⟩)])
      clear hz hn HMM
      obtain ⟨⟨c0, c1, c2⟩, f0, f1, f2⟩ := HF5.out.facts
      obtain ⟨d0, d1, d2, d3, d4⟩ := HF5.out.store 0 ⟨#[]⟩ 0
      clear HR HG HF1 HB1
      go_wp2_with (go_at_call 36; refine (HSZ.out _).mono ?_; rintro e w1 ⟨rfl, rfl⟩)
      refine bodyPost_ret (v := .tuple #[.agg #[.int .i64 0, .string ⟨#[]⟩, .int .i64 0], .int .i64 0, .int .i64 (4)]) (by simp [results, Try.results27, go_sem, d0, d1, d2, d3, d4]) rfl ⟨Or.inr ⟨by rw [HE4.out]; decide, by rw [HE4.out]; rfl⟩, ?_⟩
      exact ((HB5.out.setCell (p := ⟨w.heap.size, 0, none⟩) (Nat.le_refl _) _).setCell (p := ⟨w.heap.size, 1, none⟩) (Nat.le_refl _) _).setCell (p := ⟨w.heap.size, 2, none⟩) (Nat.le_refl _) _
/-- **Read** -/
theorem Read_any (s : ByteArray) (i : Int) (hs : s.size ≤ 1000000000000) (w : World) :
    Calls Try.prog 27 #[.string s, .int .i64 i] w fun e w' => e = .returned (rdV s i) ∧ Below w.heap.size w w' := by
  by_cases h : 0 ≤ i ∧ i ≤ s.size
  · obtain ⟨k, rfl⟩ : ∃ k : Nat, i = (k : Int) := ⟨i.toNat, by omega⟩
    refine (Read_at s k (by omega) hs _ rfl w).mono ?_
    rintro e w' ⟨he, hb⟩
    refine ⟨?_, hb⟩
    unfold rdV
    rw [if_pos h, Int.toNat_natCast]
    rcases he with ⟨h0, rfl⟩ | ⟨h0, rfl⟩
    · rw [if_pos h0]; rfl
    · rw [if_neg h0]; rfl
  · refine (Read_no s i h w).mono ?_
    rintro e w' ⟨rfl, hb⟩
    refine ⟨?_, hb⟩
    unfold rdV; rw [if_neg h]
end Go.Proofs.Ytkjnddgjnlbopaa.Frame
