import Derived.Test.YtiibeemjkdipnaaGreatDoorE19
/-
  What an event or a command that may be tells of its kind: plain mathematics for SchemaBounds and SchemaCommand.
-/
namespace Go.Proofs.YtiibeemjkdipnaaGreatDoor.Schema
open Go Go.RowKit

theorem may_parts {e : Ev} (h : may e = true) : tall e.v e.k = true ∧ e.ns.length = (lets e.v e.k).size ∧ (∀ j, j < (lets e.v e.k).size → fits e.v (byteAt (lets e.v e.k) j) (e.ns.getD j 0) = true) ∧ mayT e.k e.ts = true := by
  unfold may fitB at h
  simp only [Bool.and_eq_true, decide_eq_true_eq, List.all_eq_true, List.mem_range] at h
  exact ⟨h.1.1, h.1.2.1, h.1.2.2, h.2⟩
theorem mayT_len {k : Nat} {ts : List ByteArray} (h : mayT k ts = true) : ts.length ≤ 1 ∧ (ts.length = 1 ↔ tru k = true) := by
  unfold mayT at h
  cases ht : tru k with
  | true =>
    rw [ht] at h
    simp only [if_true, Bool.and_eq_true, decide_eq_true_eq] at h
    exact ⟨by omega, by simp [h.1]⟩
  | false =>
    rw [ht] at h
    simp only [Bool.false_eq_true, if_false, decide_eq_true_eq] at h
    exact ⟨by omega, by simp [h]⟩
def moreN (a : Ev) (n : Int) : Ev := ⟨a.v, a.k, a.ns ++ [n], a.ts⟩
def moreT (a : Ev) : Ev := ⟨a.v, a.k, a.ns, a.ts ++ [⟨#[109, 111, 114, 101]⟩]⟩
def noT (a : Ev) : Ev := ⟨a.v, a.k, a.ns, []⟩
def blankT (a : Ev) : Ev := ⟨a.v, a.k, a.ns, a.ts.set 0 ByteArray.empty⟩
def putN (a : Ev) (k : Nat) (n : Int) : Ev := ⟨a.v, a.k, a.ns.set k n, a.ts⟩
def dropN (a : Ev) (k : Nat) : Ev := ⟨a.v, a.k, a.ns.take k ++ a.ns.drop (k + 1), a.ts⟩
theorem may_len {e : Ev} (h : ¬ e.ns.length = (lets e.v e.k).size) : may e = false := by
  unfold may
  rw [fitB_len h, Bool.and_false, Bool.false_and]
theorem may_txt {e : Ev} (h : mayT e.k e.ts = false) : may e = false := by
  unfold may
  rw [h, Bool.and_false]
theorem may_moreN {e : Ev} (h : may e = true) (n : Int) : may (moreN e n) = false := by
  have h1 := (may_parts h).2.1
  refine may_len ?_
  simp only [moreN, List.length_append, List.length_cons, List.length_nil]
  omega
theorem may_dropN {e : Ev} (h : may e = true) (k : Nat) (hk : k < e.ns.length) : may (dropN e k) = false := by
  have h1 := (may_parts h).2.1
  refine may_len ?_
  simp only [dropN, List.length_append, List.length_take, List.length_drop]
  omega
theorem may_moreT {e : Ev} (h : may e = true) : may (moreT e) = false := by
  have h1 := mayT_len (may_parts h).2.2.2
  refine may_txt ?_
  cases hx : mayT (moreT e).k (moreT e).ts with
  | false => rfl
  | true =>
    have h2 := mayT_len hx
    simp only [moreT, List.length_append, List.length_cons, List.length_nil] at h2
    have h3 : e.ts.length = 0 := by omega
    have h4 := h1.2
    have h5 := h2.2
    rw [h3] at h4 h5
    simp at h4 h5
    rw [h4] at h5
    cases h5
theorem may_noT {e : Ev} (ht : tru e.k = true) : may (noT e) = false := by
  refine may_txt ?_
  cases hx : mayT (noT e).k (noT e).ts with
  | false => rfl
  | true =>
    have h2 := (mayT_len hx).2.2 ht
    simp [noT] at h2
theorem may_blankT {e : Ev} (ht : tru e.k = true) (hl : e.ts.length = 1) : may (blankT e) = false := by
  refine may_txt ?_
  obtain ⟨v, k, ns, ts⟩ := e
  obtain ⟨t, rfl⟩ : ∃ t, ts = [t] := by
    match ts, hl with
    | [t], _ => exact ⟨t, rfl⟩
  show mayT k ([t].set 0 ByteArray.empty) = false
  unfold mayT
  rw [if_pos (show tru k = true from ht)]
  have : mayName (([t].set 0 ByteArray.empty).getD 0 ByteArray.empty) = false := mayName_len (s := ByteArray.empty) (by decide)
  rw [this, Bool.and_false]
theorem may_putN {e : Ev} (h : may e = true) (k : Nat) (n : Int) (hk : k < e.ns.length) : may (putN e k n) = fits e.v (byteAt (lets e.v e.k) k) n := by
  obtain ⟨h1, h2, h3, h4⟩ := may_parts h
  have hg : (e.ns.set k n).getD k 0 = n := by
    rw [List.getD_eq_getElem?_getD, List.getElem?_set_self hk]; rfl
  cases hf : fits e.v (byteAt (lets e.v e.k) k) n with
  | false =>
    unfold may
    rw [show fitB (putN e k n).v (lets (putN e k n).v (putN e k n).k) (putN e k n).ns = false from fitB_no (j := k) (by simp only [putN]; omega) (by simp only [putN]; rw [hg]; exact hf), Bool.and_false, Bool.false_and]
  | true =>
    unfold may
    have h5 : fitB (putN e k n).v (lets (putN e k n).v (putN e k n).k) (putN e k n).ns = true := by
      refine fitB_yes (by simp only [putN, List.length_set]; exact h2) fun j hj => ?_
      simp only [putN] at hj ⊢
      by_cases hjk : j = k
      · subst hjk; rw [hg]; exact hf
      · have := h3 j hj
        rw [List.getD_eq_getElem?_getD] at this ⊢
        rw [List.getElem?_set_ne (fun h => hjk h.symm)]; exact this
    rw [h5]
    simp only [putN, Bool.and_true, Bool.and_eq_true]
    exact ⟨h1, h4⟩
/-- each class that a table uses has its bounds in that version -/
def letsHave (v : Nat) (s : ByteArray) : Bool := (List.range s.size).all fun j => (bnd v (byteAt s j)).is
theorem lets_bnd (v k : Nat) (j : Nat) (hj : j < (lets v k).size) : (bnd v (byteAt (lets v k) j)).is = true := by
  have h := ev_all (p := fun r => letsHave 1 r.f1 && letsHave 2 r.f2 && letsHave 3 r.f3) (by decide +kernel) (by decide +kernel) k
  simp only [Bool.and_eq_true] at h
  have hv : letsHave v (lets v k) = true := by
    unfold lets
    split
    · rename_i e; subst e; exact h.1.1
    · split
      · rename_i e; subst e; exact h.1.2
      · split
        · rename_i e; subst e; exact h.2
        · rfl
  unfold letsHave at hv
  exact List.all_eq_true.1 hv j (List.mem_range.2 hj)
theorem fits_bnd {v c n : Int} (h : (bnd v c).is = true) : fits v c n = (decide ((bnd v c).low ≤ n) && decide (n ≤ (bnd v c).high)) := by
  unfold fits
  rw [h, Bool.true_and]

theorem asks_bnd (k : Nat) (j : Nat) (hj : j < (asks k).size) : (bnd 3 (byteAt (asks k) j)).is = true := by
  have h := cm_all (p := fun r => letsHave 3 r.fields) (by decide +kernel) (by decide +kernel) k
  unfold letsHave at h
  exact List.all_eq_true.1 h j (List.mem_range.2 hj)
end Go.Proofs.YtiibeemjkdipnaaGreatDoor.Schema

/-
  What is cut of a slice of numbers.
-/
namespace Go.Proofs.YtiibeemjkdipnaaGreatDoor.Schema
open Go Go.RowKit

/-- the address of a slice cut from k on -/
def cutA (A : Option Addr) (cap k : Nat) : Option Addr := if cap = k then A else A.map (·.add (k * 1))
theorem cutA_none {A : Option Addr} {cap k : Nat} (h : A = none → cap = 0) (e : cutA A cap k = none) : cap - k = 0 := by
  unfold cutA at e
  split at e
  · have := h e; omega
  · cases A with
    | none => have := h rfl; omega
    | some a => cases e
theorem VAt.cut {w : World} {A : Option Addr} {vs : List Value} (h : VAt w A vs) (cap k : Nat) (hc : vs.length ≤ cap) : VAt w (cutA A cap k) (vs.drop k) := fun j u hu => by
  rw [List.getElem?_drop] at hu
  obtain ⟨b, o, e, hv⟩ := h (k + j) u hu
  have hlt := (List.getElem?_eq_some_iff.1 hu).1
  refine ⟨b, o + k, ?_, ?_⟩
  · unfold cutA
    rw [if_neg (by omega), e, Option.map_some, Nat.mul_one, addr_add]
  · rw [Nat.add_assoc]; exact hv
theorem VAt.head {w : World} {A : Option Addr} {vs : List Value} (h : VAt w A vs) (cap k : Nat) (hc : vs.length ≤ cap) : VAt w (cutA A cap 0) (vs.take k) := fun j u hu => by
  rw [List.getElem?_take] at hu
  split at hu
  · obtain ⟨b, o, e, hv⟩ := h j u hu
    have hlt := (List.getElem?_eq_some_iff.1 hu).1
    refine ⟨b, o, ?_, hv⟩
    unfold cutA
    rw [if_neg (by omega), e, Option.map_some, Nat.zero_mul, addr_add]; rfl
  · cases hu
theorem run_tail (A : Option Addr) (n cap k : Nat) (hk : k ≤ n) (hc : n ≤ cap) (w : World) :
    (Instr.slice 36 (.slice A n cap) (some (.int .i64 (k : Int))) none none).run Tryz.prog w = .ok (.slice (cutA A cap k) (n - k) (cap - k)) w := by
  obtain ⟨i0, hi, hz0, hz1, hz2⟩ := info_parts infoN
  rw [run_slice_l w 36 A n cap (by kernel_rfl) .i64 (k : Int) (by omega) (by omega)]
  have he : Tryz.prog.elem 36 = 2 := by kernel_rfl
  simp [he, sizeOf, typeInfo, hi, hz1, Result.andThen, sliced, cutA]
theorem run_head (A : Option Addr) (n cap k : Nat) (hk : k ≤ n) (hc : n ≤ cap) (w : World) :
    (Instr.slice 36 (.slice A n cap) none (some (.int .i64 (k : Int))) none).run Tryz.prog w = .ok (.slice (cutA A cap 0) k cap) w := by
  obtain ⟨i0, hi, hz0, hz1, hz2⟩ := info_parts infoN
  rw [run_slice_h w 36 A n cap (by kernel_rfl) .i64 (k : Int) (by omega) (by omega)]
  have he : Tryz.prog.elem 36 = 2 := by kernel_rfl
  simp [he, sizeOf, typeInfo, hi, hz1, Result.andThen, sliced, cutA]
theorem clsV_at (s : ByteArray) (k : Nat) (h : k < s.size) : (clsV s)[k]? = some (.int .u8 (byteAt s k : Int)) := by
  unfold clsV byteAt
  rw [List.getElem?_map, List.getD_eq_getElem?_getD, List.getElem?_eq_getElem (show k < s.data.toList.length from h)]; rfl

end Go.Proofs.YtiibeemjkdipnaaGreatDoor.Schema
