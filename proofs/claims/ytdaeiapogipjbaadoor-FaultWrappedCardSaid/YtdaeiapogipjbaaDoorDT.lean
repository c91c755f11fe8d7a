/-
  Numbers' texts where the library's table is as it is laid; how long texts are.
-/
import Derived.Test.YtdaeiapogipjbaaDoorD18
import Derived.Lib.ItoaLen
import Derived.Lib.AppendIntMem
import Derived.WalkSmall
namespace Go.Proofs.YtdaeiapogipjbaaDoor.Fault
open Go Go.RowKit

def Wf (i : Int) : Prop := -9223372036854775808 ≤ i ∧ i ≤ 9223372036854775807
def itoaB (i : Int) : ByteArray := S (Lib.itoa i)
theorem S_size (l : List UInt8) : (S l).size = l.length := by unfold S; show (l.toArray).size = _; simp
theorem itoa_size (i : Int) (h : Wf i) : (itoaB i).size ≤ 64 := by
  unfold itoaB
  rw [S_size]
  unfold Wf at h
  unfold Lib.itoa
  split
  · rw [List.length_cons, Lib.decDigits_length]
    have := Lib.nDigits_le20 i.natAbs (by omega)
    omega
  · rw [Lib.decDigits_length]
    have := Lib.nDigits_le20 i.toNat (by omega)
    omega
theorem gTab : Tryd.prog.globalNamed "internal/strconv.uint64pow10" = some 2 := by kernel_rfl
/-- the table stands as it is laid -/
def Tab (w : World) : Prop := Lib.TabIs Tryd.prog w "internal/strconv.uint64pow10" .u64 Lib.pow10Tab ∧ 2 < w.heap.size
theorem Tab.below {w w' : World} (h : Tab w) (hb : Below w.heap.size w w') : Tab w' := ⟨var?_below hb gTab h.2 h.1, Nat.lt_of_lt_of_le h.2 hb.size⟩
theorem says_tab {w : World} (h : Tab w) : Says Wf itoaB w where
  fmt W i hW hD := (Tryd.strconv_FormatInt_10 i hD.1 hD.2 W (h.below hW).1).mono fun ev w' ⟨a, k, os, b⟩ => ⟨a, by rw [b]; exact Lib.below_grow _ _ (Nat.le_refl _) _ _⟩
  itoa W i hW hD := (Tryd.strconv_Itoa i hD.1 hD.2 W (h.below hW).1).mono fun ev w' ⟨a, k, os, b⟩ => ⟨a, by rw [b]; exact Lib.below_grow _ _ (Nat.le_refl _) _ _⟩
  size i hD := itoa_size i hD

/-! ### how long texts are -/
theorem head_size (f : Int → ByteArray) (x : Wr) (h : 0 ≤ x.pl → (f x.pl).size ≤ 64) : (headB f x).size ≤ x.op.size + x.nm.size + 80 := by
  unfold headB
  have s1 : (⟨#[32]⟩ : ByteArray).size = 1 := rfl
  have s2 : (⟨#[32, 97, 116, 32]⟩ : ByteArray).size = 4 := rfl
  have s3 : (⟨#[58, 32]⟩ : ByteArray).size = 2 := rfl
  split
  · rename_i hp
    have := h hp
    split <;> simp only [ByteArray.size_append, s1, s2, s3] <;> omega
  · split <;> simp only [ByteArray.size_append, s1, s3] <;> omega
theorem light_one {xs : List Wr} (h : tot xs < 5000) {x : Wr} (hx : x ∈ xs) : x.op.size < 5000 ∧ x.nm.size < 5000 ∧ x.op.size + x.nm.size + 20 = one x := by
  have := tot_mem hx
  unfold one at this ⊢
  omega
theorem heads_size (f : Int → ByteArray) (xs : List Wr) (h : ∀ x ∈ xs, (headB f x).size ≤ one x + 60) : (heads f xs).length ≤ tot xs + 60 * xs.length := by
  unfold tot
  induction xs with
  | nil => simp [heads]
  | cons x xs ih =>
    have h1 := h x (by simp)
    have h2 := ih (fun y hy => h y (by simp [hy]))
    have h3 : (headB f x).data.toList.length = (headB f x).size := by simp
    simp only [heads, List.length_append, List.map_cons, List.sum_cons, List.length_cons]
    omega
theorem light_heads {D : Int → Prop} {f : Int → ByteArray} {w : World} (HS : Says D f w) {xs : List Wr} (h : tot xs < 5000) (hD : ∀ x ∈ xs, 0 ≤ x.pl → D x.pl) : (heads f xs).length ≤ 25000 := by
  have h1 := heads_size f xs (fun x hx => by
    have := head_size f x (fun hp => HS.size _ (hD x hx hp))
    have := light_one h hx
    omega)
  have := tot_len xs
  omega
theorem light_fine {D : Int → Prop} {xs : List Wr} (h : tot xs < 5000) (hD : ∀ x ∈ xs, 0 ≤ x.pl → D x.pl) : Fine D xs := fun x hx => by
  have := light_one h hx
  exact ⟨by omega, by omega, hD x hx⟩
theorem Wraps.wf {w : World} {A : Option Addr} {xs : List Wr} {B : Nat} (h : Wraps w A xs B) : ∀ x ∈ xs, Wf x.pl := fun x hx => by
  obtain ⟨i, hi, rfl⟩ := List.getElem_of_mem hx
  obtain ⟨_, _, _, _, _, _, _, _, _, h1, h2⟩ := h i hi
  exact ⟨h1, h2⟩
theorem textB_cons (f : Int → ByteArray) (x : Wr) (xs : List Wr) (s : ByteArray) : textB f (x :: xs) s = headB f x ++ textB f xs s := by
  unfold textB S
  simp only [heads]
  apply ByteArray.ext
  simp
theorem textB_nil (f : Int → ByteArray) (s : ByteArray) : textB f [] s = s := by unfold textB; exact S_data s
theorem textB_size (f : Int → ByteArray) (xs : List Wr) (s : ByteArray) : (textB f xs s).size = (heads f xs).length + s.size := by
  unfold textB
  rw [S_size, List.length_append]
  simp

end Go.Proofs.YtdaeiapogipjbaaDoor.Fault
