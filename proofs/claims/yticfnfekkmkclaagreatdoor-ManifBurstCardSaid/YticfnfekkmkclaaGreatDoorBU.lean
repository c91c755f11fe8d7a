import Derived.Test.YticfnfekkmkclaaGreatDoorMO
import Derived.Test.YticfnfekkmkclaaGreatDoorMR
import Derived.Lib.BufferWrite
import Derived.Lib.ConvBytes
import Derived.Lib.SliceRun
import Derived.Laws.MakeOwn
/-
  Bursts: bits in a row that are turned. No Go text is named here.
-/
namespace Go.Proofs.YticfnfekkmkclaaGreatDoor.Crc

def bit8 (k : Nat) : UInt8 := UInt8.ofNat (2 ^ k)
theorem bit8_test (k j : Nat) (hk : k < 8) : (bit8 k).toNat.testBit j = decide (j = k) := by
  unfold bit8
  have h2 : 2 ^ k < 2 ^ 8 := Nat.pow_lt_pow_right (by omega) hk
  rw [UInt8.toNat_ofNat', Nat.mod_eq_of_lt (by omega), Nat.testBit_two_pow]
  by_cases e : k = j
  · subst e; simp
  · simp [e, Ne.symm e]
def turn (l : List UInt8) (q : Nat) : List UInt8 := l.set (q / 8) (l.getD (q / 8) 0 ^^^ bit8 (q % 8))
def tog (l : List UInt8) (f : Nat) (p : W) : Nat → List UInt8
  | 0 => l
  | i + 1 => if p.getLsbD i then turn (tog l f p i) (f + i) else tog l f p i
def anyB (p : W) : Nat → Bool
  | 0 => false
  | i + 1 => anyB p i || p.getLsbD i
theorem turn_length (l : List UInt8) (q : Nat) : (turn l q).length = l.length := by unfold turn; rw [List.length_set]
theorem tog_length (l : List UInt8) (f : Nat) (p : W) (i : Nat) : (tog l f p i).length = l.length := by
  induction i with
  | zero => rfl
  | succ i ih =>
    simp only [tog]; split
    · rw [turn_length, ih]
    · exact ih
theorem turn_bit (l : List UInt8) (q j : Nat) (hq : q < 8 * l.length) : bitAt (turn l q) j = (bitAt l j ^^ decide (j = q)) := by
  unfold bitAt turn
  have hlt : q / 8 < l.length := by omega
  by_cases e : j / 8 = q / 8
  · rw [e, List.getD_eq_getElem?_getD, List.getElem?_set_self hlt]
    simp only [Option.getD_some]
    rw [UInt8.toNat_xor, Nat.testBit_xor, bit8_test _ _ (Nat.mod_lt _ (by omega))]
    congr 1
    by_cases g : j % 8 = q % 8
    · have : j = q := by omega
      simp [this]
    · have : ¬ j = q := fun h => g (by rw [h])
      simp [g, this]
  · have hne : ¬ j = q := fun h => e (by rw [h])
    rw [List.getD_eq_getElem?_getD, List.getElem?_set_ne (fun h => e h.symm), ← List.getD_eq_getElem?_getD]
    simp [hne]
theorem tog_bit (l : List UInt8) (f : Nat) (p : W) (i : Nat) (h : f + i ≤ 8 * l.length) (j : Nat) : bitAt (tog l f p i) j = (bitAt l j ^^ (decide (f ≤ j ∧ j < f + i) && p.getLsbD (j - f))) := by
  induction i with
  | zero =>
    have : ¬ (f ≤ j ∧ j < f + 0) := by omega
    show bitAt l j = _
    rw [decide_eq_false this]; simp
  | succ i ih =>
    have hih := ih (by omega)
    simp only [tog]
    by_cases hj : j = f + i
    · subst hj
      have h0 : ¬ (f ≤ f + i ∧ f + i < f + i) := by omega
      have h1 : f ≤ f + i ∧ f + i < f + (i + 1) := by omega
      have h2 : f + i - f = i := by omega
      cases hp : p.getLsbD i
      · simp only [Bool.false_eq_true, if_false]
        rw [hih, h2, hp]; simp
      · simp only [if_true]
        rw [turn_bit _ _ _ (by rw [tog_length]; omega), hih, h2, hp]
        simp [h0, h1]
    · have e : decide (f ≤ j ∧ j < f + i) = decide (f ≤ j ∧ j < f + (i + 1)) := by
        apply decide_eq_decide.2; omega
      cases hp : p.getLsbD i
      · simp only [Bool.false_eq_true, if_false]
        rw [hih, e]
      · simp only [if_true]
        rw [turn_bit _ _ _ (by rw [tog_length]; omega), hih, e]
        simp [hj]
theorem anyB_iff (p : W) (k : Nat) : anyB p k = false ↔ ∀ i, i < k → p.getLsbD i = false := by
  induction k with
  | zero => simp [anyB]
  | succ k ih =>
    simp only [anyB, Bool.or_eq_false_iff]
    rw [ih]
    constructor
    · rintro ⟨h1, h2⟩ i hi
      by_cases e : i = k
      · subst e; exact h2
      · exact h1 i (by omega)
    · intro h; exact ⟨fun i hi => h i (by omega), h k (by omega)⟩
/-- the lower k bits -/
def low (p : W) (k : Nat) : W := p ^^^ ((p >>> k) <<< k)
theorem low_bit (p : W) (k i : Nat) (hi : i < 32) : (low p k).getLsbD i = (decide (i < k) && p.getLsbD i) := by
  unfold low
  rw [BitVec.getLsbD_xor, BitVec.getLsbD_shiftLeft, BitVec.getLsbD_ushiftRight]
  by_cases h : i < k
  · simp [h]
  · have : k + (i - k) = i := by omega
    simp [h, hi, this]
theorem low_zero (p : W) (k : Nat) (hk : k ≤ 32) : low p k = 0 ↔ anyB p k = false := by
  rw [anyB_iff]
  constructor
  · intro h i hi
    have := low_bit p k i (by omega)
    rw [h] at this
    simpa [hi] using this.symm
  · intro h
    apply BitVec.eq_of_getLsbD_eq; intro i hi
    rw [low_bit p k i hi]
    by_cases g : i < k
    · rw [h i g]; simp
    · simp [g]
theorem rb_low (p : W) (k : Nat) (hk : k ≤ 32) : rb 0 (fun i => p.getLsbD i) k = it k (low p k) := by
  have h := rb_word 0 p k hk
  have e0 : (0 : W) ^^^ p = p := BitVec.zero_xor
  have e1 : it k ((p >>> k) <<< k) = p >>> k := by
    apply it_shl k _ hk
    intro i hi
    rw [BitVec.getLsbD_ushiftRight, BitVec.getLsbD_of_ge _ _ (by omega)]
  rw [e0] at h
  have h2 : it k (low p k) = it k p ^^^ (p >>> k) := by unfold low; rw [it_xor, e1]
  rw [h2, ← h, BitVec.xor_assoc, BitVec.xor_self]; exact BitVec.xor_zero.symm
theorem burst_raw (c : W) (l : List UInt8) (f : Nat) (p : W) (k : Nat) (hk : k ≤ 32) (h : f + k ≤ 8 * l.length) : (raw c l = raw c (tog l f p k)) ↔ anyB p k = false := by
  have hx : raw c l ^^^ raw c (tog l f p k) = rb 0 (fun j => decide (f ≤ j ∧ j < f + k) && p.getLsbD (j - f)) (8 * l.length) := by
    rw [raw_rb, raw_rb, tog_length, ← rb_xor, BitVec.xor_self]
    apply rb_congr
    intro j _
    rw [tog_bit l f p k h j]
    cases bitAt l j <;> simp
  have hr : 8 * l.length = f + (k + (8 * l.length - f - k)) := by omega
  have h1 : rb 0 (fun j => decide (f ≤ j ∧ j < f + k) && p.getLsbD (j - f)) f = 0 := by
    rw [rb_false _ _ _ (fun i hi => by have : ¬ (f ≤ i ∧ i < f + k) := by omega
                                       simp [this]), it_zero]
  have h2 : rb 0 (fun i => decide (f ≤ f + i ∧ f + i < f + k) && p.getLsbD (f + i - f)) k = it k (low p k) := by
    rw [← rb_low p k hk]
    apply rb_congr
    intro i hi
    have : f + i - f = i := by omega
    rw [this]; simp [hi]
  have hfin : raw c l ^^^ raw c (tog l f p k) = it (8 * l.length - f - k) (it k (low p k)) := by
    rw [hx, hr, rb_add, h1, rb_add, h2]
    have e : f + (k + (8 * l.length - f - k)) - f - k = 8 * l.length - f - k := by omega
    rw [e]
    exact rb_false _ _ _ (fun i _ => by
      have : ¬ (f ≤ f + (k + i) ∧ f + (k + i) < f + k) := by omega
      simp only [this, decide_false, Bool.false_and])
  rw [← low_zero p k hk]
  constructor
  · intro e
    rw [e, BitVec.xor_self] at hfin
    exact it_eq_zero (it_eq_zero hfin.symm)
  · intro e
    rw [e, it_zero, it_zero] at hfin
    exact xor_eq_zero hfin
theorem burst_of (l : List UInt8) (f : Nat) (p : W) (k : Nat) (hk : k ≤ 32) (h : f + k ≤ 8 * l.length) : (ofW l = ofW (tog l f p k)) ↔ anyB p k = false := by
  rw [← burst_raw (~~~ 0) l f p k hk h]
  unfold ofW addW
  constructor
  · intro e; rw [← not_not (raw _ l), e, not_not]
  · intro e; rw [e]

end Go.Proofs.YticfnfekkmkclaaGreatDoor.Crc

/-
  Bytes of the call's own; a manifest's bytes with a burst.
-/
namespace Go.Proofs.YticfnfekkmkclaaGreatDoor.Manif
open Go Go.RowKit
open Go.Proofs.YticfnfekkmkclaaGreatDoor.Crc (W ofW fourL tog tog_length anyB anyB_iff burst_of bit8 turn V word_bit raw_fourL raw_append addW raw it Row8)
open Go.Proofs.YticfnfekkmkclaaGreatDoor.Wire (S S_list S_size cell_row frozen_row row_lt heap_set heap_far)

/-- a row of bytes of the call's own -/
def Buf (w : World) (g : Nat) (l : List UInt8) : Prop := g < w.heap.size ∧ ∀ i (h : i < l.length), w.cell? ⟨g, i, none⟩ = some (.int .u8 (l[i].toNat : Int)) ∧ w.frozen? ⟨g, i, none⟩ = false
theorem Buf.below {w w' : World} {g : Nat} {l : List UInt8} (h : Buf w g l) (hb : Below w.heap.size w w') : Buf w' g l :=
  ⟨Nat.lt_of_lt_of_le h.1 hb.size, fun i hi => ⟨by rw [hb.cell (p := ⟨g, i, none⟩) h.1]; exact (h.2 i hi).1, by rw [hb.frozen (p := ⟨g, i, none⟩) h.1]; exact (h.2 i hi).2⟩⟩
theorem Buf.row {w : World} {g : Nat} {l : List UInt8} (h : Buf w g l) : Row8 w g 0 l := ⟨h.1, fun i hi => by rw [Nat.zero_add]; exact (h.2 i hi).1⟩
theorem Buf.take {w : World} {g : Nat} {l : List UInt8} (h : Buf w g l) (n : Nat) : Row8 w g 0 (l.take n) :=
  ⟨h.1, fun i hi => by
    have hi2 : i < l.length := by rw [List.length_take] at hi; omega
    rw [Nat.zero_add, List.getElem_take]; exact (h.2 i hi2).1⟩
theorem Buf.drop {w : World} {g : Nat} {l : List UInt8} (h : Buf w g l) (n : Nat) : Row8 w g n (l.drop n) :=
  ⟨h.1, fun i hi => by
    have hi2 : n + i < l.length := by rw [List.length_drop] at hi; omega
    rw [List.getElem_drop]; exact (h.2 (n + i) hi2).1⟩
/-- m laid over l from n on -/
def over_ (l : List UInt8) (n : Nat) (m : List UInt8) : List UInt8 := l.take n ++ m ++ l.drop (n + m.length)
theorem over_length (l : List UInt8) (n : Nat) (m : List UInt8) (h : n + m.length ≤ l.length) : (over_ l n m).length = l.length := by
  unfold over_; simp; omega
def vals (m : List UInt8) : List Value := m.map fun b : UInt8 => Value.int .u8 (b.toNat : Int)
theorem Buf.store {w : World} {g : Nat} {l : List UInt8} (h : Buf w g l) (n : Nat) (b : UInt8) (hn : n < l.length) : Buf (w.setCell ⟨g, n, none⟩ (.int .u8 (b.toNat : Int))) g (l.set n b) := by
  refine ⟨by rw [World.setCell]; simp; exact h.1, fun i hi => ?_⟩
  rw [List.length_set] at hi
  have hf : ∀ x, (w.setCell ⟨g, n, none⟩ (.int .u8 (b.toNat : Int))).frozen? x = w.frozen? x := fun x => World.frozen?_setCell _ _ _ _
  refine ⟨?_, by rw [hf]; exact (h.2 i hi).2⟩
  rw [List.getElem_set]
  by_cases e : n = i
  · subst e
    rw [if_pos rfl]
    exact World.cell?_setCell_same w _ _ ((h.2 n hn).1)
  · rw [if_neg e]
    rw [World.cell?_setCell_other w _ _ _ (by intro hc; exact e (congrArg Addr.off hc))]
    exact (h.2 i hi).1

theorem conv_string (w : World) (s : ByteArray) : ∃ (W : World) (cap : Nat), (convert 9 86 (.string s)).run Tryz.prog w = .ok (.slice (some ⟨w.heap.size, 0, none⟩) s.size cap) W ∧ Buf W w.heap.size s.data.toList ∧ Below w.heap.size w W ∧ s.size ≤ cap ∧ W.heap.size = w.heap.size + 1 := by
  have h := Lib.run_convert_string_bytes (P := Tryz.prog) w 9 86 5 s Tryz.underlying9 Tryz.underlying86 Tryz.underlying5
  refine ⟨_, _, h, ⟨by rw [Lib.bytesWorld_size]; omega, fun i hi => ?_⟩, ?_, ?_, Lib.bytesWorld_size _ _ _⟩
  · have hi2 : i < s.size := by simpa using hi
    refine ⟨?_, ?_⟩
    · rw [Lib.bytesWorld_cell w _ s i hi2, List.getD_eq_getElem?_getD, List.getElem?_eq_getElem hi]; rfl
    · have hsz : s.size ≤ (Lib.bytesCells w 5 s).size := by
        unfold Lib.bytesCells; rw [Array.size_append, Array.size_map]; exact Nat.le_add_right _ _
      simp only [World.frozen?, Lib.bytesWorld_at_new]
      have : ¬ (Lib.bytesCells w 5 s).size ≤ i := by omega
      simp [this]
  · exact ⟨rfl, rfl, rfl, by rw [Lib.bytesWorld_size]; omega, fun k hk => Lib.bytesWorld_at_old _ _ _ _ hk⟩
  · exact grownCap_ge _ _ _ _

theorem conv_bytes (w : World) (b off n cap : Nat) (l : List UInt8) (hn : n = l.length) (hc : ∀ i (h : i < l.length), w.cell? ⟨b, off + i, none⟩ = some (.int .u8 (l[i].toNat : Int))) :
    (convert 86 9 (.slice (some ⟨b, off, none⟩) n cap)).run Tryz.prog w = .ok (.string (S l)) w := by
  subst hn
  have h := run_convert_bytes_arg (P := Tryz.prog) w 86 5 Tryz.underlying86 Tryz.underlying5 b off l.length cap (l.map fun x => (x.toNat : Int)) (by simp)
    (fun i hi => by rw [hc i hi]; simp [List.getD, hi]) 9 Tryz.underlying9
  have hS : strOfNums (l.map fun x => (x.toNat : Int)) = S l := by
    unfold strOfNums S
    rw [List.map_map]
    have hm : l.map ((fun v : Int => UInt8.ofNat v.toNat) ∘ fun x : UInt8 => (x.toNat : Int)) = l := by
      conv => rhs; rw [← List.map_id l]
      apply List.map_congr_left
      intro x _
      show UInt8.ofNat ((x.toNat : Int).toNat) = x
      rw [Int.toNat_natCast]; exact UInt8.ofNat_toNat
    exact congrArg (fun z : List UInt8 => (⟨z.toArray⟩ : ByteArray)) hm
  rw [hS] at h
  exact h
theorem seal_res (l : List UInt8) : ofW (l ++ fourL (ofW l)) = ~~~ it 32 (~~~ (0 : W)) := by
  have h : ofW (l ++ fourL (ofW l)) = ~~~ it 32 (raw (~~~ 0) l ^^^ ~~~ raw (~~~ 0) l) := by
    conv => lhs; unfold ofW addW
    rw [raw_append, raw_fourL]
  have e : raw (~~~ 0) l ^^^ ~~~ raw (~~~ 0) l = ~~~ (0 : W) := by
    apply BitVec.eq_of_getLsbD_eq; intro i hi
    have z : (0 : W).getLsbD i = false := by simp
    rw [BitVec.getLsbD_xor, BitVec.getLsbD_not, BitVec.getLsbD_not, z]; simp [hi]
  rw [h, e]
theorem tog_none (l : List UInt8) (f : Nat) (p : W) : ∀ k, anyB p k = false → tog l f p k = l
  | 0, _ => rfl
  | k + 1, h => by
    have h2 : (anyB p k || p.getLsbD k) = false := h
    rw [Bool.or_eq_false_iff] at h2
    simp only [tog]
    rw [h2.2]
    exact tog_none l f p k h2.1
theorem turn_val (l : List UInt8) (q : Nat) (h : q / 8 < l.length) : bits .xor .u8 (l[q / 8].toNat : Int) ((2 : Int) ^ (q % 8) % (256 : Int)) = ((l.getD (q / 8) 0 ^^^ bit8 (q % 8)).toNat : Int) := by
  have hk : q % 8 < 8 := Nat.mod_lt _ (by omega)
  have h2 : 2 ^ (q % 8) < 2 ^ 8 := Nat.pow_lt_pow_right (by omega) hk
  have e : (2 : Int) ^ (q % 8) % (256 : Int) = ((2 ^ (q % 8) : Nat) : Int) := by
    generalize q % 8 = k at *
    have hc : k = 0 ∨ k = 1 ∨ k = 2 ∨ k = 3 ∨ k = 4 ∨ k = 5 ∨ k = 6 ∨ k = 7 := by omega
    rcases hc with rfl | rfl | rfl | rfl | rfl | rfl | rfl | rfl <;> rfl
  rw [e, u8_xor_nat _ _ (UInt8.toNat_lt _) h2, UInt8.toNat_xor, List.getD_eq_getElem?_getD, List.getElem?_eq_getElem h]
  congr 2
  unfold bit8; rw [UInt8.toNat_ofNat', Nat.mod_eq_of_lt h2]
theorem word_of {a : Int} (h : (Lit.int .u32 a).wf = true) : ∃ c : W, a = V c := by
  have h2 : 0 ≤ a ∧ a < 4294967296 := by simp [Lit.wf, IntKind.min, IntKind.max, IntKind.bits, IntKind.signed] at h; omega
  refine ⟨BitVec.ofNat 32 a.toNat, ?_⟩
  unfold V
  rw [BitVec.toNat_ofNat, Nat.mod_eq_of_lt (by omega)]; omega
theorem bytes_ne {a b : List UInt8} (h : ¬ a = b) : ((S a).toList == (S b).toList) = false := by
  rw [ByteArray.toList_eq, ByteArray.toList_eq]; exact beq_eq_false_iff_ne.2 h
theorem rem_ok (a : Int) (n : Nat) (h0 : 0 < n) (hn : n ≤ 100000) : ∃ f : Nat, f < n ∧ wrap64 ((IntKind.u64.wrap a).tmod (n : Int)) = (f : Int) := by
  have h1 : 0 ≤ IntKind.u64.wrap a := by rw [IntKind.wrap_u64]; exact Int.emod_nonneg _ (by decide)
  rw [Int.tmod_eq_emod_of_nonneg h1]
  have h2 := Int.emod_nonneg (IntKind.u64.wrap a) (show (n : Int) ≠ 0 by omega)
  have h3 := Int.emod_lt_of_pos (IntKind.u64.wrap a) (show 0 < (n : Int) by omega)
  generalize IntKind.u64.wrap a % (n : Int) = z at *
  exact ⟨z.toNat, by omega, by rw [IntWalk.wrap64_in z ⟨by omega, by omega⟩]; omega⟩
/-- **a manifest's bytes with a burst of at most 32 bits are none's** -/
theorem man_burst (g : Int) (l : List (Int × Int)) (f : Nat) (p : W) (k : Nat) (hk : k ≤ 32) (hf : f + k ≤ 8 * (manB g l).length) : tog (manB g l) f p k = manB g l ∨ rdM (tog (manB g l) f p k) = (42, 0, []) := by
  have hl : (tog (manB g l) f p k).length = (manB g l).length := tog_length _ _ _ _
  have h4 : 18 ≤ (manB g l).length := by rw [manB_length]; omega
  by_cases hs : (tog (manB g l) f p k).drop ((tog (manB g l) f p k).length - 4) = fourL (ofW ((tog (manB g l) f p k).take ((tog (manB g l) f p k).length - 4)))
  · left
    have h5 : tog (manB g l) f p k = (tog (manB g l) f p k).take ((tog (manB g l) f p k).length - 4) ++ fourL (ofW ((tog (manB g l) f p k).take ((tog (manB g l) f p k).length - 4))) := by
      rw [← hs]; exact (List.take_append_drop _ _).symm
    have h6 : ofW (tog (manB g l) f p k) = ofW (manB g l) := by
      rw [h5, seal_res]
      unfold manB
      rw [seal_res]
    exact tog_none _ _ _ _ ((burst_of (manB g l) f p k hk hf).1 h6.symm)
  · right
    unfold rdM
    rw [if_neg (by omega), if_neg hs]
end Go.Proofs.YticfnfekkmkclaaGreatDoor.Manif
