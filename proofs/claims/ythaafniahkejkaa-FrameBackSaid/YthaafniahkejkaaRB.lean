import Derived.Test.YthaafniahkejkaaRA
import Derived.Lib.BufferWrite
import Derived.Lib.ConvBytes
import Derived.Lib.SliceRun
import Derived.Laws.MakeOwn
/-
  Bursts: four bytes side by side that turn; a row of bytes that is written over; frames whose parts are other ones.
-/
namespace Go.Proofs.Ythaafniahkejkaa.Frame
open Go Go.RowKit
open Go.Proofs.Ythaafniahkejkaa.Crc (W ofW fourL raw addW raw_append raw_inj raw_fourL it_inj not_not Row8)
open Go.Proofs.Ythaafniahkejkaa.Wire (fixB be fixB_length be_fixB fixB_be be_lt S S_list S_size)

/-- four bytes are a number's -/
theorem four_of (d : List UInt8) (h : d.length = 4) : ∃ w : W, d = fourL w := by
  match d, h with
  | [b0, b1, b2, b3], _ =>
    have h0 := b0.toNat_lt; have h1 := b1.toNat_lt; have h2 := b2.toNat_lt; have h3 := b3.toNat_lt
    refine ⟨BitVec.ofNat 32 (b0.toNat + 256 * b1.toNat + 65536 * b2.toNat + 16777216 * b3.toNat), ?_⟩
    unfold fourL
    rw [BitVec.toNat_ofNat, Nat.mod_eq_of_lt (by omega)]
    have e : ∀ (x : Nat) (b : UInt8), x % 256 = b.toNat → UInt8.ofNat x = b := by
      intro x b hx
      apply UInt8.toNat_inj.1
      rw [UInt8.toNat_ofNat']; exact hx
    rw [e _ b0 (by omega), e _ b1 (by omega), e _ b2 (by omega), e _ b3 (by omega)]

theorem raw_four_inj {c : W} {d e : List UInt8} (hd : d.length = 4) (he : e.length = 4) (h : raw c d = raw c e) : d = e := by
  obtain ⟨x, rfl⟩ := four_of d hd
  obtain ⟨y, rfl⟩ := four_of e he
  rw [raw_fourL, raw_fourL] at h
  have h2 := it_inj h
  have h3 : c ^^^ (c ^^^ x) = c ^^^ (c ^^^ y) := by rw [h2]
  rw [← BitVec.xor_assoc, ← BitVec.xor_assoc, BitVec.xor_self, BitVec.zero_xor, BitVec.zero_xor] at h3
  rw [h3]
/-- **a burst of at most four bytes is told** -/
theorem burst4 (a z d e : List UInt8) (hl : d.length = e.length) (h4 : d.length ≤ 4) (h : ofW (a ++ (d ++ z)) = ofW (a ++ (e ++ z))) : d = e := by
  unfold ofW addW at h
  have h1 : raw (~~~ (0 : W)) (a ++ (d ++ z)) = raw (~~~ (0 : W)) (a ++ (e ++ z)) := by rw [← not_not (raw _ (a ++ (d ++ z))), h, not_not]
  rw [raw_append, raw_append, raw_append, raw_append] at h1
  have h2 := raw_inj h1
  have hz : ∀ q : List UInt8, raw (raw (raw (~~~ (0 : W)) a) d) q = raw (raw (raw (~~~ (0 : W)) a) e) q := fun q => by rw [h2]
  have h3 : raw (raw (~~~ (0 : W)) a) (d ++ List.replicate (4 - d.length) 0) = raw (raw (~~~ (0 : W)) a) (e ++ List.replicate (4 - d.length) 0) := by
    rw [raw_append, raw_append]; exact hz _
  have h5 := raw_four_inj (d := d ++ List.replicate (4 - d.length) 0) (e := e ++ List.replicate (4 - d.length) 0) (by rw [List.length_append, List.length_replicate]; omega) (by rw [List.length_append, List.length_replicate]; omega) h3
  exact (List.append_inj h5 hl).1

/-! ### bytes that are written over, one by one -/
def bur (L : List UInt8) (k : Nat) (g : Nat → UInt8) : Nat → List UInt8
  | 0 => L
  | i + 1 => (bur L k g i).set (k + i) (g i)
theorem bur_length (L : List UInt8) (k : Nat) (g : Nat → UInt8) : ∀ i, (bur L k g i).length = L.length
  | 0 => rfl
  | i + 1 => by rw [bur, List.length_set, bur_length L k g i]
theorem bur_is (L : List UInt8) (k : Nat) (g : Nat → UInt8) : ∀ i, k + i ≤ L.length → bur L k g i = L.take k ++ ((List.range i).map g ++ L.drop (k + i))
  | 0, _ => by simp [bur]
  | i + 1, h => by
    rw [bur, bur_is L k g i (by omega)]
    have h1 : (L.take k).length = k := by rw [List.length_take]; omega
    have h2 : ((List.range i).map g).length = i := by simp
    rw [List.set_append_right _ _ (by omega), h1, Nat.add_sub_cancel_left, List.set_append_right _ _ (by omega), h2, Nat.sub_self]
    rw [List.drop_eq_getElem_cons (show k + i < L.length by omega), List.set_cons_zero, List.range_succ, List.map_append]
    simp [Nat.add_assoc]
theorem bur_get (L : List UInt8) (k : Nat) (g : Nat → UInt8) : ∀ i j, i ≤ j → (bur L k g i)[k + j]? = L[k + j]?
  | 0, _, _ => rfl
  | i + 1, j, h => by
    rw [bur, List.getElem?_set_ne (by omega), bur_get L k g i j (by omega)]

/-- a row of bytes of the call's own -/
def Buf (w : World) (g : Nat) (l : List UInt8) : Prop := g < w.heap.size ∧ ∀ i (h : i < l.length), w.cell? ⟨g, i, none⟩ = some (.int .u8 (l[i].toNat : Int)) ∧ w.frozen? ⟨g, i, none⟩ = false
theorem Buf.below {w w' : World} {g : Nat} {l : List UInt8} (h : Buf w g l) (hb : Below w.heap.size w w') : Buf w' g l :=
  ⟨Nat.lt_of_lt_of_le h.1 hb.size, fun i hi => ⟨by rw [hb.cell (p := ⟨g, i, none⟩) h.1]; exact (h.2 i hi).1, by rw [hb.frozen (p := ⟨g, i, none⟩) h.1]; exact (h.2 i hi).2⟩⟩
theorem Buf.row {w : World} {g : Nat} {l : List UInt8} (h : Buf w g l) : Row8 w g 0 l := ⟨h.1, fun i hi => by rw [Nat.zero_add]; exact (h.2 i hi).1⟩
theorem Buf.take {w : World} {g : Nat} {l : List UInt8} (h : Buf w g l) (n : Nat) : Row8 w g 0 (l.take n) :=
  ⟨h.1, fun i hi => by
    have hi2 : i < l.length := by rw [List.length_take] at hi; omega
    rw [Nat.zero_add, List.getElem_take]; exact (h.2 i hi2).1⟩
theorem Buf.drop {w : World} {g : Nat} {l : List UInt8} (h : Buf w g l) (n : Nat) : Row8 w g n (l.drop n) :=
  ⟨h.1, fun i hi => by
    have hi2 : n + i < l.length := by rw [List.length_drop] at hi; omega
    rw [List.getElem_drop]; exact (h.2 (n + i) hi2).1⟩
/-- m laid over l from n on -/
def over_ (l : List UInt8) (n : Nat) (m : List UInt8) : List UInt8 := l.take n ++ m ++ l.drop (n + m.length)
theorem over_length (l : List UInt8) (n : Nat) (m : List UInt8) (h : n + m.length ≤ l.length) : (over_ l n m).length = l.length := by
  unfold over_; simp; omega
def vals (m : List UInt8) : List Value := m.map fun b : UInt8 => Value.int .u8 (b.toNat : Int)
theorem Buf.store {w : World} {g : Nat} {l : List UInt8} (h : Buf w g l) (n : Nat) (b : UInt8) (hn : n < l.length) : Buf (w.setCell ⟨g, n, none⟩ (.int .u8 (b.toNat : Int))) g (l.set n b) := by
  refine ⟨by rw [World.setCell]; simp; exact h.1, fun i hi => ?_⟩
  rw [List.length_set] at hi
  have hf : ∀ x, (w.setCell ⟨g, n, none⟩ (.int .u8 (b.toNat : Int))).frozen? x = w.frozen? x := fun x => World.frozen?_setCell _ _ _ _
  refine ⟨?_, by rw [hf]; exact (h.2 i hi).2⟩
  rw [List.getElem_set]
  by_cases e : n = i
  · subst e
    rw [if_pos rfl]
    exact World.cell?_setCell_same w _ _ ((h.2 n hn).1)
  · rw [if_neg e]
    rw [World.cell?_setCell_other w _ _ _ (by intro hc; exact e (congrArg Addr.off hc))]
    exact (h.2 i hi).1

theorem conv_string (w : World) (s : ByteArray) : ∃ (W : World) (cap : Nat), (convert 9 52 (.string s)).run Try.prog w = .ok (.slice (some ⟨w.heap.size, 0, none⟩) s.size cap) W ∧ Buf W w.heap.size s.data.toList ∧ Below w.heap.size w W ∧ s.size ≤ cap ∧ W.heap.size = w.heap.size + 1 := by
  have h := Lib.run_convert_string_bytes (P := Try.prog) w 9 52 5 s Try.underlying9 Try.underlying52 Try.underlying5
  refine ⟨_, _, h, ⟨by rw [Lib.bytesWorld_size]; omega, fun i hi => ?_⟩, ?_, ?_, Lib.bytesWorld_size _ _ _⟩
  · have hi2 : i < s.size := by simpa using hi
    refine ⟨?_, ?_⟩
    · rw [Lib.bytesWorld_cell w _ s i hi2, List.getD_eq_getElem?_getD, List.getElem?_eq_getElem hi]; rfl
    · have hsz : s.size ≤ (Lib.bytesCells w 5 s).size := by
        unfold Lib.bytesCells; rw [Array.size_append, Array.size_map]; exact Nat.le_add_right _ _
      simp only [World.frozen?, Lib.bytesWorld_at_new]
      have : ¬ (Lib.bytesCells w 5 s).size ≤ i := by omega
      simp [this]
  · exact ⟨rfl, rfl, rfl, by rw [Lib.bytesWorld_size]; omega, fun k hk => Lib.bytesWorld_at_old _ _ _ _ hk⟩
  · exact grownCap_ge _ _ _ _

theorem conv_bytes (w : World) (b off n cap : Nat) (l : List UInt8) (hn : n = l.length) (hc : ∀ i (h : i < l.length), w.cell? ⟨b, off + i, none⟩ = some (.int .u8 (l[i].toNat : Int))) :
    (convert 52 9 (.slice (some ⟨b, off, none⟩) n cap)).run Try.prog w = .ok (.string (S l)) w := by
  subst hn
  have h := run_convert_bytes_arg (P := Try.prog) w 52 5 Try.underlying52 Try.underlying5 b off l.length cap (l.map fun x => (x.toNat : Int)) (by simp)
    (fun i hi => by rw [hc i hi]; simp [List.getD, hi]) 9 Try.underlying9
  rw [h]
  congr 2
  unfold strOfNums S
  rw [List.map_map]
  congr 2
  conv => rhs; rw [← List.map_id l]
  apply List.map_congr_left
  intro x _
  show UInt8.ofNat ((x.toNat : Int).toNat) = x
  rw [Int.toNat_natCast]; exact UInt8.ofNat_toNat


end Go.Proofs.Ythaafniahkejkaa.Frame
