import Derived.Test.YtkjnddgjnlbopaaFI
import Derived.Lib.BufferWrite
import Derived.Lib.ConvBytes
import Derived.Lib.SliceRun
import Derived.Laws.MakeOwn
import Derived.Test.YtkjnddgjnlbopaaFT
import Derived.Deep.DeepCutAuto
/-
  The walk of the statement FrameOne.
-/
namespace Go.Proofs.Ytkjnddgjnlbopaa.Frame
open Go Go.RowKit
open Go.Proofs.Ytkjnddgjnlbopaa.Wire (S S_list S_size cell_row frozen_row)

theorem S_data (s : ByteArray) : S s.data.toList = s := rfl
theorem i64_of {a : Int} (h : (Lit.int .i64 a).wf = true) : -9223372036854775808 ≤ a ∧ a ≤ 9223372036854775807 := by
  simp [Lit.wf, IntKind.min, IntKind.max, IntKind.bits, IntKind.signed] at h; omega
end Go.Proofs.Ytkjnddgjnlbopaa.Frame

/-
  The document's own Make; the walk of the statement FrameMakes.
-/
namespace Go.Proofs.Ytkjnddgjnlbopaa.Frame
open Go Go.RowKit
open Go.Proofs.Ytkjnddgjnlbopaa.Crc (V ofW fourL refOf_any)
open Go.Proofs.Ytkjnddgjnlbopaa.Wire (S S_list S_size S_append U fixB fixB_length lowB lowB_length refLow_any cell_row frozen_row)

theorem S_app (l m : List UInt8) : S l ++ S m = S (l ++ m) := S_append l m
end Go.Proofs.Ytkjnddgjnlbopaa.Frame

/-
  Bursts: four bytes side by side that turn; a row of bytes that is written over; frames whose parts are other ones.
-/
namespace Go.Proofs.Ytkjnddgjnlbopaa.Frame
open Go Go.RowKit
open Go.Proofs.Ytkjnddgjnlbopaa.Crc (W ofW fourL raw addW raw_append raw_inj raw_fourL it_inj not_not Row8)
open Go.Proofs.Ytkjnddgjnlbopaa.Wire (fixB be fixB_length be_fixB fixB_be be_lt S S_list S_size)

/-- four bytes are a number's -/
theorem four_of (d : List UInt8) (h : d.length = 4) : ∃ w : W, d = fourL w := by
  match d, h with
  | [b0, b1, b2, b3], _ =>
    have h0 := b0.toNat_lt; have h1 := b1.toNat_lt; have h2 := b2.toNat_lt; have h3 := b3.toNat_lt
    refine ⟨BitVec.ofNat 32 (b0.toNat + 256 * b1.toNat + 65536 * b2.toNat + 16777216 * b3.toNat), ?_⟩
    unfold fourL
    rw [BitVec.toNat_ofNat, Nat.mod_eq_of_lt (by omega)]
    have e : ∀ (x : Nat) (b : UInt8), x % 256 = b.toNat → UInt8.ofNat x = b := by
      intro x b hx
      apply UInt8.toNat_inj.1
      rw [UInt8.toNat_ofNat']; exact hx
    rw [e _ b0 (by omega), e _ b1 (by omega), e _ b2 (by omega), e _ b3 (by omega)]

theorem raw_four_inj {c : W} {d e : List UInt8} (hd : d.length = 4) (he : e.length = 4) (h : raw c d = raw c e) : d = e := by
  obtain ⟨x, rfl⟩ := four_of d hd
  obtain ⟨y, rfl⟩ := four_of e he
  rw [raw_fourL, raw_fourL] at h
  have h2 := it_inj h
  have h3 : c ^^^ (c ^^^ x) = c ^^^ (c ^^^ y) := by rw [h2]
  rw [← BitVec.xor_assoc, ← BitVec.xor_assoc, BitVec.xor_self, BitVec.zero_xor, BitVec.zero_xor] at h3
  rw [h3]
/-- **a burst of at most four bytes is told** -/
theorem burst4 (a z d e : List UInt8) (hl : d.length = e.length) (h4 : d.length ≤ 4) (h : ofW (a ++ (d ++ z)) = ofW (a ++ (e ++ z))) : d = e := by
  unfold ofW addW at h
  have h1 : raw (~~~ (0 : W)) (a ++ (d ++ z)) = raw (~~~ (0 : W)) (a ++ (e ++ z)) := by rw [← not_not (raw _ (a ++ (d ++ z))), h, not_not]
  rw [raw_append, raw_append, raw_append, raw_append] at h1
  have h2 := raw_inj h1
  have hz : ∀ q : List UInt8, raw (raw (raw (~~~ (0 : W)) a) d) q = raw (raw (raw (~~~ (0 : W)) a) e) q := fun q => by rw [h2]
  have h3 : raw (raw (~~~ (0 : W)) a) (d ++ List.replicate (4 - d.length) 0) = raw (raw (~~~ (0 : W)) a) (e ++ List.replicate (4 - d.length) 0) := by
    rw [raw_append, raw_append]; exact hz _
  have h5 := raw_four_inj (d := d ++ List.replicate (4 - d.length) 0) (e := e ++ List.replicate (4 - d.length) 0) (by rw [List.length_append, List.length_replicate]; omega) (by rw [List.length_append, List.length_replicate]; omega) h3
  exact (List.append_inj h5 hl).1

/-! ### bytes that are written over, one by one -/
def bur (L : List UInt8) (k : Nat) (g : Nat → UInt8) : Nat → List UInt8
  | 0 => L
  | i + 1 => (bur L k g i).set (k + i) (g i)
theorem bur_length (L : List UInt8) (k : Nat) (g : Nat → UInt8) : ∀ i, (bur L k g i).length = L.length
  | 0 => rfl
  | i + 1 => by rw [bur, List.length_set, bur_length L k g i]
theorem bur_is (L : List UInt8) (k : Nat) (g : Nat → UInt8) : ∀ i, k + i ≤ L.length → bur L k g i = L.take k ++ ((List.range i).map g ++ L.drop (k + i))
  | 0, _ => by simp [bur]
  | i + 1, h => by
    rw [bur, bur_is L k g i (by omega)]
    have h1 : (L.take k).length = k := by rw [List.length_take]; omega
    have h2 : ((List.range i).map g).length = i := by simp
    rw [List.set_append_right _ _ (by omega), h1, Nat.add_sub_cancel_left, List.set_append_right _ _ (by omega), h2, Nat.sub_self]
    rw [List.drop_eq_getElem_cons (show k + i < L.length by omega), List.set_cons_zero, List.range_succ, List.map_append]
    simp [Nat.add_assoc]
theorem bur_get (L : List UInt8) (k : Nat) (g : Nat → UInt8) : ∀ i j, i ≤ j → (bur L k g i)[k + j]? = L[k + j]?
  | 0, _, _ => rfl
  | i + 1, j, h => by
    rw [bur, List.getElem?_set_ne (by omega), bur_get L k g i j (by omega)]

/-- a row of bytes of the call's own -/
def Buf (w : World) (g : Nat) (l : List UInt8) : Prop := g < w.heap.size ∧ ∀ i (h : i < l.length), w.cell? ⟨g, i, none⟩ = some (.int .u8 (l[i].toNat : Int)) ∧ w.frozen? ⟨g, i, none⟩ = false
theorem Buf.below {w w' : World} {g : Nat} {l : List UInt8} (h : Buf w g l) (hb : Below w.heap.size w w') : Buf w' g l :=
  ⟨Nat.lt_of_lt_of_le h.1 hb.size, fun i hi => ⟨by rw [hb.cell (p := ⟨g, i, none⟩) h.1]; exact (h.2 i hi).1, by rw [hb.frozen (p := ⟨g, i, none⟩) h.1]; exact (h.2 i hi).2⟩⟩
theorem Buf.row {w : World} {g : Nat} {l : List UInt8} (h : Buf w g l) : Row8 w g 0 l := ⟨h.1, fun i hi => by rw [Nat.zero_add]; exact (h.2 i hi).1⟩
theorem Buf.take {w : World} {g : Nat} {l : List UInt8} (h : Buf w g l) (n : Nat) : Row8 w g 0 (l.take n) :=
  ⟨h.1, fun i hi => by
    have hi2 : i < l.length := by rw [List.length_take] at hi; omega
    rw [Nat.zero_add, List.getElem_take]; exact (h.2 i hi2).1⟩
theorem Buf.drop {w : World} {g : Nat} {l : List UInt8} (h : Buf w g l) (n : Nat) : Row8 w g n (l.drop n) :=
  ⟨h.1, fun i hi => by
    have hi2 : n + i < l.length := by rw [List.length_drop] at hi; omega
    rw [List.getElem_drop]; exact (h.2 (n + i) hi2).1⟩
/-- m laid over l from n on -/
def over_ (l : List UInt8) (n : Nat) (m : List UInt8) : List UInt8 := l.take n ++ m ++ l.drop (n + m.length)
theorem over_length (l : List UInt8) (n : Nat) (m : List UInt8) (h : n + m.length ≤ l.length) : (over_ l n m).length = l.length := by
  unfold over_; simp; omega
def vals (m : List UInt8) : List Value := m.map fun b : UInt8 => Value.int .u8 (b.toNat : Int)
theorem Buf.store {w : World} {g : Nat} {l : List UInt8} (h : Buf w g l) (n : Nat) (b : UInt8) (hn : n < l.length) : Buf (w.setCell ⟨g, n, none⟩ (.int .u8 (b.toNat : Int))) g (l.set n b) := by
  refine ⟨by rw [World.setCell]; simp; exact h.1, fun i hi => ?_⟩
  rw [List.length_set] at hi
  have hf : ∀ x, (w.setCell ⟨g, n, none⟩ (.int .u8 (b.toNat : Int))).frozen? x = w.frozen? x := fun x => World.frozen?_setCell _ _ _ _
  refine ⟨?_, by rw [hf]; exact (h.2 i hi).2⟩
  rw [List.getElem_set]
  by_cases e : n = i
  · subst e
    rw [if_pos rfl]
    exact World.cell?_setCell_same w _ _ ((h.2 n hn).1)
  · rw [if_neg e]
    rw [World.cell?_setCell_other w _ _ _ (by intro hc; exact e (congrArg Addr.off hc))]
    exact (h.2 i hi).1

theorem conv_string (w : World) (s : ByteArray) : ∃ (W : World) (cap : Nat), (convert 9 110 (.string s)).run Try.prog w = .ok (.slice (some ⟨w.heap.size, 0, none⟩) s.size cap) W ∧ Buf W w.heap.size s.data.toList ∧ Below w.heap.size w W ∧ s.size ≤ cap ∧ W.heap.size = w.heap.size + 1 := by
  have h := Lib.run_convert_string_bytes (P := Try.prog) w 9 110 5 s Try.underlying9 Try.underlying110 Try.underlying5
  refine ⟨_, _, h, ⟨by rw [Lib.bytesWorld_size]; omega, fun i hi => ?_⟩, ?_, ?_, Lib.bytesWorld_size _ _ _⟩
  · have hi2 : i < s.size := by simpa using hi
    refine ⟨?_, ?_⟩
    · rw [Lib.bytesWorld_cell w _ s i hi2, List.getD_eq_getElem?_getD, List.getElem?_eq_getElem hi]; rfl
    · have hsz : s.size ≤ (Lib.bytesCells w 5 s).size := by
        unfold Lib.bytesCells; rw [Array.size_append, Array.size_map]; exact Nat.le_add_right _ _
      simp only [World.frozen?, Lib.bytesWorld_at_new]
      have : ¬ (Lib.bytesCells w 5 s).size ≤ i := by omega
      simp [this]
  · exact ⟨rfl, rfl, rfl, by rw [Lib.bytesWorld_size]; omega, fun k hk => Lib.bytesWorld_at_old _ _ _ _ hk⟩
  · exact grownCap_ge _ _ _ _

theorem conv_bytes (w : World) (b off n cap : Nat) (l : List UInt8) (hn : n = l.length) (hc : ∀ i (h : i < l.length), w.cell? ⟨b, off + i, none⟩ = some (.int .u8 (l[i].toNat : Int))) :
    (convert 110 9 (.slice (some ⟨b, off, none⟩) n cap)).run Try.prog w = .ok (.string (S l)) w := by
  subst hn
  have h := run_convert_bytes_arg (P := Try.prog) w 110 5 Try.underlying110 Try.underlying5 b off l.length cap (l.map fun x => (x.toNat : Int)) (by simp)
    (fun i hi => by rw [hc i hi]; simp [List.getD, hi]) 9 Try.underlying9
  have hS : strOfNums (l.map fun x => (x.toNat : Int)) = S l := by
    unfold strOfNums S
    rw [List.map_map]
    have hm : l.map ((fun v : Int => UInt8.ofNat v.toNat) ∘ fun x : UInt8 => (x.toNat : Int)) = l := by
      conv => rhs; rw [← List.map_id l]
      apply List.map_congr_left
      intro x _
      show UInt8.ofNat ((x.toNat : Int).toNat) = x
      rw [Int.toNat_natCast]; exact UInt8.ofNat_toNat
    exact congrArg (fun z : List UInt8 => (⟨z.toArray⟩ : ByteArray)) hm
  rw [hS] at h
  exact h


end Go.Proofs.Ytkjnddgjnlbopaa.Frame

/-
  The law's own helpers: refused; many.
-/
namespace Go.Proofs.Ytkjnddgjnlbopaa.Frame
open Go Go.RowKit
open Go.Proofs.Ytkjnddgjnlbopaa.Wire (S S_list S_size be cell_row frozen_row)

theorem rdV_no {s : ByteArray} {i : Int} (h : i < 0 ∨ (s.size : Int) < i) : rdV s i = .tuple #[frV 0 [] 0, .int .i64 0, .int .i64 ((1 : Nat) : Int)] := by
  unfold rdV; rw [if_neg (by omega)]; rfl
theorem rdV_at {l : List UInt8} {k x : Nat} (hk : k ≤ l.length) (h : rdE (l.drop k) = x) (hx : ¬ x = 0) : rdV (S l) (k : Int) = .tuple #[frV 0 [] 0, .int .i64 0, .int .i64 (x : Int)] := by
  unfold rdV
  rw [if_pos ⟨by omega, by rw [S_size]; omega⟩, S_list, Int.toNat_natCast, h, if_neg hx]

/-! ### many -/
theorem small64 (i : Nat) (h : i ≤ 1000000000) : wrap64 ((i : Int) + 1) = (i : Int) + 1 := IntWalk.wrap64_in _ ⟨by omega, by omega⟩
def man (n : Nat) (c : UInt8) (i : Nat) : List UInt8 := List.replicate i c ++ List.replicate (n - i) 0
theorem man_length {n i : Nat} (c : UInt8) (h : i ≤ n) : (man n c i).length = n := by unfold man; rw [List.length_append, List.length_replicate, List.length_replicate]; omega
theorem man_set {n i : Nat} (c : UInt8) (h : i < n) : (man n c i).set i c = man n c (i + 1) := by
  unfold man
  rw [List.set_append_right _ _ (by rw [List.length_replicate]; exact Nat.le_refl _), List.length_replicate, Nat.sub_self, show n - i = (n - (i + 1)) + 1 by omega, List.replicate_succ, List.set_cons_zero, List.replicate_succ']
  simp
theorem man_zero (n : Nat) (c : UInt8) : man n c 0 = List.replicate n 0 := by unfold man; simp
theorem man_all (n : Nat) (c : UInt8) : man n c n = List.replicate n c := by unfold man; rw [Nat.sub_self]; simp
def mkz (n : Nat) : Array Value := madeCells #[.int .u8 0] n
theorem info8 : (Try.prog.info? 5).map (fun i => (i.zero, i.size, i.bytes)) = some (some (.int .u8 0), 1, 1) := by kernel_rfl
theorem run_mk8 (n : Nat) (hn : n ≤ 10000) (W : World) : (Instr.makeSlice 110 (.int .i64 (n : Int)) (.int .i64 (n : Int))).run Try.prog W = .ok (.slice (some ⟨W.heap.size, 0, none⟩) n n) (W.alloc (.cells (mkz n) 5)) := by
  obtain ⟨i0, hi, hz0, hz1, hz2⟩ := info_parts info8
  have h := run_make (P := Try.prog) W 110 5 i0 (.int .u8 0) Try.underlying110 hi hz0 .i64 .i64 (n : Int) (n : Int) (by omega) (by omega) (by rw [hz2]; omega) (by omega)
  rw [hz1, Int.toNat_natCast, Nat.mul_one] at h
  exact h
theorem buf_mk8 (n : Nat) (W : World) : Buf (W.alloc (.cells (mkz n) 5)) W.heap.size (List.replicate n 0) := by
  refine ⟨by simp, fun i hi => ?_⟩
  rw [List.length_replicate] at hi
  have hb := heap_alloc_new W (.cells (mkz n) 5)
  refine ⟨?_, frozen_row hb i⟩
  rw [cell_row hb]
  have hs : i < (mkz n).size := by unfold mkz; rw [size_madeCells]; exact hi
  rw [Array.getElem?_eq_getElem hs]
  simp [mkz, madeCells, Nat.mod_one]
end Go.Proofs.Ytkjnddgjnlbopaa.Frame

/-
  Make of texts of any length; rows of numbers of one's own; the mathematics of the statement FrameBack.
-/
namespace Go.Proofs.Ytkjnddgjnlbopaa.Frame
open Go Go.RowKit
open Go.Proofs.Ytkjnddgjnlbopaa.Wire (S S_list S_size cell_row frozen_row row_lt)

set_option maxRecDepth 100000 in
set_option maxHeartbeats 1000000 in
theorem Make_all (q : Int) (s : ByteArray) (w : World) :
    Calls Try.prog 28 #[.int .i64 q, .string s] w fun e w' => e = mkV q s ∧ Below w.heap.size w w' := by
  by_cases hb : s.size ≤ 1000000000000
  · exact Make_any q s hb w
  · have HMQ := fun W => mayNumber_any q W
    have HB0 := Lib.hid (Below.refl w.heap.size w)
    by_cases hq : 0 ≤ q ∧ q < 1048576
    · have hm : mayQ q = true := decide_eq_true hq
      have hne : ¬ s.toList = [] := fun h => by rw [ByteArray.toList_eq] at h; have := s_len s; rw [h] at this; simp at this; omega
      have hne2 : (s.toList == []) = false := beq_eq_false_iff_ne.2 hne
      have h1 : 4096 < s.size := by omega
      have hz : ¬ s.size = 0 := by omega
      have hV : mkV q s = .returned (.tuple #[.string ByteArray.empty, .int .i64 40]) := by
        unfold mkV mkB mkE; rw [if_pos hq, s_len, if_neg hz, if_pos h1]; rfl
      have HV := Lib.hid hV
      clear hV
      rw [hm] at HMQ
      go_enter Try.func28, Try.ntmps28
      go_wp2_with (go_at_call 52; refine (HMQ _).mono ?_; rintro e w1 ⟨rfl, rfl⟩)
      go_ret2
      exact ⟨HV.out.symm, HB0.out⟩
    · have hm : mayQ q = false := decide_eq_false hq
      have hV : mkV q s = .returned (.tuple #[.string ByteArray.empty, .int .i64 1]) := by
        unfold mkV mkB mkE; rw [if_neg hq]; rfl
      have HV := Lib.hid hV
      clear hV
      rw [hm] at HMQ
      go_enter Try.func28, Try.ntmps28
      go_wp2_with (go_at_call 52; refine (HMQ _).mono ?_; rintro e w1 ⟨rfl, rfl⟩)
      go_ret2
      exact ⟨HV.out.symm, HB0.out⟩

/-! ### rows of numbers of one's own -/
def valsN (l : List Nat) : List Value := l.map fun n : Nat => Value.int .i64 (n : Int)
def OwnN (w : World) (base : Nat) (v : Value) (l : List Nat) : Prop := w.ownsRow base 3 1 v l.length (valsN l)
theorem infoN : (Try.prog.info? 3).map (fun i => (i.zero, i.size, i.bytes)) = some (some (.int .i64 0), 1, 8) := by kernel_rfl
theorem OwnN.nil (w : World) (base : Nat) : OwnN w base (.slice none 0 0) [] := ⟨rfl, Or.inl ⟨rfl, rfl⟩⟩
theorem OwnN.row {w : World} {base : Nat} {v : Value} {l : List Nat} (h : OwnN w base v l) : ∃ A cap, v = .slice A l.length cap ∧ l.length ≤ cap ∧ (∀ j (hj : j < l.length), ∃ g, A = some ⟨g, 0, none⟩ ∧ g < w.heap.size ∧ base ≤ g ∧ w.cell? ⟨g, j, none⟩ = some (.int .i64 (l[j] : Int))) := by
  rcases h.2 with ⟨rfl, hn⟩ | ⟨g, cap, cur, rfl, hb, hg, h1, h2, h3, h4⟩
  · exact ⟨none, 0, by rw [hn], by omega, fun j hj => by omega⟩
  · refine ⟨some ⟨g, 0, none⟩, cap, rfl, h1, fun j hj => ⟨g, rfl, row_lt hg, hb, ?_⟩⟩
    rw [cell_row hg, ← Array.getElem?_toList]
    have e : cur.toList[j]? = (cur.toList.take (l.length * 1))[j]? := by rw [List.getElem?_take, if_pos (by omega)]
    rw [e, h4]
    unfold valsN; simp [hj]
theorem OwnN.below {w w' : World} {base : Nat} {v : Value} {l : List Nat} (h : OwnN w base v l) (hb : Below w.heap.size w w') : OwnN w' base v l := by
  obtain ⟨h1, h2⟩ := h
  refine ⟨h1, ?_⟩
  rcases h2 with h2 | ⟨b, cap, cur, e, hbg, hh, r⟩
  · exact Or.inl h2
  · exact Or.inr ⟨b, cap, cur, e, hbg, (hb.block b (row_lt hh)).trans hh, r⟩

/-! ### mathematics -/
def bytesP (P : List ByteArray) : List (List UInt8) := P.map fun s => s.data.toList
theorem bytesP_len (P : List ByteArray) : (bytesP P).length = P.length := by unfold bytesP; simp
theorem bytesP_at (P : List ByteArray) (j : Nat) (h : j < P.length) : (bytesP P)[j]'(by rw [bytesP_len]; exact h) = P[j].data.toList := by unfold bytesP; simp
/-- where each frame ends -/
def endsB (q : Nat) (ps : List (List UInt8)) : List Nat := (List.range ps.length).map fun j => (rowB q (ps.take (j + 1))).length
theorem endsB_len (q : Nat) (ps : List (List UInt8)) : (endsB q ps).length = ps.length := by unfold endsB; simp
theorem endsB_at (q : Nat) (ps : List (List UInt8)) (j : Nat) (h : j < (endsB q ps).length) : (endsB q ps)[j] = (rowB q (ps.take (j + 1))).length := by simp [endsB]
theorem endsB_snoc (q : Nat) (ps : List (List UInt8)) (p : List UInt8) : endsB q (ps ++ [p]) = endsB q ps ++ [(rowB q (ps ++ [p])).length] := by
  unfold endsB
  rw [List.length_append, List.length_singleton, List.range_succ, List.map_append]
  congr 1
  · apply List.map_congr_left
    intro j hj
    have := List.mem_range.1 hj
    rw [List.take_append_of_le_length (by omega)]
  · simp only [List.map_cons, List.map_nil]
    rw [List.take_of_length_le (by rw [List.length_append]; simp)]
theorem rowB_len_take_le (q : Nat) (ps : List (List UInt8)) (a b : Nat) (h : a ≤ b) : (rowB q (ps.take a)).length ≤ (rowB q (ps.take b)).length := by
  have e : ps.take b = ps.take a ++ (ps.drop a).take (b - a) := by
    rw [← List.take_add, show a + (b - a) = b by omega]
  rw [e, rowB_append, List.length_append]; omega
/-- how many are whole, said by where they end -/
theorem wholeN_iff : ∀ (ps : List (List UInt8)) (q k j : Nat), j ≤ ps.length → (j ≤ wholeN ps k ↔ (rowB q (ps.take j)).length ≤ k)
  | [], q, k, j, h => by
    have : j = 0 := by simpa using h
    subst this; simp [rowB, wholeN]
  | p :: r, q, k, 0, _ => by simp [rowB]
  | p :: r, q, k, j + 1, h => by
    rw [List.take_succ_cons, rowB, List.length_append, frB_length]
    have ih := wholeN_iff r (q + 1) (k - (16 + p.length)) j (by simpa using h)
    unfold wholeN
    split
    · rename_i hk
      rw [show (j + 1 ≤ 1 + wholeN r (k - (16 + p.length))) ↔ (j ≤ wholeN r (k - (16 + p.length))) by omega, ih]
      omega
    · omega
theorem rowF_take : ∀ (ps : List (List UInt8)) (q i m : Nat), rowF q i (ps.take m) = (rowF q i ps).take m
  | [], q, i, m => by simp [rowF]
  | p :: r, q, i, 0 => by simp [rowF]
  | p :: r, q, i, m + 1 => by rw [List.take_succ_cons, rowF, rowF, List.take_succ_cons, rowF_take r]
/-- how many bytes the first ones' frames have -/
def RB (xs : List ByteArray) (i : Nat) : Nat := (rowB 0 ((bytesP xs).take i)).length
theorem RB_zero (xs : List ByteArray) : RB xs 0 = 0 := by unfold RB; rw [List.take_zero]; rfl
theorem RB_succ (xs : List ByteArray) (i : Nat) (h : i < xs.length) : RB xs (i + 1) = RB xs i + (16 + xs[i].size) := by
  unfold RB
  have hb : i < (bytesP xs).length := by rw [bytesP_len]; exact h
  rw [List.take_succ_eq_append_getElem hb, rowB_append, List.length_append]
  congr 1
  rw [rowB, rowB, List.append_nil, frB_length, bytesP_at xs i h, s_len]
theorem RB_any (xs : List ByteArray) (q i : Nat) : (rowB q ((bytesP xs).take i)).length = RB xs i := rowB_length _ _ _
def Small (xs : List ByteArray) (i : Nat) : Prop := ∀ j (h : j < xs.length), j < i → xs[j].size ≤ 4096
/-- what has been made -/
structure Good (xs : List ByteArray) (first : Int) (i : Nat) : Prop where
  low : 0 < i → 0 ≤ first
  top : 0 < i → first + i ≤ 1048576
  ok : ∀ j (h : j < xs.length), j < i → 1 ≤ xs[j].size ∧ xs[j].size ≤ 4096
theorem Good.bound {xs : List ByteArray} {first : Int} {i : Nat} (h : Good xs first i) : i ≤ 1048576 := by
  by_cases h0 : 0 < i
  · have := h.low h0; have := h.top h0; omega
  · omega
theorem Good.bytes {xs : List ByteArray} {first : Int} : ∀ (i : Nat), i ≤ xs.length → Good xs first i → RB xs i ≤ i * 4112
  | 0, _, _ => by rw [RB_zero]; exact Nat.zero_le _
  | i + 1, hi, h => by
    have h2 : Good xs first i := ⟨fun h0 => h.low (by omega), fun h0 => by have := h.top (by omega); omega, fun j hj hji => h.ok j hj (by omega)⟩
    have := Good.bytes i (by omega) h2
    have h3 := h.ok i (by omega) (by omega)
    rw [RB_succ xs i (by omega)]; omega
theorem Good.next {xs : List ByteArray} {first : Int} {i : Nat} (h : Good xs first i) (hi : i < xs.length) (hf : -9223372036854775808 ≤ first ∧ first ≤ 9223372036854775807) (hm : mkE (wrap64 (first + i)) xs[i].data.toList = 0) :
    Good xs first (i + 1) ∧ wrap64 (first + i) = ((first.toNat + i : Nat) : Int) := by
  obtain ⟨h1, h2, h3, h4⟩ := mkE_zero hm
  rw [s_len] at h3 h4
  have hq : wrap64 (first + i) = first + i := by
    by_cases h0 : 0 < i
    · have ha := h.low h0; have hb := h.top h0
      exact IntWalk.wrap64_in _ ⟨by omega, by omega⟩
    · have hi0 : i = 0 := by omega
      subst hi0
      exact IntWalk.wrap64_in _ ⟨by simpa using hf.1, by simpa using hf.2⟩
  rw [hq] at h1 h2 ⊢
  have hlow : 0 ≤ first := by
    by_cases h0 : 0 < i
    · exact h.low h0
    · have : i = 0 := by omega
      subst this; simpa using h1
  refine ⟨⟨fun _ => hlow, fun _ => by have : ((i + 1 : Nat) : Int) = (i : Int) + 1 := by omega
                                      rw [this]; omega, fun j hj hji => ?_⟩, by omega⟩
  by_cases hj2 : j < i
  · exact h.ok j hj hj2
  · have : j = i := by omega
    subst this; exact ⟨h3, h4⟩
theorem row_next (xs : List ByteArray) (q i : Nat) (h : i < xs.length) : rowB q ((bytesP xs).take (i + 1)) = rowB q ((bytesP xs).take i) ++ frB (q + i) xs[i].data.toList := by
  have hb : i < (bytesP xs).length := by rw [bytesP_len]; exact h
  rw [List.take_succ_eq_append_getElem hb, rowB_append, List.length_take, Nat.min_eq_left (by omega), rowB, rowB, List.append_nil, bytesP_at xs i h]
theorem ends_next (xs : List ByteArray) (q i : Nat) (h : i < xs.length) : endsB q ((bytesP xs).take (i + 1)) = endsB q ((bytesP xs).take i) ++ [RB xs (i + 1)] := by
  have hb : i < (bytesP xs).length := by rw [bytesP_len]; exact h
  have e := List.take_succ_eq_append_getElem hb
  rw [e, endsB_snoc, ← e, RB_any]
theorem Good.all {xs : List ByteArray} {first : Int} (h : Good xs first xs.length) (h0 : 0 < xs.length) : okP first.toNat (bytesP xs) ∧ ((first.toNat : Nat) : Int) = first := by
  have h1 := h.low h0
  have h2 := h.top h0
  refine ⟨⟨by rw [bytesP_len]; omega, fun p hp => ?_⟩, by omega⟩
  unfold bytesP at hp
  obtain ⟨s, hs, rfl⟩ := List.mem_map.1 hp
  obtain ⟨j, hj, rfl⟩ := List.getElem_of_mem hs
  have := h.ok j hj hj
  rw [s_len]; exact this
theorem nil_of {xs : List ByteArray} (h : ¬ 0 < xs.length) : bytesP xs = [] := List.eq_nil_of_length_eq_zero (by rw [bytesP_len]; omega)
theorem scan_good {xs : List ByteArray} {first : Int} (h : Good xs first xs.length) (m : List UInt8) : ∃ M, scanF (rowB first.toNat (bytesP xs) ++ m) 0 first = rowF first.toNat 0 (bytesP xs) ++ M ∧ (m = [] → M = []) := by
  by_cases h0 : 0 < xs.length
  · obtain ⟨h1, h2⟩ := h.all h0
    refine ⟨_, by conv => lhs; rw [← h2]
                  exact scan_row (bytesP xs) first.toNat 0 m h1, fun hm => by rw [hm]; rfl⟩
  · rw [nil_of h0]
    exact ⟨scanF m 0 first, rfl, fun hm => by rw [hm]; rfl⟩
theorem scan_goodcut {xs : List ByteArray} {first : Int} (h : Good xs first xs.length) (k : Nat) : scanF ((rowB first.toNat (bytesP xs)).take k) 0 first = rowF first.toNat 0 ((bytesP xs).take (wholeN (bytesP xs) k)) := by
  by_cases h0 : 0 < xs.length
  · obtain ⟨h1, h2⟩ := h.all h0
    conv => lhs; rw [← h2]
    exact scan_cut (bytesP xs) first.toNat 0 k h1
  · rw [nil_of h0]
    simp [rowB, rowF, scan_nil, wholeN]
/-- numbers that lie in a row -/
def RowN (w : World) (A : Option Addr) (l : List Nat) : Prop := ∀ j (h : j < l.length), ∃ g, A = some ⟨g, 0, none⟩ ∧ g < w.heap.size ∧ w.cell? ⟨g, j, none⟩ = some (.int .i64 (l[j] : Int))
theorem RowN.below {w w' : World} {A : Option Addr} {l : List Nat} (h : RowN w A l) (hb : Below w.heap.size w w') : RowN w' A l := fun j hj => by
  obtain ⟨g, e, h1, h2⟩ := h j hj
  exact ⟨g, e, Nat.lt_of_lt_of_le h1 hb.size, (hb.cell (p := ⟨g, j, none⟩) h1).trans h2⟩
/-- what lies there: the payloads, the frames, where they end -/
structure Bk (w wr : World) (A A1 A2 : Option Addr) (xs : List ByteArray) (q : Nat) : Prop where
  strs : Strs wr A xs
  row : RowFr wr A1 (rowF q 0 (bytesP xs))
  ends : RowN wr A2 (endsB q (bytesP xs))
  bel : Below w.heap.size w wr
theorem Bk.below {w wr w' : World} {A A1 A2 : Option Addr} {xs : List ByteArray} {q : Nat} (h : Bk w wr A A1 A2 xs q) (hb : Below wr.heap.size wr w') : Bk w w' A A1 A2 xs q :=
  ⟨h.strs.below hb, h.row.below hb, h.ends.below hb, h.bel.trans (hb.mono h.bel.size)⟩
theorem Bk.at {w wr : World} {A A1 A2 : Option Addr} {xs : List ByteArray} {q : Nat} (h : Bk w wr A A1 A2 xs q) (i : Nat) (hi : i < xs.length) :
    ∃ b o b1 o1 g, A = some ⟨b, o, none⟩ ∧ A1 = some ⟨b1, o1, none⟩ ∧ A2 = some ⟨g, 0, none⟩ ∧ wr.cell? ⟨b, o + i, none⟩ = some (.string xs[i]) ∧
      wr.cell? ⟨b1, o1 + i * 3, none⟩ = some (.int .i64 ((q + i : Nat) : Int)) ∧ wr.cell? ⟨b1, o1 + i * 3 + 1, none⟩ = some (.string xs[i]) ∧ wr.cell? ⟨b1, o1 + i * 3 + 2, none⟩ = some (.int .i64 (RB xs i : Int)) ∧
      wr.cell? ⟨g, i, none⟩ = some (.int .i64 (RB xs (i + 1) : Int)) := by
  have hb : i < (bytesP xs).length := by rw [bytesP_len]; exact hi
  obtain ⟨b, o, e, _, _, c⟩ := h.strs i hi
  have hl : i < (rowF q 0 (bytesP xs)).length := by rw [rowF_length]; exact hb
  obtain ⟨b1, o1, e1, _, c0, c1, c2⟩ := h.row i hl
  have hr := rowF_at (bytesP xs) q 0 i hb
  rw [List.getElem?_eq_getElem hl] at hr
  have hr2 := Option.some.inj hr
  rw [bytesP_at xs i hi, RB_any, Nat.zero_add] at hr2
  rw [hr2] at c0 c1 c2
  have he : i < (endsB q (bytesP xs)).length := by rw [endsB_len]; exact hb
  obtain ⟨g, e2, _, d⟩ := h.ends i he
  rw [endsB_at, RB_any] at d
  exact ⟨b, o, b1, o1, g, e, e1, e2, c, c0, c1, c2, d⟩
theorem below_dn (n m : Nat) (w : World) : Below n w (w.drewN m) := ⟨rfl, rfl, rfl, Nat.le_refl _, fun _ _ => rfl⟩
/-- the frames of the bytes with others behind -/
theorem at_more {wr : World} {A3 : Option Addr} {xs : List ByteArray} {q : Nat} {M : List Fr} (h : RowFr wr A3 (rowF q 0 (bytesP xs) ++ M)) (i : Nat) (hi : i < xs.length) :
    ∃ b o, A3 = some ⟨b, o, none⟩ ∧ wr.cell? ⟨b, o + i * 3, none⟩ = some (.int .i64 ((q + i : Nat) : Int)) ∧ wr.cell? ⟨b, o + i * 3 + 1, none⟩ = some (.string xs[i]) ∧ wr.cell? ⟨b, o + i * 3 + 2, none⟩ = some (.int .i64 (RB xs i : Int)) := by
  have hb : i < (bytesP xs).length := by rw [bytesP_len]; exact hi
  have hl : i < (rowF q 0 (bytesP xs)).length := by rw [rowF_length]; exact hb
  obtain ⟨b1, o1, e1, _, c0, c1, c2⟩ := h i (by rw [List.length_append]; omega)
  have hr := rowF_at (bytesP xs) q 0 i hb
  rw [List.getElem?_eq_getElem hl] at hr
  have hr2 := Option.some.inj hr
  rw [bytesP_at xs i hi, RB_any, Nat.zero_add] at hr2
  rw [List.getElem_append_left hl, hr2] at c0 c1 c2
  exact ⟨b1, o1, e1, c0, c1, c2⟩
theorem whole_end (xs : List ByteArray) (k j : Nat) (hj : j ≤ xs.length) (h1 : RB xs j ≤ k) (h2 : j < xs.length → k < RB xs (j + 1)) : wholeN (bytesP xs) k = j := by
  have a := (wholeN_iff (bytesP xs) 0 k j (by rw [bytesP_len]; exact hj)).2 h1
  have hle := wholeN_le (bytesP xs) k
  rw [bytesP_len] at hle
  by_cases hlt : j < xs.length
  · have b := wholeN_iff (bytesP xs) 0 k (j + 1) (by rw [bytesP_len]; exact hlt)
    have h3 := h2 hlt
    by_cases hw : j + 1 ≤ wholeN (bytesP xs) k
    · have h4 := b.1 hw
      unfold RB at h3; omega
    · omega
  · omega
end Go.Proofs.Ytkjnddgjnlbopaa.Frame
