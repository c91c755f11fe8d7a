import Derived.Test.YthaafniahkejkaaLOne
import Derived.Test.YthaafniahkejkaaRD
import Derived.Test.YthaafniahkejkaaFT
import Derived.Deep.DeepCutAuto
/-
  Make of texts of any length; rows of numbers of one's own; the mathematics of the statement FrameBack.
-/
namespace Go.Proofs.Ythaafniahkejkaa.Frame
open Go Go.RowKit
open Go.Proofs.Ythaafniahkejkaa.Wire (S S_list S_size cell_row frozen_row row_lt)

set_option maxRecDepth 100000 in
set_option maxHeartbeats 1000000 in
theorem Make_all (q : Int) (s : ByteArray) (w : World) :
    Calls Try.prog 14 #[.int .i64 q, .string s] w fun e w' => e = mkV q s ∧ Below w.heap.size w w' := by
  by_cases hb : s.size ≤ 1000000000000
  · exact Make_any q s hb w
  · have HMQ := fun W => mayNumber_any q W
    have HB0 := Lib.hid (Below.refl w.heap.size w)
    by_cases hq : 0 ≤ q ∧ q < 1048576
    · have hm : mayQ q = true := decide_eq_true hq
      have hne : ¬ s.toList = [] := fun h => by rw [ByteArray.toList_eq] at h; have := s_len s; rw [h] at this; simp at this; omega
      have hne2 : (s.toList == []) = false := beq_eq_false_iff_ne.2 hne
      have h1 : 4096 < s.size := by omega
      have hz : ¬ s.size = 0 := by omega
      have hV : mkV q s = .returned (.tuple #[.string ByteArray.empty, .int .i64 40]) := by
        unfold mkV mkB mkE; rw [if_pos hq, s_len, if_neg hz, if_pos h1]; rfl
      have HV := Lib.hid hV
      clear hV
      rw [hm] at HMQ
      go_enter Try.func14, Try.ntmps14
      go_wp2_with (go_at_call 26; refine (HMQ _).mono ?_; rintro e w1 ⟨rfl, rfl⟩)
      go_ret2
      exact ⟨HV.out.symm, HB0.out⟩
    · have hm : mayQ q = false := decide_eq_false hq
      have hV : mkV q s = .returned (.tuple #[.string ByteArray.empty, .int .i64 1]) := by
        unfold mkV mkB mkE; rw [if_neg hq]; rfl
      have HV := Lib.hid hV
      clear hV
      rw [hm] at HMQ
      go_enter Try.func14, Try.ntmps14
      go_wp2_with (go_at_call 26; refine (HMQ _).mono ?_; rintro e w1 ⟨rfl, rfl⟩)
      go_ret2
      exact ⟨HV.out.symm, HB0.out⟩

/-! ### rows of numbers of one's own -/
def valsN (l : List Nat) : List Value := l.map fun n : Nat => Value.int .i64 (n : Int)
def OwnN (w : World) (base : Nat) (v : Value) (l : List Nat) : Prop := w.ownsRow base 3 1 v l.length (valsN l)
theorem infoN : (Try.prog.info? 3).map (fun i => (i.zero, i.size, i.bytes)) = some (some (.int .i64 0), 1, 8) := by kernel_rfl
theorem OwnN.nil (w : World) (base : Nat) : OwnN w base (.slice none 0 0) [] := ⟨rfl, Or.inl ⟨rfl, rfl⟩⟩
theorem wpList_append_n {ops : Array Oper} {rest : List Oper} {o : Oper} {a : Act} {w : World} {Q : Exit → Act → World → Prop} (hgd : o.guard = none) (s x : Operand)
    (ho : o.op = .call { callee := .builtin .append, args := #[s, x], argTypes := #[47, 47] })
    (base : Nat) (v : Value) (l : List Nat) (hs : a.eval s = v) (hown : OwnN w base v l)
    (g : Nat) (cap : Nat) (y : Nat) (hx : a.eval x = .slice (some ⟨g, 0, none⟩) 1 cap) (hn : w.cell? ⟨g, 0, none⟩ = some (.int .i64 (y : Int)))
    (hlen : l.length ≤ 2000000) (hbase : base ≤ w.heap.size)
    (h : ∀ v' w', OwnN w' base v' (l ++ [y]) → w.grownBy w' v.ownBlock → wpList Try.prog ops Q rest (a.put o.dst v') w') : wpList Try.prog ops Q (o :: rest) a w := by
  obtain ⟨i0, hi, hz0, hz1, hz2⟩ := info_parts infoN
  refine wpList_append_own w hgd s x 47 ho base 3 i0 _ 1 8 Try.underlying47 hi hz0 hz1 hz2 rfl (by decide) v l.length (valsN l) hs hown ⟨g, 0, none⟩ 1 cap [.int .i64 (y : Int)] hx rfl ?_ (by intro u hu; rw [List.mem_singleton.1 hu]; rfl) (by unfold maxLen; omega) (by omega) hbase ?_
  · intro j u hj
    cases j with
    | zero => rw [addr_add0]; rw [hn]; simpa using hj
    | succ j => simp at hj
  · intro v' w' hown' hg _
    exact h v' w' (by unfold OwnN valsN; rw [List.length_append, List.map_append]; exact hown') hg
theorem OwnN.row {w : World} {base : Nat} {v : Value} {l : List Nat} (h : OwnN w base v l) : ∃ A cap, v = .slice A l.length cap ∧ l.length ≤ cap ∧ (∀ j (hj : j < l.length), ∃ g, A = some ⟨g, 0, none⟩ ∧ g < w.heap.size ∧ base ≤ g ∧ w.cell? ⟨g, j, none⟩ = some (.int .i64 (l[j] : Int))) := by
  rcases h.2 with ⟨rfl, hn⟩ | ⟨g, cap, cur, rfl, hb, hg, h1, h2, h3, h4⟩
  · exact ⟨none, 0, by rw [hn], by omega, fun j hj => by omega⟩
  · refine ⟨some ⟨g, 0, none⟩, cap, rfl, h1, fun j hj => ⟨g, rfl, row_lt hg, hb, ?_⟩⟩
    rw [cell_row hg, ← Array.getElem?_toList]
    have e : cur.toList[j]? = (cur.toList.take (l.length * 1))[j]? := by rw [List.getElem?_take, if_pos (by omega)]
    rw [e, h4]
    unfold valsN; simp [hj]
theorem OwnN.below {w w' : World} {base : Nat} {v : Value} {l : List Nat} (h : OwnN w base v l) (hb : Below w.heap.size w w') : OwnN w' base v l := by
  obtain ⟨h1, h2⟩ := h
  refine ⟨h1, ?_⟩
  rcases h2 with h2 | ⟨b, cap, cur, e, hbg, hh, r⟩
  · exact Or.inl h2
  · exact Or.inr ⟨b, cap, cur, e, hbg, (hb.block b (row_lt hh)).trans hh, r⟩

/-! ### mathematics -/
def bytesP (P : List ByteArray) : List (List UInt8) := P.map fun s => s.data.toList
theorem bytesP_len (P : List ByteArray) : (bytesP P).length = P.length := by unfold bytesP; simp
theorem bytesP_at (P : List ByteArray) (j : Nat) (h : j < P.length) : (bytesP P)[j]'(by rw [bytesP_len]; exact h) = P[j].data.toList := by unfold bytesP; simp
/-- where each frame ends -/
def endsB (q : Nat) (ps : List (List UInt8)) : List Nat := (List.range ps.length).map fun j => (rowB q (ps.take (j + 1))).length
theorem endsB_len (q : Nat) (ps : List (List UInt8)) : (endsB q ps).length = ps.length := by unfold endsB; simp
theorem endsB_at (q : Nat) (ps : List (List UInt8)) (j : Nat) (h : j < (endsB q ps).length) : (endsB q ps)[j] = (rowB q (ps.take (j + 1))).length := by simp [endsB]
theorem endsB_snoc (q : Nat) (ps : List (List UInt8)) (p : List UInt8) : endsB q (ps ++ [p]) = endsB q ps ++ [(rowB q (ps ++ [p])).length] := by
  unfold endsB
  rw [List.length_append, List.length_singleton, List.range_succ, List.map_append]
  congr 1
  · apply List.map_congr_left
    intro j hj
    have := List.mem_range.1 hj
    rw [List.take_append_of_le_length (by omega)]
  · simp only [List.map_cons, List.map_nil]
    rw [List.take_of_length_le (by rw [List.length_append]; simp)]
theorem rowB_len_take_le (q : Nat) (ps : List (List UInt8)) (a b : Nat) (h : a ≤ b) : (rowB q (ps.take a)).length ≤ (rowB q (ps.take b)).length := by
  have e : ps.take b = ps.take a ++ (ps.drop a).take (b - a) := by
    rw [← List.take_add, show a + (b - a) = b by omega]
  rw [e, rowB_append, List.length_append]; omega
/-- how many are whole, said by where they end -/
theorem wholeN_iff : ∀ (ps : List (List UInt8)) (q k j : Nat), j ≤ ps.length → (j ≤ wholeN ps k ↔ (rowB q (ps.take j)).length ≤ k)
  | [], q, k, j, h => by
    have : j = 0 := by simpa using h
    subst this; simp [rowB, wholeN]
  | p :: r, q, k, 0, _ => by simp [rowB]
  | p :: r, q, k, j + 1, h => by
    rw [List.take_succ_cons, rowB, List.length_append, frB_length]
    have ih := wholeN_iff r (q + 1) (k - (16 + p.length)) j (by simpa using h)
    unfold wholeN
    split
    · rename_i hk
      rw [show (j + 1 ≤ 1 + wholeN r (k - (16 + p.length))) ↔ (j ≤ wholeN r (k - (16 + p.length))) by omega, ih]
      omega
    · omega
theorem rowF_take : ∀ (ps : List (List UInt8)) (q i m : Nat), rowF q i (ps.take m) = (rowF q i ps).take m
  | [], q, i, m => by simp [rowF]
  | p :: r, q, i, 0 => by simp [rowF]
  | p :: r, q, i, m + 1 => by rw [List.take_succ_cons, rowF, rowF, List.take_succ_cons, rowF_take r]
/-- how many bytes the first ones' frames have -/
def RB (xs : List ByteArray) (i : Nat) : Nat := (rowB 0 ((bytesP xs).take i)).length
theorem RB_zero (xs : List ByteArray) : RB xs 0 = 0 := by unfold RB; rw [List.take_zero]; rfl
theorem RB_succ (xs : List ByteArray) (i : Nat) (h : i < xs.length) : RB xs (i + 1) = RB xs i + (16 + xs[i].size) := by
  unfold RB
  have hb : i < (bytesP xs).length := by rw [bytesP_len]; exact h
  rw [List.take_succ_eq_append_getElem hb, rowB_append, List.length_append]
  congr 1
  rw [rowB, rowB, List.append_nil, frB_length, bytesP_at xs i h, s_len]
theorem RB_any (xs : List ByteArray) (q i : Nat) : (rowB q ((bytesP xs).take i)).length = RB xs i := rowB_length _ _ _
def Small (xs : List ByteArray) (i : Nat) : Prop := ∀ j (h : j < xs.length), j < i → xs[j].size ≤ 4096
/-- what has been made -/
structure Good (xs : List ByteArray) (first : Int) (i : Nat) : Prop where
  low : 0 < i → 0 ≤ first
  top : 0 < i → first + i ≤ 1048576
  ok : ∀ j (h : j < xs.length), j < i → 1 ≤ xs[j].size ∧ xs[j].size ≤ 4096
theorem Good.bound {xs : List ByteArray} {first : Int} {i : Nat} (h : Good xs first i) : i ≤ 1048576 := by
  by_cases h0 : 0 < i
  · have := h.low h0; have := h.top h0; omega
  · omega
theorem Good.bytes {xs : List ByteArray} {first : Int} : ∀ (i : Nat), i ≤ xs.length → Good xs first i → RB xs i ≤ i * 4112
  | 0, _, _ => by rw [RB_zero]; exact Nat.zero_le _
  | i + 1, hi, h => by
    have h2 : Good xs first i := ⟨fun h0 => h.low (by omega), fun h0 => by have := h.top (by omega); omega, fun j hj hji => h.ok j hj (by omega)⟩
    have := Good.bytes i (by omega) h2
    have h3 := h.ok i (by omega) (by omega)
    rw [RB_succ xs i (by omega)]; omega
theorem Good.next {xs : List ByteArray} {first : Int} {i : Nat} (h : Good xs first i) (hi : i < xs.length) (hf : -9223372036854775808 ≤ first ∧ first ≤ 9223372036854775807) (hm : mkE (wrap64 (first + i)) xs[i].data.toList = 0) :
    Good xs first (i + 1) ∧ wrap64 (first + i) = ((first.toNat + i : Nat) : Int) := by
  obtain ⟨h1, h2, h3, h4⟩ := mkE_zero hm
  rw [s_len] at h3 h4
  have hq : wrap64 (first + i) = first + i := by
    by_cases h0 : 0 < i
    · have ha := h.low h0; have hb := h.top h0
      exact IntWalk.wrap64_in _ ⟨by omega, by omega⟩
    · have hi0 : i = 0 := by omega
      subst hi0
      exact IntWalk.wrap64_in _ ⟨by simpa using hf.1, by simpa using hf.2⟩
  rw [hq] at h1 h2 ⊢
  have hlow : 0 ≤ first := by
    by_cases h0 : 0 < i
    · exact h.low h0
    · have : i = 0 := by omega
      subst this; simpa using h1
  refine ⟨⟨fun _ => hlow, fun _ => by have : ((i + 1 : Nat) : Int) = (i : Int) + 1 := by omega
                                      rw [this]; omega, fun j hj hji => ?_⟩, by omega⟩
  by_cases hj2 : j < i
  · exact h.ok j hj hj2
  · have : j = i := by omega
    subst this; exact ⟨h3, h4⟩
theorem row_next (xs : List ByteArray) (q i : Nat) (h : i < xs.length) : rowB q ((bytesP xs).take (i + 1)) = rowB q ((bytesP xs).take i) ++ frB (q + i) xs[i].data.toList := by
  have hb : i < (bytesP xs).length := by rw [bytesP_len]; exact h
  rw [List.take_succ_eq_append_getElem hb, rowB_append, List.length_take, Nat.min_eq_left (by omega), rowB, rowB, List.append_nil, bytesP_at xs i h]
theorem ends_next (xs : List ByteArray) (q i : Nat) (h : i < xs.length) : endsB q ((bytesP xs).take (i + 1)) = endsB q ((bytesP xs).take i) ++ [RB xs (i + 1)] := by
  have hb : i < (bytesP xs).length := by rw [bytesP_len]; exact h
  have e := List.take_succ_eq_append_getElem hb
  rw [e, endsB_snoc, ← e, RB_any]
theorem Good.all {xs : List ByteArray} {first : Int} (h : Good xs first xs.length) (h0 : 0 < xs.length) : okP first.toNat (bytesP xs) ∧ ((first.toNat : Nat) : Int) = first := by
  have h1 := h.low h0
  have h2 := h.top h0
  refine ⟨⟨by rw [bytesP_len]; omega, fun p hp => ?_⟩, by omega⟩
  unfold bytesP at hp
  obtain ⟨s, hs, rfl⟩ := List.mem_map.1 hp
  obtain ⟨j, hj, rfl⟩ := List.getElem_of_mem hs
  have := h.ok j hj hj
  rw [s_len]; exact this
theorem nil_of {xs : List ByteArray} (h : ¬ 0 < xs.length) : bytesP xs = [] := List.eq_nil_of_length_eq_zero (by rw [bytesP_len]; omega)
theorem scan_good {xs : List ByteArray} {first : Int} (h : Good xs first xs.length) (m : List UInt8) : ∃ M, scanF (rowB first.toNat (bytesP xs) ++ m) 0 first = rowF first.toNat 0 (bytesP xs) ++ M ∧ (m = [] → M = []) := by
  by_cases h0 : 0 < xs.length
  · obtain ⟨h1, h2⟩ := h.all h0
    refine ⟨_, by conv => lhs; rw [← h2]
                  exact scan_row (bytesP xs) first.toNat 0 m h1, fun hm => by rw [hm]; rfl⟩
  · rw [nil_of h0]
    exact ⟨scanF m 0 first, rfl, fun hm => by rw [hm]; rfl⟩
theorem scan_goodcut {xs : List ByteArray} {first : Int} (h : Good xs first xs.length) (k : Nat) : scanF ((rowB first.toNat (bytesP xs)).take k) 0 first = rowF first.toNat 0 ((bytesP xs).take (wholeN (bytesP xs) k)) := by
  by_cases h0 : 0 < xs.length
  · obtain ⟨h1, h2⟩ := h.all h0
    conv => lhs; rw [← h2]
    exact scan_cut (bytesP xs) first.toNat 0 k h1
  · rw [nil_of h0]
    simp [rowB, rowF, scan_nil, wholeN]
/-- numbers that lie in a row -/
def RowN (w : World) (A : Option Addr) (l : List Nat) : Prop := ∀ j (h : j < l.length), ∃ g, A = some ⟨g, 0, none⟩ ∧ g < w.heap.size ∧ w.cell? ⟨g, j, none⟩ = some (.int .i64 (l[j] : Int))
theorem RowN.below {w w' : World} {A : Option Addr} {l : List Nat} (h : RowN w A l) (hb : Below w.heap.size w w') : RowN w' A l := fun j hj => by
  obtain ⟨g, e, h1, h2⟩ := h j hj
  exact ⟨g, e, Nat.lt_of_lt_of_le h1 hb.size, (hb.cell (p := ⟨g, j, none⟩) h1).trans h2⟩
/-- what lies there: the payloads, the frames, where they end -/
structure Bk (w wr : World) (A A1 A2 : Option Addr) (xs : List ByteArray) (q : Nat) : Prop where
  strs : Strs wr A xs
  row : RowFr wr A1 (rowF q 0 (bytesP xs))
  ends : RowN wr A2 (endsB q (bytesP xs))
  bel : Below w.heap.size w wr
theorem Bk.below {w wr w' : World} {A A1 A2 : Option Addr} {xs : List ByteArray} {q : Nat} (h : Bk w wr A A1 A2 xs q) (hb : Below wr.heap.size wr w') : Bk w w' A A1 A2 xs q :=
  ⟨h.strs.below hb, h.row.below hb, h.ends.below hb, h.bel.trans (hb.mono h.bel.size)⟩
theorem Bk.at {w wr : World} {A A1 A2 : Option Addr} {xs : List ByteArray} {q : Nat} (h : Bk w wr A A1 A2 xs q) (i : Nat) (hi : i < xs.length) :
    ∃ b o b1 o1 g, A = some ⟨b, o, none⟩ ∧ A1 = some ⟨b1, o1, none⟩ ∧ A2 = some ⟨g, 0, none⟩ ∧ wr.cell? ⟨b, o + i, none⟩ = some (.string xs[i]) ∧
      wr.cell? ⟨b1, o1 + i * 3, none⟩ = some (.int .i64 ((q + i : Nat) : Int)) ∧ wr.cell? ⟨b1, o1 + i * 3 + 1, none⟩ = some (.string xs[i]) ∧ wr.cell? ⟨b1, o1 + i * 3 + 2, none⟩ = some (.int .i64 (RB xs i : Int)) ∧
      wr.cell? ⟨g, i, none⟩ = some (.int .i64 (RB xs (i + 1) : Int)) := by
  have hb : i < (bytesP xs).length := by rw [bytesP_len]; exact hi
  obtain ⟨b, o, e, _, _, c⟩ := h.strs i hi
  have hl : i < (rowF q 0 (bytesP xs)).length := by rw [rowF_length]; exact hb
  obtain ⟨b1, o1, e1, _, c0, c1, c2⟩ := h.row i hl
  have hr := rowF_at (bytesP xs) q 0 i hb
  rw [List.getElem?_eq_getElem hl] at hr
  have hr2 := Option.some.inj hr
  rw [bytesP_at xs i hi, RB_any, Nat.zero_add] at hr2
  rw [hr2] at c0 c1 c2
  have he : i < (endsB q (bytesP xs)).length := by rw [endsB_len]; exact hb
  obtain ⟨g, e2, _, d⟩ := h.ends i he
  rw [endsB_at, RB_any] at d
  exact ⟨b, o, b1, o1, g, e, e1, e2, c, c0, c1, c2, d⟩
theorem below_dn (n m : Nat) (w : World) : Below n w (w.drewN m) := ⟨rfl, rfl, rfl, Nat.le_refl _, fun _ _ => rfl⟩
/-- the frames of the bytes with others behind -/
theorem at_more {wr : World} {A3 : Option Addr} {xs : List ByteArray} {q : Nat} {M : List Fr} (h : RowFr wr A3 (rowF q 0 (bytesP xs) ++ M)) (i : Nat) (hi : i < xs.length) :
    ∃ b o, A3 = some ⟨b, o, none⟩ ∧ wr.cell? ⟨b, o + i * 3, none⟩ = some (.int .i64 ((q + i : Nat) : Int)) ∧ wr.cell? ⟨b, o + i * 3 + 1, none⟩ = some (.string xs[i]) ∧ wr.cell? ⟨b, o + i * 3 + 2, none⟩ = some (.int .i64 (RB xs i : Int)) := by
  have hb : i < (bytesP xs).length := by rw [bytesP_len]; exact hi
  have hl : i < (rowF q 0 (bytesP xs)).length := by rw [rowF_length]; exact hb
  obtain ⟨b1, o1, e1, _, c0, c1, c2⟩ := h i (by rw [List.length_append]; omega)
  have hr := rowF_at (bytesP xs) q 0 i hb
  rw [List.getElem?_eq_getElem hl] at hr
  have hr2 := Option.some.inj hr
  rw [bytesP_at xs i hi, RB_any, Nat.zero_add] at hr2
  rw [List.getElem_append_left hl, hr2] at c0 c1 c2
  exact ⟨b1, o1, e1, c0, c1, c2⟩
theorem whole_end (xs : List ByteArray) (k j : Nat) (hj : j ≤ xs.length) (h1 : RB xs j ≤ k) (h2 : j < xs.length → k < RB xs (j + 1)) : wholeN (bytesP xs) k = j := by
  have a := (wholeN_iff (bytesP xs) 0 k j (by rw [bytesP_len]; exact hj)).2 h1
  have hle := wholeN_le (bytesP xs) k
  rw [bytesP_len] at hle
  by_cases hlt : j < xs.length
  · have b := wholeN_iff (bytesP xs) 0 k (j + 1) (by rw [bytesP_len]; exact hlt)
    have h3 := h2 hlt
    by_cases hw : j + 1 ≤ wholeN (bytesP xs) k
    · have h4 := b.1 hw
      unfold RB at h3; omega
    · omega
  · omega
end Go.Proofs.Ythaafniahkejkaa.Frame
