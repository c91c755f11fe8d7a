import Derived.Test.YtiibeemjkdipnaaGreatDoorB8
import Derived.Test.YtiibeemjkdipnaaGreatDoorB4
/-
  The Reader: what it has in memory; what looks at it; 'take'.
-/
namespace Go.Proofs.YtiibeemjkdipnaaGreatDoor.Wire
open Go.RowKit

def rdS (s : ByteArray) (i e : Nat) : Array Value := #[.string s, .int .i64 (i : Int), .int .i64 (e : Int)]
/-- the Reader at r: of s the first i bytes were taken, the error is e -/
def Rd (w : World) (r : Nat) (s : ByteArray) (i e : Nat) : Prop := w.heap[r]? = some (.cells (rdS s i e) 114 (0, 0))
/-- only the Reader at r has changed -/
def Step (w w' : World) (r : Nat) (s : ByteArray) (i e : Nat) : Prop := Rd w' r s i e ∧ w.grownBy w' (some r)
theorem grown_refl (w : World) (r : Nat) : w.grownBy w (some r) := ⟨rfl, rfl, rfl, Nat.le_refl _, fun _ _ _ => rfl⟩
theorem grown_drewN {w w' : World} {r : Nat} (h : w.grownBy w' (some r)) (n : Nat) : w.grownBy (w'.drewN n) (some r) := ⟨h.os, h.tape, h.output, h.size, h.block⟩
theorem grown_trans {a b c : World} {r : Nat} (h : a.grownBy b (some r)) (k : b.grownBy c (some r)) : a.grownBy c (some r) :=
  ⟨k.os.trans h.os, k.tape.trans h.tape, k.output.trans h.output, Nat.le_trans h.size k.size, fun i hi hn => (k.block i (Nat.lt_of_lt_of_le hi h.size) hn).trans (h.block i hi hn)⟩
theorem grown_below {w w' : World} {r : Nat} (h : Below w.heap.size w w') : w.grownBy w' (some r) := ⟨h.os, h.tape, h.output, h.size, fun i hi _ => h.block i hi⟩
theorem Step.refl {w : World} {r : Nat} {s : ByteArray} {i e : Nat} (h : Rd w r s i e) : Step w w r s i e := ⟨h, grown_refl _ _⟩
theorem Step.drewN {w w' : World} {r : Nat} {s : ByteArray} {i e : Nat} (h : Step w w' r s i e) (n : Nat) : Step w (w'.drewN n) r s i e := ⟨h.1, grown_drewN h.2 n⟩
theorem Step.trans {a b c : World} {r : Nat} {s t : ByteArray} {i e j f : Nat} (h : Step a b r s i e) (k : Step b c r t j f) : Step a c r t j f := ⟨k.1, grown_trans h.2 k.2⟩
theorem Step.below {a b c : World} {r : Nat} {s : ByteArray} {i e : Nat} (h : Step a b r s i e) (k : Below b.heap.size b c) : Step a c r s i e := ⟨(k.block r (row_lt h.1)).trans h.1, grown_trans h.2 (grown_below k)⟩
theorem step_set {w : World} {r : Nat} {s : ByteArray} {i e : Nat} (h : Rd w r s i e) (j : Nat) (v : Value) {i' e' : Nat} (hv : (rdS s i e).setIfInBounds j v = rdS s i' e') : Step w (w.setCell ⟨r, j, none⟩ v) r s i' e' :=
  ⟨by have := heap_set h j v; rw [hv] at this; exact this, ⟨rfl, rfl, rfl, by simp [World.setCell], fun k _ hn => Below.heap_setCell w _ v k (fun e => hn (by rw [e]))⟩⟩

theorem new_any (s : ByteArray) (w : World) :
    Calls Tryz.prog 61 #[.string s] w fun e w' => e = .returned (.pointer (some ⟨w.heap.size, 0, none⟩)) ∧ w' = w.alloc (.cells (rdS s 0 0) 114) := by
  go_enter Tryz.func61, Tryz.ntmps61
  go_wp2_with fail
  go_ret
  exact ⟨rfl, rfl⟩
theorem Rd.new (s : ByteArray) (w : World) : Rd (w.alloc (.cells (rdS s 0 0) 114)) w.heap.size s 0 0 := heap_alloc_new w _

theorem at_any (r : Nat) (s : ByteArray) (i e : Nat) (w : World) (h : Rd w r s i e) :
    Calls Tryz.prog 112 #[.pointer (some ⟨r, 0, none⟩)] w fun x w' => x = .returned (.int .i64 (i : Int)) ∧ w = w' := by
  have c1 : w.cell? ⟨r, 1, none⟩ = some (.int .i64 (i : Int)) := cell_row h 1
  clear h
  go_enter Tryz.func112, Tryz.ntmps112
  go_wp2_with fail
  go_ret
  exact ⟨rfl, rfl⟩
theorem at_nil (w : World) : Calls Tryz.prog 112 #[.pointer none] w fun x w' => x = .returned (.int .i64 0) ∧ w = w' := by
  go_enter Tryz.func112, Tryz.ntmps112
  go_wp2_with fail
  go_ret
  exact ⟨rfl, rfl⟩
set_option maxHeartbeats 400000 in
theorem left_any (r : Nat) (s : ByteArray) (i e : Nat) (w : World) (h : Rd w r s i e) (hi : i ≤ s.size) (hs : s.size ≤ 1000000000000) :
    Calls Tryz.prog 90 #[.pointer (some ⟨r, 0, none⟩)] w fun x w' => x = .returned (.int .i64 ((s.size : Int) - (i : Int))) ∧ ∃ n, w' = w.drewN n := by
  have c0 : w.cell? ⟨r, 0, none⟩ = some (.string s) := cell_row h 0
  have c1 : w.cell? ⟨r, 1, none⟩ = some (.int .i64 (i : Int)) := cell_row h 1
  have hw : IntKind.i64.wrap ((s.size : Int) - (i : Int)) = (s.size : Int) - (i : Int) := IntWalk.i64_in _ (by omega)
  clear h
  go_enter Tryz.func90, Tryz.ntmps90
  go_wp2_with fail
  go_quiet (fail)
  go_wp2_with fail
  go_ret
  exact ⟨rfl, _, rfl⟩
theorem left_nil (w : World) : Calls Tryz.prog 90 #[.pointer none] w fun x w' => x = .returned (.int .i64 0) ∧ w = w' := by
  go_enter Tryz.func90, Tryz.ntmps90
  go_wp2_with fail
  go_ret
  exact ⟨rfl, rfl⟩
theorem open_yes (r : Nat) (s : ByteArray) (i : Nat) (w : World) (h : Rd w r s i 0) :
    Calls Tryz.prog 97 #[.pointer (some ⟨r, 0, none⟩)] w fun x w' => x = .returned (.bool true) ∧ w = w' := by
  have c2 : w.cell? ⟨r, 2, none⟩ = some (.int .i64 0) := cell_row h 2
  clear h
  go_enter Tryz.func97, Tryz.ntmps97
  go_wp2_with fail
  go_ret
  exact ⟨rfl, rfl⟩
theorem open_no (r : Nat) (s : ByteArray) (i e : Nat) (w : World) (h : Rd w r s i e) (he : e ≠ 0) :
    Calls Tryz.prog 97 #[.pointer (some ⟨r, 0, none⟩)] w fun x w' => x = .returned (.bool false) ∧ w = w' := by
  have c2 : w.cell? ⟨r, 2, none⟩ = some (.int .i64 (e : Int)) := cell_row h 2
  have hb : ((e : Int) == 0) = false := by rw [beq_eq_false_iff_ne]; omega
  clear h he
  go_enter Tryz.func97, Tryz.ntmps97
  go_wp2_with fail
  go_ret
  exact ⟨rfl, rfl⟩
theorem open_nil (w : World) : Calls Tryz.prog 97 #[.pointer none] w fun x w' => x = .returned (.bool false) ∧ w = w' := by
  go_enter Tryz.func97, Tryz.ntmps97
  go_wp2_with fail
  go_ret
  exact ⟨rfl, rfl⟩
def errAt (i e : Nat) : Nat := if e = 0 then 0 else i
set_option maxHeartbeats 400000 in
theorem err_any (r : Nat) (s : ByteArray) (i e : Nat) (w : World) (h : Rd w r s i e) :
    Calls Tryz.prog 82 #[.pointer (some ⟨r, 0, none⟩)] w fun x w' => x = .returned (.tuple #[.int .i64 (e : Int), .int .i64 (errAt i e : Int)]) ∧ ∃ n, w' = w.drewN n := by
  have c1 : w.cell? ⟨r, 1, none⟩ = some (.int .i64 (i : Int)) := cell_row h 1
  have c2 : w.cell? ⟨r, 2, none⟩ = some (.int .i64 (e : Int)) := cell_row h 2
  by_cases he : e = 0
  · subst he
    clear h
    go_enter Tryz.func82, Tryz.ntmps82
    go_wp2_with fail
    go_ret2
    exact ⟨rfl, 0, rfl⟩
  · have hb : ((e : Int) == 0) = false := by rw [beq_eq_false_iff_ne]; omega
    have hE : Hid (errAt i e = i) := if_neg he
    clear h he
    go_enter Tryz.func82, Tryz.ntmps82
    go_wp2_with fail
    go_quiet (fail)
    go_wp2_with fail
    go_ret2
    exact ⟨by rw [hE.out]; rfl, _, rfl⟩
theorem err_nil (w : World) : Calls Tryz.prog 82 #[.pointer none] w fun x w' => x = .returned (.tuple #[.int .i64 2, .int .i64 0]) ∧ w = w' := by
  go_enter Tryz.func82, Tryz.ntmps82
  go_wp2_with fail
  go_ret2
  exact ⟨rfl, rfl⟩
def endE (s : ByteArray) (i e : Nat) : Nat := if e = 0 ∧ i < s.size then 4 else e
set_option maxHeartbeats 400000 in
theorem end_any (r : Nat) (s : ByteArray) (i e : Nat) (w : World) (h : Rd w r s i e) (hi : i ≤ s.size) (hs : s.size ≤ 1000000000000) :
    Calls Tryz.prog 64 #[.pointer (some ⟨r, 0, none⟩)] w fun x w' => x = .returned (.int .i64 (endE s i e : Int)) ∧ ∃ n, w' = w.drewN n := by
  by_cases he : e = 0
  · subst he
    by_cases hl : i < s.size
    · have hE : Hid (endE s i 0 = 4) := if_pos ⟨rfl, hl⟩
      have hg : (0 : Int) < (s.size : Int) - (i : Int) := by omega
      go_enter Tryz.func64, Tryz.ntmps64
      go_wp2_with fail
      refine (err_any r s i 0 w h).mono ?_; rintro e w1 ⟨rfl, n1, rfl⟩
      go_wp2_with fail
      refine (left_any r s i 0 (w.drewN n1) h hi hs).mono ?_; rintro e w1 ⟨rfl, n2, rfl⟩
      go_wp2_with fail
      go_ret
      exact ⟨by rw [hE.out]; rfl, _, rfl⟩
    · have hE : Hid (endE s i 0 = 0) := if_neg (by omega)
      have hg : (s.size : Int) - (i : Int) ≤ 0 := by omega
      go_enter Tryz.func64, Tryz.ntmps64
      go_wp2_with fail
      refine (err_any r s i 0 w h).mono ?_; rintro e w1 ⟨rfl, n1, rfl⟩
      go_wp2_with fail
      refine (left_any r s i 0 (w.drewN n1) h hi hs).mono ?_; rintro e w1 ⟨rfl, n2, rfl⟩
      go_wp2_with fail
      go_ret
      exact ⟨by rw [hE.out]; rfl, _, rfl⟩
  · have hE : Hid (endE s i e = e) := if_neg (by omega)
    have hb : ((e : Int) == 0) = false := by rw [beq_eq_false_iff_ne]; omega
    clear he
    go_enter Tryz.func64, Tryz.ntmps64
    go_wp2_with fail
    refine (err_any r s i e w h).mono ?_; rintro e w1 ⟨rfl, n1, rfl⟩
    go_wp2_with fail
    go_ret
    exact ⟨by rw [hE.out]; rfl, _, rfl⟩
theorem end_nil (w : World) : Calls Tryz.prog 64 #[.pointer none] w fun x w' => x = .returned (.int .i64 2) ∧ w = w' := by
  go_enter Tryz.func64, Tryz.ntmps64
  go_wp2_with fail
  refine (err_nil w).mono ?_; rintro e w1 ⟨rfl, rfl⟩
  go_wp2_with fail
  go_ret
  exact ⟨rfl, rfl⟩

/-! ### take -/
theorem take_nil (n : Int) (w : World) : Calls Tryz.prog 111 #[.pointer none, .int .i64 n] w fun x w' => x = .returned (.string ⟨#[]⟩) ∧ w = w' := by
  go_enter Tryz.func111, Tryz.ntmps111
  go_wp2_with fail
  refine (open_nil w).mono ?_; rintro e w1 ⟨rfl, rfl⟩
  go_wp2_with fail
  go_ret
  exact ⟨rfl, rfl⟩
theorem take_wrong (r : Nat) (s : ByteArray) (i e : Nat) (n : Int) (w : World) (h : Rd w r s i e) (he : e ≠ 0) :
    Calls Tryz.prog 111 #[.pointer (some ⟨r, 0, none⟩), .int .i64 n] w fun x w' => x = .returned (.string ⟨#[]⟩) ∧ w = w' := by
  go_enter Tryz.func111, Tryz.ntmps111
  go_wp2_with fail
  refine (open_no r s i e w h he).mono ?_; rintro e w1 ⟨rfl, rfl⟩
  go_wp2_with fail
  go_ret
  exact ⟨rfl, rfl⟩
set_option maxHeartbeats 400000 in
theorem take_short (r : Nat) (s : ByteArray) (i : Nat) (n : Int) (w : World) (h : Rd w r s i 0) (hi : i ≤ s.size) (hs : s.size ≤ 1000000000000) (hn : (s.size : Int) - (i : Int) < n) :
    Calls Tryz.prog 111 #[.pointer (some ⟨r, 0, none⟩), .int .i64 n] w fun x w' => x = .returned (.string ⟨#[]⟩) ∧ Step w w' r s i 8 := by
  have c2 : w.cell? ⟨r, 2, none⟩ = some (.int .i64 0) := cell_row h 2
  have f2 := frozen_row h 2
  go_enter Tryz.func111, Tryz.ntmps111
  go_wp2_with fail
  refine (open_yes r s i w h).mono ?_; rintro e w1 ⟨rfl, rfl⟩
  go_wp2_with fail
  refine (left_any r s i 0 w h hi hs).mono ?_; rintro e w1 ⟨rfl, n1, rfl⟩
  go_wp2_with fail
  go_ret
  exact ⟨rfl, ((Step.refl h).drewN n1).trans (step_set (w := w.drewN n1) h 2 _ rfl)⟩
set_option maxHeartbeats 400000 in
theorem take_ok (r : Nat) (s : ByteArray) (i : Nat) (n : Nat) (w : World) (h : Rd w r s i 0) (hi : i + n ≤ s.size) (hs : s.size ≤ 1000000000000) :
    Calls Tryz.prog 111 #[.pointer (some ⟨r, 0, none⟩), .int .i64 (n : Int)] w fun x w' => x = .returned (.string (s.extract i (i + n))) ∧ Step w w' r s (i + n) 0 := by
  have c0 : w.cell? ⟨r, 0, none⟩ = some (.string s) := cell_row h 0
  have c1 : w.cell? ⟨r, 1, none⟩ = some (.int .i64 (i : Int)) := cell_row h 1
  have f1 := frozen_row h 1
  have hg : (n : Int) ≤ (s.size : Int) - (i : Int) := by omega
  go_enter Tryz.func111, Tryz.ntmps111
  go_wp2_with fail
  refine (open_yes r s i w h).mono ?_; rintro e w1 ⟨rfl, rfl⟩
  go_wp2_with fail
  refine (left_any r s i 0 w h (by omega) hs).mono ?_; rintro e w1 ⟨rfl, n1, rfl⟩
  go_wp2_with fail
  have HS : Hid (Step w ((w.drewN n1).setCell ⟨r, 1, none⟩ (.int .i64 ((i : Int) + (n : Int)))) r s (i + n) 0) := ((Step.refl h).drewN n1).trans (step_set (w := w.drewN n1) h 1 _ rfl)
  generalize (w.drewN n1).setCell ⟨r, 1, none⟩ (.int .i64 ((i : Int) + (n : Int))) = W at *
  have k0 : W.cell? ⟨r, 0, none⟩ = some (.string s) := cell_row HS.out.1 0
  have k1 : W.cell? ⟨r, 1, none⟩ = some (.int .i64 ((i : Int) + (n : Int))) := cell_row HS.out.1 1
  clear c0 c1 f1 h
  have hsub : IntKind.i64.wrap ((i : Int) + (n : Int) - (n : Int)) = (i : Int) := by rw [IntWalk.i64_in _ (by omega)]; omega
  have b0 : (0 : Int) ≤ (i : Int) := by omega
  have b1 : (i : Int) ≤ (i : Int) + (n : Int) := by omega
  have b2 : (i : Int) + (n : Int) ≤ (s.size : Int) := by omega
  have b3 : ((i : Int) + (n : Int)).toNat = i + n := by omega
  go_quiet (fail)
  go_wp2_with fail
  go_ret
  exact ⟨rfl, HS.out.drewN _⟩

end Go.Proofs.YtiibeemjkdipnaaGreatDoor.Wire

/-
  The Reader's fixed numbers.
-/
namespace Go.Proofs.YtiibeemjkdipnaaGreatDoor.Wire
open Go.RowKit

/-! ### take, in one word -/
def tkT (s : ByteArray) (i e n : Nat) : ByteArray := if e = 0 ∧ i + n ≤ s.size then s.extract i (i + n) else ⟨#[]⟩
def tkI (s : ByteArray) (i e n : Nat) : Nat := if e = 0 ∧ i + n ≤ s.size then i + n else i
def tkE (s : ByteArray) (i e n : Nat) : Nat := if e = 0 then (if i + n ≤ s.size then 0 else 8) else e
theorem tkT_size (s : ByteArray) (i e n : Nat) : (tkT s i e n).size ≤ n := by
  unfold tkT; split
  · rw [ByteArray.size_extract]; omega
  · exact Nat.zero_le _
theorem take_any (r : Nat) (s : ByteArray) (i e : Nat) (n : Nat) (w : World) (h : Rd w r s i e) (hi : i ≤ s.size) (hs : s.size ≤ 1000000000000) :
    Calls Tryz.prog 111 #[.pointer (some ⟨r, 0, none⟩), .int .i64 (n : Int)] w fun x w' => x = .returned (.string (tkT s i e n)) ∧ Step w w' r s (tkI s i e n) (tkE s i e n) := by
  unfold tkT tkI tkE
  by_cases he : e = 0
  · subst he
    by_cases hn : i + n ≤ s.size
    · rw [if_pos ⟨rfl, hn⟩, if_pos ⟨rfl, hn⟩, if_pos rfl, if_pos hn]
      exact take_ok r s i n w h hn hs
    · rw [if_neg (by omega), if_neg (by omega), if_pos rfl, if_neg hn]
      exact take_short r s i n w h hi hs (by omega)
  · rw [if_neg (by omega), if_neg (by omega), if_neg he]
    exact (take_wrong r s i e n w h he).mono fun x w' ⟨hx, hw⟩ => ⟨hx, by subst hw; exact Step.refl h⟩

theorem len_255 (w : World) : Calls Tryz.prog 110 #[.int .u64 255] w fun x w' => x = .returned (.int .i64 8) ∧ w = w' := len64_any 255 w (by show _ < _; omega)
theorem len_65535 (w : World) : Calls Tryz.prog 110 #[.int .u64 65535] w fun x w' => x = .returned (.int .i64 16) ∧ w = w' := len64_any 65535 w (by show _ < _; omega)
theorem len_32 (w : World) : Calls Tryz.prog 110 #[.int .u64 4294967295] w fun x w' => x = .returned (.int .i64 32) ∧ w = w' := len64_any 4294967295 w (by show _ < _; omega)
theorem len_64 (w : World) : Calls Tryz.prog 110 #[.int .u64 18446744073709551615] w fun x w' => x = .returned (.int .i64 64) ∧ w = w' := len64_any 18446744073709551615 w (by show _ < _; omega)

/-- the number of the first k bytes -/
def beT (s : ByteArray) (k : Nat) : Nat := be (s.data.toList.take k)
theorem beT_zero (s : ByteArray) : beT s 0 = 0 := rfl
theorem beT_succ (s : ByteArray) (k : Nat) (h : k < s.size) : beT s (k + 1) = beT s k * 256 + s[k].toNat := by
  unfold beT
  rw [List.take_succ_eq_append_getElem (by simpa using h), be_snoc]; rfl
theorem beT_all (s : ByteArray) (k : Nat) (h : s.size ≤ k) : beT s k = be s.data.toList := by
  unfold beT; rw [List.take_of_length_le (by simpa using h)]
theorem beT_lt (s : ByteArray) (k : Nat) : beT s k < 256 ^ k := by
  unfold beT
  have h := be_lt _ (s.data.toList.take k) rfl
  have h2 := Nat.pow_le_pow_right (n := 256) (by decide) (show (s.data.toList.take k).length ≤ k from List.length_take_le _ _)
  omega
theorem shl_or (n : Nat) (c : UInt8) (hn : n < 72057594037927936) : bits .or .u64 (U n * 256 % 18446744073709551616) (c.toNat : Int) = U (n * 256 + c.toNat) := by
  have hc := c.toNat_lt
  have e : U n * 256 % 18446744073709551616 = ((2 ^ 8 * n : Nat) : Int) := by unfold U; omega
  rw [e, u64_or_nat _ _ (by omega) (by omega), or_add _ _ 8 (by omega)]
  unfold U; omega
theorem bytesRow_cell (w : World) (s : ByteArray) (cap : Nat) (fr : Nat × Nat) (n k : Nat) (h : k < s.size) : ((w.drewN n).alloc (.cells (bytesRow s cap) 5 fr)).cell? ⟨w.heap.size, k, none⟩ = some (.int .u8 (s[k].toNat : Int)) := by
  have hk : k < s.data.toList.length := by simpa using h
  have := bytesRow_src w s cap fr n k (bv s.data.toList[k]) (by unfold bvs; rw [List.getElem?_map, List.getElem?_eq_getElem hk]; rfl)
  rw [addr_add, Nat.zero_add] at this
  exact this

set_option maxRecDepth 100000 in
set_option maxHeartbeats 400000 in
theorem rfix8 (r : Nat) (s : ByteArray) (i e : Nat) (w : World) (hrd : Rd w r s i e) (hi : i ≤ s.size) (hs : s.size ≤ 1000000000000) :
    Calls Tryz.prog 96 #[.pointer (some ⟨r, 0, none⟩)] w fun x w' => x = .returned (.int .u8 (U (be (tkT s i e 1).data.toList))) ∧ Step w w' r s (tkI s i e 1) (tkE s i e 1) := by
  go_enter Tryz.func96, Tryz.ntmps96
  go_wp2_with fail
  refine (len_255 w).mono ?_; rintro x w1 ⟨rfl, rfl⟩
  go_wp2_with fail
  refine (take_any r s i e 1 w hrd hi hs).mono ?_; rintro x w1 ⟨rfl, hst⟩
  have HST := Lib.hid hst; clear hst hrd hi hs
  have ht := tkT_size s i e 1
  generalize hT : tkT s i e 1 = t at *
  have HT := Lib.hid hT; clear hT
  have hconv := run_bytes_of_string (P := Tryz.prog) w1 9 49 5 t Tryz.underlying9 Tryz.underlying49 Tryz.underlying5
  have hcell := fun fr k hk => bytesRow_cell w1 t (grownCap w1 t.size 0 5) fr 1 k hk
  have hcap := grownCap_ge w1 t.size 0 5
  have HC := Lib.hid hcell; clear hcell
  generalize grownCap w1 t.size 0 5 = cap at *
  generalize bytesRow t cap = R at *
  go_wp2_with fail
  clear hconv
  have HB : Hid (Below w1.heap.size w1 (w1.alloc (Obj.cells R 5 (R.size, R.size + 1))).drew) := ((Below.refl _ _).alloc (Nat.le_refl _) _).drew
  have HC2 : Hid (∀ (k : Nat) (hk : k < t.size), (w1.alloc (Obj.cells R 5 (R.size, R.size + 1))).drew.cell? ⟨w1.heap.size, k, none⟩ = some (.int .u8 (t[k].toNat : Int))) := fun k hk => HC.out _ k hk
  generalize (w1.alloc (Obj.cells R 5 (R.size, R.size + 1))).drew = W at *
  generalize hg : w1.heap.size = g at *
  have HG := Lib.hid hg; clear hg
  go_loop [4, 17] (fun n j => ∃ k : Nat, k ≤ t.size ∧ j = .int .i64 k ∧ n = .int .u64 (U (beT t k))) (fun _ j => t.size - (intOf j).toNat)
  case atStart => exact ⟨0, Nat.zero_le _, rfl, rfl⟩
  case round =>
    obtain ⟨k, hk, rfl, rfl⟩ := hrel
    by_cases hlt : k < t.size
    · have hc := HC2.out k hlt
      have hb := beT_lt t k
      have hb2 : Hid (beT t k < 72057594037927936) := by
        have := Nat.pow_le_pow_right (n := 256) (by decide) (show k ≤ 7 by omega)
        show _ < _; omega
      have HS := Lib.hid (shl_or (beT t k) t[k] hb2.out)
      have HBT := Lib.hid (beT_succ t k hlt)
      have hu : IntKind.u64.wrap (t[k].toNat : Int) = (t[k].toNat : Int) := by rw [IntKind.wrap_u64]; have := t[k].toNat_lt; omega
      clear hb
      generalize beT t k = n at *
      generalize t[k] = c at *
      go_wp2_with fail
      go_round
      case rel => exact ⟨k + 1, by omega, by go_num, congrArg (Value.int .u64) (HS.out.trans (by rw [HBT.out]))⟩
      case measure => simp [intOf] <;> omega
    · have HBA := Lib.hid (beT_all t k (by omega))
      have hm : U (beT t k) % 256 = U (beT t k) := by
        have := beT_lt t t.size; rw [beT_all t _ (Nat.le_refl _)] at this
        have h2 := Nat.pow_le_pow_right (n := 256) (by decide) ht
        rw [HBA.out]; unfold U; omega
      go_wp2_with fail
      go_ret
      exact ⟨congrArg (fun z => Ending.returned (Value.int .u8 z)) (by rw [HBA.out, ← HT.out]), HST.out.below (HG.out ▸ HB.out)⟩

end Go.Proofs.YtiibeemjkdipnaaGreatDoor.Wire

/-
  The Reader's short numbers.
-/
namespace Go.Proofs.YtiibeemjkdipnaaGreatDoor.Wire
open Go.RowKit

theorem or_step (acc k m : Nat) (hacc : acc < 128 ^ k) (hk : k ≤ 9) (hm : m < 128) (h9 : k = 9 → m ≤ 1) : bits .or .u64 (U acc) (IntKind.u64.wrap ((m : Int) * 2 ^ (7 * k))) = U (acc + 128 ^ k * m) := by
  have hp : (128 : Nat) ^ k = 2 ^ (7 * k) := by rw [Nat.pow_mul]
  have hb : 2 ^ (7 * k) * m < 18446744073709551616 := by
    by_cases h : k = 9
    · have := h9 h; subst h
      have : 2 ^ (7 * 9) * m ≤ 2 ^ (7 * 9) * 1 := Nat.mul_le_mul_left _ this
      omega
    · have h2 : (2 : Nat) ^ (7 * k) ≤ 2 ^ 56 := Nat.pow_le_pow_right (by decide) (by omega)
      have : 2 ^ (7 * k) * m ≤ 2 ^ 56 * 127 := Nat.mul_le_mul h2 (by omega)
      omega
  have e : (m : Int) * 2 ^ (7 * k) = ((2 ^ (7 * k) * m : Nat) : Int) := by
    rw [Int.natCast_mul, Int.natCast_pow, Int.mul_comm]; rfl
  have ha : acc < 18446744073709551616 := by
    have : (128 : Nat) ^ k ≤ 128 ^ 9 := Nat.pow_le_pow_right (by decide) hk
    omega
  have hw : IntKind.u64.wrap ((2 ^ (7 * k) * m : Nat) : Int) = ((2 ^ (7 * k) * m : Nat) : Int) := by rw [IntKind.wrap_u64]; omega
  rw [e, hw]
  unfold U
  rw [u64_or_nat _ _ ha hb, Nat.or_comm, or_add _ _ _ (by rw [← hp]; exact hacc), hp, Nat.add_comm]
theorem scan_at (s : ByteArray) (k acc : Nat) (h : k < s.size) : scan (s.data.toList.drop k) k acc =
    if (k = 9 ∧ 1 < s[k].toNat) ∨ (0 < k ∧ s[k].toNat = 0) then (0, 0, 4) else if s[k].toNat < 128 then (acc + 128 ^ k * (s[k].toNat % 128), k + 1, 0) else scan (s.data.toList.drop (k + 1)) (k + 1) (acc + 128 ^ k * (s[k].toNat % 128)) := by
  rw [List.drop_eq_getElem_cons (by simpa using h), scan]; rfl
theorem scan_end (s : ByteArray) (k acc : Nat) (h : s.size ≤ k) : scan (s.data.toList.drop k) k acc = (0, 0, 8) := by
  rw [List.drop_of_length_le (by simpa using h), scan]
theorem pow_step {acc k m : Nat} (ha : acc < 128 ^ k) (hm : m < 128) : acc + 128 ^ k * m < 128 ^ (k + 1) := by
  rw [Nat.pow_succ]
  have : 128 ^ k * m ≤ 128 ^ k * 127 := Nat.mul_le_mul_left _ (by omega)
  omega
/-- what a short number tells -/
def scT (s : ByteArray) (R : Nat × Nat × Nat) : Ending := .returned (.tuple #[.int .u64 (U R.1), .int .i64 (R.2.1 : Int), .int .i64 (R.2.2 : Int)])

set_option maxRecDepth 100000 in
set_option maxHeartbeats 1000000 in
theorem rshort_walk (s : ByteArray) (w : World) (hs : s.size ≤ 1000000000000) :
    Calls Tryz.prog 98 #[.string s] w fun x w' => x = scT s (scan s.data.toList 0 0) ∧ w = w' := by
  obtain ⟨R, hR0⟩ : ∃ R, R = scan s.data.toList 0 0 := ⟨_, rfl⟩
  rw [← hR0]
  have HR0 := Lib.hid hR0; clear hR0
  go_enter Tryz.func98, Tryz.ntmps98
  go_wp2_with fail
  go_loop [2, 9] (fun n j => ∃ k acc : Nat, k ≤ s.size ∧ k ≤ 9 ∧ j = .int .i64 k ∧ n = .int .u64 (U acc) ∧ Hid (acc < 128 ^ k ∧ scan (s.data.toList.drop k) k acc = R)) (fun _ j => s.size - (intOf j).toNat)
  case atStart => exact ⟨0, 0, Nat.zero_le _, by omega, rfl, rfl, by decide, HR0.out.symm⟩
  case round =>
    obtain ⟨k, acc, hk, hk9, rfl, rfl, hR⟩ := hrel
    by_cases hlt : k < s.size
    · have HS := Lib.hid ((scan_at s k acc hlt).symm.trans hR.out.2)
      have HA := Lib.hid hR.out.1
      have hcl := s[k].toNat_lt
      clear hR
      have hcases : (k = 9 ∧ 1 < s[k].toNat) ∨ (k = 9 ∧ s[k].toNat = 0) ∨ (k = 9 ∧ s[k].toNat = 1) ∨ (k ≠ 9 ∧ 0 < k ∧ s[k].toNat = 0) ∨ (k ≠ 9 ∧ 0 < k ∧ s[k].toNat ≠ 0 ∧ s[k].toNat < 128) ∨ (k ≠ 9 ∧ 0 < k ∧ s[k].toNat ≠ 0 ∧ 128 ≤ s[k].toNat) ∨ (k = 0 ∧ s[k].toNat < 128) ∨ (k = 0 ∧ 128 ≤ s[k].toNat) := by omega
      rcases hcases with hq | hq | hq | hq | hq | hq | hq | hq
      · have HB : Hid (R = (0, 0, 4)) := by
          have := HS.out; rw [if_pos (by omega)] at this; exact this.symm
        have i9 : ((k : Int) == 9) = true := by rw [beq_iff_eq]; omega
        have ic1 : (1 : Int) < (s[k].toNat : Int) := by omega
        clear HS
        have HQ := Lib.hid hq; clear hq
        go_wp2_with fail
        go_ret3
        exact ⟨by rw [HB.out]; rfl, rfl⟩
      · have HB : Hid (R = (0, 0, 4)) := by
          have := HS.out; rw [if_pos (by omega)] at this; exact this.symm
        have i9 : ((k : Int) == 9) = true := by rw [beq_iff_eq]; omega
        have ic1 : (s[k].toNat : Int) ≤ 1 := by omega
        have ip : (0 : Int) < (k : Int) := by omega
        have ic0 : ((s[k].toNat : Int) == 0) = true := by rw [beq_iff_eq]; omega
        clear HS
        have HQ := Lib.hid hq; clear hq
        go_wp2_with fail
        go_ret3
        exact ⟨by rw [HB.out]; rfl, rfl⟩
      · have HB : Hid ((acc + 128 ^ k * (s[k].toNat % 128), k + 1, 0) = R) := by
          have := HS.out; rw [if_neg (by omega), if_pos (by omega)] at this; exact this
        have i9 : ((k : Int) == 9) = true := by rw [beq_iff_eq]; omega
        have ic1 : (s[k].toNat : Int) ≤ 1 := by omega
        have ip : (0 : Int) < (k : Int) := by omega
        have ic0 : ((s[k].toNat : Int) == 0) = false := by rw [beq_eq_false_iff_ne]; omega
        have il : (s[k].toNat : Int) < 128 := by omega
        clear HS
        have HQ := Lib.hid hq; clear hq
        go_wp2_with fail
        go_ret3
        exact ⟨by rw [← HB.out]; exact congrArg (fun z => Ending.returned (.tuple #[.int .u64 z, .int .i64 ((k : Int) + 1), .int .i64 0])) (or_step acc k (s[k].toNat % 128) HA.out hk9 (Nat.mod_lt _ (by decide)) (by have := HQ.out; omega)), rfl⟩
      · have HB : Hid (R = (0, 0, 4)) := by
          have := HS.out; rw [if_pos (by omega)] at this; exact this.symm
        have i9 : ((k : Int) == 9) = false := by rw [beq_eq_false_iff_ne]; omega
        have ip : (0 : Int) < (k : Int) := by omega
        have ic0 : ((s[k].toNat : Int) == 0) = true := by rw [beq_iff_eq]; omega
        clear HS
        have HQ := Lib.hid hq; clear hq
        go_wp2_with fail
        go_ret3
        exact ⟨by rw [HB.out]; rfl, rfl⟩
      · have HB : Hid ((acc + 128 ^ k * (s[k].toNat % 128), k + 1, 0) = R) := by
          have := HS.out; rw [if_neg (by omega), if_pos (by omega)] at this; exact this
        have i9 : ((k : Int) == 9) = false := by rw [beq_eq_false_iff_ne]; omega
        have ip : (0 : Int) < (k : Int) := by omega
        have ic0 : ((s[k].toNat : Int) == 0) = false := by rw [beq_eq_false_iff_ne]; omega
        have il : (s[k].toNat : Int) < 128 := by omega
        clear HS
        have HQ := Lib.hid hq; clear hq
        go_wp2_with fail
        go_ret3
        exact ⟨by rw [← HB.out]; exact congrArg (fun z => Ending.returned (.tuple #[.int .u64 z, .int .i64 ((k : Int) + 1), .int .i64 0])) (or_step acc k (s[k].toNat % 128) HA.out hk9 (Nat.mod_lt _ (by decide)) (by have := HQ.out; omega)), rfl⟩
      · have HB : Hid (scan (s.data.toList.drop (k + 1)) (k + 1) (acc + 128 ^ k * (s[k].toNat % 128)) = R) := by
          have := HS.out; rw [if_neg (by omega), if_neg (by omega)] at this; exact this
        have i9 : ((k : Int) == 9) = false := by rw [beq_eq_false_iff_ne]; omega
        have ip : (0 : Int) < (k : Int) := by omega
        have ic0 : ((s[k].toNat : Int) == 0) = false := by rw [beq_eq_false_iff_ne]; omega
        have il : (128 : Int) ≤ (s[k].toNat : Int) := by omega
        clear HS
        have HQ := Lib.hid hq; clear hq
        go_wp2_with fail
        go_round
        case rel => exact ⟨k + 1, _, by omega, by have := HQ.out; omega, by go_num, congrArg (Value.int .u64) (or_step acc k (s[k].toNat % 128) HA.out hk9 (Nat.mod_lt _ (by decide)) (by have := HQ.out; omega)), pow_step HA.out (Nat.mod_lt _ (by decide)), HB.out⟩
        case measure => simp [intOf] <;> omega
      · have HB : Hid ((acc + 128 ^ k * (s[k].toNat % 128), k + 1, 0) = R) := by
          have := HS.out; rw [if_neg (by omega), if_pos (by omega)] at this; exact this
        have i9 : ((k : Int) == 9) = false := by rw [beq_eq_false_iff_ne]; omega
        have ip : (k : Int) ≤ 0 := by omega
        have il : (s[k].toNat : Int) < 128 := by omega
        clear HS
        have HQ := Lib.hid hq; clear hq
        go_wp2_with fail
        go_ret3
        exact ⟨by rw [← HB.out]; exact congrArg (fun z => Ending.returned (.tuple #[.int .u64 z, .int .i64 ((k : Int) + 1), .int .i64 0])) (or_step acc k (s[k].toNat % 128) HA.out hk9 (Nat.mod_lt _ (by decide)) (by have := HQ.out; omega)), rfl⟩
      · have HB : Hid (scan (s.data.toList.drop (k + 1)) (k + 1) (acc + 128 ^ k * (s[k].toNat % 128)) = R) := by
          have := HS.out; rw [if_neg (by omega), if_neg (by omega)] at this; exact this
        have i9 : ((k : Int) == 9) = false := by rw [beq_eq_false_iff_ne]; omega
        have ip : (k : Int) ≤ 0 := by omega
        have il : (128 : Int) ≤ (s[k].toNat : Int) := by omega
        clear HS
        have HQ := Lib.hid hq; clear hq
        go_wp2_with fail
        go_round
        case rel => exact ⟨k + 1, _, by omega, by have := HQ.out; omega, by go_num, congrArg (Value.int .u64) (or_step acc k (s[k].toNat % 128) HA.out hk9 (Nat.mod_lt _ (by decide)) (by have := HQ.out; omega)), pow_step HA.out (Nat.mod_lt _ (by decide)), HB.out⟩
        case measure => simp [intOf] <;> omega
    · have HB : Hid (R = (0, 0, 8)) := by
        have := hR.out.2; rw [scan_end s k acc (by omega)] at this; exact this.symm
      go_wp2_with fail
      go_ret3
      exact ⟨by rw [HB.out]; rfl, rfl⟩

end Go.Proofs.YtiibeemjkdipnaaGreatDoor.Wire

/-
  The Reader's calls: U8 to U64, Low, Short, Raw, Text.
-/
namespace Go.Proofs.YtiibeemjkdipnaaGreatDoor.Wire
open Go.RowKit

def fxV (s : ByteArray) (i e k : Nat) : Nat := be (tkT s i e k).data.toList
theorem fxV_lt (s : ByteArray) (i e k : Nat) : fxV s i e k < 256 ^ k := by
  have h := beT_lt (tkT s i e k) (tkT s i e k).size
  rw [beT_all _ _ (Nat.le_refl _)] at h
  have h2 := Nat.pow_le_pow_right (n := 256) (by decide) (tkT_size s i e k)
  unfold fxV; omega

theorem ru8_any (r : Nat) (s : ByteArray) (i e : Nat) (w : World) (hrd : Rd w r s i e) (hi : i ≤ s.size) (hs : s.size ≤ 1000000000000) :
    Calls Tryz.prog 81 #[.pointer (some ⟨r, 0, none⟩)] w fun x w' => x = .returned (.int .u8 (U (fxV s i e 1))) ∧ Step w w' r s (tkI s i e 1) (tkE s i e 1) := by
  go_enter Tryz.func81, Tryz.ntmps81
  go_wp2_with fail
  refine (rfix8 r s i e w hrd hi hs).mono ?_; rintro x w1 ⟨rfl, hst⟩
  have HST := Lib.hid hst; clear hst
  go_wp2_with fail
  go_ret
  exact ⟨rfl, HST.out⟩
/-! ### Raw -/
theorem take_zero (r : Nat) (s : ByteArray) (i e : Nat) (w : World) (h : Rd w r s i e) (hi : i ≤ s.size) (hs : s.size ≤ 1000000000000) :
    Calls Tryz.prog 111 #[.pointer (some ⟨r, 0, none⟩), .int .i64 0] w fun x w' => x = .returned (.string (tkT s i e 0)) ∧ Step w w' r s (tkI s i e 0) (tkE s i e 0) :=
  take_any r s i e 0 w h hi hs
set_option maxHeartbeats 400000 in
theorem rraw_any (r : Nat) (s : ByteArray) (i e : Nat) (n : Int) (w : World) (hrd : Rd w r s i e) (hi : i ≤ s.size) (hs : s.size ≤ 1000000000000) :
    Calls Tryz.prog 113 #[.pointer (some ⟨r, 0, none⟩), .int .i64 n] w fun x w' => x = .returned (.string (tkT s i e n.toNat)) ∧ Step w w' r s (tkI s i e n.toNat) (tkE s i e n.toNat) := by
  have hT : (tkT s i e n.toNat).size ≤ 281474976710656 := by
    unfold tkT; split
    · rw [ByteArray.size_extract]; omega
    · exact Nat.zero_le _
  have HT := Lib.hid hT; clear hT
  by_cases hn : 0 ≤ n
  · obtain ⟨k, rfl⟩ : ∃ k : Nat, n = (k : Int) := ⟨n.toNat, by omega⟩
    rw [Int.toNat_natCast] at *
    go_enter Tryz.func113, Tryz.ntmps113
    go_wp2_with fail
    refine (take_any r s i e k w hrd hi hs).mono ?_; rintro x w1 ⟨rfl, hst⟩
    have HST := Lib.hid hst; clear hst
    go_wp2_with fail
    refine (clone_any _ w1 HT.out).mono ?_; rintro x w2 ⟨rfl, hb⟩
    have HB := Lib.hid hb; clear hb
    go_wp2_with fail
    go_ret
    exact ⟨rfl, HST.out.below HB.out⟩
  · have e0 : n.toNat = 0 := by omega
    have HT0 : Hid ((tkT s i e 0).size ≤ 281474976710656) := by have := HT.out; rw [e0] at this; exact this
    rw [e0]
    clear e0 HT
    have hn2 : max n 0 = 0 := by omega
    clear hn
    go_enter Tryz.func113, Tryz.ntmps113
    go_wp2_with fail
    refine (take_zero r s i e w hrd hi hs).mono ?_; rintro x w1 ⟨rfl, hst⟩
    have HST := Lib.hid hst; clear hst
    go_wp2_with fail
    refine (clone_any _ w1 HT0.out).mono ?_; rintro x w2 ⟨rfl, hb⟩
    have HB := Lib.hid hb; clear hb
    go_wp2_with fail
    go_ret
    exact ⟨rfl, HST.out.below HB.out⟩

/-! ### Short -/
/-- (number, where it stands then, the error) -/
def shR (s : ByteArray) (i e m : Nat) : Nat × Nat × Nat :=
  if e = 0 then (if m < (scan (s.data.toList.drop i) 0 0).1 then (0, i, 40) else ((scan (s.data.toList.drop i) 0 0).1, i + (scan (s.data.toList.drop i) 0 0).2.1, (scan (s.data.toList.drop i) 0 0).2.2)) else (0, i, e)
theorem scan_size : ∀ (l : List UInt8) (i acc : Nat), (scan l i acc).2.1 ≤ i + l.length
  | [], _, _ => by rw [scan]; exact Nat.zero_le _
  | b :: l, i, acc => by
    rw [scan, List.length_cons]
    split
    · exact Nat.zero_le _
    · split
      · show i + 1 ≤ _; omega
      · have := scan_size l (i + 1) (acc + 128 ^ i * (b.toNat % 128)); omega
theorem rshort_q (s : ByteArray) (w : World) (hs : s.size ≤ 1000000000000) (l : List UInt8) (hl : s.data.toList = l) :
    Calls Tryz.prog 98 #[.string s] w fun x w' => x = .returned (.tuple #[.int .u64 (U (scan l 0 0).1), .int .i64 ((scan l 0 0).2.1 : Int), .int .i64 ((scan l 0 0).2.2 : Int)]) ∧ w' = w := by
  subst hl
  exact (rshort_walk s w hs).mono fun x w' ⟨hx, hw⟩ => ⟨hx, hw.symm⟩
set_option maxRecDepth 100000 in
set_option maxHeartbeats 400000 in
theorem rShort_any (r : Nat) (s : ByteArray) (i e m : Nat) (w : World) (hrd : Rd w r s i e) (hi : i ≤ s.size) (hs : s.size ≤ 1000000000000) :
    Calls Tryz.prog 84 #[.pointer (some ⟨r, 0, none⟩), .int .u64 (U m)] w fun x w' => x = .returned (.int .u64 (U (shR s i e m).1)) ∧ Step w w' r s (shR s i e m).2.1 (shR s i e m).2.2 := by
  by_cases he : e = 0
  · subst he
    have hsc := scan_size (s.data.toList.drop i) 0 0
    have hl : (s.data.toList.drop i).length = s.size - i := by rw [List.length_drop]; rfl
    have hx : (s.extract i s.size).data.toList = s.data.toList.drop i := by
      rw [Lib.extract_data, List.take_of_length_le]
      rw [List.length_drop]; exact Nat.le_refl _
    have hq := fun w => rshort_q (s.extract i s.size) w (by rw [ByteArray.size_extract]; omega) _ hx
    rw [hl] at hsc
    have HM : Hid (shR s i 0 m = if m < (scan (s.data.toList.drop i) 0 0).1 then (0, i, 40) else ((scan (s.data.toList.drop i) 0 0).1, i + (scan (s.data.toList.drop i) 0 0).2.1, (scan (s.data.toList.drop i) 0 0).2.2)) := by unfold shR; rw [if_pos rfl]; rfl
    clear hx hl
    generalize scan (s.data.toList.drop i) 0 0 = R at *
    obtain ⟨n, z, f⟩ := R
    have c0 : w.cell? ⟨r, 0, none⟩ = some (.string s) := cell_row hrd 0
    have c1 : w.cell? ⟨r, 1, none⟩ = some (.int .i64 (i : Int)) := cell_row hrd 1
    have c2 : w.cell? ⟨r, 2, none⟩ = some (.int .i64 0) := cell_row hrd 2
    have f1 := frozen_row hrd 1
    have f2 := frozen_row hrd 2
    have b0 : (0 : Int) ≤ (i : Int) := by omega
    have b1 : (i : Int) ≤ (s.size : Int) := by omega
    have hz : (z : Int) ≤ 1000000000000 := by simp at hsc; omega
    have hi2 : (i : Int) ≤ 1000000000000 := by omega
    have HQ := Lib.hid hq
    clear hq hsc
    by_cases hm : m < n
    · have hg : U m < U n := by unfold U; omega
      have HM2 : Hid (shR s i 0 m = (0, i, 40)) := HM.out.trans (if_pos hm)
      clear hm
      go_enter Tryz.func84, Tryz.ntmps84
      go_wp2_with fail
      refine (open_yes r s i w hrd).mono ?_; rintro x w1 ⟨rfl, rfl⟩
      go_wp2_with fail
      go_quiet ((go_at_call 98; exact Calls.quiet_of_same (HQ.out _)))
      go_wp2_with fail
      go_ret
      refine ⟨by rw [HM2.out]; rfl, ?_⟩
      rw [HM2.out]
      exact ((Step.refl hrd).drewN nq).trans ((step_set (w := w.drewN nq) hrd 1 (.int .i64 (i : Int)) rfl).trans (step_set (step_set (w := w.drewN nq) hrd 1 (.int .i64 (i : Int)) rfl).1 2 _ rfl))
    · have hg : U n ≤ U m := by unfold U; omega
      have HM2 : Hid (shR s i 0 m = (n, i + z, f)) := HM.out.trans (if_neg hm)
      clear hm
      go_enter Tryz.func84, Tryz.ntmps84
      go_wp2_with fail
      refine (open_yes r s i w hrd).mono ?_; rintro x w1 ⟨rfl, rfl⟩
      go_wp2_with fail
      go_quiet ((go_at_call 98; exact Calls.quiet_of_same (HQ.out _)))
      go_wp2_with fail
      go_ret
      refine ⟨by rw [HM2.out]; rfl, ?_⟩
      rw [HM2.out]
      exact ((Step.refl hrd).drewN nq).trans ((step_set (w := w.drewN nq) (i' := i + z) hrd 1 (.int .i64 ((i : Int) + (z : Int))) rfl).trans (step_set (step_set (w := w.drewN nq) (i' := i + z) hrd 1 (.int .i64 ((i : Int) + (z : Int))) rfl).1 2 _ rfl))
  · have HM : Hid (shR s i e m = (0, i, e)) := if_neg he
    go_enter Tryz.func84, Tryz.ntmps84
    go_wp2_with fail
    refine (open_no r s i e w hrd he).mono ?_; rintro x w1 ⟨rfl, rfl⟩
    go_wp2_with fail
    go_ret
    refine ⟨by rw [HM.out]; rfl, ?_⟩
    rw [HM.out]; exact Step.refl hrd

/-! ### Text -/
/-- (text, where it stands then, the error) -/
def txR (s : ByteArray) (i e m : Nat) : ByteArray × Nat × Nat :=
  (tkT s (shR s i e m).2.1 (shR s i e m).2.2 (shR s i e m).1, if tkE s (shR s i e m).2.1 (shR s i e m).2.2 (shR s i e m).1 = 0 then tkI s (shR s i e m).2.1 (shR s i e m).2.2 (shR s i e m).1 else i, tkE s (shR s i e m).2.1 (shR s i e m).2.2 (shR s i e m).1)
theorem shR_le (s : ByteArray) (i e m : Nat) (hi : i ≤ s.size) : (shR s i e m).2.1 ≤ s.size := by
  unfold shR
  split
  · split
    · exact hi
    · have := scan_size (s.data.toList.drop i) 0 0
      rw [List.length_drop] at this
      have e : s.data.toList.length = s.size := rfl
      show i + _ ≤ _
      omega
  · exact hi
theorem shR_most (s : ByteArray) (i e m : Nat) : (shR s i e m).1 ≤ m := by
  unfold shR
  split
  · split
    · exact Nat.zero_le _
    · show (scan _ 0 0).1 ≤ m; omega
  · exact Nat.zero_le _
theorem wrapM (m : Int) (h0 : 0 ≤ m) (h : m ≤ 9223372036854775807) : IntKind.u64.wrap m = U m.toNat := by rw [IntKind.wrap_u64]; unfold U; omega
theorem wrapI (n : Nat) (h : n ≤ 9223372036854775807) : IntKind.i64.wrap (U n) = (n : Int) := by unfold U; exact IntWalk.i64_in _ (by omega)
set_option maxRecDepth 100000 in
set_option maxHeartbeats 400000 in
theorem rtext_walk (r : Nat) (s : ByteArray) (i e : Nat) (most : Int) (m : Nat) (w : World) (hrd : Rd w r s i e) (hi : i ≤ s.size) (hs : s.size ≤ 1000000000000)
    (hmax : max most 0 = (m : Int)) (hm : m ≤ 9223372036854775807) :
    Calls Tryz.prog 106 #[.pointer (some ⟨r, 0, none⟩), .int .i64 most] w fun x w' => x = .returned (.string (txR s i e m).1) ∧ Step w w' r s (txR s i e m).2.1 (txR s i e m).2.2 := by
  have hw1 : IntKind.u64.wrap (m : Int) = U m := wrapM (m : Int) (by omega) (by omega)
  have hw2 : IntKind.i64.wrap (U (shR s i e m).1) = ((shR s i e m).1 : Int) := wrapI _ (by have := shR_most s i e m; omega)
  have hle := shR_le s i e m hi
  have HX : Hid (txR s i e m = (tkT s (shR s i e m).2.1 (shR s i e m).2.2 (shR s i e m).1, if tkE s (shR s i e m).2.1 (shR s i e m).2.2 (shR s i e m).1 = 0 then tkI s (shR s i e m).2.1 (shR s i e m).2.2 (shR s i e m).1 else i, tkE s (shR s i e m).2.1 (shR s i e m).2.2 (shR s i e m).1)) := rfl
  have hS := rShort_any r s i e m w hrd hi hs
  have HM := Lib.hid hm
  clear hm
  generalize shR s i e m = R at *
  obtain ⟨n, j, f⟩ := R
  have hS2 := Lib.hid hS
  clear hS
  simp only [] at hw2 hle
  by_cases hE : tkE s j f n = 0
  · have HX2 : Hid (txR s i e m = (tkT s j f n, tkI s j f n, 0)) := by
      have := HX.out; rw [if_pos hE, hE] at this; exact this
    have HE := Lib.hid hE; clear hE
    go_enter Tryz.func106, Tryz.ntmps106
    go_wp2_with fail
    refine (at_any r s i e w hrd).mono ?_; rintro x w1 ⟨rfl, rfl⟩
    go_wp2_with fail
    refine hS2.out.mono ?_; rintro x w1 ⟨rfl, hst⟩
    have HST := Lib.hid hst; clear hst
    go_wp2_with fail
    refine (rraw_any r s j f (n : Int) w1 HST.out.1 hle hs).mono ?_; rintro x w2 ⟨rfl, hst⟩
    have HST2 := Lib.hid hst; clear hst
    have c2 : w2.cell? ⟨r, 2, none⟩ = some (.int .i64 0) := by
      have := cell_row HST2.out.1 2
      rw [Int.toNat_natCast, HE.out] at this; exact this
    go_wp2_with fail
    go_ret
    refine ⟨by rw [HX2.out]; rfl, ?_⟩
    rw [HX2.out]
    have h := HST.out.trans HST2.out
    rw [Int.toNat_natCast, HE.out] at h
    exact h
  · have HX2 : Hid (txR s i e m = (tkT s j f n, i, tkE s j f n)) := by
      have := HX.out; rw [if_neg hE] at this; exact this
    have hb : ((tkE s j f n : Int) == 0) = false := by rw [beq_eq_false_iff_ne]; omega
    clear hE HX
    go_enter Tryz.func106, Tryz.ntmps106
    go_wp2_with fail
    refine (at_any r s i e w hrd).mono ?_; rintro x w1 ⟨rfl, rfl⟩
    go_wp2_with fail
    refine hS2.out.mono ?_; rintro x w1 ⟨rfl, hst⟩
    have HST := Lib.hid hst; clear hst
    go_wp2_with fail
    refine (rraw_any r s j f (n : Int) w1 HST.out.1 hle hs).mono ?_; rintro x w2 ⟨rfl, hst⟩
    rw [Int.toNat_natCast] at hst
    have HST2 := Lib.hid hst; clear hst
    have c2 : w2.cell? ⟨r, 2, none⟩ = some (.int .i64 (tkE s j f n : Int)) := cell_row HST2.out.1 2
    have c1 : w2.cell? ⟨r, 1, none⟩ = some (.int .i64 (tkI s j f n : Int)) := cell_row HST2.out.1 1
    have f1 := frozen_row HST2.out.1 1
    go_wp2_with fail
    go_ret
    refine ⟨by rw [HX2.out]; rfl, ?_⟩
    rw [HX2.out]
    exact (HST.out.trans HST2.out).trans (step_set HST2.out.1 1 (.int .i64 (i : Int)) rfl)
theorem rtext_any (r : Nat) (s : ByteArray) (i e : Nat) (most : Int) (w : World) (hrd : Rd w r s i e) (hi : i ≤ s.size) (hs : s.size ≤ 1000000000000) (hm : most ≤ 9223372036854775807) :
    Calls Tryz.prog 106 #[.pointer (some ⟨r, 0, none⟩), .int .i64 most] w fun x w' => x = .returned (.string (txR s i e most.toNat).1) ∧ Step w w' r s (txR s i e most.toNat).2.1 (txR s i e most.toNat).2.2 :=
  rtext_walk r s i e most most.toNat w hrd hi hs (by omega) (by omega)

/-! ### nobody's Reader -/
theorem below_refl' (w : World) : Below w.heap.size w w := Below.refl _ _
theorem rraw_nil (n : Int) (w : World) : Calls Tryz.prog 113 #[.pointer none, .int .i64 n] w fun x w' => x = .returned (.string ⟨#[]⟩) ∧ Below w.heap.size w w' := by
  go_enter Tryz.func113, Tryz.ntmps113
  go_wp2_with fail
  refine (take_nil _ w).mono ?_; rintro x w1 ⟨rfl, rfl⟩
  go_wp2_with fail
  refine (clone_any _ w (by decide)).mono ?_; rintro x w2 ⟨rfl, hb⟩
  go_wp2_with fail
  go_ret
  exact ⟨rfl, hb⟩
theorem rshort_nil (m : Nat) (w : World) : Calls Tryz.prog 84 #[.pointer none, .int .u64 (U m)] w fun x w' => x = .returned (.int .u64 0) ∧ w = w' := by
  go_enter Tryz.func84, Tryz.ntmps84
  go_wp2_with fail
  refine (open_nil w).mono ?_; rintro x w1 ⟨rfl, rfl⟩
  go_wp2_with fail
  go_ret
  exact ⟨rfl, rfl⟩
theorem rtext_nil (w : World) : Calls Tryz.prog 106 #[.pointer none, .int .i64 9] w fun x w' => x = .returned (.string ⟨#[]⟩) ∧ Below w.heap.size w w' := by
  go_enter Tryz.func106, Tryz.ntmps106
  go_wp2_with fail
  refine (at_nil w).mono ?_; rintro x w1 ⟨rfl, rfl⟩
  go_wp2_with fail
  refine (rshort_nil 9 w).mono ?_; rintro x w1 ⟨rfl, rfl⟩
  go_wp2_with fail
  refine (rraw_nil 0 w).mono ?_; rintro x w1 ⟨rfl, hb⟩
  go_wp2_with fail
  go_ret
  exact ⟨rfl, hb⟩

end Go.Proofs.YtiibeemjkdipnaaGreatDoor.Wire
