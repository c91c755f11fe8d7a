import Derived.Test.YticfnfekkmkclaaGreatDoorB8
import Derived.Test.YticfnfekkmkclaaGreatDoorB6
import Derived.Lib.Strings
import Derived.Lib.Walk
import Derived.Lib.BufferWrite
import Derived.Lib.UnsafeStr
import Derived.Laws.MakeOwn
/-
  The Reader: what it has in memory; what looks at it; 'take'.
-/
namespace Go.Proofs.YticfnfekkmkclaaGreatDoor.Wire
open Go.RowKit

def rdS (s : ByteArray) (i e : Nat) : Array Value := #[.string s, .int .i64 (i : Int), .int .i64 (e : Int)]
/-- the Reader at r: of s the first i bytes were taken, the error is e -/
def Rd (w : World) (r : Nat) (s : ByteArray) (i e : Nat) : Prop := w.heap[r]? = some (.cells (rdS s i e) 155 (0, 0))
/-- only the Reader at r has changed -/
def Step (w w' : World) (r : Nat) (s : ByteArray) (i e : Nat) : Prop := Rd w' r s i e ∧ w.grownBy w' (some r)
theorem grown_refl (w : World) (r : Nat) : w.grownBy w (some r) := ⟨rfl, rfl, rfl, Nat.le_refl _, fun _ _ _ => rfl⟩
theorem grown_drewN {w w' : World} {r : Nat} (h : w.grownBy w' (some r)) (n : Nat) : w.grownBy (w'.drewN n) (some r) := ⟨h.os, h.tape, h.output, h.size, h.block⟩
theorem grown_trans {a b c : World} {r : Nat} (h : a.grownBy b (some r)) (k : b.grownBy c (some r)) : a.grownBy c (some r) :=
  ⟨k.os.trans h.os, k.tape.trans h.tape, k.output.trans h.output, Nat.le_trans h.size k.size, fun i hi hn => (k.block i (Nat.lt_of_lt_of_le hi h.size) hn).trans (h.block i hi hn)⟩
theorem grown_below {w w' : World} {r : Nat} (h : Below w.heap.size w w') : w.grownBy w' (some r) := ⟨h.os, h.tape, h.output, h.size, fun i hi _ => h.block i hi⟩
theorem Step.refl {w : World} {r : Nat} {s : ByteArray} {i e : Nat} (h : Rd w r s i e) : Step w w r s i e := ⟨h, grown_refl _ _⟩
theorem Step.drewN {w w' : World} {r : Nat} {s : ByteArray} {i e : Nat} (h : Step w w' r s i e) (n : Nat) : Step w (w'.drewN n) r s i e := ⟨h.1, grown_drewN h.2 n⟩
theorem Step.trans {a b c : World} {r : Nat} {s t : ByteArray} {i e j f : Nat} (h : Step a b r s i e) (k : Step b c r t j f) : Step a c r t j f := ⟨k.1, grown_trans h.2 k.2⟩
theorem Step.below {a b c : World} {r : Nat} {s : ByteArray} {i e : Nat} (h : Step a b r s i e) (k : Below b.heap.size b c) : Step a c r s i e := ⟨(k.block r (row_lt h.1)).trans h.1, grown_trans h.2 (grown_below k)⟩
theorem step_set {w : World} {r : Nat} {s : ByteArray} {i e : Nat} (h : Rd w r s i e) (j : Nat) (v : Value) {i' e' : Nat} (hv : (rdS s i e).setIfInBounds j v = rdS s i' e') : Step w (w.setCell ⟨r, j, none⟩ v) r s i' e' :=
  ⟨by have := heap_set h j v; rw [hv] at this; exact this, ⟨rfl, rfl, rfl, by simp [World.setCell], fun k _ hn => Below.heap_setCell w _ v k (fun e => hn (by rw [e]))⟩⟩

theorem new_any (s : ByteArray) (w : World) :
    Calls Tryz.prog 64 #[.string s] w fun e w' => e = .returned (.pointer (some ⟨w.heap.size, 0, none⟩)) ∧ w' = w.alloc (.cells (rdS s 0 0) 155) := by
  go_enter Tryz.func64, Tryz.ntmps64
  go_wp2_with fail
  go_ret
  exact ⟨rfl, rfl⟩
theorem Rd.new (s : ByteArray) (w : World) : Rd (w.alloc (.cells (rdS s 0 0) 155)) w.heap.size s 0 0 := heap_alloc_new w _

set_option maxHeartbeats 400000 in
theorem left_any (r : Nat) (s : ByteArray) (i e : Nat) (w : World) (h : Rd w r s i e) (hi : i ≤ s.size) (hs : s.size ≤ 1000000000000) :
    Calls Tryz.prog 132 #[.pointer (some ⟨r, 0, none⟩)] w fun x w' => x = .returned (.int .i64 ((s.size : Int) - (i : Int))) ∧ ∃ n, w' = w.drewN n := by
  have c0 : w.cell? ⟨r, 0, none⟩ = some (.string s) := cell_row h 0
  have c1 : w.cell? ⟨r, 1, none⟩ = some (.int .i64 (i : Int)) := cell_row h 1
  have hw : IntKind.i64.wrap ((s.size : Int) - (i : Int)) = (s.size : Int) - (i : Int) := IntWalk.i64_in _ (by omega)
  clear h
  go_enter Tryz.func132, Tryz.ntmps132
  go_wp2_with fail
  go_quiet (fail)
  go_wp2_with fail
  go_ret
  exact ⟨rfl, _, rfl⟩
theorem left_nil (w : World) : Calls Tryz.prog 132 #[.pointer none] w fun x w' => x = .returned (.int .i64 0) ∧ w = w' := by
  go_enter Tryz.func132, Tryz.ntmps132
  go_wp2_with fail
  go_ret
  exact ⟨rfl, rfl⟩
theorem open_yes (r : Nat) (s : ByteArray) (i : Nat) (w : World) (h : Rd w r s i 0) :
    Calls Tryz.prog 131 #[.pointer (some ⟨r, 0, none⟩)] w fun x w' => x = .returned (.bool true) ∧ w = w' := by
  have c2 : w.cell? ⟨r, 2, none⟩ = some (.int .i64 0) := cell_row h 2
  clear h
  go_enter Tryz.func131, Tryz.ntmps131
  go_wp2_with fail
  go_ret
  exact ⟨rfl, rfl⟩
theorem open_no (r : Nat) (s : ByteArray) (i e : Nat) (w : World) (h : Rd w r s i e) (he : e ≠ 0) :
    Calls Tryz.prog 131 #[.pointer (some ⟨r, 0, none⟩)] w fun x w' => x = .returned (.bool false) ∧ w = w' := by
  have c2 : w.cell? ⟨r, 2, none⟩ = some (.int .i64 (e : Int)) := cell_row h 2
  have hb : ((e : Int) == 0) = false := by rw [beq_eq_false_iff_ne]; omega
  clear h he
  go_enter Tryz.func131, Tryz.ntmps131
  go_wp2_with fail
  go_ret
  exact ⟨rfl, rfl⟩
theorem open_nil (w : World) : Calls Tryz.prog 131 #[.pointer none] w fun x w' => x = .returned (.bool false) ∧ w = w' := by
  go_enter Tryz.func131, Tryz.ntmps131
  go_wp2_with fail
  go_ret
  exact ⟨rfl, rfl⟩
def errAt (i e : Nat) : Nat := if e = 0 then 0 else i
def endE (s : ByteArray) (i e : Nat) : Nat := if e = 0 ∧ i < s.size then 4 else e
/-! ### take -/
theorem take_nil (n : Int) (w : World) : Calls Tryz.prog 105 #[.pointer none, .int .i64 n] w fun x w' => x = .returned (.string ⟨#[]⟩) ∧ w = w' := by
  go_enter Tryz.func105, Tryz.ntmps105
  go_wp2_with fail
  refine (open_nil w).mono ?_; rintro e w1 ⟨rfl, rfl⟩
  go_wp2_with fail
  go_ret
  exact ⟨rfl, rfl⟩
theorem take_wrong (r : Nat) (s : ByteArray) (i e : Nat) (n : Int) (w : World) (h : Rd w r s i e) (he : e ≠ 0) :
    Calls Tryz.prog 105 #[.pointer (some ⟨r, 0, none⟩), .int .i64 n] w fun x w' => x = .returned (.string ⟨#[]⟩) ∧ w = w' := by
  go_enter Tryz.func105, Tryz.ntmps105
  go_wp2_with fail
  refine (open_no r s i e w h he).mono ?_; rintro e w1 ⟨rfl, rfl⟩
  go_wp2_with fail
  go_ret
  exact ⟨rfl, rfl⟩
set_option maxHeartbeats 400000 in
theorem take_short (r : Nat) (s : ByteArray) (i : Nat) (n : Int) (w : World) (h : Rd w r s i 0) (hi : i ≤ s.size) (hs : s.size ≤ 1000000000000) (hn : (s.size : Int) - (i : Int) < n) :
    Calls Tryz.prog 105 #[.pointer (some ⟨r, 0, none⟩), .int .i64 n] w fun x w' => x = .returned (.string ⟨#[]⟩) ∧ Step w w' r s i 8 := by
  have c2 : w.cell? ⟨r, 2, none⟩ = some (.int .i64 0) := cell_row h 2
  have f2 := frozen_row h 2
  go_enter Tryz.func105, Tryz.ntmps105
  go_wp2_with fail
  refine (open_yes r s i w h).mono ?_; rintro e w1 ⟨rfl, rfl⟩
  go_wp2_with fail
  refine (left_any r s i 0 w h hi hs).mono ?_; rintro e w1 ⟨rfl, n1, rfl⟩
  go_wp2_with fail
  go_ret
  exact ⟨rfl, ((Step.refl h).drewN n1).trans (step_set (w := w.drewN n1) h 2 _ rfl)⟩
set_option maxHeartbeats 400000 in
theorem take_ok (r : Nat) (s : ByteArray) (i : Nat) (n : Nat) (w : World) (h : Rd w r s i 0) (hi : i + n ≤ s.size) (hs : s.size ≤ 1000000000000) :
    Calls Tryz.prog 105 #[.pointer (some ⟨r, 0, none⟩), .int .i64 (n : Int)] w fun x w' => x = .returned (.string (s.extract i (i + n))) ∧ Step w w' r s (i + n) 0 := by
  have c0 : w.cell? ⟨r, 0, none⟩ = some (.string s) := cell_row h 0
  have c1 : w.cell? ⟨r, 1, none⟩ = some (.int .i64 (i : Int)) := cell_row h 1
  have f1 := frozen_row h 1
  have hg : (n : Int) ≤ (s.size : Int) - (i : Int) := by omega
  go_enter Tryz.func105, Tryz.ntmps105
  go_wp2_with fail
  refine (open_yes r s i w h).mono ?_; rintro e w1 ⟨rfl, rfl⟩
  go_wp2_with fail
  refine (left_any r s i 0 w h (by omega) hs).mono ?_; rintro e w1 ⟨rfl, n1, rfl⟩
  go_wp2_with fail
  have HS : Hid (Step w ((w.drewN n1).setCell ⟨r, 1, none⟩ (.int .i64 ((i : Int) + (n : Int)))) r s (i + n) 0) := ((Step.refl h).drewN n1).trans (step_set (w := w.drewN n1) h 1 _ rfl)
  generalize (w.drewN n1).setCell ⟨r, 1, none⟩ (.int .i64 ((i : Int) + (n : Int))) = W at *
  have k0 : W.cell? ⟨r, 0, none⟩ = some (.string s) := cell_row HS.out.1 0
  have k1 : W.cell? ⟨r, 1, none⟩ = some (.int .i64 ((i : Int) + (n : Int))) := cell_row HS.out.1 1
  clear c0 c1 f1 h
  have hsub : IntKind.i64.wrap ((i : Int) + (n : Int) - (n : Int)) = (i : Int) := by rw [IntWalk.i64_in _ (by omega)]; omega
  have b0 : (0 : Int) ≤ (i : Int) := by omega
  have b1 : (i : Int) ≤ (i : Int) + (n : Int) := by omega
  have b2 : (i : Int) + (n : Int) ≤ (s.size : Int) := by omega
  have b3 : ((i : Int) + (n : Int)).toNat = i + n := by omega
  go_quiet (fail)
  go_wp2_with fail
  go_ret
  exact ⟨rfl, HS.out.drewN _⟩

end Go.Proofs.YticfnfekkmkclaaGreatDoor.Wire

/-
  The Reader's fixed numbers.
-/
namespace Go.Proofs.YticfnfekkmkclaaGreatDoor.Wire
open Go.RowKit

/-! ### take, in one word -/
def tkT (s : ByteArray) (i e n : Nat) : ByteArray := if e = 0 ∧ i + n ≤ s.size then s.extract i (i + n) else ⟨#[]⟩
def tkI (s : ByteArray) (i e n : Nat) : Nat := if e = 0 ∧ i + n ≤ s.size then i + n else i
def tkE (s : ByteArray) (i e n : Nat) : Nat := if e = 0 then (if i + n ≤ s.size then 0 else 8) else e
theorem tkT_size (s : ByteArray) (i e n : Nat) : (tkT s i e n).size ≤ n := by
  unfold tkT; split
  · rw [ByteArray.size_extract]; omega
  · exact Nat.zero_le _
theorem take_any (r : Nat) (s : ByteArray) (i e : Nat) (n : Nat) (w : World) (h : Rd w r s i e) (hi : i ≤ s.size) (hs : s.size ≤ 1000000000000) :
    Calls Tryz.prog 105 #[.pointer (some ⟨r, 0, none⟩), .int .i64 (n : Int)] w fun x w' => x = .returned (.string (tkT s i e n)) ∧ Step w w' r s (tkI s i e n) (tkE s i e n) := by
  unfold tkT tkI tkE
  by_cases he : e = 0
  · subst he
    by_cases hn : i + n ≤ s.size
    · rw [if_pos ⟨rfl, hn⟩, if_pos ⟨rfl, hn⟩, if_pos rfl, if_pos hn]
      exact take_ok r s i n w h hn hs
    · rw [if_neg (by omega), if_neg (by omega), if_pos rfl, if_neg hn]
      exact take_short r s i n w h hi hs (by omega)
  · rw [if_neg (by omega), if_neg (by omega), if_neg he]
    exact (take_wrong r s i e n w h he).mono fun x w' ⟨hx, hw⟩ => ⟨hx, by subst hw; exact Step.refl h⟩

theorem len_255 (w : World) : Calls Tryz.prog 134 #[.int .u64 255] w fun x w' => x = .returned (.int .i64 8) ∧ w = w' := len64_any 255 w (by show _ < _; omega)
theorem len_65535 (w : World) : Calls Tryz.prog 134 #[.int .u64 65535] w fun x w' => x = .returned (.int .i64 16) ∧ w = w' := len64_any 65535 w (by show _ < _; omega)
theorem len_32 (w : World) : Calls Tryz.prog 134 #[.int .u64 4294967295] w fun x w' => x = .returned (.int .i64 32) ∧ w = w' := len64_any 4294967295 w (by show _ < _; omega)
theorem len_64 (w : World) : Calls Tryz.prog 134 #[.int .u64 18446744073709551615] w fun x w' => x = .returned (.int .i64 64) ∧ w = w' := len64_any 18446744073709551615 w (by show _ < _; omega)

/-- the number of the first k bytes -/
def beT (s : ByteArray) (k : Nat) : Nat := be (s.data.toList.take k)
theorem beT_zero (s : ByteArray) : beT s 0 = 0 := rfl
theorem beT_succ (s : ByteArray) (k : Nat) (h : k < s.size) : beT s (k + 1) = beT s k * 256 + s[k].toNat := by
  unfold beT
  rw [List.take_succ_eq_append_getElem (by simpa using h), be_snoc]; rfl
theorem beT_all (s : ByteArray) (k : Nat) (h : s.size ≤ k) : beT s k = be s.data.toList := by
  unfold beT; rw [List.take_of_length_le (by simpa using h)]
theorem beT_lt (s : ByteArray) (k : Nat) : beT s k < 256 ^ k := by
  unfold beT
  have h := be_lt _ (s.data.toList.take k) rfl
  have h2 := Nat.pow_le_pow_right (n := 256) (by decide) (show (s.data.toList.take k).length ≤ k from List.length_take_le _ _)
  omega
theorem shl_or (n : Nat) (c : UInt8) (hn : n < 72057594037927936) : bits .or .u64 (U n * 256 % 18446744073709551616) (c.toNat : Int) = U (n * 256 + c.toNat) := by
  have hc := c.toNat_lt
  have e : U n * 256 % 18446744073709551616 = ((2 ^ 8 * n : Nat) : Int) := by unfold U; omega
  rw [e, u64_or_nat _ _ (by omega) (by omega), or_add _ _ 8 (by omega)]
  unfold U; omega
theorem bytesRow_cell (w : World) (s : ByteArray) (cap : Nat) (fr : Nat × Nat) (n k : Nat) (h : k < s.size) : ((w.drewN n).alloc (.cells (bytesRow s cap) 5 fr)).cell? ⟨w.heap.size, k, none⟩ = some (.int .u8 (s[k].toNat : Int)) := by
  have hk : k < s.data.toList.length := by simpa using h
  have := bytesRow_src w s cap fr n k (bv s.data.toList[k]) (by unfold bvs; rw [List.getElem?_map, List.getElem?_eq_getElem hk]; rfl)
  rw [addr_add, Nat.zero_add] at this
  exact this

set_option maxRecDepth 100000 in
set_option maxHeartbeats 400000 in
theorem rfix16 (r : Nat) (s : ByteArray) (i e : Nat) (w : World) (hrd : Rd w r s i e) (hi : i ≤ s.size) (hs : s.size ≤ 1000000000000) :
    Calls Tryz.prog 107 #[.pointer (some ⟨r, 0, none⟩)] w fun x w' => x = .returned (.int .u16 (U (be (tkT s i e 2).data.toList))) ∧ Step w w' r s (tkI s i e 2) (tkE s i e 2) := by
  go_enter Tryz.func107, Tryz.ntmps107
  go_wp2_with fail
  refine (len_65535 w).mono ?_; rintro x w1 ⟨rfl, rfl⟩
  go_wp2_with fail
  refine (take_any r s i e 2 w hrd hi hs).mono ?_; rintro x w1 ⟨rfl, hst⟩
  have HST := Lib.hid hst; clear hst hrd hi hs
  have ht := tkT_size s i e 2
  generalize hT : tkT s i e 2 = t at *
  have HT := Lib.hid hT; clear hT
  have hconv := run_bytes_of_string (P := Tryz.prog) w1 9 86 5 t Tryz.underlying9 Tryz.underlying86 Tryz.underlying5
  have hcell := fun fr k hk => bytesRow_cell w1 t (grownCap w1 t.size 0 5) fr 1 k hk
  have hcap := grownCap_ge w1 t.size 0 5
  have HC := Lib.hid hcell; clear hcell
  generalize grownCap w1 t.size 0 5 = cap at *
  generalize bytesRow t cap = R at *
  go_wp2_with fail
  clear hconv
  have HB : Hid (Below w1.heap.size w1 (w1.alloc (Obj.cells R 5 (R.size, R.size + 1))).drew) := ((Below.refl _ _).alloc (Nat.le_refl _) _).drew
  have HC2 : Hid (∀ (k : Nat) (hk : k < t.size), (w1.alloc (Obj.cells R 5 (R.size, R.size + 1))).drew.cell? ⟨w1.heap.size, k, none⟩ = some (.int .u8 (t[k].toNat : Int))) := fun k hk => HC.out _ k hk
  generalize (w1.alloc (Obj.cells R 5 (R.size, R.size + 1))).drew = W at *
  generalize hg : w1.heap.size = g at *
  have HG := Lib.hid hg; clear hg
  go_loop [4, 17] (fun n j => ∃ k : Nat, k ≤ t.size ∧ j = .int .i64 k ∧ n = .int .u64 (U (beT t k))) (fun _ j => t.size - (intOf j).toNat)
  case atStart => exact ⟨0, Nat.zero_le _, rfl, rfl⟩
  case round =>
    obtain ⟨k, hk, rfl, rfl⟩ := hrel
    by_cases hlt : k < t.size
    · have hc := HC2.out k hlt
      have hb := beT_lt t k
      have hb2 : Hid (beT t k < 72057594037927936) := by
        have := Nat.pow_le_pow_right (n := 256) (by decide) (show k ≤ 7 by omega)
        show _ < _; omega
      have HS := Lib.hid (shl_or (beT t k) t[k] hb2.out)
      have HBT := Lib.hid (beT_succ t k hlt)
      have hu : IntKind.u64.wrap (t[k].toNat : Int) = (t[k].toNat : Int) := by rw [IntKind.wrap_u64]; have := t[k].toNat_lt; omega
      clear hb
      generalize beT t k = n at *
      generalize t[k] = c at *
      go_wp2_with fail
      go_round
      case rel => exact ⟨k + 1, by omega, by go_num, congrArg (Value.int .u64) (HS.out.trans (by rw [HBT.out]))⟩
      case measure => simp [intOf] <;> omega
    · have HBA := Lib.hid (beT_all t k (by omega))
      have hm : U (beT t k) % 65536 = U (beT t k) := by
        have := beT_lt t t.size; rw [beT_all t _ (Nat.le_refl _)] at this
        have h2 := Nat.pow_le_pow_right (n := 256) (by decide) ht
        rw [HBA.out]; unfold U; omega
      go_wp2_with fail
      go_ret
      exact ⟨congrArg (fun z => Ending.returned (Value.int .u16 z)) (by rw [HBA.out, ← HT.out]), HST.out.below (HG.out ▸ HB.out)⟩

set_option maxRecDepth 100000 in
set_option maxHeartbeats 400000 in
theorem rfix64 (r : Nat) (s : ByteArray) (i e : Nat) (w : World) (hrd : Rd w r s i e) (hi : i ≤ s.size) (hs : s.size ≤ 1000000000000) :
    Calls Tryz.prog 133 #[.pointer (some ⟨r, 0, none⟩)] w fun x w' => x = .returned (.int .u64 (U (be (tkT s i e 8).data.toList))) ∧ Step w w' r s (tkI s i e 8) (tkE s i e 8) := by
  go_enter Tryz.func133, Tryz.ntmps133
  go_wp2_with fail
  refine (len_64 w).mono ?_; rintro x w1 ⟨rfl, rfl⟩
  go_wp2_with fail
  refine (take_any r s i e 8 w hrd hi hs).mono ?_; rintro x w1 ⟨rfl, hst⟩
  have HST := Lib.hid hst; clear hst hrd hi hs
  have ht := tkT_size s i e 8
  generalize hT : tkT s i e 8 = t at *
  have HT := Lib.hid hT; clear hT
  have hconv := run_bytes_of_string (P := Tryz.prog) w1 9 86 5 t Tryz.underlying9 Tryz.underlying86 Tryz.underlying5
  have hcell := fun fr k hk => bytesRow_cell w1 t (grownCap w1 t.size 0 5) fr 1 k hk
  have hcap := grownCap_ge w1 t.size 0 5
  have HC := Lib.hid hcell; clear hcell
  generalize grownCap w1 t.size 0 5 = cap at *
  generalize bytesRow t cap = R at *
  go_wp2_with fail
  clear hconv
  have HB : Hid (Below w1.heap.size w1 (w1.alloc (Obj.cells R 5 (R.size, R.size + 1))).drew) := ((Below.refl _ _).alloc (Nat.le_refl _) _).drew
  have HC2 : Hid (∀ (k : Nat) (hk : k < t.size), (w1.alloc (Obj.cells R 5 (R.size, R.size + 1))).drew.cell? ⟨w1.heap.size, k, none⟩ = some (.int .u8 (t[k].toNat : Int))) := fun k hk => HC.out _ k hk
  generalize (w1.alloc (Obj.cells R 5 (R.size, R.size + 1))).drew = W at *
  generalize hg : w1.heap.size = g at *
  have HG := Lib.hid hg; clear hg
  go_loop [4, 16] (fun n j => ∃ k : Nat, k ≤ t.size ∧ j = .int .i64 k ∧ n = .int .u64 (U (beT t k))) (fun _ j => t.size - (intOf j).toNat)
  case atStart => exact ⟨0, Nat.zero_le _, rfl, rfl⟩
  case round =>
    obtain ⟨k, hk, rfl, rfl⟩ := hrel
    by_cases hlt : k < t.size
    · have hc := HC2.out k hlt
      have hb := beT_lt t k
      have hb2 : Hid (beT t k < 72057594037927936) := by
        have := Nat.pow_le_pow_right (n := 256) (by decide) (show k ≤ 7 by omega)
        show _ < _; omega
      have HS := Lib.hid (shl_or (beT t k) t[k] hb2.out)
      have HBT := Lib.hid (beT_succ t k hlt)
      have hu : IntKind.u64.wrap (t[k].toNat : Int) = (t[k].toNat : Int) := by rw [IntKind.wrap_u64]; have := t[k].toNat_lt; omega
      clear hb
      generalize beT t k = n at *
      generalize t[k] = c at *
      go_wp2_with fail
      go_round
      case rel => exact ⟨k + 1, by omega, by go_num, congrArg (Value.int .u64) (HS.out.trans (by rw [HBT.out]))⟩
      case measure => simp [intOf] <;> omega
    · have HBA := Lib.hid (beT_all t k (by omega))
      go_wp2_with fail
      go_ret
      exact ⟨congrArg (fun z => Ending.returned (Value.int .u64 z)) (by rw [HBA.out, ← HT.out]), HST.out.below (HG.out ▸ HB.out)⟩

end Go.Proofs.YticfnfekkmkclaaGreatDoor.Wire

/-
  strings.Clone.
-/
namespace Go.Proofs.YticfnfekkmkclaaGreatDoor.Wire
open Go.RowKit

set_option maxHeartbeats 4000000 in
set_option maxRecDepth 100000 in
theorem liteClone_any (s : ByteArray) (w : World) (hlim : s.size ≤ 281474976710656) :
    Calls Tryz.prog 130 #[.string s] w fun e w' => e = .returned (.string s) ∧ Below w.heap.size w w' := by
  by_cases h0 : s.size = 0
  · have hs : s = ⟨#[]⟩ := by
      apply ByteArray.ext
      exact Array.eq_empty_of_size_eq_zero h0
    subst hs
    go_enter Tryz.func130, Tryz.ntmps130
    go_wp2
    go_ret
    exact ⟨rfl, Below.refl _ _⟩
  · obtain ⟨i0, hi, hz0, hz1, hz2⟩ := info_parts info5
    have hinfo : (Tryz.prog.info? 5).map (·.size) = some 1 := by rw [hi]; simp [hz1]
    have hco : Tryz.prog.cellsOf 5 = 1 := by simp [Program.cellsOf, hi, hz1]
    obtain ⟨M, hM⟩ : ∃ M, M = madeCells (Value.int .u8 0).cells (((s.size : Nat) : Int).toNat * i0.size) := ⟨_, rfl⟩
    have hMs : M.size = s.size := by rw [hM, size_madeCells, hz1]; simp
    have hmk : ∀ W : World, (Instr.makeSlice 86 (.int .i64 (s.size : Int)) (.int .i64 (s.size : Int))).run Tryz.prog W = .ok (.slice (some ⟨W.heap.size, 0, none⟩) s.size s.size) (W.alloc (.cells M 5)) := fun W => by
      have h := run_make (P := Tryz.prog) W 86 5 i0 (.int .u8 0) Tryz.underlying86 hi hz0 .i64 .i64 (s.size : Int) (s.size : Int) (by omega) (by omega) (by rw [hz2]; omega) (by omega)
      rw [← hM] at h
      simpa using h
    clear hM
    have hcp := Lib.run_copy_row_string (P := Tryz.prog) (w.alloc (.cells M 5)) 86 9 3 5 w.heap.size 0 s.size s.size s M 5 Tryz.underlying86 hinfo (heap_alloc_new w _) (Nat.le_refl _) (by omega)
    obtain ⟨Y, hY⟩ : ∃ Y, Y = (M.toList.take 0 ++ Lib.byteCells s.data.toList ++ M.toList.drop (0 + s.size)).toArray := ⟨_, rfl⟩
    rw [← hY] at hcp
    have hYl : Y.toList = Lib.byteCells s.data.toList := by
      rw [hY, List.toList_toArray, List.take_zero, List.nil_append, List.drop_of_length_le (by rw [Array.length_toList]; omega), List.append_nil]
    have hYs : Y.size = s.size := by rw [← Array.length_toList, hYl, Lib.byteCells_length, ← Lib.size_eq]
    have hgY : ((w.alloc (.cells M 5)).setRow w.heap.size Y).heap[w.heap.size]? = some (.cells Y 5 (0, 0)) := setRow_heap _ _ M _ 5 (0, 0) (heap_alloc_new w _)
    have hne : s.data.toList ≠ [] := fun e => h0 (by rw [Lib.size_eq, e]; rfl)
    have hUS := Lib.run_unsafeString_row (P := Tryz.prog) ((w.alloc (.cells M 5)).setRow w.heap.size Y) 198 3 9 5 Tryz.underlying198 hco w.heap.size Y.size (by unfold World.shape?; rw [hgY]) s.data.toList hne (by rw [← Lib.size_eq]; omega) (by rw [← Lib.size_eq]; omega)
      (fun j x hx => Lib.cells_of_row hgY Y.size j _ (by rw [List.take_of_length_le (by rw [Array.length_toList]; exact Nat.le_refl _), hYl]; simp [Lib.byteCells, hx]))
    rw [← Lib.size_eq] at hUS
    clear hY
    go_enter Tryz.func130, Tryz.ntmps130
    go_wp2
    go_ret
    have hb1 : Below w.heap.size w (w.alloc (.cells M 5)) := (Below.refl _ w).alloc (Nat.le_refl _) _
    have hb2 : Below w.heap.size (w.alloc (.cells M 5)) ((w.alloc (.cells M 5)).setRow w.heap.size Y) := ⟨rfl, rfl, rfl, by simp, fun k hk => setRow_other _ _ _ _ (by omega)⟩
    exact ⟨rfl, Lib.below_freeze (hb1.trans hb2) (p := ⟨w.heap.size, 0, none⟩) (Nat.le_refl _) _⟩
theorem clone_any (s : ByteArray) (w : World) (hlim : s.size ≤ 281474976710656) :
    Calls Tryz.prog 104 #[.string s] w fun e w' => e = .returned (.string s) ∧ Below w.heap.size w w' := by
  go_enter Tryz.func104, Tryz.ntmps104
  go_wp2_with (go_at_call 130; refine (liteClone_any s _ hlim).mono ?_; rintro e w1 ⟨rfl, hb1⟩)
  go_ret
  exact ⟨rfl, hb1⟩


end Go.Proofs.YticfnfekkmkclaaGreatDoor.Wire

/-
  The Reader's short numbers.
-/
namespace Go.Proofs.YticfnfekkmkclaaGreatDoor.Wire
open Go.RowKit

theorem or_step (acc k m : Nat) (hacc : acc < 128 ^ k) (hk : k ≤ 9) (hm : m < 128) (h9 : k = 9 → m ≤ 1) : bits .or .u64 (U acc) (IntKind.u64.wrap ((m : Int) * 2 ^ (7 * k))) = U (acc + 128 ^ k * m) := by
  have hp : (128 : Nat) ^ k = 2 ^ (7 * k) := by rw [Nat.pow_mul]
  have hb : 2 ^ (7 * k) * m < 18446744073709551616 := by
    by_cases h : k = 9
    · have := h9 h; subst h
      have : 2 ^ (7 * 9) * m ≤ 2 ^ (7 * 9) * 1 := Nat.mul_le_mul_left _ this
      omega
    · have h2 : (2 : Nat) ^ (7 * k) ≤ 2 ^ 56 := Nat.pow_le_pow_right (by decide) (by omega)
      have : 2 ^ (7 * k) * m ≤ 2 ^ 56 * 127 := Nat.mul_le_mul h2 (by omega)
      omega
  have e : (m : Int) * 2 ^ (7 * k) = ((2 ^ (7 * k) * m : Nat) : Int) := by
    rw [Int.natCast_mul, Int.natCast_pow, Int.mul_comm]; rfl
  have ha : acc < 18446744073709551616 := by
    have : (128 : Nat) ^ k ≤ 128 ^ 9 := Nat.pow_le_pow_right (by decide) hk
    omega
  have hw : IntKind.u64.wrap ((2 ^ (7 * k) * m : Nat) : Int) = ((2 ^ (7 * k) * m : Nat) : Int) := by rw [IntKind.wrap_u64]; omega
  rw [e, hw]
  unfold U
  rw [u64_or_nat _ _ ha hb, Nat.or_comm, or_add _ _ _ (by rw [← hp]; exact hacc), hp, Nat.add_comm]
theorem scan_at (s : ByteArray) (k acc : Nat) (h : k < s.size) : scan (s.data.toList.drop k) k acc =
    if (k = 9 ∧ 1 < s[k].toNat) ∨ (0 < k ∧ s[k].toNat = 0) then (0, 0, 4) else if s[k].toNat < 128 then (acc + 128 ^ k * (s[k].toNat % 128), k + 1, 0) else scan (s.data.toList.drop (k + 1)) (k + 1) (acc + 128 ^ k * (s[k].toNat % 128)) := by
  rw [List.drop_eq_getElem_cons (by simpa using h), scan]; rfl
theorem scan_end (s : ByteArray) (k acc : Nat) (h : s.size ≤ k) : scan (s.data.toList.drop k) k acc = (0, 0, 8) := by
  rw [List.drop_of_length_le (by simpa using h), scan]
theorem pow_step {acc k m : Nat} (ha : acc < 128 ^ k) (hm : m < 128) : acc + 128 ^ k * m < 128 ^ (k + 1) := by
  rw [Nat.pow_succ]
  have : 128 ^ k * m ≤ 128 ^ k * 127 := Nat.mul_le_mul_left _ (by omega)
  omega
/-- what a short number tells -/
def scT (s : ByteArray) (R : Nat × Nat × Nat) : Ending := .returned (.tuple #[.int .u64 (U R.1), .int .i64 (R.2.1 : Int), .int .i64 (R.2.2 : Int)])

end Go.Proofs.YticfnfekkmkclaaGreatDoor.Wire

/-
  The Reader's calls: U8 to U64, Low, Short, Raw, Text.
-/
namespace Go.Proofs.YticfnfekkmkclaaGreatDoor.Wire
open Go.RowKit

def fxV (s : ByteArray) (i e k : Nat) : Nat := be (tkT s i e k).data.toList
theorem fxV_lt (s : ByteArray) (i e k : Nat) : fxV s i e k < 256 ^ k := by
  have h := beT_lt (tkT s i e k) (tkT s i e k).size
  rw [beT_all _ _ (Nat.le_refl _)] at h
  have h2 := Nat.pow_le_pow_right (n := 256) (by decide) (tkT_size s i e k)
  unfold fxV; omega

theorem ru16_any (r : Nat) (s : ByteArray) (i e : Nat) (w : World) (hrd : Rd w r s i e) (hi : i ≤ s.size) (hs : s.size ≤ 1000000000000) :
    Calls Tryz.prog 67 #[.pointer (some ⟨r, 0, none⟩)] w fun x w' => x = .returned (.int .u16 (U (fxV s i e 2))) ∧ Step w w' r s (tkI s i e 2) (tkE s i e 2) := by
  go_enter Tryz.func67, Tryz.ntmps67
  go_wp2_with fail
  refine (rfix16 r s i e w hrd hi hs).mono ?_; rintro x w1 ⟨rfl, hst⟩
  have HST := Lib.hid hst; clear hst
  go_wp2_with fail
  go_ret
  exact ⟨rfl, HST.out⟩
theorem ru64_any (r : Nat) (s : ByteArray) (i e : Nat) (w : World) (hrd : Rd w r s i e) (hi : i ≤ s.size) (hs : s.size ≤ 1000000000000) :
    Calls Tryz.prog 106 #[.pointer (some ⟨r, 0, none⟩)] w fun x w' => x = .returned (.int .u64 (U (fxV s i e 8))) ∧ Step w w' r s (tkI s i e 8) (tkE s i e 8) := by
  go_enter Tryz.func106, Tryz.ntmps106
  go_wp2_with fail
  refine (rfix64 r s i e w hrd hi hs).mono ?_; rintro x w1 ⟨rfl, hst⟩
  have HST := Lib.hid hst; clear hst
  go_wp2_with fail
  go_ret
  exact ⟨rfl, HST.out⟩
/-! ### Raw -/
theorem take_zero (r : Nat) (s : ByteArray) (i e : Nat) (w : World) (h : Rd w r s i e) (hi : i ≤ s.size) (hs : s.size ≤ 1000000000000) :
    Calls Tryz.prog 105 #[.pointer (some ⟨r, 0, none⟩), .int .i64 0] w fun x w' => x = .returned (.string (tkT s i e 0)) ∧ Step w w' r s (tkI s i e 0) (tkE s i e 0) :=
  take_any r s i e 0 w h hi hs
set_option maxHeartbeats 400000 in
theorem rraw_any (r : Nat) (s : ByteArray) (i e : Nat) (n : Int) (w : World) (hrd : Rd w r s i e) (hi : i ≤ s.size) (hs : s.size ≤ 1000000000000) :
    Calls Tryz.prog 65 #[.pointer (some ⟨r, 0, none⟩), .int .i64 n] w fun x w' => x = .returned (.string (tkT s i e n.toNat)) ∧ Step w w' r s (tkI s i e n.toNat) (tkE s i e n.toNat) := by
  have hT : (tkT s i e n.toNat).size ≤ 281474976710656 := by
    unfold tkT; split
    · rw [ByteArray.size_extract]; omega
    · exact Nat.zero_le _
  have HT := Lib.hid hT; clear hT
  by_cases hn : 0 ≤ n
  · obtain ⟨k, rfl⟩ : ∃ k : Nat, n = (k : Int) := ⟨n.toNat, by omega⟩
    rw [Int.toNat_natCast] at *
    go_enter Tryz.func65, Tryz.ntmps65
    go_wp2_with fail
    refine (take_any r s i e k w hrd hi hs).mono ?_; rintro x w1 ⟨rfl, hst⟩
    have HST := Lib.hid hst; clear hst
    go_wp2_with fail
    refine (clone_any _ w1 HT.out).mono ?_; rintro x w2 ⟨rfl, hb⟩
    have HB := Lib.hid hb; clear hb
    go_wp2_with fail
    go_ret
    exact ⟨rfl, HST.out.below HB.out⟩
  · have e0 : n.toNat = 0 := by omega
    have HT0 : Hid ((tkT s i e 0).size ≤ 281474976710656) := by have := HT.out; rw [e0] at this; exact this
    rw [e0]
    clear e0 HT
    have hn2 : max n 0 = 0 := by omega
    clear hn
    go_enter Tryz.func65, Tryz.ntmps65
    go_wp2_with fail
    refine (take_zero r s i e w hrd hi hs).mono ?_; rintro x w1 ⟨rfl, hst⟩
    have HST := Lib.hid hst; clear hst
    go_wp2_with fail
    refine (clone_any _ w1 HT0.out).mono ?_; rintro x w2 ⟨rfl, hb⟩
    have HB := Lib.hid hb; clear hb
    go_wp2_with fail
    go_ret
    exact ⟨rfl, HST.out.below HB.out⟩

/-! ### Short -/
/-- (number, where it stands then, the error) -/
def shR (s : ByteArray) (i e m : Nat) : Nat × Nat × Nat :=
  if e = 0 then (if m < (scan (s.data.toList.drop i) 0 0).1 then (0, i, 40) else ((scan (s.data.toList.drop i) 0 0).1, i + (scan (s.data.toList.drop i) 0 0).2.1, (scan (s.data.toList.drop i) 0 0).2.2)) else (0, i, e)
theorem scan_size : ∀ (l : List UInt8) (i acc : Nat), (scan l i acc).2.1 ≤ i + l.length
  | [], _, _ => by rw [scan]; exact Nat.zero_le _
  | b :: l, i, acc => by
    rw [scan, List.length_cons]
    split
    · exact Nat.zero_le _
    · split
      · show i + 1 ≤ _; omega
      · have := scan_size l (i + 1) (acc + 128 ^ i * (b.toNat % 128)); omega
/-! ### Text -/
/-- (text, where it stands then, the error) -/
def txR (s : ByteArray) (i e m : Nat) : ByteArray × Nat × Nat :=
  (tkT s (shR s i e m).2.1 (shR s i e m).2.2 (shR s i e m).1, if tkE s (shR s i e m).2.1 (shR s i e m).2.2 (shR s i e m).1 = 0 then tkI s (shR s i e m).2.1 (shR s i e m).2.2 (shR s i e m).1 else i, tkE s (shR s i e m).2.1 (shR s i e m).2.2 (shR s i e m).1)
theorem shR_le (s : ByteArray) (i e m : Nat) (hi : i ≤ s.size) : (shR s i e m).2.1 ≤ s.size := by
  unfold shR
  split
  · split
    · exact hi
    · have := scan_size (s.data.toList.drop i) 0 0
      rw [List.length_drop] at this
      have e : s.data.toList.length = s.size := rfl
      show i + _ ≤ _
      omega
  · exact hi
theorem shR_most (s : ByteArray) (i e m : Nat) : (shR s i e m).1 ≤ m := by
  unfold shR
  split
  · split
    · exact Nat.zero_le _
    · show (scan _ 0 0).1 ≤ m; omega
  · exact Nat.zero_le _
theorem wrapM (m : Int) (h0 : 0 ≤ m) (h : m ≤ 9223372036854775807) : IntKind.u64.wrap m = U m.toNat := by rw [IntKind.wrap_u64]; unfold U; omega
theorem wrapI (n : Nat) (h : n ≤ 9223372036854775807) : IntKind.i64.wrap (U n) = (n : Int) := by unfold U; exact IntWalk.i64_in _ (by omega)
/-! ### nobody's Reader -/
theorem below_refl' (w : World) : Below w.heap.size w w := Below.refl _ _
theorem rraw_nil (n : Int) (w : World) : Calls Tryz.prog 65 #[.pointer none, .int .i64 n] w fun x w' => x = .returned (.string ⟨#[]⟩) ∧ Below w.heap.size w w' := by
  go_enter Tryz.func65, Tryz.ntmps65
  go_wp2_with fail
  refine (take_nil _ w).mono ?_; rintro x w1 ⟨rfl, rfl⟩
  go_wp2_with fail
  refine (clone_any _ w (by decide)).mono ?_; rintro x w2 ⟨rfl, hb⟩
  go_wp2_with fail
  go_ret
  exact ⟨rfl, hb⟩
end Go.Proofs.YticfnfekkmkclaaGreatDoor.Wire
