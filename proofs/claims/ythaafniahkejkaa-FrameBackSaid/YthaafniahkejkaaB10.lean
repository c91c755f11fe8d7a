/-
  The Reader's fixed numbers.
-/
import Derived.Test.YthaafniahkejkaaB9
namespace Go.Proofs.Ythaafniahkejkaa.Wire
open Go.RowKit

/-! ### take, in one word -/
def tkT (s : ByteArray) (i e n : Nat) : ByteArray := if e = 0 ∧ i + n ≤ s.size then s.extract i (i + n) else ⟨#[]⟩
def tkI (s : ByteArray) (i e n : Nat) : Nat := if e = 0 ∧ i + n ≤ s.size then i + n else i
def tkE (s : ByteArray) (i e n : Nat) : Nat := if e = 0 then (if i + n ≤ s.size then 0 else 8) else e
theorem tkT_size (s : ByteArray) (i e n : Nat) : (tkT s i e n).size ≤ n := by
  unfold tkT; split
  · rw [ByteArray.size_extract]; omega
  · exact Nat.zero_le _
theorem take_any (r : Nat) (s : ByteArray) (i e : Nat) (n : Nat) (w : World) (h : Rd w r s i e) (hi : i ≤ s.size) (hs : s.size ≤ 1000000000000) :
    Calls Try.prog 44 #[.pointer (some ⟨r, 0, none⟩), .int .i64 (n : Int)] w fun x w' => x = .returned (.string (tkT s i e n)) ∧ Step w w' r s (tkI s i e n) (tkE s i e n) := by
  unfold tkT tkI tkE
  by_cases he : e = 0
  · subst he
    by_cases hn : i + n ≤ s.size
    · rw [if_pos ⟨rfl, hn⟩, if_pos ⟨rfl, hn⟩, if_pos rfl, if_pos hn]
      exact take_ok r s i n w h hn hs
    · rw [if_neg (by omega), if_neg (by omega), if_pos rfl, if_neg hn]
      exact take_short r s i n w h hi hs (by omega)
  · rw [if_neg (by omega), if_neg (by omega), if_neg he]
    exact (take_wrong r s i e n w h he).mono fun x w' ⟨hx, hw⟩ => ⟨hx, by subst hw; exact Step.refl h⟩

theorem len_255 (w : World) : Calls Try.prog 52 #[.int .u64 255] w fun x w' => x = .returned (.int .i64 8) ∧ w = w' := len64_any 255 w (by show _ < _; omega)
theorem len_65535 (w : World) : Calls Try.prog 52 #[.int .u64 65535] w fun x w' => x = .returned (.int .i64 16) ∧ w = w' := len64_any 65535 w (by show _ < _; omega)
theorem len_32 (w : World) : Calls Try.prog 52 #[.int .u64 4294967295] w fun x w' => x = .returned (.int .i64 32) ∧ w = w' := len64_any 4294967295 w (by show _ < _; omega)
theorem len_64 (w : World) : Calls Try.prog 52 #[.int .u64 18446744073709551615] w fun x w' => x = .returned (.int .i64 64) ∧ w = w' := len64_any 18446744073709551615 w (by show _ < _; omega)

/-- the number of the first k bytes -/
def beT (s : ByteArray) (k : Nat) : Nat := be (s.data.toList.take k)
theorem beT_zero (s : ByteArray) : beT s 0 = 0 := rfl
theorem beT_succ (s : ByteArray) (k : Nat) (h : k < s.size) : beT s (k + 1) = beT s k * 256 + s[k].toNat := by
  unfold beT
  rw [List.take_succ_eq_append_getElem (by simpa using h), be_snoc]; rfl
theorem beT_all (s : ByteArray) (k : Nat) (h : s.size ≤ k) : beT s k = be s.data.toList := by
  unfold beT; rw [List.take_of_length_le (by simpa using h)]
theorem beT_lt (s : ByteArray) (k : Nat) : beT s k < 256 ^ k := by
  unfold beT
  have h := be_lt _ (s.data.toList.take k) rfl
  have h2 := Nat.pow_le_pow_right (n := 256) (by decide) (show (s.data.toList.take k).length ≤ k from List.length_take_le _ _)
  omega
theorem shl_or (n : Nat) (c : UInt8) (hn : n < 72057594037927936) : bits .or .u64 (U n * 256 % 18446744073709551616) (c.toNat : Int) = U (n * 256 + c.toNat) := by
  have hc := c.toNat_lt
  have e : U n * 256 % 18446744073709551616 = ((2 ^ 8 * n : Nat) : Int) := by unfold U; omega
  rw [e, u64_or_nat _ _ (by omega) (by omega), or_add _ _ 8 (by omega)]
  unfold U; omega
theorem bytesRow_cell (w : World) (s : ByteArray) (cap : Nat) (fr : Nat × Nat) (n k : Nat) (h : k < s.size) : ((w.drewN n).alloc (.cells (bytesRow s cap) 5 fr)).cell? ⟨w.heap.size, k, none⟩ = some (.int .u8 (s[k].toNat : Int)) := by
  have hk : k < s.data.toList.length := by simpa using h
  have := bytesRow_src w s cap fr n k (bv s.data.toList[k]) (by unfold bvs; rw [List.getElem?_map, List.getElem?_eq_getElem hk]; rfl)
  rw [addr_add, Nat.zero_add] at this
  exact this

set_option maxRecDepth 100000 in
set_option maxHeartbeats 400000 in
theorem rfix32 (r : Nat) (s : ByteArray) (i e : Nat) (w : World) (hrd : Rd w r s i e) (hi : i ≤ s.size) (hs : s.size ≤ 1000000000000) :
    Calls Try.prog 40 #[.pointer (some ⟨r, 0, none⟩)] w fun x w' => x = .returned (.int .u32 (U (be (tkT s i e 4).data.toList))) ∧ Step w w' r s (tkI s i e 4) (tkE s i e 4) := by
  go_enter Try.func40, Try.ntmps40
  go_wp2_with fail
  refine (len_32 w).mono ?_; rintro x w1 ⟨rfl, rfl⟩
  go_wp2_with fail
  refine (take_any r s i e 4 w hrd hi hs).mono ?_; rintro x w1 ⟨rfl, hst⟩
  have HST := Lib.hid hst; clear hst hrd hi hs
  have ht := tkT_size s i e 4
  generalize hT : tkT s i e 4 = t at *
  have HT := Lib.hid hT; clear hT
  have hconv := run_bytes_of_string (P := Try.prog) w1 9 52 5 t Try.underlying9 Try.underlying52 Try.underlying5
  have hcell := fun fr k hk => bytesRow_cell w1 t (grownCap w1 t.size 0 5) fr 1 k hk
  have hcap := grownCap_ge w1 t.size 0 5
  have HC := Lib.hid hcell; clear hcell
  generalize grownCap w1 t.size 0 5 = cap at *
  generalize bytesRow t cap = R at *
  go_wp2_with fail
  clear hconv
  have HB : Hid (Below w1.heap.size w1 (w1.alloc (Obj.cells R 5 (R.size, R.size + 1))).drew) := ((Below.refl _ _).alloc (Nat.le_refl _) _).drew
  have HC2 : Hid (∀ (k : Nat) (hk : k < t.size), (w1.alloc (Obj.cells R 5 (R.size, R.size + 1))).drew.cell? ⟨w1.heap.size, k, none⟩ = some (.int .u8 (t[k].toNat : Int))) := fun k hk => HC.out _ k hk
  generalize (w1.alloc (Obj.cells R 5 (R.size, R.size + 1))).drew = W at *
  generalize hg : w1.heap.size = g at *
  have HG := Lib.hid hg; clear hg
  go_loop [4, 17] (fun n j => ∃ k : Nat, k ≤ t.size ∧ j = .int .i64 k ∧ n = .int .u64 (U (beT t k))) (fun _ j => t.size - (intOf j).toNat)
  case atStart => exact ⟨0, Nat.zero_le _, rfl, rfl⟩
  case round =>
    obtain ⟨k, hk, rfl, rfl⟩ := hrel
    by_cases hlt : k < t.size
    · have hc := HC2.out k hlt
      have hb := beT_lt t k
      have hb2 : Hid (beT t k < 72057594037927936) := by
        have := Nat.pow_le_pow_right (n := 256) (by decide) (show k ≤ 7 by omega)
        show _ < _; omega
      have HS := Lib.hid (shl_or (beT t k) t[k] hb2.out)
      have HBT := Lib.hid (beT_succ t k hlt)
      have hu : IntKind.u64.wrap (t[k].toNat : Int) = (t[k].toNat : Int) := by rw [IntKind.wrap_u64]; have := t[k].toNat_lt; omega
      clear hb
      generalize beT t k = n at *
      generalize t[k] = c at *
      go_wp2_with fail
      go_round
      case rel => exact ⟨k + 1, by omega, by go_num, congrArg (Value.int .u64) (HS.out.trans (by rw [HBT.out]))⟩
      case measure => simp [intOf] <;> omega
    · have HBA := Lib.hid (beT_all t k (by omega))
      have hm : U (beT t k) % 4294967296 = U (beT t k) := by
        have := beT_lt t t.size; rw [beT_all t _ (Nat.le_refl _)] at this
        have h2 := Nat.pow_le_pow_right (n := 256) (by decide) ht
        rw [HBA.out]; unfold U; omega
      go_wp2_with fail
      go_ret
      exact ⟨congrArg (fun z => Ending.returned (Value.int .u32 z)) (by rw [HBA.out, ← HT.out]), HST.out.below (HG.out ▸ HB.out)⟩

set_option maxRecDepth 100000 in
set_option maxHeartbeats 400000 in
theorem rfix64 (r : Nat) (s : ByteArray) (i e : Nat) (w : World) (hrd : Rd w r s i e) (hi : i ≤ s.size) (hs : s.size ≤ 1000000000000) :
    Calls Try.prog 41 #[.pointer (some ⟨r, 0, none⟩)] w fun x w' => x = .returned (.int .u64 (U (be (tkT s i e 8).data.toList))) ∧ Step w w' r s (tkI s i e 8) (tkE s i e 8) := by
  go_enter Try.func41, Try.ntmps41
  go_wp2_with fail
  refine (len_64 w).mono ?_; rintro x w1 ⟨rfl, rfl⟩
  go_wp2_with fail
  refine (take_any r s i e 8 w hrd hi hs).mono ?_; rintro x w1 ⟨rfl, hst⟩
  have HST := Lib.hid hst; clear hst hrd hi hs
  have ht := tkT_size s i e 8
  generalize hT : tkT s i e 8 = t at *
  have HT := Lib.hid hT; clear hT
  have hconv := run_bytes_of_string (P := Try.prog) w1 9 52 5 t Try.underlying9 Try.underlying52 Try.underlying5
  have hcell := fun fr k hk => bytesRow_cell w1 t (grownCap w1 t.size 0 5) fr 1 k hk
  have hcap := grownCap_ge w1 t.size 0 5
  have HC := Lib.hid hcell; clear hcell
  generalize grownCap w1 t.size 0 5 = cap at *
  generalize bytesRow t cap = R at *
  go_wp2_with fail
  clear hconv
  have HB : Hid (Below w1.heap.size w1 (w1.alloc (Obj.cells R 5 (R.size, R.size + 1))).drew) := ((Below.refl _ _).alloc (Nat.le_refl _) _).drew
  have HC2 : Hid (∀ (k : Nat) (hk : k < t.size), (w1.alloc (Obj.cells R 5 (R.size, R.size + 1))).drew.cell? ⟨w1.heap.size, k, none⟩ = some (.int .u8 (t[k].toNat : Int))) := fun k hk => HC.out _ k hk
  generalize (w1.alloc (Obj.cells R 5 (R.size, R.size + 1))).drew = W at *
  generalize hg : w1.heap.size = g at *
  have HG := Lib.hid hg; clear hg
  go_loop [4, 16] (fun n j => ∃ k : Nat, k ≤ t.size ∧ j = .int .i64 k ∧ n = .int .u64 (U (beT t k))) (fun _ j => t.size - (intOf j).toNat)
  case atStart => exact ⟨0, Nat.zero_le _, rfl, rfl⟩
  case round =>
    obtain ⟨k, hk, rfl, rfl⟩ := hrel
    by_cases hlt : k < t.size
    · have hc := HC2.out k hlt
      have hb := beT_lt t k
      have hb2 : Hid (beT t k < 72057594037927936) := by
        have := Nat.pow_le_pow_right (n := 256) (by decide) (show k ≤ 7 by omega)
        show _ < _; omega
      have HS := Lib.hid (shl_or (beT t k) t[k] hb2.out)
      have HBT := Lib.hid (beT_succ t k hlt)
      have hu : IntKind.u64.wrap (t[k].toNat : Int) = (t[k].toNat : Int) := by rw [IntKind.wrap_u64]; have := t[k].toNat_lt; omega
      clear hb
      generalize beT t k = n at *
      generalize t[k] = c at *
      go_wp2_with fail
      go_round
      case rel => exact ⟨k + 1, by omega, by go_num, congrArg (Value.int .u64) (HS.out.trans (by rw [HBT.out]))⟩
      case measure => simp [intOf] <;> omega
    · have HBA := Lib.hid (beT_all t k (by omega))
      go_wp2_with fail
      go_ret
      exact ⟨congrArg (fun z => Ending.returned (Value.int .u64 z)) (by rw [HBA.out, ← HT.out]), HST.out.below (HG.out ▸ HB.out)⟩

end Go.Proofs.Ythaafniahkejkaa.Wire
