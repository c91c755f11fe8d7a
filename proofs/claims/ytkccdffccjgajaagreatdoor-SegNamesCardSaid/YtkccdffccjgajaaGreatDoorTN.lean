import Derived.Test.YtkccdffccjgajaaGreatDoorTM
import Derived.Test.YtkccdffccjgajaaGreatDoorCE
import Derived.Test.YtkccdffccjgajaaGreatDoorW14
/-
  What the statement SegNames goes over: names that are none, long payloads.
-/
namespace Go.Proofs.YtkccdffccjgajaaGreatDoor.Seg
open Go Go.RowKit
open Go.Proofs.YtkccdffccjgajaaGreatDoor.Wire (S S_list S_size S_append cell_row frozen_row row_lt heap_set heap_far U)
open Go.Proofs.YtkccdffccjgajaaGreatDoor.Frame Go.Proofs.YtkccdffccjgajaaGreatDoor.Ranges
open Go.Proofs.YtkccdffccjgajaaGreatDoor.Crc (ofW fourL sealS refSeal_any)

def lits : List ByteArray := [⟨#[]⟩, ⟨#[115]⟩, ⟨#[115, 45]⟩, ⟨#[115, 48, 48, 48, 48, 48, 48, 48, 51, 45]⟩, ⟨#[115, 51, 45, 49, 55]⟩, ⟨#[115, 48, 48, 48, 48, 48, 48, 48, 51, 45, 48, 48, 48, 48, 48, 48, 48, 48, 48, 49, 55]⟩, ⟨#[115, 48, 48, 48, 48, 48, 48, 48, 51, 95, 48, 48, 48, 48, 48, 48, 48, 48, 49, 55]⟩, ⟨#[83, 48, 48, 48, 48, 48, 48, 48, 51, 45, 48, 48, 48, 48, 48, 48, 48, 48, 49, 55]⟩, ⟨#[115, 48, 48, 48, 48, 48, 48, 48, 43, 45, 48, 48, 48, 48, 48, 48, 48, 48, 49, 55]⟩, ⟨#[115, 48, 48, 48, 48, 48, 48, 48, 51, 45, 48, 48, 48, 57, 57, 57, 57, 57, 57, 57]⟩, ⟨#[110, 48, 48, 48, 48, 48, 48, 48, 48, 49, 55]⟩, ⟨#[32, 115, 48, 48, 48, 48, 48, 48, 48, 51, 45, 48, 48, 48, 48, 48, 48, 48, 48, 49, 55]⟩, ⟨#[115, 45, 48, 48, 48, 48, 48, 48, 51, 45, 48, 48, 48, 48, 48, 48, 48, 48, 49, 55]⟩]
theorem lits_no : ∀ j (h : j < lits.length), (namedR (lits[j]'h).data.toList).2.2 = false ∧ (lits[j]'h).size ≤ 100 := by decide +kernel
theorem strs_new (w : World) (l : List ByteArray) (hz : ∀ j (h : j < l.length), (l[j]'h).size ≤ maxLen) : Strs (w.alloc (.cells (strV l).toArray 9)) (some ⟨w.heap.size, 0, none⟩) l := fun j hj => by
  have hb := heap_alloc_new w (.cells (strV l).toArray 9)
  refine ⟨w.heap.size, 0, rfl, by simp, hz j hj, ?_⟩
  rw [cell_row hb, Nat.zero_add]
  unfold strV
  simp [hj]
def zl : List UInt8 := List.replicate 4096 0
theorem zl_len : zl.length = 4096 := List.length_replicate
def zp : ByteArray := S zl
theorem zp_size : zp.size = 4096 := by unfold zp; rw [S_size, zl_len]
def lz (i : Nat) : List ByteArray := List.replicate i zp ++ List.replicate (300 - i) ⟨#[]⟩
theorem lz_length {i : Nat} (h : i ≤ 300) : (lz i).length = 300 := by unfold lz; rw [List.length_append, List.length_replicate, List.length_replicate]; omega
theorem lz_set {i : Nat} (h : i < 300) : (lz i).set i zp = lz (i + 1) := by
  unfold lz
  rw [List.set_append_right _ _ (by rw [List.length_replicate]; exact Nat.le_refl _), List.length_replicate, Nat.sub_self]
  obtain ⟨m, hm⟩ : ∃ m, 300 - i = m + 1 := ⟨299 - i, by omega⟩
  rw [hm, show 300 - (i + 1) = m by omega, List.replicate_succ, List.set_cons_zero, List.replicate_succ', List.append_assoc]
  rfl
theorem lz_all : lz 300 = List.replicate 300 zp := by unfold lz; rw [Nat.sub_self, List.replicate_zero, List.append_nil]
set_option maxRecDepth 100000 in
theorem lz_none : lz 0 = List.replicate 300 ⟨#[]⟩ := by unfold lz; rw [List.replicate_zero, List.nil_append, Nat.sub_zero]
theorem zp_bytes : bytesP (List.replicate 300 zp) = List.replicate 300 zl := by
  unfold bytesP; rw [List.map_replicate]; unfold zp; rw [S_list]
def mkS : Array Value := madeCells #[.string ⟨#[]⟩] 300
theorem run_mkS (W : World) : (Instr.makeSlice 23 (.int .i64 300) (.int .i64 300)).run Tryz.prog W = .ok (.slice (some ⟨W.heap.size, 0, none⟩) 300 300) (W.alloc (.cells mkS 9)) := by
  obtain ⟨i0, hi, hz0, hz1, hz2⟩ := info_parts infoS
  have h := run_make (P := Tryz.prog) W 23 9 i0 (.string ⟨#[]⟩) Tryz.underlying23 hi hz0 .i64 .i64 300 300 (by omega) (by omega) (by rw [hz2]; decide) (by decide)
  rw [hz1] at h
  exact h
theorem mkS_size : mkS.size = 300 := by unfold mkS; rw [size_madeCells]
set_option maxRecDepth 100000 in
theorem mkS_list : mkS.toList = strV (List.replicate 300 ⟨#[]⟩) := by
  have e : strV (List.replicate 300 ⟨#[]⟩) = List.replicate 300 (.string ⟨#[]⟩) := by unfold strV; rw [List.map_replicate]
  rw [e]
  refine List.ext_getElem (by rw [Array.length_toList, mkS_size, List.length_replicate]) (fun i h1 h2 => ?_)
  rw [List.getElem_replicate, Array.getElem_toList]
  simp [mkS, madeCells, Nat.mod_one]
set_option maxRecDepth 100000 in
theorem own_mkS {W : World} {base : Nat} (hb : base ≤ W.heap.size) : OwnS (W.alloc (.cells mkS 9)) base (.slice (some ⟨W.heap.size, 0, none⟩) (lz 0).length 300) (lz 0) := by
  rw [lz_none]
  refine ⟨by rw [strV_len, Nat.mul_one], Or.inr ⟨W.heap.size, 300, mkS, by rw [List.length_replicate], hb, heap_alloc_new W _, by rw [List.length_replicate]; exact Nat.le_refl _, by decide, by rw [mkS_size], ?_⟩⟩
  rw [mkS_list, List.length_replicate, Nat.mul_one]
  exact List.take_of_length_le (by rw [strV_len, List.length_replicate]; exact Nat.le_refl _)
theorem segN_rep (p : List UInt8) : ∀ k, segN (List.replicate k p) = 16 + k * (16 + p.length)
  | 0 => by rw [Nat.zero_mul]; rfl
  | k + 1 => by rw [List.replicate_succ', segN_snoc, segN_rep p k, Nat.succ_mul]; omega
theorem ok_rep : okP 0 (List.replicate 300 zl) := ⟨by rw [List.length_replicate]; decide, fun p hp => by rw [List.eq_of_mem_replicate hp, zl_len]; decide⟩
theorem jo_long : joV 0 (List.replicate 300 zp) = .returned (.tuple #[.string ⟨#[]⟩, .int .i64 40]) := by
  have hw : wrE 0 (List.replicate 300 zl) = 0 := wrE_ok ok_rep
  have he : joE 0 (List.replicate 300 zl) = 40 := by
    unfold joE
    rw [if_pos hw, if_pos (by rw [segN_rep, zl_len]; decide)]
  unfold joV joB
  rw [zp_bytes, he, if_neg (by decide)]; rfl
theorem spl_rep : ∀ (n k q : Nat), 1 ≤ k → k ≤ 15 → (spl 65536 q (List.replicate k zl) (List.replicate n zl)).length = (k + n + 14) / 15
  | 0, k, q, h1, h2 => by rw [List.replicate_zero, spl]; show 1 = _; omega
  | n + 1, k, q, h1, h2 => by
    rw [List.replicate_succ, spl]
    by_cases hk : k < 15
    · rw [if_pos (by unfold fitsB; rw [segN_rep, zl_len]; simp; omega), ← List.replicate_succ', spl_rep n (k + 1) q (by omega) (by omega)]
      omega
    · rw [if_neg (by unfold fitsB; rw [segN_rep, zl_len]; simp; omega), List.length_cons]
      have := spl_rep n 1 (q + (List.replicate k zl).length) (by omega) (by omega)
      rw [show List.replicate 1 zl = [zl] from rfl] at this
      rw [this]
      omega
theorem sp_long : spE 0 (bytesP (List.replicate 300 zp)) 65536 = 0 ∧ (spS 0 (List.replicate 300 zp) 65536).length = 20 := by
  have h0 : spE 0 (bytesP (List.replicate 300 zp)) 65536 = 0 := by
    unfold spE
    rw [if_pos (by decide), zp_bytes]
    exact wrE_ok ok_rep
  refine ⟨h0, ?_⟩
  unfold spS
  rw [if_pos h0, outs_len]
  unfold grp
  rw [zp_bytes, show List.replicate 300 zl = zl :: List.replicate 299 zl from List.replicate_succ, spl, if_pos (by unfold fitsB; rw [segN_nil, zl_len]; decide)]
  have := spl_rep 299 1 0 (by omega) (by omega)
  exact this
theorem jo_one : joV 1048577 [⟨#[]⟩] = .returned (.tuple #[.string ⟨#[]⟩, .int .i64 1]) ∧ joV 1048576 [⟨#[]⟩] = .returned (.tuple #[.string ⟨#[]⟩, .int .i64 4]) ∧ joV 1048576 [⟨#[120]⟩] = .returned (.tuple #[.string ⟨#[]⟩, .int .i64 40]) := by
  refine ⟨?_, ?_, ?_⟩
  · have h : joE 1048577 (bytesP [⟨#[]⟩]) = 1 := by decide +kernel
    unfold joV joB; rw [h, if_neg (by decide)]; rfl
  · have h : joE 1048576 (bytesP [⟨#[]⟩]) = 4 := by decide +kernel
    unfold joV joB; rw [h, if_neg (by decide)]; rfl
  · have h : joE 1048576 (bytesP [⟨#[120]⟩]) = 40 := by decide +kernel
    unfold joV joB; rw [h, if_neg (by decide)]; rfl
theorem jo_two : ∃ T, joV 1048575 [⟨#[120]⟩] = .returned (.tuple #[.string T, .int .i64 0]) := by
  have h : joE 1048575 (bytesP [⟨#[120]⟩]) = 0 := by decide +kernel
  refine ⟨S (joB 1048575 (bytesP [⟨#[120]⟩])), ?_⟩
  unfold joV; rw [h]; rfl
theorem hd_one : hdE (-1) = 1 ∧ hdE 1048577 = 1 ∧ hdE 1048576 = 0 ∧ hdB 1048576 = segH 1048576 := by decide +kernel
theorem fi_one : fiE (segH 1048576) = 0 ∧ fiQ (segH 1048576) = 1048576 ∧ fiE ((segH 1048576).take 15) = 8 ∧ fiE [115, 101, 103, 50, 120, 120, 120, 120, 120, 120, 120, 120, 120, 120, 120, 120] = 4 ∧ fiE [115, 101, 103, 49, 120, 120, 120, 120, 120, 120, 120, 120, 120, 120, 120, 120] = 42 := by decide +kernel
theorem fi_two : fiE ([115, 101, 103, 49, 0, 0, 0, 0, 0, 16, 0, 1] ++ fourL (ofW [115, 101, 103, 49, 0, 0, 0, 0, 0, 16, 0, 1])) = 4 := by decide +kernel
theorem nm_one : nameE (-1) 0 = [] ∧ nameE 100000000 0 = [] ∧ nameE 0 (-1) = [] ∧ nameE 0 1048577 = [] ∧ nameE 99999999 1048576 = [115, 57, 57, 57, 57, 57, 57, 57, 57, 45, 48, 48, 48, 49, 48, 52, 56, 53, 55, 54] := by decide +kernel
theorem ft_one : fitsB 16 0 64 = false ∧ fitsB 16 4097 65536 = false := by decide +kernel
theorem sp_one : spE 0 [] 63 = 1 ∧ spE 0 [] 65537 = 1 ∧ spE 7 [] 64 = 0 ∧ spS 0 [] 63 = [] ∧ spS 0 [] 65537 = [] ∧ (spS 7 [] 64).length = 1 := by
  have h0 : spE 7 (bytesP []) 64 = 0 := by decide +kernel
  have h1 : spE 0 (bytesP []) 63 = 1 := by decide +kernel
  have h2 : spE 0 (bytesP []) 65537 = 1 := by decide +kernel
  refine ⟨h1, h2, h0, ?_, ?_, ?_⟩
  · unfold spS; rw [h1]; rfl
  · unfold spS; rw [h2]; rfl
  · unfold spS; rw [if_pos h0, outs_len]; decide +kernel
end Go.Proofs.YtkccdffccjgajaaGreatDoor.Seg
