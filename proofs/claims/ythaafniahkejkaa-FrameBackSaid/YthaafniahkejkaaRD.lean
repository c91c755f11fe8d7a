import Derived.Test.YthaafniahkejkaaRB
/-
  The law's own helpers: refused; many.
-/
namespace Go.Proofs.Ythaafniahkejkaa.Frame
open Go Go.RowKit
open Go.Proofs.Ythaafniahkejkaa.Wire (S S_list S_size be cell_row frozen_row)

theorem refused_any (s : ByteArray) (i : Int) (x : Nat) (hs : s.size ≤ 1000000000000) (h : rdV s i = .tuple #[frV 0 [] 0, .int .i64 0, .int .i64 (x : Int)]) (w : World) :
    Calls Try.prog 15 #[.string s, .int .i64 i, .int .i64 (x : Int)] w fun e w' => e = .returned (.bool true) ∧ Below w.heap.size w w' := by
  have hr := fun W => Read_any s i hs W
  rw [h, zero_fr] at hr
  have HR := Lib.hid hr
  clear hr h hs
  go_enter Try.func15, Try.ntmps15
  go_wp2_with fail
  refine (HR.out _).mono ?_
  rintro e w1 ⟨rfl, hb⟩
  have HB := Lib.hid hb; clear hb
  go_wp2_with fail
  go_ret
  exact ⟨rfl, HB.out.alloc HB.out.size _⟩
theorem rdV_no {s : ByteArray} {i : Int} (h : i < 0 ∨ (s.size : Int) < i) : rdV s i = .tuple #[frV 0 [] 0, .int .i64 0, .int .i64 ((1 : Nat) : Int)] := by
  unfold rdV; rw [if_neg (by omega)]; rfl
theorem rdV_at {l : List UInt8} {k x : Nat} (hk : k ≤ l.length) (h : rdE (l.drop k) = x) (hx : ¬ x = 0) : rdV (S l) (k : Int) = .tuple #[frV 0 [] 0, .int .i64 0, .int .i64 (x : Int)] := by
  unfold rdV
  rw [if_pos ⟨by omega, by rw [S_size]; omega⟩, S_list, Int.toNat_natCast, h, if_neg hx]

/-! ### many -/
theorem small64 (i : Nat) (h : i ≤ 1000000000) : wrap64 ((i : Int) + 1) = (i : Int) + 1 := IntWalk.wrap64_in _ ⟨by omega, by omega⟩
def man (n : Nat) (c : UInt8) (i : Nat) : List UInt8 := List.replicate i c ++ List.replicate (n - i) 0
theorem man_length {n i : Nat} (c : UInt8) (h : i ≤ n) : (man n c i).length = n := by unfold man; rw [List.length_append, List.length_replicate, List.length_replicate]; omega
theorem man_set {n i : Nat} (c : UInt8) (h : i < n) : (man n c i).set i c = man n c (i + 1) := by
  unfold man
  rw [List.set_append_right _ _ (by rw [List.length_replicate]; exact Nat.le_refl _), List.length_replicate, Nat.sub_self, show n - i = (n - (i + 1)) + 1 by omega, List.replicate_succ, List.set_cons_zero, List.replicate_succ']
  simp
theorem man_zero (n : Nat) (c : UInt8) : man n c 0 = List.replicate n 0 := by unfold man; simp
theorem man_all (n : Nat) (c : UInt8) : man n c n = List.replicate n c := by unfold man; rw [Nat.sub_self]; simp
def mkz (n : Nat) : Array Value := madeCells #[.int .u8 0] n
theorem info8 : (Try.prog.info? 5).map (fun i => (i.zero, i.size, i.bytes)) = some (some (.int .u8 0), 1, 1) := by kernel_rfl
theorem run_mk8 (n : Nat) (hn : n ≤ 10000) (W : World) : (Instr.makeSlice 52 (.int .i64 (n : Int)) (.int .i64 (n : Int))).run Try.prog W = .ok (.slice (some ⟨W.heap.size, 0, none⟩) n n) (W.alloc (.cells (mkz n) 5)) := by
  obtain ⟨i0, hi, hz0, hz1, hz2⟩ := info_parts info8
  have h := run_make (P := Try.prog) W 52 5 i0 (.int .u8 0) Try.underlying52 hi hz0 .i64 .i64 (n : Int) (n : Int) (by omega) (by omega) (by rw [hz2]; omega) (by omega)
  rw [hz1, Int.toNat_natCast, Nat.mul_one] at h
  exact h
theorem buf_mk8 (n : Nat) (W : World) : Buf (W.alloc (.cells (mkz n) 5)) W.heap.size (List.replicate n 0) := by
  refine ⟨by simp, fun i hi => ?_⟩
  rw [List.length_replicate] at hi
  have hb := heap_alloc_new W (.cells (mkz n) 5)
  refine ⟨?_, frozen_row hb i⟩
  rw [cell_row hb]
  have hs : i < (mkz n).size := by unfold mkz; rw [size_madeCells]; exact hi
  rw [Array.getElem?_eq_getElem hs]
  simp [mkz, madeCells, Nat.mod_one]
set_option maxRecDepth 100000 in
set_option maxHeartbeats 2000000 in
theorem many_any (n : Nat) (hn : n ≤ 10000) (c : UInt8) (w : World) :
    Calls Try.prog 10 #[.int .i64 (n : Int), .int .u8 (c.toNat : Int)] w fun e w' => e = .returned (.string (S (List.replicate n c))) ∧ Below w.heap.size w w' := by
  have hmk := fun W => run_mk8 n hn W
  have HBF := Lib.hid (show Buf (w.alloc (.cells (mkz n) 5)) w.heap.size (man n c 0) by rw [man_zero]; exact buf_mk8 n w)
  have HBL := Lib.hid ((Below.refl w.heap.size w).alloc (Nat.le_refl _) (.cells (mkz n) 5))
  have HN := Lib.hid hn
  clear hn
  go_enter Try.func10, Try.ntmps10
  go_wp2_with fail
  clear hmk
  go_loopw [6] (fun y wr => ∃ i : Nat, i ≤ n ∧ y = .int .i64 (i : Int) ∧ Hid (Buf wr w.heap.size (man n c i)) ∧ Hid (Below w.heap.size w wr)) (fun y _ => n - (intOf y).toNat)
  case atStart => exact ⟨0, Nat.zero_le _, rfl, HBF, HBL⟩
  case round =>
    clear HBF HBL
    obtain ⟨i, hi, rfl, HBF, HBL⟩ := hrel
    by_cases hlt : i < n
    · have hbl : i < (man n c i).length := by rw [man_length c hi]; exact hlt
      have hcell := (HBF.out.2 i hbl).1
      have hfroz := (HBF.out.2 i hbl).2
      have HST := Lib.hid (HBF.out.store i c hbl)
      rw [man_set c hlt] at HST
      have HST2 := Lib.hid (HBL.out.setCell (p := ⟨w.heap.size, i, none⟩) (Nat.le_refl _) (.int .u8 (c.toNat : Int)))
      have g1 : wrap64 ((i : Int) + 1) = (i : Int) + 1 := small64 i (Nat.le_trans (Nat.le_of_lt hlt) (Nat.le_trans HN.out (by decide)))

      go_wp2_with fail
      go_roundw
      case rel => exact ⟨i + 1, by omega, by rw [g1]; rfl, HST.out, HST2.out⟩
      case measure =>
        rw [g1]
        show n - ((i : Int) + 1).toNat < n - (i : Int).toNat
        omega
    · obtain rfl : i = n := by omega
      have hcv := conv_bytes wr w.heap.size 0 i i (man i c i) (man_length c (Nat.le_refl _)).symm HBF.out.row.2
      rw [man_all] at hcv
      go_wp2_with fail
      go_ret
      exact ⟨rfl, HBL.out⟩
end Go.Proofs.Ythaafniahkejkaa.Frame
