import Derived.Test.YtddjoealckhepaaAE
/-
  The law's find.
-/
namespace Go.Proofs.Ytddjoealckhepaa.Disk
open Go Go.RowKit Go.Maps Go.Shelf Go.Proofs

theorem below_set3 {w W : World} (h : Below w.heap.size w W) {x y z : Value} : Below w.heap.size w (((W.setCell ⟨w.heap.size, 0, none⟩ x).setCell ⟨w.heap.size, 1, none⟩ y).setCell ⟨w.heap.size, 2, none⟩ z) :=
  ((h.setCell (p := ⟨w.heap.size, 0, none⟩) (Nat.le_refl _) x).setCell (p := ⟨w.heap.size, 1, none⟩) (Nat.le_refl _) y).setCell (p := ⟨w.heap.size, 2, none⟩) (Nat.le_refl _) z
set_option maxRecDepth 100000 in
set_option maxHeartbeats 2000000 in
theorem seek_any (A : Option Addr) (cap : Nat) (l : List Fi) (n : Nm) (hl : l.length ≤ 1000000000) (w : World) (h : RowF w A l) :
    Calls Try.prog 42 #[.slice A l.length cap, .string (S n)] w fun z w' => z = .returned (.tuple #[.agg #[.string (S (fnd n l).1.n), .string (S (fnd n l).1.d), .string (S (fnd n l).1.p)], .bool (fnd n l).2]) ∧ Below w.heap.size w w' := by
  have HR := Lib.hid (h.below ((Below.refl _ _).alloc (Nat.le_refl _) (.cells #[.string ⟨#[]⟩, .string ⟨#[]⟩, .string ⟨#[]⟩] 59)))
  have HB := Lib.hid (show Below w.heap.size w (w.alloc (.cells #[.string ⟨#[]⟩, .string ⟨#[]⟩, .string ⟨#[]⟩] 59)) from (Below.refl _ _).alloc (Nat.le_refl _) _)
  have HX := Lib.hid (bx_new w #[.string ⟨#[]⟩, .string ⟨#[]⟩, .string ⟨#[]⟩] 59)
  have HL := Lib.hid hl
  clear h hl
  go_enter Try.func42, Try.ntmps42
  go_wp2_with fail
  generalize hW : w.alloc (.cells #[.string ⟨#[]⟩, .string ⟨#[]⟩, .string ⟨#[]⟩] 59) = W at HR HB HX ⊢
  clear hW
  go_loopw [6] (fun i wr => ∃ k : Nat, k ≤ l.length ∧ i = .int .i64 (k : Int) ∧ Hid (fnd n l = fnd n (l.drop k)) ∧ wr = W) (fun i _ => l.length - (intOf i).toNat)
  case atStart => exact ⟨0, Nat.zero_le _, rfl, rfl, rfl⟩
  case round =>
    obtain ⟨k, hk, rfl, HY, rfl⟩ := hrel
    by_cases hlt : k < l.length
    · obtain ⟨nb, no, rfl, hb1, c0, c1, c2⟩ := HR.out k hlt
      have z0 : (0 : Int) ≤ (k : Int) := by omega
      have z1 : (k : Int) < (l.length : Int) := by omega
      have zk : IntKind.i64.wrap ((k : Int) + 1) = (k : Int) + 1 := by rw [IntKind.wrap_i64]; have := HL.out; omega
      have HLT := Lib.hid hlt
      have HD : Hid (l[k].n ≠ n → fnd n (l.drop k) = fnd n (l.drop (k + 1))) := fun h => fnd_drop hlt h
      have HA : Hid (l[k].n = n → fnd n (l.drop k) = (l[k], true)) := fun h => fnd_at hlt h
      obtain ⟨e0, e1, e2⟩ : wr.cell? ⟨w.heap.size, 0, none⟩ = some (.string ⟨#[]⟩) ∧ wr.cell? ⟨w.heap.size, 1, none⟩ = some (.string ⟨#[]⟩) ∧ wr.cell? ⟨w.heap.size, 2, none⟩ = some (.string ⟨#[]⟩) := ⟨HX.out.cell 0, HX.out.cell 1, HX.out.cell 2⟩
      have fz : ∀ i, wr.frozen? ⟨w.heap.size, i, none⟩ = false := fun i => let ⟨_, ht⟩ := HX.out; frozen_row ht i
      clear hb1
      generalize l[k]'hlt = x at c0 c1 c2 HD HA
      clear hlt
      by_cases hn : x.n = n
      · have HF := Lib.hid (HY.out.trans (HA.out hn))
        rw [← hn]
        clear HA HD hn
        go_wp2_with fail
        refine bodyPost_ret (v := .tuple #[.agg #[.string (S x.n), .string (S x.d), .string (S x.p)], .bool true]) (by simp [results, Try.results42, go_sem, e0, e1, e2]) rfl ?_
        rw [HF.out]
        exact ⟨rfl, below_set3 HB.out⟩
      · have HT := Lib.hid (HY.out.trans (HD.out hn))
        have q0 : ¬ S x.n = S n := fun h => hn (S_inj h)
        have q1 : ¬ (S x.n).toList = (S n).toList := by rw [S_list, S_list]; exact hn
        have q3 : ((S x.n).toList == (S n).toList) = false := by rw [S_list, S_list]; simpa using hn
        clear HA HD
        go_wp2_with fail
        go_roundw
        case rel => exact ⟨k + 1, by have := HLT.out; omega, by go_num, HT, trivial⟩
        case measure => have := HLT.out; simp [intOf] <;> omega
    · obtain rfl : k = l.length := by omega
      have z1 : ¬ ((l.length : Nat) : Int) < (l.length : Int) := by omega
      obtain ⟨e0, e1, e2⟩ : wr.cell? ⟨w.heap.size, 0, none⟩ = some (.string ⟨#[]⟩) ∧ wr.cell? ⟨w.heap.size, 1, none⟩ = some (.string ⟨#[]⟩) ∧ wr.cell? ⟨w.heap.size, 2, none⟩ = some (.string ⟨#[]⟩) := ⟨HX.out.cell 0, HX.out.cell 1, HX.out.cell 2⟩
      have fz : ∀ i, wr.frozen? ⟨w.heap.size, i, none⟩ = false := fun i => let ⟨_, ht⟩ := HX.out; frozen_row ht i
      go_wp2_with fail
      refine bodyPost_ret (v := .tuple #[.agg #[.string ⟨#[]⟩, .string ⟨#[]⟩, .string ⟨#[]⟩], .bool false]) (by simp [results, Try.results42, go_sem, e0, e1, e2]) rfl ?_
      rw [show fnd n l = (⟨[], [], []⟩, false) by rw [HY.out, List.drop_length]; rfl]
      exact ⟨rfl, below_set3 HB.out⟩
end Go.Proofs.Ytddjoealckhepaa.Disk
