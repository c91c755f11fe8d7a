import Derived.Test.YtddjoealckhepaaQ
import Derived.Test.YtddjoealckhepaaI
import Derived.Laws.StructEq
/-
  What the laws ask first: files that are the same; small, one, bytes, find.
-/
namespace Go.Proofs.Ytddjoealckhepaa.Disk
open Go Go.RowKit Go.Maps Go.Shelf Go.Proofs

theorem eqn_fi (x y : Fi) (w : World) : (Op.equalIn 10000 59 (fiV x) (fiV y)).run Try.prog w = .ok (decide (x = y)) w := by
  have u9 := Try.underlying9
  have a9 := Try.isAgg9
  have z9 := Try.sizeOf9
  have hS : Try.prog.underlying 59 = some (.struct (Try.prog.fieldsOf 59)) := by kernel_rfl
  have hp : Try.prog.stoodInHeld 59 = false := by kernel_rfl
  obtain ⟨xn, xd, xp⟩ := x
  obtain ⟨yn, yd, yp⟩ := y
  unfold fiV fiC
  rw [show (10000 : Nat) = 9999 + 1 from rfl, run_equalIn_struct w 9999 59 _ _ hS hp]
  simp only [Program.fieldsOf, Try.underlying59]
  go_simp
  simp only [S_list]
  by_cases h1 : xn = yn <;> by_cases h2 : xd = yd <;> by_cases h3 : xp = yp <;> simp [h1, h2, h3]
theorem guard_fi (op : BinOp) (a b : Operand) (x y : Fi) (w : World) : (eqGuard op 59 a b (fiV x) (fiV y)).run Try.prog w = .ok () w := run_eqGuard_agg w op 59 a b _ _ (by kernel_rfl)
theorem eqn_f (x y : F) (w : World) : (Op.equalIn 10000 78 (fV x) (fV y)).run Try.prog w = .ok (decide (x = y)) w := by
  have u9 := Try.underlying9
  have a9 := Try.isAgg9
  have z9 := Try.sizeOf9
  have u3 := Try.underlying3
  have a3 := Try.isAgg3
  have z3 := Try.sizeOf3
  have hS : Try.prog.underlying 78 = some (.struct (Try.prog.fieldsOf 78)) := by kernel_rfl
  have hp : Try.prog.stoodInHeld 78 = false := by kernel_rfl
  obtain ⟨xb, xg⟩ := x
  obtain ⟨yb, yg⟩ := y
  unfold fV
  rw [show (10000 : Nat) = 9999 + 1 from rfl, run_equalIn_struct w 9999 78 _ _ hS hp]
  simp only [Program.fieldsOf, Try.underlying78]
  go_simp
  simp only [S_list]
  by_cases h1 : xb = yb <;> by_cases h2 : xg = yg <;> simp [h1, h2]
  omega
theorem guard_f (op : BinOp) (a b : Operand) (x y : F) (w : World) : (eqGuard op 78 a b (fV x) (fV y)).run Try.prog w = .ok () w := run_eqGuard_agg w op 78 a b _ _ (by kernel_rfl)

set_option maxRecDepth 100000 in
set_option maxHeartbeats 1000000 in
theorem one_any (a b : Nat) (d : Dk) (x : Fi) (w : World) (h : DkAt w a b d) :
    Calls Try.prog 44 #[.pointer (some ⟨a, 0, none⟩), .string (S x.n), .string (S x.d), .string (S x.p)] w fun z w' => z = .returned (.bool (decide (told d.l = [x]))) ∧ Below w.heap.size w w' := by
  have HF := Lib.hid (files_any a b d w h)
  clear h
  go_enter Try.func44, Try.ntmps44
  go_wp2_with fail
  refine HF.out.mono ?_
  rintro z W ⟨v, rfl, h1, h2⟩
  obtain ⟨A, cap, rfl, hcap, hle, hrow, -⟩ := h1.row
  have HW := Lib.hid h2
  have HLE := Lib.hid hle
  have HCP := Lib.hid hcap
  clear h1 h2 HF hle hcap
  obtain ⟨l, hl⟩ : ∃ l, told d.l = l := ⟨_, rfl⟩
  rw [hl] at hrow HLE ⊢
  have HL := Lib.hid hl
  clear hl
  match l with
  | [y] =>
    obtain ⟨nb, no, rfl, hb, c0, c1, c2⟩ := hrow 0 (Nat.zero_lt_one)
    simp only [List.getElem_cons_zero, Nat.zero_mul, Nat.add_zero] at c0 c1 c2
    have he : ∀ W : World, (Op.equalIn 10000 59 (.agg #[.string (S y.n), .string (S y.d), .string (S y.p)]) (.agg #[.string (S x.n), .string (S x.d), .string (S x.p)])).run Try.prog W = .ok (decide (y = x)) W := fun W => eqn_fi y x W
    have hgd : ∀ (op : BinOp) (a b : Operand) (W : World), (eqGuard op 59 a b (.agg #[.string (S y.n), .string (S y.d), .string (S y.p)]) (.agg #[.string (S x.n), .string (S x.d), .string (S x.p)])).run Try.prog W = .ok () W := fun op a b W => guard_fi op a b y x W
    have HR := Lib.hid (show decide ([y] = [x]) = decide (y = x) by simp)
    clear hrow hb
    generalize decide (y = x) = r at he HR
    go_wp2_with fail
    go_ret
    exact ⟨by rw [HL.out, HR.out]; rfl, HW.out⟩
  | [] =>
    clear hrow
    go_wp2_with fail
    go_ret
    exact ⟨by rw [HL.out]; rfl, HW.out⟩
  | y :: y2 :: r =>
    have z1 : (((y :: y2 :: r).length : Nat) : Int) = (r.length : Int) + 2 := by simp; omega
    have z2 : ((r.length : Int) + 2 == 1) = false := by simp; omega
    have z3 : ¬ ((r.length : Int) + 2) = 1 := by omega
    generalize (y :: y2 :: r).length = m at *
    have HR := Lib.hid (show decide (y :: y2 :: r = [x]) = false by simp)
    clear hrow
    go_wp2_with fail
    go_ret
    exact ⟨by rw [HL.out, HR.out]; rfl, HW.out⟩
set_option maxRecDepth 100000 in
theorem small_any (c : Int) (hc0 : 0 ≤ c) (hc : c ≤ 9223372036854775807) (w : World) :
    Calls Try.prog 40 #[.int .i64 c] w fun z w' => ∃ a b, z = .returned (.pointer (some ⟨a, 0, none⟩)) ∧ DkAt w' a b ⟨c.toNat, [], false, false, 0⟩ ∧ w.heap.size ≤ a ∧ w.heap.size ≤ b ∧ Below w.heap.size w w' := by
  have HN := Lib.hid (new_any c hc w)
  have HE := Lib.hid (show loadE c [] = 0 by unfold loadE; rw [if_neg (by omega), show mayFi [] = true from rfl]; simp [fileL, used, tot]; omega)
  go_enter Try.func40, Try.ntmps40
  go_wp2_with fail
  refine HN.out.mono ?_
  rintro z W ⟨-, h2, h3⟩
  obtain ⟨a, b, rfl, h4, h5, h6⟩ := h2 HE.out
  have H4 := Lib.hid h4
  have H3 := Lib.hid h3
  clear h2 h3 h4
  go_wp2_with fail
  go_ret
  exact ⟨a, b, rfl, H4.out, h5, h6, H3.out⟩
theorem bytes_any (x : Fi) (h : x.d.length + x.p.length ≤ 9223372036854775807) (w : World) :
    Calls Try.prog 43 #[fiV x] w fun z w' => z = .returned (.string (S (x.d ++ x.p))) ∧ Below w.heap.size w w' := by
  have hadd : ∀ w : World, (Op.stringOp .add (S x.d) (S x.p)).run Try.prog w = .ok (.string (S (x.d ++ x.p))) w := fun w => by
    have z3 := S_size x.d
    have z4 := S_size x.p
    rw [← S_app]
    have : ((S x.d).size : Int) + ((S x.p).size : Int) ≤ 9223372036854775807 := by omega
    simp [Op.stringOp, this, go_sem]
  unfold fiV fiC
  go_enter Try.func43, Try.ntmps43
  go_wp2_with fail
  go_ret
  exact ⟨rfl, (Below.refl _ _).alloc (Nat.le_refl _) _⟩
end Go.Proofs.Ytddjoealckhepaa.Disk
