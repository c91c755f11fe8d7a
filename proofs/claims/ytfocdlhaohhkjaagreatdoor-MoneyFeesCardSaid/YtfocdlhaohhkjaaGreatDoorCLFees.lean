/-
  The walk of the statement MoneyFees.
-/
import Derived.Test.YtfocdlhaohhkjaaGreatDoorC17
import Derived.Test.YtfocdlhaohhkjaaGreatDoorC9R
namespace Go.Proofs.YtfocdlhaohhkjaaGreatDoor.Money
open Go.RowKit

set_option maxRecDepth 100000 in
set_option maxHeartbeats 1000000 in
theorem moneyFees_walk (a b f : Int) (w : World) (w0 : (Lit.int .i64 a).wf = true) (w1 : (Lit.int .i64 b).wf = true) (w2 : (Lit.int .i64 f).wf = true) (E : Env w) :
    Calls Tryz.prog 5 #[.int .i64 a, .int .i64 b, .int .i64 f] w fun e w' => e = .returned (.bool true) ∧ Below w.heap.size w w' := by
  have ha := I64.of_wf w0
  have hb := I64.of_wf w1
  have hf := I64.of_wf w2
  clear w0 w1 w2
  have E0 := Lib.hid E; clear E
  have C1 := Lib.hid (fun w => mul_any a b ha hb w)
  have C2 := Lib.hid (fun w => rmul_any a b ha hb w)
  have C3 := Lib.hid (fun w => fee_any a f ha hf w)
  have C4 := Lib.hid (fun w => rfee_any a f ha hf w)
  clear ha hb hf
  go_enter Tryz.func5, Tryz.ntmps5
  go_wp2_with fail
  refine (C1.out _).mono ?_; rintro e w2 ⟨rfl, rfl⟩
  go_wp2_with fail
  refine (C2.out _).mono ?_; rintro e w1 ⟨rfl, hb1⟩
  go_wp2_with fail
  refine (C3.out _).mono ?_; rintro e w2 ⟨rfl, rfl⟩
  go_wp2_with fail
  refine (C4.out _).mono ?_; rintro e w2 ⟨rfl, rfl⟩
  have AW := Lib.hid (awake_any w1 (E0.out.below hb1))
  go_wp2_with fail
  refine (carry hb1 AW.out).mono ?_; rintro e w2 ⟨rfl, hb2⟩
  go_wp2_with fail
  go_ret
  exact ⟨rfl, hb2⟩

end Go.Proofs.YtfocdlhaohhkjaaGreatDoor.Money
