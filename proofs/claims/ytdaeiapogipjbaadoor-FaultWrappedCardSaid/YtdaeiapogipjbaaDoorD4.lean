/-
  safely: what it does where nothing panics.
-/
import Derived.Test.YtdaeiapogipjbaaDoorD3
import Derived.Defers
import Derived.Recover
namespace Go.Proofs.YtdaeiapogipjbaaDoor.Fault
open Go Go.RowKit

theorem catch_idle (w : World) : CallsD Tryd.prog 33 #[] .returning w fun e u' w' => e = .returned (.tuple #[]) ∧ u' = .returning ∧ w' = w := by
  refine callsD_of_wpS Tryd.func33 rfl fun c₀ cs hu => ?_
  apply wpS_region
  simp [wpOpsS, go_sem, recoverD, hu, Tryd.ntmps33, Exit.thenS, bodyPostS, results, Tryd.results33]
  cases c₀
  simp_all

set_option maxHeartbeats 1000000 in
theorem safely_code (a b c : Addr) (w : World) (R : World → Prop) (hcall : Calls Tryd.prog 23 #[.pointer (some a), .pointer (some b), .pointer (some c)] w fun e w' => e = .returned (.tuple #[]) ∧ R w') :
    Calls Tryd.prog 22 #[.func (.func 23) #[] #[.pointer (some a), .pointer (some b), .pointer (some c)]] w fun e w' => e = .returned (.bool true) ∧ R w' := by
  have hc := Lib.hid hcall
  clear hcall
  go_enter_defers Tryd.func22, Tryd.ntmps22
  go_wp2_with (go_at_call 23; refine hc.out.mono ?_; rintro e w' ⟨rfl, hR⟩)
  refine leaves_cons (f := 33) (args := #[]) (by simp) (by simp [go_sem]) ?_
  refine (catch_idle _).mono ?_
  rintro e u' w'' ⟨rfl, rfl, rfl⟩
  simp [Leaves, settle, results, Tryd.results22, go_sem]
  exact hR
set_option maxHeartbeats 1000000 in
theorem safely_text (a b : Addr) (w : World) (R : World → Prop) (hcall : Calls Tryd.prog 27 #[.pointer (some a), .pointer (some b)] w fun e w' => e = .returned (.tuple #[]) ∧ R w') :
    Calls Tryd.prog 22 #[.func (.func 27) #[] #[.pointer (some a), .pointer (some b)]] w fun e w' => e = .returned (.bool true) ∧ R w' := by
  have hc := Lib.hid hcall
  clear hcall
  go_enter_defers Tryd.func22, Tryd.ntmps22
  go_wp2_with (go_at_call 27; refine hc.out.mono ?_; rintro e w' ⟨rfl, hR⟩)
  refine leaves_cons (f := 33) (args := #[]) (by simp) (by simp [go_sem]) ?_
  refine (catch_idle _).mono ?_
  rintro e u' w'' ⟨rfl, rfl, rfl⟩
  simp [Leaves, settle, results, Tryd.results22, go_sem]
  exact hR
set_option maxHeartbeats 1000000 in
theorem safely_is (a b c : Addr) (w : World) (R : World → Prop) (hcall : Calls Tryd.prog 28 #[.pointer (some a), .pointer (some b), .pointer (some c)] w fun e w' => e = .returned (.tuple #[]) ∧ R w') :
    Calls Tryd.prog 22 #[.func (.func 28) #[] #[.pointer (some a), .pointer (some b), .pointer (some c)]] w fun e w' => e = .returned (.bool true) ∧ R w' := by
  have hc := Lib.hid hcall
  clear hcall
  go_enter_defers Tryd.func22, Tryd.ntmps22
  go_wp2_with (go_at_call 28; refine hc.out.mono ?_; rintro e w' ⟨rfl, hR⟩)
  refine leaves_cons (f := 33) (args := #[]) (by simp) (by simp [go_sem]) ?_
  refine (catch_idle _).mono ?_
  rintro e u' w'' ⟨rfl, rfl, rfl⟩
  simp [Leaves, settle, results, Tryd.results22, go_sem]
  exact hR
set_option maxHeartbeats 1000000 in
theorem safely_inside (a b : Addr) (w : World) (R : World → Prop) (hcall : Calls Tryd.prog 47 #[.pointer (some a), .pointer (some b)] w fun e w' => e = .returned (.tuple #[]) ∧ R w') :
    Calls Tryd.prog 22 #[.func (.func 47) #[] #[.pointer (some a), .pointer (some b)]] w fun e w' => e = .returned (.bool true) ∧ R w' := by
  have hc := Lib.hid hcall
  clear hcall
  go_enter_defers Tryd.func22, Tryd.ntmps22
  go_wp2_with (go_at_call 47; refine hc.out.mono ?_; rintro e w' ⟨rfl, hR⟩)
  refine leaves_cons (f := 33) (args := #[]) (by simp) (by simp [go_sem]) ?_
  refine (catch_idle _).mono ?_
  rintro e u' w'' ⟨rfl, rfl, rfl⟩
  simp [Leaves, settle, results, Tryd.results22, go_sem]
  exact hR
end Go.Proofs.YtdaeiapogipjbaaDoor.Fault
