/-
  errors.Is, of nil and of what strconv.ParseInt tells of a number that is too great.
-/
import Derived.Test.YtfocdlhaohhkjaaGreatDoorC12
import Derived.Test.YtfocdlhaohhkjaaGreatDoorChecked
import Derived.LaidEql
import Derived.Stop.Asserts
import Derived.RowKitTokens
namespace Go.Proofs.YtfocdlhaohhkjaaGreatDoor.Money
open Go.RowKit Go.Extern.Stop Go.Stop Go.Extern

theorem isTypeOf (v : Value) (w : World) : (Extern.ReflectliteType.typeOf #[.iface 133 v]).run Tryz.prog w = .ok (.iface 85 (.agg #[.pointer (some ⟨8, 133, none⟩)])) w := by kernel_rfl
/-- whether a type's values can be compared, as the model asks it -/
def cmpEntry : Array Value → Sem Value := Extern.ReflectliteType.method fun t => do Extern.Rtype.noPackHeld "Comparable" t; pure (.bool (← typeInfo t).comparable)
theorem isComparable (w : World) : (cmpEntry #[.agg #[.pointer (some ⟨8, 133, none⟩)]]).run Tryz.prog w = .ok (.bool true) w := by kernel_rfl
theorem isMethodComparable (k : Nat) (v : Value) (w : World) : (Go.method (k + 1) 85 v "Comparable").run Tryz.prog w = .ok (126, v) w := by kernel_rfl
theorem isComp : (Tryz.prog.info? 133).map (·.comparable) = some true := by kernel_rfl
theorem isSize : (Tryz.prog.info? 135).map (·.size) = some 1 := by kernel_rfl
theorem noIsW (v : Value) (xT : TypeId) (w : World) : (Instr.typeAssert (.iface 81 v) xT 87 true).run Tryz.prog w = .ok (.tuple #[.nilIface, .bool false]) w := run_typeAssert_lacksB Tryz.underlying87 (by kernel_rfl) (by kernel_rfl) v xT w
theorem hasUnwrapW (v : Value) (xT : TypeId) (w : World) : (Instr.typeAssert (.iface 81 v) xT 90 true).run Tryz.prog w = .ok (.tuple #[.iface 81 v, .bool true]) w := run_typeAssert_hasB Tryz.underlying90 (by kernel_rfl) v xT w
theorem methodUnwrap (k : Nat) (v : Value) (w : World) : (Go.method (k + 1) 81 v "Unwrap").run Tryz.prog w = .ok (122, v) w := by kernel_rfl

/-- errors.Is(nil, x) -/
theorem is_nil (b : Addr) (w : World) :
    Calls Tryz.prog 30 #[.nilIface, .iface 133 (.pointer (some b))] w fun e w' => e = .returned (.bool false) ∧ w = w' := by
  have hn := run_eql_iface_nil_left (P := Tryz.prog) w 133 (.pointer (some b)) Tryz.underlying45
  go_enter Tryz.func30, Tryz.ntmps30
  go_wp2
  go_ret
  exact ⟨rfl, rfl⟩
set_option maxRecDepth 100000 in
set_option maxHeartbeats 400000 in
/-- errors.Is(e, x), e a number's error that bears x -/
theorem is_num (p : Nat) (b : Addr) (w : World) (h1 : w.cell? ⟨p, 2, none⟩ = some (.iface 133 (.pointer (some b)))) :
    Calls Tryz.prog 30 #[.iface 81 (.pointer (some ⟨p, 0, none⟩)), .iface 133 (.pointer (some b))] w fun e w' => e = .returned (.bool true) ∧ w = w' := by
  obtain ⟨i, hi, hcmp⟩ := Option.map_eq_some_iff.1 isComp
  obtain ⟨j, hj, hjs⟩ := Option.map_eq_some_iff.1 isSize
  have h8 := @run_callFunc_extern Tryz.prog 44 _ Extern.ReflectliteType.typeOf Tryz.func44 (by kernel_rfl) (by kernel_rfl) (by kernel_rfl) (by kernel_rfl)
  have h32 := @run_callFunc_extern Tryz.prog 126 _ cmpEntry Tryz.func126 (by kernel_rfl) (by kernel_rfl) (by kernel_rfl) (by kernel_rfl)
  have tT := isTypeOf
  have cT := isComparable
  have mR := isMethodComparable
  have nW := noIsW
  have uW := hasUnwrapW
  have mU := methodUnwrap
  have heq := run_eql_iface_ptr_same (P := Tryz.prog) w b Tryz.underlying45 Tryz.underlying133 hi hcmp hj
  have hty := run_eql_iface_types (P := Tryz.prog) 81 133 (.pointer (some ⟨p, 0, none⟩)) (.pointer (some b)) Tryz.underlying45 (by decide) w
  go_enter Tryz.func30, Tryz.ntmps30
  go_wp2
  refine wp_loop_rounds 2 ?_
  rw [rounds_succ]
  go_wp2
  rw [rounds_succ]
  go_wp2
  go_ret
  exact ⟨rfl, rfl⟩

end Go.Proofs.YtfocdlhaohhkjaaGreatDoor.Money
