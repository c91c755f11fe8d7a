/-
  What stands in the library's variables; the text of a number.
-/
import Derived.Test.YtfocdlhaohhkjaaGreatDoorC10
import Derived.Lib.AppendIntMem
import Derived.WalkSmall
namespace Go.Proofs.YtfocdlhaohhkjaaGreatDoor.Money
open Go.RowKit Go.Sort

/-- the library's variables, as start-up code leaves them -/
def Env (w : World) : Prop :=
  4 ≤ w.heap.size ∧ (∃ m, w.cell? ⟨3, 0, none⟩ = some (.int .i64 m)) ∧ (∃ a : Addr, w.var? Tryz.prog "strconv.ErrRange" = some #[.iface 133 (.pointer (some a))]) ∧ Lib.TabIs Tryz.prog w "internal/strconv.uint64pow10" .u64 Lib.pow10Tab
theorem gErr : Tryz.prog.globalNamed "strconv.ErrRange" = some 0 := by kernel_rfl
theorem gTab : Tryz.prog.globalNamed "internal/strconv.uint64pow10" = some 2 := by kernel_rfl
theorem Env.below {w w' : World} (h : Env w) (hb : Below w.heap.size w w') : Env w' := by
  obtain ⟨h8, ⟨m, hm⟩, ⟨a, hv⟩, ht⟩ := h
  refine ⟨Nat.le_trans h8 hb.size, ⟨m, ?_⟩, ⟨a, ?_⟩, ?_⟩
  · rw [hb.cell (show 3 < w.heap.size by omega)]; exact hm
  · exact var?_below hb gErr (by omega) hv
  · exact var?_below hb gTab (by omega) ht

/-- from one world to the next -/
theorem carry {P : Program} {f : FuncId} {args : Array Value} {w0 w : World} {v : Ending} (h : Below w0.heap.size w0 w) (c : Calls P f args w (fun e w' => e = v ∧ Below w.heap.size w w')) :
    Calls P f args w (fun e w' => e = v ∧ Below w0.heap.size w0 w') :=
  c.mono fun _ _ ⟨he, hb⟩ => ⟨he, below_on h hb⟩
theorem same {P : Program} {f : FuncId} {args : Array Value} {w : World} {v : Ending} (c : Calls P f args w (fun e w' => e = v ∧ w = w')) :
    Calls P f args w (fun e w' => e = v ∧ Below w.heap.size w w') :=
  c.mono fun _ _ ⟨he, hb⟩ => ⟨he, hb ▸ Below.refl _ _⟩

theorem ret_str {a b : List UInt8} (h : a = b) : Ending.returned (.string ⟨a.toArray⟩) = .returned (.string ⟨b.toArray⟩) := by rw [h]
set_option maxRecDepth 100000 in
set_option maxHeartbeats 1000000 in
theorem formatUint_in (u : Nat) (hu64 : u < 18446744073709551616) (w : World) (E : Env w) :
    Calls Tryz.prog 46 #[.int .u64 u, .int .i64 10] w fun e w' => e = .returned (.string ⟨(Lib.decDigits u).toArray⟩) ∧ Below w.heap.size w w' := by
  have htab := E.2.2.2
  by_cases hs : u < 100
  · have d1 : decide ((u : Int) < 100) = true := decide_eq_true (by omega)
    have hw : IntKind.i64.wrap (u : Int) = (u : Int) := by rw [IntKind.wrap_i64]; omega
    have h0 : (0 : Int) ≤ (u : Int) := by omega
    have h1 : (u : Int) ≤ 99 := by omega
    clear E htab
    go_enter Tryz.func46, Tryz.ntmps46
    go_wp2_with (go_at_call 61; refine (Tryz.internal_strconv_small u hs _).mono ?_; rintro e w' ⟨rfl, rfl⟩)
    go_ret
    exact ⟨rfl, Below.refl _ _⟩
  · have d1 : decide ((u : Int) < 100) = false := decide_eq_false (by omega)
    have hu1 : 1 ≤ u := by omega
    have hnd20 : Lib.nDigits u ≤ 20 := by have := Lib.numDigits_eq u hu1 hu64; split at this <;> omega
    have hal : Tryz.prog.arrayLen 96 = 24 := by kernel_rfl
    have hsl1 : ∀ W, (Instr.sliceAt 96 (.pointer (some ⟨w.heap.size, 0, none⟩)) none (some (.int .i64 (Lib.nDigits u : Int))) none).run Tryz.prog W = .ok (.slice (some ⟨w.heap.size, 0, none⟩) (Lib.nDigits u) 24) W := fun W => by
      rw [run_sliceAt_array_h W 96 ⟨w.heap.size, 0, none⟩ (by kernel_rfl) .i64 (Lib.nDigits u : Int) (by omega) (by rw [hal]; omega)]
      go_simp
    have hH0 := Lib.holds_zero0 w 96 (Lib.nDigits u) (by omega)
    have hfmt := Tryz.internal_strconv_formatBase10 w.heap.size 0 24 u (Array.replicate (Lib.nDigits u) 0) (w.alloc (.cells Lib.zeros24 96)) hH0 (by rw [Array.size_replicate]; exact Lib.lt_pow_nDigits u) hu64 (by rw [Array.size_replicate]; omega)
    rw [Array.size_replicate] at hfmt
    have HH0 := Lib.hid hH0
    have HF := Lib.hid hfmt
    have HT := Lib.hid htab
    clear hH0 hal hfmt htab E
    go_enter Tryz.func46, Tryz.ntmps46
    go_wp2_with (go_at_call 62; refine (Tryz.internal_strconv_numDigits u hu1 hu64 _ (Lib.tabIs_alloc HT.out _)).mono ?_; rintro e w' ⟨rfl, rfl⟩)
    refine HF.out.mono ?_
    rintro e w' ⟨rfl, k, v', dk, rfl, hF⟩
    have hsl2 := hsl1
    have hcv : (convert 67 9 (.slice (some ⟨w.heap.size, 0, none⟩) (Lib.nDigits u) 24)).run Tryz.prog ((putRow (fun (b : UInt8) => Value.int .u8 (b.toNat : Int)) (w.alloc (.cells Lib.zeros24 96)) w.heap.size 0 dk).drewN k) = .ok (.string ⟨(Lib.decDigits u).toArray⟩) ((putRow (fun (b : UInt8) => Value.int .u8 (b.toNat : Int)) (w.alloc (.cells Lib.zeros24 96)) w.heap.size 0 dk).drewN k) := by
      have h := run_convert_bytes_back (P := Tryz.prog) ((putRow (fun (b : UInt8) => Value.int .u8 (b.toNat : Int)) (w.alloc (.cells Lib.zeros24 96)) w.heap.size 0 dk).drewN k) 67 9 5 ⟨w.heap.size, 0, none⟩ 24 (Lib.decDigits u) (by kernel_rfl) (by kernel_rfl) (by kernel_rfl) (fun j hj => by
        rw [Lib.row_is_numeral hF j hj, Lib.add_plain, World.cell?_drewN]
        exact cell?_putRow (fun (b : UInt8) => Value.int .u8 (b.toNat : Int)) _ w.heap.size 0 _ dk HH0.out (by rw [hF.size, Array.size_replicate]) j (by rw [hF.size]; rw [Lib.decDigits_length] at hj; exact hj))
      rw [Lib.decDigits_length] at h
      exact h
    have HFi := Lib.hid hF; clear hF
    go_wp2
    go_ret
    obtain ⟨os, eo⟩ := Lib.fin_at w (.cells Lib.zeros24 96) dk k 0
    refine ⟨rfl, ?_⟩
    rw [eo]
    exact Lib.below_grow _ _ (Nat.le_refl _) _ _
theorem formatUint (u : Nat) (hu64 : u < 18446744073709551616) (w : World) (E : Env w) :
    Calls Tryz.prog 33 #[.int .u64 u, .int .i64 10] w fun e w' => e = .returned (.string ⟨(Lib.decDigits u).toArray⟩) ∧ Below w.heap.size w w' := by
  have C := Lib.hid (formatUint_in u hu64 w E)
  clear E
  go_enter Tryz.func33, Tryz.ntmps33
  go_wp2_with (go_at_call 46; refine C.out.mono ?_; rintro e w' ⟨rfl, hb⟩)
  go_ret
  exact ⟨rfl, hb⟩

end Go.Proofs.YtfocdlhaohhkjaaGreatDoor.Money
