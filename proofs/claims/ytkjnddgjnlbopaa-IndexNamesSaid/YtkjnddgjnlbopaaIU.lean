import Derived.Test.YtkjnddgjnlbopaaIS
import Derived.Test.YtkjnddgjnlbopaaIT
/-
  For the statement IndexAdds: rows of texts that are cut, Join of rows of any length, Build of any bytes.
-/
namespace Go.Proofs.Ytkjnddgjnlbopaa.Index
open Go Go.RowKit
open Go.Proofs.Ytkjnddgjnlbopaa.Wire (S S_list S_size)
open Go.Proofs.Ytkjnddgjnlbopaa.Frame Go.Proofs.Ytkjnddgjnlbopaa.Seg

/-- a row of texts, cut -/
theorem cut_strs (A : Option Addr) (n cap j : Nat) (hj : j ≤ n) (hc : n ≤ cap) (W : World) :
    (Instr.slice 26 (.slice A n cap) none (some (.int .i64 (j : Int))) none).run Try.prog W = .ok (.slice A j cap) W := by
  obtain ⟨i0, hi, hz0, hz1, hz2⟩ := info_parts infoS
  rw [run_slice_h W 26 A n cap (by kernel_rfl) .i64 (j : Int) (by omega) (by omega)]
  have he : Try.prog.elem 26 = 9 := by kernel_rfl
  cases A with
  | none => simp [he, sizeOf, typeInfo, hi, hz1, Result.andThen, sliced]
  | some ad =>
    simp [he, sizeOf, typeInfo, hi, hz1, Result.andThen, sliced, Addr.add]
theorem strs_take {w : World} {A : Option Addr} {xs : List ByteArray} (h : Strs w A xs) (k : Nat) : Strs w A (xs.take k) := fun j hj => by
  have h1 : j < xs.length := by rw [List.length_take] at hj; omega
  obtain ⟨b, o, e, h2, h3, h4⟩ := h j h1
  rw [List.getElem_take]
  exact ⟨b, o, e, h2, h3, h4⟩
theorem bytesP_take (xs : List ByteArray) (k : Nat) : bytesP (xs.take k) = (bytesP xs).take k := by unfold bytesP; rw [List.map_take]
/-- a number of places up to a length, made of any number -/
theorem rem_long (a : Int) (n : Nat) (hn : n ≤ maxLen) : ∃ f : Nat, f ≤ n ∧ ¬ IntKind.u64.wrap (wrap64 ((n : Int) + 1)) = 0 ∧ wrap64 ((IntKind.u64.wrap a).tmod (IntKind.u64.wrap (wrap64 ((n : Int) + 1)))) = (f : Int) := by
  have hd : IntKind.u64.wrap (wrap64 ((n : Int) + 1)) = (n : Int) + 1 := by
    by_cases h : n = maxLen
    · subst h; decide +kernel
    · rw [IntWalk.wrap64_in _ ⟨by omega, by unfold maxLen at *; omega⟩, IntKind.wrap_u64]
      unfold maxLen at *
      omega
  rw [hd]
  have h1 : 0 ≤ IntKind.u64.wrap a := by rw [IntKind.wrap_u64]; exact Int.emod_nonneg _ (by decide)
  rw [Int.tmod_eq_emod_of_nonneg h1]
  have h2 := Int.emod_nonneg (IntKind.u64.wrap a) (show (n : Int) + 1 ≠ 0 by omega)
  have h3 := Int.emod_lt_of_pos (IntKind.u64.wrap a) (show 0 < (n : Int) + 1 by omega)
  generalize IntKind.u64.wrap a % ((n : Int) + 1) = z at *
  unfold maxLen at hn
  exact ⟨z.toNat, by omega, by omega, by rw [IntWalk.wrap64_in z ⟨by omega, by omega⟩]; omega⟩
set_option maxRecDepth 100000 in
set_option maxHeartbeats 2000000 in
/-- **Join** of a row of any length -/
theorem Join_all (q : Int) (A : Option Addr) (cap : Nat) (xs : List ByteArray) (hl : xs.length ≤ maxLen) (w : World) (hx : Strs w A xs) :
    Calls Try.prog 10 #[.int .i64 q, .slice A xs.length cap] w fun e w' => e = joV q xs ∧ Below w.heap.size w w' := by
  by_cases h0 : wrE q (bytesP xs) = 0
  case neg => exact Join_long q A cap xs hl h0 w hx
  by_cases hs : xs.length ≤ 1000000
  · exact Join_any q A cap xs hs w hx
  · have HWR := Lib.hid (wrong_long q A cap xs hl w hx)
    obtain ⟨hm, hk⟩ := wrE_zero h0
    have hln : xs.length ≤ 1048576 := by have := hk.1; rw [bytesP_len] at this; omega
    have hok : ∀ j (h : j < xs.length), 1 ≤ xs[j].size ∧ xs[j].size ≤ 4096 := bytesP_ok.1 (okL_all.2 hk.2)
    have HSZ := Lib.hid (size_any A cap xs (by omega) hok w hx)
    have h40 : 1048576 < segN (bytesP xs) := by
      have := segN_ge (bytesP xs)
      rw [bytesP_len] at this; omega
    rw [h0] at HWR
    have hV : joV q xs = .returned (.tuple #[.string ⟨#[]⟩, .int .i64 40]) := by
      have he : joE q (bytesP xs) = 40 := by unfold joE; rw [if_pos h0, if_pos h40]
      unfold joV joB; rw [he, if_neg (by decide)]; rfl
    have HV := Lib.hid hV
    have y : (1048576 : Int) < (segN (bytesP xs) : Int) := by omega
    clear hV hm hk hok h0 h40 hs hln hl
    generalize (segN (bytesP xs) : Int) = Z at *
    go_enter Try.func10, Try.ntmps10
    go_wp2_with fail
    refine HWR.out.mono ?_
    rintro e w1 ⟨rfl, rfl⟩
    go_wp2_with fail
    refine HSZ.out.mono ?_
    rintro e w2 ⟨rfl, rfl⟩
    go_wp2_with fail
    go_ret2
    exact ⟨HV.out.symm, Below.refl _ _⟩
/-- **Build** of any bytes, by any number -/
theorem build_all (s : ByteArray) (hs : s.size ≤ 10000000) (every : Int) (w : World) :
    Calls Try.prog 11 #[.string s, .int .i64 every] w fun e w' => ∃ (v : Value) (f : Int), e = .returned (.tuple #[v, .int .i64 f]) ∧ Below w.heap.size w w' := by
  by_cases hev : 1 ≤ every ∧ every ≤ 64
  · obtain ⟨ev, rfl⟩ : ∃ ev : Nat, every = (ev : Int) := ⟨every.toNat, by omega⟩
    by_cases h0 : fiE s.data.toList = 0
    · refine (build_yes s hs ev (by omega) h0 w).mono ?_
      rintro e w' ⟨b, -, rfl, -, hb⟩
      exact ⟨_, _, rfl, hb⟩
    · refine (build_no s hs ev (by omega) h0 w).mono ?_
      rintro e w' ⟨rfl, hb⟩
      exact ⟨_, _, rfl, hb⟩
  · refine (build_arg s every hev w).mono ?_
    rintro e w' ⟨rfl, rfl⟩
    exact ⟨_, _, rfl, Below.refl _ _⟩
theorem joB_size (q : Int) (ps : List (List UInt8)) : (S (joB q ps)).size ≤ 1048576 := by
  by_cases h : joE q ps = 0
  · have h2 := (joE_zero h).2
    have e : joB q ps = segB q.toNat ps := if_pos h
    rw [e, S_size, segB_length]; exact h2
  · have e : joB q ps = [] := if_neg h
    rw [e]; decide
theorem segN_take (ps : List (List UInt8)) (k : Nat) : segN (ps.take k) ≤ segN ps := by
  have h := congrArg List.length (List.take_append_drop k ps)
  have h2 : rowB 0 ps = rowB 0 (ps.take k) ++ rowB (0 + (ps.take k).length) (ps.drop k) := by rw [← rowB_append, List.take_append_drop]
  unfold segN
  rw [h2, List.length_append]; omega
theorem joE_take {a : Nat} {ps : List (List UInt8)} (hok : okP a ps) (hs : segN ps ≤ 1048576) (k : Nat) : joE (a : Int) (ps.take k) = 0 ∧ joB (a : Int) (ps.take k) = segB a (ps.take k) := by
  have h1 : wrE (a : Int) (ps.take k) = 0 := wrE_ok (okP_take hok k)
  have h2 : joE (a : Int) (ps.take k) = 0 := by unfold joE; rw [if_pos h1, if_neg (by have := segN_take ps k; omega)]
  refine ⟨h2, ?_⟩
  unfold joB
  rw [if_pos h2, Int.toNat_natCast]
end Go.Proofs.Ytkjnddgjnlbopaa.Index
