/-
  The walk of the examples ('awake').
-/
import Derived.Test.YtmmggkjfhiflaaaW8
namespace Go.Proofs.Ytmmggkjfhiflaaa.Crc
open Go.RowKit

theorem of_lit (l : List UInt8) (k : Int) (h : V (ofW l) = k) (hl : l.length ≤ 1000) (w : World) :
    Calls Try.prog 18 #[.string ⟨l.toArray⟩] w fun e w' => e = .returned (.int .u32 k) ∧ Below w.heap.size w w' := by
  rw [← h]
  exact of_any ⟨l.toArray⟩ w (by have : (ByteArray.mk l.toArray).size = l.length := S_size l; rw [this]; unfold maxLen; omega)
theorem add_lit (c : W) (x : Int) (hx : x = V c) (l : List UInt8) (k : Int) (h : V (addW c l) = k) (hl : l.length ≤ 1000) (w : World) :
    Calls Try.prog 20 #[.int .u32 x, .string ⟨l.toArray⟩] w fun e w' => e = .returned (.int .u32 k) ∧ Below w.heap.size w w' := by
  rw [← h]
  exact add_any c ⟨l.toArray⟩ x hx w (by have : (ByteArray.mk l.toArray).size = l.length := S_size l; rw [this]; unfold maxLen; omega)
theorem seal_lit (l m : List UInt8) (h : l ++ fourL (ofW l) = m) (hl : l.length ≤ 1000) (w : World) :
    Calls Try.prog 26 #[.string ⟨l.toArray⟩] w fun e w' => e = .returned (.string ⟨m.toArray⟩) ∧ Below w.heap.size w w' := by
  have e : sealS ⟨l.toArray⟩ = ⟨m.toArray⟩ := by
    apply ByteArray.ext; apply Array.toList_inj.1; rw [sealS_list]; exact h
  rw [← e]
  exact seal_any ⟨l.toArray⟩ w (by have : (ByteArray.mk l.toArray).size = l.length := S_size l; rw [this]; omega)
theorem lit_0 : V (ofW []) = 0 := by decide +kernel
theorem lit_9 : V (ofW [49, 50, 51, 52, 53, 54, 55, 56, 57]) = 3421780262 := by decide +kernel
theorem lit_a : V (ofW [97]) = 3904355907 := by decide +kernel
theorem lit_bc : V (addW 3904355907 [98, 99]) = 891568578 := by decide +kernel
theorem lit_abc : V (ofW [97, 98, 99]) = 891568578 := by decide +kernel
theorem lit_seal : [97] ++ fourL (ofW [97]) = [97, 67, 190, 183, 232] := by decide +kernel

set_option maxRecDepth 100000 in
set_option maxHeartbeats 400000 in
theorem awake_any (w : World) :
    Calls Try.prog 12 #[] w fun e w' => e = .returned (.bool true) ∧ Below w.heap.size w w' := by
  go_enter Try.func12, Try.ntmps12
  go_wp2_with fail
  refine (of_lit _ _ lit_0 (by decide) _).mono ?_; rintro e w1 ⟨rfl, hb1⟩
  go_wp2_with fail
  refine (of_lit _ _ lit_9 (by decide) _).mono ?_; rintro e w2 ⟨rfl, hb2⟩
  go_wp2_with fail
  refine (of_lit _ _ lit_a (by decide) _).mono ?_; rintro e w3 ⟨rfl, hb3⟩
  go_wp2_with fail
  refine (add_lit 3904355907 _ (by decide +kernel) _ _ lit_bc (by decide) _).mono ?_; rintro e w4 ⟨rfl, hb4⟩
  go_wp2_with fail
  refine (of_lit _ _ lit_abc (by decide) _).mono ?_; rintro e w5 ⟨rfl, hb5⟩
  go_wp2_with fail
  refine (seal_lit _ _ lit_seal (by decide) _).mono ?_; rintro e w6 ⟨rfl, hb6⟩
  go_wp2_with fail
  go_ret
  have s1 := hb1.size; have s2 := hb2.size; have s3 := hb3.size; have s4 := hb4.size; have s5 := hb5.size
  exact ⟨rfl, hb1.trans ((hb2.mono s1).trans ((hb3.mono (by omega)).trans ((hb4.mono (by omega)).trans ((hb5.mono (by omega)).trans (hb6.mono (by omega))))))⟩

end Go.Proofs.Ytmmggkjfhiflaaa.Crc
