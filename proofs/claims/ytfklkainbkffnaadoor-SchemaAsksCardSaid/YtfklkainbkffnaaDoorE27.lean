/-
  The document's own commands; classes that are written over.
-/
import Derived.Test.YtfklkainbkffnaaDoorE26
import Derived.Test.YtfklkainbkffnaaDoorE20
namespace Go.Proofs.YtfklkainbkffnaaDoor.Schema
open Go Go.RowKit

def CmdRes (k : Nat) (w : World) (e : Ending) (w' : World) : Prop := e = .returned (.tuple #[.string (asks k), .bool (isC k && (cmAt k).text), .bool (isC k)]) ∧ Below w.heap.size w w'
theorem asks_out (k : Nat) (h : ¬ k < 21) : asks k = ⟨#[]⟩ := by unfold asks; rw [cmAt_out k h]; rfl
theorem isC_out (k : Nat) (h : ¬ k < 21) : isC k = false := by simp [isC, h]

set_option maxRecDepth 100000 in
theorem rCmd_0 (w : World) : Calls Tryd.prog 31 #[.int .u8 0] w (CmdRes 0 w) := by
  have HR := Lib.hid (show asks 0 = ⟨#[]⟩ from by kernel_rfl)
  have HB := Lib.hid ((Below.refl w.heap.size w).alloc (Nat.le_refl _) (.cells ([.string ⟨#[]⟩, .string ⟨#[97]⟩, .string ⟨#[107]⟩, .string ⟨#[105]⟩, .string ⟨#[105]⟩, .string ⟨#[97, 109]⟩, .string ⟨#[97, 109]⟩, .string ⟨#[97, 105, 113]⟩, .string ⟨#[97, 105, 113]⟩, .string ⟨#[98]⟩, .string ⟨#[97, 105, 115, 112, 113]⟩, .string ⟨#[97, 111]⟩, .string ⟨#[97, 105, 113, 109, 109, 116]⟩, .string ⟨#[97, 99, 109]⟩, .string ⟨#[97, 105, 113, 109, 116]⟩, .string ⟨#[97, 99, 109]⟩, .string ⟨#[116]⟩, .string ⟨#[97, 97, 109]⟩, .string ⟨#[97]⟩, .string ⟨#[105, 107]⟩] : List Value).toArray 9))
  obtain ⟨X, hX⟩ : ∃ X, w.alloc (.cells ([.string ⟨#[]⟩, .string ⟨#[97]⟩, .string ⟨#[107]⟩, .string ⟨#[105]⟩, .string ⟨#[105]⟩, .string ⟨#[97, 109]⟩, .string ⟨#[97, 109]⟩, .string ⟨#[97, 105, 113]⟩, .string ⟨#[97, 105, 113]⟩, .string ⟨#[98]⟩, .string ⟨#[97, 105, 115, 112, 113]⟩, .string ⟨#[97, 111]⟩, .string ⟨#[97, 105, 113, 109, 109, 116]⟩, .string ⟨#[97, 99, 109]⟩, .string ⟨#[97, 105, 113, 109, 116]⟩, .string ⟨#[97, 99, 109]⟩, .string ⟨#[116]⟩, .string ⟨#[97, 97, 109]⟩, .string ⟨#[97]⟩, .string ⟨#[105, 107]⟩] : List Value).toArray 9) = X := ⟨_, rfl⟩
  rw [hX] at HB
  go_enter Tryd.func31, Tryd.ntmps31
  go_wp2
  go_ret3
  exact ⟨ret_sbb (by rw [HR.out]) (by kernel_rfl) (by kernel_rfl), HB.out⟩
set_option maxRecDepth 100000 in
theorem rCmd_1 (w : World) : Calls Tryd.prog 31 #[.int .u8 1] w (CmdRes 1 w) := by
  have HR := Lib.hid (show asks 1 = ⟨#[]⟩ from by kernel_rfl)
  have HB := Lib.hid ((Below.refl w.heap.size w).alloc (Nat.le_refl _) (.cells ([.string ⟨#[]⟩, .string ⟨#[97]⟩, .string ⟨#[107]⟩, .string ⟨#[105]⟩, .string ⟨#[105]⟩, .string ⟨#[97, 109]⟩, .string ⟨#[97, 109]⟩, .string ⟨#[97, 105, 113]⟩, .string ⟨#[97, 105, 113]⟩, .string ⟨#[98]⟩, .string ⟨#[97, 105, 115, 112, 113]⟩, .string ⟨#[97, 111]⟩, .string ⟨#[97, 105, 113, 109, 109, 116]⟩, .string ⟨#[97, 99, 109]⟩, .string ⟨#[97, 105, 113, 109, 116]⟩, .string ⟨#[97, 99, 109]⟩, .string ⟨#[116]⟩, .string ⟨#[97, 97, 109]⟩, .string ⟨#[97]⟩, .string ⟨#[105, 107]⟩] : List Value).toArray 9))
  have hc := lit_cells w ([.string ⟨#[]⟩, .string ⟨#[97]⟩, .string ⟨#[107]⟩, .string ⟨#[105]⟩, .string ⟨#[105]⟩, .string ⟨#[97, 109]⟩, .string ⟨#[97, 109]⟩, .string ⟨#[97, 105, 113]⟩, .string ⟨#[97, 105, 113]⟩, .string ⟨#[98]⟩, .string ⟨#[97, 105, 115, 112, 113]⟩, .string ⟨#[97, 111]⟩, .string ⟨#[97, 105, 113, 109, 109, 116]⟩, .string ⟨#[97, 99, 109]⟩, .string ⟨#[97, 105, 113, 109, 116]⟩, .string ⟨#[97, 99, 109]⟩, .string ⟨#[116]⟩, .string ⟨#[97, 97, 109]⟩, .string ⟨#[97]⟩, .string ⟨#[105, 107]⟩]) 9 0
  obtain ⟨X, hX⟩ : ∃ X, w.alloc (.cells ([.string ⟨#[]⟩, .string ⟨#[97]⟩, .string ⟨#[107]⟩, .string ⟨#[105]⟩, .string ⟨#[105]⟩, .string ⟨#[97, 109]⟩, .string ⟨#[97, 109]⟩, .string ⟨#[97, 105, 113]⟩, .string ⟨#[97, 105, 113]⟩, .string ⟨#[98]⟩, .string ⟨#[97, 105, 115, 112, 113]⟩, .string ⟨#[97, 111]⟩, .string ⟨#[97, 105, 113, 109, 109, 116]⟩, .string ⟨#[97, 99, 109]⟩, .string ⟨#[97, 105, 113, 109, 116]⟩, .string ⟨#[97, 99, 109]⟩, .string ⟨#[116]⟩, .string ⟨#[97, 97, 109]⟩, .string ⟨#[97]⟩, .string ⟨#[105, 107]⟩] : List Value).toArray 9) = X := ⟨_, rfl⟩
  rw [hX] at HB hc
  have c0 : X.cell? ⟨w.heap.size, 0, none⟩ = some (.string ⟨#[]⟩) := hc
  clear hc
  go_enter Tryd.func31, Tryd.ntmps31
  go_wp2
  go_ret3
  exact ⟨ret_sbb (by rw [HR.out]) (by kernel_rfl) (by kernel_rfl), HB.out⟩
set_option maxRecDepth 100000 in
theorem rCmd_2 (w : World) : Calls Tryd.prog 31 #[.int .u8 2] w (CmdRes 2 w) := by
  have HR := Lib.hid (show asks 2 = ⟨#[97]⟩ from by kernel_rfl)
  have HB := Lib.hid ((Below.refl w.heap.size w).alloc (Nat.le_refl _) (.cells ([.string ⟨#[]⟩, .string ⟨#[97]⟩, .string ⟨#[107]⟩, .string ⟨#[105]⟩, .string ⟨#[105]⟩, .string ⟨#[97, 109]⟩, .string ⟨#[97, 109]⟩, .string ⟨#[97, 105, 113]⟩, .string ⟨#[97, 105, 113]⟩, .string ⟨#[98]⟩, .string ⟨#[97, 105, 115, 112, 113]⟩, .string ⟨#[97, 111]⟩, .string ⟨#[97, 105, 113, 109, 109, 116]⟩, .string ⟨#[97, 99, 109]⟩, .string ⟨#[97, 105, 113, 109, 116]⟩, .string ⟨#[97, 99, 109]⟩, .string ⟨#[116]⟩, .string ⟨#[97, 97, 109]⟩, .string ⟨#[97]⟩, .string ⟨#[105, 107]⟩] : List Value).toArray 9))
  have hc := lit_cells w ([.string ⟨#[]⟩, .string ⟨#[97]⟩, .string ⟨#[107]⟩, .string ⟨#[105]⟩, .string ⟨#[105]⟩, .string ⟨#[97, 109]⟩, .string ⟨#[97, 109]⟩, .string ⟨#[97, 105, 113]⟩, .string ⟨#[97, 105, 113]⟩, .string ⟨#[98]⟩, .string ⟨#[97, 105, 115, 112, 113]⟩, .string ⟨#[97, 111]⟩, .string ⟨#[97, 105, 113, 109, 109, 116]⟩, .string ⟨#[97, 99, 109]⟩, .string ⟨#[97, 105, 113, 109, 116]⟩, .string ⟨#[97, 99, 109]⟩, .string ⟨#[116]⟩, .string ⟨#[97, 97, 109]⟩, .string ⟨#[97]⟩, .string ⟨#[105, 107]⟩]) 9 1
  obtain ⟨X, hX⟩ : ∃ X, w.alloc (.cells ([.string ⟨#[]⟩, .string ⟨#[97]⟩, .string ⟨#[107]⟩, .string ⟨#[105]⟩, .string ⟨#[105]⟩, .string ⟨#[97, 109]⟩, .string ⟨#[97, 109]⟩, .string ⟨#[97, 105, 113]⟩, .string ⟨#[97, 105, 113]⟩, .string ⟨#[98]⟩, .string ⟨#[97, 105, 115, 112, 113]⟩, .string ⟨#[97, 111]⟩, .string ⟨#[97, 105, 113, 109, 109, 116]⟩, .string ⟨#[97, 99, 109]⟩, .string ⟨#[97, 105, 113, 109, 116]⟩, .string ⟨#[97, 99, 109]⟩, .string ⟨#[116]⟩, .string ⟨#[97, 97, 109]⟩, .string ⟨#[97]⟩, .string ⟨#[105, 107]⟩] : List Value).toArray 9) = X := ⟨_, rfl⟩
  rw [hX] at HB hc
  have c0 : X.cell? ⟨w.heap.size, 1, none⟩ = some (.string ⟨#[97]⟩) := hc
  clear hc
  go_enter Tryd.func31, Tryd.ntmps31
  go_wp2
  go_ret3
  exact ⟨ret_sbb (by rw [HR.out]) (by kernel_rfl) (by kernel_rfl), HB.out⟩
set_option maxRecDepth 100000 in
theorem rCmd_3 (w : World) : Calls Tryd.prog 31 #[.int .u8 3] w (CmdRes 3 w) := by
  have HR := Lib.hid (show asks 3 = ⟨#[107]⟩ from by kernel_rfl)
  have HB := Lib.hid ((Below.refl w.heap.size w).alloc (Nat.le_refl _) (.cells ([.string ⟨#[]⟩, .string ⟨#[97]⟩, .string ⟨#[107]⟩, .string ⟨#[105]⟩, .string ⟨#[105]⟩, .string ⟨#[97, 109]⟩, .string ⟨#[97, 109]⟩, .string ⟨#[97, 105, 113]⟩, .string ⟨#[97, 105, 113]⟩, .string ⟨#[98]⟩, .string ⟨#[97, 105, 115, 112, 113]⟩, .string ⟨#[97, 111]⟩, .string ⟨#[97, 105, 113, 109, 109, 116]⟩, .string ⟨#[97, 99, 109]⟩, .string ⟨#[97, 105, 113, 109, 116]⟩, .string ⟨#[97, 99, 109]⟩, .string ⟨#[116]⟩, .string ⟨#[97, 97, 109]⟩, .string ⟨#[97]⟩, .string ⟨#[105, 107]⟩] : List Value).toArray 9))
  have hc := lit_cells w ([.string ⟨#[]⟩, .string ⟨#[97]⟩, .string ⟨#[107]⟩, .string ⟨#[105]⟩, .string ⟨#[105]⟩, .string ⟨#[97, 109]⟩, .string ⟨#[97, 109]⟩, .string ⟨#[97, 105, 113]⟩, .string ⟨#[97, 105, 113]⟩, .string ⟨#[98]⟩, .string ⟨#[97, 105, 115, 112, 113]⟩, .string ⟨#[97, 111]⟩, .string ⟨#[97, 105, 113, 109, 109, 116]⟩, .string ⟨#[97, 99, 109]⟩, .string ⟨#[97, 105, 113, 109, 116]⟩, .string ⟨#[97, 99, 109]⟩, .string ⟨#[116]⟩, .string ⟨#[97, 97, 109]⟩, .string ⟨#[97]⟩, .string ⟨#[105, 107]⟩]) 9 2
  obtain ⟨X, hX⟩ : ∃ X, w.alloc (.cells ([.string ⟨#[]⟩, .string ⟨#[97]⟩, .string ⟨#[107]⟩, .string ⟨#[105]⟩, .string ⟨#[105]⟩, .string ⟨#[97, 109]⟩, .string ⟨#[97, 109]⟩, .string ⟨#[97, 105, 113]⟩, .string ⟨#[97, 105, 113]⟩, .string ⟨#[98]⟩, .string ⟨#[97, 105, 115, 112, 113]⟩, .string ⟨#[97, 111]⟩, .string ⟨#[97, 105, 113, 109, 109, 116]⟩, .string ⟨#[97, 99, 109]⟩, .string ⟨#[97, 105, 113, 109, 116]⟩, .string ⟨#[97, 99, 109]⟩, .string ⟨#[116]⟩, .string ⟨#[97, 97, 109]⟩, .string ⟨#[97]⟩, .string ⟨#[105, 107]⟩] : List Value).toArray 9) = X := ⟨_, rfl⟩
  rw [hX] at HB hc
  have c0 : X.cell? ⟨w.heap.size, 2, none⟩ = some (.string ⟨#[107]⟩) := hc
  clear hc
  go_enter Tryd.func31, Tryd.ntmps31
  go_wp2
  go_ret3
  exact ⟨ret_sbb (by rw [HR.out]) (by kernel_rfl) (by kernel_rfl), HB.out⟩
set_option maxRecDepth 100000 in
theorem rCmd_4 (w : World) : Calls Tryd.prog 31 #[.int .u8 4] w (CmdRes 4 w) := by
  have HR := Lib.hid (show asks 4 = ⟨#[105]⟩ from by kernel_rfl)
  have HB := Lib.hid ((Below.refl w.heap.size w).alloc (Nat.le_refl _) (.cells ([.string ⟨#[]⟩, .string ⟨#[97]⟩, .string ⟨#[107]⟩, .string ⟨#[105]⟩, .string ⟨#[105]⟩, .string ⟨#[97, 109]⟩, .string ⟨#[97, 109]⟩, .string ⟨#[97, 105, 113]⟩, .string ⟨#[97, 105, 113]⟩, .string ⟨#[98]⟩, .string ⟨#[97, 105, 115, 112, 113]⟩, .string ⟨#[97, 111]⟩, .string ⟨#[97, 105, 113, 109, 109, 116]⟩, .string ⟨#[97, 99, 109]⟩, .string ⟨#[97, 105, 113, 109, 116]⟩, .string ⟨#[97, 99, 109]⟩, .string ⟨#[116]⟩, .string ⟨#[97, 97, 109]⟩, .string ⟨#[97]⟩, .string ⟨#[105, 107]⟩] : List Value).toArray 9))
  have hc := lit_cells w ([.string ⟨#[]⟩, .string ⟨#[97]⟩, .string ⟨#[107]⟩, .string ⟨#[105]⟩, .string ⟨#[105]⟩, .string ⟨#[97, 109]⟩, .string ⟨#[97, 109]⟩, .string ⟨#[97, 105, 113]⟩, .string ⟨#[97, 105, 113]⟩, .string ⟨#[98]⟩, .string ⟨#[97, 105, 115, 112, 113]⟩, .string ⟨#[97, 111]⟩, .string ⟨#[97, 105, 113, 109, 109, 116]⟩, .string ⟨#[97, 99, 109]⟩, .string ⟨#[97, 105, 113, 109, 116]⟩, .string ⟨#[97, 99, 109]⟩, .string ⟨#[116]⟩, .string ⟨#[97, 97, 109]⟩, .string ⟨#[97]⟩, .string ⟨#[105, 107]⟩]) 9 3
  obtain ⟨X, hX⟩ : ∃ X, w.alloc (.cells ([.string ⟨#[]⟩, .string ⟨#[97]⟩, .string ⟨#[107]⟩, .string ⟨#[105]⟩, .string ⟨#[105]⟩, .string ⟨#[97, 109]⟩, .string ⟨#[97, 109]⟩, .string ⟨#[97, 105, 113]⟩, .string ⟨#[97, 105, 113]⟩, .string ⟨#[98]⟩, .string ⟨#[97, 105, 115, 112, 113]⟩, .string ⟨#[97, 111]⟩, .string ⟨#[97, 105, 113, 109, 109, 116]⟩, .string ⟨#[97, 99, 109]⟩, .string ⟨#[97, 105, 113, 109, 116]⟩, .string ⟨#[97, 99, 109]⟩, .string ⟨#[116]⟩, .string ⟨#[97, 97, 109]⟩, .string ⟨#[97]⟩, .string ⟨#[105, 107]⟩] : List Value).toArray 9) = X := ⟨_, rfl⟩
  rw [hX] at HB hc
  have c0 : X.cell? ⟨w.heap.size, 3, none⟩ = some (.string ⟨#[105]⟩) := hc
  clear hc
  go_enter Tryd.func31, Tryd.ntmps31
  go_wp2
  go_ret3
  exact ⟨ret_sbb (by rw [HR.out]) (by kernel_rfl) (by kernel_rfl), HB.out⟩
set_option maxRecDepth 100000 in
theorem rCmd_5 (w : World) : Calls Tryd.prog 31 #[.int .u8 5] w (CmdRes 5 w) := by
  have HR := Lib.hid (show asks 5 = ⟨#[105]⟩ from by kernel_rfl)
  have HB := Lib.hid ((Below.refl w.heap.size w).alloc (Nat.le_refl _) (.cells ([.string ⟨#[]⟩, .string ⟨#[97]⟩, .string ⟨#[107]⟩, .string ⟨#[105]⟩, .string ⟨#[105]⟩, .string ⟨#[97, 109]⟩, .string ⟨#[97, 109]⟩, .string ⟨#[97, 105, 113]⟩, .string ⟨#[97, 105, 113]⟩, .string ⟨#[98]⟩, .string ⟨#[97, 105, 115, 112, 113]⟩, .string ⟨#[97, 111]⟩, .string ⟨#[97, 105, 113, 109, 109, 116]⟩, .string ⟨#[97, 99, 109]⟩, .string ⟨#[97, 105, 113, 109, 116]⟩, .string ⟨#[97, 99, 109]⟩, .string ⟨#[116]⟩, .string ⟨#[97, 97, 109]⟩, .string ⟨#[97]⟩, .string ⟨#[105, 107]⟩] : List Value).toArray 9))
  have hc := lit_cells w ([.string ⟨#[]⟩, .string ⟨#[97]⟩, .string ⟨#[107]⟩, .string ⟨#[105]⟩, .string ⟨#[105]⟩, .string ⟨#[97, 109]⟩, .string ⟨#[97, 109]⟩, .string ⟨#[97, 105, 113]⟩, .string ⟨#[97, 105, 113]⟩, .string ⟨#[98]⟩, .string ⟨#[97, 105, 115, 112, 113]⟩, .string ⟨#[97, 111]⟩, .string ⟨#[97, 105, 113, 109, 109, 116]⟩, .string ⟨#[97, 99, 109]⟩, .string ⟨#[97, 105, 113, 109, 116]⟩, .string ⟨#[97, 99, 109]⟩, .string ⟨#[116]⟩, .string ⟨#[97, 97, 109]⟩, .string ⟨#[97]⟩, .string ⟨#[105, 107]⟩]) 9 4
  obtain ⟨X, hX⟩ : ∃ X, w.alloc (.cells ([.string ⟨#[]⟩, .string ⟨#[97]⟩, .string ⟨#[107]⟩, .string ⟨#[105]⟩, .string ⟨#[105]⟩, .string ⟨#[97, 109]⟩, .string ⟨#[97, 109]⟩, .string ⟨#[97, 105, 113]⟩, .string ⟨#[97, 105, 113]⟩, .string ⟨#[98]⟩, .string ⟨#[97, 105, 115, 112, 113]⟩, .string ⟨#[97, 111]⟩, .string ⟨#[97, 105, 113, 109, 109, 116]⟩, .string ⟨#[97, 99, 109]⟩, .string ⟨#[97, 105, 113, 109, 116]⟩, .string ⟨#[97, 99, 109]⟩, .string ⟨#[116]⟩, .string ⟨#[97, 97, 109]⟩, .string ⟨#[97]⟩, .string ⟨#[105, 107]⟩] : List Value).toArray 9) = X := ⟨_, rfl⟩
  rw [hX] at HB hc
  have c0 : X.cell? ⟨w.heap.size, 4, none⟩ = some (.string ⟨#[105]⟩) := hc
  clear hc
  go_enter Tryd.func31, Tryd.ntmps31
  go_wp2
  go_ret3
  exact ⟨ret_sbb (by rw [HR.out]) (by kernel_rfl) (by kernel_rfl), HB.out⟩
set_option maxRecDepth 100000 in
theorem rCmd_6 (w : World) : Calls Tryd.prog 31 #[.int .u8 6] w (CmdRes 6 w) := by
  have HR := Lib.hid (show asks 6 = ⟨#[97, 109]⟩ from by kernel_rfl)
  have HB := Lib.hid ((Below.refl w.heap.size w).alloc (Nat.le_refl _) (.cells ([.string ⟨#[]⟩, .string ⟨#[97]⟩, .string ⟨#[107]⟩, .string ⟨#[105]⟩, .string ⟨#[105]⟩, .string ⟨#[97, 109]⟩, .string ⟨#[97, 109]⟩, .string ⟨#[97, 105, 113]⟩, .string ⟨#[97, 105, 113]⟩, .string ⟨#[98]⟩, .string ⟨#[97, 105, 115, 112, 113]⟩, .string ⟨#[97, 111]⟩, .string ⟨#[97, 105, 113, 109, 109, 116]⟩, .string ⟨#[97, 99, 109]⟩, .string ⟨#[97, 105, 113, 109, 116]⟩, .string ⟨#[97, 99, 109]⟩, .string ⟨#[116]⟩, .string ⟨#[97, 97, 109]⟩, .string ⟨#[97]⟩, .string ⟨#[105, 107]⟩] : List Value).toArray 9))
  have hc := lit_cells w ([.string ⟨#[]⟩, .string ⟨#[97]⟩, .string ⟨#[107]⟩, .string ⟨#[105]⟩, .string ⟨#[105]⟩, .string ⟨#[97, 109]⟩, .string ⟨#[97, 109]⟩, .string ⟨#[97, 105, 113]⟩, .string ⟨#[97, 105, 113]⟩, .string ⟨#[98]⟩, .string ⟨#[97, 105, 115, 112, 113]⟩, .string ⟨#[97, 111]⟩, .string ⟨#[97, 105, 113, 109, 109, 116]⟩, .string ⟨#[97, 99, 109]⟩, .string ⟨#[97, 105, 113, 109, 116]⟩, .string ⟨#[97, 99, 109]⟩, .string ⟨#[116]⟩, .string ⟨#[97, 97, 109]⟩, .string ⟨#[97]⟩, .string ⟨#[105, 107]⟩]) 9 5
  obtain ⟨X, hX⟩ : ∃ X, w.alloc (.cells ([.string ⟨#[]⟩, .string ⟨#[97]⟩, .string ⟨#[107]⟩, .string ⟨#[105]⟩, .string ⟨#[105]⟩, .string ⟨#[97, 109]⟩, .string ⟨#[97, 109]⟩, .string ⟨#[97, 105, 113]⟩, .string ⟨#[97, 105, 113]⟩, .string ⟨#[98]⟩, .string ⟨#[97, 105, 115, 112, 113]⟩, .string ⟨#[97, 111]⟩, .string ⟨#[97, 105, 113, 109, 109, 116]⟩, .string ⟨#[97, 99, 109]⟩, .string ⟨#[97, 105, 113, 109, 116]⟩, .string ⟨#[97, 99, 109]⟩, .string ⟨#[116]⟩, .string ⟨#[97, 97, 109]⟩, .string ⟨#[97]⟩, .string ⟨#[105, 107]⟩] : List Value).toArray 9) = X := ⟨_, rfl⟩
  rw [hX] at HB hc
  have c0 : X.cell? ⟨w.heap.size, 5, none⟩ = some (.string ⟨#[97, 109]⟩) := hc
  clear hc
  go_enter Tryd.func31, Tryd.ntmps31
  go_wp2
  go_ret3
  exact ⟨ret_sbb (by rw [HR.out]) (by kernel_rfl) (by kernel_rfl), HB.out⟩
set_option maxRecDepth 100000 in
theorem rCmd_7 (w : World) : Calls Tryd.prog 31 #[.int .u8 7] w (CmdRes 7 w) := by
  have HR := Lib.hid (show asks 7 = ⟨#[97, 109]⟩ from by kernel_rfl)
  have HB := Lib.hid ((Below.refl w.heap.size w).alloc (Nat.le_refl _) (.cells ([.string ⟨#[]⟩, .string ⟨#[97]⟩, .string ⟨#[107]⟩, .string ⟨#[105]⟩, .string ⟨#[105]⟩, .string ⟨#[97, 109]⟩, .string ⟨#[97, 109]⟩, .string ⟨#[97, 105, 113]⟩, .string ⟨#[97, 105, 113]⟩, .string ⟨#[98]⟩, .string ⟨#[97, 105, 115, 112, 113]⟩, .string ⟨#[97, 111]⟩, .string ⟨#[97, 105, 113, 109, 109, 116]⟩, .string ⟨#[97, 99, 109]⟩, .string ⟨#[97, 105, 113, 109, 116]⟩, .string ⟨#[97, 99, 109]⟩, .string ⟨#[116]⟩, .string ⟨#[97, 97, 109]⟩, .string ⟨#[97]⟩, .string ⟨#[105, 107]⟩] : List Value).toArray 9))
  have hc := lit_cells w ([.string ⟨#[]⟩, .string ⟨#[97]⟩, .string ⟨#[107]⟩, .string ⟨#[105]⟩, .string ⟨#[105]⟩, .string ⟨#[97, 109]⟩, .string ⟨#[97, 109]⟩, .string ⟨#[97, 105, 113]⟩, .string ⟨#[97, 105, 113]⟩, .string ⟨#[98]⟩, .string ⟨#[97, 105, 115, 112, 113]⟩, .string ⟨#[97, 111]⟩, .string ⟨#[97, 105, 113, 109, 109, 116]⟩, .string ⟨#[97, 99, 109]⟩, .string ⟨#[97, 105, 113, 109, 116]⟩, .string ⟨#[97, 99, 109]⟩, .string ⟨#[116]⟩, .string ⟨#[97, 97, 109]⟩, .string ⟨#[97]⟩, .string ⟨#[105, 107]⟩]) 9 6
  obtain ⟨X, hX⟩ : ∃ X, w.alloc (.cells ([.string ⟨#[]⟩, .string ⟨#[97]⟩, .string ⟨#[107]⟩, .string ⟨#[105]⟩, .string ⟨#[105]⟩, .string ⟨#[97, 109]⟩, .string ⟨#[97, 109]⟩, .string ⟨#[97, 105, 113]⟩, .string ⟨#[97, 105, 113]⟩, .string ⟨#[98]⟩, .string ⟨#[97, 105, 115, 112, 113]⟩, .string ⟨#[97, 111]⟩, .string ⟨#[97, 105, 113, 109, 109, 116]⟩, .string ⟨#[97, 99, 109]⟩, .string ⟨#[97, 105, 113, 109, 116]⟩, .string ⟨#[97, 99, 109]⟩, .string ⟨#[116]⟩, .string ⟨#[97, 97, 109]⟩, .string ⟨#[97]⟩, .string ⟨#[105, 107]⟩] : List Value).toArray 9) = X := ⟨_, rfl⟩
  rw [hX] at HB hc
  have c0 : X.cell? ⟨w.heap.size, 6, none⟩ = some (.string ⟨#[97, 109]⟩) := hc
  clear hc
  go_enter Tryd.func31, Tryd.ntmps31
  go_wp2
  go_ret3
  exact ⟨ret_sbb (by rw [HR.out]) (by kernel_rfl) (by kernel_rfl), HB.out⟩
set_option maxRecDepth 100000 in
theorem rCmd_8 (w : World) : Calls Tryd.prog 31 #[.int .u8 8] w (CmdRes 8 w) := by
  have HR := Lib.hid (show asks 8 = ⟨#[97, 105, 113]⟩ from by kernel_rfl)
  have HB := Lib.hid ((Below.refl w.heap.size w).alloc (Nat.le_refl _) (.cells ([.string ⟨#[]⟩, .string ⟨#[97]⟩, .string ⟨#[107]⟩, .string ⟨#[105]⟩, .string ⟨#[105]⟩, .string ⟨#[97, 109]⟩, .string ⟨#[97, 109]⟩, .string ⟨#[97, 105, 113]⟩, .string ⟨#[97, 105, 113]⟩, .string ⟨#[98]⟩, .string ⟨#[97, 105, 115, 112, 113]⟩, .string ⟨#[97, 111]⟩, .string ⟨#[97, 105, 113, 109, 109, 116]⟩, .string ⟨#[97, 99, 109]⟩, .string ⟨#[97, 105, 113, 109, 116]⟩, .string ⟨#[97, 99, 109]⟩, .string ⟨#[116]⟩, .string ⟨#[97, 97, 109]⟩, .string ⟨#[97]⟩, .string ⟨#[105, 107]⟩] : List Value).toArray 9))
  have hc := lit_cells w ([.string ⟨#[]⟩, .string ⟨#[97]⟩, .string ⟨#[107]⟩, .string ⟨#[105]⟩, .string ⟨#[105]⟩, .string ⟨#[97, 109]⟩, .string ⟨#[97, 109]⟩, .string ⟨#[97, 105, 113]⟩, .string ⟨#[97, 105, 113]⟩, .string ⟨#[98]⟩, .string ⟨#[97, 105, 115, 112, 113]⟩, .string ⟨#[97, 111]⟩, .string ⟨#[97, 105, 113, 109, 109, 116]⟩, .string ⟨#[97, 99, 109]⟩, .string ⟨#[97, 105, 113, 109, 116]⟩, .string ⟨#[97, 99, 109]⟩, .string ⟨#[116]⟩, .string ⟨#[97, 97, 109]⟩, .string ⟨#[97]⟩, .string ⟨#[105, 107]⟩]) 9 7
  obtain ⟨X, hX⟩ : ∃ X, w.alloc (.cells ([.string ⟨#[]⟩, .string ⟨#[97]⟩, .string ⟨#[107]⟩, .string ⟨#[105]⟩, .string ⟨#[105]⟩, .string ⟨#[97, 109]⟩, .string ⟨#[97, 109]⟩, .string ⟨#[97, 105, 113]⟩, .string ⟨#[97, 105, 113]⟩, .string ⟨#[98]⟩, .string ⟨#[97, 105, 115, 112, 113]⟩, .string ⟨#[97, 111]⟩, .string ⟨#[97, 105, 113, 109, 109, 116]⟩, .string ⟨#[97, 99, 109]⟩, .string ⟨#[97, 105, 113, 109, 116]⟩, .string ⟨#[97, 99, 109]⟩, .string ⟨#[116]⟩, .string ⟨#[97, 97, 109]⟩, .string ⟨#[97]⟩, .string ⟨#[105, 107]⟩] : List Value).toArray 9) = X := ⟨_, rfl⟩
  rw [hX] at HB hc
  have c0 : X.cell? ⟨w.heap.size, 7, none⟩ = some (.string ⟨#[97, 105, 113]⟩) := hc
  clear hc
  go_enter Tryd.func31, Tryd.ntmps31
  go_wp2
  go_ret3
  exact ⟨ret_sbb (by rw [HR.out]) (by kernel_rfl) (by kernel_rfl), HB.out⟩
set_option maxRecDepth 100000 in
theorem rCmd_9 (w : World) : Calls Tryd.prog 31 #[.int .u8 9] w (CmdRes 9 w) := by
  have HR := Lib.hid (show asks 9 = ⟨#[97, 105, 113]⟩ from by kernel_rfl)
  have HB := Lib.hid ((Below.refl w.heap.size w).alloc (Nat.le_refl _) (.cells ([.string ⟨#[]⟩, .string ⟨#[97]⟩, .string ⟨#[107]⟩, .string ⟨#[105]⟩, .string ⟨#[105]⟩, .string ⟨#[97, 109]⟩, .string ⟨#[97, 109]⟩, .string ⟨#[97, 105, 113]⟩, .string ⟨#[97, 105, 113]⟩, .string ⟨#[98]⟩, .string ⟨#[97, 105, 115, 112, 113]⟩, .string ⟨#[97, 111]⟩, .string ⟨#[97, 105, 113, 109, 109, 116]⟩, .string ⟨#[97, 99, 109]⟩, .string ⟨#[97, 105, 113, 109, 116]⟩, .string ⟨#[97, 99, 109]⟩, .string ⟨#[116]⟩, .string ⟨#[97, 97, 109]⟩, .string ⟨#[97]⟩, .string ⟨#[105, 107]⟩] : List Value).toArray 9))
  have hc := lit_cells w ([.string ⟨#[]⟩, .string ⟨#[97]⟩, .string ⟨#[107]⟩, .string ⟨#[105]⟩, .string ⟨#[105]⟩, .string ⟨#[97, 109]⟩, .string ⟨#[97, 109]⟩, .string ⟨#[97, 105, 113]⟩, .string ⟨#[97, 105, 113]⟩, .string ⟨#[98]⟩, .string ⟨#[97, 105, 115, 112, 113]⟩, .string ⟨#[97, 111]⟩, .string ⟨#[97, 105, 113, 109, 109, 116]⟩, .string ⟨#[97, 99, 109]⟩, .string ⟨#[97, 105, 113, 109, 116]⟩, .string ⟨#[97, 99, 109]⟩, .string ⟨#[116]⟩, .string ⟨#[97, 97, 109]⟩, .string ⟨#[97]⟩, .string ⟨#[105, 107]⟩]) 9 8
  obtain ⟨X, hX⟩ : ∃ X, w.alloc (.cells ([.string ⟨#[]⟩, .string ⟨#[97]⟩, .string ⟨#[107]⟩, .string ⟨#[105]⟩, .string ⟨#[105]⟩, .string ⟨#[97, 109]⟩, .string ⟨#[97, 109]⟩, .string ⟨#[97, 105, 113]⟩, .string ⟨#[97, 105, 113]⟩, .string ⟨#[98]⟩, .string ⟨#[97, 105, 115, 112, 113]⟩, .string ⟨#[97, 111]⟩, .string ⟨#[97, 105, 113, 109, 109, 116]⟩, .string ⟨#[97, 99, 109]⟩, .string ⟨#[97, 105, 113, 109, 116]⟩, .string ⟨#[97, 99, 109]⟩, .string ⟨#[116]⟩, .string ⟨#[97, 97, 109]⟩, .string ⟨#[97]⟩, .string ⟨#[105, 107]⟩] : List Value).toArray 9) = X := ⟨_, rfl⟩
  rw [hX] at HB hc
  have c0 : X.cell? ⟨w.heap.size, 8, none⟩ = some (.string ⟨#[97, 105, 113]⟩) := hc
  clear hc
  go_enter Tryd.func31, Tryd.ntmps31
  go_wp2
  go_ret3
  exact ⟨ret_sbb (by rw [HR.out]) (by kernel_rfl) (by kernel_rfl), HB.out⟩
set_option maxRecDepth 100000 in
theorem rCmd_10 (w : World) : Calls Tryd.prog 31 #[.int .u8 10] w (CmdRes 10 w) := by
  have HR := Lib.hid (show asks 10 = ⟨#[98]⟩ from by kernel_rfl)
  have HB := Lib.hid ((Below.refl w.heap.size w).alloc (Nat.le_refl _) (.cells ([.string ⟨#[]⟩, .string ⟨#[97]⟩, .string ⟨#[107]⟩, .string ⟨#[105]⟩, .string ⟨#[105]⟩, .string ⟨#[97, 109]⟩, .string ⟨#[97, 109]⟩, .string ⟨#[97, 105, 113]⟩, .string ⟨#[97, 105, 113]⟩, .string ⟨#[98]⟩, .string ⟨#[97, 105, 115, 112, 113]⟩, .string ⟨#[97, 111]⟩, .string ⟨#[97, 105, 113, 109, 109, 116]⟩, .string ⟨#[97, 99, 109]⟩, .string ⟨#[97, 105, 113, 109, 116]⟩, .string ⟨#[97, 99, 109]⟩, .string ⟨#[116]⟩, .string ⟨#[97, 97, 109]⟩, .string ⟨#[97]⟩, .string ⟨#[105, 107]⟩] : List Value).toArray 9))
  have hc := lit_cells w ([.string ⟨#[]⟩, .string ⟨#[97]⟩, .string ⟨#[107]⟩, .string ⟨#[105]⟩, .string ⟨#[105]⟩, .string ⟨#[97, 109]⟩, .string ⟨#[97, 109]⟩, .string ⟨#[97, 105, 113]⟩, .string ⟨#[97, 105, 113]⟩, .string ⟨#[98]⟩, .string ⟨#[97, 105, 115, 112, 113]⟩, .string ⟨#[97, 111]⟩, .string ⟨#[97, 105, 113, 109, 109, 116]⟩, .string ⟨#[97, 99, 109]⟩, .string ⟨#[97, 105, 113, 109, 116]⟩, .string ⟨#[97, 99, 109]⟩, .string ⟨#[116]⟩, .string ⟨#[97, 97, 109]⟩, .string ⟨#[97]⟩, .string ⟨#[105, 107]⟩]) 9 9
  obtain ⟨X, hX⟩ : ∃ X, w.alloc (.cells ([.string ⟨#[]⟩, .string ⟨#[97]⟩, .string ⟨#[107]⟩, .string ⟨#[105]⟩, .string ⟨#[105]⟩, .string ⟨#[97, 109]⟩, .string ⟨#[97, 109]⟩, .string ⟨#[97, 105, 113]⟩, .string ⟨#[97, 105, 113]⟩, .string ⟨#[98]⟩, .string ⟨#[97, 105, 115, 112, 113]⟩, .string ⟨#[97, 111]⟩, .string ⟨#[97, 105, 113, 109, 109, 116]⟩, .string ⟨#[97, 99, 109]⟩, .string ⟨#[97, 105, 113, 109, 116]⟩, .string ⟨#[97, 99, 109]⟩, .string ⟨#[116]⟩, .string ⟨#[97, 97, 109]⟩, .string ⟨#[97]⟩, .string ⟨#[105, 107]⟩] : List Value).toArray 9) = X := ⟨_, rfl⟩
  rw [hX] at HB hc
  have c0 : X.cell? ⟨w.heap.size, 9, none⟩ = some (.string ⟨#[98]⟩) := hc
  clear hc
  go_enter Tryd.func31, Tryd.ntmps31
  go_wp2
  go_ret3
  exact ⟨ret_sbb (by rw [HR.out]) (by kernel_rfl) (by kernel_rfl), HB.out⟩
set_option maxRecDepth 100000 in
theorem rCmd_11 (w : World) : Calls Tryd.prog 31 #[.int .u8 11] w (CmdRes 11 w) := by
  have HR := Lib.hid (show asks 11 = ⟨#[97, 105, 115, 112, 113]⟩ from by kernel_rfl)
  have HB := Lib.hid ((Below.refl w.heap.size w).alloc (Nat.le_refl _) (.cells ([.string ⟨#[]⟩, .string ⟨#[97]⟩, .string ⟨#[107]⟩, .string ⟨#[105]⟩, .string ⟨#[105]⟩, .string ⟨#[97, 109]⟩, .string ⟨#[97, 109]⟩, .string ⟨#[97, 105, 113]⟩, .string ⟨#[97, 105, 113]⟩, .string ⟨#[98]⟩, .string ⟨#[97, 105, 115, 112, 113]⟩, .string ⟨#[97, 111]⟩, .string ⟨#[97, 105, 113, 109, 109, 116]⟩, .string ⟨#[97, 99, 109]⟩, .string ⟨#[97, 105, 113, 109, 116]⟩, .string ⟨#[97, 99, 109]⟩, .string ⟨#[116]⟩, .string ⟨#[97, 97, 109]⟩, .string ⟨#[97]⟩, .string ⟨#[105, 107]⟩] : List Value).toArray 9))
  have hc := lit_cells w ([.string ⟨#[]⟩, .string ⟨#[97]⟩, .string ⟨#[107]⟩, .string ⟨#[105]⟩, .string ⟨#[105]⟩, .string ⟨#[97, 109]⟩, .string ⟨#[97, 109]⟩, .string ⟨#[97, 105, 113]⟩, .string ⟨#[97, 105, 113]⟩, .string ⟨#[98]⟩, .string ⟨#[97, 105, 115, 112, 113]⟩, .string ⟨#[97, 111]⟩, .string ⟨#[97, 105, 113, 109, 109, 116]⟩, .string ⟨#[97, 99, 109]⟩, .string ⟨#[97, 105, 113, 109, 116]⟩, .string ⟨#[97, 99, 109]⟩, .string ⟨#[116]⟩, .string ⟨#[97, 97, 109]⟩, .string ⟨#[97]⟩, .string ⟨#[105, 107]⟩]) 9 10
  obtain ⟨X, hX⟩ : ∃ X, w.alloc (.cells ([.string ⟨#[]⟩, .string ⟨#[97]⟩, .string ⟨#[107]⟩, .string ⟨#[105]⟩, .string ⟨#[105]⟩, .string ⟨#[97, 109]⟩, .string ⟨#[97, 109]⟩, .string ⟨#[97, 105, 113]⟩, .string ⟨#[97, 105, 113]⟩, .string ⟨#[98]⟩, .string ⟨#[97, 105, 115, 112, 113]⟩, .string ⟨#[97, 111]⟩, .string ⟨#[97, 105, 113, 109, 109, 116]⟩, .string ⟨#[97, 99, 109]⟩, .string ⟨#[97, 105, 113, 109, 116]⟩, .string ⟨#[97, 99, 109]⟩, .string ⟨#[116]⟩, .string ⟨#[97, 97, 109]⟩, .string ⟨#[97]⟩, .string ⟨#[105, 107]⟩] : List Value).toArray 9) = X := ⟨_, rfl⟩
  rw [hX] at HB hc
  have c0 : X.cell? ⟨w.heap.size, 10, none⟩ = some (.string ⟨#[97, 105, 115, 112, 113]⟩) := hc
  clear hc
  go_enter Tryd.func31, Tryd.ntmps31
  go_wp2
  go_ret3
  exact ⟨ret_sbb (by rw [HR.out]) (by kernel_rfl) (by kernel_rfl), HB.out⟩
set_option maxRecDepth 100000 in
theorem rCmd_12 (w : World) : Calls Tryd.prog 31 #[.int .u8 12] w (CmdRes 12 w) := by
  have HR := Lib.hid (show asks 12 = ⟨#[97, 111]⟩ from by kernel_rfl)
  have HB := Lib.hid ((Below.refl w.heap.size w).alloc (Nat.le_refl _) (.cells ([.string ⟨#[]⟩, .string ⟨#[97]⟩, .string ⟨#[107]⟩, .string ⟨#[105]⟩, .string ⟨#[105]⟩, .string ⟨#[97, 109]⟩, .string ⟨#[97, 109]⟩, .string ⟨#[97, 105, 113]⟩, .string ⟨#[97, 105, 113]⟩, .string ⟨#[98]⟩, .string ⟨#[97, 105, 115, 112, 113]⟩, .string ⟨#[97, 111]⟩, .string ⟨#[97, 105, 113, 109, 109, 116]⟩, .string ⟨#[97, 99, 109]⟩, .string ⟨#[97, 105, 113, 109, 116]⟩, .string ⟨#[97, 99, 109]⟩, .string ⟨#[116]⟩, .string ⟨#[97, 97, 109]⟩, .string ⟨#[97]⟩, .string ⟨#[105, 107]⟩] : List Value).toArray 9))
  have hc := lit_cells w ([.string ⟨#[]⟩, .string ⟨#[97]⟩, .string ⟨#[107]⟩, .string ⟨#[105]⟩, .string ⟨#[105]⟩, .string ⟨#[97, 109]⟩, .string ⟨#[97, 109]⟩, .string ⟨#[97, 105, 113]⟩, .string ⟨#[97, 105, 113]⟩, .string ⟨#[98]⟩, .string ⟨#[97, 105, 115, 112, 113]⟩, .string ⟨#[97, 111]⟩, .string ⟨#[97, 105, 113, 109, 109, 116]⟩, .string ⟨#[97, 99, 109]⟩, .string ⟨#[97, 105, 113, 109, 116]⟩, .string ⟨#[97, 99, 109]⟩, .string ⟨#[116]⟩, .string ⟨#[97, 97, 109]⟩, .string ⟨#[97]⟩, .string ⟨#[105, 107]⟩]) 9 11
  obtain ⟨X, hX⟩ : ∃ X, w.alloc (.cells ([.string ⟨#[]⟩, .string ⟨#[97]⟩, .string ⟨#[107]⟩, .string ⟨#[105]⟩, .string ⟨#[105]⟩, .string ⟨#[97, 109]⟩, .string ⟨#[97, 109]⟩, .string ⟨#[97, 105, 113]⟩, .string ⟨#[97, 105, 113]⟩, .string ⟨#[98]⟩, .string ⟨#[97, 105, 115, 112, 113]⟩, .string ⟨#[97, 111]⟩, .string ⟨#[97, 105, 113, 109, 109, 116]⟩, .string ⟨#[97, 99, 109]⟩, .string ⟨#[97, 105, 113, 109, 116]⟩, .string ⟨#[97, 99, 109]⟩, .string ⟨#[116]⟩, .string ⟨#[97, 97, 109]⟩, .string ⟨#[97]⟩, .string ⟨#[105, 107]⟩] : List Value).toArray 9) = X := ⟨_, rfl⟩
  rw [hX] at HB hc
  have c0 : X.cell? ⟨w.heap.size, 11, none⟩ = some (.string ⟨#[97, 111]⟩) := hc
  clear hc
  go_enter Tryd.func31, Tryd.ntmps31
  go_wp2
  go_ret3
  exact ⟨ret_sbb (by rw [HR.out]) (by kernel_rfl) (by kernel_rfl), HB.out⟩
set_option maxRecDepth 100000 in
theorem rCmd_13 (w : World) : Calls Tryd.prog 31 #[.int .u8 13] w (CmdRes 13 w) := by
  have HR := Lib.hid (show asks 13 = ⟨#[97, 105, 113, 109, 109, 116]⟩ from by kernel_rfl)
  have HB := Lib.hid ((Below.refl w.heap.size w).alloc (Nat.le_refl _) (.cells ([.string ⟨#[]⟩, .string ⟨#[97]⟩, .string ⟨#[107]⟩, .string ⟨#[105]⟩, .string ⟨#[105]⟩, .string ⟨#[97, 109]⟩, .string ⟨#[97, 109]⟩, .string ⟨#[97, 105, 113]⟩, .string ⟨#[97, 105, 113]⟩, .string ⟨#[98]⟩, .string ⟨#[97, 105, 115, 112, 113]⟩, .string ⟨#[97, 111]⟩, .string ⟨#[97, 105, 113, 109, 109, 116]⟩, .string ⟨#[97, 99, 109]⟩, .string ⟨#[97, 105, 113, 109, 116]⟩, .string ⟨#[97, 99, 109]⟩, .string ⟨#[116]⟩, .string ⟨#[97, 97, 109]⟩, .string ⟨#[97]⟩, .string ⟨#[105, 107]⟩] : List Value).toArray 9))
  have hc := lit_cells w ([.string ⟨#[]⟩, .string ⟨#[97]⟩, .string ⟨#[107]⟩, .string ⟨#[105]⟩, .string ⟨#[105]⟩, .string ⟨#[97, 109]⟩, .string ⟨#[97, 109]⟩, .string ⟨#[97, 105, 113]⟩, .string ⟨#[97, 105, 113]⟩, .string ⟨#[98]⟩, .string ⟨#[97, 105, 115, 112, 113]⟩, .string ⟨#[97, 111]⟩, .string ⟨#[97, 105, 113, 109, 109, 116]⟩, .string ⟨#[97, 99, 109]⟩, .string ⟨#[97, 105, 113, 109, 116]⟩, .string ⟨#[97, 99, 109]⟩, .string ⟨#[116]⟩, .string ⟨#[97, 97, 109]⟩, .string ⟨#[97]⟩, .string ⟨#[105, 107]⟩]) 9 12
  obtain ⟨X, hX⟩ : ∃ X, w.alloc (.cells ([.string ⟨#[]⟩, .string ⟨#[97]⟩, .string ⟨#[107]⟩, .string ⟨#[105]⟩, .string ⟨#[105]⟩, .string ⟨#[97, 109]⟩, .string ⟨#[97, 109]⟩, .string ⟨#[97, 105, 113]⟩, .string ⟨#[97, 105, 113]⟩, .string ⟨#[98]⟩, .string ⟨#[97, 105, 115, 112, 113]⟩, .string ⟨#[97, 111]⟩, .string ⟨#[97, 105, 113, 109, 109, 116]⟩, .string ⟨#[97, 99, 109]⟩, .string ⟨#[97, 105, 113, 109, 116]⟩, .string ⟨#[97, 99, 109]⟩, .string ⟨#[116]⟩, .string ⟨#[97, 97, 109]⟩, .string ⟨#[97]⟩, .string ⟨#[105, 107]⟩] : List Value).toArray 9) = X := ⟨_, rfl⟩
  rw [hX] at HB hc
  have c0 : X.cell? ⟨w.heap.size, 12, none⟩ = some (.string ⟨#[97, 105, 113, 109, 109, 116]⟩) := hc
  clear hc
  go_enter Tryd.func31, Tryd.ntmps31
  go_wp2
  go_ret3
  exact ⟨ret_sbb (by rw [HR.out]) (by kernel_rfl) (by kernel_rfl), HB.out⟩
set_option maxRecDepth 100000 in
theorem rCmd_14 (w : World) : Calls Tryd.prog 31 #[.int .u8 14] w (CmdRes 14 w) := by
  have HR := Lib.hid (show asks 14 = ⟨#[97, 99, 109]⟩ from by kernel_rfl)
  have HB := Lib.hid ((Below.refl w.heap.size w).alloc (Nat.le_refl _) (.cells ([.string ⟨#[]⟩, .string ⟨#[97]⟩, .string ⟨#[107]⟩, .string ⟨#[105]⟩, .string ⟨#[105]⟩, .string ⟨#[97, 109]⟩, .string ⟨#[97, 109]⟩, .string ⟨#[97, 105, 113]⟩, .string ⟨#[97, 105, 113]⟩, .string ⟨#[98]⟩, .string ⟨#[97, 105, 115, 112, 113]⟩, .string ⟨#[97, 111]⟩, .string ⟨#[97, 105, 113, 109, 109, 116]⟩, .string ⟨#[97, 99, 109]⟩, .string ⟨#[97, 105, 113, 109, 116]⟩, .string ⟨#[97, 99, 109]⟩, .string ⟨#[116]⟩, .string ⟨#[97, 97, 109]⟩, .string ⟨#[97]⟩, .string ⟨#[105, 107]⟩] : List Value).toArray 9))
  have hc := lit_cells w ([.string ⟨#[]⟩, .string ⟨#[97]⟩, .string ⟨#[107]⟩, .string ⟨#[105]⟩, .string ⟨#[105]⟩, .string ⟨#[97, 109]⟩, .string ⟨#[97, 109]⟩, .string ⟨#[97, 105, 113]⟩, .string ⟨#[97, 105, 113]⟩, .string ⟨#[98]⟩, .string ⟨#[97, 105, 115, 112, 113]⟩, .string ⟨#[97, 111]⟩, .string ⟨#[97, 105, 113, 109, 109, 116]⟩, .string ⟨#[97, 99, 109]⟩, .string ⟨#[97, 105, 113, 109, 116]⟩, .string ⟨#[97, 99, 109]⟩, .string ⟨#[116]⟩, .string ⟨#[97, 97, 109]⟩, .string ⟨#[97]⟩, .string ⟨#[105, 107]⟩]) 9 13
  obtain ⟨X, hX⟩ : ∃ X, w.alloc (.cells ([.string ⟨#[]⟩, .string ⟨#[97]⟩, .string ⟨#[107]⟩, .string ⟨#[105]⟩, .string ⟨#[105]⟩, .string ⟨#[97, 109]⟩, .string ⟨#[97, 109]⟩, .string ⟨#[97, 105, 113]⟩, .string ⟨#[97, 105, 113]⟩, .string ⟨#[98]⟩, .string ⟨#[97, 105, 115, 112, 113]⟩, .string ⟨#[97, 111]⟩, .string ⟨#[97, 105, 113, 109, 109, 116]⟩, .string ⟨#[97, 99, 109]⟩, .string ⟨#[97, 105, 113, 109, 116]⟩, .string ⟨#[97, 99, 109]⟩, .string ⟨#[116]⟩, .string ⟨#[97, 97, 109]⟩, .string ⟨#[97]⟩, .string ⟨#[105, 107]⟩] : List Value).toArray 9) = X := ⟨_, rfl⟩
  rw [hX] at HB hc
  have c0 : X.cell? ⟨w.heap.size, 13, none⟩ = some (.string ⟨#[97, 99, 109]⟩) := hc
  clear hc
  go_enter Tryd.func31, Tryd.ntmps31
  go_wp2
  go_ret3
  exact ⟨ret_sbb (by rw [HR.out]) (by kernel_rfl) (by kernel_rfl), HB.out⟩
set_option maxRecDepth 100000 in
theorem rCmd_15 (w : World) : Calls Tryd.prog 31 #[.int .u8 15] w (CmdRes 15 w) := by
  have HR := Lib.hid (show asks 15 = ⟨#[97, 105, 113, 109, 116]⟩ from by kernel_rfl)
  have HB := Lib.hid ((Below.refl w.heap.size w).alloc (Nat.le_refl _) (.cells ([.string ⟨#[]⟩, .string ⟨#[97]⟩, .string ⟨#[107]⟩, .string ⟨#[105]⟩, .string ⟨#[105]⟩, .string ⟨#[97, 109]⟩, .string ⟨#[97, 109]⟩, .string ⟨#[97, 105, 113]⟩, .string ⟨#[97, 105, 113]⟩, .string ⟨#[98]⟩, .string ⟨#[97, 105, 115, 112, 113]⟩, .string ⟨#[97, 111]⟩, .string ⟨#[97, 105, 113, 109, 109, 116]⟩, .string ⟨#[97, 99, 109]⟩, .string ⟨#[97, 105, 113, 109, 116]⟩, .string ⟨#[97, 99, 109]⟩, .string ⟨#[116]⟩, .string ⟨#[97, 97, 109]⟩, .string ⟨#[97]⟩, .string ⟨#[105, 107]⟩] : List Value).toArray 9))
  have hc := lit_cells w ([.string ⟨#[]⟩, .string ⟨#[97]⟩, .string ⟨#[107]⟩, .string ⟨#[105]⟩, .string ⟨#[105]⟩, .string ⟨#[97, 109]⟩, .string ⟨#[97, 109]⟩, .string ⟨#[97, 105, 113]⟩, .string ⟨#[97, 105, 113]⟩, .string ⟨#[98]⟩, .string ⟨#[97, 105, 115, 112, 113]⟩, .string ⟨#[97, 111]⟩, .string ⟨#[97, 105, 113, 109, 109, 116]⟩, .string ⟨#[97, 99, 109]⟩, .string ⟨#[97, 105, 113, 109, 116]⟩, .string ⟨#[97, 99, 109]⟩, .string ⟨#[116]⟩, .string ⟨#[97, 97, 109]⟩, .string ⟨#[97]⟩, .string ⟨#[105, 107]⟩]) 9 14
  obtain ⟨X, hX⟩ : ∃ X, w.alloc (.cells ([.string ⟨#[]⟩, .string ⟨#[97]⟩, .string ⟨#[107]⟩, .string ⟨#[105]⟩, .string ⟨#[105]⟩, .string ⟨#[97, 109]⟩, .string ⟨#[97, 109]⟩, .string ⟨#[97, 105, 113]⟩, .string ⟨#[97, 105, 113]⟩, .string ⟨#[98]⟩, .string ⟨#[97, 105, 115, 112, 113]⟩, .string ⟨#[97, 111]⟩, .string ⟨#[97, 105, 113, 109, 109, 116]⟩, .string ⟨#[97, 99, 109]⟩, .string ⟨#[97, 105, 113, 109, 116]⟩, .string ⟨#[97, 99, 109]⟩, .string ⟨#[116]⟩, .string ⟨#[97, 97, 109]⟩, .string ⟨#[97]⟩, .string ⟨#[105, 107]⟩] : List Value).toArray 9) = X := ⟨_, rfl⟩
  rw [hX] at HB hc
  have c0 : X.cell? ⟨w.heap.size, 14, none⟩ = some (.string ⟨#[97, 105, 113, 109, 116]⟩) := hc
  clear hc
  go_enter Tryd.func31, Tryd.ntmps31
  go_wp2
  go_ret3
  exact ⟨ret_sbb (by rw [HR.out]) (by kernel_rfl) (by kernel_rfl), HB.out⟩
set_option maxRecDepth 100000 in
theorem rCmd_16 (w : World) : Calls Tryd.prog 31 #[.int .u8 16] w (CmdRes 16 w) := by
  have HR := Lib.hid (show asks 16 = ⟨#[97, 99, 109]⟩ from by kernel_rfl)
  have HB := Lib.hid ((Below.refl w.heap.size w).alloc (Nat.le_refl _) (.cells ([.string ⟨#[]⟩, .string ⟨#[97]⟩, .string ⟨#[107]⟩, .string ⟨#[105]⟩, .string ⟨#[105]⟩, .string ⟨#[97, 109]⟩, .string ⟨#[97, 109]⟩, .string ⟨#[97, 105, 113]⟩, .string ⟨#[97, 105, 113]⟩, .string ⟨#[98]⟩, .string ⟨#[97, 105, 115, 112, 113]⟩, .string ⟨#[97, 111]⟩, .string ⟨#[97, 105, 113, 109, 109, 116]⟩, .string ⟨#[97, 99, 109]⟩, .string ⟨#[97, 105, 113, 109, 116]⟩, .string ⟨#[97, 99, 109]⟩, .string ⟨#[116]⟩, .string ⟨#[97, 97, 109]⟩, .string ⟨#[97]⟩, .string ⟨#[105, 107]⟩] : List Value).toArray 9))
  have hc := lit_cells w ([.string ⟨#[]⟩, .string ⟨#[97]⟩, .string ⟨#[107]⟩, .string ⟨#[105]⟩, .string ⟨#[105]⟩, .string ⟨#[97, 109]⟩, .string ⟨#[97, 109]⟩, .string ⟨#[97, 105, 113]⟩, .string ⟨#[97, 105, 113]⟩, .string ⟨#[98]⟩, .string ⟨#[97, 105, 115, 112, 113]⟩, .string ⟨#[97, 111]⟩, .string ⟨#[97, 105, 113, 109, 109, 116]⟩, .string ⟨#[97, 99, 109]⟩, .string ⟨#[97, 105, 113, 109, 116]⟩, .string ⟨#[97, 99, 109]⟩, .string ⟨#[116]⟩, .string ⟨#[97, 97, 109]⟩, .string ⟨#[97]⟩, .string ⟨#[105, 107]⟩]) 9 15
  obtain ⟨X, hX⟩ : ∃ X, w.alloc (.cells ([.string ⟨#[]⟩, .string ⟨#[97]⟩, .string ⟨#[107]⟩, .string ⟨#[105]⟩, .string ⟨#[105]⟩, .string ⟨#[97, 109]⟩, .string ⟨#[97, 109]⟩, .string ⟨#[97, 105, 113]⟩, .string ⟨#[97, 105, 113]⟩, .string ⟨#[98]⟩, .string ⟨#[97, 105, 115, 112, 113]⟩, .string ⟨#[97, 111]⟩, .string ⟨#[97, 105, 113, 109, 109, 116]⟩, .string ⟨#[97, 99, 109]⟩, .string ⟨#[97, 105, 113, 109, 116]⟩, .string ⟨#[97, 99, 109]⟩, .string ⟨#[116]⟩, .string ⟨#[97, 97, 109]⟩, .string ⟨#[97]⟩, .string ⟨#[105, 107]⟩] : List Value).toArray 9) = X := ⟨_, rfl⟩
  rw [hX] at HB hc
  have c0 : X.cell? ⟨w.heap.size, 15, none⟩ = some (.string ⟨#[97, 99, 109]⟩) := hc
  clear hc
  go_enter Tryd.func31, Tryd.ntmps31
  go_wp2
  go_ret3
  exact ⟨ret_sbb (by rw [HR.out]) (by kernel_rfl) (by kernel_rfl), HB.out⟩
set_option maxRecDepth 100000 in
theorem rCmd_17 (w : World) : Calls Tryd.prog 31 #[.int .u8 17] w (CmdRes 17 w) := by
  have HR := Lib.hid (show asks 17 = ⟨#[116]⟩ from by kernel_rfl)
  have HB := Lib.hid ((Below.refl w.heap.size w).alloc (Nat.le_refl _) (.cells ([.string ⟨#[]⟩, .string ⟨#[97]⟩, .string ⟨#[107]⟩, .string ⟨#[105]⟩, .string ⟨#[105]⟩, .string ⟨#[97, 109]⟩, .string ⟨#[97, 109]⟩, .string ⟨#[97, 105, 113]⟩, .string ⟨#[97, 105, 113]⟩, .string ⟨#[98]⟩, .string ⟨#[97, 105, 115, 112, 113]⟩, .string ⟨#[97, 111]⟩, .string ⟨#[97, 105, 113, 109, 109, 116]⟩, .string ⟨#[97, 99, 109]⟩, .string ⟨#[97, 105, 113, 109, 116]⟩, .string ⟨#[97, 99, 109]⟩, .string ⟨#[116]⟩, .string ⟨#[97, 97, 109]⟩, .string ⟨#[97]⟩, .string ⟨#[105, 107]⟩] : List Value).toArray 9))
  have hc := lit_cells w ([.string ⟨#[]⟩, .string ⟨#[97]⟩, .string ⟨#[107]⟩, .string ⟨#[105]⟩, .string ⟨#[105]⟩, .string ⟨#[97, 109]⟩, .string ⟨#[97, 109]⟩, .string ⟨#[97, 105, 113]⟩, .string ⟨#[97, 105, 113]⟩, .string ⟨#[98]⟩, .string ⟨#[97, 105, 115, 112, 113]⟩, .string ⟨#[97, 111]⟩, .string ⟨#[97, 105, 113, 109, 109, 116]⟩, .string ⟨#[97, 99, 109]⟩, .string ⟨#[97, 105, 113, 109, 116]⟩, .string ⟨#[97, 99, 109]⟩, .string ⟨#[116]⟩, .string ⟨#[97, 97, 109]⟩, .string ⟨#[97]⟩, .string ⟨#[105, 107]⟩]) 9 16
  obtain ⟨X, hX⟩ : ∃ X, w.alloc (.cells ([.string ⟨#[]⟩, .string ⟨#[97]⟩, .string ⟨#[107]⟩, .string ⟨#[105]⟩, .string ⟨#[105]⟩, .string ⟨#[97, 109]⟩, .string ⟨#[97, 109]⟩, .string ⟨#[97, 105, 113]⟩, .string ⟨#[97, 105, 113]⟩, .string ⟨#[98]⟩, .string ⟨#[97, 105, 115, 112, 113]⟩, .string ⟨#[97, 111]⟩, .string ⟨#[97, 105, 113, 109, 109, 116]⟩, .string ⟨#[97, 99, 109]⟩, .string ⟨#[97, 105, 113, 109, 116]⟩, .string ⟨#[97, 99, 109]⟩, .string ⟨#[116]⟩, .string ⟨#[97, 97, 109]⟩, .string ⟨#[97]⟩, .string ⟨#[105, 107]⟩] : List Value).toArray 9) = X := ⟨_, rfl⟩
  rw [hX] at HB hc
  have c0 : X.cell? ⟨w.heap.size, 16, none⟩ = some (.string ⟨#[116]⟩) := hc
  clear hc
  go_enter Tryd.func31, Tryd.ntmps31
  go_wp2
  go_ret3
  exact ⟨ret_sbb (by rw [HR.out]) (by kernel_rfl) (by kernel_rfl), HB.out⟩
set_option maxRecDepth 100000 in
theorem rCmd_18 (w : World) : Calls Tryd.prog 31 #[.int .u8 18] w (CmdRes 18 w) := by
  have HR := Lib.hid (show asks 18 = ⟨#[97, 97, 109]⟩ from by kernel_rfl)
  have HB := Lib.hid ((Below.refl w.heap.size w).alloc (Nat.le_refl _) (.cells ([.string ⟨#[]⟩, .string ⟨#[97]⟩, .string ⟨#[107]⟩, .string ⟨#[105]⟩, .string ⟨#[105]⟩, .string ⟨#[97, 109]⟩, .string ⟨#[97, 109]⟩, .string ⟨#[97, 105, 113]⟩, .string ⟨#[97, 105, 113]⟩, .string ⟨#[98]⟩, .string ⟨#[97, 105, 115, 112, 113]⟩, .string ⟨#[97, 111]⟩, .string ⟨#[97, 105, 113, 109, 109, 116]⟩, .string ⟨#[97, 99, 109]⟩, .string ⟨#[97, 105, 113, 109, 116]⟩, .string ⟨#[97, 99, 109]⟩, .string ⟨#[116]⟩, .string ⟨#[97, 97, 109]⟩, .string ⟨#[97]⟩, .string ⟨#[105, 107]⟩] : List Value).toArray 9))
  have hc := lit_cells w ([.string ⟨#[]⟩, .string ⟨#[97]⟩, .string ⟨#[107]⟩, .string ⟨#[105]⟩, .string ⟨#[105]⟩, .string ⟨#[97, 109]⟩, .string ⟨#[97, 109]⟩, .string ⟨#[97, 105, 113]⟩, .string ⟨#[97, 105, 113]⟩, .string ⟨#[98]⟩, .string ⟨#[97, 105, 115, 112, 113]⟩, .string ⟨#[97, 111]⟩, .string ⟨#[97, 105, 113, 109, 109, 116]⟩, .string ⟨#[97, 99, 109]⟩, .string ⟨#[97, 105, 113, 109, 116]⟩, .string ⟨#[97, 99, 109]⟩, .string ⟨#[116]⟩, .string ⟨#[97, 97, 109]⟩, .string ⟨#[97]⟩, .string ⟨#[105, 107]⟩]) 9 17
  obtain ⟨X, hX⟩ : ∃ X, w.alloc (.cells ([.string ⟨#[]⟩, .string ⟨#[97]⟩, .string ⟨#[107]⟩, .string ⟨#[105]⟩, .string ⟨#[105]⟩, .string ⟨#[97, 109]⟩, .string ⟨#[97, 109]⟩, .string ⟨#[97, 105, 113]⟩, .string ⟨#[97, 105, 113]⟩, .string ⟨#[98]⟩, .string ⟨#[97, 105, 115, 112, 113]⟩, .string ⟨#[97, 111]⟩, .string ⟨#[97, 105, 113, 109, 109, 116]⟩, .string ⟨#[97, 99, 109]⟩, .string ⟨#[97, 105, 113, 109, 116]⟩, .string ⟨#[97, 99, 109]⟩, .string ⟨#[116]⟩, .string ⟨#[97, 97, 109]⟩, .string ⟨#[97]⟩, .string ⟨#[105, 107]⟩] : List Value).toArray 9) = X := ⟨_, rfl⟩
  rw [hX] at HB hc
  have c0 : X.cell? ⟨w.heap.size, 17, none⟩ = some (.string ⟨#[97, 97, 109]⟩) := hc
  clear hc
  go_enter Tryd.func31, Tryd.ntmps31
  go_wp2
  go_ret3
  exact ⟨ret_sbb (by rw [HR.out]) (by kernel_rfl) (by kernel_rfl), HB.out⟩
set_option maxRecDepth 100000 in
theorem rCmd_19 (w : World) : Calls Tryd.prog 31 #[.int .u8 19] w (CmdRes 19 w) := by
  have HR := Lib.hid (show asks 19 = ⟨#[97]⟩ from by kernel_rfl)
  have HB := Lib.hid ((Below.refl w.heap.size w).alloc (Nat.le_refl _) (.cells ([.string ⟨#[]⟩, .string ⟨#[97]⟩, .string ⟨#[107]⟩, .string ⟨#[105]⟩, .string ⟨#[105]⟩, .string ⟨#[97, 109]⟩, .string ⟨#[97, 109]⟩, .string ⟨#[97, 105, 113]⟩, .string ⟨#[97, 105, 113]⟩, .string ⟨#[98]⟩, .string ⟨#[97, 105, 115, 112, 113]⟩, .string ⟨#[97, 111]⟩, .string ⟨#[97, 105, 113, 109, 109, 116]⟩, .string ⟨#[97, 99, 109]⟩, .string ⟨#[97, 105, 113, 109, 116]⟩, .string ⟨#[97, 99, 109]⟩, .string ⟨#[116]⟩, .string ⟨#[97, 97, 109]⟩, .string ⟨#[97]⟩, .string ⟨#[105, 107]⟩] : List Value).toArray 9))
  have hc := lit_cells w ([.string ⟨#[]⟩, .string ⟨#[97]⟩, .string ⟨#[107]⟩, .string ⟨#[105]⟩, .string ⟨#[105]⟩, .string ⟨#[97, 109]⟩, .string ⟨#[97, 109]⟩, .string ⟨#[97, 105, 113]⟩, .string ⟨#[97, 105, 113]⟩, .string ⟨#[98]⟩, .string ⟨#[97, 105, 115, 112, 113]⟩, .string ⟨#[97, 111]⟩, .string ⟨#[97, 105, 113, 109, 109, 116]⟩, .string ⟨#[97, 99, 109]⟩, .string ⟨#[97, 105, 113, 109, 116]⟩, .string ⟨#[97, 99, 109]⟩, .string ⟨#[116]⟩, .string ⟨#[97, 97, 109]⟩, .string ⟨#[97]⟩, .string ⟨#[105, 107]⟩]) 9 18
  obtain ⟨X, hX⟩ : ∃ X, w.alloc (.cells ([.string ⟨#[]⟩, .string ⟨#[97]⟩, .string ⟨#[107]⟩, .string ⟨#[105]⟩, .string ⟨#[105]⟩, .string ⟨#[97, 109]⟩, .string ⟨#[97, 109]⟩, .string ⟨#[97, 105, 113]⟩, .string ⟨#[97, 105, 113]⟩, .string ⟨#[98]⟩, .string ⟨#[97, 105, 115, 112, 113]⟩, .string ⟨#[97, 111]⟩, .string ⟨#[97, 105, 113, 109, 109, 116]⟩, .string ⟨#[97, 99, 109]⟩, .string ⟨#[97, 105, 113, 109, 116]⟩, .string ⟨#[97, 99, 109]⟩, .string ⟨#[116]⟩, .string ⟨#[97, 97, 109]⟩, .string ⟨#[97]⟩, .string ⟨#[105, 107]⟩] : List Value).toArray 9) = X := ⟨_, rfl⟩
  rw [hX] at HB hc
  have c0 : X.cell? ⟨w.heap.size, 18, none⟩ = some (.string ⟨#[97]⟩) := hc
  clear hc
  go_enter Tryd.func31, Tryd.ntmps31
  go_wp2
  go_ret3
  exact ⟨ret_sbb (by rw [HR.out]) (by kernel_rfl) (by kernel_rfl), HB.out⟩
set_option maxRecDepth 100000 in
theorem rCmd_20 (w : World) : Calls Tryd.prog 31 #[.int .u8 20] w (CmdRes 20 w) := by
  have HR := Lib.hid (show asks 20 = ⟨#[105, 107]⟩ from by kernel_rfl)
  have HB := Lib.hid ((Below.refl w.heap.size w).alloc (Nat.le_refl _) (.cells ([.string ⟨#[]⟩, .string ⟨#[97]⟩, .string ⟨#[107]⟩, .string ⟨#[105]⟩, .string ⟨#[105]⟩, .string ⟨#[97, 109]⟩, .string ⟨#[97, 109]⟩, .string ⟨#[97, 105, 113]⟩, .string ⟨#[97, 105, 113]⟩, .string ⟨#[98]⟩, .string ⟨#[97, 105, 115, 112, 113]⟩, .string ⟨#[97, 111]⟩, .string ⟨#[97, 105, 113, 109, 109, 116]⟩, .string ⟨#[97, 99, 109]⟩, .string ⟨#[97, 105, 113, 109, 116]⟩, .string ⟨#[97, 99, 109]⟩, .string ⟨#[116]⟩, .string ⟨#[97, 97, 109]⟩, .string ⟨#[97]⟩, .string ⟨#[105, 107]⟩] : List Value).toArray 9))
  have hc := lit_cells w ([.string ⟨#[]⟩, .string ⟨#[97]⟩, .string ⟨#[107]⟩, .string ⟨#[105]⟩, .string ⟨#[105]⟩, .string ⟨#[97, 109]⟩, .string ⟨#[97, 109]⟩, .string ⟨#[97, 105, 113]⟩, .string ⟨#[97, 105, 113]⟩, .string ⟨#[98]⟩, .string ⟨#[97, 105, 115, 112, 113]⟩, .string ⟨#[97, 111]⟩, .string ⟨#[97, 105, 113, 109, 109, 116]⟩, .string ⟨#[97, 99, 109]⟩, .string ⟨#[97, 105, 113, 109, 116]⟩, .string ⟨#[97, 99, 109]⟩, .string ⟨#[116]⟩, .string ⟨#[97, 97, 109]⟩, .string ⟨#[97]⟩, .string ⟨#[105, 107]⟩]) 9 19
  obtain ⟨X, hX⟩ : ∃ X, w.alloc (.cells ([.string ⟨#[]⟩, .string ⟨#[97]⟩, .string ⟨#[107]⟩, .string ⟨#[105]⟩, .string ⟨#[105]⟩, .string ⟨#[97, 109]⟩, .string ⟨#[97, 109]⟩, .string ⟨#[97, 105, 113]⟩, .string ⟨#[97, 105, 113]⟩, .string ⟨#[98]⟩, .string ⟨#[97, 105, 115, 112, 113]⟩, .string ⟨#[97, 111]⟩, .string ⟨#[97, 105, 113, 109, 109, 116]⟩, .string ⟨#[97, 99, 109]⟩, .string ⟨#[97, 105, 113, 109, 116]⟩, .string ⟨#[97, 99, 109]⟩, .string ⟨#[116]⟩, .string ⟨#[97, 97, 109]⟩, .string ⟨#[97]⟩, .string ⟨#[105, 107]⟩] : List Value).toArray 9) = X := ⟨_, rfl⟩
  rw [hX] at HB hc
  have c0 : X.cell? ⟨w.heap.size, 19, none⟩ = some (.string ⟨#[105, 107]⟩) := hc
  clear hc
  go_enter Tryd.func31, Tryd.ntmps31
  go_wp2
  go_ret3
  exact ⟨ret_sbb (by rw [HR.out]) (by kernel_rfl) (by kernel_rfl), HB.out⟩

set_option maxRecDepth 100000 in
theorem rCommand_any (k : Nat) (hk : k < 256) (w : World) : Calls Tryd.prog 31 #[.int .u8 k] w (CmdRes k w) := by
  by_cases h : k < 21
  · obtain rfl | rfl | rfl | rfl | rfl | rfl | rfl | rfl | rfl | rfl | rfl | rfl | rfl | rfl | rfl | rfl | rfl | rfl | rfl | rfl | rfl : k = 0 ∨ k = 1 ∨ k = 2 ∨ k = 3 ∨ k = 4 ∨ k = 5 ∨ k = 6 ∨ k = 7 ∨ k = 8 ∨ k = 9 ∨ k = 10 ∨ k = 11 ∨ k = 12 ∨ k = 13 ∨ k = 14 ∨ k = 15 ∨ k = 16 ∨ k = 17 ∨ k = 18 ∨ k = 19 ∨ k = 20 := by omega
    · exact rCmd_0 w
    · exact rCmd_1 w
    · exact rCmd_2 w
    · exact rCmd_3 w
    · exact rCmd_4 w
    · exact rCmd_5 w
    · exact rCmd_6 w
    · exact rCmd_7 w
    · exact rCmd_8 w
    · exact rCmd_9 w
    · exact rCmd_10 w
    · exact rCmd_11 w
    · exact rCmd_12 w
    · exact rCmd_13 w
    · exact rCmd_14 w
    · exact rCmd_15 w
    · exact rCmd_16 w
    · exact rCmd_17 w
    · exact rCmd_18 w
    · exact rCmd_19 w
    · exact rCmd_20 w
  · have HR := Lib.hid (asks_out k h)
    have HI := Lib.hid (isC_out k h)
    have HB := Lib.hid ((Below.refl w.heap.size w).alloc (Nat.le_refl _) (.cells ([.string ⟨#[]⟩, .string ⟨#[97]⟩, .string ⟨#[107]⟩, .string ⟨#[105]⟩, .string ⟨#[105]⟩, .string ⟨#[97, 109]⟩, .string ⟨#[97, 109]⟩, .string ⟨#[97, 105, 113]⟩, .string ⟨#[97, 105, 113]⟩, .string ⟨#[98]⟩, .string ⟨#[97, 105, 115, 112, 113]⟩, .string ⟨#[97, 111]⟩, .string ⟨#[97, 105, 113, 109, 109, 116]⟩, .string ⟨#[97, 99, 109]⟩, .string ⟨#[97, 105, 113, 109, 116]⟩, .string ⟨#[97, 99, 109]⟩, .string ⟨#[116]⟩, .string ⟨#[97, 97, 109]⟩, .string ⟨#[97]⟩, .string ⟨#[105, 107]⟩] : List Value).toArray 9))
    obtain ⟨X, hX⟩ : ∃ X, w.alloc (.cells ([.string ⟨#[]⟩, .string ⟨#[97]⟩, .string ⟨#[107]⟩, .string ⟨#[105]⟩, .string ⟨#[105]⟩, .string ⟨#[97, 109]⟩, .string ⟨#[97, 109]⟩, .string ⟨#[97, 105, 113]⟩, .string ⟨#[97, 105, 113]⟩, .string ⟨#[98]⟩, .string ⟨#[97, 105, 115, 112, 113]⟩, .string ⟨#[97, 111]⟩, .string ⟨#[97, 105, 113, 109, 109, 116]⟩, .string ⟨#[97, 99, 109]⟩, .string ⟨#[97, 105, 113, 109, 116]⟩, .string ⟨#[97, 99, 109]⟩, .string ⟨#[116]⟩, .string ⟨#[97, 97, 109]⟩, .string ⟨#[97]⟩, .string ⟨#[105, 107]⟩] : List Value).toArray 9) = X := ⟨_, rfl⟩
    rw [hX] at HB
    have h' : 20 + 1 ≤ k := by omega
    clear h
    go_enter Tryd.func31, Tryd.ntmps31
    go_wp2
    go_ret3
    exact ⟨ret_sbb (by rw [HR.out]) (by rw [HI.out]; rfl) (by rw [HI.out]), HB.out⟩

set_option maxRecDepth 100000 in
set_option maxHeartbeats 1000000 in
theorem rMayC_any (A : Option Addr) (ca : Nat) (c : Cm) (w : World) (hA : CmAt w A ca c) :
    Calls Tryd.prog 35 #[cmV A ca c] w fun z w' => z = .returned (.bool (mayC c)) ∧ Below w.heap.size w w' := by
  have HM := Lib.hid (show mayC c = (isC c.k && fitB 3 (asks c.k) c.ns && mayCT c.k c.t) from rfl)
  have HG := Lib.hid (fun W (hW : VAt W A (nums c.ns)) => rAll_any 3 (asks c.k) (good_asks c.k) A ca c.ns hA.fit W hW)
  have hk := hA.k
  have HNs := Lib.hid hA.ns
  have HF := Lib.hid (fun W => show Calls Tryd.prog 31 #[.int .u8 c.k] W (fun z w' => z = .returned (.tuple #[.string (asks c.k), .bool (isC c.k && (cmAt c.k).text), .bool (isC c.k)]) ∧ Below W.heap.size W w') from rCommand_any c.k hk W)
  have HTT := Lib.hid (show mayCT c.k c.t = if (cmAt c.k).text then mayName c.t else decide (c.t.size = 0) from rfl)
  have HNm := Lib.hid (fun W => rMayName_any c.t hA.txt W)
  obtain ⟨k, ns, t⟩ := c
  simp only [cmV] at *
  have HA0 := Lib.hid ((Below.refl w.heap.size w).alloc (Nat.le_refl _) (.cells #[.int .u8 k, .slice A ns.length ca, .string t] 51))
  have HB3 := Lib.hid (show Three _ w.heap.size _ _ _ from box3 w (.int .u8 k) (.slice A ns.length ca) (.string t) 51)
  clear hA
  generalize asks k = s at HM HG HF
  generalize isC k = ta at HM HF
  generalize (cmAt k).text = tr at HF HTT
  generalize fitB 3 s ns = fb at HM HG
  go_enter Tryd.func35, Tryd.ntmps35
  go_upto_region 1 with (fail)
  generalize w.alloc (.cells #[.int .u8 k, .slice A ns.length ca, .string t] 51) = W at HA0 HB3 ⊢
  obtain ⟨p0, p1, p2⟩ := HB3.out
  go_wp2_with fail
  clear p0 p1 p2
  refine (HF.out _).mono ?_
  rintro z W2 ⟨rfl, hb⟩
  have HB := Lib.hid (below_step HA0.out hb)
  have HP := Lib.hid (HB3.out.below hb)
  clear hb HB3 HA0
  obtain ⟨p0, p1, p2⟩ := HP.out
  cases ta with
  | false =>
    have HR : Hid (mayC ⟨k, ns, t⟩ = false) := by rw [HM.out]; rfl
    go_wp2_with fail
    go_ret
    exact ⟨ret_bool HR.out.symm, HB.out⟩
  | true =>
    have HM2 : Hid (mayC ⟨k, ns, t⟩ = (fb && mayCT k t)) := by rw [HM.out]; rfl
    simp only [Bool.true_and]
    clear HM
    cases fb with
    | false =>
      have HR : Hid (mayC ⟨k, ns, t⟩ = false) := by rw [HM2.out]; rfl
      go_wp2_with (go_at_call 43; refine (HG.out _ (HNs.out.below HB.out)).mono ?_; rintro z w' ⟨rfl, rfl⟩)
      go_ret
      exact ⟨ret_bool HR.out.symm, HB.out⟩
    | true =>
      have HM3 : Hid (mayC ⟨k, ns, t⟩ = mayCT k t) := by rw [HM2.out]; rfl
      clear HM2
      cases tr with
      | false =>
        have HR : Hid (mayC ⟨k, ns, t⟩ = decide (t.size = 0)) := by rw [HM3.out, HTT.out]; rfl
        go_wp2_with (go_at_call 43; refine (HG.out _ (HNs.out.below HB.out)).mono ?_; rintro z w' ⟨rfl, rfl⟩)
        go_ret
        exact ⟨ret_bool (by rw [HR.out]; exact str_zero t), HB.out⟩
      | true =>
        have HR : Hid (mayC ⟨k, ns, t⟩ = mayName t) := by rw [HM3.out, HTT.out]; rfl
        go_wp2_with (first
          | (go_at_call 43; refine (HG.out _ (HNs.out.below HB.out)).mono ?_; rintro z w' ⟨rfl, rfl⟩)
          | (go_at_call 28; refine (HNm.out _).mono ?_; rintro z w4 ⟨rfl, rfl⟩))
        go_ret
        exact ⟨ret_bool HR.out.symm, HB.out⟩

theorem word_some {k : Nat} (h : isC k = true) : ¬ (cmAt k).word = ⟨#[]⟩ := by
  have h1 := isC_iff.1 h
  have : (List.range 21).all (fun k => k == 0 || decide (0 < (cmAt k).word.size)) = true := by decide +kernel
  have h2 := List.all_eq_true.1 this k (List.mem_range.2 h1.2)
  intro e
  rw [e] at h2
  simp at h2
  rcases h2 with h2 | h2
  · omega
  · exact absurd h2 (by decide)
theorem word_none {k : Nat} (h : isC k = false) : (cmAt k).word = ⟨#[]⟩ := by
  by_cases h1 : k < 21
  · have : k = 0 := by
      rcases Nat.eq_zero_or_pos k with h0 | h0
      · exact h0
      · rw [isC_iff.2 ⟨h0, h1⟩] at h; cases h
    subst this; rfl
  · rw [cmAt_out k h1]; rfl
theorem empty_of {s : ByteArray} (h : s.toList = []) : s = ⟨#[]⟩ := by
  rw [ByteArray.toList_eq] at h
  cases s with
  | mk d => cases d with
    | mk l => simp at h; subst h; rfl
theorem hitC_empty {s : ByteArray} (h : s.toList = []) (k : Nat) : hitC s k = false := by
  unfold hitC
  cases hc : isC k with
  | false => rfl
  | true => rw [decide_eq_false (show ¬ (cmAt k).word = s from fun e => word_some hc (e.trans (empty_of h)))]; rfl
theorem hitC_yes {s : ByteArray} {k : Nat} (h : ¬ s.toList = []) (e : (cmAt k).word = s) : hitC s k = true := by
  unfold hitC
  cases hc : isC k with
  | false => exact absurd (by rw [← e, word_none hc]; decide +kernel) h
  | true => rw [decide_eq_true e]; rfl
theorem hitC_no {s : ByteArray} {k : Nat} (e : ¬ (cmAt k).word = s) : hitC s k = false := by
  unfold hitC; rw [decide_eq_false e]; simp
theorem hitC_lt {s : ByteArray} {k : Nat} (h : hitC s k = true) : k < 21 := by
  unfold hitC at h
  rw [Bool.and_eq_true] at h
  exact (isC_iff.1 h.1).2

set_option maxRecDepth 100000 in
set_option maxHeartbeats 1000000 in
theorem rPlace_any (s : ByteArray) (w : World) :
    Calls Tryd.prog 19 #[.string s, .bool true] w fun e w' => e = .returned (.int .u8 (comOf s)) ∧ Below w.heap.size w w' := by
  go_enter Tryd.func19, Tryd.ntmps19
  go_wp2
  go_loopw [5] (fun i wr => ∃ k : Nat, 1 ≤ k ∧ k ≤ 24 ∧ i = .int .u8 k ∧ Hid (∀ j, j < k → hitC s j = false) ∧ Hid (Below w.heap.size w wr)) (fun i _ => 24 - (intOf i).toNat)
  case atStart => exact ⟨1, by omega, by omega, rfl, fun j hj => by obtain rfl : j = 0 := by omega
                                                                    rfl, Lib.hid (Below.refl _ _)⟩
  case round =>
    obtain ⟨k, hk1, hk, rfl, HN, HB⟩ := hrel
    by_cases hlt : k < 24
    · have HNm := Lib.hid (rName_any k (by omega))
      have HWd := Lib.hid (rWord_any k (by omega))
      have z1 : (k : Int) ≤ 23 := by omega
      by_cases he : s.toList = []
      · have he' : s.toList.isEmpty = true := by rw [he]; rfl
        have HO := Lib.hid (hitC_empty he k)
        clear he
        generalize (evAt k).name = nm at HNm
        generalize (cmAt k).word = t at HWd
        by_cases hq : (t.toList == s.toList) = true
        · go_wp2_with (first
            | (go_at_call 22; refine (HNm.out _).mono ?_; rintro e w1 ⟨rfl, hb⟩; replace HB := Lib.hid (below_step HB.out hb); clear hb)
            | (go_at_call 37; refine (HWd.out _).mono ?_; rintro e w2 ⟨rfl, hb⟩; replace HB := Lib.hid (below_step HB.out hb); clear hb))
          go_roundw
          case rel => exact ⟨k + 1, by omega, by omega, by go_num, no_step HN HO.out, HB⟩
          case measure => simp [intOf] <;> omega
        · have hq' : (t.toList == s.toList) = false := by simpa using hq
          clear hq
          go_wp2_with (first
            | (go_at_call 22; refine (HNm.out _).mono ?_; rintro e w1 ⟨rfl, hb⟩; replace HB := Lib.hid (below_step HB.out hb); clear hb)
            | (go_at_call 37; refine (HWd.out _).mono ?_; rintro e w2 ⟨rfl, hb⟩; replace HB := Lib.hid (below_step HB.out hb); clear hb))
          go_roundw
          case rel => exact ⟨k + 1, by omega, by omega, by go_num, no_step HN HO.out, HB⟩
          case measure => simp [intOf] <;> omega
      · have he' : s.toList.isEmpty = false := by simpa using he
        by_cases hq : (cmAt k).word = s
        · have h1 := hitC_yes he hq
          have HO := Lib.hid (show comOf s = k from firstAt_hit (hitC_lt h1) h1 HN)
          have hq' : ((cmAt k).word.toList == s.toList) = true := by rw [str_eq]; exact decide_eq_true hq
          clear h1 hq
          generalize (evAt k).name = nm at HNm
          generalize (cmAt k).word = t at HWd hq'
          go_wp2_with (first
            | (go_at_call 22; refine (HNm.out _).mono ?_; rintro e w1 ⟨rfl, hb⟩; replace HB := Lib.hid (below_step HB.out hb); clear hb)
            | (go_at_call 37; refine (HWd.out _).mono ?_; rintro e w2 ⟨rfl, hb⟩; replace HB := Lib.hid (below_step HB.out hb); clear hb))
          go_ret
          exact ⟨by rw [HO.out]; rfl, HB.out⟩
        · have HO := Lib.hid (hitC_no hq)
          have hq' : ((cmAt k).word.toList == s.toList) = false := by rw [str_eq]; exact decide_eq_false hq
          clear hq
          generalize (evAt k).name = nm at HNm
          generalize (cmAt k).word = t at HWd hq'
          go_wp2_with (first
            | (go_at_call 22; refine (HNm.out _).mono ?_; rintro e w1 ⟨rfl, hb⟩; replace HB := Lib.hid (below_step HB.out hb); clear hb)
            | (go_at_call 37; refine (HWd.out _).mono ?_; rintro e w2 ⟨rfl, hb⟩; replace HB := Lib.hid (below_step HB.out hb); clear hb))
          go_roundw
          case rel => exact ⟨k + 1, by omega, by omega, by go_num, no_step HN HO.out, HB⟩
          case measure => simp [intOf] <;> omega
    · obtain rfl : k = 24 := by omega
      have HO := Lib.hid (show comOf s = 0 from firstAt_none (fun j hj => HN.out j (by omega)))
      go_wp2
      go_ret
      exact ⟨by rw [HO.out]; rfl, HB.out⟩

/-- classes, of which the first ones are written over -/
def quest (s : ByteArray) (k : Nat) : List Value := List.replicate k (.int .u8 63) ++ (clsV s).drop k
theorem quest_len (s : ByteArray) (k : Nat) (h : k ≤ s.size) : (quest s k).length = s.size := by unfold quest; simp [clsV_len]; omega
theorem quest_zero (s : ByteArray) : quest s 0 = clsV s := by unfold quest; simp
theorem quest_at (s : ByteArray) (k : Nat) (h : k < s.size) : (quest s k)[k]? = some (.int .u8 (byteAt s k : Int)) := by
  unfold quest
  rw [List.getElem?_append_right (by simp), List.length_replicate, Nat.sub_self, List.getElem?_drop, Nat.add_zero]
  exact clsV_at s k h
theorem quest_set (s : ByteArray) (k : Nat) (h : k < s.size) : (quest s k).set k (.int .u8 63) = quest s (k + 1) := by
  unfold quest
  rw [List.set_append_right _ _ (by simp), List.length_replicate, Nat.sub_self]
  rw [List.drop_eq_getElem_cons (by rw [clsV_len]; exact h), List.set_cons_zero, List.replicate_succ', List.append_assoc]; rfl

set_option maxRecDepth 100000 in
set_option maxHeartbeats 1000000 in
theorem lawClasses (s : ByteArray) (hs : s.size ≤ 100) (base : Nat) (A : Option Addr) (cap : Nat) (w : World) (hO : Own w base 34 (.slice A s.size cap) (clsV s)) (hB : base ≤ w.heap.size) :
    Calls Tryd.prog 15 #[.slice A s.size cap, .string s] w fun e w' => e = .returned (.bool true) ∧ Below base w w' := by
  have e1 : ((s.size : Int) != (s.size : Int)) = false := by simp
  have e2 : (s.size != s.size) = false := by simp
  by_cases h0 : s.size = 0
  · have z1 : ¬ (0 : Int) < (s.size : Int) := by omega
    have z2 : decide ((0 : Int) < (s.size : Int)) = false := decide_eq_false z1
    have z3 : ¬ 0 < s.size := by omega
    have HO := Lib.hid hO
    clear hO
    go_enter Tryd.func15, Tryd.ntmps15
    go_upto_region 3 with (fail)
    go_wp2
    go_loopw [5] (fun i wr => i = .int .i64 0 ∧ wr = w) (fun i _ => 0)
    case atStart => exact ⟨rfl, rfl⟩
    case round =>
      obtain ⟨rfl, rfl⟩ := hrel
      go_wp2
      go_ret
      exact ⟨rfl, Below.refl _ _⟩
  · obtain ⟨g, cap', hv, hg1, hg2, _, _⟩ := hO.cells (by rw [clsV_len]; omega)
    injection hv with i1 i2 i3
    subst i1 i3
    clear i2
    have HO := Lib.hid hO
    clear hO
    go_enter Tryd.func15, Tryd.ntmps15
    go_upto_region 3 with (fail)
    clear e1 e2
    go_wp2
    go_loopw [5] (fun i wr => ∃ k : Nat, k ≤ s.size ∧ i = .int .i64 k ∧ Hid (Own wr base 34 (.slice (some ⟨g, 0, none⟩) s.size cap) (quest s k)) ∧ Hid (Below base w wr)) (fun i _ => s.size - (intOf i).toNat)
    case atStart => exact ⟨0, Nat.zero_le _, rfl, Lib.hid (by rw [quest_zero]; exact HO.out), Lib.hid (Below.refl _ _)⟩
    case round =>
      obtain ⟨k, hk, rfl, HOk, HBk⟩ := hrel
      by_cases hlt : k < s.size
      · have z0 : (0 : Int) ≤ (k : Int) := by omega
        have z1 : (k : Int) < (s.size : Int) := by omega
        obtain ⟨g', cap2, hv, _, _, _, hcs⟩ := HOk.out.cells (by rw [quest_len s k hk]; omega)
        injection hv with i1 i2 i3
        injection i1 with i1
        injection i1 with i1
        subst i1
        clear i2 i3
        have c0 := hcs k _ (quest_at s k hlt)
        have hown' : Own wr base 34 (.slice (some ⟨g, 0, none⟩) (quest s k).length cap) (quest s k) := by rw [quest_len s k hk]; exact HOk.out
        have hfz := World.ownsRow.frozenAt hown' k
        have HBE := Lib.hid (byteAt_eq s k hlt)
        have hst := (World.ownsRow.stored hown' k (.int .u8 63)).1
        rw [quest_set s k hlt] at hst
        have HST := Lib.hid hst
        have HBE2 := Lib.hid (byteAt_eq s k hlt)
        rw [← HBE2.out] at c0
        clear hst hown' hcs
        go_wp2_with fail
        go_quiet (fail)
        go_wp2_with fail
        go_roundw
        case rel =>
          refine ⟨k + 1, by omega, by go_num, Lib.hid ?_, Lib.hid ((HBk.out.trans (below_dn _ _ _)).setCell (p := ⟨g, k, none⟩) hg1 _)⟩
          have h := HST.out
          rw [quest_len s k hk] at h
          unfold Own
          rw [quest_len s (k + 1) hlt]
          exact h
        case measure => simp [intOf] <;> omega
      · have z1 : ¬ (k : Int) < (s.size : Int) := by omega
        go_wp2
        go_ret
        exact ⟨rfl, HBk.out⟩

end Go.Proofs.YtfklkainbkffnaaDoor.Schema
