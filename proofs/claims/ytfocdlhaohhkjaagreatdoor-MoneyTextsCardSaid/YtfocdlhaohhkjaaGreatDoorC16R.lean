/-
  The walk of the document's Text.
-/
import Derived.Test.YtfocdlhaohhkjaaGreatDoorC16
import Derived.Test.YtfocdlhaohhkjaaGreatDoorC13
import Derived.Test.YtfocdlhaohhkjaaGreatDoorC9R
namespace Go.Proofs.YtfocdlhaohhkjaaGreatDoor.Money
open Go.RowKit

theorem text_any (n : Int) (hn : I64 n) (w : World) :
    Calls Tryz.prog 25 #[.int .i64 n] w fun e w' => e = .returned (.string (S (showI n))) ∧ Below w.heap.size w w' := by
  unfold I64 at hn
  by_cases h : n < 0
  · have C := Lib.hid (rshow_neg n h hn.1 w)
    have d1 : decide (n < 0) = true := decide_eq_true h
    have HM : Hid (showI n = 45 :: showN n.natAbs) := by unfold showI; rw [if_pos h]; rfl
    have hs : (S (showN n.natAbs)).size ≤ 30 := by
      rw [S_size]; unfold showN; rw [List.length_append]; have := dec_len (n.natAbs / 100) (by omega); show _ + 3 ≤ _; omega
    clear h hn
    generalize hT : S (showN n.natAbs) = T at *
    have HT := Lib.hid hT; clear hT
    go_enter Tryz.func25, Tryz.ntmps25
    go_wp2_with (go_at_call 37; refine C.out.mono ?_; rintro e w' ⟨rfl, hb⟩)
    go_ret
    exact ⟨ret_bytes (by rw [← HT.out, show (⟨#[45]⟩ : ByteArray) = S [45] from rfl, S_append, HM.out]; rfl), hb⟩
  · have C := Lib.hid (rshow_pos n (by omega) hn.2 w)
    have d1 : decide (n < 0) = false := decide_eq_false h
    have HM : Hid (showI n = showN n.natAbs) := by unfold showI; rw [if_neg h]; rfl
    clear h hn
    go_enter Tryz.func25, Tryz.ntmps25
    go_wp2_with (go_at_call 37; refine C.out.mono ?_; rintro e w' ⟨rfl, hb⟩)
    go_ret
    exact ⟨ret_bytes (by rw [HM.out]), hb⟩

end Go.Proofs.YtfocdlhaohhkjaaGreatDoor.Money
