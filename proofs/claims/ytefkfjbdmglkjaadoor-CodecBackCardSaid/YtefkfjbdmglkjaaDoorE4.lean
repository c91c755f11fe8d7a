/-
  The walks of fields, Name, isCommand, Word.
-/
import Derived.Test.YtefkfjbdmglkjaaDoorE3
import Derived.WalkKit
import Derived.Lib.Hide
import Derived.WalkSpells
import Derived.WalkLawsBesides
import Derived.BigQuiet
import Derived.Deep.QuietTactic
namespace Go.Proofs.YtefkfjbdmglkjaaDoor.Schema
open Go Go.RowKit

theorem ret_str {a b : ByteArray} (h : a = b) : Ending.returned (.string a) = .returned (.string b) := by rw [h]
theorem evAt_out (k : Nat) (hk : ¬ k < 24) : evAt k = evR [] [] [] [] false := by
  unfold evAt
  rw [List.getD_eq_getElem?_getD, List.getElem?_eq_none (by rw [evL_len]; omega)]; rfl
theorem cmAt_out (k : Nat) (hk : ¬ k < 21) : cmAt k = cmR [] [] false := by
  unfold cmAt
  rw [List.getD_eq_getElem?_getD, List.getElem?_eq_none (by rw [cmL_len]; omega)]; rfl
theorem lets_out (v k : Nat) (h : v < 1 ∨ 3 < v ∨ ¬ k < 24) : lets v k = ⟨#[]⟩ := by
  unfold lets
  split
  · rw [evAt_out k (by omega)]; rfl
  · split
    · rw [evAt_out k (by omega)]; rfl
    · split
      · rw [evAt_out k (by omega)]; rfl
      · rfl
theorem Env.f {w : World} (h : Env w) (k : Nat) (hk : k < 24) : w.cell? ⟨0, k * 5, none⟩ = some (.string (evAt k).name) ∧ w.cell? ⟨0, k * 5 + 1, none⟩ = some (.string (evAt k).f1) ∧ w.cell? ⟨0, k * 5 + 2, none⟩ = some (.string (evAt k).f2) ∧ w.cell? ⟨0, k * 5 + 3, none⟩ = some (.string (evAt k).f3) ∧ w.cell? ⟨0, k * 5 + 4, none⟩ = some (.bool (evAt k).text) := by
  have g := fun j hj => h.ev k j hj
  simp only [ev_row k hk, Option.bind_some] at g
  exact ⟨g 0 (by decide), g 1 (by decide), g 2 (by decide), g 3 (by decide), g 4 (by decide)⟩
theorem fields_any (v k : Nat) (hv : v < 256) (hk : k < 256) (w : World) (E : Env w) :
    Calls Tryd.prog 60 #[.int .u8 v, .int .u8 k] w fun e w' => e = .returned (.string (lets v k)) ∧ w = w' := by
  by_cases h : v < 1 ∨ 3 < v ∨ ¬ k < 24
  · rw [lets_out v k h]
    clear E
    by_cases h1 : v < 1
    · obtain rfl : v = 0 := by omega
      go_enter Tryd.func60, Tryd.ntmps60
      go_wp2
      go_ret
      exact ⟨rfl, rfl⟩
    · have h1' : 1 ≤ v := by omega
      by_cases h3 : 3 < v
      · clear h
        go_enter Tryd.func60, Tryd.ntmps60
        go_wp2
        go_ret
        exact ⟨rfl, rfl⟩
      · have h4 : 24 ≤ k := by omega
        have h3' : v ≤ 3 := by omega
        clear h h1
        go_enter Tryd.func60, Tryd.ntmps60
        go_wp2
        go_ret
        exact ⟨rfl, rfl⟩
  · have h4 : k < 24 := by omega
    obtain ⟨_, c1, c2, c3, _⟩ := E.f k h4
    obtain rfl | rfl | rfl : v = 1 ∨ v = 2 ∨ v = 3 := by omega
    · show Calls _ _ _ _ fun e w' => e = .returned (.string (evAt k).f1) ∧ w = w'
      generalize (evAt k).f1 = s at c1 ⊢
      clear c2 c3 h E
      go_enter Tryd.func60, Tryd.ntmps60
      go_wp2
      go_ret
      exact ⟨rfl, rfl⟩
    · show Calls _ _ _ _ fun e w' => e = .returned (.string (evAt k).f2) ∧ w = w'
      generalize (evAt k).f2 = s at c2 ⊢
      clear c1 c3 h E
      go_enter Tryd.func60, Tryd.ntmps60
      go_wp2
      go_ret
      exact ⟨rfl, rfl⟩
    · show Calls _ _ _ _ fun e w' => e = .returned (.string (evAt k).f3) ∧ w = w'
      generalize (evAt k).f3 = s at c3 ⊢
      clear c1 c2 h E
      go_enter Tryd.func60, Tryd.ntmps60
      go_wp2
      go_ret
      exact ⟨rfl, rfl⟩

end Go.Proofs.YtefkfjbdmglkjaaDoor.Schema
