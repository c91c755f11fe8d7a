/-
  The walk of long.
-/
import Derived.Test.YtfklkainbkffnaaDoorE17
namespace Go.Proofs.YtfklkainbkffnaaDoor.Schema
open Go Go.RowKit

/-- long: if it says no, there are few numbers, and texts -/
def LongRes (w : World) (e : Ev) (z : Ending) (w' : World) : Prop := ∃ b : Bool, z = .returned (.bool b) ∧ (b = false → e.ns.length ≤ 300 ∧ e.ts.length ≤ 300) ∧ Below w.heap.size w w'

set_option maxRecDepth 100000 in
set_option maxHeartbeats 1000000 in
theorem long_any (A : Option Addr) (ca : Nat) (B : Option Addr) (cb : Nat) (e : Ev) (hl : e.ns.length ≤ 140737488355328) (hm : e.ts.length ≤ 140737488355328) (w : World) (hA : EvAt w A ca B cb e) :
    Calls Tryd.prog 23 #[evV A ca B cb e] w (LongRes w e) := by
  have HTs := Lib.hid hA.ts
  have HTx := Lib.hid hA.txt
  clear hA
  obtain ⟨v, k, ns, ts⟩ := e
  simp only [evV] at *
  have HA0 := Lib.hid ((Below.refl w.heap.size w).alloc (Nat.le_refl _) (.cells #[.int .u8 v, .int .u8 k, .slice A ns.length ca, .slice B ts.length cb] 44))
  have HX3 := Lib.hid (box4 w (.int .u8 v) (.int .u8 k) (.slice A ns.length ca) (.slice B ts.length cb) 44).2.2.2
  go_enter Tryd.func23, Tryd.ntmps23
  go_wp2
  generalize w.alloc (.cells #[.int .u8 v, .int .u8 k, .slice A ns.length ca, .slice B ts.length cb] 44) = Y at HA0 HX3 ⊢
  have x3 := HX3.out
  go_loop [3, 4] (fun a i => ∃ n j : Nat, j ≤ ts.length ∧ i = .int .i64 j ∧ a = .int .i64 n ∧ ns.length + ts.length ≤ n ∧ n ≤ 562949953421312) (fun _ i => ts.length - (intOf i).toNat)
  case atStart => exact ⟨ns.length + ts.length, 0, Nat.zero_le _, rfl, by go_num, Nat.le_refl _, by omega⟩
  case round =>
    obtain ⟨n, j, hj, rfl, rfl, hn1, hn2⟩ := hrel
    by_cases hlt : j < ts.length
    · by_cases h3 : n ≤ 300
      · obtain ⟨b', o', rfl, c0⟩ := (HTs.out.below HA0.out) j _ (texts_at ts j hlt)
        have hsz := mem_getD HTx.out j
        generalize ts.getD j ByteArray.empty = t at c0 hsz
        unfold maxLen at hsz
        by_cases h4 : t.size ≤ 300
        · go_wp2
          go_round
          case rel => exact ⟨n + t.size, j + 1, by omega, by go_num, by go_num, by omega, by omega⟩
          case measure => simp [intOf] <;> omega
        · have h4' : 300 < t.size := by omega
          go_wp2
          go_round
          case rel => exact ⟨n + 300, j + 1, by omega, by go_num, by go_num, by omega, by omega⟩
          case measure => simp [intOf] <;> omega
      · have h3' : 300 < n := by omega
        go_wp2
        go_ret
        exact ⟨_, rfl, (fun h => by
          show ns.length ≤ 300 ∧ ts.length ≤ 300
          simp at h <;> omega), HA0.out⟩
    · have hlt' : ts.length ≤ j := by omega
      go_wp2
      go_ret
      exact ⟨_, rfl, (fun h => by
          show ns.length ≤ 300 ∧ ts.length ≤ 300
          simp at h <;> omega), HA0.out⟩

end Go.Proofs.YtfklkainbkffnaaDoor.Schema
