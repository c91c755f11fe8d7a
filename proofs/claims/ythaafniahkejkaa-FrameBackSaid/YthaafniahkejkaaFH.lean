import Derived.Test.YthaafniahkejkaaFG
import Derived.WalkMore
/-
  Scan at a place that is none.
-/
namespace Go.Proofs.Ythaafniahkejkaa.Frame
open Go Go.RowKit

set_option maxRecDepth 100000 in
set_option maxHeartbeats 2000000 in
theorem Scan_no (s : ByteArray) (i first : Int) (h : ¬ (0 ≤ i ∧ i ≤ s.size)) (w : World) :
    Calls Try.prog 16 #[.string s, .int .i64 i, .int .i64 first] w fun e w' => e = .returned (.tuple #[.slice none 0 0, .int .i64 0]) ∧ Below w.heap.size w w' := by
  have hbl := (((Below.refl w.heap.size w).alloc (Nat.le_refl _) (.cells #[.int .i64 first] 2)).alloc (by simp) (.cells #[.slice none 0 0] 34)).alloc (by simp; omega) (.cells #[.int .i64 0] 3)
  by_cases h0 : i < 0
  · clear h
    go_enter Try.func16, Try.ntmps16
    go_wp2
    go_step3
    go_wp2
    rw [Exit.noGoto_ret]
    refine bodyPost_ret (v := .tuple #[.slice none 0 0, .int .i64 0]) (by simp [results, Try.results16, go_sem]) rfl ⟨rfl, ?_⟩
    exact hbl
  · have h1 : (s.size : Int) < i := by omega
    clear h
    go_enter Try.func16, Try.ntmps16
    go_wp2
    go_step3
    go_wp2
    rw [Exit.noGoto_ret]
    refine bodyPost_ret (v := .tuple #[.slice none 0 0, .int .i64 0]) (by simp [results, Try.results16, go_sem]) rfl ⟨rfl, ?_⟩
    exact hbl

end Go.Proofs.Ythaafniahkejkaa.Frame
