import Derived.Test.YtiibeemjkdipnaaDoorUS
/-
  What the laws of layer 7 call: event, told.
-/
namespace Go.Proofs.YtiibeemjkdipnaaDoor.Upcast
open Go Go.RowKit
open Go.Proofs.YtiibeemjkdipnaaDoor.Schema

set_option maxRecDepth 100000 in
set_option maxHeartbeats 1000000 in
theorem event_any (v k : Nat) (A : Option Addr) (n c : Nat) (w : World) :
    Calls Tryd.prog 8 #[.int .u8 (v : Int), .int .u8 (k : Int), .slice A n c] w (fun z w' => z = .returned (.agg #[.int .u8 (v : Int), .int .u8 (k : Int), .slice A n c, .slice none 0 0]) ∧ Below w.heap.size w w') := by
  have HN := Lib.hid (box4 w (.int .u8 0) (.int .u8 0) (.slice none 0 0) (.slice none 0 0) 27)
  have HF := Lib.hid (free_new w #[.int .u8 0, .int .u8 0, .slice none 0 0, .slice none 0 0] 27)
  have HB := Lib.hid ((Below.refl w.heap.size w).alloc (Nat.le_refl _) (.cells #[.int .u8 0, .int .u8 0, .slice none 0 0, .slice none 0 0] 27))
  go_enter Tryd.func8, Tryd.ntmps8
  go_upto_region 1 with (fail)
  generalize w.alloc (.cells #[.int .u8 0, .int .u8 0, .slice none 0 0, .slice none 0 0] 27) = W at HN HF HB ⊢
  obtain ⟨x0, x1, x2, x3⟩ := HN.out
  have f0 := HF.out.2 0
  have f1 := HF.out.2 1
  have f2 := HF.out.2 2
  have f3 := HF.out.2 3
  go_wp2_with fail
  clear x0 x1 x2 x3 f0 f1 f2 f3
  obtain ⟨e0, e1, e2, e3⟩ := Four.set4 (show Four W w.heap.size _ _ _ _ from HN.out) (.int .u8 (v : Int)) (.int .u8 (k : Int)) (.slice A n c) (.slice none 0 0)
  refine bodyPost_ret (v := .agg #[.int .u8 (v : Int), .int .u8 (k : Int), .slice A n c, .slice none 0 0]) (by simp [results, Tryd.results8, go_sem, e0, e1, e2, e3]) rfl ⟨rfl, ?_⟩
  exact HB.out.trans ((touch4 W w.heap.size _ _ _ _).below (Nat.le_refl _) HB.out.size)

end Go.Proofs.YtiibeemjkdipnaaDoor.Upcast
