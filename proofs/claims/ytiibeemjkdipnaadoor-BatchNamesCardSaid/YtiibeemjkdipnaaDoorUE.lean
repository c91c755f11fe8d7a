import Derived.Test.YtiibeemjkdipnaaDoorUM
/-
  Down, Up.
-/
namespace Go.Proofs.YtiibeemjkdipnaaDoor.Upcast
open Go Go.RowKit
open Go.Proofs.YtiibeemjkdipnaaDoor.Schema

def dnX (e : Ev) : Except Nat Ev := if may e then downX e else .error 4
def upX (e : Ev) : Except Nat Ev := if may e then (if e.v = 3 then .error 43 else .ok (upE e)) else .error 4
theorem down_is {e : Ev} (h : may e = true) : dnX e = downX e := if_pos h
theorem Down_no {e : Ev} (h : may e = false) : dnX e = .error 4 := if_neg (by rw [h]; decide)
theorem up_no {e : Ev} (h : may e = false) : upX e = .error 4 := if_neg (by rw [h]; decide)
theorem up_new {e : Ev} (h : may e = true) (h3 : e.v = 3) : upX e = .error 43 := (if_pos h).trans (if_pos h3)
theorem up_is {e : Ev} (h : may e = true) (h3 : e.v < 3) : upX e = .ok (upE e) := (if_pos h).trans (if_neg (by omega))
theorem free_below {w w' : World} {b : Nat} (h : Free w b) (k : Below w.heap.size w w') : Free w' b := h.below k

end Go.Proofs.YtiibeemjkdipnaaDoor.Upcast
