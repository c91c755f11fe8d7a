import Derived.Test.YtiibeemjkdipnaaGreatDoorUR
import Derived.Test.YtiibeemjkdipnaaGreatDoorE26
import Derived.Deep.RegionWith
/-
  The document's Same of lists that are the same.
-/
namespace Go.Proofs.YtiibeemjkdipnaaGreatDoor.Upcast
open Go Go.RowKit
open Go.Proofs.YtiibeemjkdipnaaGreatDoor.Schema

theorem map_at {xs ys : List Lx} (h : xs.map (·.e) = ys.map (·.e)) (k : Nat) (h1 : k < xs.length) (h2 : k < ys.length) : xs[k].e = ys[k].e := by
  have e1 := getD_map xs k h1
  have e2 := getD_map ys k h2
  rw [← e1, ← e2, h]

end Go.Proofs.YtiibeemjkdipnaaGreatDoor.Upcast
