import Derived.Test.YtiibeemjkdipnaaGreatDoorUR
import Derived.Test.YtiibeemjkdipnaaGreatDoorE26
import Derived.Deep.RegionWith
/-
  The document's Same of lists that are the same.
-/
namespace Go.Proofs.YtiibeemjkdipnaaGreatDoor.Upcast
open Go Go.RowKit
open Go.Proofs.YtiibeemjkdipnaaGreatDoor.Schema

end Go.Proofs.YtiibeemjkdipnaaGreatDoor.Upcast
