/-
  The examples ('works').
-/
import Derived.Test.YtefkfjbdmglkjaaDoorB13
namespace Go.Proofs.YtefkfjbdmglkjaaDoor.Wire
open Go.RowKit

def L9 : List UInt8 := [1, 2, 2, 97, 98, 2, 1, 0, 0]
theorem L9_eq : (([] ++ fixB 2 258) ++ textB ⟨#[97, 98]⟩) ++ lowB 258 = L9 := by decide +kernel
theorem tx1 : txR ⟨#[2, 97, 98]⟩ 0 0 1 = (⟨#[]⟩, 0, 40) := by decide +kernel
theorem tx2 : txR ⟨#[2, 97]⟩ 0 0 9 = (⟨#[]⟩, 0, 8) := by decide +kernel
def nines : ByteArray := ⟨#[255, 255, 255, 255, 255, 255, 255, 255, 255, 2]⟩
theorem wr1 : shR ⟨#[128, 0]⟩ 0 0 9 = (0, 0, 4) := by decide +kernel
theorem wr2 : shR ⟨#[255, 255, 255, 255, 255, 255, 255, 255, 255, 2]⟩ 0 0 18446744073709551615 = (0, 0, 4) := by decide +kernel
theorem hid_lt {a b : Nat} (h : a < b) : Hid (a < b) := h

end Go.Proofs.YtefkfjbdmglkjaaDoor.Wire
