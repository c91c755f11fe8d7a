/-
  What the rows list gives a walk: the three tables' cells.
-/
import Derived.Test.YtefkfjbdmglkjaaDoorE2
import Derived.Test.YtefkfjbdmglkjaaDoorRows
import Derived.Lay
import Derived.LaidLaws
import Derived.Below
import Derived.KernelRfl
import Derived.WalkSmall
import Derived.Stop.LaidErr
import Derived.Shelf.Vars
namespace Go.Proofs.YtefkfjbdmglkjaaDoor.Schema
open Go Go.RowKit

theorem laid_var {P : Program} {W : World} {name : String} {d : DataW Unit} {r : List (String × DataW Unit)} {g : Nat} {t : TypeId} (h : laidMet P ((name, d) :: r) W) (hg : P.globalNamed name = some g) (ht : (P.globals[g]?).map (·.type) = some t) (hs : Sh P t) :
    W.var? P name = some (flatV d).toArray := by
  obtain ⟨ps, ⟨g', t', cs, fuel, p, q, hg', ht', hvar, hd, _, _⟩, _⟩ := h
  obtain rfl := Option.some.inj (hg.symm.trans hg')
  obtain rfl := Option.some.inj (ht.symm.trans ht')
  rw [hvar, ← flat_trod hs hd]

theorem gEv : Tryd.prog.globalNamed "souk/schema.events" = some 0 := by kernel_rfl
theorem gBd : Tryd.prog.globalNamed "souk/schema.bounds" = some 1 := by kernel_rfl
theorem gEvT : (Tryd.prog.globals[0]?).map (·.type) = some 106 := by kernel_rfl
theorem gBdT : (Tryd.prog.globals[1]?).map (·.type) = some 116 := by kernel_rfl

theorem shS : Sh Tryd.prog 9 := .str Tryd.underlying9
theorem shB : Sh Tryd.prog 4 := .bool Tryd.underlying4
theorem sh64 : Sh Tryd.prog 2 := .int Tryd.underlying2
theorem sh8 : Sh Tryd.prog 5 := .int Tryd.underlying5
theorem shC : Sh Tryd.prog 81 := .int Tryd.underlying81
theorem sh3 : Sh Tryd.prog 104 := .arr Tryd.underlying104 (by kernel_rfl) shS
theorem shEvR : Sh Tryd.prog 105 := .struct Tryd.underlying105 (tiles_of _ _ _ (by kernel_rfl)) (by
  intro f hf
  simp only [List.mem_cons, List.not_mem_nil, or_false] at hf
  rcases hf with rfl | rfl | rfl
  · exact shS
  · exact sh3
  · exact shB)
theorem shBdR : Sh Tryd.prog 115 := .struct Tryd.underlying115 (tiles_of _ _ _ (by kernel_rfl)) (by
  intro f hf
  simp only [List.mem_cons, List.not_mem_nil, or_false] at hf
  rcases hf with rfl | rfl | rfl | rfl
  · exact shC
  · exact sh8
  · exact sh64
  · exact sh64)
theorem shEv : Sh Tryd.prog 106 := .arr Tryd.underlying106 (by kernel_rfl) shEvR
theorem shBd : Sh Tryd.prog 116 := .arr Tryd.underlying116 (by kernel_rfl) shBdR

def evC (r : EvR) : List Value := [.string r.name, .string r.f1, .string r.f2, .string r.f3, .bool r.text]
def bdC (r : BdR) : List Value := [.int .u8 r.cls, .int .u8 r.since, .int .i64 r.low, .int .i64 r.high]
def cmC (r : CmR) : List Value := [.string r.word, .string r.fields, .bool r.text]
theorem ev_data : flatV (Rows.laid_souk_schema_events : DataW Unit) = evL.flatMap evC := by kernel_rfl
theorem bd_data : flatV (Rows.laid_souk_schema_bounds : DataW Unit) = bdL.flatMap bdC := by kernel_rfl

/-- the tables stand -/
def Env (w : World) : Prop := w.var? Tryd.prog "souk/schema.events" = some (evL.flatMap evC).toArray ∧ w.var? Tryd.prog "souk/schema.bounds" = some (bdL.flatMap bdC).toArray ∧ 2 ≤ w.heap.size
theorem Env.below {w w' : World} (h : Env w) (hb : Below w.heap.size w w') : Env w' :=
  ⟨var?_below hb gEv (Nat.lt_of_lt_of_le (by decide) h.2.2) h.1, var?_below hb gBd (Nat.lt_of_lt_of_le (by decide) h.2.2) h.2.1, Nat.le_trans h.2.2 hb.size⟩
def listed : List (String × DataW Unit) := [("souk/schema.events", Rows.laid_souk_schema_events), ("souk/schema.bounds", Rows.laid_souk_schema_bounds)]
theorem env_of {W : World} (h : laidMet Tryd.prog listed W) : Env W := by
  have h1 := laid_var h gEv gEvT shEv
  have h2 := laid_var h.tail gBd gBdT shBd
  rw [ev_data] at h1
  rw [bd_data] at h2
  refine ⟨h1, h2, ?_⟩
  have hc := World.var?_cell gBd h2 0
  rcases Nat.lt_or_ge 1 W.heap.size with h4 | h4
  · exact h4
  · simp [World.cell?, Array.getElem?_eq_none h4] at hc
    exact absurd hc (by decide)

theorem Env.ev {w : World} (h : Env w) (k j : Nat) (hj : j < 5) : w.cell? ⟨0, k * 5 + j, none⟩ = (evL[k]?).bind fun r => (evC r)[j]? := by
  rw [World.var?_cell gEv h.1, List.getElem?_toArray, flat_at evC 5 evL (fun _ _ => rfl) k j hj]
theorem Env.bd {w : World} (h : Env w) (k j : Nat) (hj : j < 4) : w.cell? ⟨1, k * 4 + j, none⟩ = (bdL[k]?).bind fun r => (bdC r)[j]? := by
  rw [World.var?_cell gBd h.2.1, List.getElem?_toArray, flat_at bdC 4 bdL (fun _ _ => rfl) k j hj]
theorem evL_len : evL.length = 24 := rfl
theorem bdL_len : bdL.length = 18 := rfl
theorem cmL_len : cmL.length = 21 := rfl
theorem ev_row (k : Nat) (hk : k < 24) : evL[k]? = some (evAt k) := by
  unfold evAt
  rw [List.getD_eq_getElem?_getD, List.getElem?_eq_getElem (by rw [evL_len]; exact hk)]; rfl
theorem cm_row (k : Nat) (hk : k < 21) : cmL[k]? = some (cmAt k) := by
  unfold cmAt
  rw [List.getD_eq_getElem?_getD, List.getElem?_eq_getElem (by rw [cmL_len]; exact hk)]; rfl

end Go.Proofs.YtefkfjbdmglkjaaDoor.Schema
