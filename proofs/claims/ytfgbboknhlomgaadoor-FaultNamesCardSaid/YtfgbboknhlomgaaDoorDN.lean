/-
  What the row of FaultNames lists gives a walk, and a world that holds it; the texts of classes; a map written out.
-/
import Derived.Test.YtfgbboknhlomgaaDoorDF
import Derived.Test.YtfgbboknhlomgaaDoorD18
import Derived.Lay
import Derived.Lib.LaidTab
import Derived.Stop.LaidErr
import Derived.MakeChecks
import Derived.Maps.RangeWalk
import Derived.WalkSmall
namespace Go.Proofs.YtfgbboknhlomgaaDoor.Fault
open Go Go.RowKit
open Go.Maps (Keyed)

/-! ### the words -/
def texts : List ByteArray := [⟨#[110, 111, 110, 101]⟩, ⟨#[99, 97, 108, 108, 101, 114]⟩, ⟨#[98, 121, 116, 101, 115]⟩, ⟨#[109, 97, 114, 107, 101, 116]⟩, ⟨#[100, 105, 115, 107]⟩]
def textsData {H : Type} (ss : List ByteArray) : DataW H := .agg (ss.map fun s => .lit (.string s.data.toList))
theorem cells_of_texts {H : Type} {enc : TypeId × Value → H} {P : Program} {w : World} {base : Nat} {sp : Nat → Bool} {held : Bool} {fuel : Nat} {t e : TypeId} {n : Nat} {cs : List Value} {ss : List ByteArray} {p : List MemPlace}
    (ht : P.underlying t = some (.array n e)) (he : P.underlying e = some .string) (hce : P.cellsOf e = 1) (hct : P.cellsOf t = n)
    (h : DataW.trod enc P w base sp held fuel t cs = some (textsData ss, p)) : cs = ss.map Value.string := by
  cases fuel with
  | zero => simp [DataW.trod] at h
  | succ fuel =>
    simp only [DataW.trod, ht, hce, hct, Nat.mul_one] at h
    split at h
    · rename_i hl
      obtain ⟨xs, hm, hx⟩ := Option.map_eq_some_iff.1 h
      have hxs : xs.map (·.1) = ss.map fun s => (DataW.lit (.string s.data.toList) : DataW H) := by
        have := congrArg Prod.fst hx
        simpa [textsData] using this
      have hxl : xs.length = n := by simpa using Lib.mapM_length hm
      have hzl : ss.length = n := by
        have := congrArg List.length hxs
        simp at this
        omega
      apply List.ext_getElem?
      intro i
      by_cases hi : i < n
      · obtain ⟨b, hb, hf⟩ := Lib.mapM_at hm i i (by simp [hi])
        obtain ⟨z, hc, hz, _⟩ := DataW.trod_string he hf
        have h1 : cs[i]? = some (.string z) := by
          have := congrArg (·[0]?) hc
          simpa [List.getElem?_take, List.getElem?_drop] using this
        have h2 : (xs.map (·.1))[i]? = some (DataW.lit (.string z.data.toList) : DataW H) := by rw [List.getElem?_map, hb, hz]; rfl
        rw [hxs] at h2
        simp only [List.getElem?_map, Option.map_eq_some_iff, DataW.lit.injEq, Lit.string.injEq] at h2
        obtain ⟨z', hz', hq⟩ := h2
        have : z' = z := by apply ByteArray.ext; exact Array.ext' (by simpa using hq)
        subst this
        simp [h1, hz']
      · rw [List.getElem?_eq_none (by omega), List.getElem?_eq_none (by simp; omega)]
    · cases h
theorem gWords : Tryd.prog.globalNamed "souk/fault.words" = some 0 := by kernel_rfl
theorem gWordsType : (Tryd.prog.globals[0]?).map (·.type) = some 54 := by kernel_rfl
theorem cellsW : Tryd.prog.cellsOf 54 = 5 := by kernel_rfl
theorem cellsS : Tryd.prog.cellsOf 9 = 1 := by kernel_rfl
theorem words_data : (Rows.laid_souk_fault_words : DataW Unit) = textsData texts := by unfold Rows.laid_souk_fault_words textsData; kernel_rfl
/-- the words stand -/
def Words (w : World) : Prop := w.var? Tryd.prog "souk/fault.words" = some (texts.map Value.string).toArray ∧ 0 < w.heap.size
theorem Words.below {w w' : World} (h : Words w) (hb : Below w.heap.size w w') : Words w' := ⟨var?_below hb gWords h.2 h.1, Nat.lt_of_lt_of_le h.2 hb.size⟩
theorem Words.cell {w : World} (h : Words w) (i : Nat) (hi : i < 5) : w.cell? ⟨0, i, none⟩ = some (.string (texts.getD i ByteArray.empty)) := by
  have := World.var?_cell gWords h.1 i
  have hl : texts.length = 5 := rfl
  simpa [List.getD, hl, hi] using this

def EnvN (w : World) : Prop := ErrT w ∧ Words w
theorem EnvN.below {w w' : World} (h : EnvN w) (hb : Below w.heap.size w w') : EnvN w' := ⟨h.1.below hb, h.2.below hb⟩
def dataN : List (String × DataW Unit) := [("souk/fault.words", Rows.laid_souk_fault_words)]
def listedN : List (String × DataW Unit) := [("errors.errorType", Rows.laid_errors_errorType), ("souk/fault.words", Rows.laid_souk_fault_words)]
theorem envN {W : World} (h : laidMetH Tryd.prog listedN W) : EnvN W := by
  have h' : laidMet Tryd.prog dataN W ∧ handlesMet Tryd.prog [("errors.errorType", Rows.laid_errors_errorType)] W := h
  have h2 : laidMet Tryd.prog [("souk/fault.words", textsData texts)] W := by rw [← words_data]; exact h'.1
  have ht : W.var? Tryd.prog "souk/fault.words" = some (texts.map Value.string).toArray := by
    obtain ⟨ps, ⟨g', t', cs, fuel, p, q, hg', ht', hvar, hd, _, _⟩, _⟩ := h2
    obtain rfl := Option.some.inj (gWords.symm.trans hg')
    obtain rfl := Option.some.inj (gWordsType.symm.trans ht')
    rw [hvar, ← cells_of_texts Tryd.underlying54 Tryd.underlying9 cellsS cellsW hd]
  refine ⟨errT_of_handles h'.2, ht, ?_⟩
  have hc := World.var?_cell gWords ht 0
  rcases Nat.lt_or_ge 0 W.heap.size with h1 | h1
  · exact h1
  · simp [World.cell?, Array.getElem?_eq_none h1, texts] at hc
noncomputable def worldN (os : Os) : World := (laidWorld os).layVars Tryd.prog dataN
theorem worldN_os (os : Os) : (worldN os).os = os := World.layVars_os _ _ _
theorem metN (os : Os) (args : Array Value) : laidMetH Tryd.prog listedN ((worldN os).forCall (fun _ _ => 0) ⟨#[], args, []⟩).memory := by
  have e1 : (dataN.filter fun x => (dataN.map (·.1)).contains x.1) = dataN := List.filter_eq_self.2 fun x hx => List.contains_iff_mem.2 (List.mem_map.2 ⟨x, hx, rfl⟩)
  have e2 : (dataN.filter fun x => !(dataN.map (·.1)).contains x.1) = [] := List.filter_eq_nil_iff.2 fun x hx => by rw [List.contains_iff_mem.2 (List.mem_map.2 ⟨x, hx, rfl⟩)]; simp
  have h : laidMet Tryd.prog dataN (worldN os) := laidMet_layVars (w0 := laidWorld os) (dataN.map (·.1)) [] (by rw [e1]; rfl) (by rw [e1]; kernel_rfl) (by rw [e1]; kernel_rfl) (by rw [e2]; exact LaidIn.none)
  exact laidMetH_of_parts (h.of_heap (by simp [World.memory, World.forCall, Input.heap])) (by kernel_rfl)

set_option maxRecDepth 100000 in
/-- **the text of a class** -/
theorem cls_error (i : Nat) (hi : i < 5) {w : World} (W : Words w) :
    Calls Tryd.prog 11 #[.int .u8 i] w fun e w' => e = .returned (.string (texts.getD i ByteArray.empty)) ∧ w' = w := by
  have hc := W.cell i hi
  generalize texts.getD i ByteArray.empty = s at hc ⊢
  clear W
  go_enter Tryd.func11, Tryd.ntmps11
  go_wp2
  go_ret
  exact ⟨rfl, rfl⟩

/-! ### a map written out -/
theorem lawK : Keyed Tryd.prog 23 := Maps.int_keyed Tryd.underlying23
/-- an entry of a map that is written out -/
theorem wpList_insert_own {H : Type} {P : Program} (w : World) {ops : Array Oper} {rest : List Oper} {o : Oper} {a : Act} {Q : Exit → Act → World → Prop}
    (hg : o.guard = none) (m x v : Operand) (t : TypeId) (hop : o.op = Op.insert t m x v)
    (k e : TypeId) (K : Keyed P k) (ht : P.underlying t = some (.map k e)) (R : Value → Option (DataW H × List MemPlace)) (b n : Nat) (D : DataW H)
    (hm : a.eval m = .map (some b)) (hown : w.ownsMap P k R b n D) (hn : n < maxLen) (key val : Value) (kl : Lit) (hx : a.eval x = key) (hv : a.eval v = val) (hkey : keyOf P k key = some kl)
    (d : DataW H) (ps : List MemPlace) (hval : R val = some (d, ps))
    (hK : ∀ w', w'.ownsMap P k R b (n + 1) (D.put kl d) → w.grownBy w' (some b) → wpList P ops Q rest (a.put o.dst undef) w') :
    wpList P ops Q (o :: rest) a w := by
  refine wpList_plain hg fun K' hK' => ?_
  obtain ⟨w', hrun, r1, r2⟩ := hown.update K ht hn hkey hval
  unfold Oper.wp
  simp [execOp, hop, hm, hx, hv, hrun, Result.andThen]
  exact hK' _ _ (hK w' r1 r2)
def entry (k c : Int) : Lit × DataW Unit := (.int .i64 k, .lit (.int .u8 c))
def wantL : List (Int × Int) := [(-1, 0), (0, 0), (1, 1), (2, 1), (3, 0), (4, 2), (5, 3), (6, 3), (7, 0), (8, 2), (39, 0), (40, 3), (41, 3), (42, 2), (43, 2), (44, 4), (45, 4), (46, 3), (47, 3), (48, 3), (49, 3), (50, 3), (51, 3), (52, 4), (53, 0)]
/-- the map as it reads -/
def wantD : DataW Unit := .map (wantL.map fun x => entry x.1 x.2)
theorem owns_want {w : World} {b n : Nat} {D : DataW Unit} (h : w.ownsMap Tryd.prog 23 (plainElem Tryd.prog 24) b n D) (e : D = wantD) : w.ownsMap Tryd.prog 23 (plainElem Tryd.prog 24) b n wantD := e ▸ h
theorem want_class {x c : Int} (h1 : Maps.has wantD (.int .i64 x) = true) (h2 : ∀ zd, wantD.atKey (.int .i64 x) zd = .lit (.int .u8 c)) : c = classOf x := by
  obtain ⟨p, hp, hk⟩ := List.any_eq_true.1 (show (wantL.map fun x => entry x.1 x.2).any (fun p => p.1.sameKey (.int .i64 x)) = true from h1)
  obtain ⟨⟨k, c'⟩, hm, rfl⟩ := List.mem_map.1 hp
  have hkx : k = x := by simpa [entry, Lit.sameKey] using hk
  subst hkx
  have h3 := h2 .nil
  have key : ∀ p ∈ wantL, wantD.atKey (.int .i64 p.1) .nil = .lit (.int .u8 (classOf p.1)) := by
    intro p hp
    unfold wantL at hp
    simp only [List.mem_cons, List.not_mem_nil, or_false] at hp
    rcases hp with rfl | rfl | rfl | rfl | rfl | rfl | rfl | rfl | rfl | rfl | rfl | rfl | rfl | rfl | rfl | rfl | rfl | rfl | rfl | rfl | rfl | rfl | rfl | rfl | rfl <;> kernel_rfl
  have h4 := key _ hm
  rw [h3] at h4
  injection h4 with h5
  injection h5

theorem grown_none {W W' : World} (h : Below W.heap.size W W') : W.grownBy W' none := ⟨h.os, h.tape, h.output, h.size, fun k hk _ => h.block k hk⟩
theorem in_self {v base : Value} {xs : List Wr} {n : Int} {r : Bool} {w : World} (hE : ErrT w) (hv : At w v xs base) (hP : Plain base) (hI : Ifc base) (hlen : xs.length < 1099511627776) (hA : Asked base n r) (hn : r = false → n = 0) :
    Calls Tryd.prog 9 #[v, .int .u8 (classOf n)] w fun e w' => e = .returned (.bool true) ∧ Below w.heap.size w w' :=
  (in_any (classOf n) hE hv hP hI hlen hA hn).mono fun e w' h => ⟨by rw [h.1]; simp, h.2⟩

end Go.Proofs.YtfgbboknhlomgaaDoor.Fault
