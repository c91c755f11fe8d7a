import Derived.Test.YticfnfekkmkclaaGreatDoorB
import Derived.StillTailTactics
import Derived.Sort.KeysCollected
import Derived.Lib.Walk
import Derived.Lib.Strings
import Derived.Laws.RangeAny
import Derived.Laws.IdiomStrings
import Derived.Deep.RegionHeld3
import Derived.Shelf.Abstract
/-
  What is done is handed to one that counts it: find, count, upTo, and what is done to the map.
-/
namespace Go.Proofs.YticfnfekkmkclaaGreatDoor.Disk
open Go Go.RowKit Go.Maps

def fndE (d : Dk) (n : Nm) : Nat := if d.gone then 45 else if (get d.l n).isSome then 0 else 5
def fndF (d : Dk) (n : Nm) : F := if d.gone then f0 else (get d.l n).getD f0

theorem below2 (w : World) (o o' : Obj) : Below w.heap.size w ((w.alloc o).alloc o') := ((Below.refl w.heap.size w).alloc (Nat.le_refl _) o).alloc (by simp) o'
theorem eqn_nil {P : Program} (w : World) (d : Nat) (t k e : TypeId) (p : Option Nat) (h : P.underlying t = some (.map k e)) : (Op.equalIn (d + 1) t (.map p) (.map none)).run P w = .ok p.isNone w := by
  cases p <;> simp [Op.equalIn, run_underlying h]
theorem eq_nil {P : Program} (w : World) (t k e : TypeId) (p : Option Nat) (h : P.underlying t = some (.map k e)) : (binOp .eql t (.map p) (.map none)).run P w = .ok (.bool p.isNone) w := by
  simp only [binOp]
  simp [show Op.equal t (.map p) (.map none) = Op.equalIn (9999 + 1) t (.map p) (.map none) from rfl, eqn_nil w 9999 t k e p h]
theorem map_nil (b : Nat) (w : World) : (binOp .eql 113 (.map (some b)) (.map none)).run Tryz.prog w = .ok (.bool false) w :=
  eq_nil w _ _ _ (some b) tmap
theorem bx_own (w : World) (cs : Array Value) (t : TypeId) : (w.alloc (.cells cs t (0, 0))).heap[w.heap.size]? = some (.cells cs t (0, 0)) := (MapKept.heap_alloc w _).1

set_option maxRecDepth 100000 in
set_option maxHeartbeats 1000000 in
theorem find_any (a b : Nat) (d : Dk) (n : Nm) (hn : n.length ≤ maxLen) (w : World) (h : DkAt w a b d) :
    Calls Tryz.prog 84 #[.pointer (some ⟨a, 0, none⟩), .string (S n)] w fun z w' => z = .returned (.tuple #[fV (fndF d n), .int .i64 (fndE d n : Int)]) ∧ Below w.heap.size w w' := by
  have HD := Lib.hid h
  have HB := Lib.hid ((Below.refl w.heap.size w).alloc (Nat.le_refl _) (.cells #[.string ⟨#[]⟩, .int .i64 0] 119))
  have HR := Lib.hid (refusal_any a b d (w.alloc (.cells #[.string ⟨#[]⟩, .int .i64 0] 119)) (HD.out.new _))
  obtain ⟨c0, c1, c2, c3, c4⟩ := (HD.out.new (.cells #[.string ⟨#[]⟩, .int .i64 0] 119)).cell
  have hl := (look_run (HD.out.new (.cells #[.string ⟨#[]⟩, .int .i64 0] 119)).mp n hn).1
  clear h hn
  cases hg : d.gone with
  | true =>
    have HF := Lib.hid (show fndF d n = f0 by simp [fndF, hg])
    have HE := Lib.hid (show fndE d n = 45 by simp [fndE, hg])
    rw [show refus d = 45 by simp [refus, hg]] at HR
    clear hg hl
    go_enter Tryz.func84, Tryz.ntmps84
    go_wp2_with (go_at_call 72; refine HR.out.mono ?_; rintro z w' ⟨rfl, rfl⟩)
    refine bodyPost_ret (v := .tuple #[.agg #[.string ⟨#[]⟩, .int .i64 0], .int .i64 45]) (by simp [results, Tryz.results84, go_sem]) rfl ?_
    exact ⟨by rw [HF.out, HE.out]; rfl, HB.out⟩
  | false =>
    rw [show refus d = 0 by simp [refus, hg]] at HR
    cases hf : get d.l n with
    | none =>
      have HF := Lib.hid (show fndF d n = f0 by simp [fndF, hg, hf])
      have HE := Lib.hid (show fndE d n = 5 by simp [fndE, hg, hf])
      rw [hf] at hl
      replace hl : (Instr.lookup 113 (.map (some b)) (.string (S n)) true).run Tryz.prog (w.alloc (.cells #[.string ⟨#[]⟩, .int .i64 0] 119)) = .ok (.tuple #[.agg #[.string ⟨#[]⟩, .int .i64 0], .bool false]) (w.alloc (.cells #[.string ⟨#[]⟩, .int .i64 0] 119)) := hl
      clear hg hf
      go_enter Tryz.func84, Tryz.ntmps84
      go_wp2_with (go_at_call 72; refine HR.out.mono ?_; rintro z w' ⟨rfl, rfl⟩)
      refine bodyPost_ret (v := .tuple #[.agg #[.string ⟨#[]⟩, .int .i64 0], .int .i64 5]) (by simp [results, Tryz.results84, go_sem]) rfl ?_
      exact ⟨by rw [HF.out, HE.out]; rfl, below2 _ _ _⟩
    | some f =>
      have HF := Lib.hid (show fndF d n = f by simp [fndF, hg, hf])
      have HE := Lib.hid (show fndE d n = 0 by simp [fndE, hg, hf])
      rw [hf] at hl
      obtain ⟨fb, fg⟩ := f
      replace hl : (Instr.lookup 113 (.map (some b)) (.string (S n)) true).run Tryz.prog (w.alloc (.cells #[.string ⟨#[]⟩, .int .i64 0] 119)) = .ok (.tuple #[.agg #[.string (S fb), .int .i64 fg], .bool true]) (w.alloc (.cells #[.string ⟨#[]⟩, .int .i64 0] 119)) := hl
      clear hg hf
      go_enter Tryz.func84, Tryz.ntmps84
      go_wp2_with (go_at_call 72; refine HR.out.mono ?_; rintro z w' ⟨rfl, rfl⟩)
      refine bodyPost_ret (v := .tuple #[.agg #[.string (S fb), .int .i64 fg], .int .i64 0]) (by simp [results, Tryz.results84, go_sem]) rfl ?_
      exact ⟨by rw [HF.out, HE.out]; rfl, below2 _ _ _⟩
/-! ### what turns in a disk -/
theorem DkAt.set {w w' : World} {a b : Nat} {d d' : Dk} (h : DkAt w a b d) (hb : w'.heap[a]? = some (.cells (dkV d' b) 117 (0, 0))) (hm : w'.heap[b]? = w.heap[b]?) (hl : d'.l = d.l) (hok : d'.ok) : DkAt w' a b d' :=
  ⟨hb, by rw [hl]; exact owns_block h.mp hm, hok⟩
theorem DkAt.put {w w' : World} {a b m : Nat} {d : Dk} (h : DkAt w a b d) (n : Nm) (f : F) (hown : w'.ownsMap Tryz.prog 9 fileR b m ((toD fD d.l).put (.string n) (fD f))) (ht : w.mapTurned w' b) (hok : ({ d with l := put n f d.l } : Dk).ok) : DkAt w' a b { d with l := put n f d.l } := by
  refine ⟨(ht.grown.block a h.lt.1 (fun e => h.ne (by injection e))).trans h.blk, ?_, hok⟩
  rw [toD_put] at hown
  have := owns_size hown
  rwa [toD_size] at this
theorem DkAt.del {w w' : World} {a b m : Nat} {d : Dk} (h : DkAt w a b d) (n : Nm) (hown : w'.ownsMap Tryz.prog 9 fileR b m ((toD fD d.l).del (.string n))) (ht : w.mapTurned w' b) (hok : ({ d with l := del n d.l } : Dk).ok) : DkAt w' a b { d with l := del n d.l } := by
  refine ⟨(ht.grown.block a h.lt.1 (fun e => h.ne (by injection e))).trans h.blk, ?_, hok⟩
  rw [toD_del] at hown
  have := owns_size hown
  rwa [toD_size] at this
/-- a variable's own block -/
def Bx (w : World) (k : Nat) (cs : Array Value) : Prop := ∃ t, w.heap[k]? = some (.cells cs t (0, 0))
theorem Bx.tn {w w' : World} {k a b : Nat} {d : Dk} {cs : Array Value} (h : Bx w k cs) (hd : DkAt w a b d) (hk : k ≠ a) (ht : Tn a b w w') : Bx w' k cs := by
  obtain ⟨t, h⟩ := h
  refine ⟨t, (ht.block k (row_lt h) hk ?_).trans h⟩
  obtain ⟨es, clock, h1, _⟩ := hd.mp
  intro e; subst e
  rw [h] at h1; cases h1
theorem Bx.cell {w : World} {k : Nat} {cs : Array Value} (h : Bx w k cs) (i : Nat) : w.cell? ⟨k, i, none⟩ = cs[i]? := by
  obtain ⟨t, h⟩ := h
  exact cell_row h i
theorem Bx.below {w w' : World} {k : Nat} {cs : Array Value} (h : Bx w k cs) (hb : Below w.heap.size w w') : Bx w' k cs := by
  obtain ⟨t, h⟩ := h
  exact ⟨t, (hb.block k (row_lt h)).trans h⟩
theorem Bx.dn {w : World} {k : Nat} {cs : Array Value} (h : Bx w k cs) (n : Nat) : Bx (w.drewN n) k cs := h
theorem Bx.new {w : World} {k : Nat} {cs : Array Value} (h : Bx w k cs) (o : Obj) : Bx (w.alloc o) k cs := h.below ((Below.refl _ _).alloc (Nat.le_refl _) _)
theorem bx_new (w : World) (cs : Array Value) (t : TypeId) : Bx (w.alloc (.cells cs t (0, 0))) w.heap.size cs := ⟨t, (MapKept.heap_alloc w _).1⟩

def DoneBy (a b : Nat) (d : Dk) (l : List (Nm × F)) (W : World) (z : Ending) (w' : World) : Prop :=
  z = .returned (.tuple #[]) ∧ DkAt w' a b { d with l := l } ∧ Tn a b W w'

set_option maxRecDepth 100000 in
set_option maxHeartbeats 1000000 in
theorem create1_any (a b k0 k1 : Nat) (d : Dk) (n : Nm) (hn : n.length ≤ maxLen) (W : World) (h : DkAt W a b d) (h0 : Bx W k0 #[.pointer (some ⟨a, 0, none⟩)]) (h1 : Bx W k1 #[.string (S n)]) (hok : ({ d with l := put n f0 d.l } : Dk).ok) :
    Calls Tryz.prog 100 #[.pointer (some ⟨k0, 0, none⟩), .pointer (some ⟨k1, 0, none⟩)] W (DoneBy a b d (put n f0 d.l) W) := by
  have hmx : Tryz.prog.follows .mixedOrders = true := by kernel_rfl
  have hnil := map_nil b W
  have e0 := h0.cell 0
  have e1 := h1.cell 0
  obtain ⟨c0, c1, c2, c3, c4⟩ := h.cell
  have HD := Lib.hid h
  have HK := Lib.hid (tkey n hn)
  have HO := Lib.hid hok
  clear h hn hok
  simp only [List.getElem?_toArray, List.getElem?_cons_zero] at e0 e1
  go_enter Tryz.func100, Tryz.ntmps100
  go_wp2_with fail
  go_still_tail 6, (by kernel_rfl)
  change wpList _ _ _ _ _ (W.drewN 1)
  generalize hW : W.drewN 1 = W1
  have HT := Lib.hid (show Tn a b W W1 by rw [← hW]; exact (Tn.refl a b W).dn 1)
  have HD1 := Lib.hid (show DkAt W1 a b d by rw [← hW]; exact HD.out.dn 1)
  clear hW c0 c1 c2 c3 c4 e0 e1 h0 h1 hnil
  go_wp2_with (at_mapUpdate; refine wpList_mapUpdate_in _ rfl _ _ _ 113 rfl 9 119 tkeyed tmap fileR b _ (toD fD d.l) rfl HD1.out.mp (by have := HD1.out.ok.len; unfold maxLen; omega) _ _ (.string n) rfl rfl HK.out (fD f0) [] (fileR_mk f0_ok) ?_; intro w1 hown hturn)
  go_end0
  exact ⟨rfl, HD1.out.put n f0 hown hturn HO.out, HT.out.trans (Tn.map hturn)⟩
end Go.Proofs.YticfnfekkmkclaaGreatDoor.Disk

/-
  How many bytes all files have: Used; Capacity; Up.
-/
namespace Go.Proofs.YticfnfekkmkclaaGreatDoor.Disk
open Go Go.RowKit Go.Maps

def sumNot (left : Lit → Bool) (l : List (Nm × F)) : Nat := used (l.filter fun p => !left (.string p.1))
theorem sumNot_start (l : List (Nm × F)) : sumNot (Maps.has (toD fD l)) l = 0 := by
  unfold sumNot
  rw [List.filter_eq_nil_iff.2]
  · rfl
  · intro p hp
    rw [toD_has]
    have : get l p.1 ≠ none := fun h => get_none.1 h p hp rfl
    cases hg : get l p.1 with
    | none => exact absurd hg this
    | some v => simp
theorem sumNot_end {left : Lit → Bool} (h : ∀ kl, left kl = false) (l : List (Nm × F)) : sumNot left l = used l := by
  unfold sumNot
  rw [List.filter_eq_self.2 fun p _ => by rw [h]; rfl]
theorem used_app (l m : List (Nm × F)) : used (l ++ m) = used l + used m := by simp [used, tot, List.sum_append]
theorem sumNot_step {left : Lit → Bool} {l : List (Nm × F)} (h : Up l) {x : Nm} {f : F} (hg : get l x = some f) (hl : left (.string x) = true) :
    sumNot (fun z => left z && !z.sameKey (.string x)) l = sumNot left l + f.b.length := by
  obtain ⟨a, c, e, hd⟩ := del_some h hg
  have hx : ∀ p ∈ a ++ c, p.1 ≠ x := fun p hp => by rw [← hd] at hp; exact ((mem_del x p l).1 hp).2
  have key : ∀ m : List (Nm × F), (∀ p ∈ m, p.1 ≠ x) → m.filter (fun p => !(left (.string p.1) && !(Lit.string p.1).sameKey (.string x))) = m.filter (fun p => !left (.string p.1)) := fun m hm =>
    List.filter_congr fun p hp => by
      have : (p.1 == x) = false := by simpa using hm p hp
      simp [Lit.sameKey, this]
  subst e
  unfold sumNot
  rw [List.filter_append, List.filter_append, List.filter_cons, List.filter_cons, key a (fun p hp => hx p (List.mem_append_left _ hp)), key c (fun p hp => hx p (List.mem_append_right _ hp))]
  simp only [hl, Lit.sameKey, beq_self_eq_true, Bool.not_true, Bool.and_false, Bool.not_false, if_true, Bool.false_eq_true, if_false, used_app]
  have : ∀ (p : Nm × F) m, used (p :: m) = p.2.b.length + used m := fun p m => by simp [used, tot]
  rw [this]; simp only; omega
theorem sumNot_le (left : Lit → Bool) (l : List (Nm × F)) : sumNot left l ≤ used l := by
  unfold sumNot
  induction l with
  | nil => exact Nat.le_refl _
  | cons p r ih =>
    have : ∀ (p : Nm × F) m, used (p :: m) = p.2.b.length + used m := fun p m => by simp [used, tot]
    rw [List.filter_cons]
    split
    · rw [this, this]; omega
    · rw [this]; omega
theorem keyS (key : Value) (kl : Lit) (h : keyOf Tryz.prog 9 key = some kl) : ∃ x : Nm, key = .string (S x) := by
  obtain ⟨x, hx, _⟩ := Maps.keyOf_str Tryz.underlying9 h
  exact ⟨x, hx⟩
theorem keyS_lit {x : Nm} {kl : Lit} (h : keyOf Tryz.prog 9 (.string (S x)) = some kl) : kl = .string x := by
  obtain ⟨y, hy, hk, _⟩ := Maps.keyOf_str Tryz.underlying9 h
  have : S x = S y := by injection hy
  rw [hk, S_inj this]
theorem valF (v : Value) (y : DataW Unit × List MemPlace) (h : fileR v = some y) : ∃ f : F, v = fV f := by
  obtain ⟨f, _, e, _⟩ := fileR_inv h
  exact ⟨f, e⟩
theorem valF_get {l : List (Nm × F)} {x : Nm} {f : F} {y : DataW Unit × List MemPlace} (h : fileR (fV f) = some y) (hat : ∀ zd, (toD fD l).atKey (.string x) zd = y.1) : get l x = some f := by
  obtain ⟨g, _, e, rfl⟩ := fileR_inv h
  obtain rfl := fV_inj e
  have h1 := hat (fD f0)
  have h2 := hat (.lit (.bool true))
  rw [toD_at] at h1 h2
  cases hg : get l x with
  | none => rw [hg] at h2; simp [fD] at h2
  | some v => rw [hg] at h1; rw [fD_inj h1]

set_option maxRecDepth 100000 in
set_option maxHeartbeats 1000000 in
theorem used_raw (a b : Nat) (d : Dk) (w : World) (hblk : w.heap[a]? = some (.cells (dkV d b) 117 (0, 0))) (hmp : w.ownsMap Tryz.prog 9 fileR b d.l.length (toD fD d.l)) (hup : Up d.l) (hus : used d.l ≤ 9223372036854775807) :
    Calls Tryz.prog 70 #[.pointer (some ⟨a, 0, none⟩)] w fun z w' => z = .returned (.int .i64 (used d.l : Int)) ∧ Below w.heap.size w w' := by
  have c1 : w.cell? ⟨a, 1, none⟩ = some (.map (some b)) := cell_row hblk 1
  have HM := Lib.hid hmp
  have HP := Lib.hid hup
  have HU := Lib.hid hus
  clear hmp hup hus hblk
  go_enter Tryz.func70, Tryz.ntmps70
  go_wp2_with (first
    | (at_range; refine wpList_range_own _ rfl _ 113 rfl 9 119 tkeyed tmap fileR b _ (toD fD d.l) rfl HM.out ?_; intro w0 hrg0 hg0 hs0)
    | go_in)
  have HB0 := Lib.hid ((Below.refl w.heap.size w).grown hg0 (Nat.le_refl _) (fun j hj => by cases hj))
  clear hg0 hs0 c1
  go_frame
  go_loopw [3] (fun s wr => ∃ (left : Lit → Bool) (cnt : Nat), s = .int .i64 (sumNot left d.l : Int) ∧ wr.ranges Tryz.prog 9 fileR b w.heap.size d.l.length (toD fD d.l) left cnt ∧ Below w.heap.size w wr)
    (fun _ wr => wr.rangeLeft b w.heap.size)
  case atStart => exact ⟨_, _, by rw [sumNot_start]; rfl, hrg0, HB0.out⟩
  case round =>
    obtain ⟨left, cnt, rfl, hrg, hB⟩ := hrel
    have HB := Lib.hid hB
    clear hB HB0 hrg0
    go_wp2_with (first
      | (at_next; refine wpList_next_ranges _ rfl _ rfl 9 tkeyed fileR (fun n => .string (S n)) fV keyS valF b w.heap.size _ _ _ _ rfl hrg ?_ ?_)
      | go_in)
    · intro _ hl0
      have HE := Lib.hid (sumNot_end hl0 d.l)
      clear hl0 hrg
      go_wp2
      go_ret
      exact ⟨by rw [HE.out]; rfl, HB.out⟩
    · intro x f kl yd yp w1 cnt1 hkey hlx hv hat hrg1 hlt hg1 hs1 hen
      obtain rfl := keyS_lit hkey
      have hgt := valF_get hv hat
      have HS := Lib.hid (sumNot_step HP.out hgt hlx)
      have hle := sumNot_le (fun z => left z && !z.sameKey (.string x)) d.l
      have HU1 := HU.out
      obtain ⟨fb, fg⟩ := f
      replace hen : (Instr.entry (.pointer (some ⟨w.heap.size, 0, none⟩))).run Tryz.prog w1 = .ok (.tuple #[.string (S x), .agg #[.string (S fb), .int .i64 fg]]) w1 := hen
      have HB1 := Lib.hid (HB.out.grown hg1 HB.out.size (fun j hj => by cases hj; exact Nat.le_refl _))
      have z1 : IntKind.i64.wrap ((sumNot left d.l : Int) + ((S fb).size : Int)) = ((sumNot (fun z => left z && !z.sameKey (.string x)) d.l : Nat) : Int) := by
        rw [IntKind.wrap_i64, HS.out, S_size]; rw [HS.out] at hle; simp only at hle ⊢; omega
      have HL := Lib.hid hlt
      have HR := Lib.hid hrg
      have HR1 := Lib.hid hrg1
      clear hkey hlx hv hat hrg1 hlt hg1 hs1 hgt hle HU1 hrg
      go_wp2_with fail
      have hrg2 := HR1.out.alloc (.cells #[.string (S fb), .int .i64 fg] 119)
      go_roundw
      case rel => exact ⟨_, cnt1, rfl, hrg2, HB1.out.alloc HB1.out.size _⟩
      case measure => rw [hrg2.left_eq, HR.out.left_eq]; exact HL.out
theorem used_any (a b : Nat) (d : Dk) (w : World) (h : DkAt w a b d) :
    Calls Tryz.prog 70 #[.pointer (some ⟨a, 0, none⟩)] w fun z w' => z = .returned (.int .i64 (used d.l : Int)) ∧ Below w.heap.size w w' :=
  used_raw a b d w h.blk h.mp h.ok.up (Nat.le_trans h.ok.used h.ok.cap)
end Go.Proofs.YticfnfekkmkclaaGreatDoor.Disk

/-
  Whether a text is a file's name: the walks of disk.MayName and of the document's.
-/
namespace Go.Proofs.YticfnfekkmkclaaGreatDoor.Disk
open Go Go.RowKit

def byteAt (s : ByteArray) (j : Nat) : Nat := (s.data.toList.getD j 0).toNat
theorem byteAt_eq (s : ByteArray) (j : Nat) (h : j < s.size) : (s[j]'h).toNat = byteAt s j := by
  unfold byteAt
  rw [List.getD_eq_getElem?_getD, List.getElem?_eq_getElem (show j < s.data.toList.length from h)]; rfl
theorem byteAt_lt (s : ByteArray) (j : Nat) : byteAt s j < 256 := UInt8.toNat_lt _
theorem yes_step {p : Nat → Bool} {k : Nat} (h : Hid (∀ j, j < k → p j = true)) (hk : p k = true) : Hid (∀ j, j < k + 1 → p j = true) := fun j hj => by
  by_cases e : j = k
  · exact e ▸ hk
  · exact h j (by omega)
theorem size_pos_iff (s : ByteArray) : s.toList.isEmpty = !decide (0 < s.size) := by
  rw [ByteArray.toList_eq]
  rw [show s.size = s.data.toList.length from rfl]
  cases s.data.toList <;> simp


/-- whether a text is a name -/
def mayName (s : ByteArray) : Bool := decide (1 ≤ s.size) && decide (s.size ≤ 24) && (List.range s.size).all fun j => okC (byteAt s j)
theorem mayName_eq (n : Nm) : mayName (S n) = mayN n := by
  unfold mayName mayN
  rw [S_size]
  congr 1
  rw [Bool.eq_iff_iff, List.all_eq_true, List.all_eq_true]
  constructor
  · intro h c hc
    obtain ⟨i, hi, rfl⟩ := List.getElem_of_mem hc
    have := h i (List.mem_range.2 hi)
    simpa [byteAt, S, List.getD_eq_getElem?_getD, List.getElem?_eq_getElem hi] using this
  · intro h j hj
    have hj := List.mem_range.1 hj
    have := h _ (List.getElem_mem hj)
    simpa [byteAt, S, List.getD_eq_getElem?_getD, List.getElem?_eq_getElem hj] using this
theorem mayName_yes {s : ByteArray} (h1 : 1 ≤ s.size) (h2 : s.size ≤ 24) (h : ∀ j, j < s.size → okC (byteAt s j) = true) : mayName s = true := by
  unfold mayName
  rw [decide_eq_true h1, decide_eq_true h2, Bool.true_and, Bool.true_and, List.all_eq_true]
  exact fun j hj => h j (List.mem_range.1 hj)
theorem mayName_no {s : ByteArray} {j : Nat} (hj : j < s.size) (h : okC (byteAt s j) = false) : mayName s = false := by
  unfold mayName
  rw [show ((List.range s.size).all fun j => okC (byteAt s j)) = false from List.all_eq_false.2 ⟨j, List.mem_range.2 hj, by rw [h]; simp⟩, Bool.and_false]
theorem mayName_len {s : ByteArray} (h : ¬ (1 ≤ s.size ∧ s.size ≤ 24)) : mayName s = false := by
  unfold mayName
  by_cases h1 : 1 ≤ s.size
  · rw [decide_eq_false (show ¬ s.size ≤ 24 from fun h2 => h ⟨h1, h2⟩)]; simp
  · rw [decide_eq_false h1]; simp
theorem okC_iff {c : Nat} : okC c = true ↔ (97 ≤ c ∧ c ≤ 122) ∨ (65 ≤ c ∧ c ≤ 90) ∨ (48 ≤ c ∧ c ≤ 57) ∨ c = 45 ∨ c = 95 ∨ c = 46 := by unfold okC; simp [or_assoc]
theorem okC_yes {c : Nat} (h : okC c = true) : (97 ≤ c ∧ c ≤ 122) ∨ (65 ≤ c ∧ c ≤ 90) ∨ (48 ≤ c ∧ c ≤ 57) ∨ c = 45 ∨ c = 95 ∨ c = 46 := okC_iff.1 h
theorem okC_no {c : Nat} (h : okC c = false) : (123 ≤ c) ∨ c = 96 ∨ (91 ≤ c ∧ c ≤ 94) ∨ (58 ≤ c ∧ c ≤ 64) ∨ c = 47 ∨ c ≤ 44 := by
  have : ¬ ((97 ≤ c ∧ c ≤ 122) ∨ (65 ≤ c ∧ c ≤ 90) ∨ (48 ≤ c ∧ c ≤ 57) ∨ c = 45 ∨ c = 95 ∨ c = 46) := fun h1 => by rw [okC_iff.2 h1] at h; cases h
  omega
set_option maxRecDepth 100000 in
set_option maxHeartbeats 1000000 in
theorem mayName_any (s : ByteArray) (hsz0 : s.size ≤ maxLen) (w : World) :
    Calls Tryz.prog 99 #[.string s] w fun e w' => e = .returned (.bool (mayName s)) ∧ Below w.heap.size w w' := by
  unfold maxLen at hsz0
  by_cases hz : s.size = 0
  · have hE : s.toList = [] := by rw [ByteArray.toList_eq]; exact List.eq_nil_of_length_eq_zero hz
    have HR := Lib.hid (mayName_len (s := s) (by omega))
    clear hz
    go_enter Tryz.func99, Tryz.ntmps99
    go_wp2
    go_ret
    exact ⟨by rw [HR.out]; rfl, Below.refl _ _⟩
  · have hE0 : s.toList.isEmpty = false := by rw [size_pos_iff]; simp; omega
    have hE : ¬ s.toList = [] := by intro h; rw [h] at hE0; cases hE0
    by_cases hl : 24 < s.size
    · have HR := Lib.hid (mayName_len (s := s) (by omega))
      clear hz
      go_enter Tryz.func99, Tryz.ntmps99
      go_wp2
      go_ret
      exact ⟨by rw [HR.out]; rfl, Below.refl _ _⟩
    · have hl' : s.size ≤ 24 := by omega
      clear hl
      go_enter Tryz.func99, Tryz.ntmps99
      go_wp2
      go_loopw [] (fun wr => ∃ pos : Nat, pos ≤ s.size ∧ Hid (∀ j, j < pos → okC (byteAt s j) = true) ∧ wr.heap[w.heap.size]? = some (.stringIter s pos) ∧ Below w.heap.size w wr) (fun wr => s.size - wr.iterPos w.heap.size)
      case atStart => exact ⟨0, Nat.zero_le _, fun j hj => absurd hj (by omega), World.iter_heap w s 0, (Below.refl _ _).alloc (Nat.le_refl _) _⟩
      case round =>
        obtain ⟨pos, hpos, HY, hit, hB⟩ := hrel
        have hsz : w.heap.size < wr.heap.size := (Array.getElem?_eq_some_iff.1 hit).1
        by_cases hp : pos < s.size
        · by_cases hb : (s[pos]'hp).toNat < 128
          · have hnx : ∀ ty, (Instr.next (.pointer (some ⟨w.heap.size, 0, none⟩)) true ty).run Tryz.prog wr = _ := fun ty => Lib.run_next_ascii_at wr w.heap.size s pos ty hit hp hb
            have HBE := Lib.hid (byteAt_eq s pos hp)
            have HI := Lib.hid hit
            have HI2 := Lib.hid (Lib.iterAt_heap wr w.heap.size s pos (pos + 1) hit)
            have HB2 := Lib.hid (Lib.below_iterAt hB (k := w.heap.size) (Nat.le_refl _) s (pos + 1))
            generalize hc : (s[pos]'hp).toNat = c at hb hnx HBE
            generalize hW : wr.iterAt w.heap.size s (pos + 1) = W at *
            clear hc hW hB hit hsz
            cases hk : okC c with
            | true =>
              have hk2 := okC_yes hk
              have HK : Hid (okC (byteAt s pos) = true) := by rw [← HBE.out]; exact hk
              clear hk
              obtain ⟨a1, a2⟩ | ⟨a1, a2⟩ | ⟨a1, a2⟩ | a | a | a := hk2
              · have f1 : ((c : Int) == 45) = false := by simp; omega
                have f2 : ((c : Int) == 95) = false := by simp; omega
                have f3 : ((c : Int) == 46) = false := by simp; omega
                go_wp2
                go_roundw
                case rel => exact ⟨pos + 1, by omega, yes_step HY HK.out, HI2.out, HB2.out⟩
                case measure =>
                  simp only [World.iterPos, HI2.out, HI.out]
                  omega
              · have f1 : ((c : Int) == 45) = false := by simp; omega
                have f2 : ((c : Int) == 95) = false := by simp; omega
                have f3 : ((c : Int) == 46) = false := by simp; omega
                go_wp2
                go_roundw
                case rel => exact ⟨pos + 1, by omega, yes_step HY HK.out, HI2.out, HB2.out⟩
                case measure =>
                  simp only [World.iterPos, HI2.out, HI.out]
                  omega
              · have f1 : ((c : Int) == 45) = false := by simp; omega
                have f2 : ((c : Int) == 95) = false := by simp; omega
                have f3 : ((c : Int) == 46) = false := by simp; omega
                go_wp2
                go_roundw
                case rel => exact ⟨pos + 1, by omega, yes_step HY HK.out, HI2.out, HB2.out⟩
                case measure =>
                  simp only [World.iterPos, HI2.out, HI.out]
                  omega
              · obtain rfl : c = 45 := a
                go_wp2
                go_roundw
                case rel => exact ⟨pos + 1, by omega, yes_step HY HK.out, HI2.out, HB2.out⟩
                case measure =>
                  simp only [World.iterPos, HI2.out, HI.out]
                  omega
              · obtain rfl : c = 95 := a
                go_wp2
                go_roundw
                case rel => exact ⟨pos + 1, by omega, yes_step HY HK.out, HI2.out, HB2.out⟩
                case measure =>
                  simp only [World.iterPos, HI2.out, HI.out]
                  omega
              · obtain rfl : c = 46 := a
                go_wp2
                go_roundw
                case rel => exact ⟨pos + 1, by omega, yes_step HY HK.out, HI2.out, HB2.out⟩
                case measure =>
                  simp only [World.iterPos, HI2.out, HI.out]
                  omega
            | false =>
              have HR := Lib.hid (mayName_no hp (by rw [← HBE.out]; exact hk))
              have hk2 := okC_no hk
              clear hk
              obtain a1 | a | ⟨a1, a2⟩ | ⟨a1, a2⟩ | a | a2 := hk2
              · have f1 : ((c : Int) == 45) = false := by simp; omega
                have f2 : ((c : Int) == 95) = false := by simp; omega
                have f3 : ((c : Int) == 46) = false := by simp; omega
                go_wp2
                go_ret
                exact ⟨by rw [HR.out]; rfl, HB2.out⟩
              · obtain rfl : c = 96 := a
                go_wp2
                go_ret
                exact ⟨by rw [HR.out]; rfl, HB2.out⟩
              · have f1 : ((c : Int) == 45) = false := by simp; omega
                have f2 : ((c : Int) == 95) = false := by simp; omega
                have f3 : ((c : Int) == 46) = false := by simp; omega
                go_wp2
                go_ret
                exact ⟨by rw [HR.out]; rfl, HB2.out⟩
              · have f1 : ((c : Int) == 45) = false := by simp; omega
                have f2 : ((c : Int) == 95) = false := by simp; omega
                have f3 : ((c : Int) == 46) = false := by simp; omega
                go_wp2
                go_ret
                exact ⟨by rw [HR.out]; rfl, HB2.out⟩
              · obtain rfl : c = 47 := a
                go_wp2
                go_ret
                exact ⟨by rw [HR.out]; rfl, HB2.out⟩
              · have f1 : ((c : Int) == 45) = false := by simp; omega
                have f2 : ((c : Int) == 95) = false := by simp; omega
                have f3 : ((c : Int) == 46) = false := by simp; omega
                go_wp2
                go_ret
                exact ⟨by rw [HR.out]; rfl, HB2.out⟩
          · have hd := (decode_high s pos hp (by omega)).1
            have hnx : ∀ ty, (Instr.next (.pointer (some ⟨w.heap.size, 0, none⟩)) true ty).run Tryz.prog wr = _ := fun ty => Lib.run_next_any_at wr w.heap.size s pos ty hit hp
            have HR := Lib.hid (mayName_no hp (by
              have h1 : 123 ≤ byteAt s pos := by rw [← byteAt_eq s pos hp]; omega
              cases hk : okC (byteAt s pos) with
              | false => rfl
              | true => have := okC_yes hk; omega))
            have HB2 := Lib.hid (Lib.below_iterAt hB (k := w.heap.size) (Nat.le_refl _) s (pos + (Utf8.decode s pos).2))
            generalize (Utf8.decode s pos).1 = c at hd hnx
            generalize (Utf8.decode s pos).2 = n at hnx HB2
            generalize hW : wr.iterAt w.heap.size s (pos + n) = W at *
            clear hW hB hit hsz hb
            have f1 : ((c : Int) == 45) = false := by simp; omega
            have f2 : ((c : Int) == 95) = false := by simp; omega
            have f3 : ((c : Int) == 46) = false := by simp; omega
            go_wp2
            go_ret
            exact ⟨by rw [HR.out]; rfl, HB2.out⟩
        · have hnx : ∀ ty, (Instr.next (.pointer (some ⟨w.heap.size, 0, none⟩)) true ty).run Tryz.prog wr = _ := fun ty => Lib.run_next_end_at wr w.heap.size s pos ty hit hp
          have HB := Lib.hid hB
          have HR := Lib.hid (mayName_yes (s := s) (by omega) hl' (fun j hj => HY.out j (by omega)))
          clear hB hit hsz
          go_wp2
          go_ret
          exact ⟨by rw [HR.out]; rfl, HB.out⟩

theorem mayN_any (n : Nm) (hn : n.length ≤ maxLen) (w : World) :
    Calls Tryz.prog 99 #[.string (S n)] w fun e w' => e = .returned (.bool (mayN n)) ∧ Below w.heap.size w w' := by
  have h := mayName_any (S n) hn w
  rwa [mayName_eq] at h
end Go.Proofs.YticfnfekkmkclaaGreatDoor.Disk

/-
  What is done to a disk's map, and the one that counts it.
-/
namespace Go.Proofs.YticfnfekkmkclaaGreatDoor.Disk
open Go Go.RowKit Go.Maps

theorem S_take (l : List UInt8) (n : Nat) : (S l).extract 0 n = S (l.take n) := by
  apply ByteArray.ext
  apply Array.ext'
  rw [ByteArray.data_extract]
  simp [S]
theorem S_drop (l : List UInt8) (n : Nat) : (S l).extract n (S l).size = S (l.drop n) := by
  apply ByteArray.ext
  apply Array.ext'
  rw [ByteArray.data_extract, S_size]
  simp [S, List.take_of_length_le]
theorem S_app (l m : List UInt8) : S l ++ S m = S (l ++ m) := by
  apply ByteArray.ext
  apply Array.ext'
  rw [ByteArray.data_append]
  simp [S]
/-- the world behind a store into a map -/
noncomputable def upd (b : Nat) (n : Nm) (f : F) (w : World) : World := match (Instr.mapUpdate 113 (.map (some b)) (.string (S n)) (fV f)).run Tryz.prog w with | .ok _ w' => w' | _ => w
theorem upd_run {w : World} {a b : Nat} {d : Dk} (h : DkAt w a b d) (n : Nm) (hn : n.length ≤ maxLen) (f : F) (hf : f.ok) :
    (Instr.mapUpdate 113 (.map (some b)) (.string (S n)) (fV f)).run Tryz.prog w = .ok () (upd b n f w) ∧ ∃ m, (upd b n f w).ownsMap Tryz.prog 9 fileR b m ((toD fD d.l).put (.string n) (fD f)) ∧ w.mapTurned (upd b n f w) b := by
  obtain ⟨w', h1, h2, h3⟩ := h.mp.store tkeyed tmap (by have := h.ok.len; unfold maxLen; omega) (tkey n hn) (fileR_mk hf)
  have e : upd b n f w = w' := by unfold upd; rw [h1]
  rw [e]
  exact ⟨h1, _, h2, h3⟩
/-- ahead of the store, or behind it -/
def Ph (a b : Nat) (d : Dk) (l : List (Nm × F)) (W w' : World) : Prop := (Below W.heap.size W w' ∧ DkAt w' a b d) ∨ (Tn a b W w' ∧ DkAt w' a b { d with l := l })
theorem Ph.tn {a b : Nat} {d : Dk} {l : List (Nm × F)} {W w' : World} (h : Ph a b d l W w') : Tn a b W w' := h.elim (fun h => Tn.of h.1) (fun h => h.1)
theorem Ph.map {a b : Nat} {d : Dk} {l : List (Nm × F)} {W w' : World} (h : Ph a b d l W w') : w'.cell? ⟨a, 1, none⟩ = some (.map (some b)) := h.elim (fun h => h.2.cell.2.1) (fun h => h.2.cell.2.1)
theorem Ph.step {a b : Nat} {d : Dk} {l : List (Nm × F)} {W w w' : World} (h : Ph a b d l W w) (hb : Below w.heap.size w w') : Ph a b d l W w' :=
  h.imp (fun h => ⟨below_step h.1 hb, h.2.below hb⟩) (fun h => ⟨h.1.step hb, h.2.below hb⟩)
theorem Ph.run {a b : Nat} {d : Dk} {l : List (Nm × F)} {W w' : World} (h : Ph a b d l W w') (n : Nm) (hn : n.length ≤ maxLen) (f : F) (hf : f.ok) :
    (Instr.mapUpdate 113 (.map (some b)) (.string (S n)) (fV f)).run Tryz.prog w' = .ok () (upd b n f w') := h.elim (fun h => (upd_run h.2 n hn f hf).1) (fun h => (upd_run h.2 n hn f hf).1)
theorem ph_put {a b : Nat} {d : Dk} {W w' : World} (n : Nm) (hn : n.length ≤ maxLen) (f : F) (hf : f.ok) (hup : Up d.l) (hok : ({ d with l := put n f d.l } : Dk).ok) (h : Ph a b d (put n f d.l) W w') :
    Ph a b d (put n f d.l) W (upd b n f w') ∧ DoneBy a b d (put n f d.l) W (.returned (.tuple #[])) (upd b n f w') := by
  have key : Tn a b W (upd b n f w') ∧ DkAt (upd b n f w') a b { d with l := put n f d.l } := by
    rcases h with ⟨h1, h2⟩ | ⟨h1, h2⟩
    · obtain ⟨-, m, h3, h4⟩ := upd_run h2 n hn f hf
      exact ⟨(Tn.of h1).trans (Tn.map h4), h2.put n f h3 h4 hok⟩
    · obtain ⟨-, m, h3, h4⟩ := upd_run h2 n hn f hf
      have h5 := h2.put n f h3 h4
      simp only [put_put hup] at h5
      exact ⟨h1.trans (Tn.map h4), h5 hok⟩
  exact ⟨Or.inr key, rfl, key.2, key.1⟩
theorem F.ok.upTo {f : F} (h : f.ok) {n : Nat} (hn : n ≤ f.b.length) : (⟨f.b.take n, n⟩ : F).ok := ⟨by simp [Nat.min_eq_left hn], by have := h.2; simp only [List.length_take]; omega⟩

set_option maxRecDepth 100000 in
set_option maxHeartbeats 1000000 in
theorem upTo_any (f : F) (hf : f.ok) (n : Nat) (hn : n ≤ f.b.length) (w : World) :
    Calls Tryz.prog 82 #[fV f, .int .i64 (n : Int)] w fun z w' => z = .returned (fV ⟨f.b.take n, n⟩) ∧ Below w.heap.size w w' := by
  obtain ⟨fb, fg⟩ := f
  have HE := Lib.hid (S_take fb n)
  have hb : fb.length ≤ 1048576 := hf.2
  have hn0 : (0 : Int) ≤ (n : Int) := by omega
  have hn1 : (n : Int) ≤ ((S fb).size : Int) := by have := S_size fb; simp only at hn; omega
  have hn2 : n ≤ (S fb).size := hn
  clear hf hn
  unfold fV
  go_enter Tryz.func82, Tryz.ntmps82
  go_wp2_with fail
  rw [HE.out]
  go_wp2_with fail
  refine bodyPost_ret (v := .agg #[.string (S (fb.take n)), .int .i64 n]) (by simp [results, Tryz.results82, go_sem]) rfl ?_
  exact ⟨rfl, below2 _ _ _⟩

set_option maxRecDepth 100000 in
set_option maxHeartbeats 1000000 in
theorem append1_any (a b k0 k1 k2 k3 : Nat) (d : Dk) (n : Nm) (hn : n.length ≤ maxLen) (fb : List UInt8) (fg : Nat) (s : List UInt8) (hf : (⟨fb ++ s, fg⟩ : F).ok) (W : World) (h : DkAt W a b d) (h0 : Bx W k0 #[.string (S fb), .int .i64 (fg : Int)]) (h1 : Bx W k1 #[.string (S s)]) (h2 : Bx W k2 #[.pointer (some ⟨a, 0, none⟩)]) (h3 : Bx W k3 #[.string (S n)]) (hok : ({ d with l := put n ⟨fb ++ s, fg⟩ d.l } : Dk).ok) :
    Calls Tryz.prog 101 #[.pointer (some ⟨k0, 0, none⟩), .pointer (some ⟨k1, 0, none⟩), .pointer (some ⟨k2, 0, none⟩), .pointer (some ⟨k3, 0, none⟩)] W (DoneBy a b d (put n ⟨fb ++ s, fg⟩ d.l) W) := by
  have hmx : Tryz.prog.follows .mixedOrders = true := by kernel_rfl
  have e0a := h0.cell 0
  have e0b := h0.cell 1
  simp only [List.getElem?_toArray, List.getElem?_cons_zero, List.getElem?_cons_succ] at e0a e0b
  have e1 := h1.cell 0
  simp only [List.getElem?_toArray, List.getElem?_cons_zero] at e1
  have e2 := h2.cell 0
  simp only [List.getElem?_toArray, List.getElem?_cons_zero] at e2
  have e3 := h3.cell 0
  simp only [List.getElem?_toArray, List.getElem?_cons_zero] at e3
  obtain ⟨c0, c1, c2, c3, c4⟩ := h.cell
  have HD := Lib.hid h
  have HK := Lib.hid (tkey n hn)
  have HO := Lib.hid hok
  have HF := Lib.hid hf
  have z1 : (S fb).size ≤ 1048576 := by have := hf.2; simp only [List.length_append] at this; have := S_size fb; omega
  have z2 : (S s).size ≤ 1048576 := by have := hf.2; simp only [List.length_append] at this; have := S_size s; omega
  have hadd : ∀ w : World, (Op.stringOp .add (S fb) (S s)).run Tryz.prog w = .ok (.string (S (fb ++ s))) w := fun w => by
    rw [← S_app]
    have : ((S fb).size : Int) + ((S s).size : Int) ≤ 9223372036854775807 := by omega
    simp [Op.stringOp, this, go_sem]
  clear h hn hok hf z1 z2
  go_enter Tryz.func101, Tryz.ntmps101
  go_wp2_with fail
  go_still_tail 12, (by kernel_rfl)
  change wpList _ _ _ _ _ (W.drewN 1)
  generalize hW : W.drewN 1 = W1
  have HT := Lib.hid (show Tn a b W W1 by rw [← hW]; exact (Tn.refl a b W).dn 1)
  have HD1 := Lib.hid (show DkAt W1 a b d by rw [← hW]; exact HD.out.dn 1)
  clear hW c0 c1 c2 c3 c4 e0a e0b e1 e2 e3 h0 h1 h2 h3 hadd
  go_wp2_with (at_mapUpdate; refine wpList_mapUpdate_in _ rfl _ _ _ 113 rfl 9 119 tkeyed tmap fileR b _ (toD fD d.l) rfl HD1.out.mp (by have := HD1.out.ok.len; unfold maxLen; omega) _ _ (.string n) rfl rfl HK.out (fD ⟨fb ++ s, fg⟩) [] (fileR_mk HF.out) ?_; intro w1 hown hturn)
  go_end0
  exact ⟨rfl, HD1.out.put n _ hown hturn HO.out, HT.out.trans (Tn.map hturn)⟩

set_option maxRecDepth 100000 in
set_option maxHeartbeats 1000000 in
theorem sync1_any (a b k0 k1 k2 : Nat) (d : Dk) (n : Nm) (hn : n.length ≤ maxLen) (fb : List UInt8) (fg : Nat) (hf : (⟨fb, fg⟩ : F).ok) (W : World) (h : DkAt W a b d) (h0 : Bx W k0 #[.string (S fb), .int .i64 (fg : Int)]) (h1 : Bx W k1 #[.pointer (some ⟨a, 0, none⟩)]) (h2 : Bx W k2 #[.string (S n)]) (e0 : k0 ≠ a) (e1 : k1 ≠ a) (e2 : k2 ≠ a) (hok : ({ d with l := put n ⟨fb, fb.length⟩ d.l } : Dk).ok) :
    Calls Tryz.prog 102 #[.pointer (some ⟨k0, 0, none⟩), .pointer (some ⟨k1, 0, none⟩), .pointer (some ⟨k2, 0, none⟩)] W (DoneBy a b d (put n ⟨fb, fb.length⟩ d.l) W) := by
  have hmx : Tryz.prog.follows .mixedOrders = true := by kernel_rfl
  have HS : Hid (∀ w' : World, Ph a b d (put n ⟨fb, fb.length⟩ d.l) W w' → Ph a b d (put n ⟨fb, fb.length⟩ d.l) W w' ∧ w'.cell? ⟨a, 1, none⟩ = some (.map (some b)) ∧ w'.cell? ⟨k0, 0, none⟩ = some (.string (S fb)) ∧ w'.cell? ⟨k0, 1, none⟩ = some (.int .i64 (fg : Int)) ∧ w'.cell? ⟨k1, 0, none⟩ = some (.pointer (some ⟨a, 0, none⟩)) ∧ w'.cell? ⟨k2, 0, none⟩ = some (.string (S n))) := fun w' hp => by
    have ht := hp.tn
    exact ⟨hp, hp.map, by rw [(h0.tn h e0 ht).cell 0]; rfl, by rw [(h0.tn h e0 ht).cell 1]; rfl, by rw [(h1.tn h e1 ht).cell 0]; rfl, by rw [(h2.tn h e2 ht).cell 0]; rfl⟩
  have HF0 := Lib.hid hf
  have HM := Lib.hid (show fb.length ≤ (⟨fb, fg⟩ : F).b.length from Nat.le_refl _)
  have hs := S_size fb
  have HF := Lib.hid (show F.ok ⟨fb, fb.length⟩ from by have := hf.upTo HM.out; simpa using this)
  have HU : Hid (∀ w' : World, Ph a b d (put n ⟨fb, fb.length⟩ d.l) W w' → Ph a b d (put n ⟨fb, fb.length⟩ d.l) W (upd b n ⟨fb, fb.length⟩ w') ∧ DoneBy a b d (put n ⟨fb, fb.length⟩ d.l) W (.returned (.tuple #[])) (upd b n ⟨fb, fb.length⟩ w')) := fun w' hp => ph_put n hn _ HF.out h.ok.up hok hp
  have hmu : ∀ w' : World, Ph a b d (put n ⟨fb, fb.length⟩ d.l) W w' → (Instr.mapUpdate 113 (.map (some b)) (.string (S n)) (fV ⟨fb, fb.length⟩)).run Tryz.prog w' = .ok () (upd b n ⟨fb, fb.length⟩ w') := fun w' hp => hp.run n hn _ HF.out
  obtain ⟨q1, q2, q3, q4, q5, q6⟩ := HS.out W (Or.inl ⟨Below.refl _ _, h⟩)
  have r1 := (HS.out W.drew (Or.inl ⟨(Below.refl _ _).drew, h.same rfl rfl⟩)).1
  clear h hn hok hf h0 h1 h2
  go_enter Tryz.func102, Tryz.ntmps102
  go_wp2_with fail
  go_region_held3 (fun w' => Ph a b d (put n ⟨fb, fb.length⟩ d.l) W w' ∧ w'.cell? ⟨a, 1, none⟩ = some (.map (some b)) ∧ w'.cell? ⟨k0, 0, none⟩ = some (.string (S fb)) ∧ w'.cell? ⟨k0, 1, none⟩ = some (.int .i64 (fg : Int)) ∧ w'.cell? ⟨k1, 0, none⟩ = some (.pointer (some ⟨a, 0, none⟩)) ∧ w'.cell? ⟨k2, 0, none⟩ = some (.string (S n)))
    (first | assumption | (refine ⟨?_, ?_, ?_, ?_, ?_, ?_⟩ <;> assumption) | exact HS.out _ (HU.out _ (by assumption)).1)
    ((first | (go_at_call 82; refine (upTo_any ⟨fb, fg⟩ HF0.out fb.length HM.out _).mono ?_; rintro z w' ⟨rfl, hb4⟩; obtain ⟨p1, p2, p3, p4, p5, p6⟩ := HS.out w' (Ph.step (by assumption) hb4); clear hb4)))
  go_end0
  exact (HU.out _ (by assumption)).2

set_option maxRecDepth 100000 in
set_option maxHeartbeats 1000000 in
theorem delete1_any (a b k0 k1 : Nat) (d : Dk) (n : Nm) (hn : n.length ≤ maxLen) (W : World) (h : DkAt W a b d) (h0 : Bx W k0 #[.pointer (some ⟨a, 0, none⟩)]) (h1 : Bx W k1 #[.string (S n)]) (hok : ({ d with l := del n d.l } : Dk).ok) :
    Calls Tryz.prog 87 #[.pointer (some ⟨k0, 0, none⟩), .pointer (some ⟨k1, 0, none⟩)] W (DoneBy a b d (del n d.l) W) := by
  have hmx : Tryz.prog.follows .mixedOrders = true := by kernel_rfl
  have e0 := h0.cell 0
  simp only [List.getElem?_toArray, List.getElem?_cons_zero] at e0
  have e1 := h1.cell 0
  simp only [List.getElem?_toArray, List.getElem?_cons_zero] at e1
  obtain ⟨c0, c1, c2, c3, c4⟩ := h.cell
  have HD := Lib.hid h
  have HK := Lib.hid (tkey n hn)
  have HO := Lib.hid hok
  clear h hn hok
  go_enter Tryz.func87, Tryz.ntmps87
  go_wp2_with fail
  go_still_tail 5, (by kernel_rfl)
  change wpList _ _ _ _ _ (W.drewN 1)
  generalize hW : W.drewN 1 = W1
  have HT := Lib.hid (show Tn a b W W1 by rw [← hW]; exact (Tn.refl a b W).dn 1)
  have HD1 := Lib.hid (show DkAt W1 a b d by rw [← hW]; exact HD.out.dn 1)
  clear hW c0 c1 c2 c3 c4 e0 e1 h0 h1
  go_wp2_with (at_delete; refine wpList_delete_own _ rfl _ _ 113 9 rfl 119 tkeyed tmap fileR b _ (toD fD d.l) rfl HD1.out.mp _ (.string n) rfl HK.out ?_; intro w1 hown hturn)
  go_end0
  exact ⟨rfl, HD1.out.del n hown hturn HO.out, HT.out.trans (Tn.map hturn)⟩
end Go.Proofs.YticfnfekkmkclaaGreatDoor.Disk

/-
  A file that is called otherwise; the one that counts what is done.
-/
namespace Go.Proofs.YticfnfekkmkclaaGreatDoor.Disk
open Go Go.RowKit Go.Maps

set_option maxRecDepth 100000 in
set_option maxHeartbeats 1000000 in
theorem rename1_any (a b k0 k1 k2 k3 : Nat) (d : Dk) (n m : Nm) (hn : n.length ≤ maxLen) (hm : m.length ≤ maxLen) (fb : List UInt8) (fg : Nat) (hf : (⟨fb, fg⟩ : F).ok) (W : World) (h : DkAt W a b d) (h0 : Bx W k0 #[.string (S fb), .int .i64 (fg : Int)]) (h1 : Bx W k1 #[.pointer (some ⟨a, 0, none⟩)]) (h2 : Bx W k2 #[.string (S m)]) (h3 : Bx W k3 #[.string (S n)])
    (e1 : k1 ≠ a) (e3 : k3 ≠ a) (hok : ({ d with l := del n (put m ⟨fb, fg⟩ d.l) } : Dk).ok) :
    Calls Tryz.prog 103 #[.pointer (some ⟨k0, 0, none⟩), .pointer (some ⟨k1, 0, none⟩), .pointer (some ⟨k2, 0, none⟩), .pointer (some ⟨k3, 0, none⟩)] W (DoneBy a b d (del n (put m ⟨fb, fg⟩ d.l)) W) := by
  have hmx : Tryz.prog.follows .mixedOrders = true := by kernel_rfl
  have HX1 : Hid (∀ w' : World, Tn a b W w' → w'.cell? ⟨k1, 0, none⟩ = some (.pointer (some ⟨a, 0, none⟩)) ∧ w'.cell? ⟨k3, 0, none⟩ = some (.string (S n)) ∧ w'.heap[a]? = w'.heap[a]?) := fun w' ht => ⟨(h1.tn h e1 ht).cell 0, (h3.tn h e3 ht).cell 0, rfl⟩
  have f0a := h0.cell 0
  have f0b := h0.cell 1
  have f2 := h2.cell 0
  simp only [List.getElem?_toArray, List.getElem?_cons_zero, List.getElem?_cons_succ] at f0a f0b f2
  obtain ⟨f1, f3, -⟩ := HX1.out W (Tn.refl _ _ _)
  obtain ⟨c0, c1, c2, c3, c4⟩ := h.cell
  have HD := Lib.hid h
  have HK := Lib.hid (tkey n hn)
  have HM := Lib.hid (tkey m hm)
  have HO := Lib.hid hok
  have HF := Lib.hid hf
  clear h hn hm hok hf h0 h1 h2 h3 e1 e3
  go_enter Tryz.func103, Tryz.ntmps103
  go_wp2_with fail
  go_still_tail 6, (by kernel_rfl)
  change wpList _ _ _ _ _ (W.drewN 1)
  generalize hW : W.drewN 1 = W1
  have HT := Lib.hid (show Tn a b W W1 by rw [← hW]; exact (Tn.refl a b W).dn 1)
  have HD1 := Lib.hid (show DkAt W1 a b d by rw [← hW]; exact HD.out.dn 1)
  clear hW c0 c1 c2 c3 c4 f0a f0b f1 f2 f3
  go_wp2_with (at_mapUpdate; refine wpList_mapUpdate_in _ rfl _ _ _ 113 rfl 9 119 tkeyed tmap fileR b _ (toD fD d.l) rfl HD1.out.mp (by have := HD1.out.ok.len; unfold maxLen; omega) _ _ (.string m) rfl rfl HM.out (fD ⟨fb, fg⟩) [] (fileR_mk HF.out) ?_; intro w1 hown hturn)
  have HT1 := Lib.hid (HT.out.trans (Tn.map hturn))
  have HB1 := Lib.hid ((hturn.grown.block a HD1.out.lt.1 (fun e => HD1.out.ne (by injection e))).trans HD1.out.blk)
  rw [toD_put] at hown
  have HO1 := Lib.hid hown
  obtain ⟨f1, f3, -⟩ := HX1.out w1 HT1.out
  have c1 : w1.cell? ⟨a, 1, none⟩ = some (.map (some b)) := cell_row HB1.out 1
  clear hown hturn
  go_wp2_with fail
  go_still_tail 5, (by kernel_rfl)
  change wpList _ _ _ _ _ (w1.drewN 1)
  generalize hW : w1.drewN 1 = W2
  have HT2 := Lib.hid (show Tn a b W W2 by rw [← hW]; exact HT1.out.dn 1)
  have HB2 := Lib.hid (show W2.heap[a]? = some (.cells (dkV d b) 117 (0, 0)) by rw [← hW]; exact HB1.out)
  have HO2 := Lib.hid (show W2.ownsMap Tryz.prog 9 fileR b _ (toD fD (put m ⟨fb, fg⟩ d.l)) by rw [← hW]; exact owns_block HO1.out rfl)
  clear hW c1 f1 f3
  go_wp2_with (at_delete; refine wpList_delete_own _ rfl _ _ 113 9 rfl 119 tkeyed tmap fileR b _ (toD fD (put m ⟨fb, fg⟩ d.l)) rfl HO2.out _ (.string n) rfl HK.out ?_; intro w3 hown hturn)
  go_end0
  refine ⟨rfl, ⟨?_, ?_, HO.out⟩, HT2.out.trans (Tn.map hturn)⟩
  · exact (hturn.grown.block a (row_lt HB2.out) (fun e => HD1.out.ne (by injection e))).trans HB2.out
  · rw [toD_del] at hown
    have := owns_size hown
    rwa [toD_size] at this

def cntE (d : Dk) : Nat := if d.cut = true ∧ d.left = 0 then 45 else 0
def cntD (d : Dk) (l : List (Nm × F)) : Dk := if d.cut = true ∧ d.left = 0 then { d with gone := true } else { d with left := d.left - 1, l := l }
def CntRes (a b : Nat) (d : Dk) (l : List (Nm × F)) (w : World) (z : Ending) (w' : World) : Prop :=
  z = .returned (.int .i64 (cntE d : Int)) ∧ DkAt w' a b (cntD d l) ∧ Tn a b w w'
theorem DkAt.set2 {w : World} {a b : Nat} {d : Dk} (h : DkAt w a b d) (x : Bool) : DkAt (w.setCell ⟨a, 2, none⟩ (.bool x)) a b { d with gone := x } :=
  h.set (d' := { d with gone := x }) (by rw [heap_set h.blk]; rfl) (heap_far _ _ h.ne.symm) rfl { h.ok with }
theorem DkAt.set4 {w : World} {a b : Nat} {d : Dk} (h : DkAt w a b d) (n : Nat) (hn : n ≤ 9223372036854775807) (hc : d.cut = false → n = 0) : DkAt (w.setCell ⟨a, 4, none⟩ (.int .i64 (n : Int))) a b { d with left := n } :=
  h.set (d' := { d with left := n }) (by rw [heap_set h.blk]; rfl) (heap_far _ _ h.ne.symm) rfl { h.ok with left := hn, cut := hc }

set_option maxRecDepth 100000 in
set_option maxHeartbeats 1000000 in
theorem count_any (a b g : Nat) (cb : Array Value) (d : Dk) (l : List (Nm × F)) (w : World) (h : DkAt w a b d) (eg : ∀ args w, (callFunc g args).run Tryz.prog w = .ok (.enter g args) w)
    (hdo : ∀ W, DkAt W a b { d with left := d.left - 1 } → Tn a b w W → Calls Tryz.prog g cb W (DoneBy a b { d with left := d.left - 1 } l W)) :
    Calls Tryz.prog 86 #[.pointer (some ⟨a, 0, none⟩), .func (.func g) #[] cb] w (CntRes a b d l w) := by
  obtain ⟨c0, c1, c2, c3, c4⟩ := h.cell
  have fz := h.fz
  have HD := Lib.hid h
  have HDO := Lib.hid hdo
  clear h hdo
  obtain ⟨cap, l0, gone, cut, left⟩ := d
  simp only at c0 c1 c2 c3 c4
  cases cut with
  | false =>
    obtain rfl : left = 0 := HD.out.ok.cut rfl
    have HC := HDO.out w HD.out (Tn.refl _ _ _)
    have HC2 := Lib.hid HC
    clear HC
    go_enter Tryz.func86, Tryz.ntmps86
    go_wp2_with (first
      | (go_at_fn g; refine HC2.out.mono ?_; rintro z w' ⟨rfl, h1, h2⟩; have H1 := Lib.hid h1; have H2 := Lib.hid h2; clear h1 h2)
      | go_in)
    go_ret
    exact ⟨by simp [cntE], by simpa [cntD] using H1.out, H2.out⟩
  | true =>
    cases left with
    | zero =>
      have c4' : w.cell? ⟨a, 4, none⟩ = some (.int .i64 0) := c4
      clear c4
      go_enter Tryz.func86, Tryz.ntmps86
      go_wp2_with fail
      go_ret
      exact ⟨by simp [cntE], by simpa [cntD] using HD.out.set2 true, Tn.set _ _ _ _ _⟩
    | succ k =>
      have hk : k ≤ 9223372036854775806 := by have := HD.out.ok.left; simp only at this; omega
      have z1 : ((((k + 1 : Nat) : Int)) == 0) = false := by simp; omega
      have z2 : IntKind.i64.wrap (((k + 1 : Nat) : Int) - 1) = (k : Int) := by rw [IntKind.wrap_i64]; omega
      have HC := HDO.out (w.setCell ⟨a, 4, none⟩ (.int .i64 (k : Int))) (HD.out.set4 k (by omega) (fun h => by cases h)) (Tn.set _ _ _ _ _)
      have HC2 := Lib.hid HC
      clear HC
      generalize hz : (((k + 1 : Nat) : Int)) = zk at c4 z1 z2
      clear hz
      go_enter Tryz.func86, Tryz.ntmps86
      go_wp2_with (first
        | (go_at_fn g; refine HC2.out.mono ?_; rintro z w' ⟨rfl, h1, h2⟩; have H1 := Lib.hid h1; have H2 := Lib.hid h2; clear h1 h2)
        | go_in)
      go_ret
      exact ⟨by simp [cntE], by simpa [cntD] using H1.out, (Tn.set _ _ _ _ _).trans H2.out⟩
end Go.Proofs.YticfnfekkmkclaaGreatDoor.Disk
