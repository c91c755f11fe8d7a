/-
  Find: the outermost Error of an Op.
-/
import Derived.Test.YtdaeiapogipjbaaDoorD14
namespace Go.Proofs.YtdaeiapogipjbaaDoor.Fault
open Go Go.RowKit
attribute [local go_sem] Oper.semAt_some

/-- the first one of that Op -/
def firstOp (op : ByteArray) : List Wr → Option Wr
  | [] => none
  | x :: xs => if x.op = op then some x else firstOp op xs
theorem firstOp_none {op : ByteArray} {xs : List Wr} (h : ∀ i, i < xs.length → (xs.getD i default).op ≠ op) : firstOp op xs = none := by
  induction xs with
  | nil => rfl
  | cons x xs ih =>
    have h0 := h 0 (by simp)
    simp at h0
    unfold firstOp
    rw [if_neg h0]
    exact ih fun i hi => by have := h (i + 1) (by simp; exact hi); simpa using this
theorem firstOp_some {op : ByteArray} {xs : List Wr} {i : Nat} (hi : i < xs.length) (h : ∀ j, j < i → (xs.getD j default).op ≠ op) (he : (xs.getD i default).op = op) : firstOp op xs = some (xs.getD i default) := by
  induction xs generalizing i with
  | nil => simp at hi
  | cons x xs ih =>
    cases i with
    | zero => simp at he; unfold firstOp; rw [if_pos he]; rfl
    | succ k =>
      have h0 := h 0 (by omega)
      simp at h0
      unfold firstOp
      rw [if_neg h0]
      have := ih (i := k) (by simpa using hi) (fun j hj => by have := h (j + 1) (by omega); simpa using this) (by simpa using he)
      simpa using this
/-- what Find tells -/
def foundV (o : Option Wr) : Value := match o with
  | none => .tuple #[.string ⟨#[]⟩, .int .i64 0, .bool false]
  | some x => .tuple #[.string x.nm, .int .i64 x.pl, .bool true]

/-- what a region leaves that ends normally, in just that world -/
def Exactly (A : Act) (Y : World) : Exit → Act → World → Prop
  | .normal, a', X' => a' = A ∧ X' = Y
  | _, _, _ => False
theorem exactly_normal {A : Act} {Y : World} {ex : Exit} {a' : Act} {X' : World} (h : Exactly A Y ex a' X') : ex = .normal ∧ a' = A ∧ X' = Y := by
  cases ex <;> first | exact ⟨rfl, h⟩ | exact h.elim
theorem boxed_below {W W' : World} {c : Nat} {t : TypeId} {v : Value} (h : Boxed W c t v) (hb : Below W.heap.size W W') : Boxed W' c t v := (hb.block c h.lt).trans h
theorem set_size (W : World) (a : Addr) (v : Value) : (W.setCell a v).heap.size = W.heap.size := by simp [World.setCell]
theorem toList_inj {a b : ByteArray} (h : a.toList = b.toList) : a = b := by
  rw [ByteArray.toList_eq, ByteArray.toList_eq] at h
  cases a; cases b
  simp at h
  rw [h]

set_option maxRecDepth 100000 in
set_option maxHeartbeats 4000000 in
theorem find_in (p : Nat → Nat) (e : Nat → Value) (xs : List Wr) (base : Value) (op : ByteArray) (w : World) (C : Chain w.heap.size w p e xs) (hbase : e xs.length = base) (hP : Plain base) (hI : Ifc base) (hN : NoUnw base) (hlen : xs.length < 1099511627776) :
    CallsIn Fence.wide 0 Tryd.prog 13 #[e 0, .string op] w fun ev w' => ev = .returned (foundV (firstOp op xs)) ∧ Below w.heap.size w w' := by
  have h0 : Ifc (e 0) := C.ifc (by rw [hbase]; exact hI) 0 (Nat.zero_le _)
  have hwr := fun W => wraps_in 0 (e 0) h0 W
  refine callsIn_of_wp_marks Tryd.func13 rfl trivial ?_ rfl
  simp only [Tryd.ntmps13, List.size_toArray, List.length_cons, List.length_nil, Nat.reduceAdd, Nat.reduceSub, Array.replicate_succ, Array.replicate_zero, List.push_toArray, List.append_toArray, List.nil_append, List.cons_append]
  obtain ⟨W0, hW0⟩ : ∃ W0, ((((w.alloc (.cells #[.string op] 9)).alloc (.cells #[.string ⟨#[]⟩] 9)).alloc (.cells #[.int .i64 0] 2)).alloc (.cells #[.bool false] 4)).alloc (.cells #[e 0] 29) = W0 := ⟨_, rfl⟩
  have hsz : W0.heap.size = w.heap.size + 5 := by rw [← hW0]; simp
  have bO : Boxed W0 w.heap.size 9 (.string op) := by rw [← hW0]; exact ((((Boxed.new w _ _).alloc _).alloc _).alloc _).alloc _
  have bN : Boxed W0 (w.heap.size + 1) 9 (.string ⟨#[]⟩) := by
    rw [← hW0]; have := (((Boxed.new (w.alloc (.cells #[.string op] 9)) 9 (.string ⟨#[]⟩)).alloc (.cells #[.int .i64 0] 2)).alloc (.cells #[.bool false] 4)).alloc (.cells #[e 0] 29); simpa using this
  have bP : Boxed W0 (w.heap.size + 1 + 1) 2 (.int .i64 0) := by
    rw [← hW0]; have := ((Boxed.new ((w.alloc (.cells #[.string op] 9)).alloc (.cells #[.string ⟨#[]⟩] 9)) 2 (.int .i64 0)).alloc (.cells #[.bool false] 4)).alloc (.cells #[e 0] 29); simpa using this
  have bI : Boxed W0 (w.heap.size + 1 + 1 + 1) 4 (.bool false) := by
    rw [← hW0]; have := (Boxed.new (((w.alloc (.cells #[.string op] 9)).alloc (.cells #[.string ⟨#[]⟩] 9)).alloc (.cells #[.int .i64 0] 2)) 4 (.bool false)).alloc (.cells #[e 0] 29); simpa using this
  have bB : Boxed W0 (w.heap.size + 1 + 1 + 1 + 1) 29 (e 0) := by
    rw [← hW0]; have := Boxed.new ((((w.alloc (.cells #[.string op] 9)).alloc (.cells #[.string ⟨#[]⟩] 9)).alloc (.cells #[.int .i64 0] 2)).alloc (.cells #[.bool false] 4)) 29 (e 0); simpa using this
  have hB0 : Below w.heap.size w W0 := by rw [← hW0]; exact (((((Below.refl _ w).alloc (Nat.le_refl _) _).alloc (by simp) _).alloc (by simp; omega) _).alloc (by simp; omega) _).alloc (by simp; omega) _
  have HLEN := Lib.hid hlen
  clear hlen h0
  · -- (one way)
    gi_wp2_with (refine ⟨trivial, rfl, ?_⟩; gi_at_call 26; refine (hwr _).mono ?_; rintro ev w' ⟨rfl, rfl⟩)
    try rw [hW0]
    clear hwr; try clear hW0
    refine ranged (gf := 39) (lb := #[.pointer (some ⟨w.heap.size + 1 + 1 + 1 + 1, 0, none⟩)]) (N := xs.length) (o := w.heap.size) (b := w.heap.size + 4) ?hg (enters_of Tryd.func39 (by kernel_rfl) rfl) (by omega) (by omega) rfl
      (wraps_seq w.heap.size (w.heap.size + 1 + 1 + 1 + 1) p e xs base W0 bB (C.below hB0 (Nat.le_refl _)) (by omega) hbase hP hI hN HLEN.out)
      (fun hi i X => ((∀ j, j < i → (xs.getD j default).op ≠ op) ∧ Boxed X w.heap.size 9 (.string op)) ∧ (Boxed X (w.heap.size + 1) 9 (.string ⟨#[]⟩) ∧ Boxed X (w.heap.size + 1 + 1) 2 (.int .i64 0) ∧ Boxed X (w.heap.size + 1 + 1 + 1) 4 (.bool false)) ∧ Below w.heap.size w X)
      (fun c hi X => ∃ y, (c = .ret ∧ firstOp op xs = some y) ∧ (Boxed X (w.heap.size + 1) 9 (.string y.nm) ∧ Boxed X (w.heap.size + 1 + 1) 2 (.int .i64 y.pl) ∧ Boxed X (w.heap.size + 1 + 1 + 1) 4 (.bool true)) ∧ Below w.heap.size w X)
      (fun hi i _ => ((stays_pure _ _).and (stays_boxed (by omega) _ _)).and (((stays_boxed (by omega) _ _).and ((stays_boxed (by omega) _ _).and (stays_boxed (by omega) _ _))).and (stays_below (Nat.le_refl _) (by omega))))
      (fun c hi _ W W' row hs hg hr => by
        obtain ⟨y, h1, h2⟩ := hs
        exact ⟨y, h1, (((stays_boxed (by omega) _ _).and ((stays_boxed (by omega) _ _).and (stays_boxed (by omega) _ _))).and (stays_below (Nat.le_refl _) (by omega))) W W' row h2 hg hr⟩)
      (fun X hb _ => ⟨⟨fun j hj => absurd hj (by omega), (hb.block _ (by omega)).trans bO⟩, ⟨(hb.block _ (by omega)).trans bN, (hb.block _ (by omega)).trans bP, (hb.block _ (by omega)).trans bI⟩, hB0.trans (hb.mono (by omega))⟩) ?_ ?assign ?body ?done ?stop
    case hg => rfl
    case assign =>
      intro l2 i X K hi hK
      gi_wp2
      exact hK
    case body =>
      rintro l2 hi i X hh1 hh2 hi' ⟨⟨hnot, hO⟩, ⟨hN1, hP1, hI1⟩, hBX⟩
      have C2 : Chain w.heap.size X p e xs := C.below hBX (Nat.le_refl _)
      have k0 := C2.c0 i hi'
      have k1 := C2.c1 i hi'
      have k2 := C2.c2 i hi'
      have hco := hO.cell
      have n1 := hN1.cell; have n2 := hN1.frozen; have p1 := hP1.cell; have p2 := hP1.frozen; have i1 := hI1.cell; have i2 := hI1.frozen
      have HN1 := Lib.hid hN1
      have HP1 := Lib.hid hP1
      have HI1 := Lib.hid hI1
      have HO := Lib.hid hO
      have HBX := Lib.hid hBX
      have HNOT := Lib.hid hnot
      have HFS := Lib.hid (fun (h : (xs.getD i default).op = op) => firstOp_some hi' hnot h)
      generalize hy0 : xs.getD i default = y at k0 k1 k2 HFS
      have HY := Lib.hid hy0
      clear hy0
      have hmx : Tryd.prog.follows .mixedOrders = true := by kernel_rfl
      clear hN1 hP1 hI1 hO hBX hnot C2
      gi_wp2
      refine wpIn_mono (Q := Exactly { tmps := #[e 0, .string op, undef, .pointer (some ⟨w.heap.size, 0, none⟩), .pointer (some ⟨w.heap.size + 1, 0, none⟩), .pointer (some ⟨w.heap.size + 1 + 1, 0, none⟩), .pointer (some ⟨w.heap.size + 1 + 1 + 1, 0, none⟩), .pointer (some ⟨p i, 0, none⟩), e 0, .func (.func 39) #[] #[.pointer (some ⟨w.heap.size + 1 + 1 + 1 + 1, 0, none⟩)], .pointer (some ⟨p i, 0, none⟩), .pointer (some ⟨p i, 0, none⟩), .pointer (some ⟨p i, 0, none⟩), .pointer (some ⟨p i, 0, none⟩), .string y.op, .string op, .bool (y.op.toList == op.toList), undef, undef, undef, undef, undef, undef, undef, undef], defers := [] } X.drew) ?region ?after
      case region =>
        gi_region_with_o (fail)
        all_goals exact ⟨rfl, rfl⟩
      case after =>
        intro ex a' X' hq
        obtain ⟨rfl, rfl, rfl⟩ := exactly_normal hq
        cases ht : (y.op.toList == op.toList)
        · have hne : y.op ≠ op := fun h => by rw [h] at ht; simp at ht
          gi_wp2
          refine ⟨Kp.below (below_drew _ _) hh2, ⟨fun j hj => ?_, boxed_below HO.out (below_drew _ _)⟩, ⟨boxed_below HN1.out (below_drew _ _), boxed_below HP1.out (below_drew _ _), boxed_below HI1.out (below_drew _ _)⟩, HBX.out.trans (below_drew _ _)⟩
          rcases Nat.lt_or_ge j i with h | h
          · exact HNOT.out j h
          · obtain rfl : j = i := by omega
            rw [HY.out]; exact hne
        · gi_wp2
          refine wpIn_mono (Q := Exactly { tmps := #[e 0, .string op, undef, .pointer (some ⟨w.heap.size, 0, none⟩), .pointer (some ⟨w.heap.size + 1, 0, none⟩), .pointer (some ⟨w.heap.size + 1 + 1, 0, none⟩), .pointer (some ⟨w.heap.size + 1 + 1 + 1, 0, none⟩), .pointer (some ⟨p i, 0, none⟩), e 0, .func (.func 39) #[] #[.pointer (some ⟨w.heap.size + 1 + 1 + 1 + 1, 0, none⟩)], .pointer (some ⟨p i, 0, none⟩), .pointer (some ⟨p i, 0, none⟩), .pointer (some ⟨p i, 0, none⟩), .pointer (some ⟨p i, 0, none⟩), .string y.op, .string op, .bool true, .pointer (some ⟨p i, 0, none⟩), .pointer (some ⟨p i, 0, none⟩), .pointer (some ⟨p i, 1, none⟩), .string y.nm, .pointer (some ⟨p i, 0, none⟩), .pointer (some ⟨p i, 0, none⟩), .pointer (some ⟨p i, 2, none⟩), .int .i64 y.pl], defers := [] } (((X.setCell ⟨w.heap.size + 1, 0, none⟩ (.string y.nm)).setCell ⟨w.heap.size + 1 + 1, 0, none⟩ (.int .i64 y.pl)).setCell ⟨w.heap.size + 1 + 1 + 1, 0, none⟩ (.bool true)).drew.drew) ?region2 ?after2
          case region2 =>
            clear HN1 HP1 HI1 HO HBX HNOT HFS HY HLEN bO bN bP bI bB hB0 C hbase hP hI hN k0 hco ht
            gi_region_with_o (fail)
            all_goals exact ⟨rfl, rfl⟩
          case after2 =>
            intro ex a' X' hq
            obtain ⟨rfl, rfl, rfl⟩ := exactly_normal hq
            have hy := toList_inj (eq_of_beq ht)
            have hfs := HFS.out hy
            gi_wp2
            have hd : ∀ Z : World, Below Z.heap.size Z Z.drew.drew := fun Z => (below_drew _ Z).trans (below_drew _ _)
            have bn := ((HN1.out.set (.string y.nm)).other (B' := w.heap.size + 1 + 1) (by omega) (.int .i64 y.pl)).other (B' := w.heap.size + 1 + 1 + 1) (by omega) (.bool true)
            have bp := ((HP1.out.other (B' := w.heap.size + 1) (by omega) (.string y.nm)).set (.int .i64 y.pl)).other (B' := w.heap.size + 1 + 1 + 1) (by omega) (.bool true)
            have bi := ((HI1.out.other (B' := w.heap.size + 1) (by omega) (.string y.nm)).other (B' := w.heap.size + 1 + 1) (by omega) (.int .i64 y.pl)).set (.bool true)
            refine ⟨?_, y, ⟨rfl, hfs⟩, ⟨boxed_below bn (hd _), boxed_below bp (hd _), boxed_below bi (hd _)⟩, ?_⟩
            · exact (((Kp.set hh2 (by omega) (by omega) (by omega) _).trans (Kp.set (by rw [set_size]; exact hh2) (by omega) (by omega) (by omega) _)).trans (Kp.set (by rw [set_size, set_size]; exact hh2) (by omega) (by omega) (by omega) _)).trans (Kp.below (hd _) (by rw [set_size, set_size, set_size]; exact hh2))
            · exact (((HBX.out.setCell (p := ⟨w.heap.size + 1, 0, none⟩) (by show w.heap.size ≤ w.heap.size + 1; omega) _).setCell (p := ⟨w.heap.size + 1 + 1, 0, none⟩) (by show w.heap.size ≤ w.heap.size + 1 + 1; omega) _).setCell (p := ⟨w.heap.size + 1 + 1 + 1, 0, none⟩) (by show w.heap.size ≤ w.heap.size + 1 + 1 + 1; omega) _).trans ((below_drew _ _).trans (below_drew _ _))
    case done =>
      rintro hi X hh1 hh2 ⟨⟨hnot, hO⟩, ⟨hN1, hP1, hI1⟩, hBX⟩ hK
      have n1 := hN1.cell; have n2 := hN1.frozen; have p1 := hP1.cell; have p2 := hP1.frozen; have i1 := hI1.cell; have i2 := hI1.frozen
      have HN1 := Lib.hid hN1
      have HP1 := Lib.hid hP1
      have HI1 := Lib.hid hI1
      have HBX := Lib.hid hBX
      have HK := Lib.hid hK
      have HFN := Lib.hid (firstOp_none hnot)
      clear hN1 hP1 hI1 hO hBX hK hnot
      gi_wp2
      have bn := ((HN1.out.set (.string ⟨#[]⟩)).other (B' := w.heap.size + 1 + 1) (by omega) (.int .i64 0)).other (B' := w.heap.size + 1 + 1 + 1) (by omega) (.bool false)
      have bp := ((HP1.out.other (B' := w.heap.size + 1) (by omega) (.string ⟨#[]⟩)).set (.int .i64 0)).other (B' := w.heap.size + 1 + 1 + 1) (by omega) (.bool false)
      have bi := ((HI1.out.other (B' := w.heap.size + 1) (by omega) (.string ⟨#[]⟩)).other (B' := w.heap.size + 1 + 1) (by omega) (.int .i64 0)).set (.bool false)
      have k1 := (((KeepsOthers.setCell X ⟨w.heap.size + 1, 0, none⟩ (.string ⟨#[]⟩)).trans (KeepsOthers.setCell _ ⟨w.heap.size + 1 + 1, 0, none⟩ (.int .i64 0))).trans (KeepsOthers.setCell _ ⟨w.heap.size + 1 + 1 + 1, 0, none⟩ (.bool false))).same _ _ HK.out rfl
      have tB := ((HBX.out.setCell (p := ⟨w.heap.size + 1, 0, none⟩) (by show w.heap.size ≤ w.heap.size + 1; omega) (.string ⟨#[]⟩)).setCell (p := ⟨w.heap.size + 1 + 1, 0, none⟩) (by show w.heap.size ≤ w.heap.size + 1 + 1; omega) (.int .i64 0)).setCell (p := ⟨w.heap.size + 1 + 1 + 1, 0, none⟩) (by show w.heap.size ≤ w.heap.size + 1 + 1 + 1; omega) (.bool false)
      refine ⟨by simp, .inl ⟨_, _, rfl, run_takeDeferred k1, ?_⟩⟩
      have cn := (bn.kept (grownBy_putObj' _ W0.heap.size (.deferred none)) (fun h => by have := Option.some.inj h; omega)).cell
      have cp := (bp.kept (grownBy_putObj' _ W0.heap.size (.deferred none)) (fun h => by have := Option.some.inj h; omega)).cell
      have ci := (bi.kept (grownBy_putObj' _ W0.heap.size (.deferred none)) (fun h => by have := Option.some.inj h; omega)).cell
      refine ⟨.tuple #[.string ⟨#[]⟩, .int .i64 0, .bool false], ?_, by rw [HFN.out]; rfl, tB.trans (belowK_b (w := w) (Nat.le_refl _) _ _ _ _ (by omega) k1 rfl rfl)⟩
      simp [results, Tryd.results13, go_sem, cn, cp, ci]
    case stop =>
      rintro hi c X hh1 hh2 ⟨y, ⟨rfl, hy⟩, ⟨hN1, hP1, hI1⟩, hBX⟩ hK
      have HN1 := Lib.hid hN1
      have HP1 := Lib.hid hP1
      have HI1 := Lib.hid hI1
      have HBX := Lib.hid hBX
      clear hN1 hP1 hI1 hBX
      gi_wp2
      refine ⟨by simp, .inl ⟨_, _, rfl, run_takeDeferred hK, ?_⟩⟩
      have cn := (HN1.out.kept (grownBy_putObj' X W0.heap.size (.deferred none)) (fun h => by have := Option.some.inj h; omega)).cell
      have cp := (HP1.out.kept (grownBy_putObj' X W0.heap.size (.deferred none)) (fun h => by have := Option.some.inj h; omega)).cell
      have ci := (HI1.out.kept (grownBy_putObj' X W0.heap.size (.deferred none)) (fun h => by have := Option.some.inj h; omega)).cell
      refine ⟨.tuple #[.string y.nm, .int .i64 y.pl, .bool true], ?_, by rw [hy]; rfl, HBX.out.trans (belowK_b (w := w) (Nat.le_refl _) _ _ _ _ (by omega) hK rfl rfl)⟩
      simp [results, Tryd.results13, go_sem, cn, cp, ci]

end Go.Proofs.YtdaeiapogipjbaaDoor.Fault
