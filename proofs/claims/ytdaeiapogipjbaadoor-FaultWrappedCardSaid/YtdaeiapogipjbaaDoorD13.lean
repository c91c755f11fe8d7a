/-
  An Error's own text, and Text of whatever is wrapped.
-/
import Derived.Test.YtdaeiapogipjbaaDoorD12
namespace Go.Proofs.YtdaeiapogipjbaaDoor.Fault
open Go Go.RowKit
attribute [local go_sem] Oper.semAt_some

/-- what is said of what an error is wrapped with: its texts are short, its places are such that strconv's answer is known -/
def Fine (D : Int → Prop) (xs : List Wr) : Prop := ∀ x ∈ xs, x.op.size ≤ 1000000 ∧ x.nm.size ≤ 1000000 ∧ (0 ≤ x.pl → D x.pl)

set_option maxRecDepth 100000 in
set_option maxHeartbeats 4000000 in
theorem error_in {D : Int → Prop} {f : Int → ByteArray} {w : World} (HS0 : Says D f w) (p : Nat → Nat) (e : Nat → Value) (xs : List Wr) (base : Value) (s : ByteArray) (C : Chain w.heap.size w p e xs) (hbase : e xs.length = base) (hx0 : xs ≠ []) (hP : Plain base) (hI : Ifc base)
    (hlen : xs.length < 1099511627776) (HT : TextOf base s w) (hF : Fine D xs) (hL : (heads f xs).length + s.size ≤ 1099511627776) :
    CallsIn Fence.wide 0 Tryd.prog 80 #[.pointer (some ⟨p 0, 0, none⟩)] w fun ev w' => ev = .returned (.string (S (heads f xs ++ s.data.toList))) ∧ Below w.heap.size w w' := by
  have hx : 0 < xs.length := List.length_pos_iff.2 hx0
  have HNE := Lib.hid (heads_ne f xs hx0 s.data.toList)
  generalize hLL : heads f xs ++ s.data.toList = L at HNE ⊢
  have HLL := Lib.hid hLL
  clear hLL
  have he0 : e 0 = .iface 51 (.pointer (some ⟨p 0, 0, none⟩)) := C.head 0 hx
  have h0 : Ifc (e 0) := .inr ⟨_, _, he0⟩
  refine callsIn_of_wp_marks Tryd.func80 rfl trivial ?_ rfl
  simp only [Tryd.ntmps80, List.size_toArray, List.length_cons, List.length_nil, Nat.reduceAdd, Nat.reduceSub, Array.replicate_succ, Array.replicate_zero, List.push_toArray, List.append_toArray, List.nil_append, List.cons_append]
  obtain ⟨W0, hW0⟩ : ∃ W0, (w.alloc (.cells #[.pointer none, .slice none 0 0] 133)).alloc (.cells #[e 0] 29) = W0 := ⟨_, rfl⟩
  have hsz : W0.heap.size = w.heap.size + 2 := by rw [← hW0]; simp
  have bC : W0.heap[w.heap.size]? = some (.cells #[.pointer none, .slice none 0 0] 133 (0, 0)) := by rw [← hW0]; exact (Below.heap_alloc _ _ _ (by simp)).trans (World.alloc_heap_new w _)
  have bB : Boxed W0 (w.heap.size + 1) 29 (e 0) := by rw [← hW0]; have := Boxed.new (w.alloc (.cells #[.pointer none, .slice none 0 0] 133)) 29 (e 0); rwa [World.size_alloc] at this
  have hB0 : Below w.heap.size w W0 := by rw [← hW0]; exact ((Below.refl _ w).alloc (Nat.le_refl _) _).alloc (by simp) _
  have hfr := fun W => front_in 0 (e 0) h0 W
  have hbh : ∀ W, Below w.heap.size w W → Calls Tryd.prog 25 #[e 0] W fun ev w' => ev = .returned base ∧ Below W.heap.size W w' := fun W hW =>
    behind_any ⟨p, e, rfl, hbase, (C.below hW (Nat.le_refl _)).up hW.size⟩ hP hI hlen
  rw [he0] at hW0 hfr hbh
  have HBH := Lib.hid hbh
  have HS := Lib.hid HS0
  have HTT := Lib.hid HT
  have HFF := Lib.hid hF
  have HL := Lib.hid hL
  have HX := Lib.hid hx0
  have HLEN := Lib.hid hlen
  clear HS0 HT hF hbh hL hx0 hlen
  gi_wp2_with (refine ⟨trivial, rfl, ?_⟩; gi_at_call 38; refine (hfr _).mono ?_; rintro ev w' ⟨rfl, rfl⟩)
  try rw [hW0]
  clear hfr; try clear hW0
  refine ranged (gf := 46) (lb := #[.pointer (some ⟨w.heap.size + 1, 0, none⟩)]) (N := xs.length) (o := w.heap.size) (b := w.heap.size + 1) rfl (enters_of Tryd.func46 (by kernel_rfl) rfl) (by omega) (by omega) rfl
    (front_seq w.heap.size (w.heap.size + 1) p e xs W0 bB (C.below hB0 (Nat.le_refl _)) (by omega) (by rw [hbase]; exact hP) (by rw [hbase]; exact hI) HLEN.out)
    (fun hi i W => ∃ q, Self w.heap.size q ∧ Bld hi w.heap.size q (Lib.byteCells (heads f (xs.take i))) W ∧ Below w.heap.size w W) (fun _ _ _ => False)
    (fun hi i hh W W' row hs hg hr => by
      obtain ⟨q, h1, h2⟩ := hs
      exact ⟨q, h1, ((stays_bld (by omega) (by omega)).and (stays_below (Nat.le_refl _) (by omega))) W W' row h2 hg hr⟩) (fun _ _ _ => stays_pure _ _)
    (fun W' hb _ => ⟨.pointer none, .inl rfl, ⟨.slice none 0 0, (hb.block _ (by omega)).trans bC, World.ownsRow_nil _ _ _ _⟩, hB0.trans (hb.mono (by omega))⟩) ?_ ?assign ?body ?done ?stop
  case assign =>
    intro l i W K hi hK
    gi_wp2
    exact hK
  case body =>
    rintro l hi i W hh1 hh2 hi' ⟨q, hq, hb, hB⟩
    have C2 : Chain w.heap.size W p e xs := C.below hB (Nat.le_refl _)
    have hmem : xs.getD i default ∈ xs := by
      rw [List.getD_eq_getElem?_getD, List.getElem?_eq_getElem hi']; exact List.getElem_mem hi'
    obtain ⟨f1, f2, f3⟩ := HFF.out _ hmem
    have HD := Lib.hid (head_any (HS.out.below hB) (xs.getD i default) (C2.c0 i hi') (C2.c1 i hi') (C2.c2 i hi') f1 f2 f3)
    have hle : (Lib.byteCells (heads f (xs.take i))).length + (headB f (xs.getD i default)).size ≤ 140737488355328 := by
      rw [Lib.byteCells_length]
      have h1 := heads_le f xs (i + 1)
      have hL := HL.out
      rw [heads_take f xs i hi', List.length_append] at h1
      have h2 : (headB f (xs.getD i default)).data.toList.length = (headB f (xs.getD i default)).size := by simp
      omega
    have HW := Lib.hid (fun W1 (h : Below W.heap.size W W1) => writes (hi := hi) (headB f (xs.getD i default)) ((stays_bld (T := fun _ => False) (fun h => h) (fun _ h => h.elim)).below hb h) hq (by omega) hle (Nat.le_trans hh2 h.size))
    have HTK := Lib.hid (heads_take f xs i hi')
    generalize headB f (xs.getD i default) = T at HD HW HTK
    have HHH := Lib.hid hh2
    have HBB := Lib.hid hB
    clear hle f1 f2 f3 hb hmem C2 hB
    gi_wp2_with (first | (refine ⟨trivial, rfl, ?_⟩; gi_at_call 82; refine (CallsIn.inRound l (callsIn_wide.2 HD.out)).mono ?_; rintro ev w1 ⟨rfl, hb1⟩; have HB1 := Lib.hid hb1; clear hb1) | (refine ⟨trivial, rfl, ?_⟩; gi_at_call 81; refine (CallsIn.inRound l (callsIn_wide.2 (HW.out _ HB1.out))).mono ?_; rintro ev w2 ⟨rfl, hbl, hbut⟩; have HB2 := Lib.hid hbl; have HB3 := Lib.hid hbut; clear hbl hbut))
    refine ⟨(Kp.below HB1.out HHH.out).trans (HB3.out.kp (Nat.le_refl _) (by omega) (by omega)), _, .inr rfl, ?_, HBB.out.trans ((HB1.out.mono HBB.out.size).trans (HB3.out.below (by omega) (Nat.le_refl _)))⟩
    rw [HTK.out]
    have := HB2.out
    rw [Lib.strCells_eq] at this
    simpa [Lib.byteCells] using this
  case done =>
    rintro hi W hh1 hh2 ⟨q, hq, hb, hB⟩ hK
    rw [List.take_length] at hb
    have HW := Lib.hid (fun W1 (h : Below W.heap.size W W1) => writes (hi := hi) s ((stays_bld (T := fun _ => False) (fun h => h) (fun _ h => h.elim)).below hb h) hq (by omega) (by rw [Lib.byteCells_length]; have := HL.out; omega) (Nat.le_trans hh2 h.size))
    have HK := Lib.hid hK
    have HBW := Lib.hid hB
    clear hb hK hB
    gi_wp2_with (first | (refine ⟨trivial, rfl, ?_⟩; gi_at_call 25; refine (callsIn_wide.2 (HBH.out _ HBW.out)).mono ?_; rintro ev w1 ⟨rfl, hb1⟩; have HB1 := Lib.hid hb1; clear hb1) | (refine ⟨trivial, rfl, ?_⟩; gi_at_call 15; refine (callsIn_wide.2 (HTT.out _ (HBW.out.trans (HB1.out.mono HBW.out.size)))).mono ?_; rintro ev w2 ⟨rfl, hb2⟩; have HB2 := Lib.hid (HB1.out.trans (hb2.mono HB1.out.size)); clear hb2) | (refine ⟨trivial, rfl, ?_⟩; gi_at_call 81; refine (callsIn_wide.2 (HW.out _ HB2.out)).mono ?_; rintro ev w3 ⟨rfl, hbl, hbut⟩; have HB3 := Lib.hid hbl; have HB4 := Lib.hid hbut; clear hbl hbut) | (refine ⟨trivial, rfl, ?_⟩; gi_at_call 83; refine (callsIn_wide.2 (string_any L (by have := HB3.out; rw [Lib.strCells_eq] at this; rw [← HLL.out]; simpa [Lib.byteCells] using this) HNE.out)).mono ?_; rintro ev w4 ⟨rfl, hb4⟩; have HB5 := Lib.hid hb4; clear hb4))
    have k1 := (HB2.out.block W0.heap.size (by omega)).trans HK.out
    have k2 := (HB4.out.block W0.heap.size (by omega) (by omega)).trans k1
    have k3 := (HB5.out.block W0.heap.size (by omega)).trans k2
    rw [hsz] at k3
    refine ⟨by simp, .inl ⟨_, _, rfl, run_takeDeferred k3, ?_⟩⟩
    refine ⟨_, results_tmp rfl _ _ _, rfl, ?_⟩
    have t1 : Below w.heap.size w _ := HBW.out.trans ((HB2.out.mono HBW.out.size).trans ((HB4.out.below (by omega) (Nat.le_refl _)).trans (HB5.out.mono (by omega))))
    exact t1.trans (belowK_b (w := w) (Nat.le_refl _) _ _ _ _ (by omega) k3 rfl rfl)
  case stop =>
    rintro hi c W _ _ h _
    exact h.elim

theorem S_data (s : ByteArray) : S s.data.toList = s := by unfold S; simp
/-- the text of an error -/
def textB (f : Int → ByteArray) (xs : List Wr) (s : ByteArray) : ByteArray := S (heads f xs ++ s.data.toList)
/-- **Text** -/
theorem text_any {D : Int → Prop} {f : Int → ByteArray} {w : World} (HS0 : Says D f w) {v : Value} {xs : List Wr} {base : Value} {s : ByteArray} (hv : At w v xs base) (hP : Plain base) (hI : Ifc base)
    (hlen : xs.length < 1099511627776) (HT : TextOf base s w) (hF : Fine D xs) (hL : (heads f xs).length + s.size ≤ 1099511627776) :
    Calls Tryd.prog 15 #[v] w fun ev w' => ev = .returned (.string (textB f xs s)) ∧ Below w.heap.size w w' := by
  obtain ⟨p, e, h1, h2, C⟩ := hv
  cases xs with
  | nil =>
    have hb : v = base := h1.symm.trans h2
    have := HT w (Below.refl _ _)
    rw [hb]
    have et : textB f [] s = s := by unfold textB; exact S_data s
    rw [et]
    exact this
  | cons x xs =>
    have hv : v = .iface 51 (.pointer (some ⟨p 0, 0, none⟩)) := by rw [← h1]; exact C.head 0 (by simp)
    rw [hv]
    exact text_of fun W hW => ⟨_, _, _, rfl, fun k w => meth_err k _ w, .inr (.inr rfl), callsIn_wide.1 (error_in (HS0.below hW) p e (x :: xs) base s ((C.below hW (Nat.le_refl _)).up hW.size) h2 (by simp) hP hI hlen
      (fun W' hW' => HT W' (hW.trans (hW'.mono hW.size))) hF hL)⟩

end Go.Proofs.YtdaeiapogipjbaaDoor.Fault
