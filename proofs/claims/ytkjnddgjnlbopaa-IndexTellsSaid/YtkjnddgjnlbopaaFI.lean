import Derived.Test.YtkjnddgjnlbopaaFE
import Derived.BigFrameIn
import Derived.WalkSpells
import Derived.Deep.RegionHeld3
import Derived.WalkMore
/-
  The walk of Scan.
-/
namespace Go.Proofs.Ytkjnddgjnlbopaa.Frame
open Go Go.RowKit
open Go.Proofs.Ytkjnddgjnlbopaa.Wire (S S_list S_size cell_row frozen_row row_lt)
open Go.Proofs.Ytkjnddgjnlbopaa.Ranges
attribute [local go_sem] Oper.semAt_some

/-- what stands between two rounds -/
structure ScI (s : ByteArray) (k : Nat) (first : Int) (w : World) (hi i : Nat) (v : Value) (X : World) : Prop where
  le : i ≤ (allS s k).length
  bF : Boxed X w.heap.size 2 (.int .i64 (first + i))
  bL : Boxed X (w.heap.size + 1) 69 v
  bG : Boxed X (w.heap.size + 2) 3 (.int .i64 ((k : Int) + (bytesOf ((allS s k).take i) : Int)))
  own : OwnFr X hi v ((allS s k).take i)
  eq : pref first (allS s k) = (allS s k).take i ++ pref (first + i) ((allS s k).drop i)
  bel : Below w.heap.size w X
theorem ScI.grw {s : ByteArray} {k : Nat} {first : Int} {w : World} {hi i : Nat} {v : Value} {X X' : World} {T : Nat → Prop} (h : ScI s k first w hi i v X) (g : Grw T X X') (hT : ∀ r, T r → w.heap.size + 3 ≤ r ∧ r < hi) : ScI s k first w hi i v X' :=
  ⟨h.le, boxed_grw h.bF g (fun hq => by have := hT _ hq; omega), boxed_grw h.bL g (fun hq => by have := hT _ hq; omega), boxed_grw h.bG g (fun hq => by have := hT _ hq; omega),
    h.own.grw g (fun r hr hq => by have := hT _ hq; omega), h.eq, g.below h.bel (Nat.le_refl _) (fun r hr => by have := hT _ hr; omega)⟩
/-- the act's slots -/
def acA (s : ByteArray) (k : Nat) (first : Int) (n : Nat) (t8 t9 t22 t23 : Value) : Array Value :=
  #[.string s, .int .i64 (k : Int), .int .i64 first, undef, undef, .pointer (some ⟨n, 0, none⟩), .pointer (some ⟨n + 1, 0, none⟩), .pointer (some ⟨n + 1 + 1, 0, none⟩), t8, t9, .int .i64 (k : Int), .bool false, .bool false, .int .i64 (k : Int), .string s, .int .i64 (s.size : Int), .bool false, .bool false, .int .i64 (k : Int), .string s, .int .i64 (k : Int), .func (.func 99) #[] #[.pointer (some ⟨n + 1 + 1 + 1 + 1, 0, none⟩), .pointer (some ⟨n + 1 + 1 + 1, 0, none⟩)], t22, t23,
    undef, undef, undef, undef, undef, undef, undef, undef, undef, undef, undef, undef, undef, undef, undef, undef, undef, undef, undef, undef, undef, undef]
/-- what stands when a round's body begins -/
def ScM (s : ByteArray) (k : Nat) (first : Int) (w : World) (hi i : Nat) (a' : Act) (X : World) : Prop :=
  ∃ (v : Value) (x : Fr) (e be : Nat), ScI s k first w hi i v X ∧ hi ≤ be ∧ (∀ g, v.ownBlock = some g → g ≠ be) ∧ X.heap[be]? = some (.cells (frC x).toArray 51 (0, 0)) ∧
    a' = { tmps := acA s k first w.heap.size (.pointer (some ⟨be, 0, none⟩)) (.int .i64 (e : Int)) (.agg (frC x).toArray) (.int .i64 (e : Int)), defers := [] } ∧
    ((i < (allS s k).length ∧ e = 0 ∧ x = (allS s k).getD i fr0) ∨ (i = (allS s k).length ∧ ¬ e = 0))
theorem stays_scM (s : ByteArray) (k : Nat) (first : Int) (w : World) (hi i : Nat) (a' : Act) : Stays (fun r => w.heap.size + 5 ≤ r ∧ r < hi) (ScM s k first w hi i a') := by
  rintro X X' ⟨v, x, e, be, h1, h2, hne, h3, h4, h5⟩ g
  exact ⟨v, x, e, be, h1.grw g (fun r hr => by omega), h2, hne, (g.block be (row_lt h3) (fun hq => by omega)).trans h3, h4, h5⟩
/-- how it is left -/
def ScX (s : ByteArray) (k : Nat) (first : Int) (w : World) (c : Code) (hi : Nat) (X : World) : Prop :=
  c = .goto 0 ∧ ∃ v, Boxed X (w.heap.size + 1) 69 v ∧ OwnFr X hi v (pref first (allS s k)) ∧ Boxed X (w.heap.size + 2) 3 (.int .i64 ((k : Int) + (bytesOf (pref first (allS s k)) : Int))) ∧ Below w.heap.size w X
/-- what Scan tells -/
def ScR (s : ByteArray) (k : Nat) (first : Int) (w : World) (z : Ending) (w' : World) : Prop :=
  ∃ v, z = .returned (.tuple #[v, .int .i64 ((k : Int) + (bytesOf (scanF (s.data.toList.drop k) k first) : Int))]) ∧ OwnFr w' w.heap.size v (scanF (s.data.toList.drop k) k first) ∧ Below w.heap.size w w'

theorem row_lt_any {w : World} {b : Nat} {o : Obj} (h : w.heap[b]? = some o) : b < w.heap.size := (Array.getElem?_eq_some_iff.1 h).1
set_option maxRecDepth 100000 in
set_option maxHeartbeats 4000000 in
theorem Scan_at (s : ByteArray) (k : Nat) (hk : k ≤ s.size) (hs : s.size ≤ 10000000) (first : Int) (hf : (Lit.int .i64 first).wf = true) (w : World) :
    CallsIn Fence.wide 0 Try.prog 63 #[.string s, .int .i64 (k : Int), .int .i64 first] w (ScR s k first w) := by
  have hev := fun W => frames_in 0 s (k : Int) W
  have y0 : decide ((k : Int) < 0) = false := decide_eq_false (by omega)
  have y1 : decide ((s.size : Int) < (k : Int)) = false := decide_eq_false (by omega)
  have y2 : decide (s.size < k) = false := decide_eq_false (by omega)
  have HK := Lib.hid hk
  have HS := Lib.hid hs
  have HFI := Lib.hid hf
  clear hk hs hf
  refine callsIn_of_wp_marks Try.func63 rfl trivial ?_ rfl
  simp only [Try.ntmps63, List.size_toArray, List.length_cons, List.length_nil, Nat.reduceAdd, Nat.reduceSub, Array.replicate_succ, Array.replicate_zero, List.push_toArray, List.append_toArray, List.nil_append, List.cons_append]
  obtain ⟨W0, hW0⟩ : ∃ W0, (((((w.alloc (.cells #[.int .i64 first] 2)).alloc (.cells #[.slice none 0 0] 69)).alloc (.cells #[.int .i64 (k : Int)] 3)).alloc (.cells #[.string s] 9)).alloc (.cells #[.int .i64 (k : Int)] 3)) = W0 := ⟨_, rfl⟩
  have hsz : W0.heap.size = w.heap.size + 5 := by rw [← hW0]; simp
  have bF : Boxed W0 w.heap.size 2 (.int .i64 first) := by rw [← hW0]; exact ((((Boxed.new w _ _).alloc _).alloc _).alloc _).alloc _
  have bL : Boxed W0 (w.heap.size + 1) 69 (.slice none 0 0) := by
    rw [← hW0]; have := (((Boxed.new (w.alloc (.cells #[.int .i64 first] 2)) 69 (.slice none 0 0)).alloc (.cells #[.int .i64 (k : Int)] 3)).alloc (.cells #[.string s] 9)).alloc (.cells #[.int .i64 (k : Int)] 3); simpa using this
  have bG : Boxed W0 (w.heap.size + 2) 3 (.int .i64 (k : Int)) := by
    rw [← hW0]; have := ((Boxed.new ((w.alloc (.cells #[.int .i64 first] 2)).alloc (.cells #[.slice none 0 0] 69)) 3 (.int .i64 (k : Int))).alloc (.cells #[.string s] 9)).alloc (.cells #[.int .i64 (k : Int)] 3); simpa using this
  have bS : Boxed W0 (w.heap.size + 3) 9 (.string s) := by
    rw [← hW0]; have := (Boxed.new (((w.alloc (.cells #[.int .i64 first] 2)).alloc (.cells #[.slice none 0 0] 69)).alloc (.cells #[.int .i64 (k : Int)] 3)) 9 (.string s)).alloc (.cells #[.int .i64 (k : Int)] 3); simpa using this
  have bI : Boxed W0 (w.heap.size + 3 + 1) 3 (.int .i64 (k : Int)) := by
    rw [← hW0]; have := Boxed.new ((((w.alloc (.cells #[.int .i64 first] 2)).alloc (.cells #[.slice none 0 0] 69)).alloc (.cells #[.int .i64 (k : Int)] 3)).alloc (.cells #[.string s] 9)) 3 (.int .i64 (k : Int)); simpa using this
  have hB0 : Below w.heap.size w W0 := by
    rw [← hW0]; exact (((((Below.refl _ w).alloc (Nat.le_refl _) _).alloc (by simp) _).alloc (by simp; omega) _).alloc (by simp; omega) _).alloc (by simp; omega) _
  have HSZ := Lib.hid hsz
  have HBF := Lib.hid bF
  have HBL := Lib.hid bL
  have HBG := Lib.hid bG
  have HBS := Lib.hid bS
  have HBI := Lib.hid bI
  have HB0 := Lib.hid hB0
  clear hsz bF bL bG bS bI hB0
  gi_wp2
  refine wpIn_wide.2 (wp_scope_jumps 0 (fun a' X => a' = { tmps := acA s k first w.heap.size undef undef undef undef, defers := [{ target := .collected W0.heap.size, args := #[] }] } ∧ (∃ hi, W0.heap.size + 2 ≤ hi ∧ ScX s k first w (.goto 0) hi X) ∧ X.heap[W0.heap.size]? = some (.deferred (some []))) (fun _ _ => 0) rfl ?first ?pass)
  case first =>
    refine (wpIn_wide (n := 0)).1 ?_
    gi_wp2_with (refine ⟨trivial, rfl, ?_⟩; gi_at_call 85; refine (hev _).mono ?_; rintro ev w' ⟨rfl, rfl⟩)
    try simp only [Nat.add_assoc, Nat.reduceAdd] at hW0
    refine ranged (gf := 99) (lb := #[.pointer (some ⟨w.heap.size + 1 + 1 + 1 + 1, 0, none⟩), .pointer (some ⟨w.heap.size + 1 + 1 + 1, 0, none⟩)]) (N := (allS s k).length + 1) (o := w.heap.size) (m := w.heap.size + 3) ?hg (enters_of Try.func99 (by kernel_rfl) rfl) ?ho ?hmm ?ps
      (frames_seq w.heap.size (w.heap.size + 3) (w.heap.size + 3) s k HK.out (by have := HS.out; omega) W0 ?bS ?bI (by omega) (by omega))
      (fun hi i X => ∃ v, ScI s k first w hi i v X) (fun c hi X => ScX s k first w c hi X) (fun hi i a' X => ScM s k first w hi i a' X) ?sI ?sX ?sM ?h0 ?assign ?body ?done ?stop
    case hg => rfl
    case ho => have := HSZ.out; omega
    case hmm => have := HSZ.out; omega
    case bS => exact HBS.out
    case bI => exact HBI.out
    case ps => rintro i sz args X (⟨_, rfl⟩ | ⟨_, e, _, rfl⟩) <;> rfl
    case sI =>
      rintro hi i hh X X' ⟨v, h⟩ g
      exact ⟨v, h.grw g (fun r hr => by have := HSZ.out; omega)⟩
    case sX =>
      rintro c hi hh X X' ⟨h1, v, h2, h3, h4, h5⟩ g
      have hz := HSZ.out
      exact ⟨h1, v, boxed_grw h2 g (fun hq => by omega), h3.grw g (fun r hr hq => by omega), boxed_grw h4 g (fun hq => by omega), g.below h5 (Nat.le_refl _) (fun r hr => by omega)⟩
    case sM =>
      rintro hi i a' hh
      rw [HSZ.out]
      exact stays_scM s k first w hi i a'
    case h0 =>
      intro X hb hx
      have hz := HSZ.out
      refine ⟨.slice none 0 0, Nat.zero_le _, ?_, (hb.block _ (by omega)).trans HBL.out, ?_, ?_, ?_, HB0.out.trans (hb.mono (by omega))⟩
      · rw [show first + ((0 : Nat) : Int) = first by omega]
        exact (hb.block _ (by omega)).trans HBF.out
      · rw [List.take_zero, show ((k : Int) + (bytesOf [] : Int)) = (k : Int) from Int.add_zero _]
        exact (hb.block _ (by omega)).trans HBG.out
      · rw [List.take_zero]; exact OwnFr.nil _ _
      · simp
    case assign =>
      rintro l hi i args X0 X K hh1 hh2 hi' ⟨v, hI⟩ hgrw hrel hK
      have hz := HSZ.out
      have hI2 := hI.grw hgrw (fun r hr => by omega)
      have hge : hi ≤ X.heap.size := Nat.le_trans hh2 hgrw.size
      obtain ⟨x, e, rfl, hx⟩ : ∃ (x : Fr) (e : Nat), args = #[.agg (frC x).toArray, .int .i64 (e : Int)] ∧ ((i < (allS s k).length ∧ e = 0 ∧ x = (allS s k).getD i fr0) ∨ (i = (allS s k).length ∧ ¬ e = 0)) := by
        rcases hrel with ⟨r1, rfl⟩ | ⟨r1, e, r2, rfl⟩
        · exact ⟨(allS s k).getD i fr0, 0, rfl, Or.inl ⟨r1, rfl, rfl⟩⟩
        · exact ⟨fr0, e, rfl, Or.inr ⟨r1, r2⟩⟩
      have HX := Lib.hid hx
      have HI2 := Lib.hid hI2
      have HGE := Lib.hid hge
      clear hx hI2 hge hrel hgrw hI hh2 hz
      simp only [frC] at hK ⊢
      gi_wp2
      have hb := (Below.refl X.heap.size X).alloc (Nat.le_refl _) (.cells (frC x).toArray 51)
      exact hK _ _ ⟨v, x, e, X.heap.size, HI2.out.grw (T := fun _ => False) (grw_below hb) (fun _ h => h.elim), HGE.out, (fun g hg e => by have := HI2.out.own.lt g hg; omega), heap_alloc_new X _, rfl, HX.out⟩ (Kp.below hb HGE.out)
    case body =>
      rintro l hi i a' X hh1 hh2 hi' ⟨v, x, e, be, hI, hbe, hne, hX, rfl, hrel⟩
      have HNE := Lib.hid hne
      clear hne
      have HI := Lib.hid hI
      have HX := Lib.hid hX
      have HH := Lib.hid (And.intro hh1 (And.intro hh2 hbe))
      have c0 : X.cell? ⟨be, 0, none⟩ = some (.int .i64 (x.q : Int)) := cell_row hX 0
      have c1 : X.cell? ⟨be, 1, none⟩ = some (.string (S x.p)) := cell_row hX 1
      have c2 : X.cell? ⟨be, 2, none⟩ = some (.int .i64 (x.i : Int)) := cell_row hX 2
      have cF := hI.bF.cell
      simp only [acA, frC]
      rcases hrel with ⟨r1, rfl, r3⟩ | ⟨r1, r2⟩
      · have hall := allF_all (s.data.toList.drop k).length (s.data.toList.drop k) k i r1
        have hxi : x = (allF (s.data.toList.drop k).length (s.data.toList.drop k) k)[i] := by
          rw [r3, List.getD_eq_getElem?_getD, show (allS s k)[i]? = some _ from List.getElem?_eq_getElem r1, Option.getD_some]; rfl
        rw [← hxi] at hall
        have HALL := Lib.hid hall
        have HR := Lib.hid (And.intro r1 r3)
        have cL := hI.bL.cell
        clear hall hxi hX hI hh1 hh2 hbe
        by_cases hq : (x.q : Int) = first + i
        · have HQ := Lib.hid hq
          rw [← hq] at cF
          clear hq r3
          have HY := Lib.hid (heap_alloc_new X (.cells #[.int .i64 (x.q : Int), .string (S x.p), .int .i64 (x.i : Int)] 51))
          have hba := (Below.refl X.heap.size X).alloc (Nat.le_refl _) (.cells #[.int .i64 (x.q : Int), .string (S x.p), .int .i64 (x.i : Int)] 51)
          have HBA := Lib.hid hba
          have HO := Lib.hid (HI.out.own.grw (grw_below (T := fun _ => False) hba) (fun _ _ h => h))
          have HLN := Lib.hid (show ((allS s k).take i).length ≤ 1000000 by have h1 := allS_len s k; have h2 := HS.out; rw [List.length_take]; omega)
          clear hba
          gi_wp2_with (gi_at_builtin; refine wpListIn_append_fr rfl _ _ rfl hi v _ rfl HO.out X.heap.size 1 x rfl HY.out HLN.out (by have := HH.out; have := HBA.out.size; omega) ?_)
          intro v' w1 hO hg
          obtain ⟨A', c', hv', -, -, -, -⟩ := hO.row
          have hlen : ((allS s k).take i ++ [x]).length = i + 1 := by
            have := HR.out.1
            rw [List.length_append, List.length_take]; simp; omega
          rw [hlen] at hv'
          subst hv'
          have hnb : ∀ g, v.ownBlock = some g → hi ≤ g := fun g h => HO.out.ge g h
          have hgw : Grw (fun r => hi ≤ r ∧ v.ownBlock = some r) X w1 := (grw_below HBA.out).trans (grw_grown hg (fun r h => ⟨hnb r h, h⟩))
          have k1 : Kp w.heap.size (w.heap.size + 3) W0.heap.size W0.heap.size hi X w1 := (Kp.below HBA.out HH.out.2.1).trans (Kp.grown hg (Nat.le_trans HH.out.2.1 HBA.out.size) (fun r h => Or.inl (hnb r h)))
          have hz := HSZ.out
          have hhh := HH.out
          have b1 := boxed_grw HI.out.bF hgw (fun h => by omega)
          have b2 := boxed_grw HI.out.bL hgw (fun h => by omega)
          have b3 := boxed_grw HI.out.bG hgw (fun h => by omega)
          have hxb : w1.heap[be]? = some (.cells (frC x).toArray 51 (0, 0)) := by
            refine (hgw.block be (row_lt HX.out) (fun hq => ?_)).trans HX.out
            exact HNE.out be hq.2 rfl
          have hss : hi ≤ w1.heap.size := Nat.le_trans (Nat.le_trans hhh.2.1 HBA.out.size) hg.size
          have hall := HALL.out
          have hbl : bytesOf ((allS s k).take (i + 1)) = bytesOf ((allS s k).take i) + (16 + x.p.length) := by
            rw [List.take_succ_eq_append_getElem HR.out.1, bytes_append]
            have : (allS s k)[i] = x := by rw [HR.out.2, List.getD_eq_getElem?_getD, List.getElem?_eq_getElem HR.out.1, Option.getD_some]
            rw [this]; rfl
          have hbs : k + bytesOf ((allS s k).take (i + 1)) ≤ s.size := by
            have h6 : bytesOf ((allS s k).take (i + 1)) ≤ (s.data.toList.drop k).length := hall.2.2.2.1
            have h5 := HK.out
            rw [List.length_drop] at h6
            simp at h6; omega
          obtain ⟨W2, hW2⟩ : ∃ W2, w1.setCell ⟨w.heap.size + 1, 0, none⟩ (.slice A' (i + 1) c') = W2 := ⟨_, rfl⟩
          have cL1 := b2.cell
          have fL1 := b2.frozen
          have g2 : Grw (fun r => r = w.heap.size + 1) w1 W2 := by rw [← hW2]; exact grw_grown (grownBy_setCell' w1 (w.heap.size + 1) _) (fun r e => by injection e with e; exact e.symm)
          have d1 := boxed_grw b1 g2 (by omega)
          have d2 : Boxed W2 (w.heap.size + 1) 69 (.slice A' (i + 1) c') := by rw [← hW2]; exact b2.set _
          have d3 := boxed_grw b3 g2 (by omega)
          have hxd := (g2.block be (row_lt hxb) (by omega)).trans hxb
          have e1 : W2.cell? ⟨be, 1, none⟩ = some (.string (S x.p)) := cell_row hxd 1
          have cG2 := d3.cell
          have fG2 := d3.frozen
          have HSZ2 := Lib.hid (fun W => Size_any (x.p.length : Int) W)
          rw [szI_yes ⟨hall.2.1, hall.2.2.1⟩] at HSZ2
          have hsp : ((S x.p).size : Int) = (x.p.length : Int) := by rw [S_size]
          have HD := Lib.hid (And.intro d1 (And.intro d2 d3))
          have HP := Lib.hid (And.intro hO (And.intro hss (And.intro hbl (And.intro hbs hall))))
          have HK1 := Lib.hid k1
          have HG := Lib.hid (And.intro hgw g2)
          clear hnb k1 b1 b2 b3 hxb hss hall hbl hbs g2 d1 d2 d3 hxd hO hgw hz hhh hg c0 c1 c2 cF cL
          have hadd : IntKind.i64.wrap ((k : Int) + (bytesOf ((allS s k).take i) : Int) + (16 + (x.p.length : Int))) = ((k : Int) + (bytesOf ((allS s k).take (i + 1)) : Int)) := by
            have h1 := HP.out.2.2.1
            have h2 := HP.out.2.2.2.1
            have h3 := HS.out
            rw [IntWalk.i64_in _ (by omega)]; omega
          obtain ⟨W3, hW3⟩ : ∃ W3, (W2.setCell ⟨w.heap.size + 1 + 1, 0, none⟩ (.int .i64 ((k : Int) + (bytesOf ((allS s k).take (i + 1)) : Int)))).drew = W3 := ⟨_, rfl⟩
          have g3 : Grw (fun r => r = w.heap.size + 2) W2 W3 := by
            rw [← hW3]
            exact (grw_grown (grownBy_setCell' W2 (w.heap.size + 2) _) (fun r e => by injection e with e; exact e.symm)).trans ⟨rfl, rfl, rfl, Nat.le_refl _, fun _ _ _ => rfl⟩
          have t1 : Boxed W3 w.heap.size 2 (.int .i64 (x.q : Int)) := by rw [HQ.out]; exact boxed_grw HD.out.1 g3 (by omega)
          have t2 := boxed_grw HD.out.2.1 g3 (by omega)
          have t3 : Boxed W3 (w.heap.size + 2) 3 (.int .i64 ((k : Int) + (bytesOf ((allS s k).take (i + 1)) : Int))) := by rw [← hW3]; exact HD.out.2.2.set _
          have cF3 := t1.cell
          have fF3 := t1.frozen
          have hq1 : wrap64 ((x.q : Int) + 1) = (x.q : Int) + 1 := IntWalk.wrap64_in _ (by have := HP.out.2.2.2.2.1; omega)
          have hq2 : IntKind.i64.wrap ((x.q : Int) + 1) = (x.q : Int) + 1 := IntWalk.i64_in _ (by have := HP.out.2.2.2.2.1; omega)
          have g4 : Grw (fun r => r = w.heap.size) W3 (W3.setCell ⟨w.heap.size, 0, none⟩ (.int .i64 ((x.q : Int) + 1))) := grw_grown (grownBy_setCell' W3 w.heap.size _) (fun r e => by injection e with e; exact e.symm)
          have HFIN : Hid (Kp w.heap.size (w.heap.size + 3) W0.heap.size W0.heap.size hi X (W3.setCell ⟨w.heap.size, 0, none⟩ (.int .i64 ((x.q : Int) + 1))) ∧ ∃ v, ScI s k first w hi (i + 1) v (W3.setCell ⟨w.heap.size, 0, none⟩ (.int .i64 ((x.q : Int) + 1)))) := by
            have hz := HSZ.out
            have hh := HH.out
            have hw2 : hi ≤ W2.heap.size := Nat.le_trans HP.out.2.1 HG.out.2.size
            have hw3 : hi ≤ W3.heap.size := Nat.le_trans hw2 g3.size
            have kk : ∀ (A B : World) (r : Nat), hi ≤ A.heap.size → (r < w.heap.size + 3) → w.heap.size ≤ r → Grw (fun z => z = r) A B → Kp w.heap.size (w.heap.size + 3) W0.heap.size W0.heap.size hi A B := fun A B r h1 h2 h3 g =>
              ⟨g.size, fun z hz1 hz2 => g.block z (by omega) (by omega), g.os, g.tape, g.output⟩
            refine Lib.hid ⟨HK1.out.trans ((kk w1 W2 (w.heap.size + 1) HP.out.2.1 (by omega) (by omega) HG.out.2).trans ((kk W2 W3 (w.heap.size + 2) hw2 (by omega) (by omega) g3).trans (kk W3 _ w.heap.size hw3 (by omega) (by omega) g4))), .slice A' (i + 1) c', ?_⟩
            refine ⟨HR.out.1, ?_, boxed_grw t2 g4 (by omega), boxed_grw t3 g4 (by omega), ?_, pref_more first _ i HR.out.1 (by rw [← HR.out.2]; exact HQ.out) HI.out.eq, ?_⟩
            · rw [show first + ((i + 1 : Nat) : Int) = (x.q : Int) + 1 by have := HQ.out; omega]
              exact t1.set _
            · have : (allS s k).take (i + 1) = (allS s k).take i ++ [x] := by
                rw [List.take_succ_eq_append_getElem HR.out.1]
                have : (allS s k)[i]'HR.out.1 = x := by have h2 := HR.out.2; rw [List.getD_eq_getElem?_getD, List.getElem?_eq_getElem HR.out.1, Option.getD_some] at h2; exact h2.symm
                rw [this]
              rw [this]
              exact ((HP.out.1.grw HG.out.2 (fun r hr hq => by omega)).grw g3 (fun r hr hq => by omega)).grw g4 (fun r hr hq => by omega)
            · exact g4.below (g3.below (HG.out.2.below (HG.out.1.below HI.out.bel (Nat.le_refl _) (fun r hr => by omega)) (Nat.le_refl _) (fun r hr => by omega)) (Nat.le_refl _) (fun r hr => by omega)) (Nat.le_refl _) (fun r hr => by omega)
          clear g3 g4 t1 t2 t3
          gi_wp2
          have hfm : Try.prog.follows .mixedOrders = true := by kernel_rfl
          gi_region_with_o (refine ⟨trivial, rfl, ?_⟩; gi_at_call 36; refine (CallsIn.inRound l (callsIn_wide.2 (HSZ2.out _))).mono ?_; rintro e w3 ⟨rfl, rfl⟩)
          all_goals ((try simp only [hadd, hW3]); gi_wp2; exact HFIN.out)
        · have HQ := Lib.hid (show ¬ ((((allS s k).getD i fr0).q : Nat) : Int) = first + i by rw [← HR.out.2]; exact hq)
          have hb1 : ((x.q : Int) == first + (i : Int)) = false := beq_eq_false_iff_ne.2 hq
          have hb2 : ((x.q : Int) != first + (i : Int)) = true := bne_iff_ne.2 hq
          clear hq r3
          gi_wp2
          have hps := pref_stop first _ i HR.out.1 HQ.out HI.out.eq
          exact wpIn_goto ⟨Kp.refl _ _ _ _ _ _, rfl, v, HI.out.bL, by rw [hps]; exact HI.out.own, by rw [hps]; exact HI.out.bG, HI.out.bel⟩
      · obtain ⟨q1, q2, q3, q4, q5⟩ := nat_ne r2
        have HR := Lib.hid r1
        clear r1 r2 hI hX hh1 hh2 hbe
        gi_wp2
        have hps : pref first (allS s k) = (allS s k).take i := by
          have h := HI.out.eq
          rw [HR.out] at h ⊢
          exact pref_end first _ h
        exact wpIn_goto ⟨Kp.refl _ _ _ _ _ _, rfl, v, HI.out.bL, by rw [hps]; exact HI.out.own, by rw [hps]; exact HI.out.bG, HI.out.bel⟩
    case done =>
      rintro hi X hh1 hh2 ⟨v, hI⟩ hK
      exact absurd hI.le (by omega)
    case stop =>
      rintro hi c X hh1 hh2 ⟨rfl, hX⟩ hK
      exact wpIn_goto ⟨rfl, rfl, ⟨hi, hh1, rfl, hX⟩, hK⟩
  case pass =>
    rintro a' X ⟨rfl, ⟨hi, hhi, _, v, hL, hO, hG, hB⟩, hD⟩
    obtain ⟨A, c, rfl, -, -, -, -⟩ := hO.row
    generalize hn : (pref first (allS s k)).length = n at *
    have cL := hL.cell
    have fL := hL.frozen
    have cG := hG.cell
    have fG := hG.frozen
    have HX := Lib.hid (And.intro hL (And.intro hO (And.intro hG (And.intro hB (And.intro hD hhi)))))
    have HN := Lib.hid hn
    clear hL hO hG hB hD hhi hn
    simp only [acA]
    refine (wpIn_wide (n := 0)).1 ?_
    gi_wp2
    have hb2 : W0.heap.size < X.heap.size := row_lt_any HX.out.2.2.2.2.1
    obtain ⟨X3, hX3⟩ : ∃ X3, ((X.setCell ⟨w.heap.size + 1, 0, none⟩ (.slice A n c)).setCell ⟨w.heap.size + 1 + 1, 0, none⟩ (.int .i64 ((k : Int) + (bytesOf (pref first (allS s k)) : Int)))).drew = X3 := ⟨_, rfl⟩
    have gg : Grw (fun r => r = w.heap.size + 1 ∨ r = w.heap.size + 2) X X3 := by
      rw [← hX3]
      exact ((grw_grown (grownBy_setCell' X (w.heap.size + 1) _) (fun r e => by injection e with e; exact Or.inl e.symm)).trans (grw_grown (grownBy_setCell' _ (w.heap.size + 2) _) (fun r e => by injection e with e; exact Or.inr e.symm))).trans ⟨rfl, rfl, rfl, Nat.le_refl _, fun _ _ _ => rfl⟩
    have hz := HSZ.out
    have k1 : X3.heap[W0.heap.size]? = some (.deferred (some [])) := (gg.block _ hb2 (by omega)).trans HX.out.2.2.2.2.1
    have b1 : Boxed X3 (w.heap.size + 1) 69 (.slice A n c) := by
      rw [← hX3]; exact (HX.out.1.set (.slice A n c)).other (B' := w.heap.size + 2) (by omega) _
    have b2 : Boxed X3 (w.heap.size + 2) 3 (.int .i64 ((k : Int) + (bytesOf (pref first (allS s k)) : Int))) := by
      rw [← hX3]; exact (HX.out.2.2.1.other (B' := w.heap.size + 1) (by omega) (.slice A n c)).set _
    have t3 := grw_grown (T := fun r => r = w.heap.size + 1 ∨ r = w.heap.size + 2 ∨ r = W0.heap.size) (grownBy_putObj' X3 W0.heap.size (.deferred none)) (fun r e => by injection e with e; exact Or.inr (Or.inr e.symm))
    have tt := (gg.mono (T' := fun r => r = w.heap.size + 1 ∨ r = w.heap.size + 2 ∨ r = W0.heap.size) (fun r h => by omega)).trans t3
    have cn := (boxed_grw b1 (grw_grown (T := fun r => r = W0.heap.size) (grownBy_putObj' X3 W0.heap.size (.deferred none)) (fun r e => by injection e with e; exact e.symm)) (by omega)).cell
    have cp := (boxed_grw b2 (grw_grown (T := fun r => r = W0.heap.size) (grownBy_putObj' X3 W0.heap.size (.deferred none)) (fun r e => by injection e with e; exact e.symm)) (by omega)).cell
    have HF : Hid (ScR s k first w (.returned (.tuple #[.slice A n c, .int .i64 ((k : Int) + (bytesOf (pref first (allS s k)) : Int))])) (X3.putObj W0.heap.size (.deferred none))) := by
      refine Lib.hid ⟨.slice A n c, rfl, ?_, tt.below HX.out.2.2.2.1 (Nat.le_refl _) (fun r hr => by omega)⟩
      have := (HX.out.2.1.grw tt (fun r hr hq => by have := HX.out.2.2.2.2.2; omega)).less (base' := w.heap.size) (by have := HX.out.2.2.2.2.2; omega)
      exact this
    clear gg b1 b2 t3 tt
    gi_region
    all_goals gi_wp2
    all_goals refine ⟨by simp, .inl ⟨_, _, rfl, run_takeDeferred k1, ?_⟩⟩
    all_goals refine ⟨.tuple #[.slice A n c, .int .i64 ((k : Int) + (bytesOf (pref first (allS s k)) : Int))], ?_, HF.out⟩
    all_goals (simp [results, Try.results63, go_sem, cn, cp])

/-- **Scan** -/
theorem Scan_any (s : ByteArray) (k : Nat) (hk : k ≤ s.size) (hs : s.size ≤ 10000000) (first : Int) (hf : (Lit.int .i64 first).wf = true) (w : World) :
    Calls Try.prog 63 #[.string s, .int .i64 (k : Int), .int .i64 first] w (ScR s k first w) :=
  callsIn_wide.1 (Scan_at s k hk hs first hf w)
end Go.Proofs.Ytkjnddgjnlbopaa.Frame

/-
  Scan at a place that is none.
-/
namespace Go.Proofs.Ytkjnddgjnlbopaa.Frame
open Go Go.RowKit

set_option maxRecDepth 100000 in
set_option maxHeartbeats 2000000 in
theorem Scan_no (s : ByteArray) (i first : Int) (h : ¬ (0 ≤ i ∧ i ≤ s.size)) (w : World) :
    Calls Try.prog 63 #[.string s, .int .i64 i, .int .i64 first] w fun e w' => e = .returned (.tuple #[.slice none 0 0, .int .i64 0]) ∧ Below w.heap.size w w' := by
  have hbl := (((Below.refl w.heap.size w).alloc (Nat.le_refl _) (.cells #[.int .i64 first] 2)).alloc (by simp) (.cells #[.slice none 0 0] 69)).alloc (by simp; omega) (.cells #[.int .i64 0] 3)
  by_cases h0 : i < 0
  · clear h
    go_enter Try.func63, Try.ntmps63
    go_wp2
    go_step3
    go_wp2
    rw [Exit.noGoto_ret]
    refine bodyPost_ret (v := .tuple #[.slice none 0 0, .int .i64 0]) (by simp [results, Try.results63, go_sem]) rfl ⟨rfl, ?_⟩
    exact hbl
  · have h1 : (s.size : Int) < i := by omega
    clear h
    go_enter Try.func63, Try.ntmps63
    go_wp2
    go_step3
    go_wp2
    rw [Exit.noGoto_ret]
    refine bodyPost_ret (v := .tuple #[.slice none 0 0, .int .i64 0]) (by simp [results, Try.results63, go_sem]) rfl ⟨rfl, ?_⟩
    exact hbl

end Go.Proofs.Ytkjnddgjnlbopaa.Frame

/-
  The law's own helpers: made, refused; and works: are the examples as they are told?
-/
namespace Go.Proofs.Ytkjnddgjnlbopaa.Frame
open Go Go.RowKit
open Go.Proofs.Ytkjnddgjnlbopaa.Wire (S S_list S_size S_append)

theorem S_take (l : List UInt8) (n : Nat) : (S l).extract 0 n = S (l.take n) := by rw [S_mid, List.drop_zero, Nat.sub_zero]
theorem slice_to (l : List UInt8) (k : Nat) (h : k ≤ l.length) (W : World) : (Instr.slice 9 (.string (S l)) none (some (.int .i64 (k : Int))) none).run Try.prog W = .ok (.string (S (l.take k))) W := by
  have y0 : (0 : Int) ≤ (k : Int) := by omega
  have y1 : (k : Int) ≤ ((S l).size : Int) := by have := S_size l; omega
  have y2 : k ≤ (S l).size := by rw [S_size]; exact h
  rw [← S_take]
  go_simp
/-! ### the examples -/
def ab : List UInt8 := [97, 98]
def E7 : List UInt8 := frB 7 ab
def E8 : List UInt8 := frB 8 ab
theorem E7_len : E7.length = 18 := frB_length 7 ab
theorem E8_len : E8.length = 18 := frB_length 8 ab
theorem E7_head : E7.take 12 = [0, 0, 0, 2, 0, 0, 0, 0, 0, 0, 0, 7] := by
  have := fr_take12 7 ab []
  rw [List.append_nil] at this
  exact this.trans (by decide +kernel)
theorem E7_tail : E7.drop 16 = ab := by
  unfold E7 frB
  rw [show (16 : Nat) = 12 + 4 from rfl, ← List.drop_drop, drop_front (headB_length _ _), drop_front (fourL_length _)]
theorem mk7 : mkB 7 ab = E7 := by unfold mkB; rw [if_pos (by decide +kernel)]; rfl
theorem mk8 : mkB 8 ab = E8 := by unfold mkB; rw [if_pos (by decide +kernel)]; rfl
def E78 : List UInt8 := E7 ++ E8.take 17
theorem E78_len : E78.length = 35 := by unfold E78; rw [List.length_append, E7_len, List.length_take, E8_len]; rfl
theorem scan7 : scanF E78 0 7 = [⟨7, ab, 0⟩] := by
  unfold E78 E7
  rw [show (7 : Int) = ((7 : Nat) : Int) from rfl, scan_fr 7 ab _ 0 (by decide) (by decide) (by decide)]
  rw [scan_none (fun h => by have := rd_cut 8 ab 17 (by decide) (by decide) (by decide) (by decide); unfold E8 at h; rw [this] at h; exact absurd h.1 (by decide))]
theorem scan8 : scanF E78 0 8 = [] := by
  refine scan_none (fun h => ?_)
  obtain ⟨_, b, _, _⟩ := fr_parts 7 ab (E8.take 17) (by decide) (by decide)
  have h2 := h.2
  unfold E78 E7 at h2
  rw [b] at h2
  exact absurd h2 (by decide)

end Go.Proofs.Ytkjnddgjnlbopaa.Frame
