import Derived.Test.YtiibeemjkdipnaaDoorHL
import Derived.Test.YtiibeemjkdipnaaDoorHL
import Derived.ArgAppend
import Derived.Laws.OwnMore
/-
  The program's own Same of lists.
-/
namespace Go.Proofs.YtiibeemjkdipnaaDoor.Batch
open Go Go.RowKit
open Go.Proofs.YtiibeemjkdipnaaDoor.Schema

set_option maxRecDepth 100000 in
set_option maxHeartbeats 2000000 in
theorem equalF_any (A : Option Addr) (ca : Nat) (xs : List Lx) (C : Option Addr) (cc : Nat) (ys : List Lx) (hn : xs.length ≤ 1000000000) (hb1 : Big xs) (hb2 : Big ys) (w : World) (hX : Row w A xs) (hY : Row w C ys) :
    Calls Tryd.prog 26 #[.slice A xs.length ca, .slice C ys.length cc, .func (.func 27) #[] #[]] w fun z w' => z = .returned (.bool (sameL xs ys)) ∧ Below w.heap.size w w' := by
  have HX := Lib.hid hX
  have HY := Lib.hid hY
  have HN := Lib.hid hn
  have HB1 := Lib.hid hb1
  have HB2 := Lib.hid hb2
  clear hX hY hn hb1 hb2
  go_enter Tryd.func26, Tryd.ntmps26
  by_cases hl : xs.length = ys.length
  case neg =>
    have HS := Lib.hid (sameL_len hl)
    have z1 : ((xs.length : Int) != (ys.length : Int)) = true := by rw [int_ne, decide_eq_false hl]; rfl
    have z2 : ¬ (xs.length : Int) = (ys.length : Int) := by omega
    clear hl
    go_wp2_with fail
    go_ret
    exact ⟨by rw [HS.out]; rfl, Below.refl _ _⟩
  have HL := Lib.hid hl
  have z1 : ((xs.length : Int) != (ys.length : Int)) = false := by rw [int_ne, decide_eq_true hl]; rfl
  rw [show ys.length = xs.length from hl.symm]
  have z3 : ((xs.length : Int) != (xs.length : Int)) = false := by rw [int_ne, decide_eq_true rfl]; rfl
  clear hl z1
  go_wp2_with fail
  clear z3
  have HI : Hid ((∀ (j : Nat) (h1 : j < xs.length) (h2 : j < ys.length), j < 0 → same xs[j].e ys[j].e = true) ∧ Below w.heap.size w w) := ⟨fun j _ _ h => absurd h (Nat.not_lt_zero _), Below.refl _ _⟩
  go_loopw [17] (fun t wr => ∃ i : Nat, t = .int .i64 i ∧ i ≤ xs.length ∧ Hid ((∀ (j : Nat) (h1 : j < xs.length) (h2 : j < ys.length), j < i → same xs[j].e ys[j].e = true) ∧ Below w.heap.size w wr)) (fun t _ => xs.length - (intOf t).toNat)
  case atStart => exact ⟨0, rfl, Nat.zero_le _, HI⟩
  case round =>
    obtain ⟨i, rfl, hi, HJ⟩ := hrel
    clear HI
    by_cases hlt : i < xs.length
    · have z0 : (0 : Int) ≤ (i : Int) := by omega
      have z1 : (i : Int) < (xs.length : Int) := by omega
      have hlt2 : i < ys.length := by rw [← HL.out]; exact hlt
      have HNX := Lib.hid (fun (h : same xs[i].e ys[i].e = true) (j : Nat) (h1 : j < xs.length) (h2 : j < ys.length) (hji : j < i + 1) => (show same xs[j].e ys[j].e = true from by
        rcases Nat.lt_or_ge j i with h3 | h3
        · exact HJ.out.1 j h1 h2 h3
        · obtain rfl : j = i := by omega
          exact h))
      have HNO := Lib.hid (sameL_no hlt hlt2)
      have HBX := Lib.hid (HB1.out _ (List.getElem_mem hlt))
      have HBY := Lib.hid (HB2.out _ (List.getElem_mem hlt2))
      have HXI := (HX.out.below HJ.out.2).at i hlt
      have HYI := Lib.hid (fun V (hV : Below wr.heap.size wr V) => ((HY.out.below HJ.out.2).below hV).at i hlt2)
      obtain ⟨b, o, rfl, hbl, c0, c1, c2, c3, hat⟩ := HXI
      have HAT := Lib.hid hat
      generalize xs[i] = x at HAT HNX HNO HBX c0 c1 c2 c3
      generalize ys[i] = y at HYI HNX HNO HBY
      clear hbl hat hlt2
      have hb1 := (Below.refl wr.heap.size wr).alloc (Nat.le_refl _) (.cells #[.int .u8 x.e.v, .int .u8 x.e.k, .slice x.A x.e.ns.length x.ca, .slice x.C x.e.ts.length x.cc] 27)
      have HP1 := Lib.hid (show Four _ wr.heap.size _ _ _ _ from box4 wr (.int .u8 x.e.v) (.int .u8 x.e.k) (.slice x.A x.e.ns.length x.ca) (.slice x.C x.e.ts.length x.cc) 27)
      go_upto_region 6 with (fail)
      clear c0 c1 c2 c3
      replace HAT := Lib.hid (HAT.out.below hb1)
      have HYI2 := HYI.out _ hb1
      have HB3 := Lib.hid hb1
      generalize hV1 : wr.alloc (.cells #[.int .u8 x.e.v, .int .u8 x.e.k, .slice x.A x.e.ns.length x.ca, .slice x.C x.e.ts.length x.cc] 27) = V1 at HP1 HAT HYI2 HB3 ⊢
      generalize wr.heap.size = b1 at HP1 ⊢
      clear hb1 hV1
      obtain ⟨b2, o2, rfl, hbl2, d0, d1, d2, d3, hat2⟩ := HYI2
      have hb1 := (Below.refl V1.heap.size V1).alloc (Nat.le_refl _) (.cells #[.int .u8 y.e.v, .int .u8 y.e.k, .slice y.A y.e.ns.length y.ca, .slice y.C y.e.ts.length y.cc] 27)
      have HP2 := Lib.hid (show Four _ V1.heap.size _ _ _ _ from box4 V1 (.int .u8 y.e.v) (.int .u8 y.e.k) (.slice y.A y.e.ns.length y.ca) (.slice y.C y.e.ts.length y.cc) 27)
      go_upto_region 7 with (fail)
      clear d0 d1 d2 d3 hbl2
      replace HAT := Lib.hid (HAT.out.below hb1)
      have HAT2 := Lib.hid (hat2.below hb1)
      replace HP1 := Lib.hid (HP1.out.below hb1)
      replace HB3 := Lib.hid (HB3.out.trans (hb1.mono HB3.out.size))
      generalize hV2 : V1.alloc (.cells #[.int .u8 y.e.v, .int .u8 y.e.k, .slice y.A y.e.ns.length y.ca, .slice y.C y.e.ts.length y.cc] 27) = V2 at HP1 HP2 HAT HAT2 HB3 ⊢
      generalize V1.heap.size = b3 at HP2 ⊢
      clear hb1 hV2 hat2 HYI
      have HC := Lib.hid (same_big x.A x.ca x.C x.cc x.e y.A y.ca y.C y.cc y.e HBX.out.1 HBY.out.1 HBX.out.2 HBY.out.2 V2 HAT.out HAT2.out)
      unfold evV at HC
      obtain ⟨p0, p1, p2, p3⟩ := HP1.out
      obtain ⟨r0, r1, r2, r3⟩ := HP2.out
      go_wp2_with fail
      clear p0 p1 p2 p3 r0 r1 r2 r3
      refine HC.out.mono ?_
      rintro z V3 ⟨rfl, hb⟩
      have HB4 := Lib.hid (HJ.out.2.trans ((HB3.out.trans (hb.mono HB3.out.size)).mono HJ.out.2.size))
      clear hb HC z0 z1
      cases hst : same x.e y.e with
      | true =>
        have HK := Lib.hid (And.intro (HNX.out hst) HB4.out)
        have zk : IntKind.i64.wrap ((i : Int) + 1) = (i : Int) + 1 := by (rw [IntKind.wrap_i64]; have := HN.out; omega)
        clear hst
        go_wp2_with fail
        go_roundw
        case rel => exact ⟨i + 1, by go_num, by omega, HK⟩
        case measure => simp [intOf] <;> omega
      | false =>
        have HNN := Lib.hid (HNO.out hst)
        clear hst
        go_wp2_with fail
        go_ret
        exact ⟨by rw [HNN.out]; rfl, HB4.out⟩
    · have z1 : ¬ (i : Int) < (xs.length : Int) := by omega
      have HYES := Lib.hid (sameL_yes HL.out (fun j h1 h2 => HJ.out.1 j h1 h2 (by omega)))
      go_wp2_with fail
      go_ret
      exact ⟨by rw [HYES.out]; rfl, HJ.out.2⟩
set_option maxHeartbeats 1000000 in
theorem Same_any (A : Option Addr) (ca : Nat) (xs : List Lx) (C : Option Addr) (cc : Nat) (ys : List Lx) (hn : xs.length ≤ 1000000000) (hb1 : Big xs) (hb2 : Big ys) (w : World) (hX : Row w A xs) (hY : Row w C ys) :
    Calls Tryd.prog 13 #[.slice A xs.length ca, .slice C ys.length cc] w fun z w' => z = .returned (.bool (sameL xs ys)) ∧ Below w.heap.size w w' := by
  have HC := Lib.hid (equalF_any A ca xs C cc ys hn hb1 hb2 w hX hY)
  clear hn hb1 hb2 hX hY
  go_enter Tryd.func13, Tryd.ntmps13
  go_wp2_with fail
  refine HC.out.mono ?_
  rintro z W1 ⟨rfl, hb⟩
  have HB := Lib.hid hb
  clear hb
  go_wp2_with fail
  go_ret
  exact ⟨rfl, HB.out⟩
end Go.Proofs.YtiibeemjkdipnaaDoor.Batch

/-
  The walk of the statement BatchNames.
-/
namespace Go.Proofs.YtiibeemjkdipnaaDoor.Batch
open Go Go.RowKit
open Go.Proofs.YtiibeemjkdipnaaDoor.Schema
open Go.Proofs.YtiibeemjkdipnaaDoor.Upcast (ev0 LyAt Apart vat_row event_any lwX)

/-! ### an append that leaves what was there -/
theorem ownR_front {w : World} {base g n cap : Nat} {xs : List Lx} {y : Lx} (h : OwnR w base (.slice (some ⟨g, 0, none⟩) n cap) (xs ++ [y])) : OwnR w base (.slice (some ⟨g, 0, none⟩) xs.length cap) xs := by
  obtain ⟨h1, h2⟩ := h
  refine ⟨cellsX_len xs, ?_⟩
  rcases h2 with ⟨h2, _⟩ | ⟨g', cap', cur, e, hbg, hh, hn, hc, hs, ht⟩
  · cases h2
  · injection e with e1 e2 e3
    subst e3
    refine Or.inr ⟨g', cap, cur, by rw [e1], hbg, hh, by rw [List.length_append, List.length_singleton] at hn; omega, hc, hs, ?_⟩
    have h3 := congrArg (List.take (xs.length * 4)) ht
    rw [List.take_take, List.length_append, List.length_singleton, Nat.min_eq_left (by omega), cellsX_snoc, ← cellsX_len xs, List.take_left] at h3
    rw [← cellsX_len xs]
    exact h3
set_option maxRecDepth 100000 in
theorem wp_append_keep {o : Oper} {a : Act} {w : World} {K : Act → World → Prop} {Q : Exit → Act → World → Prop} (s x : Operand)
    (ho : o.op = .call { callee := .builtin .append, args := #[s, x], argTypes := #[23, 23] })
    (base g c0 : Nat) (xs : List Lx) (hs : a.eval s = .slice (some ⟨g, 0, none⟩) xs.length c0) (hown : OwnR w base (.slice (some ⟨g, 0, none⟩) xs.length c0) xs)
    (ad : Addr) (cap : Nat) (y : Lx) (hx : a.eval x = .slice (some ad) 1 cap) (hn : VAt w (some ad) (lxC y))
    (hlen : xs.length ≤ 1000000) (hbase : base ≤ w.heap.size)
    (h : ∀ g' c' w', OwnR w' base (.slice (some ⟨g', 0, none⟩) (xs ++ [y]).length c') (xs ++ [y]) → OwnR w' base (.slice (some ⟨g, 0, none⟩) xs.length c0) xs → w.grownBy w' (some g) → K (a.put o.dst (.slice (some ⟨g', 0, none⟩) (xs ++ [y]).length c')) w') : o.wp Tryd.prog a w K Q := by
  obtain ⟨i0, hi, hz0, hz1, hz2⟩ := info_parts4 infoE
  have hnews : ∀ j u, (lxC y)[j]? = some u → w.cell? (ad.add j) = some u := fun j u hj => by
    obtain ⟨b, o, e, hc⟩ := hn j u hj
    injection e with e; subst e
    rw [Wire.addr_add, hc]
  have hfin : ∃ g' c' w', (Builtin.append_ #[23, 23] o.type #[.slice (some ⟨g, 0, none⟩) xs.length c0, .slice (some ad) 1 cap]).run Tryd.prog w = .ok (.slice (some ⟨g', 0, none⟩) (xs ++ [y]).length c') w' ∧ OwnR w' base (.slice (some ⟨g', 0, none⟩) (xs ++ [y]).length c') (xs ++ [y]) ∧ OwnR w' base (.slice (some ⟨g, 0, none⟩) xs.length c0) xs ∧ w.grownBy w' (some g) := by
    by_cases hroom : xs.length + 1 ≤ c0
    · obtain ⟨w', hr, h1, h2⟩ := run_append_fits (P := Tryd.prog) w base 23 o.type 27 i0 4 Tryd.underlying23 hi hz1 g xs.length c0 (cellsX xs) hown ad 1 cap (lxC y) rfl hnews (lxC_cell y) hroom
      have h3 : OwnR w' base (.slice (some ⟨g, 0, none⟩) (xs ++ [y]).length c0) (xs ++ [y]) := by unfold OwnR; rw [cellsX_snoc, List.length_append]; exact h1
      exact ⟨g, c0, w', by rw [List.length_append]; exact hr, h3, ownR_front h3, h2⟩
    · have hvat : ∀ j u, (cellsX xs)[j]? = some u → w.cell? ((⟨g, 0, none⟩ : Addr).add j) = some u := fun j u hj => by
        obtain ⟨A', c', e, hv, -, -, -⟩ := hown.vat
        injection e with e1 _ _
        subst e1
        obtain ⟨b, o, e, hc⟩ := hv j u hj
        injection e with e; injection e with e1 e2; subst e1; subst e2
        rw [Wire.addr_add]; exact hc
      obtain ⟨v', w', hr, h1, h2⟩ := run_append_arg_grows (P := Tryd.prog) w 23 o.type 27 i0 _ 4 56 Tryd.underlying23 hi hz0 hz1 hz2 rfl (by decide) ⟨g, 0, none⟩ xs.length c0 (cellsX xs) (cellsX_len xs) hvat ad 1 cap (lxC y) rfl hnews (by omega) (by unfold maxLen; omega) (by omega)
      have hb := below_none h2
      have h3 : OwnR w' base v' (xs ++ [y]) := by
        refine ownR_less (base := w.heap.size) ?_ hbase
        unfold OwnR; rw [cellsX_snoc, List.length_append]; exact h1
      rcases h3.2 with ⟨_, h0⟩ | ⟨g', cap', cur, rfl, _⟩
      · rw [List.length_append] at h0; cases h0
      · exact ⟨g', cap', w', hr, h3, hown.below hb, ⟨h2.os, h2.tape, h2.output, h2.size, fun k hk _ => h2.block k hk (fun e => by cases e)⟩⟩
  obtain ⟨g', c', w', hr, h1, h2, h3⟩ := hfin
  unfold Oper.wp execOp
  simp only [ho, resolve, invoke, builtin, Sem.run_bind, Sem.run_pure, Result.andThen_ok, List.map_toArray, List.map_cons, List.map_nil, hs, hx, hr]
  exact h _ _ _ h1 h2 h3
theorem wpList_append_keep {ops : Array Oper} {rest : List Oper} {o : Oper} {a : Act} {w : World} {Q : Exit → Act → World → Prop} (hgd : o.guard = none) (s x : Operand)
    (ho : o.op = .call { callee := .builtin .append, args := #[s, x], argTypes := #[23, 23] })
    (base g c0 : Nat) (xs : List Lx) (hs : a.eval s = .slice (some ⟨g, 0, none⟩) xs.length c0) (hown : OwnR w base (.slice (some ⟨g, 0, none⟩) xs.length c0) xs)
    (ad : Addr) (cap : Nat) (y : Lx) (hx : a.eval x = .slice (some ad) 1 cap) (hn : VAt w (some ad) (lxC y))
    (hlen : xs.length ≤ 1000000) (hbase : base ≤ w.heap.size)
    (h : ∀ g' c' w', OwnR w' base (.slice (some ⟨g', 0, none⟩) (xs ++ [y]).length c') (xs ++ [y]) → OwnR w' base (.slice (some ⟨g, 0, none⟩) xs.length c0) xs → w.grownBy w' (some g) → wpList Tryd.prog ops Q rest (a.put o.dst (.slice (some ⟨g', 0, none⟩) (xs ++ [y]).length c')) w') : wpList Tryd.prog ops Q (o :: rest) a w :=
  wpList_plain hgd fun _ hK => wp_append_keep s x ho base g c0 xs hs hown ad cap y hx hn hlen hbase fun g' c' w' h1 h2 h3 => hK _ _ (h g' c' w' h1 h2 h3)
end Go.Proofs.YtiibeemjkdipnaaDoor.Batch

/-
  The walk of the statement BatchNames.
-/
namespace Go.Proofs.YtiibeemjkdipnaaDoor.Batch
open Go Go.RowKit
open Go.Proofs.YtiibeemjkdipnaaDoor.Schema
open Go.Proofs.YtiibeemjkdipnaaDoor.Upcast (ev0 LyAt Apart vat_row event_any lwX)

def fitsB (ns : List Int) : Bool := ns.all fun x => decide (0 ≤ x) && decide (x ≤ 9223372036854775807)
theorem fits_of {ns : List Int} (h : fitsB ns = true) : Fits64 ns := fun x hx => by
  have := List.all_eq_true.1 h x hx
  simp only [Bool.and_eq_true, decide_eq_true_eq] at this
  omega
theorem ev_at (w : World) (v k : Nat) (ns : List Int) (hv : v < 256) (hk : k < 256) (hs : fitsB ns = true) : EvAt (w.alloc (.cells (nums ns).toArray 2)) (some ⟨w.heap.size, 0, none⟩) ns.length none 0 ⟨v, k, ns, []⟩ :=
  ⟨hv, hk, fits_of hs, fun t ht => (by cases ht), vat_row w _ _, VAt.nil _ _, fun h => (by cases h), fun _ => rfl, Nat.le_refl _, Nat.le_refl _⟩
theorem own_row (w : World) (vs : List Value) (E : TypeId) (h : vs.length ≤ 1000) : Schema.Own (w.alloc (.cells vs.toArray E)) w.heap.size E (.slice (some ⟨w.heap.size, 0, none⟩) vs.length vs.length) vs :=
  ⟨by simp, Or.inr ⟨w.heap.size, vs.length, vs.toArray, rfl, Nat.le_refl _, heap_alloc_new w _, Nat.le_refl _, by unfold maxLen; omega, by simp, by simp⟩⟩
def xn (q n : Nat) (e : Ev) : Lx := ⟨some ⟨q, 0, none⟩, n, none, 0, e⟩
theorem rows_lit (w : World) (xs : List Lx) (h : ∀ x ∈ xs, LxAt w x) : Row (w.alloc (.cells (cellsX xs).toArray 27)) (some ⟨w.heap.size, 0, none⟩) xs :=
  ⟨vat_row w _ _, fun x hx => (h x hx).below ((Below.refl _ _).alloc (Nat.le_refl _) _)⟩
theorem say_bad {l : List Ev} {v : Nat} (hm : mayL l = true) (hv : ¬ (1 ≤ v ∧ v ≤ 3)) : sayN l v = 43 := by
  have ho := mayL_out hm
  have hg : ∀ i, i < l.length → may (l.getD i ev0) = true := fun i hi => by
    rw [List.getD_eq_getElem?_getD, List.getElem?_eq_getElem hi, Option.getD_some]
    exact (ho.2.2.1 _ (List.getElem_mem hi)).1
  have hs : Upcast.saidX Upcast.nwX l = .ok (l.map Upcast.newE) := Upcast.saidX_is (by simp) (fun i hi => by
    rw [Upcast.newest_is (hg i hi), List.getD_eq_getElem?_getD, List.getD_eq_getElem?_getD, List.getElem?_map, List.getElem?_eq_getElem hi]; rfl)
  unfold sayN lwX
  rw [if_pos (refN_zero.2 hm), hs]
  simp only
  rw [if_neg (by unfold Upcast.isV; rw [decide_eq_true_iff]; exact hv)]
theorem say_many {l : List Ev} {v : Nat} (h : 40 < l.length) : sayN l v = 40 := by
  have h1 : refN l = 40 := if_pos h
  unfold sayN
  rw [if_neg (by rw [h1]; decide), h1]
def eng : Ev := ⟨3, 14, [1099511627776, 64, 16, 1048576, 1125899906842624, 1125899906842624, 1099511627776], []⟩
theorem eng_may : may eng = true := by decide +kernel
theorem n1 : mayL (List.replicate 40 eng) = true := by decide +kernel
theorem n2 : refN [⟨3, 20, [5], []⟩, ⟨2, 20, [5], []⟩] = 4 := by decide +kernel
theorem n3 : refN [⟨3, 20, [0], []⟩] = 4 := by decide +kernel
theorem n4 : sayT [⟨3, 6, [1, 500], []⟩, ⟨3, 20, [70], []⟩, ⟨3, 21, [1, 2, 300], []⟩] 1 = ⟨#[2, 3, 6, 1, 244, 3, 20, 7, 21, 1, 2, 172, 2]⟩ ∧ sayN [⟨3, 6, [1, 500], []⟩, ⟨3, 20, [70], []⟩, ⟨3, 21, [1, 2, 300], []⟩] 1 = 0 := by decide +kernel
theorem n5 : sayT [⟨1, 10, [3], []⟩, ⟨1, 13, [2, 1, 5, 6], []⟩] 1 = ⟨#[1, 2, 10, 3, 13, 2, 1, 5, 6]⟩ ∧ sayN [⟨1, 10, [3], []⟩, ⟨1, 13, [2, 1, 5, 6], []⟩] 1 = 0 := by decide +kernel
theorem n6 : newT ⟨#[1, 2, 10, 3, 13, 2, 1, 5, 6]⟩ = ⟨#[3, 2, 10, 172, 2, 13, 2, 1, 244, 3, 6, 0]⟩ ∧ newN ⟨#[1, 2, 10, 3, 13, 2, 1, 5, 6]⟩ = 0 := by decide +kernel
theorem n7 : encT [⟨3, 10, [300], []⟩, ⟨3, 13, [2, 1, 500, 6, 0], []⟩] = ⟨#[3, 2, 10, 172, 2, 13, 2, 1, 244, 3, 6, 0]⟩ ∧ refN [⟨3, 10, [300], []⟩, ⟨3, 13, [2, 1, 500, 6, 0], []⟩] = 0 := by decide +kernel
theorem r0 : btW ⟨#[]⟩ = 8 := by decide +kernel
theorem r1 : btW ⟨#[0, 1]⟩ = 43 := by decide +kernel
theorem r2 : btW ⟨#[4]⟩ = 43 := by decide +kernel
theorem r3 : btW ⟨#[3]⟩ = 8 := by decide +kernel
theorem r4 : btW ⟨#[3, 1]⟩ = 8 := by decide +kernel
theorem r5 : btW ⟨#[3, 1, 20]⟩ = 8 := by decide +kernel
theorem r6 : btW ⟨#[3, 1, 20, 50, 0]⟩ = 4 := by decide +kernel
theorem r7 : btW ⟨#[3, 129, 0, 20, 50]⟩ = 4 := by decide +kernel
theorem r8 : btW ⟨#[3, 1, 0, 50]⟩ = 4 := by decide +kernel
theorem n8 : sayN [] 9 = 4 := by decide +kernel
/-- while the batch that is full stands -/
structure FuI (w : World) (i : Nat) (v : Value) (ys : List Lx) (wr : World) : Prop where
  env : Env wr
  bel : Below w.heap.size w wr
  own : OwnR wr w.heap.size v ys
  at_ : ∀ y ∈ ys, LyAt wr w.heap.size y
  eq : ys.map (·.e) = List.replicate i eng
theorem FuI.below {w : World} {i : Nat} {v : Value} {ys : List Lx} {wr w' : World} (h : FuI w i v ys wr) (hb : Below wr.heap.size wr w') : FuI w i v ys w' := ⟨h.env.below hb, below_step h.bel hb, h.own.below hb, fun y hy => (h.at_ y hy).below hb, h.eq⟩
theorem FuI.len {w : World} {i : Nat} {v : Value} {ys : List Lx} {wr : World} (h : FuI w i v ys wr) : ys.length = i := by
  have := congrArg List.length h.eq
  rw [List.length_map, List.length_replicate] at this
  exact this
theorem FuI.all {w : World} {i : Nat} {v : Value} {ys : List Lx} {wr : World} (h : FuI w i v ys wr) : ∀ y ∈ ys, y.e = eng := fun y hy => by
  have h1 : y.e ∈ ys.map (·.e) := List.mem_map_of_mem hy
  rw [h.eq] at h1
  exact List.eq_of_mem_replicate h1
theorem FuI.row {w : World} {i : Nat} {A : Option Addr} {c : Nat} {ys : List Lx} {wr : World} (h : FuI w i (.slice A ys.length c) ys wr) : Row wr A ys := row_of h.own h.at_
theorem FuI.small {w : World} {i : Nat} {v : Value} {ys : List Lx} {wr : World} (h : FuI w i v ys wr) : ∀ y ∈ ys, y.e.ns.length ≤ 140737488355328 := fun y hy => by rw [h.all y hy]; decide
theorem FuI.big {w : World} {i : Nat} {v : Value} {ys : List Lx} {wr : World} (h : FuI w i v ys wr) : Big ys := fun y hy => by rw [h.all y hy]; decide

/-- events that were decoded, above what is written to -/
structure ZI (b : Nat) (A : Option Addr) (c : Nat) (zs : List Lx) (wr : World) : Prop where
  own : OwnR wr b (.slice A zs.length c) zs
  at_ : ∀ z ∈ zs, LyAt wr b z
theorem ZI.below {b : Nat} {A : Option Addr} {c : Nat} {zs : List Lx} {wr w' : World} (h : ZI b A c zs wr) (hb : Below wr.heap.size wr w') : ZI b A c zs w' := ⟨h.own.below hb, fun z hz => (h.at_ z hz).below hb⟩
theorem ZI.grown {b g : Nat} {A : Option Addr} {c : Nat} {zs : List Lx} {wr w' : World} (h : ZI b A c zs wr) (hg : wr.grownBy w' (some g)) (hlt : g < b) : ZI b A c zs w' :=
  have t := grw_grown (T := fun r => r = g) hg (fun r e => by injection e with e; exact e.symm)
  ⟨ownR_grw h.own t (fun r hr hq => by omega), fun z hz => lyAt_grw (h.at_ z hz) t (fun r hr hq => by omega)⟩
theorem ZI.row {b : Nat} {A : Option Addr} {c : Nat} {zs : List Lx} {wr : World} (h : ZI b A c zs wr) : Row wr A zs := row_of h.own h.at_
theorem ownR_lt {w : World} {base g n c : Nat} {xs : List Lx} (h : OwnR w base (.slice (some ⟨g, 0, none⟩) n c) xs) : g < w.heap.size := by
  rcases h.2 with ⟨h, _⟩ | ⟨g', cap, cur, e, _, hh, _⟩
  · cases h
  · injection e with e _ _; injection e with e; injection e with e _; subst e
    exact Wire.row_lt hh
theorem S_le8 {l : List Ev} (h : mayL l = true) : (Wire.S (payB l)).size ≤ 4096 := by rw [Codec.S_size]; exact (payB_le h).2
set_option maxRecDepth 100000 in
set_option maxHeartbeats 4000000 in
theorem names_any (w : World) (E : Env w) : Calls Tryd.prog 3 #[] w fun z w' => z = .returned (.bool true) ∧ Below w.heap.size w w' := by
  go_enter Tryd.func3, Tryd.ntmps3
  have HE := Lib.hid E
  have HE0 := Lib.hid E
  clear E
  go_wp2_with fail
  refine (works_any w HE.out).mono ?_
  rintro z W1 ⟨rfl, hb⟩
  have HI0 : Hid (FuI w 0 (.slice none 0 0) [] W1) := ⟨HE.out.below hb, hb, OwnR.nil _ _, (fun y hy => by cases hy), rfl⟩
  clear hb HE
  go_wp2_with fail
  go_loopw [1, 2] (fun vv t wr => ∃ (i : Nat) (ys : List Lx), t = .int .i64 i ∧ i ≤ 40 ∧ Hid (FuI w i vv ys wr)) (fun _ t _ => 40 - (intOf t).toNat)
  case atStart => exact ⟨0, [], rfl, Nat.zero_le _, HI0⟩
  case round =>
    clear HI0
    obtain ⟨i, ys, rfl, hi, HI⟩ := hrel
    by_cases hlt : i < 40
    case pos =>
      have z1 : (i : Int) < 40 := by omega
      go_wp2_with fail
      have hb0 := (Below.refl wr.heap.size wr).alloc (Nat.le_refl _) (.cells #[.int .i64 1099511627776, .int .i64 64, .int .i64 16, .int .i64 1048576, .int .i64 1125899906842624, .int .i64 1125899906842624, .int .i64 1099511627776] 2)
      refine (event_any 3 14 _ 7 7 _).mono ?_
      rintro z V1 ⟨rfl, hb1⟩
      have hb := hb0.trans (hb1.mono hb0.size)
      have ho := (own_row wr (nums eng.ns) 2 (by decide)).below hb1
      skip
      have HLY : Hid (LyAt V1 w.heap.size (xn wr.heap.size 7 eng)) := ⟨eng_may, (fun t ht => by cases ht), Or.inl (Schema.Own.less ho HI.out.bel.size), Or.inl (Schema.Own.nil _ _ _)⟩
      replace HI := Lib.hid (HI.out.below hb)
      clear hb hb0 hb1 ho z1
      generalize wr.heap.size = q at HLY ⊢
      skip
      have hb := (Below.refl V1.heap.size V1).alloc (Nat.le_refl _) (.cells #[.int .u8 3, .int .u8 14, .slice (some ⟨q, 0, none⟩) 7 7, .slice none 0 0] 27)
      have HLN : Hid (VAt (V1.alloc (.cells #[.int .u8 3, .int .u8 14, .slice (some ⟨q, 0, none⟩) 7 7, .slice none 0 0] 27)) (some ⟨V1.heap.size, 0, none⟩) (lxC (xn q 7 eng))) := lx_new V1 (xn q 7 eng)
      have HI2 := Lib.hid (HI.out.below hb)
      have HLY2 := Lib.hid (HLY.out.below hb)
      have HLN2 := Lib.hid (show ys.length ≤ 1000000 by rw [HI.out.len]; omega)
      clear hb HLY HI
      go_wp2_with (at_builtin; refine wpList_append_ev rfl _ _ rfl w.heap.size _ ys rfl HI2.out.own ⟨V1.heap.size, 0, none⟩ 1 (xn q 7 eng) rfl HLN.out HLN2.out HI2.out.bel.size ?_)
      intro v' w' hO hg
      have HI3 : Hid (FuI w (i + 1) v' (ys ++ [xn q 7 eng]) w') := by
        have hlow := HI2.out.own.below_grown (B := w.heap.size) (Nat.le_refl _) HI2.out.bel.size hg
        refine ⟨Codec.env_low HE0.out (HI2.out.bel.trans hlow) HE0.out.2.2, HI2.out.bel.trans hlow, hO, fun y hy => ?_, ?_⟩
        · rcases List.mem_append.1 hy with hy | hy
          · exact (HI2.out.at_ y hy).grown HI2.out.own hg
          · rw [List.mem_singleton.1 hy]; exact HLY2.out.grown HI2.out.own hg
        · rw [List.map_append, HI2.out.eq, List.map_singleton, List.replicate_succ']; rfl
      have zk : IntKind.i64.wrap ((i : Int) + 1) = (i : Int) + 1 := by (rw [IntKind.wrap_i64]; omega)
      clear hO hg HI2 HLY2 HLN HLN2
      go_wp2_with fail
      go_roundw
      case rel => exact ⟨i + 1, ys ++ [xn q 7 eng], by go_num, by omega, HI3⟩
      case measure => simp [intOf] <;> omega
    case neg =>
      obtain rfl : i = 40 := by omega
      have hl := HI.out.len
      have HL := Lib.hid hl
      rcases HI.out.own.2 with ⟨_, h0⟩ | ⟨g, cap, cur, rfl, -⟩
      · rw [hl] at h0; cases h0
      clear hl hlt hi
      have hs : encT (ys.map (·.e)) = Wire.S (payB (List.replicate 40 eng)) := by rw [HI.out.eq]; exact encT_yes (refN_zero.2 n1)
      have hr : refN (ys.map (·.e)) = 0 := by rw [HI.out.eq]; exact refN_zero.2 n1
      have hd := dec_pay n1
      have hsz := S_le8 n1
      have hc := Encode_any (some ⟨g, 0, none⟩) cap ys (by have := HL.out; omega) HI.out.small wr HI.out.row HI.out.env
      rw [hs, hr] at hc
      generalize Wire.S (payB (List.replicate 40 eng)) = s at hc hd hsz
      have HD1 := Lib.hid hd.1
      have HD2 := Lib.hid hd.2
      have HSZ := Lib.hid hsz
      have HC := Lib.hid hc
      clear hc hs hr hd hsz
      go_wp2_with fail
      refine HC.out.mono ?_
      rintro z W2 ⟨rfl, hb⟩
      replace HI := Lib.hid (HI.out.below hb)
      clear hb HC
      have HGL := Lib.hid (ownR_lt HI.out.own)
      have HC := Lib.hid (Decode_any s (by have := HSZ.out; omega) W2 HI.out.env)
      go_wp2_with fail
      refine HC.out.mono ?_
      rintro z W3 ⟨zs, D, cd, rfl, hz, ho, hlz, -, hb⟩
      replace HI := Lib.hid (HI.out.below hb)
      rw [HD1.out]
      have HZ : Hid (ZI W2.heap.size D cd zs W3) := ⟨ho, hlz⟩
      have HZE := Lib.hid (hz.trans HD2.out)
      clear hb HC ho hlz hz HD2
      have hy0 : 0 < ys.length := by rw [HL.out]; decide
      obtain ⟨b1, o1, he, hbl, c0, c1, c2, c3, -⟩ := HI.out.row.at 0 hy0
      injection he with he; injection he with e1 e2; subst e1; subst e2
      rw [Nat.zero_mul, Nat.add_zero] at c0 c1 c2 c3
      have hym : ys[0] ∈ ys := List.getElem_mem hy0
      have z0 : (0 : Int) < (ys.length : Int) := by omega
      have HYM := Lib.hid hym
      generalize ys[0] = y at HYM c0 c1 c2 c3
      clear hbl hym
      have hb := (Below.refl W3.heap.size W3).alloc (Nat.le_refl _) (.cells #[.int .u8 y.e.v, .int .u8 y.e.k, .slice y.A y.e.ns.length y.ca, .slice y.C y.e.ts.length y.cc] 27)
      have HI2 := Lib.hid (HI.out.below hb)
      have HLN := Lib.hid (lx_new W3 y)
      have HYL := Lib.hid (show ys.length ≤ 1000000 by have := HL.out; omega)
      have HZ2 := Lib.hid (HZ.out.below hb)
      go_wp2_with (at_builtin; refine wpList_append_keep rfl _ _ rfl w.heap.size g cap ys rfl HI2.out.own ⟨W3.heap.size, 0, none⟩ 1 y rfl HLN.out HYL.out HI2.out.bel.size ?_)
      intro g' c' W4 hO hO2 hg
      have hlow := HI2.out.own.below_grown (B := w.heap.size) (Nat.le_refl _) HI2.out.bel.size hg
      have hat : ∀ y ∈ ys, LyAt W4 w.heap.size y := fun y hy => (HI2.out.at_ y hy).grown HI2.out.own hg
      have HI3 : Hid (FuI w 40 (.slice (some ⟨g, 0, none⟩) ys.length cap) ys W4) := ⟨Codec.env_low HE0.out (HI2.out.bel.trans hlow) HE0.out.2.2, HI2.out.bel.trans hlow, hO2, hat, HI2.out.eq⟩
      have hlen : (ys ++ [y]).length = ys.length + 1 := by rw [List.length_append, List.length_singleton]
      have hO' : OwnR W4 w.heap.size (.slice (some ⟨g', 0, none⟩) (ys ++ [y]).length c') (ys ++ [y]) := by rw [hlen]; exact hO
      have HR : Hid (Row W4 (some ⟨g', 0, none⟩) (ys ++ [y])) := row_of hO' (fun x hx => by
        rcases List.mem_append.1 hx with hx | hx
        · exact hat x hx
        · rw [List.mem_singleton.1 hx]; exact hat y HYM.out)
      have HSM : Hid (∀ x ∈ ys ++ [y], x.e.ns.length ≤ 140737488355328) := fun x hx => by
        rcases List.mem_append.1 hx with hx | hx
        · exact HI2.out.small x hx
        · rw [List.mem_singleton.1 hx]; exact HI2.out.small y HYM.out
      have h40 : 40 < (ys ++ [y]).length := by rw [List.length_append, HL.out, List.length_singleton]; decide
      have HZ3 := Lib.hid (HZ2.out.grown hg HGL.out)
      clear HI HI2 hb HLN hO hO' hO2 hg hlow hat c0 c1 c2 c3 z0 HYM hy0 HZ HZ2
      have HI := HI3
      clear HI3
      have HZ := HZ3
      clear HZ3
      have hc := Encode_any (some ⟨g', 0, none⟩) c' (ys ++ [y]) (by have := HL.out; rw [List.length_append, List.length_singleton]; omega) HSM.out W4 HR.out HI.out.env
      rw [refN_many h40] at hc
      generalize encT ((ys ++ [y]).map (·.e)) = ta1 at hc
      rw [hlen] at hc
      clear h40 HSM HYL hlen
      have HC := Lib.hid hc
      clear hc
      go_wp2_with fail
      refine HC.out.mono ?_
      rintro z W5 ⟨rfl, hb⟩
      replace HI := Lib.hid (HI.out.below hb)
      replace HZ := Lib.hid (HZ.out.below hb)
      clear hb HC
      clear HR
      go_wp2_with fail
      have hb0 := (Below.refl W5.heap.size W5).alloc (Nat.le_refl _) (.cells #[.int .i64 5] 2)
      refine (event_any 3 20 _ 1 1 _).mono ?_
      rintro z W6 ⟨rfl, hb1⟩
      have hb := hb0.trans (hb1.mono hb0.size)
      replace HI := Lib.hid (HI.out.below hb)
      replace HZ := Lib.hid (HZ.out.below hb)
      have Ea := Lib.hid ((ev_at W5 3 20 [5] (by decide) (by decide) (by decide) : EvAt (W5.alloc (.cells #[.int .i64 5] 2)) (some ⟨W5.heap.size, 0, none⟩) 1 none 0 _).below hb1)
      generalize hq : W5.heap.size = qEa at Ea ⊢
      clear hq hb hb0 hb1
      go_wp2_with fail
      have hb0 := (Below.refl W6.heap.size W6).alloc (Nat.le_refl _) (.cells #[.int .i64 5] 2)
      refine (event_any 2 20 _ 1 1 _).mono ?_
      rintro z W7 ⟨rfl, hb1⟩
      have hb := hb0.trans (hb1.mono hb0.size)
      replace HI := Lib.hid (HI.out.below hb)
      replace HZ := Lib.hid (HZ.out.below hb)
      replace Ea := Lib.hid (Ea.out.below hb)
      have Eb := Lib.hid ((ev_at W6 2 20 [5] (by decide) (by decide) (by decide) : EvAt (W6.alloc (.cells #[.int .i64 5] 2)) (some ⟨W6.heap.size, 0, none⟩) 1 none 0 _).below hb1)
      generalize hq : W6.heap.size = qEb at Eb ⊢
      clear hq hb hb0 hb1
      go_wp2_with fail
      have hb0 := (Below.refl W7.heap.size W7).alloc (Nat.le_refl _) (.cells #[.int .u8 3, .int .u8 20, .slice (some ⟨qEa, 0, none⟩) 1 1, .slice none 0 0, .int .u8 2, .int .u8 20, .slice (some ⟨qEb, 0, none⟩) 1 1, .slice none 0 0] 27)
      have hr : Row (W7.alloc (.cells #[.int .u8 3, .int .u8 20, .slice (some ⟨qEa, 0, none⟩) 1 1, .slice none 0 0, .int .u8 2, .int .u8 20, .slice (some ⟨qEb, 0, none⟩) 1 1, .slice none 0 0] 27)) (some ⟨W7.heap.size, 0, none⟩) [xn qEa 1 ⟨3, 20, [5], []⟩, xn qEb 1 ⟨2, 20, [5], []⟩] := rows_lit W7 [xn qEa 1 ⟨3, 20, [5], []⟩, xn qEb 1 ⟨2, 20, [5], []⟩] (fun x hx => by
        simp only [List.mem_cons, List.not_mem_nil, or_false] at hx
        rcases hx with rfl | rfl
        · exact Ea.out
        · exact Eb.out)
      refine (list_any _ 2 2 _).mono ?_
      rintro z W8 ⟨rfl, hb1⟩
      have hb := hb0.trans (hb1.mono hb0.size)
      clear Ea
      clear Eb
      replace HI := Lib.hid (HI.out.below hb)
      replace HZ := Lib.hid (HZ.out.below hb)
      have R2 := Lib.hid (hr.below hb1)
      generalize hq : W7.heap.size = qR2 at R2 ⊢
      clear hq hb hb0 hb1 hr
      have hc := Encode_any (some ⟨qR2, 0, none⟩) 2 [xn qEa 1 ⟨3, 20, [5], []⟩, xn qEb 1 ⟨2, 20, [5], []⟩] (by show 2 ≤ _; omega) (by intro x hx; have h := List.all_eq_true.1 (show ([xn qEa 1 ⟨3, 20, [5], []⟩, xn qEb 1 ⟨2, 20, [5], []⟩].all fun x => decide (x.e.ns.length ≤ 10)) = true from rfl) x hx; have := of_decide_eq_true h; omega) W8 R2.out HI.out.env
      rw [show refN ([xn qEa 1 ⟨3, 20, [5], []⟩, xn qEb 1 ⟨2, 20, [5], []⟩].map (·.e)) = 4 from n2] at hc
      generalize encT ([xn qEa 1 ⟨3, 20, [5], []⟩, xn qEb 1 ⟨2, 20, [5], []⟩].map (·.e)) = tt at hc
      have HC := Lib.hid hc
      clear hc
      go_wp2_with fail
      refine HC.out.mono ?_
      rintro z W9 ⟨rfl, hb⟩
      replace HI := Lib.hid (HI.out.below hb)
      replace HZ := Lib.hid (HZ.out.below hb)
      replace R2 := Lib.hid (R2.out.below hb)
      clear hb HC
      clear R2
      go_wp2_with fail
      have hb0 := (Below.refl W9.heap.size W9).alloc (Nat.le_refl _) (.cells #[.int .i64 0] 2)
      refine (event_any 3 20 _ 1 1 _).mono ?_
      rintro z W10 ⟨rfl, hb1⟩
      have hb := hb0.trans (hb1.mono hb0.size)
      replace HI := Lib.hid (HI.out.below hb)
      replace HZ := Lib.hid (HZ.out.below hb)
      have Ea := Lib.hid ((ev_at W9 3 20 [0] (by decide) (by decide) (by decide) : EvAt (W9.alloc (.cells #[.int .i64 0] 2)) (some ⟨W9.heap.size, 0, none⟩) 1 none 0 _).below hb1)
      generalize hq : W9.heap.size = qEa at Ea ⊢
      clear hq hb hb0 hb1
      go_wp2_with fail
      have hb0 := (Below.refl W10.heap.size W10).alloc (Nat.le_refl _) (.cells #[.int .u8 3, .int .u8 20, .slice (some ⟨qEa, 0, none⟩) 1 1, .slice none 0 0] 27)
      have hr : Row (W10.alloc (.cells #[.int .u8 3, .int .u8 20, .slice (some ⟨qEa, 0, none⟩) 1 1, .slice none 0 0] 27)) (some ⟨W10.heap.size, 0, none⟩) [xn qEa 1 ⟨3, 20, [0], []⟩] := rows_lit W10 [xn qEa 1 ⟨3, 20, [0], []⟩] (fun x hx => by
        simp only [List.mem_cons, List.not_mem_nil, or_false] at hx
        subst hx
        · exact Ea.out)
      refine (list_any _ 1 1 _).mono ?_
      rintro z W11 ⟨rfl, hb1⟩
      have hb := hb0.trans (hb1.mono hb0.size)
      clear Ea
      replace HI := Lib.hid (HI.out.below hb)
      replace HZ := Lib.hid (HZ.out.below hb)
      have R2 := Lib.hid (hr.below hb1)
      generalize hq : W10.heap.size = qR2 at R2 ⊢
      clear hq hb hb0 hb1 hr
      have hc := Encode_any (some ⟨qR2, 0, none⟩) 1 [xn qEa 1 ⟨3, 20, [0], []⟩] (by show 1 ≤ _; omega) (by intro x hx; have h := List.all_eq_true.1 (show ([xn qEa 1 ⟨3, 20, [0], []⟩].all fun x => decide (x.e.ns.length ≤ 10)) = true from rfl) x hx; have := of_decide_eq_true h; omega) W11 R2.out HI.out.env
      rw [show refN ([xn qEa 1 ⟨3, 20, [0], []⟩].map (·.e)) = 4 from n3] at hc
      generalize encT ([xn qEa 1 ⟨3, 20, [0], []⟩].map (·.e)) = tt at hc
      have HC := Lib.hid hc
      clear hc
      go_wp2_with fail
      refine HC.out.mono ?_
      rintro z W12 ⟨rfl, hb⟩
      replace HI := Lib.hid (HI.out.below hb)
      replace HZ := Lib.hid (HZ.out.below hb)
      replace R2 := Lib.hid (R2.out.below hb)
      clear hb HC
      clear R2
      have hc := Say_any (some ⟨g, 0, none⟩) cap ys 0 (by decide) (by have := HL.out; omega) HI.out.small W12 HI.out.row HI.out.env
      rw [show sayN (ys.map (·.e)) 0 = 43 by rw [HI.out.eq]; exact say_bad n1 (by omega)] at hc
      generalize sayT (ys.map (·.e)) 0 = tx0 at hc
      have HC := Lib.hid hc
      clear hc
      go_wp2_with fail
      refine HC.out.mono ?_
      rintro z W13 ⟨rfl, hb⟩
      replace HI := Lib.hid (HI.out.below hb)
      replace HZ := Lib.hid (HZ.out.below hb)
      clear hb HC
      have hc := Say_any (some ⟨g, 0, none⟩) cap ys 4 (by decide) (by have := HL.out; omega) HI.out.small W13 HI.out.row HI.out.env
      rw [show sayN (ys.map (·.e)) 4 = 43 by rw [HI.out.eq]; exact say_bad n1 (by omega)] at hc
      generalize sayT (ys.map (·.e)) 4 = tx4 at hc
      have HC := Lib.hid hc
      clear hc
      go_wp2_with fail
      refine HC.out.mono ?_
      rintro z W14 ⟨rfl, hb⟩
      replace HI := Lib.hid (HI.out.below hb)
      replace HZ := Lib.hid (HZ.out.below hb)
      clear hb HC
      have hc := Say_any none 0 [] 9 (by decide) (by decide) (fun x hx => by cases hx) W14 (Row.nil _ _) HI.out.env
      rw [show sayN (([] : List Lx).map (·.e)) 9 = 4 from n8] at hc
      generalize sayT (([] : List Lx).map (·.e)) 9 = tx9 at hc
      have HC := Lib.hid hc
      clear hc
      go_wp2_with fail
      refine HC.out.mono ?_
      rintro z W15 ⟨rfl, hb⟩
      replace HI := Lib.hid (HI.out.below hb)
      replace HZ := Lib.hid (HZ.out.below hb)
      clear hb HC
      have hy0 : 0 < ys.length := by rw [HL.out]; decide
      obtain ⟨b1, o1, he, hbl, c0, c1, c2, c3, -⟩ := HI.out.row.at 0 hy0
      injection he with he; injection he with e1 e2; subst e1; subst e2
      rw [Nat.zero_mul, Nat.add_zero] at c0 c1 c2 c3
      have hym : ys[0] ∈ ys := List.getElem_mem hy0
      have z0 : (0 : Int) < (ys.length : Int) := by omega
      have HYM := Lib.hid hym
      generalize ys[0] = y at HYM c0 c1 c2 c3
      clear hbl hym
      have hb := (Below.refl W15.heap.size W15).alloc (Nat.le_refl _) (.cells #[.int .u8 y.e.v, .int .u8 y.e.k, .slice y.A y.e.ns.length y.ca, .slice y.C y.e.ts.length y.cc] 27)
      have HI2 := Lib.hid (HI.out.below hb)
      have HLN := Lib.hid (lx_new W15 y)
      have HYL := Lib.hid (show ys.length ≤ 1000000 by have := HL.out; omega)
      have HZ2 := Lib.hid (HZ.out.below hb)
      go_wp2_with (at_builtin; refine wpList_append_keep rfl _ _ rfl w.heap.size g cap ys rfl HI2.out.own ⟨W15.heap.size, 0, none⟩ 1 y rfl HLN.out HYL.out HI2.out.bel.size ?_)
      intro g' c' W16 hO hO2 hg
      have hlow := HI2.out.own.below_grown (B := w.heap.size) (Nat.le_refl _) HI2.out.bel.size hg
      have hat : ∀ y ∈ ys, LyAt W16 w.heap.size y := fun y hy => (HI2.out.at_ y hy).grown HI2.out.own hg
      have HI3 : Hid (FuI w 40 (.slice (some ⟨g, 0, none⟩) ys.length cap) ys W16) := ⟨Codec.env_low HE0.out (HI2.out.bel.trans hlow) HE0.out.2.2, HI2.out.bel.trans hlow, hO2, hat, HI2.out.eq⟩
      have hlen : (ys ++ [y]).length = ys.length + 1 := by rw [List.length_append, List.length_singleton]
      have hO' : OwnR W16 w.heap.size (.slice (some ⟨g', 0, none⟩) (ys ++ [y]).length c') (ys ++ [y]) := by rw [hlen]; exact hO
      have HR : Hid (Row W16 (some ⟨g', 0, none⟩) (ys ++ [y])) := row_of hO' (fun x hx => by
        rcases List.mem_append.1 hx with hx | hx
        · exact hat x hx
        · rw [List.mem_singleton.1 hx]; exact hat y HYM.out)
      have HSM : Hid (∀ x ∈ ys ++ [y], x.e.ns.length ≤ 140737488355328) := fun x hx => by
        rcases List.mem_append.1 hx with hx | hx
        · exact HI2.out.small x hx
        · rw [List.mem_singleton.1 hx]; exact HI2.out.small y HYM.out
      have h40 : 40 < (ys ++ [y]).length := by rw [List.length_append, HL.out, List.length_singleton]; decide
      have HZ3 := Lib.hid (HZ2.out.grown hg HGL.out)
      clear HI HI2 hb HLN hO hO' hO2 hg hlow hat c0 c1 c2 c3 z0 HYM hy0 HZ HZ2
      have HI := HI3
      clear HI3
      have HZ := HZ3
      clear HZ3
      have hc := Say_any (some ⟨g', 0, none⟩) c' (ys ++ [y]) 9 (by decide) (by have := HL.out; rw [List.length_append, List.length_singleton]; omega) HSM.out W16 HR.out HI.out.env
      rw [say_many (l := (ys ++ [y]).map (·.e)) (v := 9) (by rw [List.length_map]; exact h40)] at hc
      generalize sayT ((ys ++ [y]).map (·.e)) 9 = ta2 at hc
      rw [hlen] at hc
      clear h40 HSM HYL hlen
      have HC := Lib.hid hc
      clear hc
      go_wp2_with fail
      refine HC.out.mono ?_
      rintro z W17 ⟨rfl, hb⟩
      replace HI := Lib.hid (HI.out.below hb)
      replace HZ := Lib.hid (HZ.out.below hb)
      clear hb HC
      clear HR
      have hzl : zs.length ≤ 1000000000 := by have h := congrArg List.length HZE.out; rw [List.length_map, List.length_replicate] at h; omega
      have hzb : Big zs := fun y hy => by
        have h1 : y.e ∈ zs.map (·.e) := List.mem_map_of_mem hy
        rw [HZE.out] at h1
        rw [List.eq_of_mem_replicate h1]; decide
      have hc := Same_any D cd zs (some ⟨g, 0, none⟩) cap ys hzl hzb HI.out.big W17 HZ.out.row HI.out.row
      rw [sameL_iff.2 (HZE.out.trans HI.out.eq.symm)] at hc
      have HC := Lib.hid hc
      clear hc hzl hzb
      go_wp2_with fail
      refine HC.out.mono ?_
      rintro z W18 ⟨rfl, hb⟩
      replace HI := Lib.hid (HI.out.below hb)
      replace HZ := Lib.hid (HZ.out.below hb)
      clear hb HC HZ HZE
      have z4 : decide ((s.size : Int) > 4096) = false := decide_eq_false (by have := HSZ.out; omega)
      have z5 : decide ((4096 : Int) < (s.size : Int)) = false := decide_eq_false (by have := HSZ.out; omega)
      have z6 : ¬ (4096 : Int) < (s.size : Int) := by have := HSZ.out; omega
      go_wp2_with fail
      have hb0 := (Below.refl W18.heap.size W18).alloc (Nat.le_refl _) (.cells #[.int .i64 1, .int .i64 500] 2)
      refine (event_any 3 6 _ 2 2 _).mono ?_
      rintro z W19 ⟨rfl, hb1⟩
      have hb := hb0.trans (hb1.mono hb0.size)
      replace HI := Lib.hid (HI.out.below hb)
      have M0 := Lib.hid ((ev_at W18 3 6 [1, 500] (by decide) (by decide) (by decide) : EvAt (W18.alloc (.cells #[.int .i64 1, .int .i64 500] 2)) (some ⟨W18.heap.size, 0, none⟩) 2 none 0 _).below hb1)
      generalize hq : W18.heap.size = qM0 at M0 ⊢
      clear hq hb hb0 hb1
      go_wp2_with fail
      have hb0 := (Below.refl W19.heap.size W19).alloc (Nat.le_refl _) (.cells #[.int .i64 70] 2)
      refine (event_any 3 20 _ 1 1 _).mono ?_
      rintro z W20 ⟨rfl, hb1⟩
      have hb := hb0.trans (hb1.mono hb0.size)
      replace HI := Lib.hid (HI.out.below hb)
      replace M0 := Lib.hid (M0.out.below hb)
      have M1 := Lib.hid ((ev_at W19 3 20 [70] (by decide) (by decide) (by decide) : EvAt (W19.alloc (.cells #[.int .i64 70] 2)) (some ⟨W19.heap.size, 0, none⟩) 1 none 0 _).below hb1)
      generalize hq : W19.heap.size = qM1 at M1 ⊢
      clear hq hb hb0 hb1
      go_wp2_with fail
      have hb0 := (Below.refl W20.heap.size W20).alloc (Nat.le_refl _) (.cells #[.int .i64 1, .int .i64 2, .int .i64 300] 2)
      refine (event_any 3 21 _ 3 3 _).mono ?_
      rintro z W21 ⟨rfl, hb1⟩
      have hb := hb0.trans (hb1.mono hb0.size)
      replace HI := Lib.hid (HI.out.below hb)
      replace M0 := Lib.hid (M0.out.below hb)
      replace M1 := Lib.hid (M1.out.below hb)
      have M2 := Lib.hid ((ev_at W20 3 21 [1, 2, 300] (by decide) (by decide) (by decide) : EvAt (W20.alloc (.cells #[.int .i64 1, .int .i64 2, .int .i64 300] 2)) (some ⟨W20.heap.size, 0, none⟩) 3 none 0 _).below hb1)
      generalize hq : W20.heap.size = qM2 at M2 ⊢
      clear hq hb hb0 hb1
      go_wp2_with fail
      have hb0 := (Below.refl W21.heap.size W21).alloc (Nat.le_refl _) (.cells #[.int .u8 3, .int .u8 6, .slice (some ⟨qM0, 0, none⟩) 2 2, .slice none 0 0, .int .u8 3, .int .u8 20, .slice (some ⟨qM1, 0, none⟩) 1 1, .slice none 0 0, .int .u8 3, .int .u8 21, .slice (some ⟨qM2, 0, none⟩) 3 3, .slice none 0 0] 27)
      have hr : Row (W21.alloc (.cells #[.int .u8 3, .int .u8 6, .slice (some ⟨qM0, 0, none⟩) 2 2, .slice none 0 0, .int .u8 3, .int .u8 20, .slice (some ⟨qM1, 0, none⟩) 1 1, .slice none 0 0, .int .u8 3, .int .u8 21, .slice (some ⟨qM2, 0, none⟩) 3 3, .slice none 0 0] 27)) (some ⟨W21.heap.size, 0, none⟩) [xn qM0 2 ⟨3, 6, [1, 500], []⟩, xn qM1 1 ⟨3, 20, [70], []⟩, xn qM2 3 ⟨3, 21, [1, 2, 300], []⟩] := rows_lit W21 [xn qM0 2 ⟨3, 6, [1, 500], []⟩, xn qM1 1 ⟨3, 20, [70], []⟩, xn qM2 3 ⟨3, 21, [1, 2, 300], []⟩] (fun x hx => by
        simp only [List.mem_cons, List.not_mem_nil, or_false] at hx
        rcases hx with rfl | rfl | rfl
        · exact M0.out
        · exact M1.out
        · exact M2.out)
      refine (list_any _ 3 3 _).mono ?_
      rintro z W22 ⟨rfl, hb1⟩
      have hb := hb0.trans (hb1.mono hb0.size)
      clear M0
      clear M1
      clear M2
      replace HI := Lib.hid (HI.out.below hb)
      have RM := Lib.hid (hr.below hb1)
      generalize hq : W21.heap.size = qRM at RM ⊢
      clear hq hb hb0 hb1 hr
      clear z4 z5 z6
      go_wp2_with fail
      have hb0 := (Below.refl W22.heap.size W22).alloc (Nat.le_refl _) (.cells #[.int .i64 3] 2)
      refine (event_any 1 10 _ 1 1 _).mono ?_
      rintro z W23 ⟨rfl, hb1⟩
      have hb := hb0.trans (hb1.mono hb0.size)
      replace HI := Lib.hid (HI.out.below hb)
      replace RM := Lib.hid (RM.out.below hb)
      have O0 := Lib.hid ((ev_at W22 1 10 [3] (by decide) (by decide) (by decide) : EvAt (W22.alloc (.cells #[.int .i64 3] 2)) (some ⟨W22.heap.size, 0, none⟩) 1 none 0 _).below hb1)
      generalize hq : W22.heap.size = qO0 at O0 ⊢
      clear hq hb hb0 hb1
      go_wp2_with fail
      have hb0 := (Below.refl W23.heap.size W23).alloc (Nat.le_refl _) (.cells #[.int .i64 2, .int .i64 1, .int .i64 5, .int .i64 6] 2)
      refine (event_any 1 13 _ 4 4 _).mono ?_
      rintro z W24 ⟨rfl, hb1⟩
      have hb := hb0.trans (hb1.mono hb0.size)
      replace HI := Lib.hid (HI.out.below hb)
      replace RM := Lib.hid (RM.out.below hb)
      replace O0 := Lib.hid (O0.out.below hb)
      have O1 := Lib.hid ((ev_at W23 1 13 [2, 1, 5, 6] (by decide) (by decide) (by decide) : EvAt (W23.alloc (.cells #[.int .i64 2, .int .i64 1, .int .i64 5, .int .i64 6] 2)) (some ⟨W23.heap.size, 0, none⟩) 4 none 0 _).below hb1)
      generalize hq : W23.heap.size = qO1 at O1 ⊢
      clear hq hb hb0 hb1
      go_wp2_with fail
      have hb0 := (Below.refl W24.heap.size W24).alloc (Nat.le_refl _) (.cells #[.int .u8 1, .int .u8 10, .slice (some ⟨qO0, 0, none⟩) 1 1, .slice none 0 0, .int .u8 1, .int .u8 13, .slice (some ⟨qO1, 0, none⟩) 4 4, .slice none 0 0] 27)
      have hr : Row (W24.alloc (.cells #[.int .u8 1, .int .u8 10, .slice (some ⟨qO0, 0, none⟩) 1 1, .slice none 0 0, .int .u8 1, .int .u8 13, .slice (some ⟨qO1, 0, none⟩) 4 4, .slice none 0 0] 27)) (some ⟨W24.heap.size, 0, none⟩) [xn qO0 1 ⟨1, 10, [3], []⟩, xn qO1 4 ⟨1, 13, [2, 1, 5, 6], []⟩] := rows_lit W24 [xn qO0 1 ⟨1, 10, [3], []⟩, xn qO1 4 ⟨1, 13, [2, 1, 5, 6], []⟩] (fun x hx => by
        simp only [List.mem_cons, List.not_mem_nil, or_false] at hx
        rcases hx with rfl | rfl
        · exact O0.out
        · exact O1.out)
      refine (list_any _ 2 2 _).mono ?_
      rintro z W25 ⟨rfl, hb1⟩
      have hb := hb0.trans (hb1.mono hb0.size)
      clear O0
      clear O1
      replace HI := Lib.hid (HI.out.below hb)
      replace RM := Lib.hid (RM.out.below hb)
      have RO := Lib.hid (hr.below hb1)
      generalize hq : W24.heap.size = qRO at RO ⊢
      clear hq hb hb0 hb1 hr
      have hc := Newest_any ⟨#[1, 2, 10, 3, 13, 2, 1, 5, 6]⟩ (by decide) W25 HI.out.env
      rw [n6.1, n6.2] at hc
      have HC := Lib.hid hc
      clear hc
      go_wp2_with fail
      refine HC.out.mono ?_
      rintro z W26 ⟨rfl, hb⟩
      replace HI := Lib.hid (HI.out.below hb)
      replace RM := Lib.hid (RM.out.below hb)
      replace RO := Lib.hid (RO.out.below hb)
      clear hb HC
      go_wp2_with fail
      have hb0 := (Below.refl W26.heap.size W26).alloc (Nat.le_refl _) (.cells #[.int .i64 300] 2)
      refine (event_any 3 10 _ 1 1 _).mono ?_
      rintro z W27 ⟨rfl, hb1⟩
      have hb := hb0.trans (hb1.mono hb0.size)
      replace HI := Lib.hid (HI.out.below hb)
      replace RM := Lib.hid (RM.out.below hb)
      replace RO := Lib.hid (RO.out.below hb)
      have T0 := Lib.hid ((ev_at W26 3 10 [300] (by decide) (by decide) (by decide) : EvAt (W26.alloc (.cells #[.int .i64 300] 2)) (some ⟨W26.heap.size, 0, none⟩) 1 none 0 _).below hb1)
      generalize hq : W26.heap.size = qT0 at T0 ⊢
      clear hq hb hb0 hb1
      go_wp2_with fail
      have hb0 := (Below.refl W27.heap.size W27).alloc (Nat.le_refl _) (.cells #[.int .i64 2, .int .i64 1, .int .i64 500, .int .i64 6, .int .i64 0] 2)
      refine (event_any 3 13 _ 5 5 _).mono ?_
      rintro z W28 ⟨rfl, hb1⟩
      have hb := hb0.trans (hb1.mono hb0.size)
      replace HI := Lib.hid (HI.out.below hb)
      replace RM := Lib.hid (RM.out.below hb)
      replace RO := Lib.hid (RO.out.below hb)
      replace T0 := Lib.hid (T0.out.below hb)
      have T1 := Lib.hid ((ev_at W27 3 13 [2, 1, 500, 6, 0] (by decide) (by decide) (by decide) : EvAt (W27.alloc (.cells #[.int .i64 2, .int .i64 1, .int .i64 500, .int .i64 6, .int .i64 0] 2)) (some ⟨W27.heap.size, 0, none⟩) 5 none 0 _).below hb1)
      generalize hq : W27.heap.size = qT1 at T1 ⊢
      clear hq hb hb0 hb1
      go_wp2_with fail
      have hb0 := (Below.refl W28.heap.size W28).alloc (Nat.le_refl _) (.cells #[.int .u8 3, .int .u8 10, .slice (some ⟨qT0, 0, none⟩) 1 1, .slice none 0 0, .int .u8 3, .int .u8 13, .slice (some ⟨qT1, 0, none⟩) 5 5, .slice none 0 0] 27)
      have hr : Row (W28.alloc (.cells #[.int .u8 3, .int .u8 10, .slice (some ⟨qT0, 0, none⟩) 1 1, .slice none 0 0, .int .u8 3, .int .u8 13, .slice (some ⟨qT1, 0, none⟩) 5 5, .slice none 0 0] 27)) (some ⟨W28.heap.size, 0, none⟩) [xn qT0 1 ⟨3, 10, [300], []⟩, xn qT1 5 ⟨3, 13, [2, 1, 500, 6, 0], []⟩] := rows_lit W28 [xn qT0 1 ⟨3, 10, [300], []⟩, xn qT1 5 ⟨3, 13, [2, 1, 500, 6, 0], []⟩] (fun x hx => by
        simp only [List.mem_cons, List.not_mem_nil, or_false] at hx
        rcases hx with rfl | rfl
        · exact T0.out
        · exact T1.out)
      refine (list_any _ 2 2 _).mono ?_
      rintro z W29 ⟨rfl, hb1⟩
      have hb := hb0.trans (hb1.mono hb0.size)
      clear T0
      clear T1
      replace HI := Lib.hid (HI.out.below hb)
      replace RM := Lib.hid (RM.out.below hb)
      replace RO := Lib.hid (RO.out.below hb)
      have RT := Lib.hid (hr.below hb1)
      generalize hq : W28.heap.size = qRT at RT ⊢
      clear hq hb hb0 hb1 hr
      have hc := Encode_any (some ⟨qRT, 0, none⟩) 2 [xn qT0 1 ⟨3, 10, [300], []⟩, xn qT1 5 ⟨3, 13, [2, 1, 500, 6, 0], []⟩] (by show 2 ≤ _; omega) (by intro x hx; have h := List.all_eq_true.1 (show ([xn qT0 1 ⟨3, 10, [300], []⟩, xn qT1 5 ⟨3, 13, [2, 1, 500, 6, 0], []⟩].all fun x => decide (x.e.ns.length ≤ 10)) = true from rfl) x hx; have := of_decide_eq_true h; omega) W29 RT.out HI.out.env
      rw [show [xn qT0 1 ⟨3, 10, [300], []⟩, xn qT1 5 ⟨3, 13, [2, 1, 500, 6, 0], []⟩].map (·.e) = [⟨3, 10, [300], []⟩, ⟨3, 13, [2, 1, 500, 6, 0], []⟩] from rfl, n7.1, n7.2] at hc
      have HC := Lib.hid hc
      clear hc
      go_wp2_with fail
      refine HC.out.mono ?_
      rintro z W30 ⟨rfl, hb⟩
      replace HI := Lib.hid (HI.out.below hb)
      replace RM := Lib.hid (RM.out.below hb)
      replace RO := Lib.hid (RO.out.below hb)
      replace RT := Lib.hid (RT.out.below hb)
      clear hb HC
      clear RT
      have hc := says_yes (some ⟨qRM, 0, none⟩) 3 [xn qM0 2 ⟨3, 6, [1, 500], []⟩, xn qM1 1 ⟨3, 20, [70], []⟩, xn qM2 3 ⟨3, 21, [1, 2, 300], []⟩] 1 ⟨#[2, 3, 6, 1, 244, 3, 20, 7, 21, 1, 2, 172, 2]⟩ n4.1 n4.2 (by decide) (by show 3 ≤ _; omega) (by intro x hx; have h := List.all_eq_true.1 (show ([xn qM0 2 ⟨3, 6, [1, 500], []⟩, xn qM1 1 ⟨3, 20, [70], []⟩, xn qM2 3 ⟨3, 21, [1, 2, 300], []⟩].all fun x => decide (x.e.ns.length ≤ 10)) = true from rfl) x hx; have := of_decide_eq_true h; omega) W30 RM.out HI.out.env
      have HC := Lib.hid hc
      clear hc
      go_wp2_with fail
      refine HC.out.mono ?_
      rintro z W31 ⟨rfl, hb⟩
      replace HI := Lib.hid (HI.out.below hb)
      replace RM := Lib.hid (RM.out.below hb)
      replace RO := Lib.hid (RO.out.below hb)
      clear hb HC
      clear RM
      have hc := says_yes (some ⟨qRO, 0, none⟩) 2 [xn qO0 1 ⟨1, 10, [3], []⟩, xn qO1 4 ⟨1, 13, [2, 1, 5, 6], []⟩] 1 ⟨#[1, 2, 10, 3, 13, 2, 1, 5, 6]⟩ n5.1 n5.2 (by decide) (by show 2 ≤ _; omega) (by intro x hx; have h := List.all_eq_true.1 (show ([xn qO0 1 ⟨1, 10, [3], []⟩, xn qO1 4 ⟨1, 13, [2, 1, 5, 6], []⟩].all fun x => decide (x.e.ns.length ≤ 10)) = true from rfl) x hx; have := of_decide_eq_true h; omega) W31 RO.out HI.out.env
      have hq1 := toList_self ⟨#[3, 2, 10, 172, 2, 13, 2, 1, 244, 3, 6, 0]⟩
      have HC := Lib.hid hc
      clear hc
      go_wp2_with fail
      refine HC.out.mono ?_
      rintro z W32 ⟨rfl, hb⟩
      replace HI := Lib.hid (HI.out.below hb)
      replace RO := Lib.hid (RO.out.below hb)
      clear hb HC
      clear RO
      have hc := refused_yes ⟨#[]⟩ 8 r0 (by decide) (by decide) W32 HI.out.env
      have HC := Lib.hid hc
      clear hc
      go_wp2_with fail
      refine HC.out.mono ?_
      rintro z W33 ⟨rfl, hb⟩
      replace HI := Lib.hid (HI.out.below hb)
      clear hb HC
      have hc := refused_yes ⟨#[0, 1]⟩ 43 r1 (by decide) (by decide) W33 HI.out.env
      have HC := Lib.hid hc
      clear hc
      go_wp2_with fail
      refine HC.out.mono ?_
      rintro z W34 ⟨rfl, hb⟩
      replace HI := Lib.hid (HI.out.below hb)
      clear hb HC
      have hc := refused_yes ⟨#[4]⟩ 43 r2 (by decide) (by decide) W34 HI.out.env
      have HC := Lib.hid hc
      clear hc
      go_wp2_with fail
      refine HC.out.mono ?_
      rintro z W35 ⟨rfl, hb⟩
      replace HI := Lib.hid (HI.out.below hb)
      clear hb HC
      have hc := refused_yes ⟨#[3]⟩ 8 r3 (by decide) (by decide) W35 HI.out.env
      have HC := Lib.hid hc
      clear hc
      go_wp2_with fail
      refine HC.out.mono ?_
      rintro z W36 ⟨rfl, hb⟩
      replace HI := Lib.hid (HI.out.below hb)
      clear hb HC
      have hc := refused_yes ⟨#[3, 1]⟩ 8 r4 (by decide) (by decide) W36 HI.out.env
      have HC := Lib.hid hc
      clear hc
      go_wp2_with fail
      refine HC.out.mono ?_
      rintro z W37 ⟨rfl, hb⟩
      replace HI := Lib.hid (HI.out.below hb)
      clear hb HC
      have hc := refused_yes ⟨#[3, 1, 20]⟩ 8 r5 (by decide) (by decide) W37 HI.out.env
      have HC := Lib.hid hc
      clear hc
      go_wp2_with fail
      refine HC.out.mono ?_
      rintro z W38 ⟨rfl, hb⟩
      replace HI := Lib.hid (HI.out.below hb)
      clear hb HC
      have hc := refused_yes ⟨#[3, 1, 20, 50, 0]⟩ 4 r6 (by decide) (by decide) W38 HI.out.env
      have HC := Lib.hid hc
      clear hc
      go_wp2_with fail
      refine HC.out.mono ?_
      rintro z W39 ⟨rfl, hb⟩
      replace HI := Lib.hid (HI.out.below hb)
      clear hb HC
      have hc := refused_yes ⟨#[3, 129, 0, 20, 50]⟩ 4 r7 (by decide) (by decide) W39 HI.out.env
      have HC := Lib.hid hc
      clear hc
      go_wp2_with fail
      refine HC.out.mono ?_
      rintro z W40 ⟨rfl, hb⟩
      replace HI := Lib.hid (HI.out.below hb)
      clear hb HC
      have hc := refused_yes ⟨#[3, 1, 0, 50]⟩ 4 r8 (by decide) (by decide) W40 HI.out.env
      have HC := Lib.hid hc
      clear hc
      go_wp2_with fail
      refine HC.out.mono ?_
      rintro z W41 ⟨rfl, hb⟩
      replace HI := Lib.hid (HI.out.below hb)
      clear hb HC
      have hc := May_any none 0 [] (by decide) (fun x hx => by cases hx) W41 (Row.nil _ _) HI.out.env
      rw [show mayL (([] : List Lx).map (·.e)) = false from rfl] at hc
      have HC := Lib.hid hc
      clear hc
      go_wp2_with fail
      refine HC.out.mono ?_
      rintro z W42 ⟨rfl, hb⟩
      replace HI := Lib.hid (HI.out.below hb)
      clear hb HC
      have hc := May_any (some ⟨g, 0, none⟩) cap ys (by have := HL.out; omega) HI.out.small W42 HI.out.row HI.out.env
      rw [show mayL (ys.map (·.e)) = true by rw [HI.out.eq]; exact n1] at hc
      have HC := Lib.hid hc
      clear hc
      go_wp2_with fail
      refine HC.out.mono ?_
      rintro z W43 ⟨rfl, hb⟩
      replace HI := Lib.hid (HI.out.below hb)
      clear hb HC
      have hc := Same_any none 0 [] none 0 [] (by decide) (fun x hx => by cases hx) (fun x hx => by cases hx) W43 (Row.nil _ _) (Row.nil _ _)
      rw [show sameL [] [] = true from rfl] at hc
      have HC := Lib.hid hc
      clear hc
      go_wp2_with fail
      refine HC.out.mono ?_
      rintro z W44 ⟨rfl, hb⟩
      replace HI := Lib.hid (HI.out.below hb)
      clear hb HC
      have hc := Same_any none 0 [] (some ⟨g, 0, none⟩) cap ys (by decide) (fun x hx => by cases hx) HI.out.big W44 (Row.nil _ _) HI.out.row
      rw [sameL_len (show ¬ ([] : List Lx).length = ys.length by rw [HL.out]; decide)] at hc
      have HC := Lib.hid hc
      clear hc
      go_wp2_with fail
      refine HC.out.mono ?_
      rintro z W45 ⟨rfl, hb⟩
      replace HI := Lib.hid (HI.out.below hb)
      clear hb HC
      go_wp2_with fail
      go_ret
      exact ⟨rfl, HI.out.bel⟩
end Go.Proofs.YtiibeemjkdipnaaDoor.Batch
