import Derived.Test.YtiibeemjkdipnaaDoorUA
/-
  Rules; rows of rules.
-/
namespace Go.Proofs.YtiibeemjkdipnaaDoor.Upcast
open Go Go.RowKit
open Go.Proofs.YtiibeemjkdipnaaDoor.Schema

def cellsU (l : List Ru) : List Value := l.flatMap ruC
theorem cellsU_len (l : List Ru) : (cellsU l).length = l.length * 3 := by
  unfold cellsU
  induction l with
  | nil => rfl
  | cons x l ih => rw [List.flatMap_cons, List.length_append, ih, List.length_cons]; show 3 + _ = _; omega
theorem cellsU_at (l : List Ru) (k j : Nat) (hk : k < l.length) (hj : j < 3) : (cellsU l)[k * 3 + j]? = (ruC l[k])[j]? := by
  unfold cellsU
  induction l generalizing k with
  | nil => exact absurd hk (by simp)
  | cons x l ih =>
    rw [List.flatMap_cons]
    cases k with
    | zero => rw [List.getElem?_append_left (by show _ < 3; omega)]; simp
    | succ k =>
      rw [List.getElem?_append_right (by show 3 ≤ _; omega)]
      have := ih k (by simpa using hk)
      rw [show (k + 1) * 3 + j - (ruC x).length = k * 3 + j by show (k + 1) * 3 + j - 3 = _; omega]
      simpa using this
theorem cellsU_snoc (l : List Ru) (x : Ru) : cellsU (l ++ [x]) = cellsU l ++ ruC x := by unfold cellsU; rw [List.flatMap_append]; simp
theorem ruC_cell (x : Ru) : ∀ u ∈ ruC x, u.oneCell' = true := by
  intro u hu
  unfold ruC at hu
  simp only [List.mem_cons, List.not_mem_nil, or_false] at hu
  rcases hu with rfl | rfl | rfl <;> rfl
def OwnU (w : World) (base : Nat) (v : Value) (l : List Ru) : Prop := w.ownsRow base 118 3 v l.length (cellsU l)
theorem OwnU.nil (w : World) (base : Nat) : OwnU w base (.slice none 0 0) [] := World.ownsRow_nil w base _ _
theorem OwnU.below {w w' : World} {base : Nat} {v : Value} {l : List Ru} (h : OwnU w base v l) (hb : Below w.heap.size w w') : OwnU w' base v l := by
  obtain ⟨h1, h2⟩ := h
  refine ⟨h1, ?_⟩
  rcases h2 with h2 | ⟨g, cap, cur, e, hbg, hg, r⟩
  · exact Or.inl h2
  · exact Or.inr ⟨g, cap, cur, e, hbg, by rw [hb.block g (Array.getElem?_eq_some_iff.1 hg).1]; exact hg, r⟩
/-- rules that lie one behind the other -/
def RowU (w : World) (A : Option Addr) (l : List Ru) : Prop := VAt w A (cellsU l)
theorem OwnU.vat {w : World} {base : Nat} {v : Value} {l : List Ru} (h : OwnU w base v l) : ∃ (A : Option Addr) (cap : Nat), v = .slice A l.length cap ∧ RowU w A l := by
  obtain ⟨_, h⟩ := h
  rcases h with ⟨rfl, h0⟩ | ⟨g, cap, cur, rfl, hb, hg, hn, hc, hs, ht⟩
  · have : l = [] := List.eq_nil_of_length_eq_zero h0
    subst this
    exact ⟨none, 0, rfl, VAt.nil _ _⟩
  · refine ⟨_, cap, rfl, fun k u hu => ⟨g, 0, rfl, ?_⟩⟩
    have hk : k < l.length * 3 := by
      have := (List.getElem?_eq_some_iff.1 hu).1
      rw [cellsU_len] at this; exact this
    have e : cur[k]? = some u := by
      have h1 : (cellsU l)[k]? = cur.toList[k]? := by
        conv => lhs; rw [← ht]
        rw [List.getElem?_take, if_pos hk]
      rw [← Array.getElem?_toList, ← h1, hu]
    simp [World.cell?, hg, e]
theorem RowU.at {w : World} {A : Option Addr} {l : List Ru} (h : RowU w A l) (k : Nat) (hk : k < l.length) : ∃ b o, A = some ⟨b, o, none⟩ ∧ b < w.heap.size ∧ w.cell? ⟨b, o + k * 3, none⟩ = some (.int .i64 l[k].fr) ∧ w.cell? ⟨b, o + k * 3 + 1, none⟩ = some (.int .i64 l[k].ti) ∧ w.cell? ⟨b, o + k * 3 + 2, none⟩ = some (.int .i64 l[k].pl) := by
  obtain ⟨b, o, hA, c0⟩ := h (k * 3) (.int .i64 l[k].fr) (by have := cellsU_at l k 0 hk (by omega); simpa [ruC] using this)
  have get : ∀ j u, j < 3 → (ruC l[k])[j]? = some u → w.cell? ⟨b, o + (k * 3 + j), none⟩ = some u := fun j u hj hu => by
    obtain ⟨b', o', hA', c⟩ := h (k * 3 + j) u (by rw [cellsU_at l k j hk hj]; exact hu)
    rw [hA] at hA'
    injection hA' with e; injection e with e1 e2; subst e1; subst e2
    exact c
  refine ⟨b, o, hA, cell_lt c0, c0, ?_, ?_⟩
  · rw [Nat.add_assoc]; exact get 1 _ (by omega) rfl
  · rw [Nat.add_assoc]; exact get 2 _ (by omega) rfl
theorem infoU : (Tryd.prog.info? 118).map (fun i => (i.zero, i.size, i.bytes)) = some (some (.agg #[.int .i64 0, .int .i64 0, .int .i64 0]), 3, 24) := by kernel_rfl
theorem tri_vat {w : World} {q : Nat} {r : Ru} (h : Tri w q (.int .i64 r.fr) (.int .i64 r.ti) (.int .i64 r.pl)) : VAt w (some ⟨q, 0, none⟩) (ruC r) := by
  intro k u hk
  match k with
  | 0 => obtain rfl : _ = u := by simpa [ruC] using hk
         exact ⟨_, 0, rfl, h.1⟩
  | 1 => obtain rfl : _ = u := by simpa [ruC] using hk
         exact ⟨_, 0, rfl, h.2.1⟩
  | 2 => obtain rfl : _ = u := by simpa [ruC] using hk
         exact ⟨_, 0, rfl, h.2.2⟩
  | k + 3 => simp [ruC] at hk
set_option maxRecDepth 100000 in
theorem wpList_append_ru {ops : Array Oper} {rest : List Oper} {o : Oper} {a : Act} {w : World} {Q : Exit → Act → World → Prop} (hgd : o.guard = none) (s x : Operand)
    (ho : o.op = .call { callee := .builtin .append, args := #[s, x], argTypes := #[114, 114] })
    (base : Nat) (v : Value) (xs : List Ru) (hs : a.eval s = v) (hown : OwnU w base v xs)
    (ad : Addr) (cap : Nat) (y : Ru) (hx : a.eval x = .slice (some ad) 1 cap) (hn : VAt w (some ad) (ruC y))
    (hlen : xs.length ≤ 1000000) (hbase : base ≤ w.heap.size)
    (h : ∀ v' w', OwnU w' base v' (xs ++ [y]) → w.grownBy w' v.ownBlock → wpList Tryd.prog ops Q rest (a.put o.dst v') w') : wpList Tryd.prog ops Q (o :: rest) a w := by
  obtain ⟨i0, hi, hz0, hz1, hz2⟩ := info_parts4 infoU
  refine wpList_append_own w hgd s x 114 ho base 118 i0 _ 3 24 Tryd.underlying114 hi hz0 hz1 hz2 rfl (by decide) v xs.length (cellsU xs) hs hown ad 1 cap (ruC y) hx rfl ?_ (ruC_cell y) (by unfold maxLen; omega) (by omega) hbase ?_
  · intro j u hj
    obtain ⟨b, o, e, hc⟩ := hn j u hj
    injection e with e; subst e
    rw [addr_add, hc]
  · intro v' w' hown' hg _
    exact h v' w' (by unfold OwnU; rw [cellsU_snoc, List.length_append]; exact hown') hg
theorem OwnU.below_grown {B : Nat} {w w' : World} {v : Value} {base : Nat} {xs : List Ru} (ho : OwnU w base v xs) (hb : B ≤ base) (hB : B ≤ w.heap.size) (h : w.grownBy w' v.ownBlock) : Below B w w' :=
  ⟨h.os, h.tape, h.output, h.size, fun k hk => h.block k (by omega) (fun e => by
    have := World.ownsRow.lt ho k e.symm
    omega)⟩

/-- what Rules tells -/
def RulesRes (v k : Nat) (w : World) (z : Ending) (w' : World) : Prop := ∃ x, z = .returned (.tuple #[x, .bool (goes v k)]) ∧ OwnU w' w.heap.size x (if goes v k then rulesL v k else []) ∧ Below w.heap.size w w'
structure RulesI (W : World) (v : Nat) (f n : ByteArray) (j : Nat) (x : Value) (wr : World) : Prop where
  bel : Below W.heap.size W wr
  own : OwnU wr W.heap.size x (foldU v f n j).2
theorem tall_range {v k : Nat} (h : tall v k = true) : (1 ≤ v ∧ v ≤ 3) ∧ k < 24 := by
  by_cases hq : v < 1 ∨ 3 < v ∨ ¬ k < 24
  · unfold tall at h
    rw [lets_out v k hq] at h; cases h
  · omega
theorem VAt.low {w w' : World} {A : Option Addr} {vs : List Value} (h : VAt w A vs) (hb : Below w.heap.size w w') : VAt w' A vs := h.below hb
theorem ownU_less {w : World} {base base' : Nat} {v : Value} {l : List Ru} (h : OwnU w base v l) (hb : base' ≤ base) : OwnU w base' v l := by
  obtain ⟨h1, h2⟩ := h
  refine ⟨h1, ?_⟩
  rcases h2 with h2 | ⟨g, cap, cur, e, hbg, r⟩
  · exact Or.inl h2
  · exact Or.inr ⟨g, cap, cur, e, Nat.le_trans hb hbg, r⟩

set_option maxRecDepth 100000 in
set_option maxHeartbeats 4000000 in
theorem Rules_any (v k : Nat) (hv : v < 256) (hk : k < 256) (w : World) (E : Env w) :
    Calls Tryd.prog 69 #[.int .u8 (v : Int), .int .u8 (k : Int)] w (RulesRes v k w) := by
  have HE := Lib.hid E
  have HK := Lib.hid hk
  have HV := Lib.hid hv
  clear E
  have hvw : IntKind.u8.wrap ((v : Int) + 1) = (((v + 1) % 256 : Nat) : Int) := by rw [IntKind.wrap_u8]; omega
  have hv1 : (v + 1) % 256 < 256 := Nat.mod_lt _ (by decide)
  have HV1 := Lib.hid hv1
  clear hv1
  have HGO := Lib.hid (show goes v k = (tall v k && tall ((v + 1) % 256) k) from rfl)
  have HRU := Lib.hid (show rulesL v k = (foldU v (lets v k) (lets (v + 1) k) (lets (v + 1) k).size).2 from rfl)
  have HT0 := Lib.hid (fun (h : tall v k = true) => (tall_range h).1)
  obtain ⟨v1, hv1e⟩ : ∃ v1, v1 = (v + 1) % 256 := ⟨_, rfl⟩
  rw [← hv1e] at hvw HV1 HGO
  have HVE := Lib.hid hv1e
  clear hv1e
  go_enter Tryd.func69, Tryd.ntmps69
  go_wp2_with fail
  refine (Fields_any v k hv hk w HE.out).mono ?_
  rintro z W1 ⟨x1, rfl, ho1, hb⟩
  have HO1 := Lib.hid ho1
  have HB := Lib.hid hb
  clear ho1 hb
  go_wp2_with fail
  refine (Fields_any v1 k HV1.out hk W1 (HE.out.below HB.out)).mono ?_
  rintro z W2 ⟨x2, rfl, ho2, hb⟩
  replace HO1 := Lib.hid (HO1.out.below hb)
  have HO2 := Lib.hid ho2
  replace HB := Lib.hid (below_step HB.out hb)
  clear ho2 hb hvw
  obtain ⟨A1, c1, rfl, hv1, -, -⟩ := HO1.out.vat
  obtain ⟨A2, c2, rfl, hv2, -, -⟩ := HO2.out.vat
  simp only [clsV_len]
  have HVA := Lib.hid hv1
  have HVB := Lib.hid hv2
  clear hv1 hv2 HO1 HO2
  have HS1 := Lib.hid (lets_ok v k).1
  have HS2 := Lib.hid (lets_ok v1 k).1
  have HGG : Hid (∀ a b, tall v k = a → tall v1 k = b → goes v k = (a && b)) := fun a b h1 h2 => by rw [HGO.out, h1, h2]
  obtain ⟨a, ha⟩ : ∃ a, tall v k = a := ⟨_, rfl⟩
  obtain ⟨b, hb⟩ : ∃ b, tall v1 k = b := ⟨_, rfl⟩
  have HAB := Lib.hid (HGG.out a b ha hb)
  have HTA := Lib.hid ha
  rw [ha, hb]
  clear ha hb HGG HGO
  generalize (a && tru k) = ta
  generalize (b && tru k) = tb
  cases a with
  | false =>
    cases hgv : goes v k with
    | true => rw [hgv] at HAB; exact absurd HAB.out (by simp)
    | false =>
      have HGV := Lib.hid hgv
      clear hgv
      go_wp2_with fail
      go_ret2
      exact ⟨_, by rw [HGV.out]; rfl, by rw [HGV.out]; exact OwnU.nil _ _, HB.out⟩
  | true =>
    cases b with
    | false =>
      cases hgv : goes v k with
      | true => rw [hgv] at HAB; exact absurd HAB.out (by simp)
      | false =>
        have HGV := Lib.hid hgv
        clear hgv
        go_wp2_with fail
        go_ret2
        exact ⟨_, by rw [HGV.out]; rfl, by rw [HGV.out]; exact OwnU.nil _ _, HB.out⟩
    | true =>
      have HGV := Lib.hid (show goes v k = true from HAB.out)
      clear HAB
      have hvv : v1 = v + 1 := by have := HT0.out HTA.out; have := HVE.out; omega
      rw [← hvv] at HRU
      clear hvv HT0 HVE
      generalize hF : lets v k = F at HVA HS1 HRU ⊢
      generalize hN : lets v1 k = N at HVB HS2 HRU ⊢
      clear hF hN
      have hf64 : F.size ≤ 10 := HS1.out
      have hn64 : N.size ≤ 10 := HS2.out
      go_wp2_with fail
      have HI : Hid (RulesI W2 v F N 0 (.slice none 0 0) W2) := ⟨Below.refl _ _, OwnU.nil _ _⟩
      go_loopw [12, 13, 39] (fun x f t wr => ∃ j fr : Nat, t = .int .i64 j ∧ j ≤ N.size ∧ f = .int .i64 fr ∧ fr ≤ 10 ∧ Hid ((foldU v F N j).1 = fr) ∧ Hid (RulesI W2 v F N j x wr)) (fun _ _ t _ => N.size - (intOf t).toNat)
      case atStart => exact ⟨0, 0, rfl, Nat.zero_le _, rfl, Nat.zero_le _, rfl, HI⟩
      case round =>
        obtain ⟨j, fr, rfl, hj, rfl, hfr, HFR, HIj⟩ := hrel
        by_cases hlt : j < N.size
        · have z0 : (0 : Int) ≤ (j : Int) := by omega
          have z1 : (j : Int) < (N.size : Int) := by omega
          obtain ⟨b2, o2, rfl, c0⟩ := (Upcast.VAt.low HVB.out HIj.out.bel) j _ (clsV_at N j hlt)
          have HST := Lib.hid (foldU_succ v F N j)
          have HLN := Lib.hid (foldU_len v F N j)
          have HFL := Lib.hid (foldU_fr v F N j)
          have HC := Lib.hid (show byteAt N j < 256 from byteAt_lt N j)
          generalize hcc : byteAt N j = c at c0 HST HC
          clear hcc
          by_cases hff : fr < F.size
          case pos =>
            have y0 : (0 : Int) ≤ (fr : Int) := by omega
            have y1 : (fr : Int) < (F.size : Int) := by omega
            obtain ⟨b1, o1, rfl, c1'⟩ := (Upcast.VAt.low HVA.out HIj.out.bel) fr _ (clsV_at F fr hff)
            by_cases heq : byteAt F fr = c
            case pos =>
              have hst2 : stepU v F c (foldU v F N j) = (fr + 1, (foldU v F N j).2 ++ [keptR v c fr]) := by unfold stepU; rw [HFR.out, if_pos ⟨hff, heq⟩]
              rw [hst2] at HST
              clear hst2
              rw [heq] at c1'
              have q1 : ((c : Int) == (c : Int)) = true := by simp
              have q2 : (c == c) = true := by simp
              clear heq
              go_wp2_with fail
              refine (kept_any v c fr wr).mono ?_
              rintro z W3 ⟨rfl, hb⟩
              have HI3 := Lib.hid (show RulesI _ _ _ _ _ _ _ from ⟨below_step HIj.out.bel hb, HIj.out.own.below hb⟩)
              clear hb c0 c1'
              unfold ruV
              generalize hru : (keptR v c fr) = r at HST ⊢
              clear hru
              have hb := (Below.refl W3.heap.size W3).alloc (Nat.le_refl _) (.cells #[.int .i64 r.fr, .int .i64 r.ti, .int .i64 r.pl] 118)
              have HT := Lib.hid (tri_vat (r := r) (tri_new W3 (.int .i64 r.fr) (.int .i64 r.ti) (.int .i64 r.pl) 118))
              have HI4 := Lib.hid (show RulesI _ _ _ _ _ _ _ from ⟨below_step HI3.out.bel hb, HI3.out.own.below hb⟩)
              clear hb HI3
              go_wp2_with (at_builtin; refine wpList_append_ru rfl (.tmp 55) (.tmp 60) rfl W2.heap.size _ _ rfl HI4.out.own ⟨W3.heap.size, 0, none⟩ 1 r rfl HT.out ?c1 ?c2 ?_)
              case c1 => have := HLN.out; omega
              case c2 => exact HI4.out.bel.size
              intro v' W5 hO hg
              have HI5 : Hid (Below W2.heap.size W2 W5) := HI4.out.bel.trans (HI4.out.own.below_grown (Nat.le_refl _) HI4.out.bel.size hg)
              have HO5 := Lib.hid hO
              clear hO hg HI4 HT
              go_wp2_with fail
              go_roundw
              case rel => exact ⟨j + 1, fr + 1, by go_num, by omega, by go_num, by have := HFL.out; have := HFR.out; omega, by rw [HST.out]; exact rfl, ⟨HI5.out, by rw [HST.out]; exact HO5.out⟩⟩
              case measure => simp [intOf] <;> omega
            have hst2 : stepU v F c (foldU v F N j) = ((foldU v F N j).1, (foldU v F N j).2 ++ [addedR c]) := by unfold stepU; rw [if_neg (by rw [HFR.out]; exact fun h => heq h.2)]
            rw [hst2] at HST
            clear hst2
            have q1 : ((byteAt F fr : Int) == (c : Int)) = false := beq_eq_false_iff_ne.2 (by omega)
            have q2 : (byteAt F fr == c) = false := beq_eq_false_iff_ne.2 heq
            clear heq
            go_wp2_with fail
            refine (added_any c wr).mono ?_
            rintro z W3 ⟨rfl, hb⟩
            have HI3 := Lib.hid (show RulesI _ _ _ _ _ _ _ from ⟨below_step HIj.out.bel hb, HIj.out.own.below hb⟩)
            clear hb c0
            unfold ruV
            generalize hru : (addedR c) = r at HST ⊢
            clear hru
            have hb := (Below.refl W3.heap.size W3).alloc (Nat.le_refl _) (.cells #[.int .i64 r.fr, .int .i64 r.ti, .int .i64 r.pl] 118)
            have HT := Lib.hid (tri_vat (r := r) (tri_new W3 (.int .i64 r.fr) (.int .i64 r.ti) (.int .i64 r.pl) 118))
            have HI4 := Lib.hid (show RulesI _ _ _ _ _ _ _ from ⟨below_step HI3.out.bel hb, HI3.out.own.below hb⟩)
            clear hb HI3
            go_wp2_with (at_builtin; refine wpList_append_ru rfl (.tmp 64) (.tmp 67) rfl W2.heap.size _ _ rfl HI4.out.own ⟨W3.heap.size, 0, none⟩ 1 r rfl HT.out ?c1 ?c2 ?_)
            case c1 => have := HLN.out; omega
            case c2 => exact HI4.out.bel.size
            intro v' W5 hO hg
            have HI5 : Hid (Below W2.heap.size W2 W5) := HI4.out.bel.trans (HI4.out.own.below_grown (Nat.le_refl _) HI4.out.bel.size hg)
            have HO5 := Lib.hid hO
            clear hO hg HI4 HT
            go_wp2_with fail
            go_roundw
            case rel => exact ⟨j + 1, fr, by go_num, by omega, rfl, by omega, by rw [HST.out]; exact HFR.out, ⟨HI5.out, by rw [HST.out]; exact HO5.out⟩⟩
            case measure => simp [intOf] <;> omega
          have y1 : ¬ (fr : Int) < (F.size : Int) := by omega
          have y2 : decide ((fr : Int) < (F.size : Int)) = false := decide_eq_false y1
          have hst2 : stepU v F c (foldU v F N j) = ((foldU v F N j).1, (foldU v F N j).2 ++ [addedR c]) := by unfold stepU; rw [if_neg (by rw [HFR.out]; exact fun h => hff h.1)]
          rw [hst2] at HST
          clear hst2 hff
          go_wp2_with fail
          refine (added_any c wr).mono ?_
          rintro z W3 ⟨rfl, hb⟩
          have HI3 := Lib.hid (show RulesI _ _ _ _ _ _ _ from ⟨below_step HIj.out.bel hb, HIj.out.own.below hb⟩)
          clear hb c0
          unfold ruV
          generalize hru : (addedR c) = r at HST ⊢
          clear hru
          have hb := (Below.refl W3.heap.size W3).alloc (Nat.le_refl _) (.cells #[.int .i64 r.fr, .int .i64 r.ti, .int .i64 r.pl] 118)
          have HT := Lib.hid (tri_vat (r := r) (tri_new W3 (.int .i64 r.fr) (.int .i64 r.ti) (.int .i64 r.pl) 118))
          have HI4 := Lib.hid (show RulesI _ _ _ _ _ _ _ from ⟨below_step HI3.out.bel hb, HI3.out.own.below hb⟩)
          clear hb HI3
          go_wp2_with (at_builtin; refine wpList_append_ru rfl (.tmp 64) (.tmp 67) rfl W2.heap.size _ _ rfl HI4.out.own ⟨W3.heap.size, 0, none⟩ 1 r rfl HT.out ?c1 ?c2 ?_)
          case c1 => have := HLN.out; omega
          case c2 => exact HI4.out.bel.size
          intro v' W5 hO hg
          have HI5 : Hid (Below W2.heap.size W2 W5) := HI4.out.bel.trans (HI4.out.own.below_grown (Nat.le_refl _) HI4.out.bel.size hg)
          have HO5 := Lib.hid hO
          clear hO hg HI4 HT
          go_wp2_with fail
          go_roundw
          case rel => exact ⟨j + 1, fr, by go_num, by omega, rfl, by omega, by rw [HST.out]; exact HFR.out, ⟨HI5.out, by rw [HST.out]; exact HO5.out⟩⟩
          case measure => simp [intOf] <;> omega
        · have z1 : ¬ (j : Int) < (N.size : Int) := by omega
          have z2 : decide ((j : Int) < (N.size : Int)) = false := decide_eq_false z1
          have hjj : j = N.size := by omega
          rw [hjj] at HIj
          clear hjj hlt
          go_wp2_with fail
          go_ret2
          exact ⟨_, by rw [HGV.out]; rfl, by rw [HGV.out, if_pos rfl, HRU.out]; exact ownU_less HIj.out.own HB.out.size, HB.out.trans (HIj.out.bel.mono HB.out.size)⟩

end Go.Proofs.YtiibeemjkdipnaaDoor.Upcast
