import Derived.Test.YtkjnddgjnlbopaaRE
import Derived.Laws.AppendOwnNone
/-
  The document's own Scan.
-/
namespace Go.Proofs.Ytkjnddgjnlbopaa.Frame
open Go Go.RowKit
open Go.Proofs.Ytkjnddgjnlbopaa.Wire (S S_list S_size cell_row frozen_row row_lt)

/-- a row of frames that the call itself has made -/
def OwnRf (w : World) (base : Nat) (v : Value) (xs : List Fr) : Prop := w.ownsRow base 91 3 v xs.length (cellsFr xs)
/-- a row of frames, wherever it lies -/
def RowRf (w : World) (A : Option Addr) (xs : List Fr) : Prop := ∀ i (h : i < xs.length), ∃ b o, A = some ⟨b, o, none⟩ ∧ b < w.heap.size ∧ w.cell? ⟨b, o + i * 3, none⟩ = some (.int .i64 (xs[i].q : Int)) ∧ w.cell? ⟨b, o + i * 3 + 1, none⟩ = some (.string (S xs[i].p)) ∧ w.cell? ⟨b, o + i * 3 + 2, none⟩ = some (.int .i64 (xs[i].i : Int))
theorem RowRf.below {w w' : World} {A : Option Addr} {xs : List Fr} (h : RowRf w A xs) (hb : Below w.heap.size w w') : RowRf w' A xs := fun i hi => by
  obtain ⟨b, o, e, h1, h2, h3, h4⟩ := h i hi
  exact ⟨b, o, e, Nat.lt_of_lt_of_le h1 hb.size, (hb.cell h1).trans h2, (hb.cell h1).trans h3, (hb.cell h1).trans h4⟩
theorem OwnRf.row {w : World} {base : Nat} {v : Value} {xs : List Fr} (h : OwnRf w base v xs) : ∃ A cap, v = .slice A xs.length cap ∧ cap ≤ maxLen ∧ xs.length ≤ cap ∧ RowRf w A xs ∧ (∀ a, A = some a → base ≤ a.block) := by
  rcases h.2 with ⟨rfl, hn⟩ | ⟨g, cap, cur, rfl, hb, hg, h1, h2, h3, h4⟩
  · have hx : xs = [] := List.eq_nil_of_length_eq_zero hn
    subst hx
    exact ⟨none, 0, rfl, Nat.zero_le _, Nat.zero_le _, fun i hi => absurd hi (Nat.not_lt_zero _), fun a e => by cases e⟩
  · refine ⟨some ⟨g, 0, none⟩, cap, rfl, h2, h1, fun i hi => ?_, fun a e => by injection e with e; subst e; exact hb⟩
    have key : ∀ j, j < 3 → w.cell? ⟨g, 0 + (i * 3 + j), none⟩ = (frC xs[i])[j]? := fun j hj => by
      rw [cell_row hg, Nat.zero_add, ← cellsFr_at xs i j hi hj, ← h4, List.getElem?_take, if_pos (by omega), ← Array.getElem?_toList]
    have k0 := key 0 (by omega)
    have k1 := key 1 (by omega)
    have k2 := key 2 (by omega)
    exact ⟨g, 0, rfl, row_lt hg, k0, k1, k2⟩
theorem infoRf : (Try.prog.info? 91).map (fun i => (i.zero, i.size, i.bytes)) = some (some (.agg #[.int .i64 0, .string ⟨#[]⟩, .int .i64 0]), 3, 32) := by kernel_rfl
theorem wpList_append_rf {ops : Array Oper} {rest : List Oper} {o : Oper} {a : Act} {w : World} {Q : Exit → Act → World → Prop} (hgd : o.guard = none) (s x : Operand)
    (ho : o.op = .call { callee := .builtin .append, args := #[s, x], argTypes := #[84, 84] })
    (base : Nat) (v : Value) (xs : List Fr) (hs : a.eval s = v) (hown : OwnRf w base v xs)
    (g : Nat) (cap : Nat) (y : Fr) (hx : a.eval x = .slice (some ⟨g, 0, none⟩) 1 cap) (hn : w.heap[g]? = some (.cells (frC y).toArray 91 (0, 0)))
    (hlen : xs.length ≤ 1000000) (hbase : base ≤ w.heap.size)
    (h : ∀ v' w', OwnRf w' base v' (xs ++ [y]) → w.grownBy w' v.ownBlock → wpList Try.prog ops Q rest (a.put o.dst v') w') : wpList Try.prog ops Q (o :: rest) a w := by
  obtain ⟨i0, hi, hz0, hz1, hz2⟩ := info_parts infoRf
  refine wpList_append_own w hgd s x 84 ho base 91 i0 _ 3 32 Try.underlying84 hi hz0 hz1 hz2 rfl (by decide) v xs.length (cellsFr xs) hs hown ⟨g, 0, none⟩ 1 cap (frC y) hx rfl ?_ (frC_cell y) (by unfold maxLen; omega) (by omega) hbase ?_
  · intro j u hj
    rw [addr_add0, cell_row hn]
    simpa using hj
  · intro v' w' hown' hg _
    exact h v' w' (by unfold OwnRf; rw [cellsFr_snoc, List.length_append]; exact hown') hg
theorem OwnRf.nil (w : World) (base : Nat) : OwnRf w base (.slice none 0 0) [] := ⟨rfl, Or.inl ⟨rfl, rfl⟩⟩
theorem OwnRf.less {w : World} {base base' : Nat} {v : Value} {xs : List Fr} (h : OwnRf w base v xs) (hb : base' ≤ base) : OwnRf w base' v xs := by
  obtain ⟨h1, h2⟩ := h
  refine ⟨h1, ?_⟩
  rcases h2 with h2 | ⟨b, cap, cur, e, hbg, r⟩
  · exact Or.inl h2
  · exact Or.inr ⟨b, cap, cur, e, Nat.le_trans hb hbg, r⟩
theorem OwnRf.lt {w : World} {base : Nat} {v : Value} {xs : List Fr} (h : OwnRf w base v xs) (g : Nat) (hg : v.ownBlock = some g) : g < w.heap.size := by
  rcases h.2 with ⟨rfl, _⟩ | ⟨b, cap, cur, rfl, _, hh, _⟩
  · cases hg
  · have : b = g := by simpa [Value.ownBlock] using hg
    subst this; exact row_lt hh
theorem OwnRf.ge {w : World} {base : Nat} {v : Value} {xs : List Fr} (h : OwnRf w base v xs) (g : Nat) (hg : v.ownBlock = some g) : base ≤ g := by
  rcases h.2 with ⟨rfl, _⟩ | ⟨b, cap, cur, rfl, hbg, _⟩
  · cases hg
  · have : b = g := by simpa [Value.ownBlock] using hg
    omega

/-- what the document's Scan tells -/
def RsR (s : ByteArray) (k : Nat) (first : Int) (w : World) (z : Ending) (w' : World) : Prop :=
  ∃ v, z = .returned (.tuple #[v, .int .i64 ((k : Int) + (bytesOf (scanF (s.data.toList.drop k) k first) : Int))]) ∧ OwnRf w' w.heap.size v (scanF (s.data.toList.drop k) k first) ∧ Below w.heap.size w w'
theorem cellsFr_cell : ∀ (l : List Fr), ∀ u ∈ cellsFr l, u.oneCell' = true
  | [], u, h => by cases h
  | x :: r, u, h => by
    rcases List.mem_append.1 (show u ∈ frC x ++ cellsFr r from h) with h | h
    · exact frC_cell x u h
    · exact cellsFr_cell r u h
theorem pref_len : ∀ (first : Int) (L : List Fr), (pref first L).length ≤ L.length
  | _, [] => Nat.le_refl _
  | first, f :: r => by
    unfold pref
    split
    · rw [List.length_cons, List.length_cons]; exact Nat.succ_le_succ (pref_len _ r)
    · exact Nat.zero_le _
theorem rsr_no {s : ByteArray} {k : Nat} {first : Int} {w w' : World} (h : scanF (s.data.toList.drop k) k first = []) (hb : Below w.heap.size w w') : RsR s k first w (.returned (.tuple #[.slice none 0 0, .int .i64 (k : Int)])) w' := by
  refine ⟨.slice none 0 0, ?_, ?_, hb⟩
  · rw [h]; show _ = Ending.returned (.tuple #[.slice none 0 0, .int .i64 ((k : Int) + 0)]); rw [Int.add_zero]
  · rw [h]; exact OwnRf.nil _ _
set_option maxRecDepth 100000 in
set_option maxHeartbeats 8000000 in
theorem refScan_ind (s : ByteArray) (hs : s.size ≤ 10000000) : ∀ (n k : Nat) (first : Int) (w : World), k ≤ s.size → s.size - k ≤ n → (Lit.int .i64 first).wf = true →
    Calls Try.prog 69 #[.string s, .int .i64 (k : Int), .int .i64 first] w (RsR s k first w) := by
  intro n
  induction n using Nat.strongRecOn with
  | _ n ih =>
    intro k first w hk hn hf
    have y0 : decide ((k : Int) < 0) = false := decide_eq_false (by omega)
    have y1 : decide ((s.size : Int) < (k : Int)) = false := decide_eq_false (by omega)
    have y2 : decide (s.size < k) = false := decide_eq_false (by omega)
    obtain ⟨T, hT⟩ : ∃ T, s.data.toList.drop k = T := ⟨_, rfl⟩
    have HT := Lib.hid hT
    have HRD := Lib.hid (fun W => refRead_at s k hk (by omega) T hT W)
    have HIH := Lib.hid ih
    have HK := Lib.hid (And.intro hk hn)
    have HS := Lib.hid hs
    clear hT ih hk hn hf
    by_cases h0 : rdE T = 0
    · by_cases hq : (rdQ T : Int) = first
      · have hkl := rdK_le h0
        obtain ⟨_, _, _, hq4, _⟩ := rd_zero h0
        have hTl : T.length = s.size - k := by rw [← HT.out, List.length_drop]; simp
        have hnx : k + rdK T ≤ s.size := by have := HK.out; omega
        have hsc : scanF (s.data.toList.drop k) k first = ⟨rdQ T, rdP T, k⟩ :: scanF (s.data.toList.drop (k + rdK T)) (k + rdK T) (first + 1) := by
          rw [HT.out, scan_step h0 hq, ← HT.out, List.drop_drop]
        have HSC := Lib.hid hsc
        have hfw : (Lit.int .i64 (first + 1)).wf = true := by rw [← hq]; simp [Lit.wf, IntKind.min, IntKind.max, IntKind.bits, IntKind.signed]; omega
        have HREC := Lib.hid (fun W => HIH.out (s.size - (k + rdK T)) (by have := HK.out; omega) (k + rdK T) (first + 1) W hnx (Nat.le_refl _) hfw)
        have HPK := Lib.hid (show rdK T = 16 + (rdP T).length by unfold rdK; rw [rdP_length (by have := hkl.2; unfold rdK at this; exact this)])
        have HLN : Hid ((scanF (s.data.toList.drop (k + rdK T)) (k + rdK T) (first + 1)).length ≤ 1000000) := Lib.hid (by
          have h1 : (scanF (s.data.toList.drop (k + rdK T)) (k + rdK T) (first + 1)).length ≤ (allS s (k + rdK T)).length := pref_len _ _
          have h2 := allS_len s (k + rdK T)
          have h3 := HS.out
          omega)
        have HFW : Hid (wrap64 (first + 1) = first + 1) := Lib.hid (IntWalk.wrap64_in _ ⟨by omega, by omega⟩)
        have hcast : (k : Int) + (rdK T : Int) = ((k + rdK T : Nat) : Int) := by omega
        have HCA := Lib.hid hcast
        have HQ := Lib.hid h0
        have HQQ := Lib.hid hq
        clear hkl hq4 hTl hnx hsc hfw hcast h0 HIH
        subst hq
        have w1 := HFW.out
        go_enter Try.func69, Try.ntmps69
        go_wp2_with fail
        refine (HRD.out _).mono ?_
        rintro e w1 ⟨he, hb⟩
        rcases he with ⟨_, rfl⟩ | ⟨hx, _⟩
        · have HB := Lib.hid hb; clear hb
          go_wp2_with fail
          rw [HCA.out]
          refine (HREC.out _).mono ?_
          rintro e w2 ⟨v, rfl, ho, hb⟩
          have hbox := (hb.block w1.heap.size (by simp)).trans (heap_alloc_new w1 (.cells #[.int .i64 (rdQ T : Int), .string (S (rdP T)), .int .i64 (k : Int)] 91))
          have c0 : w2.cell? ⟨w1.heap.size, 0, none⟩ = some (.int .i64 (rdQ T : Int)) := cell_row hbox 0
          have c1 : w2.cell? ⟨w1.heap.size, 1, none⟩ = some (.string (S (rdP T))) := cell_row hbox 1
          have c2 : w2.cell? ⟨w1.heap.size, 2, none⟩ = some (.int .i64 (k : Int)) := cell_row hbox 2
          have hba := HB.out.alloc HB.out.size (.cells #[.int .i64 (rdQ T : Int), .string (S (rdP T)), .int .i64 (k : Int)] 91)
          have HB2 := Lib.hid (hba.trans (hb.mono hba.size))
          have HB3 := Lib.hid (HB2.out.alloc HB2.out.size (.cells #[.int .i64 (rdQ T : Int), .string (S (rdP T)), .int .i64 (k : Int)] 91))
          have hbn : Below w2.heap.size w2 (w2.alloc (.cells #[.int .i64 (rdQ T : Int), .string (S (rdP T)), .int .i64 (k : Int)] 91)) := (Below.refl _ _).alloc (Nat.le_refl _) _
          generalize scanF (s.data.toList.drop (k + rdK T)) (k + rdK T) ((rdQ T : Int) + 1) = R at ho HSC HLN ⊢
          have HO : Hid ((w2.alloc (.cells #[.int .i64 (rdQ T : Int), .string (S (rdP T)), .int .i64 (k : Int)] 91)).ownsRow w.heap.size 91 3 (.slice (some ⟨w2.heap.size, 0, none⟩) 1 1) 1 (frC ⟨rdQ T, rdP T, k⟩)) :=
            Lib.hid ⟨rfl, Or.inr ⟨w2.heap.size, 1, #[.int .i64 (rdQ T : Int), .string (S (rdP T)), .int .i64 (k : Int)], rfl, HB2.out.size, heap_alloc_new w2 _, Nat.le_refl _, by unfold maxLen; decide, rfl, rfl⟩⟩
          have HFIN : ∀ (v' : Value) (w' : World), OwnRf w' w.heap.size v' (⟨rdQ T, rdP T, k⟩ :: R) → Below w.heap.size w w' → RsR s k (rdQ T : Int) w (.returned (.tuple #[v', .int .i64 (((k + rdK T : Nat) : Int) + (bytesOf R : Int))])) w' := fun v' w' h1 h2 => by
            refine ⟨v', ?_, by rw [HSC.out]; exact h1, h2⟩
            rw [HSC.out]
            show _ = Ending.returned (.tuple #[v', .int .i64 ((k : Int) + ((16 + (rdP T).length + bytesOf R : Nat) : Int))])
            rw [HPK.out, show ((k + (16 + (rdP T).length) : Nat) : Int) + (bytesOf R : Int) = (k : Int) + ((16 + (rdP T).length + bytesOf R : Nat) : Int) by omega]
          have HFF := Lib.hid HFIN
          clear HFIN hb hba hbox
          obtain ⟨i0, hi, hz0, hz1, hz2⟩ := info_parts infoRf
          have HI := Lib.hid (And.intro hi (And.intro hz0 (And.intro hz1 hz2)))
          clear hi hz0 hz1 hz2
          rcases ho.2 with ⟨rfl, h00⟩ | ⟨g, cap, cur, rfl, hgb, hg, g1, g2, g3, g4⟩
          · have hR : R = [] := List.eq_nil_of_length_eq_zero h00
            subst hR
            clear ho h00 hbn
            go_wp2_with (at_builtin; refine wpList_append_own_none rfl _ _ 84 rfl w.heap.size 91 i0 3 Try.underlying84 HI.out.1 _ 1 _ rfl HO.out rfl ?_)
            go_ret2
            refine HFF.out _ _ HO.out HB3.out
          · have hnews : ∀ (j : Nat) (u : Value), (cellsFr R)[j]? = some u → (w2.alloc (.cells #[.int .i64 (rdQ T : Int), .string (S (rdP T)), .int .i64 (k : Int)] 91)).cell? ((⟨g, 0, none⟩ : Addr).add j) = some u := fun j u hj => by
              rw [addr_add0, cell_row ((hbn.block g (row_lt hg)).trans hg), ← Array.getElem?_toList]
              rw [← g4, List.getElem?_take] at hj
              split at hj
              · exact hj
              · cases hj
            have HNW := Lib.hid hnews
            have HLL := Lib.hid ho.1
            have HO2 := Lib.hid (And.intro HLN.out HB3.out.size)
            clear ho hgb hg g1 g2 g3 g4 hnews hbn
            go_wp2_with (at_builtin; refine wpList_append_own _ rfl _ _ 84 rfl w.heap.size 91 i0 _ 3 32 Try.underlying84 HI.out.1 HI.out.2.1 HI.out.2.2.1 HI.out.2.2.2 rfl (by decide) _ 1 _ rfl HO.out ⟨g, 0, none⟩ R.length cap (cellsFr R) rfl HLL.out HNW.out (cellsFr_cell R) (by have := HO2.out.1; unfold maxLen; omega) (by have := HO2.out.1; omega) HO2.out.2 ?_)
            intro v' w3 ho' hg _
            have hO : OwnRf w3 w.heap.size v' (⟨rdQ T, rdP T, k⟩ :: R) := by
              unfold OwnRf
              rw [List.length_cons, Nat.add_comm]
              exact ho'
            have hbel : Below w.heap.size w w3 := Below.grown HB3.out hg HB3.out.size (fun q hq => by
              have : w2.heap.size = q := by simpa [Value.ownBlock] using hq
              rw [← this]; exact HB2.out.size)
            have HE := Lib.hid (HFF.out v' w3 hO hbel)
            clear ho' hg hO hbel
            go_wp2_with fail
            go_ret2
            exact HE.out
        · exact absurd HQ.out hx
      · have hsc : scanF (s.data.toList.drop k) k first = [] := by rw [HT.out]; exact scan_none (fun h => hq h.2)
        have HSC := Lib.hid hsc
        have HQ := Lib.hid h0
        have hb1 : ((rdQ T : Int) == first) = false := beq_eq_false_iff_ne.2 hq
        have hb2 : ((rdQ T : Int) != first) = true := bne_iff_ne.2 hq
        clear hsc h0 hq
        go_enter Try.func69, Try.ntmps69
        go_wp2_with fail
        refine (HRD.out _).mono ?_
        rintro e w1 ⟨he, hb⟩
        rcases he with ⟨_, rfl⟩ | ⟨hx, _⟩
        · have HB := Lib.hid hb; clear hb
          go_wp2_with fail
          go_ret2
          exact rsr_no HSC.out (HB.out.alloc HB.out.size _)
        · exact absurd HQ.out hx
    · have hsc : scanF (s.data.toList.drop k) k first = [] := by rw [HT.out]; exact scan_none (fun h => h0 h.1)
      have HSC := Lib.hid hsc
      have HQ := Lib.hid h0
      obtain ⟨q1, q2, q3, q4, q5⟩ := nat_ne h0
      clear hsc h0
      go_enter Try.func69, Try.ntmps69
      go_wp2_with fail
      refine (HRD.out _).mono ?_
      rintro e w1 ⟨he, hb⟩
      rcases he with ⟨hx, _⟩ | ⟨_, rfl⟩
      · exact absurd hx HQ.out
      · have HB := Lib.hid hb; clear hb
        go_wp2_with fail
        go_ret2
        exact rsr_no HSC.out (HB.out.alloc HB.out.size _)
/-- **the document's Scan** -/
theorem refScan_any (s : ByteArray) (k : Nat) (hk : k ≤ s.size) (hs : s.size ≤ 10000000) (first : Int) (hf : (Lit.int .i64 first).wf = true) (w : World) :
    Calls Try.prog 69 #[.string s, .int .i64 (k : Int), .int .i64 first] w (RsR s k first w) :=
  refScan_ind s hs (s.size - k) k first w hk (Nat.le_refl _) hf
set_option maxRecDepth 100000 in
set_option maxHeartbeats 2000000 in
theorem refScan_no (s : ByteArray) (i first : Int) (h : ¬ (0 ≤ i ∧ i ≤ s.size)) (w : World) :
    Calls Try.prog 69 #[.string s, .int .i64 i, .int .i64 first] w fun e w' => e = .returned (.tuple #[.slice none 0 0, .int .i64 0]) ∧ Below w.heap.size w w' := by
  have hbl := Below.refl w.heap.size w
  by_cases h0 : i < 0
  · clear h
    go_enter Try.func69, Try.ntmps69
    go_wp2_with fail
    go_ret2
    exact ⟨rfl, hbl⟩
  · have h1 : (s.size : Int) < i := by omega
    clear h
    go_enter Try.func69, Try.ntmps69
    go_wp2_with fail
    go_ret2
    exact ⟨rfl, hbl⟩
end Go.Proofs.Ytkjnddgjnlbopaa.Frame
