import Derived.Test.YtiibeemjkdipnaaGreatDoorUT
/-
  The document's own lifting: more, Up.
-/
namespace Go.Proofs.YtiibeemjkdipnaaGreatDoor.Upcast
open Go Go.RowKit
open Go.Proofs.YtiibeemjkdipnaaGreatDoor.Schema

theorem four_low {n b : Nat} {W W' : World} {a0 a1 a2 a3 : Value} (h : Four W b a0 a1 a2 a3) (hb : Below n W W') (hn : b < n) : Four W' b a0 a1 a2 a3 := ⟨(World.cell?_of_block (hb.block _ hn)).trans h.1, (World.cell?_of_block (hb.block _ hn)).trans h.2.1, (World.cell?_of_block (hb.block _ hn)).trans h.2.2.1, (World.cell?_of_block (hb.block _ hn)).trans h.2.2.2⟩
theorem free_low {n b : Nat} {W W' : World} (h : Free W b) (hb : Below n W W') (hn : b < n) : Free W' b := ⟨Nat.lt_of_lt_of_le h.1 hb.size, fun o => (World.frozen?_of_block (hb.block _ hn)).trans (h.2 o)⟩
/-- where version 2 has a number that version 1 has not, and what it is -/
def plcK (k : Nat) : Int := if k = 3 then 1 else if k = 13 then 4 else if k = 14 then 5 else if k = 18 then 3 else -1
def plsK (k : Nat) : Int := if k = 3 then 100 else if k = 14 then 100 else 0
theorem rMore_any (k : Nat) (w : World) : Calls Tryz.prog 95 #[.int .u8 (k : Int)] w (fun z w' => z = .returned (.tuple #[.int .i64 (plcK k), .int .i64 (plsK k)]) ∧ w' = w) := by
  by_cases h3 : k = 3
  · subst h3
    go_enter Tryz.func95, Tryz.ntmps95
    go_wp2_with fail
    go_ret2
    exact ⟨rfl, rfl⟩
  by_cases h13 : k = 13
  · subst h13
    go_enter Tryz.func95, Tryz.ntmps95
    go_wp2_with fail
    go_ret2
    exact ⟨rfl, rfl⟩
  by_cases h14 : k = 14
  · subst h14
    go_enter Tryz.func95, Tryz.ntmps95
    go_wp2_with fail
    go_ret2
    exact ⟨rfl, rfl⟩
  by_cases h18 : k = 18
  · subst h18
    go_enter Tryz.func95, Tryz.ntmps95
    go_wp2_with fail
    go_ret2
    exact ⟨rfl, rfl⟩
  have q1 : plcK k = -1 := by unfold plcK; rw [if_neg h3, if_neg h13, if_neg h14, if_neg h18]
  have q2 : plsK k = 0 := by unfold plsK; rw [if_neg h3, if_neg h14]
  rw [q1, q2]
  have z3 : ((k : Int) == 3) = false := by rw [beq_eq_false_iff_ne]; omega
  have z13 : ((k : Int) == 13) = false := by rw [beq_eq_false_iff_ne]; omega
  have z14 : ((k : Int) == 14) = false := by rw [beq_eq_false_iff_ne]; omega
  have z18 : ((k : Int) == 18) = false := by rw [beq_eq_false_iff_ne]; omega
  have y3 : ¬ (k : Int) = 3 := by omega
  have y13 : ¬ (k : Int) = 13 := by omega
  have y14 : ¬ (k : Int) = 14 := by omega
  have y18 : ¬ (k : Int) = 18 := by omega
  clear h3 h13 h14 h18 q1 q2
  go_enter Tryz.func95, Tryz.ntmps95
  go_wp2_with fail
  go_ret2
  exact ⟨rfl, rfl⟩

def tiK (v c : Nat) : Int := if v = 1 ∧ (c = 109 ∨ c = 112 ∨ c = 98) then 100 else if v = 2 ∧ c = 116 then 10 else 1
def plK (v c : Nat) : Int := if v = 2 ∧ c = 115 then 1 else 0
def mulK (v c : Nat) (x : Int) : Int := plK v c + x * tiK v c
def rN (v k : Nat) (ns : List Int) (n : Nat) : List Int := (List.range n).map fun j => mulK v (byteAt (lets v k) j) (ns.getD j 0)
theorem rN_succ (v k : Nat) (ns : List Int) (n : Nat) : rN v k ns (n + 1) = rN v k ns n ++ [mulK v (byteAt (lets v k) n) (ns.getD n 0)] := by unfold rN; rw [List.range_succ, List.map_append]; rfl
theorem rN_len (v k : Nat) (ns : List Int) (n : Nat) : (rN v k ns n).length = n := by unfold rN; simp
theorem rN_at (v k : Nat) (ns : List Int) (n j : Nat) (h : j < n) : (rN v k ns n).getD j 0 = mulK v (byteAt (lets v k) j) (ns.getD j 0) := by
  unfold rN
  rw [List.getD_eq_getElem?_getD, List.getElem?_map, List.getElem?_range h]; rfl
def insK (v k : Nat) (l : List Int) : List Int := if v = 1 ∧ 0 ≤ plcK k then l.take (plcK k).toNat ++ [plsK k] ++ l.drop (plcK k).toNat else l
/-- each field of the next version, as the document's words say -/
def idxK (v k i : Nat) : Nat := if v = 1 ∧ 0 ≤ plcK k ∧ plcK k < (i : Int) then i - 1 else i
def newK (v k i : Nat) : Bool := decide (v = 1) && decide (0 ≤ plcK k) && decide (plcK k = (i : Int))
def chkK1 (v k i : Nat) : Bool := if newK v k i then decide ((ruAt v k i).fr = -1) && decide ((ruAt v k i).pl = plsK k) else decide ((ruAt v k i).fr = (idxK v k i : Int)) && decide (idxK v k i < (lets v k).size) && decide ((ruAt v k i).ti = tiK v (byteAt (lets v k) (idxK v k i))) && decide ((ruAt v k i).pl = plK v (byteAt (lets v k) (idxK v k i)))
def chkK (v k : Nat) : Bool := !(tall v k) || (((List.range (lets (v + 1) k).size).all fun i => chkK1 v k i) && (if v = 1 ∧ 0 ≤ plcK k then decide ((lets (v + 1) k).size = (lets v k).size + 1) && decide (plcK k ≤ ((lets v k).size : Int)) else decide ((lets (v + 1) k).size = (lets v k).size)))
theorem chkK_all : ((List.range 24).all fun k => chkK 1 k && chkK 2 k) = true := by decide +kernel
theorem chkK_at {v k : Nat} (h : tall v k = true) (hv : v < 3) : (∀ i, i < (lets (v + 1) k).size → chkK1 v k i = true) ∧ (if v = 1 ∧ 0 ≤ plcK k then (lets (v + 1) k).size = (lets v k).size + 1 ∧ plcK k ≤ ((lets v k).size : Int) else (lets (v + 1) k).size = (lets v k).size) := by
  have hk := tall_kind h
  have h1 := (tall_range h).1.1
  have hc := List.all_eq_true.1 chkK_all k (List.mem_range.2 hk)
  rw [Bool.and_eq_true] at hc
  have hc2 : chkK v k = true := by
    rcases (show v = 1 ∨ v = 2 by omega) with rfl | rfl
    · exact hc.1
    · exact hc.2
  unfold chkK at hc2
  rw [h, Bool.not_true, Bool.false_or, Bool.and_eq_true] at hc2
  refine ⟨fun i hi => List.all_eq_true.1 hc2.1 i (List.mem_range.2 hi), ?_⟩
  have h2 := hc2.2
  split at h2
  · rename_i hq
    rw [if_pos hq]
    simpa using h2
  · rename_i hq
    rw [if_neg hq]
    simpa using h2
theorem insK_len {v k : Nat} (h : tall v k = true) (hv : v < 3) (ns : List Int) : (insK v k (rN v k ns (lets v k).size)).length = (lets (v + 1) k).size := by
  have hc := (chkK_at h hv).2
  unfold insK
  split
  · rename_i hq
    rw [if_pos hq] at hc
    simp only [List.length_append, List.length_take, List.length_drop, rN_len, List.length_singleton]
    omega
  · rename_i hq
    rw [if_neg hq] at hc
    rw [rN_len]; exact hc.symm
theorem insK_at {v k : Nat} (h : tall v k = true) (hv : v < 3) (ns : List Int) (i : Nat) (hi : i < (lets (v + 1) k).size) : (insK v k (rN v k ns (lets v k).size)).getD i 0 = upV ns (ruAt v k i) := by
  have hc := (chkK_at h hv).2
  have h1 := (chkK_at h hv).1 i hi
  unfold chkK1 at h1
  have hU : upV ns (ruAt v k i) = if newK v k i then plsK k else mulK v (byteAt (lets v k) (idxK v k i)) (ns.getD (idxK v k i) 0) := by
    unfold upV
    split at h1
    · rename_i hn
      rw [if_pos hn]
      simp only [Bool.and_eq_true, decide_eq_true_eq] at h1
      rw [if_pos h1.1, h1.2]
    · rename_i hn
      rw [if_neg hn]
      simp only [Bool.and_eq_true, decide_eq_true_eq] at h1
      rw [if_neg (by rw [h1.1.1.1]; omega), h1.2, h1.1.2, h1.1.1.1, Int.toNat_natCast]
      rfl
  rw [hU]
  unfold insK newK idxK
  by_cases hq : v = 1 ∧ 0 ≤ plcK k
  · rw [if_pos hq] at hc
    rw [if_pos hq]
    obtain ⟨p, hp⟩ := Int.eq_ofNat_of_zero_le hq.2
    rw [hp] at hc ⊢
    have hpl : p ≤ (lets v k).size := by have := hc.2; omega
    rw [Int.toNat_natCast, hq.1]
    simp only [decide_true, Bool.true_and, Int.natCast_nonneg, true_and]
    have hlt : ((rN 1 k ns (lets 1 k).size).take p).length = p := by rw [List.length_take, rN_len]; have := hq.1; subst this; omega
    have hv1 := hq.1
    subst hv1
    by_cases c1 : i < p
    · rw [if_neg (by simp; omega), if_neg (by omega), List.append_assoc, List.getD_eq_getElem?_getD, List.getElem?_append_left (by omega), List.getElem?_take_of_lt c1, ← List.getD_eq_getElem?_getD, rN_at _ _ _ _ _ (by omega)]
    · by_cases c2 : p = i
      · subst c2
        rw [if_pos (by simp), List.append_assoc, List.getD_eq_getElem?_getD, List.getElem?_append_right (by omega), hlt, Nat.sub_self]; rfl
      · rw [if_neg (by simp; omega), if_pos (by omega), List.getD_eq_getElem?_getD, List.getElem?_append_right (by simp [hlt]; omega)]
        rw [show i - ((rN 1 k ns (lets 1 k).size).take p ++ [plsK k]).length = i - 1 - p by rw [List.length_append, hlt]; simp; omega, List.getElem?_drop, show p + (i - 1 - p) = i - 1 by omega, ← List.getD_eq_getElem?_getD, rN_at _ _ _ _ _ (by omega)]
  · rw [if_neg hq] at hc
    rw [if_neg hq]
    have e1 : (decide (v = 1) && decide (0 ≤ plcK k) && decide (plcK k = (i : Int))) = false := by
      rw [Bool.and_eq_false_iff]; left
      rw [Bool.and_eq_false_iff]
      by_cases hv1 : v = 1
      · right; rw [decide_eq_false_iff_not]; exact fun h => hq ⟨hv1, h⟩
      · left; rw [decide_eq_false_iff_not]; exact hv1
    rw [e1]
    simp only [Bool.false_eq_true, if_false]
    rw [if_neg (fun h => hq ⟨h.1, h.2.1⟩), rN_at _ _ _ _ _ (by omega)]
theorem rUp_is {e : Ev} (h : may e = true) (hv : e.v < 3) : (upE e).ns = insK e.v e.k (rN e.v e.k e.ns (lets e.v e.k).size) := by
  have ht := (may_out h).tl
  refine list_ext (by rw [up_len, insK_len ht hv]) (fun i hi => ?_)
  rw [insK_len ht hv] at hi
  rw [up_at e i hi, insK_at ht hv _ i hi]

/-- while the document lifts: what has been written so far -/
structure RuI (w : World) (A : Option Addr) (ca : Nat) (C : Option Addr) (cc : Nat) (e : Ev) (v : Value) (l : List Int) (wr : World) : Prop where
  bel : Below w.heap.size w wr
  x : Four wr w.heap.size (.int .u8 e.v) (.int .u8 e.k) (.slice A e.ns.length ca) (.slice C e.ts.length cc)
  p : Four wr (w.heap.size + 1) (.int .u8 0) (.int .u8 0) (.slice none 0 0) (.slice none 0 0)
  pf : Free wr (w.heap.size + 1)
  own : Own wr (w.heap.size + 2) 2 v (nums l)
theorem RuI.low {w : World} {A : Option Addr} {ca : Nat} {C : Option Addr} {cc : Nat} {e : Ev} {v v' : Value} {l l' : List Int} {wr w' : World} (h : RuI w A ca C cc e v l wr) (hb : Below (w.heap.size + 2) wr w') (ho : Own w' (w.heap.size + 2) 2 v' (nums l')) : RuI w A ca C cc e v' l' w' :=
  ⟨h.bel.trans (hb.mono (by omega)), four_low h.x hb (by omega), four_low h.p hb (by omega), free_low h.pf hb (by omega), ho⟩
theorem RuI.sz {w : World} {A : Option Addr} {ca : Nat} {C : Option Addr} {cc : Nat} {e : Ev} {v : Value} {l : List Int} {wr : World} (h : RuI w A ca C cc e v l wr) : w.heap.size + 2 ≤ wr.heap.size := h.pf.1
theorem vat_dz {dz : Nat} {D V : World} {A : Option Addr} {vs : List Value} (h : VAt D A vs) (e : dz = D.heap.size) (hb : Below dz D V) : VAt V A vs := by subst e; exact h.below hb
theorem vat_gr {w w' : World} {g b : Nat} {u : Value} {n c : Nat} (h : VAt w (some ⟨b, 0, none⟩) [u]) (k : w.grownBy w' (Value.slice (some ⟨g, 0, none⟩) n c).ownBlock) (hne : b ≠ g) : VAt w' (some ⟨b, 0, none⟩) [u] := fun j x hj => by
  obtain ⟨b', o', e, hc⟩ := h j x hj
  injection e with e; injection e with e1 e2
  subst e1 e2
  exact ⟨_, _, rfl, (World.cell?_of_block (k.block b (cell_lt hc) (fun e => hne (by simpa [Value.ownBlock] using e)))).trans hc⟩
/-- texts' memory that grows leaves numbers as they are -/
theorem ownE_apart {w w' : World} {base base' : Nat} {v x : Value} {vs ys : List Value} {E F : TypeId} (h : OwnE w base E v vs) (ho : Own w base' F x ys) (hE : E ≠ F) (hg : w.grownBy w' x.ownBlock) : OwnE w' base E v vs := by
  rcases h with h | h
  · left
    obtain ⟨h1, h2⟩ := h
    refine ⟨h1, ?_⟩
    rcases h2 with h2 | ⟨g, cap, cur, e, hbg, hh, r⟩
    · exact Or.inl h2
    · refine Or.inr ⟨g, cap, cur, e, hbg, ?_, r⟩
      refine (hg.block g (row_lt hh) (fun hx => ?_)).trans hh
      obtain ⟨_, h3⟩ := ho
      rcases h3 with ⟨rfl, _⟩ | ⟨g', cap', cur', rfl, _, hh', _⟩
      · cases hx
      · have : g = g' := by simpa [Value.ownBlock] using hx
        subst this
        rw [hh] at hh'
        injection hh' with hh'
        injection hh' with _ h5 _
        exact hE h5
  · exact Or.inr h
theorem nums_snoc (l : List Int) (y : Int) : nums (l ++ [y]) = nums l ++ [.int .i64 y] := by unfold nums; rw [List.map_append]; rfl

end Go.Proofs.YtiibeemjkdipnaaGreatDoor.Upcast
