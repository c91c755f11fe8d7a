import Derived.Test.YtiibeemjkdipnaaGreatDoorE5
import Derived.Laws.AppendOwn
import Derived.Laws.AppendOwnNone
import Derived.OwnWalk
import Derived.Lib.OthersKept
import Derived.BigCall
import Derived.Deep.RegionHeld3
/-
  The walks of Bound and Fits.
-/
namespace Go.Proofs.YtiibeemjkdipnaaGreatDoor.Schema
open Go Go.RowKit

theorem below_dn (n : Nat) (w : World) (z : Nat) : Below n w (w.drewN z) := ⟨rfl, rfl, rfl, Nat.le_refl _, fun _ _ => rfl⟩
theorem below_step {Y w w' : World} (h : Below Y.heap.size Y w) (hb : Below w.heap.size w w') : Below Y.heap.size Y w' := h.trans (hb.mono h.size)
structure B3 where
  low : Int
  high : Int
  is : Bool
def stepB (v c : Int) (t : B3) (r : BdR) : B3 := if r.cls = c ∧ r.since ≤ v then ⟨r.low, r.high, true⟩ else t
def foldB (v c : Int) (k : Nat) : B3 := (bdL.take k).foldl (stepB v c) ⟨0, 0, false⟩
/-- the least and the greatest number of a class in a version, and whether there are such -/
def bnd (v c : Int) : B3 := if 3 < v then ⟨0, 0, false⟩ else foldB v c 18
def bdAt (k : Nat) : BdR := bdL.getD k ⟨0, 0, 0, 0⟩
theorem bd_row (k : Nat) (hk : k < 18) : bdL[k]? = some (bdAt k) := by
  unfold bdAt
  rw [List.getD_eq_getElem?_getD, List.getElem?_eq_getElem (by rw [bdL_len]; exact hk)]; rfl
theorem foldB_succ (v c : Int) (k : Nat) (hk : k < 18) : foldB v c (k + 1) = stepB v c (foldB v c k) (bdAt k) := by
  unfold foldB
  rw [List.take_add_one, bd_row k hk, List.foldl_append]; rfl
theorem bd_all {p : BdR → Bool} (h : bdL.all p = true) (k : Nat) (hk : k < 18) : p (bdAt k) = true :=
  List.all_eq_true.1 h _ (List.mem_of_getElem? (bd_row k hk))
theorem Env.b {w : World} (h : Env w) (k : Nat) (hk : k < 18) : w.cell? ⟨1, k * 4, none⟩ = some (.int .u8 (bdAt k).cls) ∧ w.cell? ⟨1, k * 4 + 1, none⟩ = some (.int .u8 (bdAt k).since) ∧ w.cell? ⟨1, k * 4 + 2, none⟩ = some (.int .i64 (bdAt k).low) ∧ w.cell? ⟨1, k * 4 + 3, none⟩ = some (.int .i64 (bdAt k).high) := by
  have g := fun j hj => h.bd k j hj
  simp only [bd_row k hk, Option.bind_some] at g
  exact ⟨g 0 (by decide), g 1 (by decide), g 2 (by decide), g 3 (by decide)⟩
theorem ret_b3 {l h l' h' : Int} {a b : Bool} (h1 : l = l') (h2 : h = h') (h3 : a = b) : Ending.returned (.tuple #[.int .i64 l, .int .i64 h, .bool a]) = .returned (.tuple #[.int .i64 l', .int .i64 h', .bool b]) := by rw [h1, h2, h3]

set_option maxRecDepth 100000 in
set_option maxHeartbeats 400000 in
theorem bound_any (v c : Nat) (hv : v < 256) (hc : c < 256) (w : World) (E : Env w) :
    Calls Tryz.prog 102 #[.int .u8 v, .int .u8 c] w fun e w' => e = .returned (.tuple #[.int .i64 (bnd v c).low, .int .i64 (bnd v c).high, .bool (bnd v c).is]) ∧ Below w.heap.size w w' := by
  have HE := Lib.hid E
  clear E
  by_cases h3 : 3 < v
  · have HB := Lib.hid (show bnd v c = ⟨0, 0, false⟩ from if_pos (by omega))
    go_enter Tryz.func102, Tryz.ntmps102
    go_wp2
    go_ret3
    exact ⟨ret_b3 (by rw [HB.out]) (by rw [HB.out]) (by rw [HB.out]), Below.refl _ _⟩
  · have HB := Lib.hid (show bnd v c = foldB v c 18 from if_neg (by omega))
    have h3' : v ≤ 3 := by omega
    clear h3
    go_enter Tryz.func102, Tryz.ntmps102
    go_wp2
    go_loopw [4, 5, 6, 11] (fun l h b i wr => ∃ k : Nat, k ≤ 18 ∧ i = .int .i64 k ∧ l = .int .i64 (foldB v c k).low ∧ h = .int .i64 (foldB v c k).high ∧ b = .bool (foldB v c k).is ∧ Below w.heap.size w wr) (fun _ _ _ i _ => 18 - (intOf i).toNat)
    case atStart => exact ⟨0, Nat.zero_le _, rfl, rfl, rfl, rfl, Below.refl _ _⟩
    case round =>
      obtain ⟨k, hk, rfl, rfl, rfl, rfl, hB⟩ := hrel
      have HBw := Lib.hid hB
      clear hB
      by_cases hlt : k < 18
      · obtain ⟨c0, c1, c2, c3⟩ := (HE.out.below HBw.out).b k hlt
        have HS := Lib.hid (foldB_succ v c k hlt)
        have hb := (show 0 ≤ (bdAt k).cls ∧ (bdAt k).cls < 256 ∧ 0 ≤ (bdAt k).since ∧ (bdAt k).since < 256 from by
          have := bd_all (p := fun r => decide (0 ≤ r.cls ∧ r.cls < 256 ∧ 0 ≤ r.since ∧ r.since < 256)) (by decide +kernel) k hlt
          simpa using this)
        generalize bdAt k = r at c0 c1 c2 c3 HS hb
        generalize foldB v c k = t at HS ⊢
        obtain ⟨b0, b1, b2, b3⟩ := hb
        by_cases hq : r.cls = (c : Int)
        · by_cases hs : r.since ≤ (v : Int)
          · have HT := Lib.hid (HS.out.trans (if_pos ⟨hq, hs⟩))
            have e1 : (r.cls == (c : Int)) = true := beq_iff_eq.2 hq
            clear hq
            go_wp2
            go_quiet (fail)
            go_wp2
            go_roundw
            case rel => exact ⟨k + 1, by omega, by go_num, by rw [HT.out], by rw [HT.out], by rw [HT.out], (HBw.out.alloc HBw.out.size _).trans (below_dn _ _ _)⟩
            case measure => simp [intOf] <;> omega
          · have HT := Lib.hid (HS.out.trans (if_neg (fun h => hs h.2)))
            have e1 : (r.cls == (c : Int)) = true := beq_iff_eq.2 hq
            have hs' : (v : Int) < r.since := by omega
            clear hq hs
            go_wp2
            go_roundw
            case rel => exact ⟨k + 1, by omega, by go_num, by rw [HT.out], by rw [HT.out], by rw [HT.out], HBw.out.alloc HBw.out.size _⟩
            case measure => simp [intOf] <;> omega
        · have HT := Lib.hid (HS.out.trans (if_neg (fun h => hq h.1)))
          have e1 : (r.cls == (c : Int)) = false := beq_eq_false_iff_ne.2 hq
          clear hq
          go_wp2
          go_roundw
          case rel => exact ⟨k + 1, by omega, by go_num, by rw [HT.out], by rw [HT.out], by rw [HT.out], HBw.out.alloc HBw.out.size _⟩
          case measure => simp [intOf] <;> omega
      · obtain rfl : k = 18 := by omega
        go_wp2
        go_ret3
        exact ⟨ret_b3 (by rw [HB.out]) (by rw [HB.out]) (by rw [HB.out]), HBw.out⟩

/-- whether a number lies within the bounds of a class -/
def fits (v c n : Int) : Bool := (bnd v c).is && decide ((bnd v c).low ≤ n) && decide (n ≤ (bnd v c).high)
theorem bnd_cases (v c : Int) : bnd v c = ⟨0, 0, false⟩ ∨ ∃ k, k < 18 ∧ bnd v c = ⟨(bdAt k).low, (bdAt k).high, true⟩ := by
  unfold bnd
  split
  · exact Or.inl rfl
  · have : ∀ m, m ≤ 18 → foldB v c m = ⟨0, 0, false⟩ ∨ ∃ k, k < 18 ∧ foldB v c m = ⟨(bdAt k).low, (bdAt k).high, true⟩ := by
      intro m
      induction m with
      | zero => intro _; exact Or.inl rfl
      | succ m ih =>
        intro h
        rw [foldB_succ v c m (by omega)]
        unfold stepB
        split
        · exact Or.inr ⟨m, by omega, rfl⟩
        · exact ih (by omega)
    exact this 18 (Nat.le_refl _)
theorem bnd_wf (v c : Int) : -1 ≤ (bnd v c).low ∧ (bnd v c).low ≤ 2 ∧ 0 ≤ (bnd v c).high ∧ (bnd v c).high ≤ 1125899906842624 := by
  rcases bnd_cases v c with h | ⟨k, hk, h⟩
  · rw [h]; decide
  · rw [h]
    have := bd_all (p := fun r => decide (-1 ≤ r.low ∧ r.low ≤ 2 ∧ 0 ≤ r.high ∧ r.high ≤ 1125899906842624)) (by decide +kernel) k hk
    simpa using this

set_option maxRecDepth 100000 in
theorem fits_any (v c : Nat) (n : Int) (hv : v < 256) (hc : c < 256) (hn : -9223372036854775808 ≤ n ∧ n ≤ 9223372036854775807) (w : World) (E : Env w) :
    Calls Tryz.prog 92 #[.int .u8 v, .int .u8 c, .int .i64 n] w fun e w' => e = .returned (.bool (fits v c n)) ∧ Below w.heap.size w w' := by
  have HB := Lib.hid (bound_any v c hv hc w E)
  have HF := Lib.hid (show fits v c n = ((bnd v c).is && decide ((bnd v c).low ≤ n) && decide (n ≤ (bnd v c).high)) from rfl)
  have hw := bnd_wf v c
  generalize bnd v c = t at HB HF hw
  clear E
  obtain ⟨lo, hi, is⟩ := t
  obtain ⟨w1, w2, w3, w4⟩ := hw
  obtain ⟨n1, n2⟩ := hn
  simp only at w1 w2 w3 w4
  cases is with
  | false =>
    go_enter Tryz.func92, Tryz.ntmps92
    go_wp2_with (go_at_call 102; refine HB.out.mono ?_; rintro e w' ⟨rfl, hb⟩; have HBe := Lib.hid hb; clear hb)
    go_ret
    exact ⟨by rw [HF.out]; simp, HBe.out⟩
  | true =>
    by_cases h1 : lo ≤ n
    · by_cases h2 : n ≤ hi
      · go_enter Tryz.func92, Tryz.ntmps92
        go_wp2_with (go_at_call 102; refine HB.out.mono ?_; rintro e w' ⟨rfl, hb⟩; have HBe := Lib.hid hb; clear hb)
        go_ret
        exact ⟨by rw [HF.out]; simp <;> omega, HBe.out⟩
      · have h2' : hi < n := by omega
        go_enter Tryz.func92, Tryz.ntmps92
        go_wp2_with (go_at_call 102; refine HB.out.mono ?_; rintro e w' ⟨rfl, hb⟩; have HBe := Lib.hid hb; clear hb)
        go_ret
        exact ⟨by rw [HF.out]; simp <;> omega, HBe.out⟩
    · have h1' : n < lo := by omega
      go_enter Tryz.func92, Tryz.ntmps92
      go_wp2_with (go_at_call 102; refine HB.out.mono ?_; rintro e w' ⟨rfl, hb⟩; have HBe := Lib.hid hb; clear hb)
      go_ret
      exact ⟨by rw [HF.out]; simp <;> omega, HBe.out⟩

end Go.Proofs.YtiibeemjkdipnaaGreatDoor.Schema

/-
  Slices: what lies in one; slices of the call's own; append.
-/
namespace Go.Proofs.YtiibeemjkdipnaaGreatDoor.Schema
open Go Go.RowKit

theorem addr_add (b o i : Nat) : (⟨b, o, none⟩ : Addr).add i = ⟨b, o + i, none⟩ := by simp [Addr.add]
theorem cell_lt {w : World} {b o : Nat} {v : Value} (h : w.cell? ⟨b, o, none⟩ = some v) : b < w.heap.size := by
  rcases Nat.lt_or_ge b w.heap.size with h1 | h1
  · exact h1
  · unfold World.cell? at h
    rw [show w.heap[(⟨b, o, none⟩ : Addr).block]? = none from Array.getElem?_eq_none h1] at h
    cases h
/-- these values lie one behind the other from A on -/
def VAt (w : World) (A : Option Addr) (vs : List Value) : Prop := ∀ (k : Nat) (u : Value), vs[k]? = some u → ∃ b o, A = some ⟨b, o, none⟩ ∧ w.cell? ⟨b, o + k, none⟩ = some u
theorem VAt.nil (w : World) (A : Option Addr) : VAt w A [] := fun k u h => by simp at h
theorem VAt.below {w w' : World} {A : Option Addr} {vs : List Value} (h : VAt w A vs) (hb : Below w.heap.size w w') : VAt w' A vs := fun k u hu => by
  obtain ⟨b, o, e, hc⟩ := h k u hu
  exact ⟨b, o, e, by rw [hb.cell (show b < w.heap.size from cell_lt hc)]; exact hc⟩
theorem VAt.nils {w : World} {vs : List Value} (h : VAt w none vs) : vs = [] := by
  cases vs with
  | nil => rfl
  | cons y r => obtain ⟨b, o, e, _⟩ := h 0 y rfl; cases e
/-- v is a slice of the call's own (in a block from base on) that holds these values -/
def Own (w : World) (base : Nat) (E : TypeId) (v : Value) (vs : List Value) : Prop := w.ownsRow base E 1 v vs.length vs
theorem Own.nil (w : World) (base : Nat) (E : TypeId) : Own w base E (.slice none 0 0) [] := World.ownsRow_nil w base _ _
theorem Own.made (w : World) (base : Nat) (E : TypeId) (hb : base ≤ w.heap.size) : Own (w.alloc (.cells #[] E)) base E (.slice (some ⟨w.heap.size, 0, none⟩) 0 0) [] :=
  World.ownsRow_made w #[] 0 hb (Nat.zero_le _) rfl
theorem Own.less {w : World} {base base' : Nat} {E : TypeId} {v : Value} {vs : List Value} (h : Own w base E v vs) (hb : base' ≤ base) : Own w base' E v vs := by
  obtain ⟨h1, h2⟩ := h
  refine ⟨h1, ?_⟩
  rcases h2 with h2 | ⟨g, cap, cur, e, hbg, r⟩
  · exact Or.inl h2
  · exact Or.inr ⟨g, cap, cur, e, Nat.le_trans hb hbg, r⟩
theorem Own.below {w w' : World} {base : Nat} {E : TypeId} {v : Value} {vs : List Value} (h : Own w base E v vs) (hb : Below w.heap.size w w') : Own w' base E v vs := by
  obtain ⟨h1, h2⟩ := h
  refine ⟨h1, ?_⟩
  rcases h2 with h2 | ⟨g, cap, cur, e, hbg, hg, r⟩
  · exact Or.inl h2
  · have hlt : g < w.heap.size := (Array.getElem?_eq_some_iff.1 hg).1
    exact Or.inr ⟨g, cap, cur, e, hbg, by rw [hb.block g hlt]; exact hg, r⟩
/-- what such a slice reads as -/
theorem Own.vat {w : World} {base : Nat} {E : TypeId} {v : Value} {vs : List Value} (h : Own w base E v vs) : ∃ (A : Option Addr) (cap : Nat), v = .slice A vs.length cap ∧ VAt w A vs ∧ (A = none → cap = 0) ∧ vs.length ≤ cap ∧ cap ≤ maxLen ∧ ∀ a, A = some a → base ≤ a.block ∧ a.block < w.heap.size ∧ a = ⟨a.block, 0, none⟩ ∧ ∃ cur : Array Value, w.heap[a.block]? = some (.cells cur E (0, 0)) ∧ cur.size = cap ∧ cur.toList.take vs.length = vs := by
  obtain ⟨_, h⟩ := h
  rcases h with ⟨rfl, h0⟩ | ⟨g, cap, cur, rfl, hb, hg, hn, hc, hs, ht⟩
  · have : vs = [] := List.eq_nil_of_length_eq_zero h0
    subst this
    exact ⟨none, 0, rfl, VAt.nil _ _, fun _ => rfl, Nat.le_refl _, Nat.zero_le _, fun a h => by cases h⟩
  · rw [Nat.mul_one] at hs ht
    refine ⟨_, cap, rfl, fun k u hu => ⟨g, 0, rfl, ?_⟩, (fun h => by cases h), hn, hc, fun a h => ?_⟩
    · have hk : k < vs.length := (List.getElem?_eq_some_iff.1 hu).1
      have e : cur[k]? = some u := by
        have h1 : vs[k]? = cur.toList[k]? := by
          conv => lhs; rw [← ht]
          rw [List.getElem?_take, if_pos hk]
        rw [← Array.getElem?_toList, ← h1, hu]
      simp [World.cell?, hg, e]
    · injection h with h; subst h
      exact ⟨hb, (Array.getElem?_eq_some_iff.1 hg).1, rfl, cur, hg, hs, ht⟩
theorem Own.cells {w : World} {base : Nat} {E : TypeId} {v : Value} {vs : List Value} (h : Own w base E v vs) (h0 : 0 < vs.length) : ∃ g cap, v = .slice (some ⟨g, 0, none⟩) vs.length cap ∧ base ≤ g ∧ g < w.heap.size ∧ vs.length ≤ cap ∧ ∀ (k : Nat) (u : Value), vs[k]? = some u → w.cell? ⟨g, k, none⟩ = some u := by
  obtain ⟨A, cap, rfl, hv, _, hn, _, ha⟩ := h.vat
  obtain ⟨b, o, rfl, _⟩ := hv 0 vs[0] (List.getElem?_eq_getElem h0)
  obtain ⟨h1, h2, h3, _⟩ := ha _ rfl
  simp only [Addr.mk.injEq, and_true, true_and] at h3
  subst h3
  exact ⟨b, cap, rfl, h1, h2, hn, fun k u hu => by
    obtain ⟨b', o', e, hc⟩ := hv k u hu
    injection e with e; injection e with e1 e2; subst e1; subst e2
    simpa using hc⟩

set_option maxRecDepth 100000 in
/-- append, whatever lies in the second slice -/
theorem wp_append_vals {o : Oper} {a : Act} {w : World} {K : Act → World → Prop} {Q : Exit → Act → World → Prop} (T E : TypeId) (z : Value) (bytes : Nat) (hT : Tryz.prog.underlying T = some (.slice E))
    (hinfo : (Tryz.prog.info? E).map (fun i => (i.zero, i.size, i.bytes)) = some (some z, 1, bytes)) (hzs : z.cells.size = 1) (hby : bytes ≤ 16) (s x : Operand)
    (ho : o.op = .call { callee := .builtin .append, args := #[s, x], argTypes := #[T, T] })
    (base : Nat) (v : Value) (xs : List Value) (hs : a.eval s = v) (hown : Own w base E v xs)
    (A : Option Addr) (m cap : Nat) (ys : List Value) (hx : a.eval x = .slice A m cap) (hm : m = ys.length) (hn : VAt w A ys) (h1 : ∀ u ∈ ys, u.oneCell' = true) (hA : A = none → cap = 0)
    (hlen : xs.length + ys.length ≤ 1000000) (hbase : base ≤ w.heap.size)
    (h : ∀ v' w', Own w' base E v' (xs ++ ys) → w.grownBy w' v.ownBlock → K (a.put o.dst v') w') : o.wp Tryz.prog a w K Q := by
  subst hm
  obtain ⟨i0, hi, hz0, hz1, hz2⟩ := info_parts hinfo
  cases A with
  | none =>
    have hc := hA rfl
    have hy := hn.nils
    subst hy; subst hc
    have hrun := run_append_owned_none (P := Tryz.prog) (w := w) base T o.type E i0 1 hT hi v xs.length xs hown
    have hx' : a.eval x = .slice none 0 0 := hx
    unfold Oper.wp
    simp [execOp, ho, resolve, invoke, builtin, hs, hx', hrun, Result.andThen]
    exact h v w (by rw [List.append_nil]; exact hown) ⟨rfl, rfl, rfl, Nat.le_refl _, fun _ _ _ => rfl⟩
  | some ad =>
    refine wp_append_own w s x T ho base E i0 z 1 bytes hT hi hz0 hz1 hz2 hzs (by decide) v xs.length xs hs hown ad ys.length cap ys hx (by rw [Nat.mul_one]) ?_ h1 (by unfold maxLen; omega) ?_ hbase ?_
    · intro j u hj
      obtain ⟨b, o, e, hc⟩ := hn j u hj
      injection e with e; subst e
      rw [addr_add, hc]
    · exact Nat.le_trans (Nat.mul_le_mul hlen hby) (by decide)
    · intro v' w' hown' hg _
      exact h v' w' (by unfold Own; rw [List.length_append]; exact hown') hg
theorem wpList_append_vals {ops : Array Oper} {rest : List Oper} {o : Oper} {a : Act} {w : World} {Q : Exit → Act → World → Prop} (T E : TypeId) (z : Value) (bytes : Nat) (hT : Tryz.prog.underlying T = some (.slice E))
    (hinfo : (Tryz.prog.info? E).map (fun i => (i.zero, i.size, i.bytes)) = some (some z, 1, bytes)) (hzs : z.cells.size = 1) (hby : bytes ≤ 16) (hgd : o.guard = none) (s x : Operand)
    (ho : o.op = .call { callee := .builtin .append, args := #[s, x], argTypes := #[T, T] })
    (base : Nat) (v : Value) (xs : List Value) (hs : a.eval s = v) (hown : Own w base E v xs)
    (A : Option Addr) (m cap : Nat) (ys : List Value) (hx : a.eval x = .slice A m cap) (hm : m = ys.length) (hn : VAt w A ys) (h1 : ∀ u ∈ ys, u.oneCell' = true) (hA : A = none → cap = 0)
    (hlen : xs.length + ys.length ≤ 1000000) (hbase : base ≤ w.heap.size)
    (h : ∀ v' w', Own w' base E v' (xs ++ ys) → w.grownBy w' v.ownBlock → wpList Tryz.prog ops Q rest (a.put o.dst v') w') : wpList Tryz.prog ops Q (o :: rest) a w :=
  wpList_plain hgd fun _ hK => wp_append_vals T E z bytes hT hinfo hzs hby s x ho base v xs hs hown A m cap ys hx hm hn h1 hA hlen hbase fun v' w' h2 h3 => hK _ _ (h v' w' h2 h3)
theorem step_append_vals {ops : Array Oper} {o : Oper} {a : Act} {w : World} {K : Act → World → Prop} {Q : Exit → Act → World → Prop} {X : Prop} (T E : TypeId) (z : Value) (bytes : Nat) (hT : Tryz.prog.underlying T = some (.slice E))
    (hinfo : (Tryz.prog.info? E).map (fun i => (i.zero, i.size, i.bytes)) = some (some z, 1, bytes)) (hzs : z.cells.size = 1) (hby : bytes ≤ 16) (hgd : o.guard = none) (s x : Operand)
    (ho : o.op = .call { callee := .builtin .append, args := #[s, x], argTypes := #[T, T] })
    (base : Nat) (v : Value) (xs : List Value) (hs : a.eval s = v) (hown : Own w base E v xs)
    (A : Option Addr) (m cap : Nat) (ys : List Value) (hx : a.eval x = .slice A m cap) (hm : m = ys.length) (hn : VAt w A ys) (h1 : ∀ u ∈ ys, u.oneCell' = true) (hA : A = none → cap = 0)
    (hlen : xs.length + ys.length ≤ 1000000) (hbase : base ≤ w.heap.size)
    (h : ∀ v' w', Own w' base E v' (xs ++ ys) → w.grownBy w' v.ownBlock → K (a.put o.dst v') w') :
    if Region.wanted o (yielded ops a.tmps) = true then Oper.wp Tryz.prog o a w K Q else X := by
  rw [if_pos (by simp [Region.wanted, hgd])]
  exact wp_append_vals T E z bytes hT hinfo hzs hby s x ho base v xs hs hown A m cap ys hx hm hn h1 hA hlen hbase h
theorem infoC : (Tryz.prog.info? 128).map (fun i => (i.zero, i.size, i.bytes)) = some (some (.int .u8 0), 1, 1) := by kernel_rfl
theorem infoN : (Tryz.prog.info? 2).map (fun i => (i.zero, i.size, i.bytes)) = some (some (.int .i64 0), 1, 8) := by kernel_rfl
theorem infoT : (Tryz.prog.info? 9).map (fun i => (i.zero, i.size, i.bytes)) = some (some (.string ByteArray.empty), 1, 16) := by kernel_rfl

/-- below the row's block, and below what was there, nothing turns -/
theorem below_grown {B : Nat} {w w' : World} {v : Value} {E : TypeId} {base : Nat} {xs : List Value} (ho : Own w base E v xs) (hb : B ≤ base) (hB : B ≤ w.heap.size) (h : w.grownBy w' v.ownBlock) : Below B w w' :=
  ⟨h.os, h.tape, h.output, h.size, fun k hk => h.block k (by omega) (fun e => by
    have := World.ownsRow.lt ho k e.symm
    omega)⟩

end Go.Proofs.YtiibeemjkdipnaaGreatDoor.Schema

/-
  The walk of classes.
-/
namespace Go.Proofs.YtiibeemjkdipnaaGreatDoor.Schema
open Go Go.RowKit

theorem vat_new (W : World) (u : Value) (E : TypeId) : VAt (W.alloc (.cells #[u] E)) (some ⟨W.heap.size, 0, none⟩) [u] := fun k v h => by
  have hk : k = 0 := by have := (List.getElem?_eq_some_iff.1 h).1; simp at this; omega
  subst hk
  refine ⟨_, _, rfl, ?_⟩
  simp only [List.getElem?_cons_zero, Option.some.injEq] at h
  subst h
  unfold World.cell?
  rw [show (W.alloc _).heap[(⟨W.heap.size, 0, none⟩ : Addr).block]? = _ from (MapKept.heap_alloc W _).1]
  rfl
def ascii (s : ByteArray) : Prop := ∀ b ∈ s.data.toList, b.toNat < 128
/-- letters as classes -/
def clsV (s : ByteArray) : List Value := s.data.toList.map fun b => .int .u8 b.toNat
theorem clsV_len (s : ByteArray) : (clsV s).length = s.size := by unfold clsV; rw [List.length_map]; rfl
theorem clsV_snoc (s : ByteArray) (k : Nat) (h : k < s.size) : (clsV s).take (k + 1) = (clsV s).take k ++ [.int .u8 ((s[k]'h).toNat : Int)] := by
  rw [List.take_succ_eq_append_getElem (by rw [clsV_len]; exact h)]
  congr 1
  unfold clsV
  rw [List.getElem_map]; rfl
theorem Own.iterAt {w : World} {k : Nat} {E : TypeId} {v : Value} {vs : List Value} (h : Own w (k + 1) E v vs) (s : ByteArray) (p : Nat) : Own (w.iterAt k s p) (k + 1) E v vs :=
  World.ownsRow.kept (row := some k) h ⟨rfl, rfl, rfl, by rw [Lib.iterAt_size]; exact Nat.le_refl _, fun j _ hj => Lib.iterAt_other w k j s p (fun e => hj (by rw [e]))⟩ (Or.inr fun e => by have := World.ownsRow.lt h k e; omega)
theorem iter_kept {w w' : World} {k : Nat} {E : TypeId} {v : Value} {vs : List Value} (h : Own w (k + 1) E v vs) {o : Obj} (hk : w.heap[k]? = some o) (hg : w.grownBy w' v.ownBlock) : w'.heap[k]? = some o := by
  rw [hg.block k (Array.getElem?_eq_some_iff.1 hk).1 (fun e => by have := World.ownsRow.lt h k e.symm; omega)]; exact hk
/-- a slice of the call's own is handed back -/
def OwnRes (w : World) (E : TypeId) (vs : List Value) (e : Ending) (w' : World) : Prop := ∃ v, e = .returned v ∧ Own w' w.heap.size E v vs ∧ Below w.heap.size w w'

set_option maxRecDepth 100000 in
set_option maxHeartbeats 400000 in
theorem classes_any (s : ByteArray) (hs : s.size ≤ 100) (ha : ascii s) (w : World) : Calls Tryz.prog 101 #[.string s] w (OwnRes w 128 (clsV s)) := by
  have HA := Lib.hid ha
  clear ha
  go_enter Tryz.func101, Tryz.ntmps101
  go_wp2
  go_loopw [3] (fun v wr => ∃ pos : Nat, pos ≤ s.size ∧ Own wr (w.heap.size + 1) 128 v ((clsV s).take pos) ∧ wr.heap[w.heap.size]? = some (.stringIter s pos) ∧ Below w.heap.size w wr) (fun _ wr => s.size - wr.iterPos w.heap.size)
  case atStart => exact ⟨0, Nat.zero_le _, Own.nil _ _ _, World.iter_heap w s 0, (Below.refl _ _).alloc (Nat.le_refl _) _⟩
  case round =>
    obtain ⟨pos, hpos, hO, hit, hB⟩ := hrel
    have hsz : w.heap.size < wr.heap.size := (Array.getElem?_eq_some_iff.1 hit).1
    by_cases hp : pos < s.size
    · have hb : (s[pos]'hp).toNat < 128 := HA.out _ (by rw [ByteArray.getElem_eq_getElem_data]; exact Array.getElem_mem_toList _)
      have hnx : ∀ ty, (Instr.next (.pointer (some ⟨w.heap.size, 0, none⟩)) true ty).run Tryz.prog wr = _ := fun ty => Lib.run_next_ascii_at wr w.heap.size s pos ty hit hp hb
      have HS := Lib.hid (clsV_snoc s pos hp)
      have HO := Lib.hid hO
      have HB := Lib.hid hB
      have HI := Lib.hid hit
      have hsz2 : w.heap.size + 1 ≤ (wr.iterAt w.heap.size s (pos + 1)).heap.size := by rw [Lib.iterAt_size]; omega
      have HZ := Lib.hid hsz2
      have HL := Lib.hid (show ((clsV s).take pos).length = pos from by rw [List.length_take, clsV_len]; omega)
      generalize (s[pos]'hp).toNat = c at hb hnx HS
      have HI2 := Lib.hid (Lib.iterAt_heap wr w.heap.size s pos (pos + 1) hit)
      have HO2 := Lib.hid (World.ownsRow.alloc (hO.iterAt s (pos + 1)) (Obj.cells #[Value.int IntKind.u8 (c : Int)] 128))
      have HB2 := Lib.hid ((Lib.below_iterAt hB (k := w.heap.size) (Nat.le_refl _) s (pos + 1)).alloc (by rw [Lib.iterAt_size]; omega) (Obj.cells #[Value.int IntKind.u8 (c : Int)] 128))
      clear hO hB hit hsz hsz2
      generalize (clsV s).take pos = xs at HS HL HO2 HO
      generalize hW : wr.iterAt w.heap.size s (pos + 1) = W at *
      have HW := Lib.hid hW
      clear hW
      go_wp2_with (at_builtin; refine wpList_append_vals 125 128 (.int .u8 0) 1 Tryz.underlying125 infoC rfl (by decide) rfl _ _ rfl (w.heap.size + 1) _ _ rfl HO2.out (some ⟨W.heap.size, 0, none⟩) 1 1 [.int .u8 (c : Int)] rfl rfl (vat_new W _ _) (by simp; rfl) (by simp) (by have := HL.out; simp; omega) (by have := HZ.out; simp; omega) ?_)
      intro v' w1 hO1 hg
      have hsW : W.heap.size < (W.alloc (Obj.cells #[Value.int IntKind.u8 (c : Int)] 128)).heap.size := by simp
      have hi3 := iter_kept HO2.out (show (W.alloc (Obj.cells #[Value.int IntKind.u8 (c : Int)] 128)).heap[w.heap.size]? = some (.stringIter s (pos + 1)) from (((Below.refl W.heap.size W).alloc (Nat.le_refl _) (Obj.cells #[Value.int IntKind.u8 (c : Int)] 128)).block _ (by have := HZ.out; omega)).trans HI2.out) hg
      have hB3 := HB2.out.trans (below_grown HO2.out (Nat.le_succ _) (by have := HZ.out; simp; omega) hg)
      have HO3 := Lib.hid hO1
      have HI3 := Lib.hid hi3
      have HB3 := Lib.hid hB3
      clear hO1 hg hsW hi3 hB3
      go_wp2
      go_roundw
      case rel => exact ⟨pos + 1, by omega, by rw [HS.out]; exact HO3.out, HI3.out, HB3.out⟩
      case measure =>
        simp only [World.iterPos, HI3.out, HI.out]
        omega
    · have hnx : ∀ ty, (Instr.next (.pointer (some ⟨w.heap.size, 0, none⟩)) true ty).run Tryz.prog wr = _ := fun ty => Lib.run_next_end_at wr w.heap.size s pos ty hit hp
      have HO := Lib.hid hO
      have HB := Lib.hid hB
      have HE : Hid ((clsV s).take pos = clsV s) := List.take_of_length_le (by rw [clsV_len]; omega)
      clear hO hB hit hsz
      go_wp2
      go_ret
      exact ⟨_, rfl, by have := HO.out.less (Nat.le_succ w.heap.size); rw [HE.out] at this; exact this, HB.out⟩

end Go.Proofs.YtiibeemjkdipnaaGreatDoor.Schema

/-
  The walks of Fields and Command.
-/
namespace Go.Proofs.YtiibeemjkdipnaaGreatDoor.Schema
open Go Go.RowKit

/-- letters of a table: ASCII, and few -/
def okL (s : ByteArray) : Prop := s.size ≤ 10 ∧ ascii s
def okB (s : ByteArray) : Bool := decide (s.size ≤ 10) && s.data.toList.all fun b => decide (b.toNat < 128)
theorem okL_of {s : ByteArray} (h : okB s = true) : okL s := by
  unfold okB at h
  simp only [Bool.and_eq_true, decide_eq_true_eq, List.all_eq_true] at h
  exact h
theorem ev_all {p : EvR → Bool} (h : evL.all p = true) (h0 : p (evR [] [] [] [] false) = true) (k : Nat) : p (evAt k) = true := by
  by_cases hk : k < 24
  · exact List.all_eq_true.1 h _ (List.mem_of_getElem? (ev_row k hk))
  · rw [evAt_out k hk]; exact h0
theorem cm_all {p : CmR → Bool} (h : cmL.all p = true) (h0 : p (cmR [] [] false) = true) (k : Nat) : p (cmAt k) = true := by
  by_cases hk : k < 21
  · exact List.all_eq_true.1 h _ (List.mem_of_getElem? (cm_row k hk))
  · rw [cmAt_out k hk]; exact h0
theorem lets_ok (v k : Nat) : okL (lets v k) := by
  have h := ev_all (p := fun r => okB r.f1 && okB r.f2 && okB r.f3) (by decide +kernel) (by decide +kernel) k
  simp only [Bool.and_eq_true] at h
  unfold lets
  split
  · exact okL_of h.1.1
  · split
    · exact okL_of h.1.2
    · split
      · exact okL_of h.2
      · exact okL_of (by decide +kernel)
theorem asks_ok (k : Nat) : okL (asks k) := okL_of (cm_all (p := fun r => okB r.fields) (by decide +kernel) (by decide +kernel) k)
theorem size_pos_iff (s : ByteArray) : s.toList.isEmpty = !decide (0 < s.size) := by
  rw [ByteArray.toList_eq]
  rw [show s.size = s.data.toList.length from rfl]
  cases s.data.toList <;> simp

/-- a slice of the call's own, and two bools, are handed back -/
def TwoRes (w : World) (vs : List Value) (t b : Bool) (e : Ending) (w' : World) : Prop := ∃ v, e = .returned (.tuple #[v, .bool t, .bool b]) ∧ Own w' w.heap.size 128 v vs ∧ Below w.heap.size w w'
theorem cell_kept {w w' : World} {b o : Nat} {v : Value} (h : w.cell? ⟨b, o, none⟩ = some v) (hb : Below w.heap.size w w') : w'.cell? ⟨b, o, none⟩ = some v := (World.cell?_of_block (hb.block _ (cell_lt h))).trans h
theorem below_drew (n : Nat) (w : World) : Below n w w.drew := ⟨rfl, rfl, rfl, Nat.le_refl _, fun _ _ => rfl⟩
theorem tall_lt {v k : Nat} (h : tall v k = true) : k < 24 := by
  rcases Nat.lt_or_ge k 24 with h1 | h1
  · exact h1
  · unfold tall at h
    rw [lets_out v k (by omega)] at h
    exact absurd h (by decide)

set_option maxRecDepth 100000 in
set_option maxHeartbeats 400000 in
theorem Fields_any (v k : Nat) (hv : v < 256) (hk : k < 256) (w : World) (E : Env w) :
    Calls Tryz.prog 87 #[.int .u8 v, .int .u8 k] w (TwoRes w (clsV (lets v k)) (tall v k && tru k) (tall v k)) := by
  have HF := Lib.hid (fields_any v k hv hk w E)
  have HE := Lib.hid E
  have HO := Lib.hid (lets_ok v k)
  have HT := Lib.hid (show tall v k = decide (0 < (lets v k).size) from rfl)
  cases ht : tall v k with
  | false =>
    have e0 : (lets v k).toList.isEmpty = true := by rw [size_pos_iff, ← HT.out, ht]; rfl
    have HC : Hid (clsV (lets v k) = []) := by
      have h := (size_pos_iff (lets v k)).symm.trans e0
      unfold clsV
      rw [ByteArray.toList_eq] at e0
      rw [List.isEmpty_iff.1 e0]; rfl
    clear E
    generalize lets v k = s at HF e0 HC
    have e1 : s.toList = [] := List.isEmpty_iff.1 e0
    go_enter Tryz.func87, Tryz.ntmps87
    go_wp2_with (go_at_call 68; refine HF.out.mono ?_; rintro e w' ⟨rfl, rfl⟩)
    go_ret3
    exact ⟨_, rfl, by rw [HC.out]; exact Own.nil _ _ _, Below.refl _ _⟩
  | true =>
    have hlt := tall_lt ht
    obtain ⟨_, _, _, _, c4⟩ := E.f k hlt
    have e0 : (lets v k).toList.isEmpty = false := by rw [size_pos_iff, ← HT.out, ht]; rfl
    have HU := Lib.hid (show tru k = (evAt k).text from rfl)
    generalize (evAt k).text = t at c4 HU
    clear E HT ht
    generalize lets v k = s at HF e0 HO
    have e1 : ¬ s.toList = [] := by intro h; rw [h] at e0; cases e0
    have HC := Lib.hid (classes_any s (Nat.le_trans HO.out.1 (by decide)) HO.out.2)
    have g1 : Below w.heap.size w w.drew := below_drew _ _
    have z0 : (0 : Int) ≤ (k : Int) := by omega
    have z1 : (k : Int) < 24 := by omega
    go_enter Tryz.func87, Tryz.ntmps87
    go_wp2_with (go_at_call 68; refine HF.out.mono ?_; rintro e w' ⟨rfl, rfl⟩)
    go_region_held3 (fun w' => w'.cell? ⟨0, k * 5 + 4, none⟩ = some (.bool t) ∧ Below w.heap.size w w')
      (first | assumption | (refine ⟨?_, ?_⟩ <;> first | assumption | exact cell_kept (by assumption) (by assumption)) | go_keep)
      ((first | (go_at_call 101; refine (HC.out _).mono ?_; rintro z w' ⟨u, rfl, hO, hb⟩; (have k1 : Below w.heap.size w w' := below_step g1 hb); (have k2 : w'.cell? ⟨0, k * 5 + 4, none⟩ = some (.bool t) := cell_kept c4 k1))))
    go_wp2
    go_ret3
    exact ⟨u, by rw [HU.out]; rfl, hO, k1⟩

end Go.Proofs.YtiibeemjkdipnaaGreatDoor.Schema
