import Derived.Test.YtiibeemjkdipnaaGreatDoorUH
/-
  A list's events, each said: at Newest, and at Lowest's closure.
-/
namespace Go.Proofs.YtiibeemjkdipnaaGreatDoor.Upcast
open Go Go.RowKit
open Go.Proofs.YtiibeemjkdipnaaGreatDoor.Schema

def ev0 : Ev := ⟨0, 0, [], []⟩
def saidN (f : Ev → Except Nat Ev) (es : List Ev) : Nat → Except Nat (List Ev)
  | 0 => .ok []
  | n + 1 => match saidN f es n with
    | .error x => .error x
    | .ok l => match f (es.getD n ev0) with
      | .ok d => .ok (l ++ [d])
      | .error x => .error x
def saidX (f : Ev → Except Nat Ev) (es : List Ev) : Except Nat (List Ev) := saidN f es es.length
theorem getD_map (xs : List Lx) (i : Nat) (h : i < xs.length) : (xs.map (·.e)).getD i ev0 = xs[i].e := by
  rw [List.getD_eq_getElem?_getD, List.getElem?_map, List.getElem?_eq_getElem h]; rfl
theorem saidN_ok {f : Ev → Except Nat Ev} (xs : List Lx) (i : Nat) (h : i < xs.length) (ys : List Lx) (he : saidN f (xs.map (·.e)) i = .ok (ys.map (·.e))) {d : Ev} (hd : f xs[i].e = .ok d) : saidN f (xs.map (·.e)) (i + 1) = .ok (ys.map (·.e) ++ [d]) := by
  simp only [saidN, he, getD_map xs i h, hd]
theorem saidN_bad {f : Ev → Except Nat Ev} {es : List Ev} {i n : Nat} (h : saidN f es i = .error n) : ∀ m, saidN f es (i + m) = .error n
  | 0 => h
  | m + 1 => by
    have := saidN_bad h m
    rw [show i + (m + 1) = (i + m) + 1 from rfl]
    simp only [saidN, this]
theorem saidN_err {f : Ev → Except Nat Ev} (xs : List Lx) (i : Nat) (h : i < xs.length) (ys : List Lx) (he : saidN f (xs.map (·.e)) i = .ok (ys.map (·.e))) {n : Nat} (hd : f xs[i].e = .error n) : saidX f (xs.map (·.e)) = .error n := by
  have h1 : saidN f (xs.map (·.e)) (i + 1) = .error n := by
    simp only [saidN, he, getD_map xs i h, hd]
  unfold saidX
  rw [List.length_map]
  have := saidN_bad h1 (xs.length - (i + 1))
  rwa [show i + 1 + (xs.length - (i + 1)) = xs.length from by omega] at this
/-- an event that may be, of the call's own -/
structure LyAt (w : World) (base : Nat) (y : Lx) : Prop where
  may : may y.e = true
  txt : ∀ t ∈ y.e.ts, t.size ≤ maxLen
  ns : OwnE w base 2 (.slice y.A y.e.ns.length y.ca) (nums y.e.ns)
  ts : OwnE w base 9 (.slice y.C y.e.ts.length y.cc) (texts y.e.ts)
theorem LyAt.below {w w' : World} {base : Nat} {y : Lx} (h : LyAt w base y) (hb : Below w.heap.size w w') : LyAt w' base y := ⟨h.may, h.txt, h.ns.below hb, h.ts.below hb⟩
theorem LyAt.lx {w : World} {base : Nat} {y : Lx} (h : LyAt w base y) : LxAt w y := evAt_of h.may h.txt h.ns h.ts
theorem ownE_grown {w w' : World} {base base' : Nat} {E : TypeId} {v x : Value} {vs : List Value} {xs : List Lx} (hE : E ≠ 39) (h : OwnE w base E v vs) (ho : OwnR w base' x xs) (hg : w.grownBy w' x.ownBlock) : OwnE w' base E v vs := by
  rcases h with h | h
  · left
    obtain ⟨h1, h2⟩ := h
    refine ⟨h1, ?_⟩
    rcases h2 with h2 | ⟨g, cap, cur, e, hbg, hh, r⟩
    · exact Or.inl h2
    · refine Or.inr ⟨g, cap, cur, e, hbg, ?_, r⟩
      refine (hg.block g (row_lt hh) (fun hx => ?_)).trans hh
      obtain ⟨_, h3⟩ := ho
      rcases h3 with ⟨rfl, _⟩ | ⟨g', cap', cur', rfl, _, hh', _⟩
      · cases hx
      · have : g = g' := by simpa [Value.ownBlock] using hx
        subst this
        rw [hh] at hh'
        injection hh' with hh'
        injection hh' with _ h5 _
        exact hE h5
  · exact Or.inr h
theorem LyAt.grown {w w' : World} {base base' : Nat} {x : Value} {xs : List Lx} {y : Lx} (h : LyAt w base y) (ho : OwnR w base' x xs) (hg : w.grownBy w' x.ownBlock) : LyAt w' base y := ⟨h.may, h.txt, ownE_grown (by decide) h.ns ho hg, ownE_grown (by decide) h.ts ho hg⟩
/-- what one's own slice that holds something lies in -/
theorem ownE_blk {w : World} {base : Nat} {E : TypeId} {A : Option Addr} {n c : Nat} {vs : List Value} (h : OwnE w base E (.slice A n c) vs) (hv : vs ≠ []) : ∃ g, A = some ⟨g, 0, none⟩ ∧ base ≤ g ∧ g < w.heap.size := by
  rcases h with ⟨h1, h2⟩ | ⟨h2, _⟩
  · rcases h2 with ⟨_, hn⟩ | ⟨g, cap, cur, e, hb, hh, _⟩
    · exact absurd (List.eq_nil_of_length_eq_zero hn) hv
    · injection e with e1 e2 e3
      exact ⟨g, e1, hb, row_lt hh⟩
  · exact absurd h2 hv
/-- the slices of unlike events lie apart -/
def Apart (ys : List Lx) : Prop := ∀ (i j : Nat) (hi : i < ys.length) (hj : j < ys.length), i < j → (ys[i].e.ns ≠ [] → ys[j].e.ns ≠ [] → ys[i].A ≠ ys[j].A) ∧ (ys[i].e.ts ≠ [] → ys[j].e.ts ≠ [] → ys[i].C ≠ ys[j].C)
theorem Apart.nil : Apart [] := fun i j hi => by cases hi
theorem nums_ne {ns : List Int} (h : ns ≠ []) : nums ns ≠ [] := fun h2 => h (by unfold nums at h2; exact List.map_eq_nil_iff.1 h2)
theorem texts_ne {ts : List ByteArray} (h : ts ≠ []) : texts ts ≠ [] := fun h2 => h (by unfold texts at h2; exact List.map_eq_nil_iff.1 h2)
theorem Apart.snoc {ys : List Lx} {W W' : World} {base s : Nat} {y : Lx} (h : Apart ys) (hat : ∀ x ∈ ys, LyAt W base x) (hs : W.heap.size ≤ s) (o1 : OwnE W' s 2 (.slice y.A y.e.ns.length y.ca) (nums y.e.ns)) (o2 : OwnE W' s 9 (.slice y.C y.e.ts.length y.cc) (texts y.e.ts)) : Apart (ys ++ [y]) := by
  intro i j hi hj hij
  have hi' : i < ys.length := by rw [List.length_append, List.length_singleton] at hj; omega
  rw [List.getElem_append_left hi']
  by_cases hj' : j < ys.length
  · rw [List.getElem_append_left hj']; exact h i j hi' hj' hij
  · have hjl : j = ys.length := by rw [List.length_append, List.length_singleton] at hj; omega
    subst hjl
    rw [List.getElem_append_right (Nat.le_refl _)]
    simp only [Nat.sub_self, List.getElem_cons_zero]
    have ha := hat _ (List.getElem_mem hi')
    refine ⟨fun n1 n2 e => ?_, fun n1 n2 e => ?_⟩
    · obtain ⟨g, e1, _, l1⟩ := ownE_blk ha.ns (nums_ne n1)
      obtain ⟨g', e2, l2, _⟩ := ownE_blk o1 (nums_ne n2)
      rw [e1, e2] at e
      injection e with e; injection e with e _; omega
    · obtain ⟨g, e1, _, l1⟩ := ownE_blk ha.ts (texts_ne n1)
      obtain ⟨g', e2, l2, _⟩ := ownE_blk o2 (texts_ne n2)
      rw [e1, e2] at e
      injection e with e; injection e with e _; omega
structure SaidI (w : World) (f : Ev → Except Nat Ev) (es : List Ev) (i : Nat) (v : Value) (ys : List Lx) (wr : World) : Prop where
  bel : Below w.heap.size w wr
  own : OwnR wr w.heap.size v ys
  eq : saidN f es i = .ok (ys.map (·.e))
  len : ys.length = i
  at_ : ∀ y ∈ ys, LyAt wr w.heap.size y
  ap : Apart ys
theorem SaidI.below {w : World} {f : Ev → Except Nat Ev} {es : List Ev} {i : Nat} {v : Value} {ys : List Lx} {wr w' : World} (h : SaidI w f es i v ys wr) (hb : Below wr.heap.size wr w') : SaidI w f es i v ys w' := ⟨below_step h.bel hb, h.own.below hb, h.eq, h.len, fun y hy => (h.at_ y hy).below hb, h.ap⟩
theorem said_snoc {w : World} {f : Ev → Except Nat Ev} {es : List Ev} {i : Nat} {v v' : Value} {ys : List Lx} {W W' : World} {y : Lx} (h : SaidI w f es i v ys W) (hO : OwnR W' w.heap.size v' (ys ++ [y])) (hg : W.grownBy W' v.ownBlock) (hs : saidN f es (i + 1) = .ok (ys.map (·.e) ++ [y.e])) (hm : may y.e = true) (ht : ∀ t ∈ y.e.ts, t.size ≤ maxLen) (h1 : OwnE W w.heap.size 2 (.slice y.A y.e.ns.length y.ca) (nums y.e.ns)) (h2 : OwnE W w.heap.size 9 (.slice y.C y.e.ts.length y.cc) (texts y.e.ts)) (ha : Apart (ys ++ [y])) : SaidI w f es (i + 1) v' (ys ++ [y]) W' := by
  refine ⟨h.bel.trans (h.own.below_grown (Nat.le_refl _) h.bel.size hg), hO, by rw [List.map_append]; exact hs, by rw [List.length_append, h.len]; rfl, fun z hz => ?_, ha⟩
  rcases List.mem_append.1 hz with hz | hz
  · exact (h.at_ z hz).grown h.own hg
  · rw [List.mem_singleton.1 hz]
    exact LyAt.grown ⟨hm, ht, h1, h2⟩ h.own hg
/-- what said tells -/
def SaidV (f : Ev → Except Nat Ev) (es : List Ev) (w : World) (z : Ending) (w' : World) : Prop :=
  match saidX f es with
  | .ok l => ∃ (ys : List Lx) (v : Value), ys.map (·.e) = l ∧ z = .returned (.tuple #[v, .int .i64 0]) ∧ OwnR w' w.heap.size v ys ∧ (∀ y ∈ ys, LyAt w' w.heap.size y) ∧ Apart ys ∧ Below w.heap.size w w'
  | .error x => z = .returned (.tuple #[.slice none 0 0, .int .i64 (x : Int)]) ∧ Below w.heap.size w w'
theorem new_err {e : Ev} {n : Nat} (h : nwX e = .error n) : n = 4 := by
  unfold nwX at h
  split at h
  · cases h
  · injection h with h; exact h.symm
theorem new_may' {e d : Ev} (h : nwX e = .ok d) : may d = true := by
  unfold nwX at h
  split at h
  · rename_i hm; injection h with h; subst h; exact new_may hm
  · cases h
theorem new_ts' {e d : Ev} (h : nwX e = .ok d) : d.ts = e.ts := by
  unfold nwX at h
  split at h
  · injection h with h; subst h; exact new_ts e
  · cases h

set_option maxRecDepth 100000 in
set_option maxHeartbeats 4000000 in
theorem said_new (A : Option Addr) (cap : Nat) (xs : List Lx) (hn : xs.length ≤ 100000) (hsm : ∀ x ∈ xs, x.e.ns.length ≤ 1000000) (w : World) (hX : Row w A xs) (E : Env w) :
    Calls Tryz.prog 49 #[.slice A xs.length cap, .func (.func 50) #[] #[]] w (SaidV nwX (xs.map (·.e)) w) := by
  have HE := Lib.hid E
  have HX := Lib.hid hX
  have HN := Lib.hid hn
  have HSM := Lib.hid hsm
  clear E hX hsm
  skip
  go_enter Tryz.func49, Tryz.ntmps49
  go_wp2_with fail
  have HI : Hid (SaidI w (nwX) (xs.map (·.e)) 0 (.slice none 0 0) [] w) := ⟨Below.refl _ _, OwnR.nil _ _, rfl, rfl, (fun y hy => by cases hy), Apart.nil⟩
  go_loopw [6, 13] (fun vx t wr => ∃ (i : Nat) (ys : List Lx), t = .int .i64 i ∧ i ≤ xs.length ∧ Hid (SaidI w (nwX) (xs.map (·.e)) i vx ys wr)) (fun _ t _ => xs.length - (intOf t).toNat)
  case atStart => exact ⟨0, [], rfl, Nat.zero_le _, HI⟩
  case round =>
    obtain ⟨i, ys, rfl, hi, HIi⟩ := hrel
    clear HI
    by_cases hlt : i < xs.length
    · have z0 : (0 : Int) ≤ (i : Int) := by omega
      have z1 : (i : Int) < (xs.length : Int) := by omega
      obtain ⟨b, o, rfl, hbl, c0, c1, c2, c3, hat⟩ := (HX.out.below HIi.out.bel).at i hlt
      have HAT := Lib.hid hat
      have HMX := Lib.hid (HSM.out _ (List.getElem_mem hlt))
      have HOK := Lib.hid (fun d h => saidN_ok (f := nwX) xs i hlt ys HIi.out.eq (d := d) h)
      have HBAD := Lib.hid (fun n h => saidN_err (f := nwX) xs i hlt ys HIi.out.eq (n := n) h)
      clear hat hbl
      generalize xs[i] = x at HAT HMX HOK HBAD c0 c1 c2 c3
      have hb1 := (Below.refl wr.heap.size wr).alloc (Nat.le_refl _) (.cells #[.int .u8 x.e.v, .int .u8 x.e.k, .slice x.A x.e.ns.length x.ca, .slice x.C x.e.ts.length x.cc] 39)
      have HB1 := Lib.hid hb1
      clear hb1
      go_wp2_with fail
      clear c0 c1 c2 c3 z1 z0
      replace HAT := Lib.hid (HAT.out.below HB1.out)
      have HTX := Lib.hid HAT.out.txt
      generalize wr.alloc (.cells #[.int .u8 x.e.v, .int .u8 x.e.k, .slice x.A x.e.ns.length x.ca, .slice x.C x.e.ts.length x.cc] 39) = W1 at HB1 HAT ⊢
      refine (Newest_any x.A x.ca x.C x.cc x.e HMX.out W1 HAT.out (HE.out.below (below_step HIi.out.bel HB1.out))).mono ?_
      rintro z W2 hz
      cases hq : (nwX) x.e with
      | error n =>
        have hq' := hq
        have hn4 := new_err hq'
        subst hn4
        rw [show _ = _ from hq] at hz
        obtain ⟨rfl, hb⟩ := hz
        have HB := Lib.hid ((below_step HIi.out.bel (below_step HB1.out hb)).trans ((Below.refl W2.heap.size W2).alloc (Nat.le_refl _) (.cells #[.int .u8 0, .int .u8 0, .slice none 0 0, .slice none 0 0] 39) |>.mono (below_step HIi.out.bel (below_step HB1.out hb)).size))
        have HDN := Lib.hid (HBAD.out _ hq)
        clear hb hq hq'
        go_wp2_with fail
        go_ret2
        unfold SaidV
        rw [HDN.out]
        exact ⟨rfl, HB.out⟩
      | ok d =>
        have HDN := Lib.hid (HOK.out d hq)
        have HMD := Lib.hid (new_may' hq)
        have HTD := Lib.hid (show ∀ t ∈ d.ts, t.size ≤ maxLen by rw [new_ts' hq]; exact HTX.out)
        rw [show _ = _ from hq] at hz
        obtain ⟨A3, c3, C3, d3, rfl, ho1, ho2, hb⟩ := hz
        have hws := (below_step HIi.out.bel HB1.out).size
        have HAP := Lib.hid (HIi.out.ap.snoc (y := ⟨A3, c3, C3, d3, d⟩) HIi.out.at_ HB1.out.size ho1 ho2)
        clear hq
        have HO1 := Lib.hid (ho1.less (show w.heap.size ≤ _ from hws))
        have HO2 := Lib.hid (ho2.less (show w.heap.size ≤ _ from hws))
        have HI2 := Lib.hid (HIi.out.below HB1.out |>.below hb)
        clear ho1 ho2 hb hws
        unfold evV
        have hb2 := (Below.refl W2.heap.size W2).alloc (Nat.le_refl _) (.cells #[.int .u8 d.v, .int .u8 d.k, .slice A3 d.ns.length c3, .slice C3 d.ts.length d3] 39)
        replace HO1 := Lib.hid (HO1.out.below hb2)
        replace HO2 := Lib.hid (HO2.out.below hb2)
        replace HI2 := Lib.hid (HI2.out.below hb2)
        clear hb2
        go_upto_region 8 with (fail)
        generalize hW3 : W2.alloc (.cells #[.int .u8 d.v, .int .u8 d.k, .slice A3 d.ns.length c3, .slice C3 d.ts.length d3] 39) = W3 at HO1 HO2 HI2 ⊢
        have HL : Hid (Four W3 W2.heap.size (.int .u8 d.v) (.int .u8 d.k) (.slice A3 d.ns.length c3) (.slice C3 d.ts.length d3)) := by rw [← hW3]; exact box4 W2 (.int .u8 d.v) (.int .u8 d.k) (.slice A3 d.ns.length c3) (.slice C3 d.ts.length d3) 39
        clear hW3
        generalize W2.heap.size = q at HL ⊢
        have hb3 := (Below.refl W3.heap.size W3).alloc (Nat.le_refl _) (.cells #[.int .u8 d.v, .int .u8 d.k, .slice A3 d.ns.length c3, .slice C3 d.ts.length d3] 39)
        replace HO1 := Lib.hid (HO1.out.below hb3)
        replace HO2 := Lib.hid (HO2.out.below hb3)
        replace HI2 := Lib.hid (HI2.out.below hb3)
        clear hb3
        have HNEW := Lib.hid (lx_new W3 ⟨A3, c3, C3, d3, d⟩)
        obtain ⟨l0, l1, l2, l3⟩ := HL.out
        have hyl : ys.length ≤ 1000000 := by have := HI2.out.len; have := HN.out; omega
        have HYL := Lib.hid hyl
        clear hyl
        go_wp2_with (at_builtin; refine wpList_append_ev rfl (.tmp 26) (.tmp 28) rfl w.heap.size _ ys rfl HI2.out.own ⟨W3.heap.size, 0, none⟩ 1 ⟨A3, c3, C3, d3, d⟩ rfl HNEW.out ?c1 ?c2 ?_)
        case c1 => exact HYL.out
        case c2 => first | exact HI2.out.bel.size | exact Nat.le_trans HI2.out.bel.size (by simp)
        intro v' W5 hO hg
        have HI5 : Hid (SaidI w (nwX) (xs.map (·.e)) (i + 1) v' (ys ++ [⟨A3, c3, C3, d3, d⟩]) W5) := said_snoc HI2.out hO hg HDN.out HMD.out HTD.out HO1.out HO2.out HAP.out
        clear hO hg HI2 HO1 HO2 HNEW l0 l1 l2 l3 HL
        go_wp2_with fail
        go_roundw
        case rel => exact ⟨i + 1, _, by go_num, by omega, HI5⟩
        case measure => simp [intOf] <;> omega
    · have z1 : ¬ (i : Int) < (xs.length : Int) := by omega
      have z2 : decide ((i : Int) < (xs.length : Int)) = false := decide_eq_false z1
      have hii : i = xs.length := by omega
      rw [hii] at HIi
      clear hii hlt
      go_wp2_with fail
      go_ret2
      unfold SaidV
      rw [show saidX (nwX) (xs.map (·.e)) = .ok (ys.map (·.e)) from (by unfold saidX; rw [List.length_map]; exact HIi.out.eq)]
      exact ⟨ys, _, rfl, rfl, HIi.out.own, HIi.out.at_, HIi.out.ap, HIi.out.bel⟩

end Go.Proofs.YtiibeemjkdipnaaGreatDoor.Upcast

/-
  Lowest's closure, and a list's events said by it.
-/
namespace Go.Proofs.YtiibeemjkdipnaaGreatDoor.Upcast
open Go Go.RowKit
open Go.Proofs.YtiibeemjkdipnaaGreatDoor.Schema

def lowX (v : Nat) (e : Ev) : Except Nat Ev := dto e v
theorem dtX_out : ∀ (n : Nat) (e d : Ev) (v : Nat), may e = true → e.v ≤ n → dtX n e v = .ok d → may d = true ∧ d.ts = e.ts ∧ d.k = e.k ∧ (v < e.v → d.v = v)
  | 0, e, d, v, hm, hn, h => by have := (may_out hm).v1; omega
  | n + 1, e, d, v, hm, hn, h => by
    unfold dtX at h
    split at h
    · rename_i hlt
      cases hd : downX e with
      | error x => rw [hd] at h; cases h
      | ok f =>
        rw [hd] at h
        have ho := down_out (may_out hm).v1 hd
        have hv := ho.ev
        have hr := dtX_out n f d v (down_may hm hd) (by omega) h
        refine ⟨hr.1, by rw [hr.2.1, ho.ts], by rw [hr.2.2.1, ho.ek], fun _ => ?_⟩
        by_cases h1 : v < f.v
        · exact hr.2.2.2 h1
        · have h2 : f.v = v := by omega
          have h3 : dtX n f v = .ok f := by
            cases n with
            | zero => rfl
            | succ m => unfold dtX; rw [if_neg h1]
          have h4 : dtX n f v = .ok d := h
          rw [h3] at h4
          injection h4 with h4
          rw [← h4]; exact h2
    · rename_i hlt
      injection h with h
      subst h
      exact ⟨hm, rfl, rfl, fun h1 => absurd h1 hlt⟩
theorem dtX_err : ∀ (n : Nat) (e : Ev) (v x : Nat), dtX n e v = .error x → x = 43
  | 0, e, v, x, h => by cases h
  | n + 1, e, v, x, h => by
    unfold dtX at h
    split at h
    · cases hd : downX e with
      | error y => rw [hd] at h; injection h with h; rw [← h]; exact down_err hd
      | ok f => rw [hd] at h; exact dtX_err n f v x h
    · cases h
theorem dto_v {e d : Ev} {v : Nat} (hm : may e = true) (hlt : v < e.v) (h : dto e v = .ok d) : d.v = v := (dtX_out _ _ _ _ hm (Nat.le_refl _) h).2.2.2 hlt
theorem low_err {e : Ev} {v n : Nat} (h : lowX v e = .error n) : n = 43 := dtX_err _ _ _ _ h
theorem low_may {e d : Ev} {v : Nat} (hm : may e = true) (h : lowX v e = .ok d) : may d = true := (dtX_out _ _ _ _ hm (Nat.le_refl _) h).1
theorem low_ts {e d : Ev} {v : Nat} (hm : may e = true) (h : lowX v e = .ok d) : d.ts = e.ts := (dtX_out _ _ _ _ hm (Nat.le_refl _) h).2.1

set_option maxRecDepth 100000 in
set_option maxHeartbeats 4000000 in
theorem low_any (A : Option Addr) (ca : Nat) (C : Option Addr) (cc : Nat) (e : Ev) (v q : Nat) (hv : v < 256) (w : World) (hm : may e = true) (hlt : v < e.v) (hA : EvAt w A ca C cc e) (hq : w.cell? ⟨q, 0, none⟩ = some (.int .u8 (v : Int))) (E : Env w) :
    Calls Tryz.prog 52 #[evV A ca C cc e, .pointer (some ⟨q, 0, none⟩)] w (ExV (lowX v e) w) := by
  have HE := Lib.hid E
  have HV := Lib.hid hv
  have HA := Lib.hid hA
  have HM := Lib.hid hm
  have HLT := Lib.hid hlt
  have HQ := Lib.hid hq
  clear E hv hA hm hlt hq
  unfold evV
  have hb1 := (Below.refl w.heap.size w).alloc (Nat.le_refl _) (.cells #[.int .u8 e.v, .int .u8 e.k, .slice A e.ns.length ca, .slice C e.ts.length cc] 39)
  have hs1 : (w.alloc (.cells #[.int .u8 e.v, .int .u8 e.k, .slice A e.ns.length ca, .slice C e.ts.length cc] 39)).heap.size = w.heap.size + 1 := by simp
  have hb2 := (Below.refl (w.alloc (.cells #[.int .u8 e.v, .int .u8 e.k, .slice A e.ns.length ca, .slice C e.ts.length cc] 39)).heap.size (w.alloc (.cells #[.int .u8 e.v, .int .u8 e.k, .slice A e.ns.length ca, .slice C e.ts.length cc] 39))).alloc (Nat.le_refl _) (.cells #[.int .u8 0, .int .u8 0, .slice none 0 0, .slice none 0 0] 39)
  have hx : Four _ w.heap.size _ _ _ _ := Four.below (box4 w (.int .u8 e.v) (.int .u8 e.k) (.slice A e.ns.length ca) (.slice C e.ts.length cc) 39) hb2
  have hxf := free_below (free_new w #[.int .u8 e.v, .int .u8 e.k, .slice A e.ns.length ca, .slice C e.ts.length cc] 39) hb2
  have HX := Lib.hid hx
  have HXF := Lib.hid hxf
  have hp : Four _ (w.alloc (.cells #[.int .u8 e.v, .int .u8 e.k, .slice A e.ns.length ca, .slice C e.ts.length cc] 39)).heap.size _ _ _ _ := box4 (w.alloc (.cells #[.int .u8 e.v, .int .u8 e.k, .slice A e.ns.length ca, .slice C e.ts.length cc] 39)) (.int .u8 0) (.int .u8 0) (.slice none 0 0) (.slice none 0 0) 39
  have hf := free_new (w.alloc (.cells #[.int .u8 e.v, .int .u8 e.k, .slice A e.ns.length ca, .slice C e.ts.length cc] 39)) #[.int .u8 0, .int .u8 0, .slice none 0 0, .slice none 0 0] 39
  rw [hs1] at hp hf
  have HP := Lib.hid hp
  have HPF := Lib.hid hf
  have HB := Lib.hid (below_step hb1 hb2)
  clear hb1 hb2 hs1 hx hp hf hxf
  replace HQ := Lib.hid (cell_kept HQ.out HB.out)
  replace HA := Lib.hid (HA.out.below HB.out)
  go_enter Tryz.func52, Tryz.ntmps52
  go_upto_region 1 with (fail)
  generalize ((w.alloc (.cells #[.int .u8 e.v, .int .u8 e.k, .slice A e.ns.length ca, .slice C e.ts.length cc] 39)).alloc (.cells #[.int .u8 0, .int .u8 0, .slice none 0 0, .slice none 0 0] 39)) = W at HX HXF HP HPF HB HA HQ ⊢
  obtain ⟨x0, x1, x2, x3⟩ := HX.out
  have q0 := HQ.out
  go_wp2_with fail
  clear x0 x1 x2 x3 q0
  refine (letDownTo_any A ca C cc e v HV.out W HM.out HA.out (HE.out.below HB.out)).mono ?_
  rintro z W5 hz
  unfold LdV at hz
  cases hq : dto e v with
  | error x =>
    rw [hq] at hz
    obtain ⟨rfl, hb⟩ := hz
    have HDN := Lib.hid (show lowX v e = .error x from hq)
    replace HP := Lib.hid (HP.out.below hb)
    replace HPF := Lib.hid (free_below HPF.out hb)
    replace HB := Lib.hid (below_step HB.out hb)
    clear hb hq
    obtain ⟨p0, p1, p2, p3⟩ := HP.out
    have f0 := HPF.out.2 0
    have f1 := HPF.out.2 1
    have f2 := HPF.out.2 2
    have f3 := HPF.out.2 3
    go_wp2_with fail
    clear p0 p1 p2 p3 f0 f1 f2 f3
    obtain ⟨d0, d1, d2, d3⟩ := HP.out.set4 (.int .u8 0) (.int .u8 0) (.slice none 0 0) (.slice none 0 0)
    refine bodyPost_ret (v := .tuple #[.agg #[.int .u8 0, .int .u8 0, .slice none 0 0, .slice none 0 0], .int .i64 x]) (by simp [results, Tryz.results52, go_sem, d0, d1, d2, d3]) rfl ?_
    rw [HDN.out]
    exact ⟨rfl, HB.out.trans ((touch4 W5 (w.heap.size + 1) _ _ _ _).below (Nat.le_succ _) HB.out.size)⟩
  | ok g =>
    rw [hq] at hz
    obtain ⟨A2, c2, C2, d2, rfl, ho, hb⟩ := hz
    have HDN := Lib.hid (show lowX v e = .ok g from hq)
    have hps := HPF.out.1
    have HOO := Lib.hid (show OwnE W5 (w.heap.size + 2) 2 (.slice A2 g.ns.length c2) (nums g.ns) ∧ OwnE W5 (w.heap.size + 2) 9 (.slice C2 g.ts.length d2) (texts g.ts) from by
      rcases ho with ⟨h1, h2, h3, h4, h5⟩ | ⟨_, h1, h2⟩
      · exact absurd hq (fun h => by have h6 := dto_v HM.out HLT.out h; have h7 := HLT.out; rw [h1] at h6; omega)
      · exact ⟨h1.less (by omega), h2.less (by omega)⟩)
    clear ho hps
    have HO1 := Lib.hid HOO.out.1
    have HO2 := Lib.hid HOO.out.2
    replace HP := Lib.hid (HP.out.below hb)
    replace HPF := Lib.hid (free_below HPF.out hb)
    replace HB := Lib.hid (below_step HB.out hb)
    clear hb hq HOO HX
    unfold evV
    obtain ⟨p0, p1, p2, p3⟩ := HP.out
    have f0 := HPF.out.2 0
    have f1 := HPF.out.2 1
    have f2 := HPF.out.2 2
    have f3 := HPF.out.2 3
    go_wp2_with fail
    clear p0 p1 p2 p3 f0 f1 f2 f3
    obtain ⟨e0, e1, e2, e3⟩ := HP.out.set4 (.int .u8 g.v) (.int .u8 g.k) (.slice A2 g.ns.length c2) (.slice C2 g.ts.length d2)
    refine bodyPost_ret (v := .tuple #[.agg #[.int .u8 g.v, .int .u8 g.k, .slice A2 g.ns.length c2, .slice C2 g.ts.length d2], .int .i64 0]) (by simp [results, Tryz.results52, go_sem, e0, e1, e2, e3]) rfl ?_
    rw [HDN.out]
    exact ⟨A2, c2, C2, d2, rfl, (ownE_set4 HO1.out (Nat.lt_succ_self _)).less (by omega), (ownE_set4 HO2.out (Nat.lt_succ_self _)).less (by omega), HB.out.trans ((touch4 W5 (w.heap.size + 1) _ _ _ _).below (Nat.le_succ _) HB.out.size)⟩

set_option maxRecDepth 100000 in
set_option maxHeartbeats 4000000 in
theorem said_low (A : Option Addr) (cap : Nat) (xs : List Lx) (v q : Nat) (hv : v < 256) (hn : xs.length ≤ 100000) (hsm : ∀ x ∈ xs, may x.e = true ∧ v < x.e.v) (w : World) (hX : Row w A xs) (hq : w.cell? ⟨q, 0, none⟩ = some (.int .u8 (v : Int))) (E : Env w) :
    Calls Tryz.prog 49 #[.slice A xs.length cap, .func (.func 52) #[] #[.pointer (some ⟨q, 0, none⟩)]] w (SaidV (lowX v) (xs.map (·.e)) w) := by
  have HE := Lib.hid E
  have HX := Lib.hid hX
  have HN := Lib.hid hn
  have HSM := Lib.hid hsm
  clear E hX hsm
  have HV := Lib.hid hv
  have HQ := Lib.hid hq
  clear hv hq
  skip
  go_enter Tryz.func49, Tryz.ntmps49
  go_wp2_with fail
  have HI : Hid (SaidI w (lowX v) (xs.map (·.e)) 0 (.slice none 0 0) [] w) := ⟨Below.refl _ _, OwnR.nil _ _, rfl, rfl, (fun y hy => by cases hy), Apart.nil⟩
  go_loopw [6, 13] (fun vx t wr => ∃ (i : Nat) (ys : List Lx), t = .int .i64 i ∧ i ≤ xs.length ∧ Hid (SaidI w (lowX v) (xs.map (·.e)) i vx ys wr)) (fun _ t _ => xs.length - (intOf t).toNat)
  case atStart => exact ⟨0, [], rfl, Nat.zero_le _, HI⟩
  case round =>
    obtain ⟨i, ys, rfl, hi, HIi⟩ := hrel
    clear HI
    by_cases hlt : i < xs.length
    · have z0 : (0 : Int) ≤ (i : Int) := by omega
      have z1 : (i : Int) < (xs.length : Int) := by omega
      obtain ⟨b, o, rfl, hbl, c0, c1, c2, c3, hat⟩ := (HX.out.below HIi.out.bel).at i hlt
      have HAT := Lib.hid hat
      have HMX := Lib.hid (HSM.out _ (List.getElem_mem hlt))
      have HOK := Lib.hid (fun d h => saidN_ok (f := lowX v) xs i hlt ys HIi.out.eq (d := d) h)
      have HBAD := Lib.hid (fun n h => saidN_err (f := lowX v) xs i hlt ys HIi.out.eq (n := n) h)
      clear hat hbl
      generalize xs[i] = x at HAT HMX HOK HBAD c0 c1 c2 c3
      have hb1 := (Below.refl wr.heap.size wr).alloc (Nat.le_refl _) (.cells #[.int .u8 x.e.v, .int .u8 x.e.k, .slice x.A x.e.ns.length x.ca, .slice x.C x.e.ts.length x.cc] 39)
      have HB1 := Lib.hid hb1
      clear hb1
      go_wp2_with fail
      clear c0 c1 c2 c3 z1 z0
      replace HAT := Lib.hid (HAT.out.below HB1.out)
      have HTX := Lib.hid HAT.out.txt
      generalize wr.alloc (.cells #[.int .u8 x.e.v, .int .u8 x.e.k, .slice x.A x.e.ns.length x.ca, .slice x.C x.e.ts.length x.cc] 39) = W1 at HB1 HAT ⊢
      refine (low_any x.A x.ca x.C x.cc x.e v q HV.out W1 HMX.out.1 HMX.out.2 HAT.out (cell_kept HQ.out (below_step HIi.out.bel HB1.out)) (HE.out.below (below_step HIi.out.bel HB1.out))).mono ?_
      rintro z W2 hz
      cases hq : (lowX v) x.e with
      | error n =>
        have hq' := hq
        have hn4 := low_err hq'
        subst hn4
        rw [show _ = _ from hq] at hz
        obtain ⟨rfl, hb⟩ := hz
        have HB := Lib.hid ((below_step HIi.out.bel (below_step HB1.out hb)).trans ((Below.refl W2.heap.size W2).alloc (Nat.le_refl _) (.cells #[.int .u8 0, .int .u8 0, .slice none 0 0, .slice none 0 0] 39) |>.mono (below_step HIi.out.bel (below_step HB1.out hb)).size))
        have HDN := Lib.hid (HBAD.out _ hq)
        clear hb hq hq'
        go_wp2_with fail
        go_ret2
        unfold SaidV
        rw [HDN.out]
        exact ⟨rfl, HB.out⟩
      | ok d =>
        have HDN := Lib.hid (HOK.out d hq)
        have HMD := Lib.hid (low_may HMX.out.1 hq)
        have HTD := Lib.hid (show ∀ t ∈ d.ts, t.size ≤ maxLen by rw [low_ts HMX.out.1 hq]; exact HTX.out)
        rw [show _ = _ from hq] at hz
        obtain ⟨A3, c3, C3, d3, rfl, ho1, ho2, hb⟩ := hz
        have hws := (below_step HIi.out.bel HB1.out).size
        have HAP := Lib.hid (HIi.out.ap.snoc (y := ⟨A3, c3, C3, d3, d⟩) HIi.out.at_ HB1.out.size ho1 ho2)
        clear hq
        have HO1 := Lib.hid (ho1.less (show w.heap.size ≤ _ from hws))
        have HO2 := Lib.hid (ho2.less (show w.heap.size ≤ _ from hws))
        have HI2 := Lib.hid (HIi.out.below HB1.out |>.below hb)
        clear ho1 ho2 hb hws
        unfold evV
        have hb2 := (Below.refl W2.heap.size W2).alloc (Nat.le_refl _) (.cells #[.int .u8 d.v, .int .u8 d.k, .slice A3 d.ns.length c3, .slice C3 d.ts.length d3] 39)
        replace HO1 := Lib.hid (HO1.out.below hb2)
        replace HO2 := Lib.hid (HO2.out.below hb2)
        replace HI2 := Lib.hid (HI2.out.below hb2)
        clear hb2
        go_upto_region 8 with (fail)
        generalize hW3 : W2.alloc (.cells #[.int .u8 d.v, .int .u8 d.k, .slice A3 d.ns.length c3, .slice C3 d.ts.length d3] 39) = W3 at HO1 HO2 HI2 ⊢
        have HL : Hid (Four W3 W2.heap.size (.int .u8 d.v) (.int .u8 d.k) (.slice A3 d.ns.length c3) (.slice C3 d.ts.length d3)) := by rw [← hW3]; exact box4 W2 (.int .u8 d.v) (.int .u8 d.k) (.slice A3 d.ns.length c3) (.slice C3 d.ts.length d3) 39
        clear hW3
        generalize W2.heap.size = q at HL ⊢
        have hb3 := (Below.refl W3.heap.size W3).alloc (Nat.le_refl _) (.cells #[.int .u8 d.v, .int .u8 d.k, .slice A3 d.ns.length c3, .slice C3 d.ts.length d3] 39)
        replace HO1 := Lib.hid (HO1.out.below hb3)
        replace HO2 := Lib.hid (HO2.out.below hb3)
        replace HI2 := Lib.hid (HI2.out.below hb3)
        clear hb3
        have HNEW := Lib.hid (lx_new W3 ⟨A3, c3, C3, d3, d⟩)
        obtain ⟨l0, l1, l2, l3⟩ := HL.out
        have hyl : ys.length ≤ 1000000 := by have := HI2.out.len; have := HN.out; omega
        have HYL := Lib.hid hyl
        clear hyl
        go_wp2_with (at_builtin; refine wpList_append_ev rfl (.tmp 26) (.tmp 28) rfl w.heap.size _ ys rfl HI2.out.own ⟨W3.heap.size, 0, none⟩ 1 ⟨A3, c3, C3, d3, d⟩ rfl HNEW.out ?c1 ?c2 ?_)
        case c1 => exact HYL.out
        case c2 => first | exact HI2.out.bel.size | exact Nat.le_trans HI2.out.bel.size (by simp)
        intro v' W5 hO hg
        have HI5 : Hid (SaidI w (lowX v) (xs.map (·.e)) (i + 1) v' (ys ++ [⟨A3, c3, C3, d3, d⟩]) W5) := said_snoc HI2.out hO hg HDN.out HMD.out HTD.out HO1.out HO2.out HAP.out
        clear hO hg HI2 HO1 HO2 HNEW l0 l1 l2 l3 HL
        go_wp2_with fail
        go_roundw
        case rel => exact ⟨i + 1, _, by go_num, by omega, HI5⟩
        case measure => simp [intOf] <;> omega
    · have z1 : ¬ (i : Int) < (xs.length : Int) := by omega
      have z2 : decide ((i : Int) < (xs.length : Int)) = false := decide_eq_false z1
      have hii : i = xs.length := by omega
      rw [hii] at HIi
      clear hii hlt
      go_wp2_with fail
      go_ret2
      unfold SaidV
      rw [show saidX (lowX v) (xs.map (·.e)) = .ok (ys.map (·.e)) from (by unfold saidX; rw [List.length_map]; exact HIi.out.eq)]
      exact ⟨ys, _, rfl, rfl, HIi.out.own, HIi.out.at_, HIi.out.ap, HIi.out.bel⟩

end Go.Proofs.YtiibeemjkdipnaaGreatDoor.Upcast

/-
  Lowest.
-/
namespace Go.Proofs.YtiibeemjkdipnaaGreatDoor.Upcast
open Go Go.RowKit
open Go.Proofs.YtiibeemjkdipnaaGreatDoor.Schema

/-- the least version from one on in which all can be said -/
def lowL (top : List Ev) : Nat → Nat → Nat × List Ev
  | 0, _ => (3, top)
  | n + 1, u => match saidX (lowX u) top with
    | .ok l => (u, l)
    | .error _ => lowL top n (u + 1)
def lwX (es : List Ev) (v : Nat) : Except Nat (Nat × List Ev) :=
  match saidX nwX es with
  | .error n => .error n
  | .ok top => if isV v then .ok (lowL top (3 - v) v) else .error 43
theorem lw_new {es : List Ev} {v n : Nat} (h : saidX nwX es = .error n) : lwX es v = .error n := by simp only [lwX, h]
theorem lw_ver {es top : List Ev} {v : Nat} (h : saidX nwX es = .ok top) (hv : isV v = false) : lwX es v = .error 43 := by simp [lwX, h, hv]
theorem lw_yes {es top : List Ev} {v : Nat} (h : saidX nwX es = .ok top) (hv : isV v = true) : lwX es v = .ok (lowL top (3 - v) v) := by simp [lwX, h, hv]
theorem lowL_yes (top : List Ev) (u : Nat) (hu : u < 3) {l : List Ev} (h : saidX (lowX u) top = .ok l) : lowL top (3 - u) u = (u, l) := by
  rw [show 3 - u = (2 - u) + 1 from by omega]
  simp only [lowL, h]
theorem lowL_no (top : List Ev) (u : Nat) (hu : u < 3) (h : ∃ n, saidX (lowX u) top = .error n) : lowL top (3 - u) u = lowL top (3 - (u + 1)) (u + 1) := by
  obtain ⟨n, h⟩ := h
  rw [show 3 - u = (3 - (u + 1)) + 1 from by omega]
  simp only [lowL, h]
theorem saidN_from {f : Ev → Except Nat Ev} {es : List Ev} : ∀ {i n : Nat}, saidN f es i = .error n → ∃ e, f e = .error n
  | 0, n, h => by cases h
  | i + 1, n, h => by
    cases h1 : saidN f es i with
    | error x =>
      simp only [saidN, h1] at h
      injection h with h
      subst h
      exact saidN_from h1
    | ok l =>
      cases h2 : f (es.getD i ev0) with
      | error x => simp only [saidN, h1, h2] at h; injection h with h; subst h; exact ⟨_, h2⟩
      | ok d => simp only [saidN, h1, h2] at h; cases h
theorem saidN_len {f : Ev → Except Nat Ev} {es : List Ev} : ∀ {i : Nat} {l : List Ev}, saidN f es i = .ok l → l.length = i
  | 0, l, h => by injection h with h; subst h; rfl
  | i + 1, l, h => by
    cases h1 : saidN f es i with
    | error x => simp only [saidN, h1] at h; cases h
    | ok l1 =>
      cases h2 : f (es.getD i ev0) with
      | error x => simp only [saidN, h1, h2] at h; cases h
      | ok d => simp only [saidN, h1, h2] at h; injection h with h; subst h; rw [List.length_append, saidN_len h1]; rfl
theorem saidN_each {f : Ev → Except Nat Ev} {es : List Ev} {P : Ev → Prop} (hp : ∀ e d, f e = .ok d → P d) : ∀ {i : Nat} {l : List Ev}, saidN f es i = .ok l → ∀ d ∈ l, P d
  | 0, l, h => by injection h with h; subst h; intro d hd; cases hd
  | i + 1, l, h => by
    cases h1 : saidN f es i with
    | error x => simp only [saidN, h1] at h; cases h
    | ok l1 =>
      cases h2 : f (es.getD i ev0) with
      | error x => simp only [saidN, h1, h2] at h; cases h
      | ok d =>
        simp only [saidN, h1, h2] at h
        injection h with h
        subst h
        intro x hx
        rcases List.mem_append.1 hx with hx | hx
        · exact saidN_each hp h1 x hx
        · rw [List.mem_singleton.1 hx]; exact hp _ _ h2
theorem saidX_new {es : List Ev} {n : Nat} (h : saidX nwX es = .error n) : n = 4 := by obtain ⟨e, he⟩ := saidN_from h; exact new_err he
theorem saidX_low {es : List Ev} {u n : Nat} (h : saidX (lowX u) es = .error n) : n = 43 := by obtain ⟨e, he⟩ := saidN_from h; exact low_err he
theorem said_len {f : Ev → Except Nat Ev} {es l : List Ev} (h : saidX f es = .ok l) : l.length = es.length := saidN_len h
theorem said_v3 {es top : List Ev} (h : saidX nwX es = .ok top) {d : Ev} (hd : d ∈ top) : d.v = 3 :=
  saidN_each (P := fun d => d.v = 3) (fun e d hd => by
    unfold nwX at hd
    split at hd
    · rename_i hm; injection hd with hd; subst hd; exact new_v hm
    · cases hd) h d hd
theorem box1 (w : World) (a : Value) (T : TypeId) : (w.alloc (.cells #[a] T)).cell? ⟨w.heap.size, 0, none⟩ = some a := by
  unfold World.cell?
  rw [show (w.alloc _).heap[(⟨w.heap.size, 0, none⟩ : Addr).block]? = _ from (MapKept.heap_alloc w _).1]
  rfl
theorem ownR_less {w : World} {base base' : Nat} {v : Value} {xs : List Lx} (h : OwnR w base v xs) (hb : base' ≤ base) : OwnR w base' v xs := by
  obtain ⟨h1, h2⟩ := h
  refine ⟨h1, ?_⟩
  rcases h2 with h2 | ⟨g, cap, cur, e, hbg, r⟩
  · exact Or.inl h2
  · exact Or.inr ⟨g, cap, cur, e, Nat.le_trans hb hbg, r⟩
theorem lyAt_less {w : World} {base base' : Nat} {y : Lx} (h : LyAt w base y) (hb : base' ≤ base) : LyAt w base' y := ⟨h.may, h.txt, h.ns.less hb, h.ts.less hb⟩
theorem ownR_set {w : World} {base : Nat} {v : Value} {xs : List Lx} (h : OwnR w base v xs) {b o : Nat} (hb : b < base) (x : Value) : OwnR (w.setCell ⟨b, o, none⟩ x) base v xs := by
  obtain ⟨h1, h2⟩ := h
  refine ⟨h1, ?_⟩
  rcases h2 with h2 | ⟨g, cap, cur, e, hbg, hg, r⟩
  · exact Or.inl h2
  · exact Or.inr ⟨g, cap, cur, e, hbg, by rw [Below.heap_setCell w ⟨b, o, none⟩ x g (by show g ≠ b; omega)]; exact hg, r⟩
theorem lyAt_set {w : World} {base : Nat} {y : Lx} (h : LyAt w base y) {b o : Nat} (hb : b < base) (x : Value) : LyAt (w.setCell ⟨b, o, none⟩ x) base y := ⟨h.may, h.txt, h.ns.set hb x, h.ts.set hb x⟩
structure LowI (w : World) (v u : Nat) (ys : List Lx) (A : Option Addr) (c : Nat) (wr : World) : Prop where
  bel : Below w.heap.size w wr
  cell : wr.cell? ⟨w.heap.size, 0, none⟩ = some (.int .u8 (u : Int))
  frz : Free wr w.heap.size
  own : OwnR wr (w.heap.size + 1) (.slice A ys.length c) ys
  at_ : ∀ y ∈ ys, LyAt wr (w.heap.size + 1) y
  eq : lowL (ys.map (·.e)) (3 - v) v = lowL (ys.map (·.e)) (3 - u) u
  u1 : 1 ≤ u
  ap : Apart ys
theorem LowI.below {w wr w' : World} {v u c : Nat} {ys : List Lx} {A : Option Addr} (h : LowI w v u ys A c wr) (hb : Below wr.heap.size wr w') : LowI w v u ys A c w' := ⟨below_step h.bel hb, cell_kept h.cell hb, free_below h.frz hb, h.own.below hb, fun y hy => (h.at_ y hy).below hb, h.eq, h.u1, h.ap⟩
theorem LowI.row {w wr : World} {v u c : Nat} {ys : List Lx} {A : Option Addr} (h : LowI w v u ys A c wr) : Row wr A ys := by
  obtain ⟨A', c', e, hv, -, -, -⟩ := h.own.vat
  injection e with e1 _ _
  subst e1
  exact ⟨hv, fun y hy => (h.at_ y hy).lx⟩
theorem low_step {w wr : World} {v u c : Nat} {ys : List Lx} {A : Option Addr} (h : LowI w v u ys A c wr) (he : lowL (ys.map (·.e)) (3 - u) u = lowL (ys.map (·.e)) (3 - (u + 1)) (u + 1)) : LowI w v (u + 1) ys A c (wr.setCell ⟨w.heap.size, 0, none⟩ (.int .u8 ((u + 1 : Nat) : Int))) :=
  ⟨h.bel.trans ((Schema.Touch.set wr w.heap.size 0 _).below (Nat.le_refl _) h.bel.size), World.cell?_setCell_same _ _ _ h.cell, free_set h.frz _, ownR_set h.own (Nat.lt_succ_self _) _, fun y hy => lyAt_set (h.at_ y hy) (Nat.lt_succ_self _) _, h.eq.trans he, Nat.le_succ_of_le h.u1, h.ap⟩
/-- what Lowest tells -/
def LowV (es : List Ev) (v : Nat) (w : World) (z : Ending) (w' : World) : Prop :=
  match lwX es v with
  | .ok p => ∃ (ys : List Lx) (x : Value), ys.map (·.e) = p.2 ∧ z = .returned (.tuple #[.int .u8 (p.1 : Int), x, .int .i64 0]) ∧ OwnR w' w.heap.size x ys ∧ (∀ y ∈ ys, LyAt w' w.heap.size y) ∧ Below w.heap.size w w'
  | .error n => z = .returned (.tuple #[.int .u8 0, .slice none 0 0, .int .i64 (n : Int)]) ∧ Below w.heap.size w w'

def LowA (es : List Ev) (v : Nat) (w : World) (z : Ending) (w' : World) : Prop :=
  match lwX es v with
  | .ok p => ∃ (ys : List Lx) (x : Value), ys.map (·.e) = p.2 ∧ z = .returned (.tuple #[.int .u8 (p.1 : Int), x, .int .i64 0]) ∧ OwnR w' w.heap.size x ys ∧ (∀ y ∈ ys, LyAt w' w.heap.size y) ∧ Apart ys ∧ Below w.heap.size w w'
  | .error n => z = .returned (.tuple #[.int .u8 0, .slice none 0 0, .int .i64 (n : Int)]) ∧ Below w.heap.size w w'
theorem lowA_V {es : List Ev} {v : Nat} {w : World} {z : Ending} {w' : World} (h : LowA es v w z w') : LowV es v w z w' := by
  unfold LowA at h
  unfold LowV
  cases hq : lwX es v with
  | ok p =>
    rw [hq] at h
    obtain ⟨ys, x, h1, h2, h3, h4, _, h6⟩ := h
    exact ⟨ys, x, h1, h2, h3, h4, h6⟩
  | error n => rw [hq] at h; exact h

set_option maxRecDepth 100000 in
set_option maxHeartbeats 4000000 in
theorem Lowest_ap (A : Option Addr) (cap : Nat) (xs : List Lx) (v : Nat) (hv : v < 256) (hn : xs.length ≤ 100000) (hsm : ∀ x ∈ xs, x.e.ns.length ≤ 1000000) (w : World) (hX : Row w A xs) (E : Env w) :
    Calls Tryz.prog 31 #[.slice A xs.length cap, .int .u8 (v : Int)] w (LowA (xs.map (·.e)) v w) := by
  have HE := Lib.hid E
  have HX := Lib.hid hX
  have HN := Lib.hid hn
  have HSM := Lib.hid hsm
  have HV := Lib.hid hv
  clear E hX hsm hn hv
  have hb := (Below.refl w.heap.size w).alloc (Nat.le_refl _) (.cells #[.int .u8 (v : Int)] 5)
  have HB := Lib.hid hb
  have HQ := Lib.hid (box1 w (.int .u8 (v : Int)) 5)
  have HF := Lib.hid (free_new w #[.int .u8 (v : Int)] 5)
  clear hb
  have hmf : ∀ (fn : Fn) (first cap : Array Value) (w : World), (Instr.makeFunc fn first cap).run Tryz.prog w = .ok (.func fn first cap) w := fun _ _ _ _ => rfl
  go_enter Tryz.func31, Tryz.ntmps31
  go_upto_region 1 with (fail)
  generalize w.alloc (.cells #[.int .u8 (v : Int)] 5) = W0 at HB HQ HF ⊢
  go_wp2_with fail
  refine (said_new A cap xs HN.out HSM.out W0 (HX.out.below HB.out) (HE.out.below HB.out)).mono ?_
  rintro z W1 hz
  unfold SaidV at hz
  cases hq : saidX nwX (xs.map (·.e)) with
  | error n =>
    have hn4 := saidX_new hq
    subst hn4
    rw [hq] at hz
    obtain ⟨rfl, hb⟩ := hz
    have HDN := Lib.hid (lw_new (v := v) hq)
    replace HB := Lib.hid (below_step HB.out hb)
    clear hb hq
    go_wp2_with fail
    refine bodyPost_ret (v := .tuple #[.int .u8 0, .slice none 0 0, .int .i64 4]) (by simp [results, Tryz.results31, go_sem]) rfl ?_
    unfold LowA
    rw [HDN.out]
    exact ⟨rfl, HB.out⟩
  | ok top =>
    rw [hq] at hz
    obtain ⟨ys, vv, hys, rfl, hO, hat, hap, hb⟩ := hz
    have hlt := HF.out.1
    have HO := Lib.hid (ownR_less hO (show w.heap.size + 1 ≤ _ from hlt))
    have HAT := Lib.hid (fun y (hy : y ∈ ys) => lyAt_less (hat y hy) (show w.heap.size + 1 ≤ _ from hlt))
    have HLN := Lib.hid (show ys.length = xs.length by have := said_len hq; rw [← hys, List.length_map, List.length_map] at this; exact this)
    have HV3 := Lib.hid (fun y (hy : y ∈ ys) => said_v3 hq (hys ▸ List.mem_map_of_mem hy : y.e ∈ top))
    have HNV := Lib.hid (fun h => lw_ver (v := v) hq h)
    have HYV := Lib.hid (fun h => lw_yes (v := v) hq h)
    replace HQ := Lib.hid (cell_kept HQ.out hb)
    replace HF := Lib.hid (free_below HF.out hb)
    replace HB := Lib.hid (below_step HB.out hb)
    subst hys
    have HAP := Lib.hid hap
    clear hq hO hat hap hb hlt
    obtain ⟨A7, c7, rfl, -, -, -⟩ := HO.out.vat
    have q0 := HQ.out
    go_wp2_with fail
    clear q0
    refine (isVersion_any v HV.out W1).mono ?_
    rintro z W2 ⟨rfl, hb⟩
    replace HQ := Lib.hid (cell_kept HQ.out hb)
    replace HF := Lib.hid (free_below HF.out hb)
    replace HB := Lib.hid (below_step HB.out hb)
    replace HO := Lib.hid (HO.out.below hb)
    replace HAT := Lib.hid (fun y (hy : y ∈ ys) => (HAT.out y hy).below hb)
    clear hb
    cases hv : isV v with
    | false =>
      have HDN := Lib.hid (HNV.out hv)
      clear hv
      go_wp2_with fail
      refine bodyPost_ret (v := .tuple #[.int .u8 0, .slice none 0 0, .int .i64 43]) (by simp [results, Tryz.results31, go_sem]) rfl ?_
      unfold LowA
      rw [HDN.out]
      exact ⟨rfl, HB.out⟩
    | true =>
      have HDN := Lib.hid (HYV.out hv)
      have hv13 : 1 ≤ v ∧ v ≤ 3 := of_decide_eq_true hv
      have HI : Hid (LowI w v v ys A7 c7 W2) := ⟨HB.out, HQ.out, HF.out, HO.out, HAT.out, rfl, hv13.1, HAP.out⟩
      have hv3 := hv13.2
      clear hv HNV HYV HQ HF HB HO HAT hv13
      go_wp2_with fail
      go_loopw [] (fun wr => ∃ u : Nat, u ≤ 3 ∧ Hid (LowI w v u ys A7 c7 wr)) (fun wr => 3 - verAt wr w.heap.size)
      case atStart => exact ⟨v, hv3, HI⟩
      case round =>
        obtain ⟨u, hu, HIu⟩ := hrel
        clear HI hv3
        have HMS := Lib.hid (verAt_of HIu.out.cell)
        have q0 := HIu.out.cell
        by_cases hlt : u < 3
        · have z1 : (u : Int) < 3 := by omega
          have HU := Lib.hid hlt
          have HST := Lib.hid (fun h => lowL_no (ys.map (·.e)) u hlt h)
          have HSY := Lib.hid (fun l h => lowL_yes (ys.map (·.e)) u hlt (l := l) h)
          clear hlt
          go_wp2_with fail
          clear z1
          refine (said_low A7 c7 ys u w.heap.size (by omega) (by rw [HLN.out]; exact HN.out) (fun y hy => ⟨(HIu.out.at_ y hy).may, by rw [HV3.out y hy]; exact HU.out⟩) wr HIu.out.row HIu.out.cell (HE.out.below HIu.out.bel)).mono ?_
          rintro z W3 hz
          unfold SaidV at hz
          cases hq : saidX (lowX u) (ys.map (·.e)) with
          | error n =>
            have hn4 := saidX_low hq
            subst hn4
            rw [hq] at hz
            obtain ⟨rfl, hb⟩ := hz
            have HEQ := Lib.hid (HST.out ⟨_, hq⟩)
            have HI3 := Lib.hid (HIu.out.below hb)
            clear hb hq q0
            have q0 := HI3.out.cell
            have f0 := HI3.out.frz.2 0
            have huw : IntKind.u8.wrap ((u : Int) + 1) = ((u + 1 : Nat) : Int) := by have := HU.out; rw [IntKind.wrap_u8]; omega
            go_wp2_with fail
            have HI4 : Hid (LowI w v (u + 1) ys A7 c7 (W3.setCell ⟨w.heap.size, 0, none⟩ (.int .u8 ((u + 1 : Nat) : Int)))) := low_step HI3.out HEQ.out
            have HM4 := Lib.hid (verAt_of HI4.out.cell)
            have hu3 := HU.out
            clear q0 f0
            go_roundw
            case rel => exact ⟨u + 1, by omega, HI4⟩
            case measure =>
              have h5 : verAt (W3.setCell ⟨w.heap.size, 0, none⟩ (.int .u8 ((u : Int) + 1))) w.heap.size = u + 1 := HM4.out
              rw [HMS.out, h5]; omega
          | ok l =>
            rw [hq] at hz
            obtain ⟨zs, v2, hzs, rfl, hO, hat, hap, hb⟩ := hz
            have HEQ := Lib.hid (HDN.out.trans (congrArg Except.ok (HIu.out.eq.trans (HSY.out l hq))))
            have HI3 := Lib.hid (HIu.out.below hb)
            have hws := HIu.out.bel.size
            have HO2 := Lib.hid (ownR_less hO hws)
            have HA2 := Lib.hid (fun y (hy : y ∈ zs) => lyAt_less (hat y hy) hws)
            have HZ := Lib.hid hzs
            have HAP2 := Lib.hid hap
            clear hb hq q0 hO hat hzs hws hap
            have q0 := HI3.out.cell
            go_wp2_with fail
            refine bodyPost_ret (v := .tuple #[.int .u8 (u : Int), v2, .int .i64 0]) (by simp [results, Tryz.results31, go_sem]) rfl ?_
            unfold LowA
            rw [HEQ.out]
            exact ⟨zs, v2, HZ.out, rfl, HO2.out, HA2.out, HAP2.out, HI3.out.bel⟩
        · have hu3 : u = 3 := by omega
          subst hu3
          have HEQ := Lib.hid (HDN.out.trans (congrArg Except.ok HIu.out.eq))
          clear hlt HMS
          go_wp2_with fail
          refine bodyPost_ret (v := .tuple #[.int .u8 3, .slice A7 ys.length c7, .int .i64 0]) (by simp [results, Tryz.results31, go_sem]) rfl ?_
          unfold LowA
          rw [HEQ.out]
          exact ⟨ys, _, rfl, rfl, ownR_less HIu.out.own (Nat.le_succ _), fun y hy => lyAt_less (HIu.out.at_ y hy) (Nat.le_succ _), HIu.out.ap, HIu.out.bel⟩
theorem Lowest_any (A : Option Addr) (cap : Nat) (xs : List Lx) (v : Nat) (hv : v < 256) (hn : xs.length ≤ 100000) (hsm : ∀ x ∈ xs, x.e.ns.length ≤ 1000000) (w : World) (hX : Row w A xs) (E : Env w) :
    Calls Tryz.prog 31 #[.slice A xs.length cap, .int .u8 (v : Int)] w (LowV (xs.map (·.e)) v w) := (Lowest_ap A cap xs v hv hn hsm w hX E).mono fun z w' h => lowA_V h

end Go.Proofs.YtiibeemjkdipnaaGreatDoor.Upcast
