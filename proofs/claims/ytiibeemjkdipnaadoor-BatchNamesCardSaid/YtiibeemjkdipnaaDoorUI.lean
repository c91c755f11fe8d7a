import Derived.Test.YtiibeemjkdipnaaDoorUH
/-
  A list's events, each said: at Newest, and at Lowest's closure.
-/
namespace Go.Proofs.YtiibeemjkdipnaaDoor.Upcast
open Go Go.RowKit
open Go.Proofs.YtiibeemjkdipnaaDoor.Schema

def ev0 : Ev := ⟨0, 0, [], []⟩
def saidN (f : Ev → Except Nat Ev) (es : List Ev) : Nat → Except Nat (List Ev)
  | 0 => .ok []
  | n + 1 => match saidN f es n with
    | .error x => .error x
    | .ok l => match f (es.getD n ev0) with
      | .ok d => .ok (l ++ [d])
      | .error x => .error x
def saidX (f : Ev → Except Nat Ev) (es : List Ev) : Except Nat (List Ev) := saidN f es es.length
theorem getD_map (xs : List Lx) (i : Nat) (h : i < xs.length) : (xs.map (·.e)).getD i ev0 = xs[i].e := by
  rw [List.getD_eq_getElem?_getD, List.getElem?_map, List.getElem?_eq_getElem h]; rfl
theorem saidN_ok {f : Ev → Except Nat Ev} (xs : List Lx) (i : Nat) (h : i < xs.length) (ys : List Lx) (he : saidN f (xs.map (·.e)) i = .ok (ys.map (·.e))) {d : Ev} (hd : f xs[i].e = .ok d) : saidN f (xs.map (·.e)) (i + 1) = .ok (ys.map (·.e) ++ [d]) := by
  simp only [saidN, he, getD_map xs i h, hd]
theorem saidN_bad {f : Ev → Except Nat Ev} {es : List Ev} {i n : Nat} (h : saidN f es i = .error n) : ∀ m, saidN f es (i + m) = .error n
  | 0 => h
  | m + 1 => by
    have := saidN_bad h m
    rw [show i + (m + 1) = (i + m) + 1 from rfl]
    simp only [saidN, this]
theorem saidN_err {f : Ev → Except Nat Ev} (xs : List Lx) (i : Nat) (h : i < xs.length) (ys : List Lx) (he : saidN f (xs.map (·.e)) i = .ok (ys.map (·.e))) {n : Nat} (hd : f xs[i].e = .error n) : saidX f (xs.map (·.e)) = .error n := by
  have h1 : saidN f (xs.map (·.e)) (i + 1) = .error n := by
    simp only [saidN, he, getD_map xs i h, hd]
  unfold saidX
  rw [List.length_map]
  have := saidN_bad h1 (xs.length - (i + 1))
  rwa [show i + 1 + (xs.length - (i + 1)) = xs.length from by omega] at this
/-- an event that may be, of the call's own -/
structure LyAt (w : World) (base : Nat) (y : Lx) : Prop where
  may : may y.e = true
  txt : ∀ t ∈ y.e.ts, t.size ≤ maxLen
  ns : OwnE w base 2 (.slice y.A y.e.ns.length y.ca) (nums y.e.ns)
  ts : OwnE w base 9 (.slice y.C y.e.ts.length y.cc) (texts y.e.ts)
theorem LyAt.below {w w' : World} {base : Nat} {y : Lx} (h : LyAt w base y) (hb : Below w.heap.size w w') : LyAt w' base y := ⟨h.may, h.txt, h.ns.below hb, h.ts.below hb⟩
theorem LyAt.lx {w : World} {base : Nat} {y : Lx} (h : LyAt w base y) : LxAt w y := evAt_of h.may h.txt h.ns h.ts
theorem ownE_grown {w w' : World} {base base' : Nat} {E : TypeId} {v x : Value} {vs : List Value} {xs : List Lx} (hE : E ≠ 27) (h : OwnE w base E v vs) (ho : OwnR w base' x xs) (hg : w.grownBy w' x.ownBlock) : OwnE w' base E v vs := by
  rcases h with h | h
  · left
    obtain ⟨h1, h2⟩ := h
    refine ⟨h1, ?_⟩
    rcases h2 with h2 | ⟨g, cap, cur, e, hbg, hh, r⟩
    · exact Or.inl h2
    · refine Or.inr ⟨g, cap, cur, e, hbg, ?_, r⟩
      refine (hg.block g (row_lt hh) (fun hx => ?_)).trans hh
      obtain ⟨_, h3⟩ := ho
      rcases h3 with ⟨rfl, _⟩ | ⟨g', cap', cur', rfl, _, hh', _⟩
      · cases hx
      · have : g = g' := by simpa [Value.ownBlock] using hx
        subst this
        rw [hh] at hh'
        injection hh' with hh'
        injection hh' with _ h5 _
        exact hE h5
  · exact Or.inr h
theorem LyAt.grown {w w' : World} {base base' : Nat} {x : Value} {xs : List Lx} {y : Lx} (h : LyAt w base y) (ho : OwnR w base' x xs) (hg : w.grownBy w' x.ownBlock) : LyAt w' base y := ⟨h.may, h.txt, ownE_grown (by decide) h.ns ho hg, ownE_grown (by decide) h.ts ho hg⟩
/-- what one's own slice that holds something lies in -/
theorem ownE_blk {w : World} {base : Nat} {E : TypeId} {A : Option Addr} {n c : Nat} {vs : List Value} (h : OwnE w base E (.slice A n c) vs) (hv : vs ≠ []) : ∃ g, A = some ⟨g, 0, none⟩ ∧ base ≤ g ∧ g < w.heap.size := by
  rcases h with ⟨h1, h2⟩ | ⟨h2, _⟩
  · rcases h2 with ⟨_, hn⟩ | ⟨g, cap, cur, e, hb, hh, _⟩
    · exact absurd (List.eq_nil_of_length_eq_zero hn) hv
    · injection e with e1 e2 e3
      exact ⟨g, e1, hb, row_lt hh⟩
  · exact absurd h2 hv
/-- the slices of unlike events lie apart -/
def Apart (ys : List Lx) : Prop := ∀ (i j : Nat) (hi : i < ys.length) (hj : j < ys.length), i < j → (ys[i].e.ns ≠ [] → ys[j].e.ns ≠ [] → ys[i].A ≠ ys[j].A) ∧ (ys[i].e.ts ≠ [] → ys[j].e.ts ≠ [] → ys[i].C ≠ ys[j].C)
theorem Apart.nil : Apart [] := fun i j hi => by cases hi
theorem nums_ne {ns : List Int} (h : ns ≠ []) : nums ns ≠ [] := fun h2 => h (by unfold nums at h2; exact List.map_eq_nil_iff.1 h2)
theorem texts_ne {ts : List ByteArray} (h : ts ≠ []) : texts ts ≠ [] := fun h2 => h (by unfold texts at h2; exact List.map_eq_nil_iff.1 h2)
theorem Apart.snoc {ys : List Lx} {W W' : World} {base s : Nat} {y : Lx} (h : Apart ys) (hat : ∀ x ∈ ys, LyAt W base x) (hs : W.heap.size ≤ s) (o1 : OwnE W' s 2 (.slice y.A y.e.ns.length y.ca) (nums y.e.ns)) (o2 : OwnE W' s 9 (.slice y.C y.e.ts.length y.cc) (texts y.e.ts)) : Apart (ys ++ [y]) := by
  intro i j hi hj hij
  have hi' : i < ys.length := by rw [List.length_append, List.length_singleton] at hj; omega
  rw [List.getElem_append_left hi']
  by_cases hj' : j < ys.length
  · rw [List.getElem_append_left hj']; exact h i j hi' hj' hij
  · have hjl : j = ys.length := by rw [List.length_append, List.length_singleton] at hj; omega
    subst hjl
    rw [List.getElem_append_right (Nat.le_refl _)]
    simp only [Nat.sub_self, List.getElem_cons_zero]
    have ha := hat _ (List.getElem_mem hi')
    refine ⟨fun n1 n2 e => ?_, fun n1 n2 e => ?_⟩
    · obtain ⟨g, e1, _, l1⟩ := ownE_blk ha.ns (nums_ne n1)
      obtain ⟨g', e2, l2, _⟩ := ownE_blk o1 (nums_ne n2)
      rw [e1, e2] at e
      injection e with e; injection e with e _; omega
    · obtain ⟨g, e1, _, l1⟩ := ownE_blk ha.ts (texts_ne n1)
      obtain ⟨g', e2, l2, _⟩ := ownE_blk o2 (texts_ne n2)
      rw [e1, e2] at e
      injection e with e; injection e with e _; omega
structure SaidI (w : World) (f : Ev → Except Nat Ev) (es : List Ev) (i : Nat) (v : Value) (ys : List Lx) (wr : World) : Prop where
  bel : Below w.heap.size w wr
  own : OwnR wr w.heap.size v ys
  eq : saidN f es i = .ok (ys.map (·.e))
  len : ys.length = i
  at_ : ∀ y ∈ ys, LyAt wr w.heap.size y
  ap : Apart ys
theorem SaidI.below {w : World} {f : Ev → Except Nat Ev} {es : List Ev} {i : Nat} {v : Value} {ys : List Lx} {wr w' : World} (h : SaidI w f es i v ys wr) (hb : Below wr.heap.size wr w') : SaidI w f es i v ys w' := ⟨below_step h.bel hb, h.own.below hb, h.eq, h.len, fun y hy => (h.at_ y hy).below hb, h.ap⟩
theorem said_snoc {w : World} {f : Ev → Except Nat Ev} {es : List Ev} {i : Nat} {v v' : Value} {ys : List Lx} {W W' : World} {y : Lx} (h : SaidI w f es i v ys W) (hO : OwnR W' w.heap.size v' (ys ++ [y])) (hg : W.grownBy W' v.ownBlock) (hs : saidN f es (i + 1) = .ok (ys.map (·.e) ++ [y.e])) (hm : may y.e = true) (ht : ∀ t ∈ y.e.ts, t.size ≤ maxLen) (h1 : OwnE W w.heap.size 2 (.slice y.A y.e.ns.length y.ca) (nums y.e.ns)) (h2 : OwnE W w.heap.size 9 (.slice y.C y.e.ts.length y.cc) (texts y.e.ts)) (ha : Apart (ys ++ [y])) : SaidI w f es (i + 1) v' (ys ++ [y]) W' := by
  refine ⟨h.bel.trans (h.own.below_grown (Nat.le_refl _) h.bel.size hg), hO, by rw [List.map_append]; exact hs, by rw [List.length_append, h.len]; rfl, fun z hz => ?_, ha⟩
  rcases List.mem_append.1 hz with hz | hz
  · exact (h.at_ z hz).grown h.own hg
  · rw [List.mem_singleton.1 hz]
    exact LyAt.grown ⟨hm, ht, h1, h2⟩ h.own hg
/-- what said tells -/
def SaidV (f : Ev → Except Nat Ev) (es : List Ev) (w : World) (z : Ending) (w' : World) : Prop :=
  match saidX f es with
  | .ok l => ∃ (ys : List Lx) (v : Value), ys.map (·.e) = l ∧ z = .returned (.tuple #[v, .int .i64 0]) ∧ OwnR w' w.heap.size v ys ∧ (∀ y ∈ ys, LyAt w' w.heap.size y) ∧ Apart ys ∧ Below w.heap.size w w'
  | .error x => z = .returned (.tuple #[.slice none 0 0, .int .i64 (x : Int)]) ∧ Below w.heap.size w w'
theorem new_err {e : Ev} {n : Nat} (h : nwX e = .error n) : n = 4 := by
  unfold nwX at h
  split at h
  · cases h
  · injection h with h; exact h.symm
theorem new_may' {e d : Ev} (h : nwX e = .ok d) : may d = true := by
  unfold nwX at h
  split at h
  · rename_i hm; injection h with h; subst h; exact new_may hm
  · cases h
theorem new_ts' {e d : Ev} (h : nwX e = .ok d) : d.ts = e.ts := by
  unfold nwX at h
  split at h
  · injection h with h; subst h; exact new_ts e
  · cases h

set_option maxRecDepth 100000 in
set_option maxHeartbeats 4000000 in
theorem said_new (A : Option Addr) (cap : Nat) (xs : List Lx) (hn : xs.length ≤ 100000) (hsm : ∀ x ∈ xs, x.e.ns.length ≤ 1000000) (w : World) (hX : Row w A xs) (E : Env w) :
    Calls Tryd.prog 45 #[.slice A xs.length cap, .func (.func 30) #[] #[]] w (SaidV nwX (xs.map (·.e)) w) := by
  have HE := Lib.hid E
  have HX := Lib.hid hX
  have HN := Lib.hid hn
  have HSM := Lib.hid hsm
  clear E hX hsm
  skip
  go_enter Tryd.func45, Tryd.ntmps45
  go_wp2_with fail
  have HI : Hid (SaidI w (nwX) (xs.map (·.e)) 0 (.slice none 0 0) [] w) := ⟨Below.refl _ _, OwnR.nil _ _, rfl, rfl, (fun y hy => by cases hy), Apart.nil⟩
  go_loopw [6, 13] (fun vx t wr => ∃ (i : Nat) (ys : List Lx), t = .int .i64 i ∧ i ≤ xs.length ∧ Hid (SaidI w (nwX) (xs.map (·.e)) i vx ys wr)) (fun _ t _ => xs.length - (intOf t).toNat)
  case atStart => exact ⟨0, [], rfl, Nat.zero_le _, HI⟩
  case round =>
    obtain ⟨i, ys, rfl, hi, HIi⟩ := hrel
    clear HI
    by_cases hlt : i < xs.length
    · have z0 : (0 : Int) ≤ (i : Int) := by omega
      have z1 : (i : Int) < (xs.length : Int) := by omega
      obtain ⟨b, o, rfl, hbl, c0, c1, c2, c3, hat⟩ := (HX.out.below HIi.out.bel).at i hlt
      have HAT := Lib.hid hat
      have HMX := Lib.hid (HSM.out _ (List.getElem_mem hlt))
      have HOK := Lib.hid (fun d h => saidN_ok (f := nwX) xs i hlt ys HIi.out.eq (d := d) h)
      have HBAD := Lib.hid (fun n h => saidN_err (f := nwX) xs i hlt ys HIi.out.eq (n := n) h)
      clear hat hbl
      generalize xs[i] = x at HAT HMX HOK HBAD c0 c1 c2 c3
      have hb1 := (Below.refl wr.heap.size wr).alloc (Nat.le_refl _) (.cells #[.int .u8 x.e.v, .int .u8 x.e.k, .slice x.A x.e.ns.length x.ca, .slice x.C x.e.ts.length x.cc] 27)
      have HB1 := Lib.hid hb1
      clear hb1
      go_wp2_with fail
      clear c0 c1 c2 c3 z1 z0
      replace HAT := Lib.hid (HAT.out.below HB1.out)
      have HTX := Lib.hid HAT.out.txt
      generalize wr.alloc (.cells #[.int .u8 x.e.v, .int .u8 x.e.k, .slice x.A x.e.ns.length x.ca, .slice x.C x.e.ts.length x.cc] 27) = W1 at HB1 HAT ⊢
      refine (Newest_any x.A x.ca x.C x.cc x.e HMX.out W1 HAT.out (HE.out.below (below_step HIi.out.bel HB1.out))).mono ?_
      rintro z W2 hz
      cases hq : (nwX) x.e with
      | error n =>
        have hq' := hq
        have hn4 := new_err hq'
        subst hn4
        rw [show _ = _ from hq] at hz
        obtain ⟨rfl, hb⟩ := hz
        have HB := Lib.hid ((below_step HIi.out.bel (below_step HB1.out hb)).trans ((Below.refl W2.heap.size W2).alloc (Nat.le_refl _) (.cells #[.int .u8 0, .int .u8 0, .slice none 0 0, .slice none 0 0] 27) |>.mono (below_step HIi.out.bel (below_step HB1.out hb)).size))
        have HDN := Lib.hid (HBAD.out _ hq)
        clear hb hq hq'
        go_wp2_with fail
        go_ret2
        unfold SaidV
        rw [HDN.out]
        exact ⟨rfl, HB.out⟩
      | ok d =>
        have HDN := Lib.hid (HOK.out d hq)
        have HMD := Lib.hid (new_may' hq)
        have HTD := Lib.hid (show ∀ t ∈ d.ts, t.size ≤ maxLen by rw [new_ts' hq]; exact HTX.out)
        rw [show _ = _ from hq] at hz
        obtain ⟨A3, c3, C3, d3, rfl, ho1, ho2, hb⟩ := hz
        have hws := (below_step HIi.out.bel HB1.out).size
        have HAP := Lib.hid (HIi.out.ap.snoc (y := ⟨A3, c3, C3, d3, d⟩) HIi.out.at_ HB1.out.size ho1 ho2)
        clear hq
        have HO1 := Lib.hid (ho1.less (show w.heap.size ≤ _ from hws))
        have HO2 := Lib.hid (ho2.less (show w.heap.size ≤ _ from hws))
        have HI2 := Lib.hid (HIi.out.below HB1.out |>.below hb)
        clear ho1 ho2 hb hws
        unfold evV
        have hb2 := (Below.refl W2.heap.size W2).alloc (Nat.le_refl _) (.cells #[.int .u8 d.v, .int .u8 d.k, .slice A3 d.ns.length c3, .slice C3 d.ts.length d3] 27)
        replace HO1 := Lib.hid (HO1.out.below hb2)
        replace HO2 := Lib.hid (HO2.out.below hb2)
        replace HI2 := Lib.hid (HI2.out.below hb2)
        clear hb2
        go_upto_region 8 with (fail)
        generalize hW3 : W2.alloc (.cells #[.int .u8 d.v, .int .u8 d.k, .slice A3 d.ns.length c3, .slice C3 d.ts.length d3] 27) = W3 at HO1 HO2 HI2 ⊢
        have HL : Hid (Four W3 W2.heap.size (.int .u8 d.v) (.int .u8 d.k) (.slice A3 d.ns.length c3) (.slice C3 d.ts.length d3)) := by rw [← hW3]; exact box4 W2 (.int .u8 d.v) (.int .u8 d.k) (.slice A3 d.ns.length c3) (.slice C3 d.ts.length d3) 27
        clear hW3
        generalize W2.heap.size = q at HL ⊢
        have hb3 := (Below.refl W3.heap.size W3).alloc (Nat.le_refl _) (.cells #[.int .u8 d.v, .int .u8 d.k, .slice A3 d.ns.length c3, .slice C3 d.ts.length d3] 27)
        replace HO1 := Lib.hid (HO1.out.below hb3)
        replace HO2 := Lib.hid (HO2.out.below hb3)
        replace HI2 := Lib.hid (HI2.out.below hb3)
        clear hb3
        have HNEW := Lib.hid (lx_new W3 ⟨A3, c3, C3, d3, d⟩)
        obtain ⟨l0, l1, l2, l3⟩ := HL.out
        have hyl : ys.length ≤ 1000000 := by have := HI2.out.len; have := HN.out; omega
        have HYL := Lib.hid hyl
        clear hyl
        go_wp2_with (at_builtin; refine wpList_append_ev rfl (.tmp 26) (.tmp 28) rfl w.heap.size _ ys rfl HI2.out.own ⟨W3.heap.size, 0, none⟩ 1 ⟨A3, c3, C3, d3, d⟩ rfl HNEW.out ?c1 ?c2 ?_)
        case c1 => exact HYL.out
        case c2 => first | exact HI2.out.bel.size | exact Nat.le_trans HI2.out.bel.size (by simp)
        intro v' W5 hO hg
        have HI5 : Hid (SaidI w (nwX) (xs.map (·.e)) (i + 1) v' (ys ++ [⟨A3, c3, C3, d3, d⟩]) W5) := said_snoc HI2.out hO hg HDN.out HMD.out HTD.out HO1.out HO2.out HAP.out
        clear hO hg HI2 HO1 HO2 HNEW l0 l1 l2 l3 HL
        go_wp2_with fail
        go_roundw
        case rel => exact ⟨i + 1, _, by go_num, by omega, HI5⟩
        case measure => simp [intOf] <;> omega
    · have z1 : ¬ (i : Int) < (xs.length : Int) := by omega
      have z2 : decide ((i : Int) < (xs.length : Int)) = false := decide_eq_false z1
      have hii : i = xs.length := by omega
      rw [hii] at HIi
      clear hii hlt
      go_wp2_with fail
      go_ret2
      unfold SaidV
      rw [show saidX (nwX) (xs.map (·.e)) = .ok (ys.map (·.e)) from (by unfold saidX; rw [List.length_map]; exact HIi.out.eq)]
      exact ⟨ys, _, rfl, rfl, HIi.out.own, HIi.out.at_, HIi.out.ap, HIi.out.bel⟩

end Go.Proofs.YtiibeemjkdipnaaDoor.Upcast
