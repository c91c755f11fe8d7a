import Derived.Test.YtiibeemjkdipnaaDoorUJ
/-
  Lowest.
-/
namespace Go.Proofs.YtiibeemjkdipnaaDoor.Upcast
open Go Go.RowKit
open Go.Proofs.YtiibeemjkdipnaaDoor.Schema

/-- the least version from one on in which all can be said -/
def lowL (top : List Ev) : Nat → Nat → Nat × List Ev
  | 0, _ => (3, top)
  | n + 1, u => match saidX (lowX u) top with
    | .ok l => (u, l)
    | .error _ => lowL top n (u + 1)
def lwX (es : List Ev) (v : Nat) : Except Nat (Nat × List Ev) :=
  match saidX nwX es with
  | .error n => .error n
  | .ok top => if isV v then .ok (lowL top (3 - v) v) else .error 43
theorem lw_new {es : List Ev} {v n : Nat} (h : saidX nwX es = .error n) : lwX es v = .error n := by simp only [lwX, h]
theorem lw_ver {es top : List Ev} {v : Nat} (h : saidX nwX es = .ok top) (hv : isV v = false) : lwX es v = .error 43 := by simp [lwX, h, hv]
theorem lw_yes {es top : List Ev} {v : Nat} (h : saidX nwX es = .ok top) (hv : isV v = true) : lwX es v = .ok (lowL top (3 - v) v) := by simp [lwX, h, hv]
theorem lowL_yes (top : List Ev) (u : Nat) (hu : u < 3) {l : List Ev} (h : saidX (lowX u) top = .ok l) : lowL top (3 - u) u = (u, l) := by
  rw [show 3 - u = (2 - u) + 1 from by omega]
  simp only [lowL, h]
theorem lowL_no (top : List Ev) (u : Nat) (hu : u < 3) (h : ∃ n, saidX (lowX u) top = .error n) : lowL top (3 - u) u = lowL top (3 - (u + 1)) (u + 1) := by
  obtain ⟨n, h⟩ := h
  rw [show 3 - u = (3 - (u + 1)) + 1 from by omega]
  simp only [lowL, h]
theorem saidN_from {f : Ev → Except Nat Ev} {es : List Ev} : ∀ {i n : Nat}, saidN f es i = .error n → ∃ e, f e = .error n
  | 0, n, h => by cases h
  | i + 1, n, h => by
    cases h1 : saidN f es i with
    | error x =>
      simp only [saidN, h1] at h
      injection h with h
      subst h
      exact saidN_from h1
    | ok l =>
      cases h2 : f (es.getD i ev0) with
      | error x => simp only [saidN, h1, h2] at h; injection h with h; subst h; exact ⟨_, h2⟩
      | ok d => simp only [saidN, h1, h2] at h; cases h
theorem saidN_len {f : Ev → Except Nat Ev} {es : List Ev} : ∀ {i : Nat} {l : List Ev}, saidN f es i = .ok l → l.length = i
  | 0, l, h => by injection h with h; subst h; rfl
  | i + 1, l, h => by
    cases h1 : saidN f es i with
    | error x => simp only [saidN, h1] at h; cases h
    | ok l1 =>
      cases h2 : f (es.getD i ev0) with
      | error x => simp only [saidN, h1, h2] at h; cases h
      | ok d => simp only [saidN, h1, h2] at h; injection h with h; subst h; rw [List.length_append, saidN_len h1]; rfl
theorem saidN_each {f : Ev → Except Nat Ev} {es : List Ev} {P : Ev → Prop} (hp : ∀ e d, f e = .ok d → P d) : ∀ {i : Nat} {l : List Ev}, saidN f es i = .ok l → ∀ d ∈ l, P d
  | 0, l, h => by injection h with h; subst h; intro d hd; cases hd
  | i + 1, l, h => by
    cases h1 : saidN f es i with
    | error x => simp only [saidN, h1] at h; cases h
    | ok l1 =>
      cases h2 : f (es.getD i ev0) with
      | error x => simp only [saidN, h1, h2] at h; cases h
      | ok d =>
        simp only [saidN, h1, h2] at h
        injection h with h
        subst h
        intro x hx
        rcases List.mem_append.1 hx with hx | hx
        · exact saidN_each hp h1 x hx
        · rw [List.mem_singleton.1 hx]; exact hp _ _ h2
theorem saidX_new {es : List Ev} {n : Nat} (h : saidX nwX es = .error n) : n = 4 := by obtain ⟨e, he⟩ := saidN_from h; exact new_err he
theorem saidX_low {es : List Ev} {u n : Nat} (h : saidX (lowX u) es = .error n) : n = 43 := by obtain ⟨e, he⟩ := saidN_from h; exact low_err he
theorem said_len {f : Ev → Except Nat Ev} {es l : List Ev} (h : saidX f es = .ok l) : l.length = es.length := saidN_len h
theorem said_v3 {es top : List Ev} (h : saidX nwX es = .ok top) {d : Ev} (hd : d ∈ top) : d.v = 3 :=
  saidN_each (P := fun d => d.v = 3) (fun e d hd => by
    unfold nwX at hd
    split at hd
    · rename_i hm; injection hd with hd; subst hd; exact new_v hm
    · cases hd) h d hd
theorem box1 (w : World) (a : Value) (T : TypeId) : (w.alloc (.cells #[a] T)).cell? ⟨w.heap.size, 0, none⟩ = some a := by
  unfold World.cell?
  rw [show (w.alloc _).heap[(⟨w.heap.size, 0, none⟩ : Addr).block]? = _ from (MapKept.heap_alloc w _).1]
  rfl
theorem ownR_less {w : World} {base base' : Nat} {v : Value} {xs : List Lx} (h : OwnR w base v xs) (hb : base' ≤ base) : OwnR w base' v xs := by
  obtain ⟨h1, h2⟩ := h
  refine ⟨h1, ?_⟩
  rcases h2 with h2 | ⟨g, cap, cur, e, hbg, r⟩
  · exact Or.inl h2
  · exact Or.inr ⟨g, cap, cur, e, Nat.le_trans hb hbg, r⟩
theorem lyAt_less {w : World} {base base' : Nat} {y : Lx} (h : LyAt w base y) (hb : base' ≤ base) : LyAt w base' y := ⟨h.may, h.txt, h.ns.less hb, h.ts.less hb⟩
theorem ownR_set {w : World} {base : Nat} {v : Value} {xs : List Lx} (h : OwnR w base v xs) {b o : Nat} (hb : b < base) (x : Value) : OwnR (w.setCell ⟨b, o, none⟩ x) base v xs := by
  obtain ⟨h1, h2⟩ := h
  refine ⟨h1, ?_⟩
  rcases h2 with h2 | ⟨g, cap, cur, e, hbg, hg, r⟩
  · exact Or.inl h2
  · exact Or.inr ⟨g, cap, cur, e, hbg, by rw [Below.heap_setCell w ⟨b, o, none⟩ x g (by show g ≠ b; omega)]; exact hg, r⟩
theorem lyAt_set {w : World} {base : Nat} {y : Lx} (h : LyAt w base y) {b o : Nat} (hb : b < base) (x : Value) : LyAt (w.setCell ⟨b, o, none⟩ x) base y := ⟨h.may, h.txt, h.ns.set hb x, h.ts.set hb x⟩
structure LowI (w : World) (v u : Nat) (ys : List Lx) (A : Option Addr) (c : Nat) (wr : World) : Prop where
  bel : Below w.heap.size w wr
  cell : wr.cell? ⟨w.heap.size, 0, none⟩ = some (.int .u8 (u : Int))
  frz : Free wr w.heap.size
  own : OwnR wr (w.heap.size + 1) (.slice A ys.length c) ys
  at_ : ∀ y ∈ ys, LyAt wr (w.heap.size + 1) y
  eq : lowL (ys.map (·.e)) (3 - v) v = lowL (ys.map (·.e)) (3 - u) u
  u1 : 1 ≤ u
  ap : Apart ys
theorem LowI.below {w wr w' : World} {v u c : Nat} {ys : List Lx} {A : Option Addr} (h : LowI w v u ys A c wr) (hb : Below wr.heap.size wr w') : LowI w v u ys A c w' := ⟨below_step h.bel hb, cell_kept h.cell hb, free_below h.frz hb, h.own.below hb, fun y hy => (h.at_ y hy).below hb, h.eq, h.u1, h.ap⟩
theorem LowI.row {w wr : World} {v u c : Nat} {ys : List Lx} {A : Option Addr} (h : LowI w v u ys A c wr) : Row wr A ys := by
  obtain ⟨A', c', e, hv, -, -, -⟩ := h.own.vat
  injection e with e1 _ _
  subst e1
  exact ⟨hv, fun y hy => (h.at_ y hy).lx⟩
theorem low_step {w wr : World} {v u c : Nat} {ys : List Lx} {A : Option Addr} (h : LowI w v u ys A c wr) (he : lowL (ys.map (·.e)) (3 - u) u = lowL (ys.map (·.e)) (3 - (u + 1)) (u + 1)) : LowI w v (u + 1) ys A c (wr.setCell ⟨w.heap.size, 0, none⟩ (.int .u8 ((u + 1 : Nat) : Int))) :=
  ⟨h.bel.trans ((Schema.Touch.set wr w.heap.size 0 _).below (Nat.le_refl _) h.bel.size), World.cell?_setCell_same _ _ _ h.cell, free_set h.frz _, ownR_set h.own (Nat.lt_succ_self _) _, fun y hy => lyAt_set (h.at_ y hy) (Nat.lt_succ_self _) _, h.eq.trans he, Nat.le_succ_of_le h.u1, h.ap⟩
/-- what Lowest tells -/
def LowV (es : List Ev) (v : Nat) (w : World) (z : Ending) (w' : World) : Prop :=
  match lwX es v with
  | .ok p => ∃ (ys : List Lx) (x : Value), ys.map (·.e) = p.2 ∧ z = .returned (.tuple #[.int .u8 (p.1 : Int), x, .int .i64 0]) ∧ OwnR w' w.heap.size x ys ∧ (∀ y ∈ ys, LyAt w' w.heap.size y) ∧ Below w.heap.size w w'
  | .error n => z = .returned (.tuple #[.int .u8 0, .slice none 0 0, .int .i64 (n : Int)]) ∧ Below w.heap.size w w'

def LowA (es : List Ev) (v : Nat) (w : World) (z : Ending) (w' : World) : Prop :=
  match lwX es v with
  | .ok p => ∃ (ys : List Lx) (x : Value), ys.map (·.e) = p.2 ∧ z = .returned (.tuple #[.int .u8 (p.1 : Int), x, .int .i64 0]) ∧ OwnR w' w.heap.size x ys ∧ (∀ y ∈ ys, LyAt w' w.heap.size y) ∧ Apart ys ∧ Below w.heap.size w w'
  | .error n => z = .returned (.tuple #[.int .u8 0, .slice none 0 0, .int .i64 (n : Int)]) ∧ Below w.heap.size w w'
theorem lowA_V {es : List Ev} {v : Nat} {w : World} {z : Ending} {w' : World} (h : LowA es v w z w') : LowV es v w z w' := by
  unfold LowA at h
  unfold LowV
  cases hq : lwX es v with
  | ok p =>
    rw [hq] at h
    obtain ⟨ys, x, h1, h2, h3, h4, _, h6⟩ := h
    exact ⟨ys, x, h1, h2, h3, h4, h6⟩
  | error n => rw [hq] at h; exact h

set_option maxRecDepth 100000 in
set_option maxHeartbeats 4000000 in
theorem Lowest_ap (A : Option Addr) (cap : Nat) (xs : List Lx) (v : Nat) (hv : v < 256) (hn : xs.length ≤ 100000) (hsm : ∀ x ∈ xs, x.e.ns.length ≤ 1000000) (w : World) (hX : Row w A xs) (E : Env w) :
    Calls Tryd.prog 25 #[.slice A xs.length cap, .int .u8 (v : Int)] w (LowA (xs.map (·.e)) v w) := by
  have HE := Lib.hid E
  have HX := Lib.hid hX
  have HN := Lib.hid hn
  have HSM := Lib.hid hsm
  have HV := Lib.hid hv
  clear E hX hsm hn hv
  have hb := (Below.refl w.heap.size w).alloc (Nat.le_refl _) (.cells #[.int .u8 (v : Int)] 5)
  have HB := Lib.hid hb
  have HQ := Lib.hid (box1 w (.int .u8 (v : Int)) 5)
  have HF := Lib.hid (free_new w #[.int .u8 (v : Int)] 5)
  clear hb
  have hmf : ∀ (fn : Fn) (first cap : Array Value) (w : World), (Instr.makeFunc fn first cap).run Tryd.prog w = .ok (.func fn first cap) w := fun _ _ _ _ => rfl
  go_enter Tryd.func25, Tryd.ntmps25
  go_upto_region 1 with (fail)
  generalize w.alloc (.cells #[.int .u8 (v : Int)] 5) = W0 at HB HQ HF ⊢
  go_wp2_with fail
  refine (said_new A cap xs HN.out HSM.out W0 (HX.out.below HB.out) (HE.out.below HB.out)).mono ?_
  rintro z W1 hz
  unfold SaidV at hz
  cases hq : saidX nwX (xs.map (·.e)) with
  | error n =>
    have hn4 := saidX_new hq
    subst hn4
    rw [hq] at hz
    obtain ⟨rfl, hb⟩ := hz
    have HDN := Lib.hid (lw_new (v := v) hq)
    replace HB := Lib.hid (below_step HB.out hb)
    clear hb hq
    go_wp2_with fail
    refine bodyPost_ret (v := .tuple #[.int .u8 0, .slice none 0 0, .int .i64 4]) (by simp [results, Tryd.results25, go_sem]) rfl ?_
    unfold LowA
    rw [HDN.out]
    exact ⟨rfl, HB.out⟩
  | ok top =>
    rw [hq] at hz
    obtain ⟨ys, vv, hys, rfl, hO, hat, hap, hb⟩ := hz
    have hlt := HF.out.1
    have HO := Lib.hid (ownR_less hO (show w.heap.size + 1 ≤ _ from hlt))
    have HAT := Lib.hid (fun y (hy : y ∈ ys) => lyAt_less (hat y hy) (show w.heap.size + 1 ≤ _ from hlt))
    have HLN := Lib.hid (show ys.length = xs.length by have := said_len hq; rw [← hys, List.length_map, List.length_map] at this; exact this)
    have HV3 := Lib.hid (fun y (hy : y ∈ ys) => said_v3 hq (hys ▸ List.mem_map_of_mem hy : y.e ∈ top))
    have HNV := Lib.hid (fun h => lw_ver (v := v) hq h)
    have HYV := Lib.hid (fun h => lw_yes (v := v) hq h)
    replace HQ := Lib.hid (cell_kept HQ.out hb)
    replace HF := Lib.hid (free_below HF.out hb)
    replace HB := Lib.hid (below_step HB.out hb)
    subst hys
    have HAP := Lib.hid hap
    clear hq hO hat hap hb hlt
    obtain ⟨A7, c7, rfl, -, -, -⟩ := HO.out.vat
    have q0 := HQ.out
    go_wp2_with fail
    clear q0
    refine (isVersion_any v HV.out W1).mono ?_
    rintro z W2 ⟨rfl, hb⟩
    replace HQ := Lib.hid (cell_kept HQ.out hb)
    replace HF := Lib.hid (free_below HF.out hb)
    replace HB := Lib.hid (below_step HB.out hb)
    replace HO := Lib.hid (HO.out.below hb)
    replace HAT := Lib.hid (fun y (hy : y ∈ ys) => (HAT.out y hy).below hb)
    clear hb
    cases hv : isV v with
    | false =>
      have HDN := Lib.hid (HNV.out hv)
      clear hv
      go_wp2_with fail
      refine bodyPost_ret (v := .tuple #[.int .u8 0, .slice none 0 0, .int .i64 43]) (by simp [results, Tryd.results25, go_sem]) rfl ?_
      unfold LowA
      rw [HDN.out]
      exact ⟨rfl, HB.out⟩
    | true =>
      have HDN := Lib.hid (HYV.out hv)
      have hv13 : 1 ≤ v ∧ v ≤ 3 := of_decide_eq_true hv
      have HI : Hid (LowI w v v ys A7 c7 W2) := ⟨HB.out, HQ.out, HF.out, HO.out, HAT.out, rfl, hv13.1, HAP.out⟩
      have hv3 := hv13.2
      clear hv HNV HYV HQ HF HB HO HAT hv13
      go_wp2_with fail
      go_loopw [] (fun wr => ∃ u : Nat, u ≤ 3 ∧ Hid (LowI w v u ys A7 c7 wr)) (fun wr => 3 - verAt wr w.heap.size)
      case atStart => exact ⟨v, hv3, HI⟩
      case round =>
        obtain ⟨u, hu, HIu⟩ := hrel
        clear HI hv3
        have HMS := Lib.hid (verAt_of HIu.out.cell)
        have q0 := HIu.out.cell
        by_cases hlt : u < 3
        · have z1 : (u : Int) < 3 := by omega
          have HU := Lib.hid hlt
          have HST := Lib.hid (fun h => lowL_no (ys.map (·.e)) u hlt h)
          have HSY := Lib.hid (fun l h => lowL_yes (ys.map (·.e)) u hlt (l := l) h)
          clear hlt
          go_wp2_with fail
          clear z1
          refine (said_low A7 c7 ys u w.heap.size (by omega) (by rw [HLN.out]; exact HN.out) (fun y hy => ⟨(HIu.out.at_ y hy).may, by rw [HV3.out y hy]; exact HU.out⟩) wr HIu.out.row HIu.out.cell (HE.out.below HIu.out.bel)).mono ?_
          rintro z W3 hz
          unfold SaidV at hz
          cases hq : saidX (lowX u) (ys.map (·.e)) with
          | error n =>
            have hn4 := saidX_low hq
            subst hn4
            rw [hq] at hz
            obtain ⟨rfl, hb⟩ := hz
            have HEQ := Lib.hid (HST.out ⟨_, hq⟩)
            have HI3 := Lib.hid (HIu.out.below hb)
            clear hb hq q0
            have q0 := HI3.out.cell
            have f0 := HI3.out.frz.2 0
            have huw : IntKind.u8.wrap ((u : Int) + 1) = ((u + 1 : Nat) : Int) := by have := HU.out; rw [IntKind.wrap_u8]; omega
            go_wp2_with fail
            have HI4 : Hid (LowI w v (u + 1) ys A7 c7 (W3.setCell ⟨w.heap.size, 0, none⟩ (.int .u8 ((u + 1 : Nat) : Int)))) := low_step HI3.out HEQ.out
            have HM4 := Lib.hid (verAt_of HI4.out.cell)
            have hu3 := HU.out
            clear q0 f0
            go_roundw
            case rel => exact ⟨u + 1, by omega, HI4⟩
            case measure =>
              have h5 : verAt (W3.setCell ⟨w.heap.size, 0, none⟩ (.int .u8 ((u : Int) + 1))) w.heap.size = u + 1 := HM4.out
              rw [HMS.out, h5]; omega
          | ok l =>
            rw [hq] at hz
            obtain ⟨zs, v2, hzs, rfl, hO, hat, hap, hb⟩ := hz
            have HEQ := Lib.hid (HDN.out.trans (congrArg Except.ok (HIu.out.eq.trans (HSY.out l hq))))
            have HI3 := Lib.hid (HIu.out.below hb)
            have hws := HIu.out.bel.size
            have HO2 := Lib.hid (ownR_less hO hws)
            have HA2 := Lib.hid (fun y (hy : y ∈ zs) => lyAt_less (hat y hy) hws)
            have HZ := Lib.hid hzs
            have HAP2 := Lib.hid hap
            clear hb hq q0 hO hat hzs hws hap
            have q0 := HI3.out.cell
            go_wp2_with fail
            refine bodyPost_ret (v := .tuple #[.int .u8 (u : Int), v2, .int .i64 0]) (by simp [results, Tryd.results25, go_sem]) rfl ?_
            unfold LowA
            rw [HEQ.out]
            exact ⟨zs, v2, HZ.out, rfl, HO2.out, HA2.out, HAP2.out, HI3.out.bel⟩
        · have hu3 : u = 3 := by omega
          subst hu3
          have HEQ := Lib.hid (HDN.out.trans (congrArg Except.ok HIu.out.eq))
          clear hlt HMS
          go_wp2_with fail
          refine bodyPost_ret (v := .tuple #[.int .u8 3, .slice A7 ys.length c7, .int .i64 0]) (by simp [results, Tryd.results25, go_sem]) rfl ?_
          unfold LowA
          rw [HEQ.out]
          exact ⟨ys, _, rfl, rfl, ownR_less HIu.out.own (Nat.le_succ _), fun y hy => lyAt_less (HIu.out.at_ y hy) (Nat.le_succ _), HIu.out.ap, HIu.out.bel⟩
theorem Lowest_any (A : Option Addr) (cap : Nat) (xs : List Lx) (v : Nat) (hv : v < 256) (hn : xs.length ≤ 100000) (hsm : ∀ x ∈ xs, x.e.ns.length ≤ 1000000) (w : World) (hX : Row w A xs) (E : Env w) :
    Calls Tryd.prog 25 #[.slice A xs.length cap, .int .u8 (v : Int)] w (LowV (xs.map (·.e)) v w) := (Lowest_ap A cap xs v hv hn hsm w hX E).mono fun z w' h => lowA_V h

end Go.Proofs.YtiibeemjkdipnaaDoor.Upcast
