import Derived.Test.YtiibeemjkdipnaaGreatDoorHC
/-
  The function that tells a payload's events one by one: what it promises who ranges over it.
-/
namespace Go.Proofs.YtiibeemjkdipnaaGreatDoor.Batch
open Go Go.RowKit
open Go.Proofs.YtiibeemjkdipnaaGreatDoor.Wire (Rd Step U rdS fxV shR tkI tkE new_any end_any endE grown_trans grown_drewN)
open Go.Proofs.YtiibeemjkdipnaaGreatDoor.Schema
open Go.Proofs.YtiibeemjkdipnaaGreatDoor.Codec (touch_step env_touch env_low getW getE getI getF Get_any get_back getI_le)
open Go.Proofs.YtiibeemjkdipnaaGreatDoor.Upcast (ev0)
attribute [local go_sem] Oper.semAt_some

set_option maxHeartbeats 1000000 in
/-- events: its function value, and the box that it captures -/
theorem events_in (n : Nat) (s : ByteArray) (w : World) :
    CallsIn Fence.wide n Tryz.prog 37 #[.string s] w fun e w' => e = .returned (.func (.func 60) #[] #[.pointer (some ⟨w.heap.size, 0, none⟩)]) ∧ w' = w.alloc (.cells #[.string s] 9) := by
  refine callsIn_of_wp Tryz.func37 rfl trivial ?_ rfl
  simp only [Tryz.ntmps37, List.size_toArray, List.length_cons, List.length_nil, Nat.reduceAdd, Nat.reduceSub, Array.replicate_succ, Array.replicate_zero, List.push_toArray, List.append_toArray, List.nil_append, List.cons_append]
  have hmf : ∀ (fn : Fn) (first cap : Array Value) (w : World), (Instr.makeFunc fn first cap).run Tryz.prog w = .ok (.func fn first cap) w := fun _ _ _ _ => rfl
  gi_wp2
  go_ret
  exact ⟨rfl, rfl⟩

/-- what is handed over: an event in memory of its own, or, last, an error -/
def RelE (s : ByteArray) (i sz : Nat) (args : Array Value) (W : World) : Prop :=
  ∃ (x : Lx) (k : Nat), args = #[evV x.A x.ca x.C x.cc x.e, .int .i64 (k : Int)] ∧
    ((i < (okL s).length ∧ k = 0 ∧ x.e = (okL s).getD i ev0 ∧ OwnE W sz 2 (.slice x.A x.e.ns.length x.ca) (nums x.e.ns) ∧ OwnE W sz 9 (.slice x.C x.e.ts.length x.cc) (texts x.e.ts)) ∨
     (i = (okL s).length ∧ k = btW s ∧ ¬ k = 0 ∧ x = ⟨none, 0, none, 0, ev0⟩))
/-- how often -/
def times (s : ByteArray) : Nat := if btW s = 0 then (okL s).length else (okL s).length + 1
/-- where the reading stands -/
structure At (s : ByteArray) (r v : Nat) (i m x : Nat) (wr : World) : Prop where
  env : Env wr
  st : (∃ p, x = 0 ∧ v = hdV s ∧ m ≤ 40 ∧ i + (runE s (hdV s) m p).length = (okL s).length ∧ (okL s).drop i = runE s (hdV s) m p ∧ runW s (hdV s) m p = btW s ∧ Rd wr r s p 0 ∧ p ≤ s.size) ∨ (¬ x = 0 ∧ x = btW s ∧ i = (okL s).length)
theorem grw_new {T : Nat → Prop} {w w' : World} (h : Grw (fun r => T r ∨ w.heap.size ≤ r) w w') : Grw T w w' := ⟨h.os, h.tape, h.output, h.size, fun k hk hT => h.block k hk (fun h2 => h2.elim hT (fun h3 => absurd hk (by omega)))⟩
theorem grw_touch {T : Nat → Prop} {lo hi : Nat} {w w' : World} (h : Schema.Touch lo hi w w') (hT : ∀ r, lo ≤ r → r < hi → T r) : Grw T w w' := ⟨h.os, h.tape, h.output, h.size, fun k hk hn => h.block k hk (by
  by_cases h1 : k < lo
  · exact Or.inl h1
  · by_cases h2 : hi ≤ k
    · exact Or.inr h2
    · exact absurd (hT k (by omega) (by omega)) hn)⟩
theorem drop_cons {l : List Ev} {i : Nat} {e : Ev} {m : List Ev} (h : l.drop i = e :: m) : i < l.length ∧ l.getD i ev0 = e ∧ l.drop (i + 1) = m := by
  have hi : i < l.length := by
    by_cases hq : i < l.length
    · exact hq
    · rw [List.drop_of_length_le (by omega)] at h; cases h
  rw [List.drop_eq_getElem_cons hi] at h
  injection h with h1 h2
  exact ⟨hi, by rw [List.getD_eq_getElem?_getD, List.getElem?_eq_getElem hi, Option.getD_some, h1], h2⟩

set_option maxRecDepth 100000 in
set_option maxHeartbeats 4000000 in
/-- **events**: what it hands over -/
theorem events_seq (o b : Nat) (s : ByteArray) (hs : s.size ≤ 1000000000000) (w : World) (hB : Boxed w b 9 (.string s)) (ho : 2 ≤ o) (how : o ≤ w.heap.size) (E : Env w) :
    Seq Tryz.prog 60 #[.pointer (some ⟨b, 0, none⟩)] (RelE s) (times s) o w := by
  intro l J Jx W hW hsz hJ hJx hY h0
  have hbw := hB.lt
  have hB0 : Boxed W b 9 (.string s) := (hW.block b hbw).trans hB
  have hcb := hB0.cell
  have HE := Lib.hid (E.below hW)
  have HSZ := Lib.hid (show o + 2 ≤ W.heap.size by omega)
  have HJ := Lib.hid hJ
  have HJX := Lib.hid hJx
  have HY := Lib.hid hY
  have HH0 := Lib.hid h0
  clear hB0 hW hB hJ hJx hY h0 hbw E hsz how
  refine callsIn_of_wp Tryz.func60 rfl trivial ?_ rfl
  simp only [Tryz.ntmps60, List.size_toArray, List.length_cons, List.length_nil, Nat.reduceAdd, Nat.reduceSub, Array.replicate_succ, Array.replicate_zero, List.push_toArray, List.append_toArray, List.nil_append, List.cons_append]
  gi_wp2_with (refine ⟨trivial, rfl, ?_⟩; gi_at_call 61; refine (callsIn_wide.2 (new_any s W)).mono ?_; rintro ev w' ⟨rfl, rfl⟩)
  have hba := (Below.refl W.heap.size W).alloc (Nat.le_refl _) (.cells (rdS s 0 0) 114)
  refine ⟨trivial, rfl, ?_⟩
  refine (callsIn_wide.2 (head_any W.heap.size s _ (Wire.Rd.new s W) hs (by have := HSZ.out; omega) (HE.out.below hba))).mono ?_
  rintro ev W2 ⟨v, n, rfl, hok, hg⟩
  have hb2 : Below W.heap.size W W2 := hba.trans ⟨hg.os, hg.tape, hg.output, hg.size, fun k hk => hg.block k (by simp; omega) (fun e => by injection e with e; omega)⟩
  have HE2 := Lib.hid (HE.out.below hb2)
  have HJ2 := Lib.hid (HH0.out W2 hb2)
  have HHI := Lib.hid (show W.heap.size + 1 ≤ W2.heap.size by have := hg.size; simp at this; omega)
  have HAT : Hid (At s W.heap.size v 0 n (hdW s) W2) := by
    refine Lib.hid ⟨HE2.out, ?_⟩
    by_cases h : hdW s = 0
    · obtain ⟨h1, h2, h3⟩ := hok h
      have hb := hd_back h
      have he : okL s = runE s (hdV s) (hdN s) (hdI s) := if_pos h
      have hw : btW s = runW s (hdV s) (hdN s) (hdI s) := if_pos h
      refine Or.inl ⟨hdI s, h, h1, by omega, by rw [h2, he, Nat.zero_add], by rw [h2, List.drop_zero, he], by rw [h2, hw], h3, hb.2.2.2.2.2.2⟩
    · exact Or.inr ⟨h, (if_neg h : btW s = hdW s).symm, by unfold okL; rw [if_neg h]; rfl⟩
  clear hba hok hg hb2 HE2 HE HH0 hcb
  generalize hdW s = x0 at HAT ⊢
  generalize hhi : W2.heap.size = hi at HJ2 HHI
  have HHW := Lib.hid (show hi ≤ W2.heap.size by omega)
  clear hhi
  gi_wp2
  gi_loopw [5, 6] (fun nn xx wr => ∃ i m x : Nat, nn = .int .u64 (m : Int) ∧ xx = .int .i64 (x : Int) ∧ Hid (At s W.heap.size v i m x wr) ∧ Hid (J hi i wr) ∧ Hid (hi ≤ wr.heap.size)) (fun nn _ _ => (intOf nn).toNat)
  case atStart => exact ⟨0, n, x0, rfl, rfl, HAT, HJ2, HHW⟩
  case round =>
    clear HAT HJ2 HHW
    obtain ⟨i, m, x, rfl, rfl, HAT, HJ2, HHW⟩ := hrel
    rcases HAT.out.st with ⟨p, rfl, rfl, hm, hl, hd, hw, hr, hp⟩ | ⟨hx, hxw, hi'⟩
    · have HR := Lib.hid hr
      have HP := Lib.hid hp
      have HL := Lib.hid hl
      have HD := Lib.hid hd
      have HWW := Lib.hid hw
      have HM := Lib.hid hm
      have HEE := Lib.hid HAT.out.env
      clear HAT hr hp hl hd hw hm
      cases m with
      | zero =>
        have hend := end_any W.heap.size s p 0 wr HR.out HP.out hs
        have hwz : endE s p 0 = btW s := HWW.out
        rw [hwz] at hend
        have HEND := Lib.hid hend
        have HIL := Lib.hid (show i = (okL s).length from HL.out)
        clear hend hwz
        by_cases hb : btW s = 0
        · rw [hb] at HEND
          have HT := Lib.hid (show times s = i from (if_pos hb).trans HIL.out.symm)
          clear hb
          gi_wp2_with (refine ⟨trivial, rfl, ?_⟩; gi_at_call 64; refine (callsIn_wide.2 HEND.out).mono ?_; rintro ev w' ⟨rfl, nq, rfl⟩)
          go_end0
          exact ⟨⟨_, rfl⟩, hi, by have := HHI.out; omega, HHW.out, .inl (by rw [HT.out]; exact (HJ.out hi i (by have := HHI.out; omega)).below HJ2.out (below_dn _ _ _))⟩
        · have ht : times s = (okL s).length + 1 := if_neg hb
          have HYY := Lib.hid (fun nq => HY.out hi i #[.agg #[.int .u8 0, .int .u8 0, .slice none 0 0, .slice none 0 0], .int .i64 (btW s : Int)] wr (wr.drewN nq) (by have := HHI.out; omega) HHW.out (by have := HIL.out; omega) HJ2.out (grw_below (below_dn _ _ _)) ⟨⟨none, 0, none, 0, ev0⟩, btW s, rfl, Or.inr ⟨HIL.out, rfl, hb, rfl⟩⟩)
          have HT := Lib.hid (show times s = i + 1 by have := HIL.out; omega)
          obtain ⟨q1, q2, q3, q4, q5⟩ := nat_ne hb
          clear ht hb
          generalize btW s = bw at HYY HEND q1 q2 q3 q4 q5
          gi_wp2_with (refine ⟨trivial, rfl, ?_⟩; gi_at_call 64; refine (callsIn_wide.2 HEND.out).mono ?_; rintro ev w' ⟨rfl, nq, rfl⟩; obtain ⟨fn, tmps, assign, body, hy, hR⟩ := HYY.out nq)
          refine ⟨rfl, hR.mono ?_⟩
          rintro ev W3 (⟨rfl, hj, hk⟩ | ⟨rfl, hjx, hk⟩)
          · gi_wp2
            go_end0
            exact ⟨⟨_, rfl⟩, hi, by have := HHI.out; omega, by have h1 : wr.heap.size ≤ W3.heap.size := hk.size; have := HHW.out; omega, .inl (by rw [HT.out]; exact hj)⟩
          · gi_wp2
            go_end0
            exact ⟨⟨_, rfl⟩, hi, by have := HHI.out; omega, by have h1 : wr.heap.size ≤ W3.heap.size := hk.size; have := HHW.out; omega, .inr hjx⟩
      | succ k =>
        have hrun : runE s (hdV s) (k + 1) p = if getW s p 0 (hdV s) = 0 then getE s p 0 (hdV s) :: runE s (hdV s) k (getI s p 0 (hdV s)) else [] := rfl
        have hruw : runW s (hdV s) (k + 1) p = if getW s p 0 (hdV s) = 0 then runW s (hdV s) k (getI s p 0 (hdV s)) else getW s p 0 (hdV s) := rfl
        rw [hrun] at HL HD
        rw [hruw] at HWW
        clear hrun hruw
        have hbx := (Below.refl wr.heap.size wr).alloc (Nat.le_refl _) (.cells #[.int .u8 0, .int .u8 0, .slice none 0 0, .slice none 0 0] 39)
        have HBX := Lib.hid (show Four _ wr.heap.size _ _ _ _ from box4 wr (.int .u8 0) (.int .u8 0) (.slice none 0 0) (.slice none 0 0) 39)
        have HFX := Lib.hid (free_new wr #[.int .u8 0, .int .u8 0, .slice none 0 0, .slice none 0 0] 39)
        have HBB := Lib.hid hbx
        have HVL := Lib.hid (show hdV s < 256 by have h := Wire.fxV_lt s 0 0 1; simpa [hdV] using h)
        have hget := Get_any W.heap.size s p 0 (hdV s) _ ((hbx.block W.heap.size (Wire.row_lt HR.out)).trans HR.out) HP.out hs HVL.out (by have := HSZ.out; omega) (HEE.out.below hbx)
        have HGET := Lib.hid hget
        have zk : IntKind.u64.wrap (k : Int) = (k : Int) := by (rw [IntKind.wrap_u64]; have := HM.out; omega)
        have HZK := Lib.hid zk
        have z1 : (0 : Int) < (k : Int) + 1 := by omega
        clear hbx hget zk
        gi_wp2_with fail
        refine ⟨trivial, rfl, ?_⟩
        refine (callsIn_wide.2 HGET.out).mono ?_
        rintro ev W3 ⟨A, ca, C, cc, rfl, hn, hm, hst⟩
        have hrb : W.heap.size + 1 ≤ wr.heap.size := by have := HHI.out; have := HHW.out; omega
        have ht := touch_step hst
        replace HBX := Lib.hid (HBX.out.touch ht (by omega))
        replace HFX := Lib.hid (HFX.out.touch ht (by omega))
        have HST := Lib.hid hst.1
        have HGI := Lib.hid (getI_le s p 0 (hdV s) HP.out)
        have hsz : (wr.alloc (.cells #[.int .u8 0, .int .u8 0, .slice none 0 0, .slice none 0 0] 39)).heap.size = wr.heap.size + 1 := by simp
        rw [hsz] at hn hm
        have HHB := Lib.hid (show wr.heap.size < W3.heap.size by have := hst.2.size; rw [hsz] at this; omega)
        have HGB := Lib.hid (get_back (s := s) (i := p) (v := hdV s))
        generalize he : getE s p 0 (hdV s) = e at hn hm HL HD HGB ⊢
        generalize getW s p 0 (hdV s) = g at HL HD HWW HGB ⊢
        generalize getI s p 0 (hdV s) = p2 at HL HD HWW HGI HGB HST
        generalize getF s p 0 (hdV s) = g2 at HGB HST
        clear he
        have tt := Upcast.touch4 W3 wr.heap.size (.int .u8 e.v) (.int .u8 e.k) (.slice A e.ns.length ca) (.slice C e.ts.length cc)
        have hg4 : Grw (fun r => W.heap.size ≤ r ∧ r < hi) wr ((((W3.setCell ⟨wr.heap.size, 0, none⟩ (.int .u8 e.v)).setCell ⟨wr.heap.size, 1, none⟩ (.int .u8 e.k)).setCell ⟨wr.heap.size, 2, none⟩ (.slice A e.ns.length ca)).setCell ⟨wr.heap.size, 3, none⟩ (.slice C e.ts.length cc)) := by
          refine grw_new ((grw_below HBB.out).trans ((grw_touch ht (fun r h1 h2 => Or.inl ⟨by omega, by have := HHI.out; omega⟩)).trans (grw_touch tt (fun r h1 h2 => Or.inr (by omega)))))
        have HG4 := Lib.hid hg4
        have HR4 := Lib.hid (show Rd ((((W3.setCell ⟨wr.heap.size, 0, none⟩ (.int .u8 e.v)).setCell ⟨wr.heap.size, 1, none⟩ (.int .u8 e.k)).setCell ⟨wr.heap.size, 2, none⟩ (.slice A e.ns.length ca)).setCell ⟨wr.heap.size, 3, none⟩ (.slice C e.ts.length cc)) W.heap.size s p2 g2 from (tt.block W.heap.size (Wire.row_lt HST.out) (Or.inl (by omega))).trans HST.out)
        have HE4 := Lib.hid (env_low HEE.out (hg4.below (Below.refl 2 wr) (by have := HSZ.out; omega) (fun r h => by have := HSZ.out; omega)) (Nat.le_refl _))
        have HJ4 := Lib.hid ((HJ.out hi i (by have := HHI.out; omega)) wr _ HJ2.out hg4)
        have HHW4 := Lib.hid (Nat.le_trans HHW.out hg4.size)
        have HN4 := Lib.hid (Upcast.ownE_set4 (x0 := .int .u8 e.v) (x1 := .int .u8 e.k) (x2 := .slice A e.ns.length ca) (x3 := .slice C e.ts.length cc) hn (Nat.lt_succ_self _))
        have HM4 := Lib.hid (Upcast.ownE_set4 (x0 := .int .u8 e.v) (x1 := .int .u8 e.k) (x2 := .slice A e.ns.length ca) (x3 := .slice C e.ts.length cc) hm (Nat.lt_succ_self _))
        have HX4 := Lib.hid (HBX.out.set4 (.int .u8 e.v) (.int .u8 e.k) (.slice A e.ns.length ca) (.slice C e.ts.length cc))
        clear hn hm hst ht tt hg4 hsz hrb HBB HST HEE HR HP
        simp only [evV]
        obtain ⟨p0, p1, p2', p3⟩ := HBX.out
        have f0 := HFX.out.2 0
        have f1 := HFX.out.2 1
        have f2 := HFX.out.2 2
        have f3 := HFX.out.2 3
        obtain ⟨d0, d1, d2, d3⟩ := HX4.out
        by_cases hG : g = 0
        · subst hG
          obtain ⟨g1, g2', g3, g4, g5, g6⟩ := HGB.out rfl
          subst g5
          rw [if_pos rfl] at HL HD HWW
          obtain ⟨c1, c2, c3⟩ := drop_cons HD.out
          have HLI := Lib.hid (show i + 1 + (runE s (hdV s) k p2).length = (okL s).length by have := HL.out; rw [List.length_cons] at this; omega)
          have HDI := Lib.hid c3
          have hty : i < times s := by unfold times; split <;> omega
          obtain ⟨fn, tmps, assign, body, hy, hR⟩ := HY.out hi i #[.agg #[.int .u8 e.v, .int .u8 e.k, .slice A e.ns.length ca, .slice C e.ts.length cc], .int .i64 0] wr ((((W3.setCell ⟨wr.heap.size, 0, none⟩ (.int .u8 e.v)).setCell ⟨wr.heap.size, 1, none⟩ (.int .u8 e.k)).setCell ⟨wr.heap.size, 2, none⟩ (.slice A e.ns.length ca)).setCell ⟨wr.heap.size, 3, none⟩ (.slice C e.ts.length cc)) (by have := HHI.out; omega) HHW.out hty HJ2.out HG4.out ⟨⟨A, ca, C, cc, e⟩, 0, rfl, Or.inl ⟨c1, rfl, c2.symm, HN4.out.less (Nat.le_succ _), HM4.out.less (Nat.le_succ _)⟩⟩
          clear g1 g2' g3 g4 g6 c1 c2 c3 hty HL HD HGB HGET
          gi_wp2
          refine ⟨rfl, hR.mono ?_⟩
          clear p0 p1 p2' p3 f0 f1 f2 f3 d0 d1 d2 d3
          rintro ev W5 (⟨rfl, hj, hk⟩ | ⟨rfl, hjx, hk⟩)
          · have HJ5 := Lib.hid hj
            have hE5 := env_low HE4.out (n := 2) ⟨hk.os, hk.tape, hk.output, hk.size, fun q hq => hk.same q (by have := HHI.out; have := HSZ.out; omega) (Or.inl (by omega))⟩ (Nat.le_refl _)
            have HA5 := Lib.hid (show At s W.heap.size (hdV s) (i + 1) k 0 W5 from ⟨hE5, Or.inl ⟨p2, rfl, rfl, by have := HM.out; omega, HLI.out, HDI.out, HWW.out, (hk.same W.heap.size (by have := HHI.out; omega) (Or.inr (Nat.le_refl _))).trans HR4.out, HGI.out⟩⟩)
            have HH5 := Lib.hid (Nat.le_trans HHW4.out hk.size)
            have zk := HZK.out
            clear hj hk hE5 HR4 HE4 HX4
            gi_wp2
            exact ⟨⟨i + 1, k, 0, by first | rfl | rw [HZK.out], rfl, HA5, HJ5, HH5⟩, by first | (rw [HZK.out]; simp [intOf]) | (simp [intOf] <;> omega)⟩
          · gi_wp2
            refine bodyPost_ret (results_none rfl _ _ _) rfl ?_
            exact ⟨⟨_, rfl⟩, hi, by have := HHI.out; omega, Nat.le_trans HHW4.out hk.size, .inr hjx⟩
        · rw [if_neg hG] at HL HD HWW
          have HA5 := Lib.hid (show At s W.heap.size (hdV s) i k g _ from ⟨HE4.out, Or.inr ⟨hG, HWW.out, by have := HL.out; simpa using this⟩⟩)
          obtain ⟨q1, q2, q3, q4, q5⟩ := nat_ne hG
          have zk := HZK.out
          clear hG HGB HGET HL HD HE4 HX4 HR4
          gi_wp2
          refine ⟨fun _ h => (by cases h), ?_⟩
          gi_wp2
          exact ⟨⟨i, k, g, by first | rfl | rw [HZK.out], rfl, HA5, HJ4, HHW4⟩, by first | (rw [HZK.out]; simp [intOf]) | (simp [intOf] <;> omega)⟩
    · have hbw : ¬ btW s = 0 := fun h => hx (hxw.trans h)
      have ht : times s = (okL s).length + 1 := if_neg hbw
      obtain ⟨fn, tmps, assign, body, hy, hR⟩ := HY.out hi i #[.agg #[.int .u8 0, .int .u8 0, .slice none 0 0, .slice none 0 0], .int .i64 (x : Int)] wr wr (by have := HHI.out; omega) HHW.out (by omega) HJ2.out (Grw.refl _ _) ⟨⟨none, 0, none, 0, ev0⟩, x, rfl, Or.inr ⟨hi', hxw, hx, rfl⟩⟩
      have HT := Lib.hid (show times s = i + 1 by omega)
      have HWS := HHW
      obtain ⟨q1, q2, q3, q4, q5⟩ := nat_ne hx
      clear hbw ht hx hxw hi' HAT
      by_cases hm : m = 0
      · subst hm
        gi_wp2
        refine ⟨rfl, hR.mono ?_⟩
        rintro ev W3 (⟨rfl, hj, hk⟩ | ⟨rfl, hjx, hk⟩)
        · gi_wp2
          go_end0
          exact ⟨⟨_, rfl⟩, hi, by have := HHI.out; omega, by have := hk.size; have := HWS.out; omega, .inl (by rw [HT.out]; exact hj)⟩
        · gi_wp2
          go_end0
          exact ⟨⟨_, rfl⟩, hi, by have := HHI.out; omega, by have := hk.size; have := HWS.out; omega, .inr hjx⟩
      · have z1 : decide ((0 : Int) < (m : Int)) = true := decide_eq_true (by omega)
        have z2 : decide (0 < m) = true := decide_eq_true (by omega)
        have z3 : (0 : Int) < (m : Int) := by omega
        have z4 : 0 < m := by omega
        clear hm
        gi_wp2
        refine ⟨rfl, hR.mono ?_⟩
        rintro ev W3 (⟨rfl, hj, hk⟩ | ⟨rfl, hjx, hk⟩)
        · gi_wp2
          go_end0
          exact ⟨⟨_, rfl⟩, hi, by have := HHI.out; omega, by have := hk.size; have := HWS.out; omega, .inl (by rw [HT.out]; exact hj)⟩
        · gi_wp2
          go_end0
          exact ⟨⟨_, rfl⟩, hi, by have := HHI.out; omega, by have := hk.size; have := HWS.out; omega, .inr hjx⟩
end Go.Proofs.YtiibeemjkdipnaaGreatDoor.Batch
