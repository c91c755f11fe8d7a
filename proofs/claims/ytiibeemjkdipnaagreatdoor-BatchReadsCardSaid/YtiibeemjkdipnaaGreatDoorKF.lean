import Derived.Test.YtiibeemjkdipnaaGreatDoorKD
import Derived.Test.YtiibeemjkdipnaaGreatDoorKC
/-
  The walk of the statement BatchReads.
-/
namespace Go.Proofs.YtiibeemjkdipnaaGreatDoor.Batch
open Go Go.RowKit
open Go.Proofs.YtiibeemjkdipnaaGreatDoor.Schema
open Go.Proofs.YtiibeemjkdipnaaGreatDoor.Upcast

/-- the events of a list that may be written over, from the i-th one on -/
structure MsI (B : Nat) (X : World) (A : Option Addr) (c : Nat) (ys : List Lx) (i : Nat) (wr : World) : Prop where
  lo : Below X.heap.size X wr
  own : OwnR wr B (.slice A ys.length c) ys
  at_ : ∀ (j : Nat) (hj : j < ys.length), i ≤ j → EvAt wr ys[j].A ys[j].ca ys[j].C ys[j].cc ys[j].e ∧ Spot wr X.heap.size 2 ys[j].A ys[j].e.ns.length ∧ Spot wr X.heap.size 9 ys[j].C ys[j].e.ts.length
theorem MsI.below {B : Nat} {X : World} {A : Option Addr} {c : Nat} {ys : List Lx} {i : Nat} {wr w' : World} (h : MsI B X A c ys i wr) (hb : Below wr.heap.size wr w') : MsI B X A c ys i w' :=
  ⟨below_step h.lo hb, h.own.below hb, fun j hj hij => ⟨(h.at_ j hj hij).1.below hb, (h.at_ j hj hij).2.1.low hb, (h.at_ j hj hij).2.2.low hb⟩⟩
theorem ownR_sp {w w' : World} {base p q : Nat} {v : Value} {xs : List Lx} {A' C' : Option Addr} (h : OwnR w base v xs) (s : Sp A' p C' q w w') (t1 : ∀ k, hit A' p k → BoxT w 2 k) (t2 : ∀ k, hit C' q k → BoxT w 9 k) : OwnR w' base v xs := by
  obtain ⟨h1, h2⟩ := h
  refine ⟨h1, ?_⟩
  rcases h2 with h2 | ⟨g, cap, cur, e, hbg, hh, r⟩
  · exact Or.inl h2
  · exact Or.inr ⟨g, cap, cur, e, hbg, (s.block g (row_lt hh) (fun hk => absurd (boxT_one (t1 g hk) ⟨cur, _, hh⟩) (by decide)) (fun hk => absurd (boxT_one (t2 g hk) ⟨cur, _, hh⟩) (by decide))).trans hh, r⟩
theorem MsI.next {B : Nat} {X : World} {A : Option Addr} {c : Nat} {ys : List Lx} {i : Nat} {wr w' : World} (h : MsI B X A c ys i wr) (ha : Apart ys) (hi : i < ys.length) (s : Sp ys[i].A ys[i].e.ns.length ys[i].C ys[i].e.ts.length wr w') : MsI B X A c ys (i + 1) w' := by
  obtain ⟨e1, s1, s2⟩ := h.at_ i hi (Nat.le_refl _)
  have hlo := s.low h.lo.size s1.ge s2.ge
  refine ⟨h.lo.trans hlo, ownR_sp h.own s (fun k hk => (s1.box k hk).1) (fun k hk => (s2.box k hk).1), fun j hj hij => ?_⟩
  obtain ⟨e3, s3, s4⟩ := h.at_ j hj (by omega)
  have hp := ha i j hi hj (by omega)
  refine evAt_sp e3 s3 s4 s (fun k hk => (s1.box k hk).1) (fun k hk => (s2.box k hk).1) (fun k hk hk2 => ?_) (fun k hk hk2 => ?_)
  · exact hp.1 (fun h0 => hk2.1 (by rw [h0]; rfl)) (fun h0 => hk.1 (by rw [h0]; rfl)) (hk2.2.trans hk.2.symm)
  · exact hp.2 (fun h0 => hk2.1 (by rw [h0]; rfl)) (fun h0 => hk.1 (by rw [h0]; rfl)) (hk2.2.trans hk.2.symm)
theorem MsI.row {B : Nat} {X : World} {A : Option Addr} {c : Nat} {ys : List Lx} {i : Nat} {wr : World} (h : MsI B X A c ys i wr) : VAt wr A (cellsX ys) := by
  obtain ⟨A', c', e, hv, -, -, -⟩ := h.own.vat
  injection e with e1 _ _
  subst e1
  exact hv
theorem row_at {w : World} {A : Option Addr} {xs : List Lx} (h : VAt w A (cellsX xs)) (k : Nat) (hk : k < xs.length) : ∃ b o, A = some ⟨b, o, none⟩ ∧ b < w.heap.size ∧
    w.cell? ⟨b, o + k * 4, none⟩ = some (.int .u8 xs[k].e.v) ∧ w.cell? ⟨b, o + k * 4 + 1, none⟩ = some (.int .u8 xs[k].e.k) ∧
    w.cell? ⟨b, o + k * 4 + 2, none⟩ = some (.slice xs[k].A xs[k].e.ns.length xs[k].ca) ∧ w.cell? ⟨b, o + k * 4 + 3, none⟩ = some (.slice xs[k].C xs[k].e.ts.length xs[k].cc) := by
  obtain ⟨b, o, hA, c0⟩ := h (k * 4) (.int .u8 xs[k].e.v) (by have := cellsX_at xs k 0 hk (by omega); simpa [lxC] using this)
  have get : ∀ j u, j < 4 → (lxC xs[k])[j]? = some u → w.cell? ⟨b, o + (k * 4 + j), none⟩ = some u := fun j u hj hu => by
    obtain ⟨b', o', hA', c⟩ := h (k * 4 + j) u (by rw [cellsX_at xs k j hk hj]; exact hu)
    rw [hA] at hA'
    injection hA' with e; injection e with e1 e2; subst e1; subst e2
    exact c
  refine ⟨b, o, hA, cell_lt c0, c0, ?_, ?_, ?_⟩
  · rw [Nat.add_assoc]; exact get 1 _ (by omega) rfl
  · rw [Nat.add_assoc]; exact get 2 _ (by omega) rfl
  · rw [Nat.add_assoc]; exact get 3 _ (by omega) rfl

/-! ### the document's Newest -/
theorem newest_doc {s : ByteArray} (h : btW s = 0) : ∃ l, saidX (fun e => toX e 3) (btL s) = .ok l ∧ newT s = encT l ∧ newN s = refN l ∧ l.length ≤ 40 := by
  have hb := dec_back h
  have hm : mayL (btL s) = true := by rw [hb.2.2]; exact hb.1
  obtain ⟨q, out, hq⟩ := lw_made (v := 3) (mayL_at hm) (by omega) (by omega)
  have ho := lw_out hq
  have hqe : q = 3 := by have := ho.vw; have := ho.w3; omega
  cases hs : saidX (fun e => toX e 3) (btL s) with
  | error x => have := lw_miss hq (by omega) hs; omega
  | ok l =>
    have hh := say_hit hm hq (Nat.le_refl _) (by omega) hs
    refine ⟨l, rfl, ?_, ?_, ?_⟩
    · rw [← hh.1]; exact if_pos h
    · rw [← hh.2]; exact if_pos h
    · rw [(saidX_at hs).1]; exact (btL_few s).1
set_option maxRecDepth 100000 in
set_option maxHeartbeats 2000000 in
theorem rNewest_any (s : ByteArray) (hs : s.size ≤ 1000000000000) (w : World) :
    Calls Tryz.prog 17 #[.string s] w fun z w' => z = .returned (.tuple #[.string (newT s), .int .i64 (newN s : Int)]) ∧ Below w.heap.size w w' := by
  have HC := Lib.hid (rDecL_any s hs w)
  go_enter Tryz.func17, Tryz.ntmps17
  go_wp2_with fail
  refine HC.out.mono ?_
  rintro z W1 ⟨ys, A, c, rfl, hy, hr, hb⟩
  have HB := Lib.hid hb
  have HR := Lib.hid hr
  have HY := Lib.hid hy
  have hf := btL_few s
  rw [← hy, List.length_map] at hf
  have HF := Lib.hid hf
  clear hb hr hf hy
  by_cases h : btW s = 0
  · obtain ⟨l, hl, ht, hnn, hl40⟩ := newest_doc h
    have hc := rSaid_any A c ys 3 (by omega) (by have := HF.out.1; omega) W1 HR.out
    rw [HY.out, hl, show ((3 : Nat) : Int) = 3 from rfl] at hc
    have HC2 := Lib.hid hc
    have HT := Lib.hid ht
    have HN := Lib.hid hnn
    have HL := Lib.hid hl40
    rw [h]
    clear h hl ht hnn hl40 hc
    go_wp2_with fail
    refine HC2.out.mono ?_
    rintro z W2 ⟨zs, A2, c2, rfl, hz, hr2, hb⟩
    have HB2 := Lib.hid (below_step HB.out hb)
    have hc := rEncL_any A2 c2 zs (by have h1 := HL.out; rw [← hz, List.length_map] at h1; omega) W2 hr2
    rw [hz] at hc
    have HC3 := Lib.hid hc
    clear hc hz hr2 hb
    go_wp2_with fail
    refine HC3.out.mono ?_
    rintro z W3 ⟨rfl, hb⟩
    have HB3 := Lib.hid (below_step HB2.out hb)
    clear hb
    go_wp2_with fail
    go_ret2
    exact ⟨by rw [HT.out, HN.out]; rfl, HB3.out⟩
  · have HT := Lib.hid (show newT s = ⟨#[]⟩ from if_neg h)
    have HN := Lib.hid (show newN s = btW s from if_neg h)
    obtain ⟨q1, q2, q3, q4, q5⟩ := nat_ne h
    clear h
    go_wp2_with fail
    go_ret2
    exact ⟨by rw [HT.out, HN.out]; rfl, HB.out⟩

set_option maxRecDepth 100000 in
set_option maxHeartbeats 4000000 in
theorem reads_any (s : ByteArray) (w : World) (hs : s.size ≤ maxLen) (E : Env w) :
    Calls Tryz.prog 4 #[.string s] w fun z w' => z = .returned (.bool true) ∧ Below w.heap.size w w' := by
  have HE := Lib.hid E
  clear E
  go_enter Tryz.func4, Tryz.ntmps4
  by_cases hl : 5000 < s.size
  · have z1 : (5000 : Int) < (s.size : Int) := by omega
    have z2 : decide ((5000 : Int) < (s.size : Int)) = true := decide_eq_true z1
    have HW := Lib.hid (works_any w HE.out)
    clear hl hs
    go_wp2_with fail
    refine HW.out.mono ?_
    rintro z W1 ⟨rfl, hb⟩
    have HB := Lib.hid hb
    clear hb HW
    go_wp2_with fail
    go_ret
    exact ⟨rfl, HB.out⟩
  have HS := Lib.hid (show s.size ≤ 1000000000000 by omega)
  have z1 : ¬ (5000 : Int) < (s.size : Int) := by omega
  have z2 : decide ((5000 : Int) < (s.size : Int)) = false := decide_eq_false z1
  have HW := Lib.hid (Newest_any s HS.out w HE.out)
  clear hl hs
  go_wp2_with fail
  refine HW.out.mono ?_
  rintro z W1 ⟨rfl, hb⟩
  replace HE := Lib.hid (HE.out.below hb)
  have HB := Lib.hid hb
  clear hb HW z1 z2
  have HW := Lib.hid (rNewest_any s HS.out W1)
  go_wp2_with fail
  refine HW.out.mono ?_
  rintro z W2 ⟨rfl, hb⟩
  replace HE := Lib.hid (HE.out.below hb)
  replace HB := Lib.hid (below_step HB.out hb)
  clear hb HW
  generalize newT s = t1
  generalize newN s = e1
  have zs : (t1.toList != t1.toList) = false := by simp
  go_wp2_with fail
  clear zs
  go_loopw [7] (fun t wr => ∃ r : Nat, t = .int .i64 r ∧ r ≤ 2 ∧ Hid (Env wr) ∧ Hid (Below w.heap.size w wr)) (fun t _ => 2 - (intOf t).toNat)
  case atStart => exact ⟨0, rfl, by omega, HE, HB⟩
  case round =>
    clear HE HB
    obtain ⟨r, rfl, hr, HE, HB⟩ := hrel
    by_cases hlt : r < 2
    case neg =>
      have z1 : ¬ (r : Int) < 2 := by omega
      have HW := Lib.hid (works_any wr HE.out)
      clear hlt hr
      go_wp2_with fail
      refine HW.out.mono ?_
      rintro z W1 ⟨rfl, hb⟩
      replace HB := Lib.hid (below_step HB.out hb)
      clear hb HW
      go_wp2_with fail
      go_ret
      exact ⟨rfl, HB.out⟩
    case pos =>
      have z1 : (r : Int) < 2 := by omega
      have HLT := Lib.hid hlt
      have HW := Lib.hid (Decode_any s HS.out wr HE.out)
      clear hlt hr
      go_wp2_with fail
      refine HW.out.mono ?_
      rintro z W3 ⟨ys, A, c, rfl, hy, ho, hl, hap, hb⟩
      have HY := Lib.hid hy
      have hf := btL_few s
      rw [← hy, List.length_map] at hf
      have HF := Lib.hid hf.1
      have HAP := Lib.hid hap
      have HSM := Lib.hid (fun (j : Nat) (hj : j < ys.length) => (show ys[j].e.ns.length ≤ 1000000 ∧ ys[j].e.ts.length ≤ 1000000 from by
        have h := Codec.may_lens (hl _ (List.getElem_mem hj)).may
        omega))
      have HR := Lib.hid (row_of ho hl)
      have HM := Lib.hid (show MsI wr.heap.size wr A c ys 0 W3 from ⟨hb, ho, fun j hj _ => ⟨(hl _ (List.getElem_mem hj)).lx, spot_of (hl _ (List.getElem_mem hj)).ns (nums_len _), spot_of (hl _ (List.getElem_mem hj)).ts (texts_len _)⟩⟩)
      clear hb hy ho hl hap hf HW z1
      have HBG := Lib.hid (fun y hy => (show y.e.ns.length ≤ 140737488355328 ∧ y.e.ts.length ≤ 140737488355328 from by
        obtain ⟨j, hj, rfl⟩ := List.getElem_of_mem hy
        have h := HSM.out j hj
        omega) : Big ys)
      have HW := Lib.hid (rDecL_any s HS.out W3)
      go_wp2_with fail
      refine HW.out.mono ?_
      rintro z W4 ⟨zs, A2, c2, rfl, hz, hr2, hb⟩
      replace HM := Lib.hid (HM.out.below hb)
      replace HR := Lib.hid (HR.out.below hb)
      have HSL := Lib.hid (show sameL ys zs = true from sameL_iff.2 (by rw [HY.out, hz]))
      have hc := lsame_any A c ys A2 c2 zs (by have := HF.out; omega) HBG.out W4 HR.out hr2
      rw [HSL.out] at hc
      clear hb hz hr2 HW
      have HW := Lib.hid hc
      clear hc
      generalize btW s = e2
      go_wp2_with fail
      refine HW.out.mono ?_
      rintro z W5 ⟨rfl, hb⟩
      replace HM := Lib.hid (HM.out.below hb)
      clear hb HW HR HSL
      go_wp2_with fail
      go_loopw [12] (fun t wx => ∃ i : Nat, t = .int .i64 i ∧ i ≤ ys.length ∧ Hid (MsI wr.heap.size wr A c ys i wx)) (fun t _ => ys.length - (intOf t).toNat)
      case atStart => exact ⟨0, rfl, Nat.zero_le _, HM⟩
      case round =>
        clear HM
        obtain ⟨i, rfl, hi, HM⟩ := hrel
        by_cases hlt : i < ys.length
        case pos =>
          have z0 : (0 : Int) ≤ (i : Int) := by omega
          have z1 : (i : Int) < (ys.length : Int) := by omega
          obtain ⟨b, o, rfl, hbl, c0, c1, c2, c3⟩ := row_at HM.out.row i hlt
          obtain ⟨hev, t1, t2⟩ := HM.out.at_ i hlt (Nat.le_refl _)
          have HNX := Lib.hid (fun w' s => HM.out.next (w' := w') HAP.out hlt s)
          have hc := spoil_sp ys[i].A ys[i].ca ys[i].C ys[i].cc ys[i].e _ _ t1 t2 (HSM.out i hlt).1 (HSM.out i hlt).2
          simp only [evV] at hc
          have HC := Lib.hid hc
          have HLI := Lib.hid hlt
          have zk : IntKind.i64.wrap ((i : Int) + 1) = (i : Int) + 1 := by (rw [IntKind.wrap_i64]; have := HF.out; omega)
          clear hc hev t1 t2 hbl
          generalize ys[i] = x at HC HNX c0 c1 c2 c3
          go_wp2_with fail
          refine HC.out.mono ?_
          rintro z W6 ⟨rfl, hsp⟩
          have HM2 := Lib.hid (HNX.out _ hsp)
          clear hsp c0 c1 c2 c3 z0 z1 HNX HC
          go_wp2_with fail
          go_roundw
          case rel => exact ⟨i + 1, by go_num, by have := HLI.out; omega, HM2⟩
          case measure => simp [intOf] <;> (have := HLI.out; omega)
        case neg =>
          have z1 : ¬ (i : Int) < (ys.length : Int) := by omega
          have HE2 := Lib.hid (HE.out.below HM.out.lo)
          have HB2 := Lib.hid (below_step HB.out HM.out.lo)
          have zk : IntKind.i64.wrap ((r : Int) + 1) = (r : Int) + 1 := by (rw [IntKind.wrap_i64]; have := HLT.out; omega)
          clear hlt hi HM
          go_wp2_with fail
          go_roundw
          case rel => exact ⟨r + 1, by go_num, by have := HLT.out; omega, HE2, HB2⟩
          case measure => simp [intOf] <;> (have := HLT.out; omega)
end Go.Proofs.YtiibeemjkdipnaaGreatDoor.Batch
