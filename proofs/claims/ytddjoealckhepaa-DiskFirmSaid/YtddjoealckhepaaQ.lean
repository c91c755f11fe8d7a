import Derived.Test.YtddjoealckhepaaP
/-
  The power comes back: Crash.
-/
namespace Go.Proofs.Ytddjoealckhepaa.Disk
open Go Go.RowKit Go.Maps Go.Shelf Go.Proofs

/-- numbers that lie in a slice, not in block a -/
def KAt (w : World) (a : Nat) (K : Option Addr) (ks : List Int) : Prop := ∀ j (h : j < ks.length), ∃ b o, K = some ⟨b, o, none⟩ ∧ b < w.heap.size ∧ b ≠ a ∧ w.cell? ⟨b, o + j, none⟩ = some (.int .i64 ks[j])
theorem KAt.tail {w : World} {a b o : Nat} {k : Int} {ks : List Int} (h : KAt w a (some ⟨b, o, none⟩) (k :: ks)) : KAt w a (some ⟨b, o + 1, none⟩) ks := fun j hj => by
  obtain ⟨b', o', e, h1, h2, h3⟩ := h (j + 1) (by simpa using hj)
  injection e with e; injection e with e1 e2; subst e1; subst e2
  exact ⟨b, o + 1, rfl, h1, h2, by rw [Nat.add_assoc, Nat.add_comm 1 j]; simpa using h3⟩
theorem KAt.tn {w w' : World} {a b : Nat} {d : Dk} {K : Option Addr} {ks : List Int} (h : KAt w a K ks) (hd : DkAt w a b d) (ht : Tn a b w w') : KAt w' a K ks := fun j hj => by
  obtain ⟨kb, ko, e, h1, h2, h3⟩ := h j hj
  refine ⟨kb, ko, e, Nat.lt_of_lt_of_le h1 ht.size, h2, (World.cell?_of_block (w := w) (ht.block kb h1 h2 ?_)).trans h3⟩
  obtain ⟨es, clock, hb, _⟩ := hd.mp
  intro e2; subst e2
  simp [World.cell?, hb] at h3
theorem KAt.below {w w' : World} {a : Nat} {K : Option Addr} {ks : List Int} (h : KAt w a K ks) (hb : Below w.heap.size w w') : KAt w' a K ks := fun j hj => by
  obtain ⟨kb, ko, e, h1, h2, h3⟩ := h j hj
  exact ⟨kb, ko, e, Nat.lt_of_lt_of_le h1 hb.size, h2, (hb.cell (p := ⟨kb, ko + j, none⟩) h1).trans h3⟩
theorem KAt.rest {w : World} {a b o c : Nat} {k : Int} {ks : List Int} (h : KAt w a (some ⟨b, o, none⟩) (k :: ks)) (hc : ks.length + 1 ≤ c) : KAt w a (if c = 1 then some ⟨b, o, none⟩ else some ⟨b, o + 1, none⟩) ks := by
  by_cases e : c = 1
  · have : ks = [] := List.eq_nil_of_length_eq_zero (by omega)
    subst this
    exact fun j hj => absurd hj (Nat.not_lt_zero _)
  · rw [if_neg e]; exact h.tail
theorem keep_tail (kb ko m c : Nat) (h : m + 1 ≤ c) (W : World) : (Instr.slice 52 (.slice (some ⟨kb, ko, none⟩) (m + 1) c) (some (.int .i64 1)) none none).run Try.prog W = .ok (.slice (if c = 1 then some ⟨kb, ko, none⟩ else some ⟨kb, ko + 1, none⟩) m (c - 1)) W := by
  have y0 : (1 : Int) ≤ ((m + 1 : Nat) : Int) := by omega
  have y1 : ((m + 1 : Nat) : Int) ≤ (c : Int) := by omega
  have y2 : (1 : Int) ≤ (m : Int) + 1 := by omega
  go_simp
def crashD (d : Dk) (ks : List Int) : Dk := { d with l := crashL d.l ks, gone := false, cut := false, left := 0 }
theorem crashAt_all (l : List (Nm × F)) (ks : List Int) : crashAt l ks l.length = crashL l ks := by unfold crashAt; rw [List.take_length, List.drop_length, List.append_nil]
theorem crashAt_none (l : List (Nm × F)) (ks : List Int) : crashAt l ks 0 = l := rfl

set_option maxRecDepth 100000 in
set_option maxHeartbeats 2000000 in
theorem crash_any (a b : Nat) (d : Dk) (K : Option Addr) (c : Nat) (ks : List Int) (hk : ks.length ≤ c) (hc : c ≤ maxLen) (w : World) (h : DkAt w a b d) (hK : KAt w a K ks) :
    Calls Try.prog 24 #[.pointer (some ⟨a, 0, none⟩), .slice K ks.length c] w fun z w' => z = .returned (.int .i64 0) ∧ DkAt w' a b (crashD d ks) ∧ Tn a b w w' := by
  have hmx : Try.prog.follows .mixedOrders = true := by kernel_rfl
  have HD := Lib.hid h
  have HN := Lib.hid (names_any a b d w h)
  have HK := Lib.hid hK
  have HC := Lib.hid hc
  have HKC := Lib.hid hk
  clear h hK hc hk
  go_enter Try.func24, Try.ntmps24
  go_wp2_with fail
  refine HN.out.mono ?_
  rintro z W ⟨v, rfl, h1, h2⟩
  obtain ⟨A, cap, rfl, hat⟩ := names_at (List.length_map ..).symm h1
  have HAT := Lib.hid hat
  have HW := Lib.hid h2
  have HDW := Lib.hid (HD.out.below h2)
  have HKW := Lib.hid (HK.out.below h2)
  have HL := Lib.hid HD.out.ok.len
  clear h1 h2 hat HN
  go_wp2_with fail
  go_loopw [1, 15] (fun s i wr => ∃ (k : Nat) (K1 : Option Addr) (c1 : Nat), k ≤ d.l.length ∧ i = .int .i64 (k : Int) ∧ s = .slice K1 (crashK (d.l.take k) ks).length c1 ∧ (crashK (d.l.take k) ks).length ≤ c1 ∧ c1 ≤ c ∧ KAt wr a K1 (crashK (d.l.take k) ks) ∧ DkAt wr a b { d with l := crashAt d.l ks k } ∧ Tn a b W wr) (fun _ i _ => d.l.length - (intOf i).toNat)
  case atStart => exact ⟨0, K, c, Nat.zero_le _, rfl, rfl, HKC.out, Nat.le_refl _, HKW.out, HDW.out, Tn.refl _ _ _⟩
  case round =>
    obtain ⟨k, K1, c1, hk, rfl, rfl, hkc, hc1, hKA, hDA, hT⟩ := hrel
    have HKA := Lib.hid hKA
    have HDA := Lib.hid hDA
    have HT := Lib.hid hT
    have HKC1 := Lib.hid hkc
    have HC1 := Lib.hid hc1
    clear hKA hDA hT HK HKW hkc hc1
    by_cases hlt : k < d.l.length
    · obtain ⟨nb, rfl, hb1, hb2, hc, -⟩ := HAT.out k (by simpa using hlt)
      have hnb : nb ≠ a ∧ nb ≠ b := by have := HD.out.lt; omega
      have cn := (World.cell?_of_block (w := W) (HT.out.block nb hb1 hnb.1 hnb.2)).trans hc
      have hg := crashAt_get HD.out.ok.up ks k hlt
      have hmn := HD.out.ok.nm _ (List.getElem_mem hlt)
      have hln : d.l[k].1.length ≤ maxLen := by simp only [mayN, Bool.and_eq_true, decide_eq_true_eq] at hmn; unfold maxLen; omega
      have HFO := Lib.hid (HD.out.ok.fs _ (List.getElem_mem hlt))
      have hl := (look_run HDA.out.mp d.l[k].1 hln).2
      obtain ⟨c0, c1', c2, c3, c4⟩ := HDA.out.cell
      have HE := Lib.hid (crashAt_step HD.out.ok.up ks k hlt)
      have HOK := Lib.hid (crashAt_ok HD.out.ok ks (k + 1))
      have HLT := Lib.hid hlt
      simp only [List.getElem_map] at cn
      rw [hg] at hl
      have HLN := Lib.hid hln
      have HUP := Lib.hid HDA.out.ok.up
      have HGT := Lib.hid hg
      clear hln hmn hg
      generalize hp : d.l[k] = p at HFO hl HE cn HLN HGT
      obtain ⟨pn, fb, fg⟩ := p
      simp only at HE HFO HLN HGT
      replace hl : (Instr.lookup 83 (.map (some b)) (.string (S pn)) false).run Try.prog wr = .ok (.agg #[.string (S fb), .int .i64 fg]) wr := hl
      have z0 : (0 : Int) ≤ (k : Int) := by omega
      have z1 : (k : Int) < (d.l.length : Int) := by omega
      have zk : IntKind.i64.wrap ((k : Int) + 1) = (k : Int) + 1 := by rw [IntKind.wrap_i64]; have := HL.out; omega
      have zp : IntKind.i64.wrap (((S fb).size : Int) - (fg : Int)) = ((fb.length - fg : Nat) : Int) := by
        have h1 := HFO.out.1; have h2 := HFO.out.2; have h3 := S_size fb
        simp only at h1 h2
        rw [IntKind.wrap_i64]; omega
      clear hc hb1 hb2 hnb hp
      generalize hcur : crashK (d.l.take k) ks = cur at *
      by_cases hpe : fb.length = fg
      · have HE1 : Hid (crashAt d.l ks (k + 1) = crashAt d.l ks k ∧ crashK (d.l.take (k + 1)) ks = cur) := by
          have h1 := HE.out
          rw [show crashF ⟨fb, fg⟩ cur = (⟨fb, fg⟩, cur) from if_pos hpe] at h1
          exact ⟨h1.1.symm.trans (put_get HUP.out HGT.out), h1.2⟩
        have zp2 : (((fb.length - fg : Nat) : Int) == 0) = true := by simp; omega
        have zp3 : ((fb.length - fg : Nat) : Int) = 0 := by omega
        clear hpe
        rw [zp3] at zp
        clear zp2 zp3
        go_wp2_with fail
        go_roundw
        case rel => exact ⟨k + 1, K1, c1, by have := HLT.out; omega, by go_num, by rw [HE1.out.2], by rw [HE1.out.2]; exact HKC1.out, HC1.out, by rw [HE1.out.2]; exact (HKA.out.below ((Below.refl _ _).alloc (Nat.le_refl _) _)), by rw [HE1.out.1]; exact HDA.out.new _, HT.out.new _⟩
        case measure => have := HLT.out; simp [intOf] <;> omega
      · have hgt : fg < fb.length := by have := HFO.out.1; simp only at this; omega
        have HGTN := Lib.hid hgt
        have zp2 : (((fb.length - fg : Nat) : Int) == 0) = false := by simp; omega
        have zp3 : ¬ (((fb.length - fg : Nat) : Int)) = 0 := by omega
        have zq : IntKind.i64.wrap (((fb.length - fg : Nat) : Int) + 1) = ((fb.length - fg + 1 : Nat) : Int) := by have h2 := HFO.out.2; simp only at h2; rw [IntKind.wrap_i64]; omega
        have zu : IntKind.u64.wrap ((fb.length - fg + 1 : Nat) : Int) = ((fb.length - fg + 1 : Nat) : Int) := by have h2 := HFO.out.2; simp only at h2; rw [IntKind.wrap_u64]; omega
        clear hgt
        cases cur with
        | nil =>
          have HE1 : Hid (put pn ⟨fb.take fg, fg⟩ (crashAt d.l ks k) = crashAt d.l ks (k + 1) ∧ crashK (d.l.take (k + 1)) ks = []) := by
            have h1 := HE.out
            rw [show crashF ⟨fb, fg⟩ [] = (⟨fb.take fg, fg⟩, []) by unfold crashF; rw [if_neg hpe]] at h1
            exact h1
          have HNL := Lib.hid (show fg ≤ (⟨fb, fg⟩ : F).b.length from HFO.out.1)
          have HKA2 := HKA
          have zc : IntKind.i64.wrap ((fg : Int) + 0) = (fg : Int) := by have h2 := HFO.out.2; have h1 := HFO.out.1; simp only at h1 h2; rw [IntKind.wrap_i64]; omega
          have zc2 : IntKind.i64.wrap (fg : Int) = (fg : Int) := by have h2 := HFO.out.2; have h1 := HFO.out.1; simp only at h1 h2; rw [IntKind.wrap_i64]; omega
          have zw0 : IntKind.i64.wrap 0 = 0 := by rw [IntKind.wrap_i64]; rfl
          have zc3 : IntKind.i64.wrap ((fg : Int) + IntKind.i64.wrap 0) = (fg : Int) := by rw [zw0]; exact zc
          clear hpe
          go_wp2_with fail
          have f2 := bx_own wr #[.string (S fb), .int .i64 (fg : Int)] 78
          have hD1 := HDA.out.new (.cells #[.string (S fb), .int .i64 (fg : Int)] 78)
          have hT1 := HT.out.new (.cells #[.string (S fb), .int .i64 (fg : Int)] 78)
          have hqa : wr.heap.size ≠ a := by have := HDA.out.lt.1; omega
          have hK1 := HKA2.out.below ((Below.refl wr.heap.size wr).alloc (Nat.le_refl _) (.cells #[.string (S fb), .int .i64 (fg : Int)] 78))
          generalize wr.alloc (.cells #[.string (S fb), .int .i64 (fg : Int)] 78) = W1 at f2 hD1 hT1 hK1 ⊢
          have HT1 := Lib.hid hT1
          have HK1 := Lib.hid hK1
          have hbx : Bx W1 wr.heap.size #[.string (S fb), .int .i64 (fg : Int)] := ⟨_, f2⟩
          have HFN := Lib.hid (show (⟨fb.take (fg), fg⟩ : F).ok from HFO.out.upTo HNL.out)
          have hok1 : ({ ({ d with l := crashAt d.l ks k } : Dk) with l := put pn ⟨fb.take (fg), fg⟩ ({ d with l := crashAt d.l ks k } : Dk).l } : Dk).ok := by have := HOK.out; rw [← HE1.out.1] at this; exact this
          have HUT : Hid (∀ W : World, Calls Try.prog 52 #[.agg #[.string (S fb), .int .i64 (fg : Int)], .int .i64 ((fg : Nat) : Int)] W fun z w' => z = .returned (fV ⟨fb.take (fg), fg⟩) ∧ Below W.heap.size W w') := fun W => upTo_any ⟨fb, fg⟩ HFO.out (fg) HNL.out W
          have HFIN : Hid (∀ w', DkAt w' a b { ({ d with l := crashAt d.l ks k } : Dk) with l := put pn ⟨fb.take (fg), fg⟩ ({ d with l := crashAt d.l ks k } : Dk).l } → DkAt w' a b { d with l := crashAt d.l ks (k + 1) }) := fun w' h => by rw [← HE1.out.1]; exact h
          have hup1 : Up ({ d with l := crashAt d.l ks k } : Dk).l := HUP.out
          generalize (⟨fb.take (fg), fg⟩ : F) = f1 at HFN hok1 HUT HFIN
          generalize ({ d with l := crashAt d.l ks k } : Dk) = d1 at hok1 HFIN hD1 hup1
          have HD1 := Lib.hid hD1
          have HS0 : ∀ l1 : List (Nm × F), ∀ w' : World, Ph a b d1 l1 W1 w' → Ph a b d1 l1 W1 w' ∧ w'.cell? ⟨a, 1, none⟩ = some (.map (some b)) ∧ w'.cell? ⟨wr.heap.size, 0, none⟩ = some (.string (S fb)) ∧ w'.cell? ⟨wr.heap.size, 1, none⟩ = some (.int .i64 (fg : Int)) := fun l1 w' hp => by
            have ht := hp.tn
            exact ⟨hp, hp.map, by rw [(hbx.tn hD1 hqa ht).cell 0]; rfl, by rw [(hbx.tn hD1 hqa ht).cell 1]; rfl⟩
          have HS := Lib.hid (HS0 (put pn f1 d1.l))
          have hu0 : ∀ w' : World, Ph a b d1 (put pn f1 d1.l) W1 w' → Ph a b d1 (put pn f1 d1.l) W1 (upd b pn f1 w') ∧ DoneBy a b d1 (put pn f1 d1.l) W1 (.returned (.tuple #[])) (upd b pn f1 w') := fun w' hp => ph_put pn HLN.out _ HFN.out hup1 hok1 hp
          have HU := Lib.hid hu0
          have hmu : ∀ w' : World, Ph a b d1 (put pn f1 d1.l) W1 w' → (Instr.mapUpdate 83 (.map (some b)) (.string (S pn)) (fV f1)).run Try.prog w' = .ok () (upd b pn f1 w') := fun w' hp => hp.run pn HLN.out _ HFN.out
          obtain ⟨q1, q2, q3, q4⟩ := HS.out W1 (Or.inl ⟨Below.refl _ _, hD1⟩)
          have r1 := (HS.out W1.drew (Or.inl ⟨(Below.refl _ _).drew, hD1.same rfl rfl⟩)).1
          have HFIN2 : Hid (∀ w', DoneBy a b d1 (put pn f1 d1.l) W1 (.returned (.tuple #[])) w' → DkAt w' a b { d with l := crashAt d.l ks (k + 1) } ∧ Tn a b W1 w') := fun w' h => ⟨HFIN.out w' h.2.1, h.2.2⟩
          clear hD1 hT1 hK1 hbx f2 hqa hok1 hup1 HS0 hu0 HFIN HOK HGT HUP hcur HE c0 c1' c2 c3 c4 cn hl zp zp2 zp3 zq zu z0 z1
          generalize put pn f1 d1.l = l1 at *
          go_region_held3 (fun w' => Ph a b d1 l1 W1 w' ∧ w'.cell? ⟨a, 1, none⟩ = some (.map (some b)) ∧ w'.cell? ⟨wr.heap.size, 0, none⟩ = some (.string (S fb)) ∧ w'.cell? ⟨wr.heap.size, 1, none⟩ = some (.int .i64 (fg : Int)))
            (first | assumption | (refine ⟨?_, ?_, ?_, ?_⟩ <;> assumption) | exact HS.out _ (HU.out _ (by assumption)).1)
            ((first | (go_at_call 52; refine (HUT.out _).mono ?_; rintro z w' ⟨rfl, hb4⟩; obtain ⟨p1, p2, p3, p4⟩ := HS.out w' (Ph.step (by assumption) hb4); clear hb4)))
          all_goals
            have hdone := HFIN2.out _ (HU.out _ (by assumption)).2
            have HD5 := Lib.hid hdone.1
            have HT5 := Lib.hid hdone.2
            clear hmu hdone q1 q2 q3 q4 r1
            go_wp2_with fail
            go_roundw
            case rel => exact ⟨k + 1, K1, c1, by have := HLT.out; omega, by go_num, by rw [HE1.out.2]; rfl, by rw [HE1.out.2]; exact Nat.zero_le _, by have := HC1.out; omega, by rw [HE1.out.2]; exact HK1.out.tn HD1.out HT5.out, HD5.out, HT1.out.trans HT5.out⟩
            case measure => have := HLT.out; simp [intOf] <;> omega
        | cons kk rest =>
          obtain ⟨kb, ko, rfl, hkb1, hkb2, hkc⟩ := HKA.out 0 (Nat.zero_lt_succ _)
          have hkc' : wr.cell? ⟨kb, ko, none⟩ = some (.int .i64 kk) := hkc
          have hkc2 : (wr.alloc (.cells #[.string (S fb), .int .i64 (fg : Int)] 78)).cell? ⟨kb, ko, none⟩ = some (.int .i64 kk) := (Below.cell ((Below.refl wr.heap.size wr).alloc (Nat.le_refl _) _) hkb1).trans hkc'
          have hst : fg + (kk % 18446744073709551616).toNat % (fb.length - fg + 1) ≤ fb.length := by
            have := Nat.mod_lt (kk % 18446744073709551616).toNat (show 0 < fb.length - fg + 1 by omega)
            have h1 := HFO.out.1; simp only at h1
            omega
          have HE1 : Hid (put pn ⟨fb.take (fg + (kk % 18446744073709551616).toNat % (fb.length - fg + 1)), fg + (kk % 18446744073709551616).toNat % (fb.length - fg + 1)⟩ (crashAt d.l ks k) = crashAt d.l ks (k + 1) ∧ crashK (d.l.take (k + 1)) ks = rest) := by
            have h1 := HE.out
            rw [show crashF ⟨fb, fg⟩ (kk :: rest) = (⟨fb.take (fg + (kk % 18446744073709551616).toNat % (fb.length - fg + 1)), fg + (kk % 18446744073709551616).toNat % (fb.length - fg + 1)⟩, rest) by unfold crashF; rw [if_neg hpe]] at h1
            exact h1
          have zm : (kk % 18446744073709551616).tmod ((fb.length - fg + 1 : Nat) : Int) = (((kk % 18446744073709551616).toNat % (fb.length - fg + 1) : Nat) : Int) := by
            have h0 := Int.emod_nonneg kk (show (18446744073709551616 : Int) ≠ 0 by decide)
            obtain ⟨u, hu⟩ : ∃ u : Nat, kk % 18446744073709551616 = (u : Int) := ⟨(kk % 18446744073709551616).toNat, by omega⟩
            rw [hu, Int.toNat_natCast]
            exact (Int.ofNat_tmod u _)
          have zw : IntKind.u64.wrap kk = kk % 18446744073709551616 := by rw [IntKind.wrap_u64]
          have hls := keep_tail kb ko rest.length c1 HKC1.out
          have HKA2 := Lib.hid (HKA.out.rest HKC1.out)
          generalize (if c1 = 1 then some (Addr.mk kb ko none) else some (Addr.mk kb (ko + 1) none)) = KX at hls HKA2
          have HKC2 := Lib.hid (show rest.length ≤ c1 - 1 by have h1 := HKC1.out; simp only [List.length_cons] at h1; omega)
          have hfl := HFO.out.2
          simp only at hfl
          generalize hss : (kk % 18446744073709551616).toNat % (fb.length - fg + 1) = st at zm hst HE1
          have HNL := Lib.hid (show fg + st ≤ (⟨fb, fg⟩ : F).b.length from hst)
          have zs : IntKind.u64.wrap (st : Int) = (st : Int) := by rw [IntKind.wrap_u64]; omega
          have zs2 : IntKind.i64.wrap (st : Int) = (st : Int) := by rw [IntKind.wrap_i64]; omega
          have zc : IntKind.i64.wrap ((fg : Int) + (st : Int)) = ((fg + st : Nat) : Int) := by rw [IntKind.wrap_i64]; omega
          have zg : (0 : Int) < ((rest.length + 1 : Nat) : Int) := by omega
          have zd0 : (((fb.length - fg + 1 : Nat) : Int) == 0) = false := by simp; omega
          have zd1 : ¬ ((fb.length - fg + 1 : Nat) : Int) = 0 := by omega
          generalize hzP : ((fb.length - fg + 1 : Nat) : Int) = zP at zm zd0 zd1 zq zu
          generalize hzN : ((fb.length - fg : Nat) : Int) = zN at zp zp2 zp3 zq
          generalize hzM : kk % 18446744073709551616 = zM at zm zw
          clear hpe hkc hkc' hss hst hfl hzP hzN hzM
          go_wp2_with fail
          have f2 := bx_own wr #[.string (S fb), .int .i64 (fg : Int)] 78
          have hD1 := HDA.out.new (.cells #[.string (S fb), .int .i64 (fg : Int)] 78)
          have hT1 := HT.out.new (.cells #[.string (S fb), .int .i64 (fg : Int)] 78)
          have hqa : wr.heap.size ≠ a := by have := HDA.out.lt.1; omega
          have hK1 := HKA2.out.below ((Below.refl wr.heap.size wr).alloc (Nat.le_refl _) (.cells #[.string (S fb), .int .i64 (fg : Int)] 78))
          generalize wr.alloc (.cells #[.string (S fb), .int .i64 (fg : Int)] 78) = W1 at f2 hD1 hT1 hK1 ⊢
          have HT1 := Lib.hid hT1
          have HK1 := Lib.hid hK1
          have hbx : Bx W1 wr.heap.size #[.string (S fb), .int .i64 (fg : Int)] := ⟨_, f2⟩
          have HFN := Lib.hid (show (⟨fb.take (fg + st), fg + st⟩ : F).ok from HFO.out.upTo HNL.out)
          have hok1 : ({ ({ d with l := crashAt d.l ks k } : Dk) with l := put pn ⟨fb.take (fg + st), fg + st⟩ ({ d with l := crashAt d.l ks k } : Dk).l } : Dk).ok := by have := HOK.out; rw [← HE1.out.1] at this; exact this
          have HUT : Hid (∀ W : World, Calls Try.prog 52 #[.agg #[.string (S fb), .int .i64 (fg : Int)], .int .i64 ((fg + st : Nat) : Int)] W fun z w' => z = .returned (fV ⟨fb.take (fg + st), fg + st⟩) ∧ Below W.heap.size W w') := fun W => upTo_any ⟨fb, fg⟩ HFO.out (fg + st) HNL.out W
          have HFIN : Hid (∀ w', DkAt w' a b { ({ d with l := crashAt d.l ks k } : Dk) with l := put pn ⟨fb.take (fg + st), fg + st⟩ ({ d with l := crashAt d.l ks k } : Dk).l } → DkAt w' a b { d with l := crashAt d.l ks (k + 1) }) := fun w' h => by rw [← HE1.out.1]; exact h
          have hup1 : Up ({ d with l := crashAt d.l ks k } : Dk).l := HUP.out
          generalize (⟨fb.take (fg + st), fg + st⟩ : F) = f1 at HFN hok1 HUT HFIN
          generalize ({ d with l := crashAt d.l ks k } : Dk) = d1 at hok1 HFIN hD1 hup1
          have HD1 := Lib.hid hD1
          have HS0 : ∀ l1 : List (Nm × F), ∀ w' : World, Ph a b d1 l1 W1 w' → Ph a b d1 l1 W1 w' ∧ w'.cell? ⟨a, 1, none⟩ = some (.map (some b)) ∧ w'.cell? ⟨wr.heap.size, 0, none⟩ = some (.string (S fb)) ∧ w'.cell? ⟨wr.heap.size, 1, none⟩ = some (.int .i64 (fg : Int)) := fun l1 w' hp => by
            have ht := hp.tn
            exact ⟨hp, hp.map, by rw [(hbx.tn hD1 hqa ht).cell 0]; rfl, by rw [(hbx.tn hD1 hqa ht).cell 1]; rfl⟩
          have HS := Lib.hid (HS0 (put pn f1 d1.l))
          have hu0 : ∀ w' : World, Ph a b d1 (put pn f1 d1.l) W1 w' → Ph a b d1 (put pn f1 d1.l) W1 (upd b pn f1 w') ∧ DoneBy a b d1 (put pn f1 d1.l) W1 (.returned (.tuple #[])) (upd b pn f1 w') := fun w' hp => ph_put pn HLN.out _ HFN.out hup1 hok1 hp
          have HU := Lib.hid hu0
          have hmu : ∀ w' : World, Ph a b d1 (put pn f1 d1.l) W1 w' → (Instr.mapUpdate 83 (.map (some b)) (.string (S pn)) (fV f1)).run Try.prog w' = .ok () (upd b pn f1 w') := fun w' hp => hp.run pn HLN.out _ HFN.out
          obtain ⟨q1, q2, q3, q4⟩ := HS.out W1 (Or.inl ⟨Below.refl _ _, hD1⟩)
          have r1 := (HS.out W1.drew (Or.inl ⟨(Below.refl _ _).drew, hD1.same rfl rfl⟩)).1
          have HFIN2 : Hid (∀ w', DoneBy a b d1 (put pn f1 d1.l) W1 (.returned (.tuple #[])) w' → DkAt w' a b { d with l := crashAt d.l ks (k + 1) } ∧ Tn a b W1 w') := fun w' h => ⟨HFIN.out w' h.2.1, h.2.2⟩
          clear hD1 hT1 hK1 hbx f2 hqa hok1 hup1 HS0 hu0 HFIN HOK HGT HUP hcur HE c0 c1' c2 c3 c4 cn hl zp zp2 zp3 zq zu z0 z1
          generalize put pn f1 d1.l = l1 at *
          go_region_held3 (fun w' => Ph a b d1 l1 W1 w' ∧ w'.cell? ⟨a, 1, none⟩ = some (.map (some b)) ∧ w'.cell? ⟨wr.heap.size, 0, none⟩ = some (.string (S fb)) ∧ w'.cell? ⟨wr.heap.size, 1, none⟩ = some (.int .i64 (fg : Int)))
            (first | assumption | (refine ⟨?_, ?_, ?_, ?_⟩ <;> assumption) | exact HS.out _ (HU.out _ (by assumption)).1)
            ((first | (go_at_call 52; refine (HUT.out _).mono ?_; rintro z w' ⟨rfl, hb4⟩; obtain ⟨p1, p2, p3, p4⟩ := HS.out w' (Ph.step (by assumption) hb4); clear hb4)))
          all_goals
            have hdone := HFIN2.out _ (HU.out _ (by assumption)).2
            have HD5 := Lib.hid hdone.1
            have HT5 := Lib.hid hdone.2
            clear hmu hdone q1 q2 q3 q4 r1
            go_wp2_with fail
            go_roundw
            case rel => exact ⟨k + 1, KX, (c1 - 1), by have := HLT.out; omega, by go_num, by rw [HE1.out.2]; skip, by rw [HE1.out.2]; exact HKC2.out, by have := HC1.out; omega, by rw [HE1.out.2]; exact HK1.out.tn HD1.out HT5.out, HD5.out, HT1.out.trans HT5.out⟩
            case measure => have := HLT.out; simp [intOf] <;> omega
    · obtain rfl : k = d.l.length := by omega
      have z1 : ¬ ((d.l.length : Nat) : Int) < (d.l.length : Int) := by omega
      rw [crashAt_all] at HDA
      obtain ⟨c0, c1', c2, c3, c4⟩ := HDA.out.cell
      have fz := HDA.out.fz
      go_wp2_with fail
      go_ret
      exact ⟨rfl, set_power HDA.out false false 0 0 rfl (by omega) (fun _ => rfl), ((Tn.of HW.out).trans HT.out).trans (tn3 _ _ _ _ _ _)⟩
end Go.Proofs.Ytddjoealckhepaa.Disk
