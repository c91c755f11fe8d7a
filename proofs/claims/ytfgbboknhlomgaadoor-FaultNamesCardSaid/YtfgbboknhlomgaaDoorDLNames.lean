/-
  The walk of the statement FaultNames.
-/
import Derived.Test.YtfgbboknhlomgaaDoorDN2
import Derived.Deep.QuietTactic
import Derived.BigQuiet
namespace Go.Proofs.YtfgbboknhlomgaaDoor.Fault
open Go Go.RowKit

theorem Words.dn {w : World} {n : Nat} (h : Words w) : Words (w.drewN n) := h.below (below_dn _ _ _)
set_option pp.maxSteps 200000 in
set_option maxRecDepth 100000 in
set_option maxHeartbeats 2000000 in
theorem faultNames_walk (w : World) (E : EnvN w) :
    Calls Tryd.prog 3 #[] w fun ev w' => ev = .returned (.bool true) ∧ Below w.heap.size w w' := by
  have HW := Lib.hid (works_any w E.1)
  have HE := Lib.hid E
  have hmm := @run_makeMap Tryd.prog
  clear E
  go_enter Tryd.func3, Tryd.ntmps3
  go_wp2_with (first
    | (go_at_call 7; refine HW.out.mono ?_; rintro ev w1 ⟨rfl, hb1⟩; have HB := Lib.hid (hb1.alloc hb1.size (Obj.map #[] 0)); have HO := Lib.hid (World.ownsMap_made w1 Tryd.prog 23 (plainElem (H := Unit) Tryd.prog 24)); have HS := Lib.hid hb1.size; clear hb1 HW)
    | (refine wpList_insert_own _ rfl _ _ _ 25 rfl 23 24 lawK Tryd.underlying25 _ w1.heap.size _ _ rfl HO.out (by unfold maxLen; decide) _ _ _ rfl rfl (Maps.keyOf_int_mk Tryd.underlying23 (by decide)) _ [] (plainElem_int Tryd.underlying24 (by decide)) ?_; intro w2 hown1 hgrow1; replace HO := Lib.hid hown1; replace HB := Lib.hid (HB.out.trans (below_grown hgrow1 HS.out HB.out.size)); clear hown1 hgrow1)
    | (at_range; refine wpList_range_own _ rfl _ 25 rfl 23 24 lawK Tryd.underlying25 _ w1.heap.size 25 wantD rfl (owns_want HO.out (by kernel_rfl)) ?_; intro w0 hrg0 hg0 hs0))
  go_frame
  have HB2 := HB
  have HR2 := Lib.hid HB.out.size
  have HTK1 : Hid True := trivial
  have HTK2 : Hid True := trivial
  go_loopw [2] (fun _ wr => ∃ (left : Lit → Bool) (cnt : Nat), wr.ranges Tryd.prog 23 (plainElem (H := Unit) Tryd.prog 24) w1.heap.size w2.heap.size 25 wantD left cnt ∧ (∀ kl, left kl = true → Maps.has wantD kl = true) ∧ Below w.heap.size w wr)
    (fun _ wr => wr.rangeLeft w1.heap.size w2.heap.size)
  case atStart => exact ⟨_, _, hrg0, fun _ h => h, HB2.out.trans (below_grown (hg0.but (some w1.heap.size)) HS.out HB2.out.size)⟩
  case round =>
    obtain ⟨left, cnt, hrg, hle, hB⟩ := hrel
    clear hrg0 hg0 hs0 HO HB
    go_wp2_with (at_next; refine wpList_next_ranges_ii _ rfl _ rfl 23 24 .i64 .u8 lawK Tryd.underlying23 Tryd.underlying24 w1.heap.size w2.heap.size _ _ _ _ rfl hrg ?_ ?_)
    · intro _ _
      have HB3 := Lib.hid hB
      clear hB hle hrg
      obtain ⟨X, hX⟩ : ∃ X, wr.alloc (Obj.cells #[.string ⟨#[110, 111, 110, 101]⟩, .string ⟨#[99, 97, 108, 108, 101, 114]⟩, .string ⟨#[98, 121, 116, 101, 115]⟩, .string ⟨#[109, 97, 114, 107, 101, 116]⟩, .string ⟨#[100, 105, 115, 107]⟩] 9) = X := ⟨_, rfl⟩
      have HBX := Lib.hid (show Below w.heap.size w X from by rw [← hX]; exact HB3.out.alloc HB3.out.size _)
      have HXC := Lib.hid (show ∀ k, k < 5 → X.cell? ⟨wr.heap.size, k, none⟩ = some (.string (texts.getD k ByteArray.empty)) from fun k hk => by
        rw [← hX]
        unfold World.cell?
        rw [show (wr.alloc _).heap[(⟨wr.heap.size, k, none⟩ : Addr).block]? = _ from (MapKept.heap_alloc wr _).1]
        rcases k with _ | _ | _ | _ | _ | k
        all_goals first | rfl | omega)
      go_wp2_with fail
      clear hX
      go_loopw [5] (fun i wq => ∃ k z : Nat, k ≤ 5 ∧ i = .int .i64 k ∧ wq = X.drewN z) (fun i _ => 5 - (intOf i).toNat)
      case atStart => exact ⟨0, 0, Nat.zero_le _, rfl, rfl⟩
      case round =>
        obtain ⟨k, z, hk, rfl, rfl⟩ := hrel
        by_cases hlt : k < 5
        · have hwr : IntKind.u8.wrap (k : Int) = (k : Int) := by obtain rfl | rfl | rfl | rfl | rfl : k = 0 ∨ k = 1 ∨ k = 2 ∨ k = 3 ∨ k = 4 := by omega
                                                                 all_goals rfl
          have HCL := Lib.hid (fun (W : World) (h : Words W) => cls_error k hlt h)
          rw [← hwr] at HCL
          clear hwr
          have HWX := Lib.hid ((HE.out.below HBX.out).2)
          have c0 := HXC.out k hlt
          generalize texts.getD k ByteArray.empty = s at c0 HCL
          go_wp2_with fail
          go_quiet ((go_at_call 11; refine (HCL.out _ HWX.out.dn).mono (fun e w' h => ⟨h.1, _, h.2⟩)))
          go_wp2_with fail
          go_roundw
          case rel => exact ⟨k + 1, _, by omega, by go_num, rfl⟩
          case measure => simp [intOf] <;> omega
        · obtain rfl : k = 5 := by omega
          have HY := Lib.hid (HBX.out.trans (below_dn w.heap.size X z))
          have HT := Lib.hid (HE.out.1.below HY.out)
          clear HE HXC HBX HB3 HB2 HR2 HS HTK1 HTK2 hk hmm
          generalize X.drewN z = Y at HY HT ⊢
          have HC := Lib.hid (Below.refl Y.heap.size Y)
          have TK1 : Hid True := trivial
          have TK2 : Hid True := trivial
          have TK3 : Hid True := trivial
          have TK4 : Hid True := trivial
          have TK5 : Hid True := trivial
          have TK6 : Hid True := trivial
          have TK7 : Hid True := trivial
          have TK8 : Hid True := trivial
          have TK9 : Hid True := trivial
          have TK10 : Hid True := trivial
          have TK11 : Hid True := trivial
          have TK12 : Hid True := trivial
          have TK13 : Hid True := trivial
          have TK14 : Hid True := trivial
          have TK15 : Hid True := trivial
          have TK16 : Hid True := trivial
          have TK17 : Hid True := trivial
          have TK18 : Hid True := trivial
          have TK19 : Hid True := trivial
          have TK20 : Hid True := trivial
          have TK21 : Hid True := trivial
          go_wp2_with (first
              | (go_at_call 12; have hh := TK1.out; clear hh; refine (n_code_nil HT.out).mono ?_; rintro ev wv ⟨rfl, hb⟩; replace HC := Lib.hid (HC.out.trans (hb.mono HC.out.size)); replace HT := Lib.hid (HT.out.below hb); clear hb TK1)
              | (go_at_call 12; have hh := TK2.out; clear hh; refine (n_code_own HT.out).mono ?_; rintro ev wv ⟨rfl, hb⟩; replace HC := Lib.hid (HC.out.trans (hb.mono HC.out.size)); replace HT := Lib.hid (HT.out.below hb); clear hb TK2)
              | (go_at_call 13; have hh := TK3.out; clear hh; refine (n_find_nil _).mono ?_; rintro ev wv ⟨rfl, hb⟩; replace HC := Lib.hid (HC.out.trans (hb.mono HC.out.size)); replace HT := Lib.hid (HT.out.below hb); clear hb TK3)
              | (go_at_call 10; have hh := TK4.out; clear hh; refine (n_bare _).mono ?_; rintro ev wv ⟨rfl, hn, hb⟩; replace HC := Lib.hid (HC.out.trans (hb.mono HC.out.size)); replace HT := Lib.hid (HT.out.below hb); have HBa := Lib.hid hn; clear hn; clear hb TK4)
              | (go_at_call 10; have hh := TK5.out; clear hh; refine (n_once _).mono ?_; rintro ev wv ⟨rfl, hn, hb⟩; replace HC := Lib.hid (HC.out.trans (hb.mono HC.out.size)); replace HT := Lib.hid (HT.out.below hb); replace HBa := Lib.hid (HBa.out.below hb); have HOn := Lib.hid hn; clear hn; clear hb TK5)
              | (go_at_call 10; have hh := TK6.out; clear hh; refine (n_twice HOn.out).mono ?_; rintro ev wv ⟨rfl, hn, hb⟩; replace HC := Lib.hid (HC.out.trans (hb.mono HC.out.size)); replace HT := Lib.hid (HT.out.below hb); replace HBa := Lib.hid (HBa.out.below hb); have HTw := Lib.hid hn; clear hn; clear hb TK6)
              | (go_at_call 13; have hh := TK7.out; clear hh; refine (n_find_twice HTw.out).mono ?_; rintro ev wv ⟨rfl, hb⟩; replace HC := Lib.hid (HC.out.trans (hb.mono HC.out.size)); replace HT := Lib.hid (HT.out.below hb); replace HBa := Lib.hid (HBa.out.below hb); replace HTw := Lib.hid (HTw.out.below hb); clear hb TK7)
              | (go_at_call 10; have hh := TK8.out; clear hh; refine (n_wrap_nil _).mono ?_; rintro ev wv ⟨rfl, rfl⟩; clear TK8)
              | (go_at_call 14; have hh := TK9.out; clear hh; refine (n_ops_nil _).mono ?_; rintro ev wv ⟨⟨Ao, co, rfl⟩, hb⟩; replace HC := Lib.hid (HC.out.trans (hb.mono HC.out.size)); replace HT := Lib.hid (HT.out.below hb); replace HBa := Lib.hid (HBa.out.below hb); replace HTw := Lib.hid (HTw.out.below hb); clear hb TK9)
              | (go_at_call 15; have hh := TK10.out; clear hh; refine (text_nil _).mono ?_; rintro ev wv ⟨rfl, hb⟩; replace HC := Lib.hid (HC.out.trans (hb.mono HC.out.size)); replace HT := Lib.hid (HT.out.below hb); replace HBa := Lib.hid (HBa.out.below hb); replace HTw := Lib.hid (HTw.out.below hb); clear hb TK10)
              | (go_at_call 15; have hh := TK11.out; clear hh; refine (n_text_own _).mono ?_; rintro ev wv ⟨rfl, hb⟩; replace HC := Lib.hid (HC.out.trans (hb.mono HC.out.size)); replace HT := Lib.hid (HT.out.below hb); replace HBa := Lib.hid (HBa.out.below hb); replace HTw := Lib.hid (HTw.out.below hb); clear hb TK11)
              | (go_at_call 9; have hh := TK12.out; clear hh; refine (n_in_nil0 HT.out).mono ?_; rintro ev wv ⟨rfl, hb⟩; replace HC := Lib.hid (HC.out.trans (hb.mono HC.out.size)); replace HT := Lib.hid (HT.out.below hb); replace HBa := Lib.hid (HBa.out.below hb); replace HTw := Lib.hid (HTw.out.below hb); clear hb TK12)
              | (go_at_call 9; have hh := TK13.out; clear hh; refine (n_in_nil4 HT.out).mono ?_; rintro ev wv ⟨rfl, hb⟩; replace HC := Lib.hid (HC.out.trans (hb.mono HC.out.size)); replace HT := Lib.hid (HT.out.below hb); replace HBa := Lib.hid (HBa.out.below hb); replace HTw := Lib.hid (HTw.out.below hb); clear hb TK13)
              | (go_at_call 9; have hh := TK14.out; clear hh; refine (n_in_own0 HT.out).mono ?_; rintro ev wv ⟨rfl, hb⟩; replace HC := Lib.hid (HC.out.trans (hb.mono HC.out.size)); replace HT := Lib.hid (HT.out.below hb); replace HBa := Lib.hid (HBa.out.below hb); replace HTw := Lib.hid (HTw.out.below hb); clear hb TK14)
              | (go_at_call 15; have hh := TK15.out; clear hh; refine (n_text_bare HBa.out).mono ?_; rintro ev wv ⟨rfl, hb⟩; replace HC := Lib.hid (HC.out.trans (hb.mono HC.out.size)); replace HT := Lib.hid (HT.out.below hb); replace HBa := Lib.hid (HBa.out.below hb); replace HTw := Lib.hid (HTw.out.below hb); clear hb TK15)
              | (go_at_call 9; have hh := TK16.out; clear hh; refine (n_in_bare0 HT.out HBa.out).mono ?_; rintro ev wv ⟨rfl, hb⟩; replace HC := Lib.hid (HC.out.trans (hb.mono HC.out.size)); replace HT := Lib.hid (HT.out.below hb); replace HBa := Lib.hid (HBa.out.below hb); replace HTw := Lib.hid (HTw.out.below hb); clear hb TK16)
              | (go_at_call 16; have hh := TK17.out; clear hh; refine (n_is_nil0 _).mono ?_; rintro ev wv ⟨rfl, hb⟩; replace HC := Lib.hid (HC.out.trans (hb.mono HC.out.size)); replace HT := Lib.hid (HT.out.below hb); replace HBa := Lib.hid (HBa.out.below hb); replace HTw := Lib.hid (HTw.out.below hb); clear hb TK17)
              | (go_at_call 10; have hh := TK18.out; clear hh; refine (n_okay _).mono ?_; rintro ev wv ⟨rfl, hn, hb⟩; replace HC := Lib.hid (HC.out.trans (hb.mono HC.out.size)); replace HT := Lib.hid (HT.out.below hb); replace HBa := Lib.hid (HBa.out.below hb); replace HTw := Lib.hid (HTw.out.below hb); have HOk := Lib.hid hn; clear hn; clear hb TK18)
              | (go_at_call 16; have hh := TK19.out; clear hh; refine (n_is_okay HOk.out).mono ?_; rintro ev wv ⟨rfl, hb⟩; replace HC := Lib.hid (HC.out.trans (hb.mono HC.out.size)); replace HT := Lib.hid (HT.out.below hb); replace HBa := Lib.hid (HBa.out.below hb); replace HTw := Lib.hid (HTw.out.below hb); clear hb TK19)
              | (go_at_call 15; have hh := TK20.out; clear hh; refine (n_text_twice HTw.out).mono ?_; rintro ev wv ⟨rfl, hb⟩; replace HC := Lib.hid (HC.out.trans (hb.mono HC.out.size)); replace HT := Lib.hid (HT.out.below hb); replace HBa := Lib.hid (HBa.out.below hb); replace HTw := Lib.hid (HTw.out.below hb); clear hb TK20)
              | (go_at_call 16; have hh := TK21.out; clear hh; refine (n_is_twice HTw.out).mono ?_; rintro ev wv ⟨rfl, hb⟩; replace HC := Lib.hid (HC.out.trans (hb.mono HC.out.size)); replace HT := Lib.hid (HT.out.below hb); replace HBa := Lib.hid (HBa.out.below hb); replace HTw := Lib.hid (HTw.out.below hb); clear hb TK21))
          go_ret
          exact ⟨rfl, HY.out.trans (HC.out.mono HY.out.size)⟩
    · intro x c w3 cnt1 hwx hwc hlx hat hrg1 hlt hg1 hs1 hen
      obtain rfl := want_class (hle _ hlx) hat
      have HB3 := Lib.hid (hB.trans (below_grown hg1 HR2.out hB.size))
      have HC := Lib.hid (Below.refl w3.heap.size w3)
      have HRG := Lib.hid hrg1
      have HLE := Lib.hid hle
      have HLT := Lib.hid hlt
      have HRG0 := Lib.hid hrg
      clear hwc hlx hat hg1 hle hlt hB hrg1 hrg
      go_wp2_with (first
        | (go_at_call 8; refine (of_any x _).mono ?_; rintro ev w4 ⟨rfl, rfl⟩)
        | (go_at_call 9; have hh := HTK1.out; clear hh; refine (in_self (HE.out.1.below (HB3.out.trans (HC.out.mono HB3.out.size))) (At.nil _ (numV x)) (plain_num x) (ifc_num x) (by decide) (asked_num x) (fun h => by cases h)).mono ?_; rintro ev w4 ⟨rfl, hb4⟩; replace HC := Lib.hid (HC.out.trans (hb4.mono HC.out.size)); clear hb4 HTK1)
        | (go_at_call 10; refine (wrap_any ⟨⟨#[120]⟩, ⟨#[]⟩, -1⟩ (At.nil _ (numV x)) (ifc_num x) (by unfold numV; simp)).mono ?_; rintro ev w5 ⟨rfl, hA5, hb5⟩; replace HC := Lib.hid (HC.out.trans (hb5.mono HC.out.size)); have HA5 := Lib.hid hA5; clear hb5 hA5)
        | (go_at_call 9; have hh := HTK2.out; clear hh; refine (in_self (HE.out.1.below (HB3.out.trans (HC.out.mono HB3.out.size))) HA5.out (plain_num x) (ifc_num x) (by decide) (asked_num x) (fun h => by cases h)).mono ?_; rintro ev w6 ⟨rfl, hb6⟩; replace HC := Lib.hid (HC.out.trans (hb6.mono HC.out.size)); clear hb6 HTK2))
      go_roundw
      case rel => exact ⟨_, cnt1, HRG.out.kept (grown_none HC.out) (by simp) (by simp), fun kl h => HLE.out kl (by simp at h; exact h.1), HB3.out.trans (HC.out.mono HB3.out.size)⟩
      case measure => rw [(HRG.out.kept (grown_none HC.out) (by simp) (by simp)).left_eq, HRG0.out.left_eq]; exact HLT.out

end Go.Proofs.YtfgbboknhlomgaaDoor.Fault
