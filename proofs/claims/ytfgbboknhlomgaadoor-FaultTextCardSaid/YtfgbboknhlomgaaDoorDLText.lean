/-
  The walk of the statement FaultText.
-/
import Derived.Test.YtfgbboknhlomgaaDoorDT
namespace Go.Proofs.YtfgbboknhlomgaaDoor.Fault
open Go Go.RowKit

def sX : ByteArray := ⟨#[120]⟩
theorem head_plain (f : Int → ByteArray) (op : ByteArray) : headB f ⟨op, ⟨#[]⟩, -1⟩ = op ++ ⟨#[58, 32]⟩ := by unfold headB; simp
theorem head_x (f : Int → ByteArray) (op : ByteArray) (h0 : f 0 = ⟨#[48]⟩) : headB f ⟨op, sX, 0⟩ = op ++ ⟨#[32, 120, 32, 97, 116, 32, 48, 58, 32]⟩ := by
  unfold headB sX
  rw [if_pos (Int.le_refl 0), if_neg (by show ¬ (⟨#[120]⟩ : ByteArray) = ⟨#[]⟩; decide), h0]
  apply ByteArray.ext
  simp
theorem itoa_zero : itoaB 0 = ⟨#[48]⟩ := by decide +kernel

set_option maxRecDepth 100000 in
set_option maxHeartbeats 2000000 in
theorem faultText_any {f : Int → ByteArray} (f0 : f 0 = ⟨#[48]⟩) (A : Option Addr) (cap : Nat) (xs : List Wr) (e : Int) (op : ByteArray) (w : World) (HS0 : Says Wf f w) (hx : Wraps w A xs w.heap.size) (hl : xs.length ≤ cap) (hcap : cap ≤ maxLen) (he : (Lit.int .i64 e).wf = true) (hop : op.size ≤ maxLen) (E : ErrT w) :
    Calls Tryd.prog 5 #[.slice A xs.length cap, .int .i64 e, .string op] w fun ev w' => ev = .returned (.bool true) ∧ Below w.heap.size w w' := by
  have HW := Lib.hid (works_any w E)
  have HE := Lib.hid E
  have HX := Lib.hid hx
  have HL := Lib.hid hl
  have HC := Lib.hid hcap
  have hewf : Wf e := by simp [Lit.wf, IntKind.min, IntKind.max, IntKind.bits, IntKind.signed] at he; unfold Wf; omega
  have hlm : xs.length ≤ 9223372036854775807 := by unfold maxLen at hcap; omega
  clear E hcap he
  by_cases hH : 5000 ≤ tot xs
  · have HD : Hid (decide (5000 ≤ tot xs) = true) := decide_eq_true hH
    clear hH hl hlm HS0 hx
    go_enter Tryd.func5, Tryd.ntmps5
    go_wp2_with (first
      | (go_at_call 7; refine HW.out.mono ?_; rintro ev w1 ⟨rfl, hb1⟩; have HB1 := Lib.hid hb1; clear hb1 HW)
      | (go_at_call 17; refine (heavy_any A cap xs _ (fun i hi => by obtain ⟨b, off, h1, h2, h3⟩ := HX.out.below HB1.out i hi; exact ⟨b, off, h1, Nat.lt_of_lt_of_le h2 HB1.out.size, h3⟩) HL.out HC.out).mono ?_; rintro ev w2 ⟨rfl, hb2⟩; have HB2 := Lib.hid (HB1.out.trans (hb2.mono HB1.out.size)); clear hb2; rw [HD.out])
      | (go_at_call 7; refine (works_any _ (HE.out.below HB2.out)).mono ?_; rintro ev w3 ⟨rfl, hb3⟩; have HB3 := Lib.hid (HB2.out.trans (hb3.mono HB2.out.size)); clear hb3 HB2))
    go_ret
    exact ⟨rfl, HB3.out⟩
  · have HD : Hid (decide (5000 ≤ tot xs) = false) := decide_eq_false hH
    have hn : xs.length < 1099511627776 := by have := tot_len xs; omega
    have HN := Lib.hid hn
    by_cases hO : 2000 < op.size
    · have hO2 : (2000 : Int) < (op.size : Int) := by omega
      clear hH hl hn HS0 hx hO
      go_enter Tryd.func5, Tryd.ntmps5
      go_wp2_with (first
        | (go_at_call 7; refine HW.out.mono ?_; rintro ev w1 ⟨rfl, hb1⟩; have HB1 := Lib.hid hb1; clear hb1 HW)
        | (go_at_call 17; refine (heavy_any A cap xs _ (fun i hi => by obtain ⟨b, off, h1, h2, h3⟩ := HX.out.below HB1.out i hi; exact ⟨b, off, h1, Nat.lt_of_lt_of_le h2 HB1.out.size, h3⟩) HL.out HC.out).mono ?_; rintro ev w2 ⟨rfl, hb2⟩; have HB2 := Lib.hid (HB1.out.trans (hb2.mono HB1.out.size)); clear hb2; rw [HD.out])
        | (go_at_call 7; refine (works_any _ (HE.out.below HB2.out)).mono ?_; rintro ev w3 ⟨rfl, hb3⟩; have HB3 := Lib.hid (HB2.out.trans (hb3.mono HB2.out.size)); clear hb3 HB2))
      go_ret
      exact ⟨rfl, HB3.out⟩
    · have hO2 : (op.size : Int) ≤ (2000 : Int) := by omega
      have hT : tot xs < 5000 := by omega
      have hD : ∀ x ∈ xs, 0 ≤ x.pl → Wf x.pl := fun x hx0 _ => hx.wf x hx0
      have HHD := Lib.hid (light_heads HS0 hT hD)
      have HFN := Lib.hid (light_fine hT hD)
      have HXL := Lib.hid (show xs.length < 1000 from by have := tot_len xs; omega)
      have hse : (soukE ++ f e).size ≤ 100 := by rw [ByteArray.size_append]; have := HS0.size e hewf; have : soukE.size = 12 := rfl; omega
      have HSE := Lib.hid hse
      have HSS := Lib.hid HS0
      have HWF := Lib.hid hewf
      obtain ⟨s0, hs0⟩ : ∃ s0, soukE ++ f e = s0 := ⟨_, rfl⟩
      have HS00 := Lib.hid hs0
      have HTX := Lib.hid (fun W (hW : Below w.heap.size w W) => hs0 ▸ textOf_num (HS0.below hW) e hewf)
      rw [hs0] at hse
      obtain ⟨T, hTT⟩ : ∃ T, textB f xs s0 = T := ⟨_, rfl⟩
      have HTT := Lib.hid hTT
      have hTs : T.size ≤ 26000 := by rw [← hTT, textB_size]; have := HHD.out; omega
      have HE1 := Lib.hid (show textB f (⟨op, ⟨#[]⟩, -1⟩ :: xs) s0 = (op ++ ⟨#[58, 32]⟩) ++ T from by rw [textB_cons, head_plain, hTT])
      have HE2 := Lib.hid (show textB f (⟨op, sX, 0⟩ :: xs) s0 = (op ++ ⟨#[32, 120, 32, 97, 116, 32, 48, 58, 32]⟩) ++ T from by rw [textB_cons, head_x f op f0, hTT])
      have HF1 := Lib.hid (show Fine Wf (⟨op, ⟨#[]⟩, -1⟩ :: xs) from fun x hx0 => by
        rcases List.mem_cons.1 hx0 with rfl | h
        · exact ⟨by show op.size ≤ _; omega, by show (⟨#[]⟩ : ByteArray).size ≤ 1000000; decide, fun h => absurd (show (0 : Int) ≤ -1 from h) (by decide)⟩
        · exact HFN.out x h)
      have HF2 := Lib.hid (show Fine Wf (⟨op, sX, 0⟩ :: xs) from fun x hx0 => by
        rcases List.mem_cons.1 hx0 with rfl | h
        · exact ⟨by show op.size ≤ _; omega, by show sX.size ≤ 1000000; decide, fun _ => (show Wf 0 from ⟨by decide, by decide⟩)⟩
        · exact HFN.out x h)
      have HH1 := Lib.hid (show (heads f (⟨op, ⟨#[]⟩, -1⟩ :: xs)).length ≤ 30000 from by
        have := HHD.out
        have h2 : (headB f ⟨op, ⟨#[]⟩, -1⟩).size ≤ op.size + (⟨#[]⟩ : ByteArray).size + 80 := head_size f ⟨op, ⟨#[]⟩, -1⟩ (fun h => absurd (show (0 : Int) ≤ -1 from h) (by decide))
        have h3 : (headB f ⟨op, ⟨#[]⟩, -1⟩).data.toList.length = (headB f ⟨op, ⟨#[]⟩, -1⟩).size := by simp
        have h4 : (⟨#[]⟩ : ByteArray).size = 0 := rfl
        simp only [heads, List.length_append]
        omega)
      have HH2 := Lib.hid (show (heads f (⟨op, sX, 0⟩ :: xs)).length ≤ 30000 from by
        have := HHD.out
        have h2 : (headB f ⟨op, sX, 0⟩).size ≤ op.size + sX.size + 80 := head_size f ⟨op, sX, 0⟩ (fun _ => by show (f 0).size ≤ 64; rw [f0]; decide)
        have h3 : (headB f ⟨op, sX, 0⟩).data.toList.length = (headB f ⟨op, sX, 0⟩).size := by simp
        have h4 : sX.size = 1 := rfl
        simp only [heads, List.length_append]
        omega)
      have tk1 := Lib.hid trivial
      have tk2 := Lib.hid trivial
      have tk3 := Lib.hid trivial
      have tk4 := Lib.hid trivial
      have tk5 := Lib.hid trivial
      have HNIL := Lib.hid (show xs = [] → T = s0 from fun h => by rw [← hTT, h, textB_nil])
      clear hH hl hn hT hD hTT hs0 HS0 hewf hx hO
      cases hxs : xs with
      | nil =>
        have hlen0 : (xs.length : Int) = 0 := by rw [hxs]; rfl
        have HXN := Lib.hid hxs
        rw [← hxs]
        clear hxs
        go_enter Tryd.func5, Tryd.ntmps5
        go_wp2_with (first
          | (go_at_call 7; refine HW.out.mono ?_; rintro ev w1 ⟨rfl, hb1⟩; have HB1 := Lib.hid hb1; clear hb1 HW)
          | (go_at_call 17; refine (heavy_any A cap xs _ (fun i hi => by obtain ⟨b, off, h1, h2, h3⟩ := HX.out.below HB1.out i hi; exact ⟨b, off, h1, Nat.lt_of_lt_of_le h2 HB1.out.size, h3⟩) HL.out HC.out).mono ?_; rintro ev w2 ⟨rfl, hb2⟩; have HB2 := Lib.hid (HB1.out.trans (hb2.mono HB1.out.size)); clear hb2; rw [HD.out])
          | (go_at_call 20; refine (made_any A cap xs e _ (fun i hi => by obtain ⟨b, off, h1, h2, h3⟩ := HX.out.below HB2.out i hi; exact ⟨b, off, h1, Nat.lt_of_lt_of_le h2 HB2.out.size, h3⟩) HL.out HC.out).mono ?_; rintro ev w3 ⟨v, rfl, hA3, hv0, hb3⟩; have HB3 := Lib.hid (HB2.out.trans (hb3.mono HB2.out.size)); have HA3 := Lib.hid hA3; have HV0 := Lib.hid hv0; clear hb3 hA3 hv0)
          | (go_at_call 15; have hh := tk1.out; clear hh; refine (text_any (HSS.out.below HB3.out) HA3.out (plain_num e) (ifc_num e) HN.out (HTX.out _ HB3.out) HFN.out (by have := HHD.out; have := HSE.out; rw [HS00.out] at this; omega)).mono ?_; rintro ev w4 ⟨rfl, hb4⟩; have HB4 := Lib.hid (HB3.out.trans (hb4.mono HB3.out.size)); have HA4 := Lib.hid (HA3.out.below hb4); clear hb4 tk1; rw [HTT.out])
          | (go_at_call 21; refine (num_error (HSS.out.below HB4.out) e HWF.out).mono ?_; rintro ev w4b ⟨rfl, hb4b⟩; have HB4 := Lib.hid (HB4.out.trans (hb4b.mono HB4.out.size)); have HA4 := Lib.hid (HA4.out.below hb4b); clear hb4b; rw [HS00.out, ← HNIL.out HXN.out])
          | (go_at_call 10; have hh := tk2.out; clear hh; refine (wrap_any ⟨op, ⟨#[]⟩, -1⟩ HA4.out (ifc_num e) HV0.out).mono ?_; rintro ev w5 ⟨rfl, hA5, hb5⟩; have HB5 := Lib.hid (HB4.out.trans (hb5.mono HB4.out.size)); have HA5 := Lib.hid hA5; have HA5b := Lib.hid (HA4.out.below hb5); clear hb5 hA5 tk2)
          | (go_at_call 15; have hh := tk3.out; clear hh; refine (text_any (HSS.out.below HB5.out) HA5.out (plain_num e) (ifc_num e) (by have := HXL.out; simp; omega) (HTX.out _ HB5.out) HF1.out (by have := HH1.out; have := HSE.out; rw [HS00.out] at this; omega)).mono ?_; rintro ev w6 ⟨rfl, hb6⟩; have HB6 := Lib.hid (HB5.out.trans (hb6.mono HB5.out.size)); have HA6 := Lib.hid (HA5b.out.below hb6); clear hb6 tk3; rw [HE1.out])
          | (go_at_call 10; have hh := tk4.out; clear hh; refine (wrap_any ⟨op, sX, 0⟩ HA6.out (ifc_num e) HV0.out).mono ?_; rintro ev w7 ⟨rfl, hA7, hb7⟩; have HB7 := Lib.hid (HB6.out.trans (hb7.mono HB6.out.size)); have HA7 := Lib.hid hA7; clear hb7 hA7 tk4)
          | (go_at_call 15; have hh := tk5.out; clear hh; refine (text_any (HSS.out.below HB7.out) HA7.out (plain_num e) (ifc_num e) (by have := HXL.out; simp; omega) (HTX.out _ HB7.out) HF2.out (by have := HH2.out; have := HSE.out; rw [HS00.out] at this; omega)).mono ?_; rintro ev w8 ⟨rfl, hb8⟩; have HB8 := Lib.hid (HB7.out.trans (hb8.mono HB7.out.size)); clear hb8 tk5; rw [HE2.out]))
        go_ret
        exact ⟨rfl, HB8.out⟩
      | cons x0 xr =>
        have hlen0 : xs.length ≠ 0 := by rw [hxs]; simp
        rw [← hxs]
        clear hxs
        go_enter Tryd.func5, Tryd.ntmps5
        go_wp2_with (first
          | (go_at_call 7; refine HW.out.mono ?_; rintro ev w1 ⟨rfl, hb1⟩; have HB1 := Lib.hid hb1; clear hb1 HW)
          | (go_at_call 17; refine (heavy_any A cap xs _ (fun i hi => by obtain ⟨b, off, h1, h2, h3⟩ := HX.out.below HB1.out i hi; exact ⟨b, off, h1, Nat.lt_of_lt_of_le h2 HB1.out.size, h3⟩) HL.out HC.out).mono ?_; rintro ev w2 ⟨rfl, hb2⟩; have HB2 := Lib.hid (HB1.out.trans (hb2.mono HB1.out.size)); clear hb2; rw [HD.out])
          | (go_at_call 20; refine (made_any A cap xs e _ (fun i hi => by obtain ⟨b, off, h1, h2, h3⟩ := HX.out.below HB2.out i hi; exact ⟨b, off, h1, Nat.lt_of_lt_of_le h2 HB2.out.size, h3⟩) HL.out HC.out).mono ?_; rintro ev w3 ⟨v, rfl, hA3, hv0, hb3⟩; have HB3 := Lib.hid (HB2.out.trans (hb3.mono HB2.out.size)); have HA3 := Lib.hid hA3; have HV0 := Lib.hid hv0; clear hb3 hA3 hv0)
          | (go_at_call 15; have hh := tk1.out; clear hh; refine (text_any (HSS.out.below HB3.out) HA3.out (plain_num e) (ifc_num e) HN.out (HTX.out _ HB3.out) HFN.out (by have := HHD.out; have := HSE.out; rw [HS00.out] at this; omega)).mono ?_; rintro ev w4 ⟨rfl, hb4⟩; have HB4 := Lib.hid (HB3.out.trans (hb4.mono HB3.out.size)); have HA4 := Lib.hid (HA3.out.below hb4); clear hb4 tk1; rw [HTT.out])
          | (go_at_call 10; have hh := tk2.out; clear hh; refine (wrap_any ⟨op, ⟨#[]⟩, -1⟩ HA4.out (ifc_num e) HV0.out).mono ?_; rintro ev w5 ⟨rfl, hA5, hb5⟩; have HB5 := Lib.hid (HB4.out.trans (hb5.mono HB4.out.size)); have HA5 := Lib.hid hA5; have HA5b := Lib.hid (HA4.out.below hb5); clear hb5 hA5 tk2)
          | (go_at_call 15; have hh := tk3.out; clear hh; refine (text_any (HSS.out.below HB5.out) HA5.out (plain_num e) (ifc_num e) (by have := HXL.out; simp; omega) (HTX.out _ HB5.out) HF1.out (by have := HH1.out; have := HSE.out; rw [HS00.out] at this; omega)).mono ?_; rintro ev w6 ⟨rfl, hb6⟩; have HB6 := Lib.hid (HB5.out.trans (hb6.mono HB5.out.size)); have HA6 := Lib.hid (HA5b.out.below hb6); clear hb6 tk3; rw [HE1.out])
          | (go_at_call 10; have hh := tk4.out; clear hh; refine (wrap_any ⟨op, sX, 0⟩ HA6.out (ifc_num e) HV0.out).mono ?_; rintro ev w7 ⟨rfl, hA7, hb7⟩; have HB7 := Lib.hid (HB6.out.trans (hb7.mono HB6.out.size)); have HA7 := Lib.hid hA7; clear hb7 hA7 tk4)
          | (go_at_call 15; have hh := tk5.out; clear hh; refine (text_any (HSS.out.below HB7.out) HA7.out (plain_num e) (ifc_num e) (by have := HXL.out; simp; omega) (HTX.out _ HB7.out) HF2.out (by have := HH2.out; have := HSE.out; rw [HS00.out] at this; omega)).mono ?_; rintro ev w8 ⟨rfl, hb8⟩; have HB8 := Lib.hid (HB7.out.trans (hb8.mono HB7.out.size)); clear hb8 tk5; rw [HE2.out]))
        go_ret
        exact ⟨rfl, HB8.out⟩

end Go.Proofs.YtfgbboknhlomgaaDoor.Fault
