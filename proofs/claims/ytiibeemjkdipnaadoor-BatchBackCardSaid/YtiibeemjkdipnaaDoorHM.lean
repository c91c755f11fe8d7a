import Derived.Test.YtiibeemjkdipnaaDoorHL
/-
  The walks of the statements BatchCut and BatchBack.
-/
namespace Go.Proofs.YtiibeemjkdipnaaDoor.Batch
open Go Go.RowKit
open Go.Proofs.YtiibeemjkdipnaaDoor.Schema

theorem S_add (l : List UInt8) (t : ByteArray) : (Wire.S l ++ t).data.toList = l ++ t.data.toList := Schema.S_add l t
theorem S_cut (l : List UInt8) (k : Nat) : ((Wire.S l).extract 0 k).data.toList = l.take k := Schema.S_cut l k

set_option maxRecDepth 100000 in
set_option maxHeartbeats 4000000 in
theorem cut_any (A : Option Addr) (ca : Nat) (xs : List Lx) (at' : Int) (t : ByteArray) (w : World) (hx : Row w A xs) (lx : xs.length ≤ ca) (mx : ca ≤ maxLen) (nx : A = none → ca = 0) (rx : xs.length ≤ 2513169434917 ∧ ∀ z ∈ xs, Light z) (w1 : (Lit.int .i64 at').wf = true) (w2 : t.size ≤ maxLen) (E : Env w) :
    Calls Tryd.prog 6 #[.slice A xs.length ca, .int .i64 at', .string t] w fun z w' => z = .returned (.bool true) ∧ Below w.heap.size w w' := by
  have HE := Lib.hid E
  have HX := Lib.hid hx
  have HR := Lib.hid rx
  clear E hx lx mx nx rx
  go_enter Tryd.func6, Tryd.ntmps6
  have HW := Lib.hid (works_any w HE.out)
  go_wp2_with (go_at_call 7; refine HW.out.mono ?_)
  rintro z W1 ⟨rfl, hb⟩
  replace HE := Lib.hid (HE.out.below hb)
  replace HX := Lib.hid (HX.out.below hb)
  have HB := Lib.hid hb
  clear hb HW
  have HW := Lib.hid (heavy_any A ca xs HR.out.1 HR.out.2 W1 HX.out)
  go_wp2_with (go_at_call 18; refine HW.out.mono ?_)
  rintro z W2 ⟨b1, rfl, hl1, hb⟩
  replace HE := Lib.hid (HE.out.below hb)
  replace HX := Lib.hid (HX.out.below hb)
  replace HB := Lib.hid (below_step HB.out hb)
  clear hb HW
  cases b1 with
  | true =>
    clear hl1
    have HW := Lib.hid (works_any W2 HE.out)
    go_wp2_with (go_at_call 7; refine HW.out.mono ?_)
    rintro z W3 ⟨rfl, hb⟩
    replace HB := Lib.hid (below_step HB.out hb)
    clear hb HW
    go_wp2_with fail
    go_ret
    exact ⟨rfl, HB.out⟩
  | false =>
  have HL := Lib.hid (hl1 rfl)
  clear hl1
  by_cases hn : 2000 < t.size
  · have z4 : decide ((t.size : Int) > 2000) = true := decide_eq_true (by omega)
    have z5 : decide ((2000 : Int) < (t.size : Int)) = true := decide_eq_true (by omega)
    have z6 : (2000 : Int) < (t.size : Int) := by omega
    clear hn
    have HW := Lib.hid (works_any W2 HE.out)
    go_wp2_with (go_at_call 7; refine HW.out.mono ?_)
    rintro z W3 ⟨rfl, hb⟩
    replace HB := Lib.hid (below_step HB.out hb)
    clear hb HW
    go_wp2_with fail
    go_ret
    exact ⟨rfl, HB.out⟩
  have z4 : decide ((t.size : Int) > 2000) = false := decide_eq_false (by omega)
  have z5 : decide ((2000 : Int) < (t.size : Int)) = false := decide_eq_false (by omega)
  have z6 : ¬ (2000 : Int) < (t.size : Int) := by omega
  have HBIG := Lib.hid (fun x hx => (HR.out.2 x hx).1 : ∀ x ∈ xs, x.e.ns.length ≤ 140737488355328)
  have HW := Lib.hid (Encode_any A ca xs (by have := HL.out; omega) HBIG.out W2 HX.out HE.out)
  go_wp2_with (go_at_call 9; refine HW.out.mono ?_)
  rintro z W3 ⟨rfl, hb⟩
  replace HE := Lib.hid (HE.out.below hb)
  replace HX := Lib.hid (HX.out.below hb)
  replace HB := Lib.hid (below_step HB.out hb)
  clear hb HW
  clear z4 z5 z6
  by_cases h1 : refN (xs.map (·.e)) = 0
  · have hm := refN_zero.1 h1
    rw [h1, encT_yes h1]
    have hlen := payB_le hm
    have hz : (payB (xs.map (·.e))).length = (Wire.S (payB (xs.map (·.e)))).size := (Codec.S_size _).symm
    have HC := Lib.hid (fun k (hk : k < (Wire.S (payB (xs.map (·.e)))).size) => dec_cut hm ((Wire.S (payB (xs.map (·.e)))).extract 0 k) k (S_cut _ k) (by omega))
    have HM := Lib.hid (fun (X : t.data.toList ≠ []) => (dec_more hm (Wire.S (payB (xs.map (·.e))) ++ t) t.data.toList (S_add _ t)).2.2 X)
    rw [hz] at hlen
    clear h1 hm hz
    generalize Wire.S (payB (xs.map (·.e))) = s at hlen HC HM ⊢
    obtain ⟨hlo, hup⟩ := hlen
    obtain ⟨k, hk, hkr⟩ : ∃ k : Nat, k < s.size ∧ (IntKind.u64.wrap at').tmod (s.size : Int) = (k : Int) := by
      have hw : 0 ≤ IntKind.u64.wrap at' := by rw [IntKind.wrap_u64]; omega
      refine ⟨((IntKind.u64.wrap at').tmod (s.size : Int)).toNat, ?_, ?_⟩
      · rw [Int.tmod_eq_emod_of_nonneg hw]
        have h1 := Int.emod_lt_of_pos (IntKind.u64.wrap at') (show (0 : Int) < (s.size : Int) by omega)
        have h2 := Int.emod_nonneg (IntKind.u64.wrap at') (show (s.size : Int) ≠ 0 by omega)
        omega
      · rw [Int.tmod_eq_emod_of_nonneg hw]
        have h2 := Int.emod_nonneg (IntKind.u64.wrap at') (show (s.size : Int) ≠ 0 by omega)
        omega
    have z1 : IntKind.u64.wrap (s.size : Int) = (s.size : Int) := by rw [IntKind.wrap_u64]; omega
    have z2 : IntKind.i64.wrap (k : Int) = (k : Int) := by rw [IntKind.wrap_i64]; omega
    have z2b : IntKind.u64.wrap (k : Int) = (k : Int) := by rw [IntKind.wrap_u64]; omega
    have z3 : ((s.size : Int) == 0) = false := beq_eq_false_iff_ne.2 (by omega)
    have z4 : (k : Int) ≤ (s.size : Int) := by omega
    have z5 : (0 : Int) ≤ (k : Int) := by omega
    have z6 : ¬ (s.size : Int) = 0 := by omega
    have z7 : (s.size == 0) = false := beq_eq_false_iff_ne.2 (by omega)
    have HW := Lib.hid (refused_yes (s.extract 0 k) 8 (HC.out k hk) (by decide) (by rw [ByteArray.size_extract]; omega) W3 HE.out)
    go_wp2_with (go_at_call 16; refine HW.out.mono ?_)
    rintro z W4 ⟨rfl, hb⟩
    replace HE := Lib.hid (HE.out.below hb)
    replace HB := Lib.hid (below_step HB.out hb)
    clear hb HW
    clear z1 z2 z2b z3 z4 z5 z6 z7 hkr
    by_cases ht : t.size = 0
    · obtain rfl : t = ⟨#[]⟩ := by
        apply Wire.ba_ext
        exact List.eq_nil_of_length_eq_zero ht
      have q1 : ((ByteArray.mk #[]).toList == (ByteArray.mk #[]).toList) = true := by simp
      clear ht
      go_wp2_with fail
      go_ret
      exact ⟨rfl, HB.out⟩
    · have hne : t.data.toList ≠ [] := fun h => ht (by rw [← Wire.size_list, h]; rfl)
      have q1 : (t.toList == (ByteArray.mk #[]).toList) = false := by
        rw [str_eq]
        exact decide_eq_false fun h => ht (by rw [h]; rfl)
      have q2 : ¬ t.toList = [] := by rw [ByteArray.toList_eq]; exact hne
      have q3 : (t.toList == []) = false := by rw [beq_eq_false_iff_ne]; exact q2
      have HW := Lib.hid (refused_yes (s ++ t) 4 (HM.out hne) (by decide) (by rw [ByteArray.size_append]; omega) W4 HE.out)
      clear ht hne
      have z1 : s.size + t.size ≤ maxLen := by have : (1000000 : Nat) ≤ maxLen := by decide
                                               omega
      go_wp2_with (go_at_call 16; refine HW.out.mono ?_)
      rintro z W5 ⟨rfl, hb⟩
      replace HB := Lib.hid (below_step HB.out hb)
      clear hb HW
      go_wp2_with fail
      go_ret
      exact ⟨rfl, HB.out⟩
  · obtain ⟨q1, q2, q3, q4, q5⟩ := nat_ne h1
    clear h1
    go_wp2_with fail
    go_ret
    exact ⟨rfl, HB.out⟩

set_option maxRecDepth 100000 in
set_option maxHeartbeats 4000000 in
theorem back_any (A : Option Addr) (ca : Nat) (xs : List Lx) (p : ByteArray) (w : World) (hx : Row w A xs) (lx : xs.length ≤ ca) (mx : ca ≤ maxLen) (nx : A = none → ca = 0) (rx : xs.length ≤ 2513169434917 ∧ ∀ z ∈ xs, Light z) (w1 : p.size ≤ maxLen) (E : Env w) :
    Calls Tryd.prog 4 #[.slice A xs.length ca, .string p] w fun z w' => z = .returned (.bool true) ∧ Below w.heap.size w w' := by
  have HE := Lib.hid E
  have HX := Lib.hid hx
  have HR := Lib.hid rx
  clear E hx lx mx nx rx
  go_enter Tryd.func4, Tryd.ntmps4
  have HW := Lib.hid (works_any w HE.out)
  go_wp2_with (go_at_call 7; refine HW.out.mono ?_)
  rintro z W1 ⟨rfl, hb⟩
  replace HE := Lib.hid (HE.out.below hb)
  replace HX := Lib.hid (HX.out.below hb)
  have HB := Lib.hid hb
  clear hb HW
  have HW := Lib.hid (heavy_any A ca xs HR.out.1 HR.out.2 W1 HX.out)
  go_wp2_with (go_at_call 18; refine HW.out.mono ?_)
  rintro z W2 ⟨b1, rfl, hl1, hb⟩
  replace HE := Lib.hid (HE.out.below hb)
  replace HX := Lib.hid (HX.out.below hb)
  replace HB := Lib.hid (below_step HB.out hb)
  clear hb HW
  cases b1 with
  | true =>
    clear hl1
    have HW := Lib.hid (works_any W2 HE.out)
    go_wp2_with (go_at_call 7; refine HW.out.mono ?_)
    rintro z W3 ⟨rfl, hb⟩
    replace HB := Lib.hid (below_step HB.out hb)
    clear hb HW
    go_wp2_with fail
    go_ret
    exact ⟨rfl, HB.out⟩
  | false =>
  have HL := Lib.hid (hl1 rfl)
  clear hl1
  by_cases hn : 5000 < p.size
  · have z4 : decide ((p.size : Int) > 5000) = true := decide_eq_true (by omega)
    have z5 : decide ((5000 : Int) < (p.size : Int)) = true := decide_eq_true (by omega)
    have z6 : (5000 : Int) < (p.size : Int) := by omega
    clear hn
    have HW := Lib.hid (works_any W2 HE.out)
    go_wp2_with (go_at_call 7; refine HW.out.mono ?_)
    rintro z W3 ⟨rfl, hb⟩
    replace HB := Lib.hid (below_step HB.out hb)
    clear hb HW
    go_wp2_with fail
    go_ret
    exact ⟨rfl, HB.out⟩
  have z4 : decide ((p.size : Int) > 5000) = false := decide_eq_false (by omega)
  have z5 : decide ((5000 : Int) < (p.size : Int)) = false := decide_eq_false (by omega)
  have z6 : ¬ (5000 : Int) < (p.size : Int) := by omega
  have HBIG := Lib.hid (fun x hx => (HR.out.2 x hx).1 : ∀ x ∈ xs, x.e.ns.length ≤ 140737488355328)
  have HW := Lib.hid (Encode_any A ca xs (by have := HL.out; omega) HBIG.out W2 HX.out HE.out)
  go_wp2_with (go_at_call 9; refine HW.out.mono ?_)
  rintro z W3 ⟨rfl, hb⟩
  replace HE := Lib.hid (HE.out.below hb)
  replace HX := Lib.hid (HX.out.below hb)
  replace HB := Lib.hid (below_step HB.out hb)
  clear hb HW
  clear z4 z5 z6
  have HW := Lib.hid (May_any A ca xs (by have := HL.out; omega) HBIG.out W3 HX.out HE.out)
  by_cases h1 : refN (xs.map (·.e)) = 0
  · have hm := refN_zero.1 h1
    have hm2 := mayL_out hm
    rw [hm] at HW
    rw [h1, encT_yes h1]
    have hlen := payB_le hm
    have hd := dec_pay hm
    have hz : (payB (xs.map (·.e))).length = (Wire.S (payB (xs.map (·.e)))).size := (Codec.S_size _).symm
    rw [hz] at hlen
    have HSM := Lib.hid (fun x (hx : x ∈ xs) => Codec.may_lens (hm2.2.2.1 x.e (List.mem_map_of_mem hx)).1)
    clear h1 hm hz hm2
    generalize Wire.S (payB (xs.map (·.e))) = s at hlen hd ⊢
    obtain ⟨hlo, hup⟩ := hlen
    have HD1 := Lib.hid hd.1
    have HD2 := Lib.hid hd.2
    have HS := Lib.hid (And.intro hlo hup)
    clear hd hlo hup
    go_wp2_with (go_at_call 17; refine HW.out.mono ?_)
    rintro z W4 ⟨rfl, hb⟩
    replace HE := Lib.hid (HE.out.below hb)
    replace HX := Lib.hid (HX.out.below hb)
    replace HB := Lib.hid (below_step HB.out hb)
    clear hb HW
    have HW := Lib.hid (Decode_any s (by have := HS.out.2; omega) W4 HE.out)
    go_wp2_with (go_at_call 10; refine HW.out.mono ?_)
    rintro z W5 ⟨ys, B, bc, rfl, hy, ho, hl, -, hb⟩
    replace HE := Lib.hid (HE.out.below hb)
    replace HX := Lib.hid (HX.out.below hb)
    replace HB := Lib.hid (below_step HB.out hb)
    have HYR := Lib.hid (row_of ho hl)
    have hyx : ys.map (·.e) = xs.map (·.e) := hy.trans HD2.out
    have hs := sameL_iff.2 hyx
    have hyl : ys.length ≤ 4000 := by have h3 := congrArg List.length hyx; rw [List.length_map, List.length_map] at h3; have := HL.out; omega
    have hyb : Big ys := fun y hyy => by
      have h3 : y.e ∈ xs.map (·.e) := by rw [← hyx]; exact List.mem_map_of_mem hyy
      obtain ⟨x, hx, h4⟩ := List.mem_map.1 h3
      rw [← h4]
      have := HSM.out x hx
      omega
    have hc := lsame_any B bc ys A ca xs (by omega) hyb W5 HYR.out HX.out
    rw [hs] at hc
    rw [HD1.out]
    clear hb HW ho hl hy hyx hs hyl hyb
    have HW := Lib.hid hc
    clear hc
    go_wp2_with (go_at_call 19; refine HW.out.mono ?_)
    rintro z W6 ⟨rfl, hb⟩
    replace HE := Lib.hid (HE.out.below hb)
    replace HB := Lib.hid (below_step HB.out hb)
    clear hb HW
    have z4 : decide ((s.size : Int) > 4096) = false := decide_eq_false (by have := HS.out.2; omega)
    have z5 : decide ((4096 : Int) < (s.size : Int)) = false := decide_eq_false (by have := HS.out.2; omega)
    have z6 : ¬ (4096 : Int) < (s.size : Int) := by have := HS.out.2; omega
    clear HX HYR
    have HW := Lib.hid (Decode_any p (by omega) W6 HE.out)
    go_wp2_with (go_at_call 10; refine HW.out.mono ?_)
    rintro z V1 ⟨ms, M, mc, rfl, hmy, ho, hml, -, hb⟩
    replace HE := Lib.hid (HE.out.below hb)
    replace HB := Lib.hid (below_step HB.out hb)
    have HMR := Lib.hid (row_of ho hml)
    have HMY := Lib.hid hmy
    clear hb HW ho hml hmy
    by_cases h2 : btW p = 0
    · have hbk := dec_back h2
      have hpe : Wire.S (payB (okL p)) = p := Wire.ba_ext hbk.2.1
      have hms : ms.map (·.e) = okL p := HMY.out.trans hbk.2.2
      have hmay : refN (ms.map (·.e)) = 0 := by rw [hms]; exact refN_zero.2 hbk.1
      have het : encT (ms.map (·.e)) = p := by rw [encT_yes hmay, hms, hpe]
      have hm2 := mayL_out hbk.1
      have hc := Encode_any M mc ms (by have h3 := congrArg List.length hms; rw [List.length_map] at h3; omega) (fun x hx => by have h3 := Codec.may_lens (hm2.2.2.1 x.e (by rw [← hms]; exact List.mem_map_of_mem hx)).1; omega) V1 HMR.out HE.out
      rw [hmay, het] at hc
      have HW := Lib.hid hc
      have q1 := toList_self p
      rw [h2]
      clear h2 hbk hpe hms hmay het hm2 hc
      go_wp2_with (go_at_call 9; refine HW.out.mono ?_)
      rintro z V2 ⟨rfl, hb⟩
      replace HB := Lib.hid (below_step HB.out hb)
      clear hb HW
      go_wp2_with fail
      go_ret
      exact ⟨rfl, HB.out⟩
    · have hms : ms.map (·.e) = [] := HMY.out.trans (if_neg h2)
      obtain rfl := List.map_eq_nil_iff.1 hms
      obtain ⟨q1, q2, q3, q4, q5⟩ := nat_ne h2
      clear h2 hms
      go_wp2_with fail
      go_ret
      exact ⟨rfl, HB.out⟩
  · have hm : mayL (xs.map (·.e)) = false := by cases hq : mayL (xs.map (·.e)) with | true => exact absurd (refN_zero.2 hq) h1 | false => rfl
    rw [hm] at HW
    obtain ⟨q1, q2, q3, q4, q5⟩ := nat_ne h1
    clear h1 hm
    go_wp2_with (go_at_call 17; refine HW.out.mono ?_)
    rintro z W4 ⟨rfl, hb⟩
    replace HE := Lib.hid (HE.out.below hb)
    replace HB := Lib.hid (below_step HB.out hb)
    clear hb HW
    have HW := Lib.hid (Decode_any p (by omega) W4 HE.out)
    go_wp2_with (go_at_call 10; refine HW.out.mono ?_)
    rintro z V1 ⟨ms, M, mc, rfl, hmy, ho, hml, -, hb⟩
    replace HE := Lib.hid (HE.out.below hb)
    replace HB := Lib.hid (below_step HB.out hb)
    have HMR := Lib.hid (row_of ho hml)
    have HMY := Lib.hid hmy
    clear hb HW ho hml hmy
    by_cases h2 : btW p = 0
    · have hbk := dec_back h2
      have hpe : Wire.S (payB (okL p)) = p := Wire.ba_ext hbk.2.1
      have hms : ms.map (·.e) = okL p := HMY.out.trans hbk.2.2
      have hmay : refN (ms.map (·.e)) = 0 := by rw [hms]; exact refN_zero.2 hbk.1
      have het : encT (ms.map (·.e)) = p := by rw [encT_yes hmay, hms, hpe]
      have hm2 := mayL_out hbk.1
      have hc := Encode_any M mc ms (by have h3 := congrArg List.length hms; rw [List.length_map] at h3; omega) (fun x hx => by have h3 := Codec.may_lens (hm2.2.2.1 x.e (by rw [← hms]; exact List.mem_map_of_mem hx)).1; omega) V1 HMR.out HE.out
      rw [hmay, het] at hc
      have HW := Lib.hid hc
      have q1 := toList_self p
      rw [h2]
      clear h2 hbk hpe hms hmay het hm2 hc
      go_wp2_with (go_at_call 9; refine HW.out.mono ?_)
      rintro z V2 ⟨rfl, hb⟩
      replace HB := Lib.hid (below_step HB.out hb)
      clear hb HW
      go_wp2_with fail
      go_ret
      exact ⟨rfl, HB.out⟩
    · have hms : ms.map (·.e) = [] := HMY.out.trans (if_neg h2)
      obtain rfl := List.map_eq_nil_iff.1 hms
      obtain ⟨q1, q2, q3, q4, q5⟩ := nat_ne h2
      clear h2 hms
      go_wp2_with fail
      go_ret
      exact ⟨rfl, HB.out⟩
end Go.Proofs.YtiibeemjkdipnaaDoor.Batch
