import Derived.Test.YthaafniahkejkaaFA
import Derived.Test.YthaafniahkejkaaB22
import Derived.Test.YthaafniahkejkaaW7
/-
  The walks of Size, mayNumber, checksum, Make.
-/
namespace Go.Proofs.Ythaafniahkejkaa.Frame
open Go Go.RowKit
open Go.Proofs.Ythaafniahkejkaa.Crc (W V ofW addW fourL add_append of_any add_any)
open Go.Proofs.Ythaafniahkejkaa.Wire (fixB be S S_list S_size lowB U Wr Only u32_any u64_any low_any raw_any bytes_any)

/-- how many bytes a frame has whose payload has n -/
def szI (n : Int) : Int := if 1 ≤ n ∧ n ≤ 4096 then 16 + n else 0
theorem Size_any (n : Int) (w : World) :
    Calls Try.prog 13 #[.int .i64 n] w fun e w' => e = .returned (.int .i64 (szI n)) ∧ w = w' := by
  by_cases h1 : n < 1
  · have hs : szI n = 0 := if_neg (by omega)
    rw [hs]
    go_enter Try.func13, Try.ntmps13
    go_wp2_with fail
    go_ret
    exact ⟨rfl, rfl⟩
  · by_cases h2 : 4096 < n
    · have hs : szI n = 0 := if_neg (by omega)
      rw [hs]
      go_enter Try.func13, Try.ntmps13
      go_wp2_with fail
      go_ret
      exact ⟨rfl, rfl⟩
    · have hs : szI n = 16 + n := if_pos (by omega)
      have hw : IntKind.i64.wrap (16 + n) = 16 + n := IntWalk.i64_in _ (by omega)
      rw [hs]
      go_enter Try.func13, Try.ntmps13
      go_wp2_with fail
      go_ret
      exact ⟨rfl, rfl⟩
/-- may it be a number -/
def mayQ (q : Int) : Bool := decide (0 ≤ q ∧ q < 1048576)
theorem mayNumber_any (q : Int) (w : World) :
    Calls Try.prog 26 #[.int .i64 q] w fun e w' => e = .returned (.bool (mayQ q)) ∧ w = w' := by
  by_cases h1 : 0 ≤ q
  · by_cases h2 : q < 1048576
    · have hs : mayQ q = true := decide_eq_true ⟨h1, h2⟩
      rw [hs]
      go_enter Try.func26, Try.ntmps26
      go_wp2_with fail
      go_ret
      exact ⟨rfl, rfl⟩
    · have hs : mayQ q = false := decide_eq_false (fun h => h2 h.2)
      rw [hs]
      go_enter Try.func26, Try.ntmps26
      go_wp2_with fail
      go_ret
      exact ⟨rfl, rfl⟩
  · have hs : mayQ q = false := decide_eq_false (fun h => h1 h.1)
    rw [hs]
    go_enter Try.func26, Try.ntmps26
    go_wp2_with fail
    go_ret
    exact ⟨rfl, rfl⟩
theorem sum_two (h p : List UInt8) : addW (ofW h) p = sumW h p := by unfold sumW ofW; rw [add_append]
theorem checksum_any (s t : ByteArray) (w : World) (hs : s.size ≤ maxLen) (ht : t.size ≤ maxLen) :
    Calls Try.prog 28 #[.string s, .string t] w fun e w' => e = .returned (.int .u32 (V (sumW s.data.toList t.data.toList))) ∧ Below w.heap.size w w' := by
  have HS := Lib.hid hs
  have HT := Lib.hid ht
  clear hs ht
  go_enter Try.func28, Try.ntmps28
  go_wp2_with fail
  refine (of_any s w HS.out).mono ?_
  rintro e w1 ⟨rfl, hb1⟩
  have HB1 := Lib.hid hb1; clear hb1
  go_wp2_with fail
  refine (add_any (ofW s.data.toList) t _ rfl w1 HT.out).mono ?_
  rintro e w2 ⟨rfl, hb2⟩
  have HB2 := Lib.hid hb2; clear hb2
  rw [sum_two]
  go_wp2_with fail
  go_ret
  exact ⟨rfl, HB1.out.trans (HB2.out.mono HB1.out.size)⟩
theorem U_V (c : W) : V c = U c.toNat := rfl
/-- what Make tells -/
def mkV (q : Int) (s : ByteArray) : Ending := .returned (.tuple #[.string (S (mkB q s.data.toList)), .int .i64 (mkE q s.data.toList : Int)])
theorem s_len (s : ByteArray) : s.data.toList.length = s.size := by simp
set_option maxRecDepth 100000 in
set_option maxHeartbeats 1000000 in
theorem Make_any (q : Int) (s : ByteArray) (hs : s.size ≤ 1000000000000) (w : World) :
    Calls Try.prog 14 #[.int .i64 q, .string s] w fun e w' => e = mkV q s ∧ Below w.heap.size w w' := by
  have HMQ := fun W => mayNumber_any q W
  have HB0 := Lib.hid (Below.refl w.heap.size w)
  have HL := Lib.hid (s_len s)
  by_cases hq : 0 ≤ q ∧ q < 1048576
  · have hm : mayQ q = true := decide_eq_true hq
    by_cases h0 : s.size = 0
    · have hV : mkV q s = .returned (.tuple #[.string ByteArray.empty, .int .i64 4]) := by
        unfold mkV mkB mkE; rw [if_pos hq, s_len, if_pos h0]; rfl
      have HV := Lib.hid hV
      have he : s = ⟨#[]⟩ := by
        have := s_len s; rw [h0] at this
        have := List.eq_nil_of_length_eq_zero this
        cases s with | mk d => cases d with | mk l => simp at this; subst this; rfl
      subst he
      clear hV
      rw [hm] at HMQ
      go_enter Try.func14, Try.ntmps14
      go_wp2_with (go_at_call 26; refine (HMQ _).mono ?_; rintro e w1 ⟨rfl, rfl⟩)
      go_ret2
      exact ⟨HV.out.symm, HB0.out⟩
    · have hne : ¬ s.toList = [] := fun h => h0 (by rw [ByteArray.toList_eq] at h; rw [← s_len, h]; rfl)
      have hne2 : (s.toList == []) = false := beq_eq_false_iff_ne.2 hne
      by_cases h1 : 4096 < s.size
      · have hV : mkV q s = .returned (.tuple #[.string ByteArray.empty, .int .i64 40]) := by
          unfold mkV mkB mkE; rw [if_pos hq, s_len, if_neg h0, if_pos h1]; rfl
        have HV := Lib.hid hV
        clear hV
        rw [hm] at HMQ
        go_enter Try.func14, Try.ntmps14
        go_wp2_with (go_at_call 26; refine (HMQ _).mono ?_; rintro e w1 ⟨rfl, rfl⟩)
        go_ret2
        exact ⟨HV.out.symm, HB0.out⟩
      · have hE : mkE q s.data.toList = 0 := mkE_ok hq.1 hq.2 (by rw [s_len]; omega) (by rw [s_len]; omega)
        have hV : mkV q s = .returned (.tuple #[.string (S (frB q.toNat s.data.toList)), .int .i64 0]) := by
          unfold mkV mkB; rw [if_pos hE, hE]; rfl
        have HV := Lib.hid hV
        have w1 : IntKind.u32.wrap (s.size : Int) = U s.size := by rw [IntKind.wrap_u32]; unfold U; omega
        have w2 : IntKind.u64.wrap q = U q.toNat := by rw [IntKind.wrap_u64]; unfold U; omega
        have w3 : (s.size : Int) % 4294967296 = U s.size := by unfold U; omega
        have w4 : q % 18446744073709551616 = U q.toNat := by unfold U; omega
        have HN1 : Hid (s.size < 4294967296) := Lib.hid (by omega)
        have HS := Lib.hid (show s.size ≤ 4096 by omega)
        have HWN := Lib.hid (Wr.new (w := w) (Nat.le_refl _))
        have HON := Lib.hid ((Only.refl w.heap.size w).alloc (Nat.le_refl _) (.cells #[.pointer none, .int .i64 0] 67))
        clear hV hE
        rw [hm] at HMQ
        go_enter Try.func14, Try.ntmps14
        go_wp2_with (go_at_call 26; refine (HMQ _).mono ?_; rintro e w1 ⟨rfl, rfl⟩)
        refine (u32_any _ _ _ _ s.size HWN.out (by decide) _ rfl HN1).mono ?_
        rintro e W1 ⟨rfl, hw1, ho1⟩
        replace HON := Lib.hid (HON.out.trans ho1)
        replace HWN := Lib.hid hw1
        clear hw1 ho1
        go_wp2_with fail
        refine (u64_any _ _ _ _ q.toNat HWN.out (by rw [List.nil_append, Wire.fixB_length]; decide) _ rfl).mono ?_
        rintro e W2 ⟨rfl, hw1, ho1⟩
        replace HON := Lib.hid (HON.out.trans ho1)
        replace HWN := Lib.hid hw1
        clear hw1 ho1
        have hhd : [] ++ fixB 4 s.size ++ fixB 8 q.toNat = headB s.data.toList.length q.toNat := by rw [s_len]; rfl
        rw [hhd] at HWN
        clear hhd
        go_wp2_with fail
        refine (bytes_any _ _ _ _ HWN.out).mono ?_
        rintro e w' ⟨rfl, nq, rfl⟩
        go_wp2_with fail
        refine (checksum_any (S (headB s.data.toList.length q.toNat)) s _ (by rw [S_size, headB_length]; decide) (by have := HS.out; unfold maxLen; omega)).mono ?_
        rintro e W3 ⟨rfl, hb⟩
        rw [S_list]
        have HO3 := Lib.hid ((HON.out.drewN nq).trans (Only.of_below hb (HON.out.drewN nq).below.size))
        have HW3 := Lib.hid ((HWN.out.drewN nq).below hb)
        clear HON HWN hb
        generalize hc : sumW (headB s.data.toList.length q.toNat) s.data.toList = c
        have HC := Lib.hid hc
        clear hc
        have HCL : Hid (c.toNat < 4294967296) := Lib.hid c.isLt
        go_wp2_with fail
        refine (low_any _ _ _ _ c.toNat HW3.out (by rw [headB_length]; decide) _ rfl HCL).mono ?_
        rintro e W4 ⟨rfl, hw1, ho1⟩
        replace HO3 := Lib.hid (HO3.out.trans ho1)
        replace HW3 := Lib.hid hw1
        clear hw1 ho1
        go_wp2_with fail
        refine (raw_any _ _ _ _ s HW3.out (by have := HS.out; rw [List.length_append, headB_length, Wire.lowB_length]; omega)).mono ?_
        rintro e W5 ⟨rfl, hw1, ho1⟩
        replace HO3 := Lib.hid (HO3.out.trans ho1)
        replace HW3 := Lib.hid hw1
        clear hw1 ho1
        go_wp2_with fail
        refine (bytes_any _ _ _ _ HW3.out).mono ?_
        rintro e w' ⟨rfl, nr, rfl⟩
        have HF : Hid (headB s.data.toList.length q.toNat ++ lowB c.toNat ++ s.data.toList = frB q.toNat s.data.toList) := by
          refine Lib.hid ?_
          unfold frB; rw [HC.out, fourL_low, List.append_assoc]
        rw [HF.out]
        go_wp2_with fail
        go_ret2
        exact ⟨HV.out.symm, (HO3.out.drewN nr).below⟩
  · have hm : mayQ q = false := decide_eq_false hq
    have hV : mkV q s = .returned (.tuple #[.string ByteArray.empty, .int .i64 1]) := by
      unfold mkV mkB mkE; rw [if_neg hq]; rfl
    have HV := Lib.hid hV
    clear hV
    rw [hm] at HMQ
    go_enter Try.func14, Try.ntmps14
    go_wp2_with (go_at_call 26; refine (HMQ _).mono ?_; rintro e w1 ⟨rfl, rfl⟩)
    go_ret2
    exact ⟨HV.out.symm, HB0.out⟩
end Go.Proofs.Ythaafniahkejkaa.Frame
