/-
  The Reader's calls: U8 to U64, Low, Short, Raw, Text.
-/
import Derived.Test.YthaafniahkejkaaB11
namespace Go.Proofs.Ythaafniahkejkaa.Wire
open Go.RowKit

def fxV (s : ByteArray) (i e k : Nat) : Nat := be (tkT s i e k).data.toList
theorem fxV_lt (s : ByteArray) (i e k : Nat) : fxV s i e k < 256 ^ k := by
  have h := beT_lt (tkT s i e k) (tkT s i e k).size
  rw [beT_all _ _ (Nat.le_refl _)] at h
  have h2 := Nat.pow_le_pow_right (n := 256) (by decide) (tkT_size s i e k)
  unfold fxV; omega

theorem ru32_any (r : Nat) (s : ByteArray) (i e : Nat) (w : World) (hrd : Rd w r s i e) (hi : i ≤ s.size) (hs : s.size ≤ 1000000000000) :
    Calls Try.prog 22 #[.pointer (some ⟨r, 0, none⟩)] w fun x w' => x = .returned (.int .u32 (U (fxV s i e 4))) ∧ Step w w' r s (tkI s i e 4) (tkE s i e 4) := by
  go_enter Try.func22, Try.ntmps22
  go_wp2_with fail
  refine (rfix32 r s i e w hrd hi hs).mono ?_; rintro x w1 ⟨rfl, hst⟩
  have HST := Lib.hid hst; clear hst
  go_wp2_with fail
  go_ret
  exact ⟨rfl, HST.out⟩
theorem ru64_any (r : Nat) (s : ByteArray) (i e : Nat) (w : World) (hrd : Rd w r s i e) (hi : i ≤ s.size) (hs : s.size ≤ 1000000000000) :
    Calls Try.prog 23 #[.pointer (some ⟨r, 0, none⟩)] w fun x w' => x = .returned (.int .u64 (U (fxV s i e 8))) ∧ Step w w' r s (tkI s i e 8) (tkE s i e 8) := by
  go_enter Try.func23, Try.ntmps23
  go_wp2_with fail
  refine (rfix64 r s i e w hrd hi hs).mono ?_; rintro x w1 ⟨rfl, hst⟩
  have HST := Lib.hid hst; clear hst
  go_wp2_with fail
  go_ret
  exact ⟨rfl, HST.out⟩
theorem rlow_any (r : Nat) (s : ByteArray) (i e : Nat) (w : World) (hrd : Rd w r s i e) (hi : i ≤ s.size) (hs : s.size ≤ 1000000000000) :
    Calls Try.prog 24 #[.pointer (some ⟨r, 0, none⟩)] w fun x w' => x = .returned (.int .u32 (U (revN (fxV s i e 4)))) ∧ Step w w' r s (tkI s i e 4) (tkE s i e 4) := by
  have hlt : Hid (fxV s i e 4 < 4294967296) := fxV_lt s i e 4
  go_enter Try.func24, Try.ntmps24
  go_wp2_with fail
  refine (ru32_any r s i e w hrd hi hs).mono ?_; rintro x w1 ⟨rfl, hst⟩
  have HST := Lib.hid hst; clear hst
  go_wp2_with fail
  refine (reverse_any _ hlt w1).mono ?_; rintro x w2 ⟨rfl, rfl⟩
  go_wp2_with fail
  go_ret
  exact ⟨rfl, HST.out⟩

/-! ### Raw -/
theorem take_zero (r : Nat) (s : ByteArray) (i e : Nat) (w : World) (h : Rd w r s i e) (hi : i ≤ s.size) (hs : s.size ≤ 1000000000000) :
    Calls Try.prog 44 #[.pointer (some ⟨r, 0, none⟩), .int .i64 0] w fun x w' => x = .returned (.string (tkT s i e 0)) ∧ Step w w' r s (tkI s i e 0) (tkE s i e 0) :=
  take_any r s i e 0 w h hi hs
set_option maxHeartbeats 400000 in
theorem rraw_any (r : Nat) (s : ByteArray) (i e : Nat) (n : Int) (w : World) (hrd : Rd w r s i e) (hi : i ≤ s.size) (hs : s.size ≤ 1000000000000) :
    Calls Try.prog 27 #[.pointer (some ⟨r, 0, none⟩), .int .i64 n] w fun x w' => x = .returned (.string (tkT s i e n.toNat)) ∧ Step w w' r s (tkI s i e n.toNat) (tkE s i e n.toNat) := by
  have hT : (tkT s i e n.toNat).size ≤ 281474976710656 := by
    unfold tkT; split
    · rw [ByteArray.size_extract]; omega
    · exact Nat.zero_le _
  have HT := Lib.hid hT; clear hT
  by_cases hn : 0 ≤ n
  · obtain ⟨k, rfl⟩ : ∃ k : Nat, n = (k : Int) := ⟨n.toNat, by omega⟩
    rw [Int.toNat_natCast] at *
    go_enter Try.func27, Try.ntmps27
    go_wp2_with fail
    refine (take_any r s i e k w hrd hi hs).mono ?_; rintro x w1 ⟨rfl, hst⟩
    have HST := Lib.hid hst; clear hst
    go_wp2_with fail
    refine (clone_any _ w1 HT.out).mono ?_; rintro x w2 ⟨rfl, hb⟩
    have HB := Lib.hid hb; clear hb
    go_wp2_with fail
    go_ret
    exact ⟨rfl, HST.out.below HB.out⟩
  · have e0 : n.toNat = 0 := by omega
    have HT0 : Hid ((tkT s i e 0).size ≤ 281474976710656) := by have := HT.out; rw [e0] at this; exact this
    rw [e0]
    clear e0 HT
    have hn2 : max n 0 = 0 := by omega
    clear hn
    go_enter Try.func27, Try.ntmps27
    go_wp2_with fail
    refine (take_zero r s i e w hrd hi hs).mono ?_; rintro x w1 ⟨rfl, hst⟩
    have HST := Lib.hid hst; clear hst
    go_wp2_with fail
    refine (clone_any _ w1 HT0.out).mono ?_; rintro x w2 ⟨rfl, hb⟩
    have HB := Lib.hid hb; clear hb
    go_wp2_with fail
    go_ret
    exact ⟨rfl, HST.out.below HB.out⟩

/-! ### Short -/
/-- (number, where it stands then, the error) -/
def shR (s : ByteArray) (i e m : Nat) : Nat × Nat × Nat :=
  if e = 0 then (if m < (scan (s.data.toList.drop i) 0 0).1 then (0, i, 40) else ((scan (s.data.toList.drop i) 0 0).1, i + (scan (s.data.toList.drop i) 0 0).2.1, (scan (s.data.toList.drop i) 0 0).2.2)) else (0, i, e)
theorem scan_size : ∀ (l : List UInt8) (i acc : Nat), (scan l i acc).2.1 ≤ i + l.length
  | [], _, _ => by rw [scan]; exact Nat.zero_le _
  | b :: l, i, acc => by
    rw [scan, List.length_cons]
    split
    · exact Nat.zero_le _
    · split
      · show i + 1 ≤ _; omega
      · have := scan_size l (i + 1) (acc + 128 ^ i * (b.toNat % 128)); omega
/-! ### Text -/
/-- (text, where it stands then, the error) -/
def txR (s : ByteArray) (i e m : Nat) : ByteArray × Nat × Nat :=
  (tkT s (shR s i e m).2.1 (shR s i e m).2.2 (shR s i e m).1, if tkE s (shR s i e m).2.1 (shR s i e m).2.2 (shR s i e m).1 = 0 then tkI s (shR s i e m).2.1 (shR s i e m).2.2 (shR s i e m).1 else i, tkE s (shR s i e m).2.1 (shR s i e m).2.2 (shR s i e m).1)
theorem shR_le (s : ByteArray) (i e m : Nat) (hi : i ≤ s.size) : (shR s i e m).2.1 ≤ s.size := by
  unfold shR
  split
  · split
    · exact hi
    · have := scan_size (s.data.toList.drop i) 0 0
      rw [List.length_drop] at this
      have e : s.data.toList.length = s.size := rfl
      show i + _ ≤ _
      omega
  · exact hi
theorem shR_most (s : ByteArray) (i e m : Nat) : (shR s i e m).1 ≤ m := by
  unfold shR
  split
  · split
    · exact Nat.zero_le _
    · show (scan _ 0 0).1 ≤ m; omega
  · exact Nat.zero_le _
theorem wrapM (m : Int) (h0 : 0 ≤ m) (h : m ≤ 9223372036854775807) : IntKind.u64.wrap m = U m.toNat := by rw [IntKind.wrap_u64]; unfold U; omega
theorem wrapI (n : Nat) (h : n ≤ 9223372036854775807) : IntKind.i64.wrap (U n) = (n : Int) := by unfold U; exact IntWalk.i64_in _ (by omega)
/-! ### nobody's Reader -/
theorem below_refl' (w : World) : Below w.heap.size w w := Below.refl _ _
theorem rraw_nil (n : Int) (w : World) : Calls Try.prog 27 #[.pointer none, .int .i64 n] w fun x w' => x = .returned (.string ⟨#[]⟩) ∧ Below w.heap.size w w' := by
  go_enter Try.func27, Try.ntmps27
  go_wp2_with fail
  refine (take_nil _ w).mono ?_; rintro x w1 ⟨rfl, rfl⟩
  go_wp2_with fail
  refine (clone_any _ w (by decide)).mono ?_; rintro x w2 ⟨rfl, hb⟩
  go_wp2_with fail
  go_ret
  exact ⟨rfl, hb⟩
end Go.Proofs.Ythaafniahkejkaa.Wire
