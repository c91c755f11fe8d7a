/-
  What an Item becomes by the document ('bytes').
-/
import Derived.Test.YtdllncbacbpedaaB16
namespace Go.Proofs.Ytdllncbacbpedaa.Wire
open Go.RowKit

set_option maxRecDepth 100000 in
set_option maxHeartbeats 1000000 in
theorem lbytes_any (w : World) (x : It) (hok : x.ok) (ht : x.t.size ≤ 1000000000000) :
    Calls Try.prog 37 #[x.val] w fun e w' => e = .returned (.string (S (wrB x))) ∧ Below w.heap.size w w' := by
  obtain ⟨k, n, t, m⟩ := x
  obtain ⟨hk, hn, _, hm1, hm2⟩ := hok
  simp only [] at hk hn ht hm1 hm2
  unfold It.val
  simp only []
  have HN : Hid (n < 18446744073709551616) := hn
  clear hn hm1 hm2
  have hc : k % 8 = 0 ∨ k % 8 = 1 ∨ k % 8 = 2 ∨ k % 8 = 3 ∨ k % 8 = 4 ∨ k % 8 = 5 ∨ k % 8 = 6 ∨ k % 8 = 7 := by omega
  rcases hc with hc | hc | hc | hc | hc | hc | hc | hc
  · have hk8 : (k : Int) % 8 = 0 := by omega
    have HWB : Hid (S (fixB 1 (n % 256)) = S (wrB ⟨k, n, t, m⟩)) := by show _ = _; rw [fix_mod1]; simp [wrB, hc]
    have htm : (U n).tmod 256 = U (n % 256) := U_tmod n 256
    have hw2 : IntKind.u64.wrap (U (n % 256)) = U (n % 256) := wrap64U _ (by omega)
    have hn2 : Hid (n % 256 < 18446744073709551616) := by show _ < _; omega
    clear hc hk
    go_enter Try.func37, Try.ntmps37
    go_wp2_with fail
    refine (reffix 1 (n % 256) _ rfl hn2 _ (by omega)).mono ?_; rintro e w1 ⟨rfl, hb⟩
    go_wp2_with fail
    go_ret
    exact ⟨by rw [← HWB.out]; rfl, ((Below.refl w.heap.size w).alloc (Nat.le_refl _) _).trans (hb.mono (by simp))⟩
  · have hk8 : (k : Int) % 8 = 1 := by omega
    have HWB : Hid (S (fixB 2 (n % 65536)) = S (wrB ⟨k, n, t, m⟩)) := by show _ = _; rw [fix_mod2]; simp [wrB, hc]
    have htm : (U n).tmod 65536 = U (n % 65536) := U_tmod n 65536
    have hw2 : IntKind.u64.wrap (U (n % 65536)) = U (n % 65536) := wrap64U _ (by omega)
    have hn2 : Hid (n % 65536 < 18446744073709551616) := by show _ < _; omega
    clear hc hk
    go_enter Try.func37, Try.ntmps37
    go_wp2_with fail
    refine (reffix 2 (n % 65536) _ rfl hn2 _ (by omega)).mono ?_; rintro e w1 ⟨rfl, hb⟩
    go_wp2_with fail
    go_ret
    exact ⟨by rw [← HWB.out]; rfl, ((Below.refl w.heap.size w).alloc (Nat.le_refl _) _).trans (hb.mono (by simp))⟩
  · have hk8 : (k : Int) % 8 = 2 := by omega
    have HWB : Hid (S (fixB 4 (n % 4294967296)) = S (wrB ⟨k, n, t, m⟩)) := by show _ = _; rw [fix_mod4]; simp [wrB, hc]
    have htm : (U n).tmod 4294967296 = U (n % 4294967296) := U_tmod n 4294967296
    have hw2 : IntKind.u64.wrap (U (n % 4294967296)) = U (n % 4294967296) := wrap64U _ (by omega)
    have hn2 : Hid (n % 4294967296 < 18446744073709551616) := by show _ < _; omega
    clear hc hk
    go_enter Try.func37, Try.ntmps37
    go_wp2_with fail
    refine (reffix 4 (n % 4294967296) _ rfl hn2 _ (by omega)).mono ?_; rintro e w1 ⟨rfl, hb⟩
    go_wp2_with fail
    go_ret
    exact ⟨by rw [← HWB.out]; rfl, ((Below.refl w.heap.size w).alloc (Nat.le_refl _) _).trans (hb.mono (by simp))⟩
  · have hk8 : (k : Int) % 8 = 3 := by omega
    have HWB : Hid (S (fixB 8 n) = S (wrB ⟨k, n, t, m⟩)) := by show _ = _; simp [wrB, hc]
    clear hc hk
    go_enter Try.func37, Try.ntmps37
    go_wp2_with fail
    refine (reffix 8 n _ rfl HN _ (by omega)).mono ?_; rintro e w1 ⟨rfl, hb⟩
    go_wp2_with fail
    go_ret
    exact ⟨by rw [← HWB.out]; rfl, ((Below.refl w.heap.size w).alloc (Nat.le_refl _) _).trans (hb.mono (by simp))⟩
  · have hk8 : (k : Int) % 8 = 4 := by omega
    have HWB : Hid (S (shortB n) = S (wrB ⟨k, n, t, m⟩)) := by show _ = _; simp [wrB, hc]
    clear hc hk
    go_enter Try.func37, Try.ntmps37
    go_wp2_with fail
    refine (refShort_any n _ HN).mono ?_; rintro e w1 ⟨rfl, hb⟩
    go_wp2_with fail
    go_ret
    exact ⟨by rw [← HWB.out]; rfl, ((Below.refl w.heap.size w).alloc (Nat.le_refl _) _).trans (hb.mono (by simp))⟩
  · have hk8 : (k : Int) % 8 = 5 := by omega
    have HWB : Hid (S (textB t) = S (wrB ⟨k, n, t, m⟩)) := by show _ = _; simp [wrB, hc]
    clear hc hk
    go_enter Try.func37, Try.ntmps37
    go_wp2_with fail
    refine (refText_any t _ ht).mono ?_; rintro e w1 ⟨rfl, hb⟩
    go_wp2_with fail
    go_ret
    exact ⟨by rw [← HWB.out]; rfl, ((Below.refl w.heap.size w).alloc (Nat.le_refl _) _).trans (hb.mono (by simp))⟩
  · have hk8 : (k : Int) % 8 = 6 := by omega
    have HWB : Hid (S (lowB (n % 4294967296)) = S (wrB ⟨k, n, t, m⟩)) := by show _ = _; rw [low_mod]; simp [wrB, hc]
    have htm : (U n).tmod 4294967296 = U (n % 4294967296) := U_tmod n 4294967296
    have hw2 : IntKind.u64.wrap (U (n % 4294967296)) = U (n % 4294967296) := wrap64U _ (by omega)
    have hw3 : U (n % 4294967296) % 4294967296 = U (n % 4294967296) := by unfold U; omega
    have hn2 : Hid (n % 4294967296 < 4294967296) := by show _ < _; omega
    clear hc hk
    go_enter Try.func37, Try.ntmps37
    go_wp2_with fail
    refine (refLow_any (n % 4294967296) _ hn2).mono ?_; rintro e w1 ⟨rfl, hb⟩
    go_wp2_with fail
    go_ret
    exact ⟨by rw [← HWB.out]; rfl, ((Below.refl w.heap.size w).alloc (Nat.le_refl _) _).trans (hb.mono (by simp))⟩
  · have hk8 : (k : Int) % 8 = 7 := by omega
    have HWB : Hid (t = S (wrB ⟨k, n, t, m⟩)) := by
      show _ = _
      have : wrB ⟨k, n, t, m⟩ = t.data.toList := by simp [wrB, hc]
      rw [this]; rfl
    clear hc hk
    go_enter Try.func37, Try.ntmps37
    go_wp2_with fail
    go_ret
    exact ⟨by rw [← HWB.out]; rfl, (Below.refl w.heap.size w).alloc (Nat.le_refl _) _⟩

end Go.Proofs.Ytdllncbacbpedaa.Wire
