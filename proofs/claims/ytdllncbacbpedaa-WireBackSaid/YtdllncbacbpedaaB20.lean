/-
  'fits' and 'is'.
-/
import Derived.Test.YtdllncbacbpedaaB19
namespace Go.Proofs.Ytdllncbacbpedaa.Wire
open Go.RowKit

set_option maxRecDepth 100000 in
set_option maxHeartbeats 1000000 in
theorem lis_any (x : It) (v : Nat) (t' : ByteArray) (w : World) (hok : x.ok) (h : isI x v t') :
    Calls Try.prog 43 #[x.val, .int .u64 (U v), .string t'] w fun z w' => z = .returned (.bool true) ∧ Below w.heap.size w w' := by
  obtain ⟨k, n, t, m⟩ := x
  obtain ⟨hk, hn, ht, hm1, hm2⟩ := hok
  simp only [] at hk hn ht hm1 hm2
  unfold It.val
  simp only []
  clear hn ht hm1 hm2
  have hc : k % 8 = 0 ∨ k % 8 = 1 ∨ k % 8 = 2 ∨ k % 8 = 3 ∨ k % 8 = 4 ∨ k % 8 = 5 ∨ k % 8 = 6 ∨ k % 8 = 7 := by omega
  rcases hc with hc | hc | hc | hc | hc | hc | hc | hc
  · have hk8 : (k : Int) % 8 = 0 := by omega
    have hv : v = n % 256 := by simpa [isI, hc] using h
    subst hv
    have hm : U n % 256 = U (n % 256) := U_mod n 256
    have hw : IntKind.u64.wrap (U (n % 256)) = U (n % 256) := wrap64U _ (by omega)
    clear hc hk h
    go_enter Try.func43, Try.ntmps43
    go_wp2_with fail
    go_ret
    exact ⟨rfl, (Below.refl _ _).alloc (Nat.le_refl _) _⟩
  · have hk8 : (k : Int) % 8 = 1 := by omega
    have hv : v = n % 65536 := by simpa [isI, hc] using h
    subst hv
    have hm : IntKind.u16.wrap (U n) = U (n % 65536) := by rw [IntKind.wrap_u16]; exact U_mod n 65536
    have hw : IntKind.u64.wrap (U (n % 65536)) = U (n % 65536) := wrap64U _ (by omega)
    clear hc hk h
    go_enter Try.func43, Try.ntmps43
    go_wp2_with fail
    go_ret
    exact ⟨rfl, (Below.refl _ _).alloc (Nat.le_refl _) _⟩
  · have hk8 : (k : Int) % 8 = 2 := by omega
    have hv : v = n % 4294967296 := by simpa [isI, hc] using h
    subst hv
    have hm : U n % 4294967296 = U (n % 4294967296) := U_mod n 4294967296
    have hw : IntKind.u64.wrap (U (n % 4294967296)) = U (n % 4294967296) := wrap64U _ (by omega)
    clear hc hk h
    go_enter Try.func43, Try.ntmps43
    go_wp2_with fail
    go_ret
    exact ⟨rfl, (Below.refl _ _).alloc (Nat.le_refl _) _⟩
  · have hk8 : (k : Int) % 8 = 3 := by omega
    have hv : v = n := by simpa [isI, hc] using h
    subst hv
    clear hc hk h
    go_enter Try.func43, Try.ntmps43
    go_wp2_with fail
    go_ret
    exact ⟨rfl, (Below.refl _ _).alloc (Nat.le_refl _) _⟩
  · have hk8 : (k : Int) % 8 = 4 := by omega
    have hv : v = n := by simpa [isI, hc] using h
    subst hv
    clear hc hk h
    go_enter Try.func43, Try.ntmps43
    go_wp2_with fail
    go_ret
    exact ⟨rfl, (Below.refl _ _).alloc (Nat.le_refl _) _⟩
  · have hk8 : (k : Int) % 8 = 5 := by omega
    have hv : t' = t := by simpa [isI, hc] using h
    subst hv
    clear hc hk h
    go_enter Try.func43, Try.ntmps43
    go_wp2_with fail
    go_ret
    exact ⟨rfl, (Below.refl _ _).alloc (Nat.le_refl _) _⟩
  · have hk8 : (k : Int) % 8 = 6 := by omega
    have hv : v = n % 4294967296 := by simpa [isI, hc] using h
    subst hv
    have hm : U n % 4294967296 = U (n % 4294967296) := U_mod n 4294967296
    have hw : IntKind.u64.wrap (U (n % 4294967296)) = U (n % 4294967296) := wrap64U _ (by omega)
    clear hc hk h
    go_enter Try.func43, Try.ntmps43
    go_wp2_with fail
    go_ret
    exact ⟨rfl, (Below.refl _ _).alloc (Nat.le_refl _) _⟩
  · have hk8 : (k : Int) % 8 = 7 := by omega
    have hv : t' = t := by simpa [isI, hc] using h
    subst hv
    clear hc hk h
    go_enter Try.func43, Try.ntmps43
    go_wp2_with fail
    go_ret
    exact ⟨rfl, (Below.refl _ _).alloc (Nat.le_refl _) _⟩

set_option maxRecDepth 100000 in
set_option maxHeartbeats 1000000 in
theorem lfits_any (x : It) (w : World) (hok : x.ok) :
    Calls Try.prog 42 #[x.val] w fun z w' => z = .returned (fitI x).val ∧ Below w.heap.size w w' := by
  obtain ⟨k, n, t, m⟩ := x
  obtain ⟨hk, hn, ht, hm1, hm2⟩ := hok
  simp only [] at hk hn ht hm1 hm2
  unfold It.val
  simp only []
  clear hn hm1 hm2
  by_cases hc : k % 8 = 4
  · have hk8 : (k : Int) % 8 = 4 := by omega
    have HF : Hid (fitI ⟨k, n, t, m⟩ = ⟨k, n, t, m⟩) := if_pos hc
    rw [HF.out]
    clear hc hk
    go_enter Try.func42, Try.ntmps42
    go_wp2_with fail
    exact bodyPost_ret (v := .agg #[.int .u8 (k : Int), .int .u64 (U n), .string t, .int .i64 m]) (by simp [results, Try.results42, go_sem]) rfl ⟨rfl, ((Below.refl _ _).alloc (Nat.le_refl _) _).alloc (by simp) _⟩
  · have hk8 : (((k : Int) % 8) == 4) = false := by rw [beq_eq_false_iff_ne]; omega
    have hk9 : (((k : Int) % 8) != 4) = true := by rw [bne_iff_ne]; omega
    have HF : Hid (fitI ⟨k, n, t, m⟩ = ⟨k, n, t, (t.size : Int)⟩) := if_neg hc
    rw [HF.out]
    clear hc hk
    unfold maxLen at ht
    go_enter Try.func42, Try.ntmps42
    go_wp2_with fail
    exact bodyPost_ret (v := .agg #[.int .u8 (k : Int), .int .u64 (U n), .string t, .int .i64 (t.size : Int)]) (by simp [results, Try.results42, go_sem]) rfl ⟨rfl, by first | exact ((Below.refl _ _).alloc (Nat.le_refl _) _).alloc (by simp) _ | exact (((Below.refl _ _).alloc (Nat.le_refl _) _).alloc (by simp) _).setCell (by simp) _⟩

end Go.Proofs.Ytdllncbacbpedaa.Wire
