/-
  What is asked of a Reader ('get'), as a value.
-/
import Derived.Test.YtdllncbacbpedaaB16
namespace Go.Proofs.Ytdllncbacbpedaa.Wire
open Go.RowKit

/-- ((number, text), where it stands then, the error) -/
def gt (s : ByteArray) (i e : Nat) (x : It) : (Nat × ByteArray) × Nat × Nat :=
  if x.k % 8 = 0 then ((fxV s i e 1, ⟨#[]⟩), tkI s i e 1, tkE s i e 1) else if x.k % 8 = 1 then ((fxV s i e 2, ⟨#[]⟩), tkI s i e 2, tkE s i e 2) else
    if x.k % 8 = 2 then ((fxV s i e 4, ⟨#[]⟩), tkI s i e 4, tkE s i e 4) else if x.k % 8 = 3 then ((fxV s i e 8, ⟨#[]⟩), tkI s i e 8, tkE s i e 8) else
      if x.k % 8 = 4 then (((shR s i e x.n).1, ⟨#[]⟩), (shR s i e x.n).2.1, (shR s i e x.n).2.2) else
        if x.k % 8 = 5 then ((0, (txR s i e x.m.toNat).1), (txR s i e x.m.toNat).2.1, (txR s i e x.m.toNat).2.2) else
          if x.k % 8 = 6 then ((revN (fxV s i e 4), ⟨#[]⟩), tkI s i e 4, tkE s i e 4) else ((0, tkT s i e x.m.toNat), tkI s i e x.m.toNat, tkE s i e x.m.toNat)
theorem tkI_le (s : ByteArray) (i e n : Nat) (h : i ≤ s.size) : tkI s i e n ≤ s.size := by
  unfold tkI; split
  · rename_i hh; exact hh.2
  · exact h
theorem tkI_ge (s : ByteArray) (i e n : Nat) : i ≤ tkI s i e n := by
  unfold tkI; split
  · omega
  · exact Nat.le_refl _
theorem txR_le (s : ByteArray) (i e m : Nat) (h : i ≤ s.size) : (txR s i e m).2.1 ≤ s.size := by
  unfold txR
  show (if _ then _ else _) ≤ _
  split
  · exact tkI_le _ _ _ _ (shR_le s i e m h)
  · exact h
theorem gt_le (s : ByteArray) (i e : Nat) (x : It) (h : i ≤ s.size) : (gt s i e x).2.1 ≤ s.size := by
  unfold gt
  repeat' split
  all_goals first | exact tkI_le _ _ _ _ h | exact shR_le _ _ _ _ h | exact txR_le _ _ _ _ h
/-- the contract's end -/
theorem get_end {w w1 : World} {r : Nat} {s : ByteArray} {i e : Nat} {o : Obj} {i' e' : Nat} (k : Step (w.alloc o) w1 r s i' e') (G : (Nat × ByteArray) × Nat × Nat) (hG : G.2 = (i', e')) : Step w w1 r s G.2.1 G.2.2 := by
  rw [hG]
  exact ⟨k.1, grown_trans (grown_below ((Below.refl _ _).alloc (Nat.le_refl _) _)) k.2⟩
theorem rd_alloc {w : World} {r : Nat} {s : ByteArray} {i e : Nat} (h : Rd w r s i e) (o : Obj) : Rd (w.alloc o) r s i e := (Below.heap_alloc w o r (row_lt h)).trans h

set_option maxRecDepth 100000 in
set_option maxHeartbeats 1000000 in
theorem lget_any (r : Nat) (s : ByteArray) (i e : Nat) (x : It) (w : World) (hrd : Rd w r s i e) (hi : i ≤ s.size) (hs : s.size ≤ 1000000000000) (hok : x.ok) :
    Calls Try.prog 39 #[.pointer (some ⟨r, 0, none⟩), x.val] w fun z w' => z = .returned (.tuple #[.int .u64 (U (gt s i e x).1.1), .string (gt s i e x).1.2]) ∧ Step w w' r s (gt s i e x).2.1 (gt s i e x).2.2 := by
  obtain ⟨k, n, t, m⟩ := x
  obtain ⟨hk, hn, ht, hm1, hm2⟩ := hok
  simp only [] at hk hn ht hm1 hm2
  unfold It.val
  simp only []
  have HR : Hid (Rd (w.alloc (.cells #[.int .u8 (k : Int), .int .u64 (U n), .string t, .int .i64 m] 56)) r s i e) := rd_alloc hrd _
  have HI : Hid (i ≤ s.size) := hi
  have HS : Hid (s.size ≤ 1000000000000) := hs
  have HM : Hid (m ≤ 9223372036854775807) := hm1
  have u0 : U 0 = 0 := rfl
  have U0 := Lib.hid u0
  clear hn ht hm1 hm2 hrd hi hs u0
  have hc : k % 8 = 0 ∨ k % 8 = 1 ∨ k % 8 = 2 ∨ k % 8 = 3 ∨ k % 8 = 4 ∨ k % 8 = 5 ∨ k % 8 = 6 ∨ k % 8 = 7 := by omega
  rcases hc with hc | hc | hc | hc | hc | hc | hc | hc
  · have hk8 : (k : Int) % 8 = 0 := by omega
    have HG : Hid (gt s i e ⟨k, n, t, m⟩ = ((fxV s i e 1, ⟨#[]⟩), tkI s i e 1, tkE s i e 1)) := by show _ = _; simp [gt, hc]
    have hw : IntKind.u64.wrap (U (fxV s i e 1)) = U (fxV s i e 1) := wrap64U _ (by have := fxV_lt s i e 1; omega)
    clear hc hk
    go_enter Try.func39, Try.ntmps39
    go_wp2_with fail
    refine (ru8_any r s i e _ HR.out HI.out HS.out).mono ?_; rintro z w1 ⟨rfl, hst⟩
    have HE := Lib.hid (get_end (i := i) (e := e) hst (gt s i e ⟨k, n, t, m⟩) (by rw [HG.out])); clear hst
    go_wp2_with fail
    go_ret2
    exact ⟨by rw [HG.out]; rfl, HE.out⟩
  · have hk8 : (k : Int) % 8 = 1 := by omega
    have HG : Hid (gt s i e ⟨k, n, t, m⟩ = ((fxV s i e 2, ⟨#[]⟩), tkI s i e 2, tkE s i e 2)) := by show _ = _; simp [gt, hc]
    have hw : IntKind.u64.wrap (U (fxV s i e 2)) = U (fxV s i e 2) := wrap64U _ (by have := fxV_lt s i e 2; omega)
    clear hc hk
    go_enter Try.func39, Try.ntmps39
    go_wp2_with fail
    refine (ru16_any r s i e _ HR.out HI.out HS.out).mono ?_; rintro z w1 ⟨rfl, hst⟩
    have HE := Lib.hid (get_end (i := i) (e := e) hst (gt s i e ⟨k, n, t, m⟩) (by rw [HG.out])); clear hst
    go_wp2_with fail
    go_ret2
    exact ⟨by rw [HG.out]; rfl, HE.out⟩
  · have hk8 : (k : Int) % 8 = 2 := by omega
    have HG : Hid (gt s i e ⟨k, n, t, m⟩ = ((fxV s i e 4, ⟨#[]⟩), tkI s i e 4, tkE s i e 4)) := by show _ = _; simp [gt, hc]
    have hw : IntKind.u64.wrap (U (fxV s i e 4)) = U (fxV s i e 4) := wrap64U _ (by have := fxV_lt s i e 4; omega)
    clear hc hk
    go_enter Try.func39, Try.ntmps39
    go_wp2_with fail
    refine (ru32_any r s i e _ HR.out HI.out HS.out).mono ?_; rintro z w1 ⟨rfl, hst⟩
    have HE := Lib.hid (get_end (i := i) (e := e) hst (gt s i e ⟨k, n, t, m⟩) (by rw [HG.out])); clear hst
    go_wp2_with fail
    go_ret2
    exact ⟨by rw [HG.out]; rfl, HE.out⟩
  · have hk8 : (k : Int) % 8 = 3 := by omega
    have HG : Hid (gt s i e ⟨k, n, t, m⟩ = ((fxV s i e 8, ⟨#[]⟩), tkI s i e 8, tkE s i e 8)) := by show _ = _; simp [gt, hc]
    clear hc hk
    go_enter Try.func39, Try.ntmps39
    go_wp2_with fail
    refine (ru64_any r s i e _ HR.out HI.out HS.out).mono ?_; rintro z w1 ⟨rfl, hst⟩
    have HE := Lib.hid (get_end (i := i) (e := e) hst (gt s i e ⟨k, n, t, m⟩) (by rw [HG.out])); clear hst
    go_wp2_with fail
    go_ret2
    exact ⟨by rw [HG.out]; rfl, HE.out⟩
  · have hk8 : (k : Int) % 8 = 4 := by omega
    have HG : Hid (gt s i e ⟨k, n, t, m⟩ = (((shR s i e n).1, ⟨#[]⟩), (shR s i e n).2.1, (shR s i e n).2.2)) := by show _ = _; simp [gt, hc]
    clear hc hk
    go_enter Try.func39, Try.ntmps39
    go_wp2_with fail
    refine (rShort_any r s i e n _ HR.out HI.out HS.out).mono ?_; rintro z w1 ⟨rfl, hst⟩
    have HE := Lib.hid (get_end (i := i) (e := e) hst (gt s i e ⟨k, n, t, m⟩) (by rw [HG.out])); clear hst
    go_wp2_with fail
    go_ret2
    exact ⟨by rw [HG.out]; rfl, HE.out⟩
  · have hk8 : (k : Int) % 8 = 5 := by omega
    have HG : Hid (gt s i e ⟨k, n, t, m⟩ = ((0, (txR s i e m.toNat).1), (txR s i e m.toNat).2.1, (txR s i e m.toNat).2.2)) := by show _ = _; simp [gt, hc]
    clear hc hk
    go_enter Try.func39, Try.ntmps39
    go_wp2_with fail
    refine (rtext_any r s i e m _ HR.out HI.out HS.out HM.out).mono ?_; rintro z w1 ⟨rfl, hst⟩
    have HE := Lib.hid (get_end (i := i) (e := e) hst (gt s i e ⟨k, n, t, m⟩) (by rw [HG.out])); clear hst
    go_wp2_with fail
    go_ret2
    exact ⟨by rw [HG.out]; rfl, HE.out⟩
  · have hk8 : (k : Int) % 8 = 6 := by omega
    have HG : Hid (gt s i e ⟨k, n, t, m⟩ = ((revN (fxV s i e 4), ⟨#[]⟩), tkI s i e 4, tkE s i e 4)) := by show _ = _; simp [gt, hc]
    have hw : IntKind.u64.wrap (U (revN (fxV s i e 4))) = U (revN (fxV s i e 4)) := wrap64U _ (by have := rev_lt (fxV s i e 4); omega)
    clear hc hk
    go_enter Try.func39, Try.ntmps39
    go_wp2_with fail
    refine (rlow_any r s i e _ HR.out HI.out HS.out).mono ?_; rintro z w1 ⟨rfl, hst⟩
    have HE := Lib.hid (get_end (i := i) (e := e) hst (gt s i e ⟨k, n, t, m⟩) (by rw [HG.out])); clear hst
    go_wp2_with fail
    go_ret2
    exact ⟨by rw [HG.out]; rfl, HE.out⟩
  · have hk8 : (k : Int) % 8 = 7 := by omega
    have HG : Hid (gt s i e ⟨k, n, t, m⟩ = ((0, tkT s i e m.toNat), tkI s i e m.toNat, tkE s i e m.toNat)) := by show _ = _; simp [gt, hc]
    clear hc hk
    go_enter Try.func39, Try.ntmps39
    go_wp2_with fail
    refine (rraw_any r s i e m _ HR.out HI.out HS.out).mono ?_; rintro z w1 ⟨rfl, hst⟩
    have HE := Lib.hid (get_end (i := i) (e := e) hst (gt s i e ⟨k, n, t, m⟩) (by rw [HG.out])); clear hst
    go_wp2_with fail
    go_ret2
    exact ⟨by rw [HG.out]; rfl, HE.out⟩

end Go.Proofs.Ytdllncbacbpedaa.Wire
