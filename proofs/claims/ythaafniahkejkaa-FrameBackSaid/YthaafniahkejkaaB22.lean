/-
  The document's Reader: Fixed and Low.
-/
import Derived.Test.YthaafniahkejkaaB21
namespace Go.Proofs.Ythaafniahkejkaa.Wire
open Go.RowKit

theorem ext_byte (s : ByteArray) (i k q : Nat) (h : i + k ≤ s.size) (hq : q < k) (h2 : q < (s.extract i (i + k)).size) (h3 : i + q < s.size) : (s.extract i (i + k))[q] = s[i + q] := by
  first | exact ByteArray.getElem_extract h2 | exact ByteArray.getElem_extract | simp
theorem fix_step (a : Nat) (c : UInt8) (ha : a < 72057594037927936) : IntKind.u64.wrap (U a * 256) = U (a * 256) ∧ IntKind.u64.wrap (c.toNat : Int) = (c.toNat : Int) ∧ IntKind.u64.wrap (U (a * 256) + (c.toNat : Int)) = U (a * 256 + c.toNat) := by
  have hc := c.toNat_lt
  unfold U
  refine ⟨?_, ?_, ?_⟩ <;> (rw [IntKind.wrap_u64]; omega)

set_option maxRecDepth 100000 in
set_option maxHeartbeats 1000000 in
theorem dfixed_any (d : Nat) (s : ByteArray) (i e k : Nat) (y : Int) (hy : y = (k : Int)) (w : World) (h : Dr w d s i e) (hi : i ≤ s.size) (hs : s.size ≤ 1000000000000) (hk8 : k ≤ 8) :
    Calls Try.prog 51 #[.pointer (some ⟨d, 0, none⟩), .int .i64 y] w fun x w' => x = .returned (.int .u64 (U (fxV s i e k))) ∧ DStep w w' d s (tkI s i e k) (tkE s i e k) := by
  subst hy
  obtain ⟨c0, c1, c2, c3⟩ := h.cells
  have hsub : IntKind.i64.wrap ((s.size : Int) - (i : Int)) = (s.size : Int) - (i : Int) := IntWalk.i64_in _ (by omega)
  have u0 : U 0 = 0 := rfl
  by_cases he : e = 0
  · subst he
    by_cases hn : i + k ≤ s.size
    · have hT : Hid (tkT s i 0 k = s.extract i (i + k) ∧ tkI s i 0 k = i + k ∧ tkE s i 0 k = 0) := ⟨if_pos ⟨rfl, hn⟩, if_pos ⟨rfl, hn⟩, by unfold tkE; rw [if_pos rfl, if_pos hn]⟩
      have HTS : Hid ((s.extract i (i + k)).size = k) := by show _ = _; rw [ByteArray.size_extract]; omega
      have hg : (k : Int) ≤ (s.size : Int) - (i : Int) := by omega
      have hadd2 : IntKind.i64.wrap ((i : Int) + (k : Int)) = (i : Int) + (k : Int) := IntWalk.i64_in _ (by omega)
      have f1 := frozen_row h 1
      have H := Lib.hid h
      have HN := Lib.hid hn
      have HFV : Hid (fxV s i 0 k = be (s.extract i (i + k)).data.toList) := by unfold fxV; rw [hT.out.1]; rfl
      clear hn
      have HBY : Hid (∀ q (hq : q < k), (s.extract i (i + k))[q]'(by rw [HTS.out]; exact hq) = s[i + q]'(by have := HN.out; omega)) := fun q hq => ext_byte s i k q HN.out hq _ _
      clear h c3
      generalize s.extract i (i + k) = T at *
      go_enter Try.func51, Try.ntmps51
      go_wp2_with fail
      go_quiet (fail)
      go_wp2_with fail
      go_loopw [5, 6] (fun n j wr => ∃ q m : Nat, q ≤ k ∧ j = .int .i64 q ∧ n = .int .u64 (U (beT T q)) ∧ wr = w.drewN m) (fun _ j _ => k - (intOf j).toNat)
      case atStart => exact ⟨0, _, Nat.zero_le _, rfl, by rw [beT_zero]; rfl, rfl⟩
      case round =>
        obtain ⟨q, m, hq, rfl, rfl, rfl⟩ := hrel
        by_cases hlt : q < k
        · have hqT : q < T.size := by rw [HTS.out]; exact hlt
          have HBT := Lib.hid (beT_succ T q hqT)
          have HB := Lib.hid (HBY.out q hlt)
          obtain ⟨p, hp⟩ : ∃ p, p = i + q := ⟨_, rfl⟩
          have hps : p < s.size := by have := HN.out; omega
          have hadd : IntKind.i64.wrap ((i : Int) + (q : Int)) = (p : Int) := by rw [hp]; have := HN.out; rw [IntWalk.i64_in _ (by omega)]; omega
          have hb2 : beT T q < 72057594037927936 := by
            have h1 := beT_lt T q
            have := Nat.pow_le_pow_right (n := 256) (by decide) (show q ≤ 7 by omega)
            omega
          obtain ⟨hm1, hm2, hm3⟩ := fix_step (beT T q) (s[p]) hb2
          have HSP : Hid (s[p] = T[q]) := by subst hp; exact HB.out.symm
          clear hb2 HB hp
          have hp0 : (0 : Int) ≤ (p : Int) := by omega
          have hp1 : (p : Int) < (s.size : Int) := by omega
          go_wp2_with fail
          go_quiet (fail)
          go_wp2_with fail
          go_roundw
          case rel => exact ⟨q + 1, _, by omega, by go_num, by rw [HBT.out, ← HSP.out], rfl⟩
          case measure => simp [intOf] <;> omega
        · obtain rfl : q = k := by omega
          have HBA := Lib.hid (beT_all T q (by rw [HTS.out]; exact Nat.le_refl _))
          go_wp2_with fail
          go_ret
          refine ⟨by rw [HFV.out, ← HBA.out]; rfl, ?_⟩
          rw [hT.out.2.1, hT.out.2.2]
          refine ⟨?_, grown_trans (grown_drewN (grown_refl w d) _) (grown_set _ _ _ _)⟩
          have := heap_set H.out 1 (.int .i64 ((i + q : Nat) : Int))
          exact this
    · have hT : Hid (tkT s i 0 k = ⟨#[]⟩ ∧ tkI s i 0 k = i ∧ tkE s i 0 k = 8) := ⟨if_neg (by omega), if_neg (by omega), by unfold tkE; rw [if_pos rfl, if_neg hn]⟩
      have hg : (s.size : Int) - (i : Int) < (k : Int) := by omega
      have H := Lib.hid h
      have HFV : Hid (fxV s i 0 k = 0) := by unfold fxV; rw [hT.out.1]; rfl
      clear hn h c3
      go_enter Try.func51, Try.ntmps51
      go_wp2_with fail
      go_quiet (fail)
      go_wp2_with fail
      refine (dwrong d s i 8 (w.drewN nq) H.out (by decide) 8 rfl).mono ?_; rintro x w1 ⟨rfl, hst⟩
      have HST := Lib.hid ((DStep.refl H.out).drewN nq |>.trans hst); clear hst
      go_wp2_with fail
      go_ret
      refine ⟨by rw [HFV.out]; rfl, ?_⟩
      rw [hT.out.2.1, hT.out.2.2]; exact HST.out
  · have hT : Hid (tkT s i e k = ⟨#[]⟩ ∧ tkI s i e k = i ∧ tkE s i e k = e) := ⟨if_neg (by omega), if_neg (by omega), if_neg he⟩
    have hb : ((e : Int) != 0) = true := by rw [bne_iff_ne]; omega
    have HFV : Hid (fxV s i e k = 0) := by unfold fxV; rw [hT.out.1]; rfl
    have H := Lib.hid h
    clear he h c3
    go_enter Try.func51, Try.ntmps51
    go_wp2_with fail
    go_ret
    refine ⟨by rw [HFV.out]; rfl, ?_⟩
    rw [hT.out.2.1, hT.out.2.2]; exact DStep.refl H.out
end Go.Proofs.Ythaafniahkejkaa.Wire
