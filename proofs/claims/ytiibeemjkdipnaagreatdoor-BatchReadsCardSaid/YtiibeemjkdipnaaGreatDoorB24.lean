import Derived.Test.YtiibeemjkdipnaaGreatDoorB18
import Derived.Test.YtiibeemjkdipnaaGreatDoorB19
/-
  The document's Reader.
-/
namespace Go.Proofs.YtiibeemjkdipnaaGreatDoor.Wire
open Go.RowKit

def drS (s : ByteArray) (i e t : Nat) : Array Value := #[.string s, .int .i64 (i : Int), .int .i64 (e : Int), .int .i64 (t : Int)]
def Dr (w : World) (d : Nat) (s : ByteArray) (i e : Nat) : Prop := w.heap[d]? = some (.cells (drS s i e (errAt i e)) 65 (0, 0))
def DStep (w w' : World) (d : Nat) (s : ByteArray) (i e : Nat) : Prop := Dr w' d s i e ∧ w.grownBy w' (some d)
theorem DStep.refl {w : World} {d : Nat} {s : ByteArray} {i e : Nat} (h : Dr w d s i e) : DStep w w d s i e := ⟨h, grown_refl _ _⟩
theorem DStep.drewN {w w' : World} {d : Nat} {s : ByteArray} {i e : Nat} (h : DStep w w' d s i e) (n : Nat) : DStep w (w'.drewN n) d s i e := ⟨h.1, grown_drewN h.2 n⟩
theorem DStep.trans {a b c : World} {d : Nat} {s t : ByteArray} {i e j f : Nat} (h : DStep a b d s i e) (k : DStep b c d t j f) : DStep a c d t j f := ⟨k.1, grown_trans h.2 k.2⟩
theorem grown_set (w : World) (d j : Nat) (v : Value) : w.grownBy (w.setCell ⟨d, j, none⟩ v) (some d) := ⟨rfl, rfl, rfl, by simp [World.setCell], fun k _ hn => Below.heap_setCell w _ v k (fun e => hn (by rw [e]))⟩
theorem Dr.cells {w : World} {d : Nat} {s : ByteArray} {i e : Nat} (h : Dr w d s i e) : w.cell? ⟨d, 0, none⟩ = some (.string s) ∧ w.cell? ⟨d, 1, none⟩ = some (.int .i64 (i : Int)) ∧ w.cell? ⟨d, 2, none⟩ = some (.int .i64 (e : Int)) ∧ w.cell? ⟨d, 3, none⟩ = some (.int .i64 (errAt i e : Int)) :=
  ⟨cell_row h 0, cell_row h 1, cell_row h 2, cell_row h 3⟩

/-! ### an error -/
set_option maxHeartbeats 400000 in
theorem dwrong_any (d : Nat) (s : ByteArray) (i : Nat) (f : Nat) (w : World) (h : Dr w d s i 0) (hf : f ≠ 0) (j : Nat) (hj : w.cell? ⟨d, 1, none⟩ = some (.int .i64 (j : Int)) → i = j) (y : Int) (hy : y = (f : Int)) :
    Calls Tryz.prog 65 #[.pointer (some ⟨d, 0, none⟩), .int .i64 y, .int .i64 (i : Int)] w fun x w' => x = .returned (.tuple #[]) ∧ DStep w w' d s i f := by
  subst hy
  obtain ⟨c0, c1, c2, c3⟩ := h.cells
  have f2 := frozen_row h 2
  have f3 := frozen_row h 3
  have HE : Hid (errAt i f = i) := if_neg hf
  clear hj
  go_enter Tryz.func65, Tryz.ntmps65
  go_wp2_with fail
  go_end0
  refine ⟨rfl, ?_, grown_trans (grown_set _ _ _ _) (grown_set _ _ _ _)⟩
  have := heap_set (heap_set h 2 (.int .i64 (f : Int))) 3 (.int .i64 (i : Int))
  unfold Dr
  rw [HE.out]; exact this
theorem dwrong (d : Nat) (s : ByteArray) (i : Nat) (f : Nat) (w : World) (h : Dr w d s i 0) (hf : f ≠ 0) (y : Int) (hy : y = (f : Int)) :
    Calls Tryz.prog 65 #[.pointer (some ⟨d, 0, none⟩), .int .i64 y, .int .i64 (i : Int)] w fun x w' => x = .returned (.tuple #[]) ∧ DStep w w' d s i f :=
  dwrong_any d s i f w h hf i (fun _ => rfl) y hy

/-! ### End -/
/-! ### Raw -/
set_option maxRecDepth 100000 in
set_option maxHeartbeats 400000 in
theorem draw_walk (d : Nat) (s : ByteArray) (i e : Nat) (n : Nat) (m : Int) (w : World) (h : Dr w d s i e) (hi : i ≤ s.size) (hs : s.size ≤ 1000000000000) (hm : max m 0 = (n : Int)) :
    Calls Tryz.prog 91 #[.pointer (some ⟨d, 0, none⟩), .int .i64 m] w fun x w' => x = .returned (.string (tkT s i e n)) ∧ DStep w w' d s (tkI s i e n) (tkE s i e n) := by
  obtain ⟨c0, c1, c2, c3⟩ := h.cells
  have hsub : IntKind.i64.wrap ((s.size : Int) - (i : Int)) = (s.size : Int) - (i : Int) := IntWalk.i64_in _ (by omega)
  by_cases he : e = 0
  · subst he
    by_cases hn : i + n ≤ s.size
    · have hT : Hid (tkT s i 0 n = s.extract i (i + n) ∧ tkI s i 0 n = i + n ∧ tkE s i 0 n = 0) := ⟨if_pos ⟨rfl, hn⟩, if_pos ⟨rfl, hn⟩, by unfold tkE; rw [if_pos rfl, if_pos hn]⟩
      have hg : (n : Int) ≤ (s.size : Int) - (i : Int) := by omega
      have b0 : (0 : Int) ≤ (i : Int) := by omega
      have b1 : (i : Int) ≤ (i : Int) + (n : Int) := by omega
      have b2 : (i : Int) + (n : Int) ≤ (s.size : Int) := by omega
      have b3 : ((i : Int) + (n : Int)).toNat = i + n := by omega
      have hadd : IntKind.i64.wrap ((i : Int) + (n : Int)) = (i : Int) + (n : Int) := IntWalk.i64_in _ (by omega)
      have f1 := frozen_row h 1
      have H := Lib.hid h
      clear hn h c3
      go_enter Tryz.func91, Tryz.ntmps91
      go_wp2_with fail
      go_quiet (fail)
      go_wp2_with fail
      go_quiet (fail)
      go_wp2_with fail
      go_ret
      refine ⟨by rw [hT.out.1]; rfl, ?_⟩
      rw [hT.out.2.1, hT.out.2.2]
      refine ⟨?_, grown_trans (grown_drewN (grown_refl w d) _) (grown_set _ _ _ _)⟩
      have := heap_set H.out 1 (.int .i64 ((i + n : Nat) : Int))
      exact this
    · have hT : Hid (tkT s i 0 n = ⟨#[]⟩ ∧ tkI s i 0 n = i ∧ tkE s i 0 n = 8) := ⟨if_neg (by omega), if_neg (by omega), by unfold tkE; rw [if_pos rfl, if_neg hn]⟩
      have hg : (s.size : Int) - (i : Int) < (n : Int) := by omega
      have H := Lib.hid h
      clear hn h c3
      go_enter Tryz.func91, Tryz.ntmps91
      go_wp2_with fail
      go_quiet (fail)
      go_wp2_with fail
      refine (dwrong d s i 8 (w.drewN nq) H.out (by decide) 8 rfl).mono ?_; rintro x w1 ⟨rfl, hst⟩
      have HST := Lib.hid ((DStep.refl H.out).drewN nq |>.trans hst); clear hst
      go_wp2_with fail
      go_ret
      refine ⟨by rw [hT.out.1]; rfl, ?_⟩
      rw [hT.out.2.1, hT.out.2.2]; exact HST.out
  · have hT : Hid (tkT s i e n = ⟨#[]⟩ ∧ tkI s i e n = i ∧ tkE s i e n = e) := ⟨if_neg (by omega), if_neg (by omega), if_neg he⟩
    have hb : ((e : Int) != 0) = true := by rw [bne_iff_ne]; omega
    have H := Lib.hid h
    clear he h c3
    go_enter Tryz.func91, Tryz.ntmps91
    go_wp2_with fail
    go_ret
    refine ⟨by rw [hT.out.1]; rfl, ?_⟩
    rw [hT.out.2.1, hT.out.2.2]; exact DStep.refl H.out
theorem draw_any (d : Nat) (s : ByteArray) (i e : Nat) (m : Int) (w : World) (h : Dr w d s i e) (hi : i ≤ s.size) (hs : s.size ≤ 1000000000000) :
    Calls Tryz.prog 91 #[.pointer (some ⟨d, 0, none⟩), .int .i64 m] w fun x w' => x = .returned (.string (tkT s i e m.toNat)) ∧ DStep w w' d s (tkI s i e m.toNat) (tkE s i e m.toNat) :=
  draw_walk d s i e m.toNat m w h hi hs (by omega)

end Go.Proofs.YtiibeemjkdipnaaGreatDoor.Wire

/-
  The document's Reader: Fixed and Low.
-/
namespace Go.Proofs.YtiibeemjkdipnaaGreatDoor.Wire
open Go.RowKit

theorem ext_byte (s : ByteArray) (i k q : Nat) (h : i + k ≤ s.size) (hq : q < k) (h2 : q < (s.extract i (i + k)).size) (h3 : i + q < s.size) : (s.extract i (i + k))[q] = s[i + q] := by
  first | exact ByteArray.getElem_extract h2 | exact ByteArray.getElem_extract | simp
theorem fix_step (a : Nat) (c : UInt8) (ha : a < 72057594037927936) : IntKind.u64.wrap (U a * 256) = U (a * 256) ∧ IntKind.u64.wrap (c.toNat : Int) = (c.toNat : Int) ∧ IntKind.u64.wrap (U (a * 256) + (c.toNat : Int)) = U (a * 256 + c.toNat) := by
  have hc := c.toNat_lt
  unfold U
  refine ⟨?_, ?_, ?_⟩ <;> (rw [IntKind.wrap_u64]; omega)

set_option maxRecDepth 100000 in
set_option maxHeartbeats 1000000 in
theorem dfixed_any (d : Nat) (s : ByteArray) (i e k : Nat) (y : Int) (hy : y = (k : Int)) (w : World) (h : Dr w d s i e) (hi : i ≤ s.size) (hs : s.size ≤ 1000000000000) (hk8 : k ≤ 8) :
    Calls Tryz.prog 38 #[.pointer (some ⟨d, 0, none⟩), .int .i64 y] w fun x w' => x = .returned (.int .u64 (U (fxV s i e k))) ∧ DStep w w' d s (tkI s i e k) (tkE s i e k) := by
  subst hy
  obtain ⟨c0, c1, c2, c3⟩ := h.cells
  have hsub : IntKind.i64.wrap ((s.size : Int) - (i : Int)) = (s.size : Int) - (i : Int) := IntWalk.i64_in _ (by omega)
  have u0 : U 0 = 0 := rfl
  by_cases he : e = 0
  · subst he
    by_cases hn : i + k ≤ s.size
    · have hT : Hid (tkT s i 0 k = s.extract i (i + k) ∧ tkI s i 0 k = i + k ∧ tkE s i 0 k = 0) := ⟨if_pos ⟨rfl, hn⟩, if_pos ⟨rfl, hn⟩, by unfold tkE; rw [if_pos rfl, if_pos hn]⟩
      have HTS : Hid ((s.extract i (i + k)).size = k) := by show _ = _; rw [ByteArray.size_extract]; omega
      have hg : (k : Int) ≤ (s.size : Int) - (i : Int) := by omega
      have hadd2 : IntKind.i64.wrap ((i : Int) + (k : Int)) = (i : Int) + (k : Int) := IntWalk.i64_in _ (by omega)
      have f1 := frozen_row h 1
      have H := Lib.hid h
      have HN := Lib.hid hn
      have HFV : Hid (fxV s i 0 k = be (s.extract i (i + k)).data.toList) := by unfold fxV; rw [hT.out.1]; rfl
      clear hn
      have HBY : Hid (∀ q (hq : q < k), (s.extract i (i + k))[q]'(by rw [HTS.out]; exact hq) = s[i + q]'(by have := HN.out; omega)) := fun q hq => ext_byte s i k q HN.out hq _ _
      clear h c3
      generalize s.extract i (i + k) = T at *
      go_enter Tryz.func38, Tryz.ntmps38
      go_wp2_with fail
      go_quiet (fail)
      go_wp2_with fail
      go_loopw [5, 6] (fun n j wr => ∃ q m : Nat, q ≤ k ∧ j = .int .i64 q ∧ n = .int .u64 (U (beT T q)) ∧ wr = w.drewN m) (fun _ j _ => k - (intOf j).toNat)
      case atStart => exact ⟨0, _, Nat.zero_le _, rfl, by rw [beT_zero]; rfl, rfl⟩
      case round =>
        obtain ⟨q, m, hq, rfl, rfl, rfl⟩ := hrel
        by_cases hlt : q < k
        · have hqT : q < T.size := by rw [HTS.out]; exact hlt
          have HBT := Lib.hid (beT_succ T q hqT)
          have HB := Lib.hid (HBY.out q hlt)
          obtain ⟨p, hp⟩ : ∃ p, p = i + q := ⟨_, rfl⟩
          have hps : p < s.size := by have := HN.out; omega
          have hadd : IntKind.i64.wrap ((i : Int) + (q : Int)) = (p : Int) := by rw [hp]; have := HN.out; rw [IntWalk.i64_in _ (by omega)]; omega
          have hb2 : beT T q < 72057594037927936 := by
            have h1 := beT_lt T q
            have := Nat.pow_le_pow_right (n := 256) (by decide) (show q ≤ 7 by omega)
            omega
          obtain ⟨hm1, hm2, hm3⟩ := fix_step (beT T q) (s[p]) hb2
          have HSP : Hid (s[p] = T[q]) := by subst hp; exact HB.out.symm
          clear hb2 HB hp
          have hp0 : (0 : Int) ≤ (p : Int) := by omega
          have hp1 : (p : Int) < (s.size : Int) := by omega
          go_wp2_with fail
          go_quiet (fail)
          go_wp2_with fail
          go_roundw
          case rel => exact ⟨q + 1, _, by omega, by go_num, by rw [HBT.out, ← HSP.out], rfl⟩
          case measure => simp [intOf] <;> omega
        · obtain rfl : q = k := by omega
          have HBA := Lib.hid (beT_all T q (by rw [HTS.out]; exact Nat.le_refl _))
          go_wp2_with fail
          go_ret
          refine ⟨by rw [HFV.out, ← HBA.out]; rfl, ?_⟩
          rw [hT.out.2.1, hT.out.2.2]
          refine ⟨?_, grown_trans (grown_drewN (grown_refl w d) _) (grown_set _ _ _ _)⟩
          have := heap_set H.out 1 (.int .i64 ((i + q : Nat) : Int))
          exact this
    · have hT : Hid (tkT s i 0 k = ⟨#[]⟩ ∧ tkI s i 0 k = i ∧ tkE s i 0 k = 8) := ⟨if_neg (by omega), if_neg (by omega), by unfold tkE; rw [if_pos rfl, if_neg hn]⟩
      have hg : (s.size : Int) - (i : Int) < (k : Int) := by omega
      have H := Lib.hid h
      have HFV : Hid (fxV s i 0 k = 0) := by unfold fxV; rw [hT.out.1]; rfl
      clear hn h c3
      go_enter Tryz.func38, Tryz.ntmps38
      go_wp2_with fail
      go_quiet (fail)
      go_wp2_with fail
      refine (dwrong d s i 8 (w.drewN nq) H.out (by decide) 8 rfl).mono ?_; rintro x w1 ⟨rfl, hst⟩
      have HST := Lib.hid ((DStep.refl H.out).drewN nq |>.trans hst); clear hst
      go_wp2_with fail
      go_ret
      refine ⟨by rw [HFV.out]; rfl, ?_⟩
      rw [hT.out.2.1, hT.out.2.2]; exact HST.out
  · have hT : Hid (tkT s i e k = ⟨#[]⟩ ∧ tkI s i e k = i ∧ tkE s i e k = e) := ⟨if_neg (by omega), if_neg (by omega), if_neg he⟩
    have hb : ((e : Int) != 0) = true := by rw [bne_iff_ne]; omega
    have HFV : Hid (fxV s i e k = 0) := by unfold fxV; rw [hT.out.1]; rfl
    have H := Lib.hid h
    clear he h c3
    go_enter Tryz.func38, Tryz.ntmps38
    go_wp2_with fail
    go_ret
    refine ⟨by rw [HFV.out]; rfl, ?_⟩
    rw [hT.out.2.1, hT.out.2.2]; exact DStep.refl H.out

theorem low_sum (n : Nat) (hn : n < 4294967296) : U n % 256 * 16777216 + U n / 256 % 256 * 65536 + U n / 65536 % 256 * 256 + U n / 16777216 = U (revN n) := by
  rw [rev_val n hn]
  unfold U
  omega
end Go.Proofs.YtiibeemjkdipnaaGreatDoor.Wire

/-
  The document's Reader: Short.
-/
namespace Go.Proofs.YtiibeemjkdipnaaGreatDoor.Wire
open Go.RowKit

theorem scan_i (s : ByteArray) (i k acc : Nat) (h : i + k < s.size) : scan (s.data.toList.drop (i + k)) k acc =
    if (k = 9 ∧ 1 < s[i + k].toNat) ∨ (0 < k ∧ s[i + k].toNat = 0) then (0, 0, 4) else if s[i + k].toNat < 128 then (acc + 128 ^ k * (s[i + k].toNat % 128), k + 1, 0) else scan (s.data.toList.drop (i + (k + 1))) (k + 1) (acc + 128 ^ k * (s[i + k].toNat % 128)) := by
  rw [List.drop_eq_getElem_cons (by simpa using h), scan]; rfl
theorem scan_e (s : ByteArray) (i k acc : Nat) (h : s.size ≤ i + k) : scan (s.data.toList.drop (i + k)) k acc = (0, 0, 8) := by
  rw [List.drop_of_length_le (by simpa using h), scan]
/-- one byte of a short number, in words -/
theorem mul_step (acc k c : Nat) (hacc : acc < 128 ^ k) (hk : k ≤ 9) (hc : c < 256) (h9 : k = 9 → c ≤ 1) :
    IntKind.u64.wrap (U (128 ^ k) * ((c % 128 : Nat) : Int)) = U (128 ^ k * (c % 128)) ∧ IntKind.u64.wrap (U acc + U (128 ^ k * (c % 128))) = U (acc + 128 ^ k * (c % 128)) := by
  have hb : 128 ^ k * (c % 128) + acc < 18446744073709551616 := by
    by_cases h : k = 9
    · have := h9 h; subst h
      have : c % 128 ≤ 1 := by omega
      have : 128 ^ 9 * (c % 128) ≤ 128 ^ 9 * 1 := Nat.mul_le_mul_left _ this
      omega
    · have h2 : (128 : Nat) ^ k ≤ 128 ^ 8 := Nat.pow_le_pow_right (by decide) (by omega)
      have : 128 ^ k * (c % 128) ≤ 128 ^ 8 * 127 := Nat.mul_le_mul h2 (by omega)
      omega
  unfold U
  refine ⟨?_, ?_⟩
  · rw [IntKind.wrap_u64, ← Int.natCast_mul]; omega
  · rw [IntKind.wrap_u64]; omega
theorem pow_128 (k : Nat) (hk : k ≤ 8) : IntKind.u64.wrap (U (128 ^ k) * 128) = U (128 ^ (k + 1)) := by
  have h2 : (128 : Nat) ^ k ≤ 128 ^ 8 := Nat.pow_le_pow_right (by decide) (by omega)
  have : (128 : Nat) ^ (k + 1) = 128 ^ k * 128 := Nat.pow_succ _ _
  unfold U
  rw [IntKind.wrap_u64, this]; omega

theorem mul_forms (acc k c : Nat) (hacc : acc < 128 ^ k) (hk : k ≤ 9) (hc : c < 2 ^ 8) (h9 : k = 9 → c ≤ 1) :
    IntKind.u64.wrap (U (128 ^ k) * ((c : Int) % 128)) = U (128 ^ k * (c % 128)) ∧ IntKind.u64.wrap (U acc + U (128 ^ k * (c % 128))) = U (acc + 128 ^ k * (c % 128)) ∧
      U (128 ^ k) * ((c : Int) % 128) % 18446744073709551616 = U (128 ^ k * (c % 128)) ∧ (U acc + U (128 ^ k * (c % 128))) % 18446744073709551616 = U (acc + 128 ^ k * (c % 128)) := by
  obtain ⟨h1, h2⟩ := mul_step acc k c hacc hk (by omega) h9
  rw [Int.natCast_emod] at h1
  exact ⟨h1, h2, by rw [← IntKind.wrap_u64]; exact h1, by rw [← IntKind.wrap_u64]; exact h2⟩

set_option maxRecDepth 100000 in
set_option maxHeartbeats 2000000 in
theorem dshort_any (d : Nat) (s : ByteArray) (i e m : Nat) (w : World) (h : Dr w d s i e) (hi : i ≤ s.size) (hs : s.size ≤ 1000000000000) :
    Calls Tryz.prog 39 #[.pointer (some ⟨d, 0, none⟩), .int .u64 (U m)] w fun x w' => x = .returned (.int .u64 (U (shR s i e m).1)) ∧ DStep w w' d s (shR s i e m).2.1 (shR s i e m).2.2 := by
  obtain ⟨c0, c1, c2, c3⟩ := h.cells
  have u0 : U 0 = 0 := rfl
  by_cases he : e = 0
  · subst he
    have HM : Hid (shR s i 0 m = if m < (scan (s.data.toList.drop i) 0 0).1 then (0, i, 40) else ((scan (s.data.toList.drop i) 0 0).1, i + (scan (s.data.toList.drop i) 0 0).2.1, (scan (s.data.toList.drop i) 0 0).2.2)) := by unfold shR; rw [if_pos rfl]; rfl
    obtain ⟨R, hR0⟩ : ∃ R, R = scan (s.data.toList.drop i) 0 0 := ⟨_, rfl⟩
    rw [← hR0] at HM
    have HR0 := Lib.hid hR0; clear hR0
    have f1 := frozen_row h 1
    have H := Lib.hid h
    clear h c3
    have HER : Hid (∀ f, f ≠ 0 → R = (0, 0, f) → shR s i 0 m = (0, i, f)) := by
      intro f hf hR
      have := HM.out; rw [hR, if_neg (by simp)] at this; exact this
    have HW : Hid (∀ n, DStep w (w.drewN n) d s i 0) := fun n => (DStep.refl H.out).drewN n
    go_enter Tryz.func39, Tryz.ntmps39
    go_wp2_with fail
    go_loopw [5, 6, 7] (fun n t j wr => ∃ k acc z : Nat, k ≤ 9 ∧ i + k ≤ s.size ∧ j = .int .i64 k ∧ n = .int .u64 (U acc) ∧ t = .int .u64 (U (128 ^ k)) ∧ wr = w.drewN z ∧ Hid (acc < 128 ^ k ∧ scan (s.data.toList.drop (i + k)) k acc = R)) (fun _ _ j _ => 10 - (intOf j).toNat)
    case atStart => exact ⟨0, 0, 0, by omega, by omega, rfl, rfl, rfl, rfl, by decide, HR0.out.symm⟩
    case round =>
      obtain ⟨k, acc, z, hk9, hik, rfl, rfl, rfl, rfl, hR⟩ := hrel
      obtain ⟨p, hp⟩ : ∃ p, p = i + k := ⟨_, rfl⟩
      have hadd : IntKind.i64.wrap ((i : Int) + (k : Int)) = (p : Int) := by rw [hp, IntWalk.i64_in _ (by omega)]; omega
      have hadd2 : IntKind.i64.wrap ((p : Int) + 1) = (p : Int) + 1 := IntWalk.i64_in _ (by omega)
      have HP := Lib.hid hp
      have hp0 : (0 : Int) ≤ (p : Int) := by omega
      by_cases hlt : p < s.size
      · have hS := hR.out.2
        rw [scan_i s i k acc (by omega)] at hS
        have HA := Lib.hid hR.out.1
        have hcl := s[p].toNat_lt
        have hcp : s[i + k]'(by omega) = s[p] := by subst hp; rfl
        rw [hcp] at hS
        have HS := Lib.hid hS
        clear hR hS hcp hp
        have hp1 : (p : Int) < (s.size : Int) := by omega
        have hu : IntKind.u64.wrap (s[p].toNat : Int) = (s[p].toNat : Int) := by rw [IntKind.wrap_u64]; omega
        have hcases : ((k = 9 ∧ 1 < s[p].toNat) ∨ (k = 9 ∧ s[p].toNat = 0) ∨ (k ≠ 9 ∧ 0 < k ∧ s[p].toNat = 0)) ∨ (k = 9 ∧ s[p].toNat = 1) ∨ (k ≠ 9 ∧ 0 < k ∧ s[p].toNat ≠ 0 ∧ s[p].toNat < 128) ∨ (k ≠ 9 ∧ 0 < k ∧ s[p].toNat ≠ 0 ∧ 128 ≤ s[p].toNat) ∨ (k = 0 ∧ s[p].toNat < 128) ∨ (k = 0 ∧ 128 ≤ s[p].toNat) := by omega
        rcases hcases with hq | hq | hq | hq | hq | hq
        · have HB : Hid (R = (0, 0, 4)) := by
            have := HS.out; rw [if_pos (by omega)] at this; exact this.symm
          have HE := Lib.hid (HER.out 4 (by decide) HB.out)
          clear HS HM HER
          rcases hq with hq | hq | hq
          · have i9 : ((k : Int) == 9) = true := by rw [beq_iff_eq]; omega
            have ic1 : (1 : Int) < (s[p].toNat : Int) := by omega
            have HQ := Lib.hid hq; clear hq
            go_wp2_with fail
            go_quiet (fail)
            go_wp2_with fail
            go_quiet (fail)
            go_wp2_with fail
            refine (dwrong d s i 4 _ (HW.out _).1 (by decide) 4 rfl).mono ?_; rintro x w1 ⟨rfl, hst⟩
            have HST := Lib.hid ((HW.out _).trans hst); clear hst
            go_wp2_with fail
            go_ret
            refine ⟨by rw [HE.out]; rfl, ?_⟩
            rw [HE.out]; exact HST.out
          · have i9 : ((k : Int) == 9) = true := by rw [beq_iff_eq]; omega
            have ic1 : (s[p].toNat : Int) ≤ 1 := by omega
            have ip : (0 : Int) < (k : Int) := by omega
            have ic0 : ((s[p].toNat : Int) == 0) = true := by rw [beq_iff_eq]; omega
            have HQ := Lib.hid hq; clear hq
            go_wp2_with fail
            go_quiet (fail)
            go_wp2_with fail
            go_quiet (fail)
            go_wp2_with fail
            refine (dwrong d s i 4 _ (HW.out _).1 (by decide) 4 rfl).mono ?_; rintro x w1 ⟨rfl, hst⟩
            have HST := Lib.hid ((HW.out _).trans hst); clear hst
            go_wp2_with fail
            go_ret
            refine ⟨by rw [HE.out]; rfl, ?_⟩
            rw [HE.out]; exact HST.out
          · have i9 : ((k : Int) == 9) = false := by rw [beq_eq_false_iff_ne]; omega
            have ip : (0 : Int) < (k : Int) := by omega
            have ic0 : ((s[p].toNat : Int) == 0) = true := by rw [beq_iff_eq]; omega
            have HQ := Lib.hid hq; clear hq
            go_wp2_with fail
            go_quiet (fail)
            go_wp2_with fail
            go_quiet (fail)
            go_wp2_with fail
            refine (dwrong d s i 4 _ (HW.out _).1 (by decide) 4 rfl).mono ?_; rintro x w1 ⟨rfl, hst⟩
            have HST := Lib.hid ((HW.out _).trans hst); clear hst
            go_wp2_with fail
            go_ret
            refine ⟨by rw [HE.out]; rfl, ?_⟩
            rw [HE.out]; exact HST.out
        · have HB : Hid ((acc + 128 ^ k * (s[p].toNat % 128), k + 1, 0) = R) := by
            have := HS.out; rw [if_neg (by omega), if_pos (by omega)] at this; exact this
          have i9 : ((k : Int) == 9) = true := by rw [beq_iff_eq]; omega
          have ic1 : (s[p].toNat : Int) ≤ 1 := by omega
          have ip : (0 : Int) < (k : Int) := by omega
          have ic0 : ((s[p].toNat : Int) == 0) = false := by rw [beq_eq_false_iff_ne]; omega
          have il : (s[p].toNat : Int) < 128 := by omega
          obtain ⟨hm1, hm2, hm3, hm4⟩ := mul_forms acc k s[p].toNat HA.out hk9 hcl (by omega)
          have hM := HM.out
          rw [← HB.out] at hM
          clear HS HM HER HB
          generalize hV : acc + 128 ^ k * (s[p].toNat % 128) = V at *
          clear hV
          simp only [] at hM
          have HQ := Lib.hid hq; clear hq
          by_cases hm : m < V
          · have hg : U m < U V := by unfold U; omega
            have HE : Hid (shR s i 0 m = (0, i, 40)) := hM.trans (if_pos hm)
            clear hM hm
            go_wp2_with fail
            go_quiet (fail)
            go_wp2_with fail
            go_quiet (fail)
            go_wp2_with fail
            refine (dwrong d s i 40 _ (HW.out _).1 (by decide) 40 rfl).mono ?_; rintro x w1 ⟨rfl, hst⟩
            have HST := Lib.hid ((HW.out _).trans hst); clear hst
            go_wp2_with fail
            go_ret
            refine ⟨by rw [HE.out]; rfl, ?_⟩
            rw [HE.out]; exact HST.out
          · have hg : U V ≤ U m := by unfold U; omega
            have HE : Hid (shR s i 0 m = (V, i + (k + 1), 0)) := hM.trans (if_neg hm)
            clear hM hm
            go_wp2_with fail
            go_quiet (fail)
            go_wp2_with fail
            go_quiet (fail)
            go_wp2_with fail
            go_ret
            refine ⟨by rw [HE.out]; rfl, ?_⟩
            rw [HE.out]
            have he : (p : Int) + 1 = ((i + (k + 1) : Nat) : Int) := by have := HP.out; omega
            rw [he]
            exact (HW.out _).trans ⟨heap_set (w := w.drewN _) (HW.out _).1 1 (.int .i64 ((i + (k + 1) : Nat) : Int)), grown_set _ _ _ _⟩
        · have HB : Hid ((acc + 128 ^ k * (s[p].toNat % 128), k + 1, 0) = R) := by
            have := HS.out; rw [if_neg (by omega), if_pos (by omega)] at this; exact this
          have i9 : ((k : Int) == 9) = false := by rw [beq_eq_false_iff_ne]; omega
          have ip : (0 : Int) < (k : Int) := by omega
          have ic0 : ((s[p].toNat : Int) == 0) = false := by rw [beq_eq_false_iff_ne]; omega
          have il : (s[p].toNat : Int) < 128 := by omega
          obtain ⟨hm1, hm2, hm3, hm4⟩ := mul_forms acc k s[p].toNat HA.out hk9 hcl (by omega)
          have hM := HM.out
          rw [← HB.out] at hM
          clear HS HM HER HB
          generalize hV : acc + 128 ^ k * (s[p].toNat % 128) = V at *
          clear hV
          simp only [] at hM
          have HQ := Lib.hid hq; clear hq
          by_cases hm : m < V
          · have hg : U m < U V := by unfold U; omega
            have HE : Hid (shR s i 0 m = (0, i, 40)) := hM.trans (if_pos hm)
            clear hM hm
            go_wp2_with fail
            go_quiet (fail)
            go_wp2_with fail
            go_quiet (fail)
            go_wp2_with fail
            refine (dwrong d s i 40 _ (HW.out _).1 (by decide) 40 rfl).mono ?_; rintro x w1 ⟨rfl, hst⟩
            have HST := Lib.hid ((HW.out _).trans hst); clear hst
            go_wp2_with fail
            go_ret
            refine ⟨by rw [HE.out]; rfl, ?_⟩
            rw [HE.out]; exact HST.out
          · have hg : U V ≤ U m := by unfold U; omega
            have HE : Hid (shR s i 0 m = (V, i + (k + 1), 0)) := hM.trans (if_neg hm)
            clear hM hm
            go_wp2_with fail
            go_quiet (fail)
            go_wp2_with fail
            go_quiet (fail)
            go_wp2_with fail
            go_ret
            refine ⟨by rw [HE.out]; rfl, ?_⟩
            rw [HE.out]
            have he : (p : Int) + 1 = ((i + (k + 1) : Nat) : Int) := by have := HP.out; omega
            rw [he]
            exact (HW.out _).trans ⟨heap_set (w := w.drewN _) (HW.out _).1 1 (.int .i64 ((i + (k + 1) : Nat) : Int)), grown_set _ _ _ _⟩
        · have HB : Hid (scan (s.data.toList.drop (i + (k + 1))) (k + 1) (acc + 128 ^ k * (s[p].toNat % 128)) = R) := by
            have := HS.out; rw [if_neg (by omega), if_neg (by omega)] at this; exact this
          have i9 : ((k : Int) == 9) = false := by rw [beq_eq_false_iff_ne]; omega
          have ip : (0 : Int) < (k : Int) := by omega
          have ic0 : ((s[p].toNat : Int) == 0) = false := by rw [beq_eq_false_iff_ne]; omega
          have il : (128 : Int) ≤ (s[p].toNat : Int) := by omega
          obtain ⟨hm1, hm2, hm3, hm4⟩ := mul_forms acc k s[p].toNat HA.out hk9 hcl (by omega)
          have ht1 := pow_128 k (by omega)
          have ht2 : U (128 ^ k) * 128 % 18446744073709551616 = U (128 ^ (k + 1)) := by rw [← IntKind.wrap_u64]; exact ht1
          have HV := Lib.hid (pow_step HA.out (Nat.mod_lt s[p].toNat (by decide)))
          clear HS HM HER
          generalize hV : acc + 128 ^ k * (s[p].toNat % 128) = V at *
          clear hV
          have HQ := Lib.hid hq; clear hq
          go_wp2_with fail
          go_quiet (fail)
          go_wp2_with fail
          go_quiet (fail)
          go_wp2_with fail
          go_roundw
          case rel => exact ⟨k + 1, V, _, by have := HQ.out; omega, by have := HP.out; omega, by go_num, rfl, rfl, rfl, HV.out, HB.out⟩
          case measure => simp [intOf] <;> omega
        · have HB : Hid ((acc + 128 ^ k * (s[p].toNat % 128), k + 1, 0) = R) := by
            have := HS.out; rw [if_neg (by omega), if_pos (by omega)] at this; exact this
          have i9 : ((k : Int) == 9) = false := by rw [beq_eq_false_iff_ne]; omega
          have ip : (k : Int) ≤ 0 := by omega
          have il : (s[p].toNat : Int) < 128 := by omega
          obtain ⟨hm1, hm2, hm3, hm4⟩ := mul_forms acc k s[p].toNat HA.out hk9 hcl (by omega)
          have hM := HM.out
          rw [← HB.out] at hM
          clear HS HM HER HB
          generalize hV : acc + 128 ^ k * (s[p].toNat % 128) = V at *
          clear hV
          simp only [] at hM
          have HQ := Lib.hid hq; clear hq
          by_cases hm : m < V
          · have hg : U m < U V := by unfold U; omega
            have HE : Hid (shR s i 0 m = (0, i, 40)) := hM.trans (if_pos hm)
            clear hM hm
            go_wp2_with fail
            go_quiet (fail)
            go_wp2_with fail
            go_quiet (fail)
            go_wp2_with fail
            refine (dwrong d s i 40 _ (HW.out _).1 (by decide) 40 rfl).mono ?_; rintro x w1 ⟨rfl, hst⟩
            have HST := Lib.hid ((HW.out _).trans hst); clear hst
            go_wp2_with fail
            go_ret
            refine ⟨by rw [HE.out]; rfl, ?_⟩
            rw [HE.out]; exact HST.out
          · have hg : U V ≤ U m := by unfold U; omega
            have HE : Hid (shR s i 0 m = (V, i + (k + 1), 0)) := hM.trans (if_neg hm)
            clear hM hm
            go_wp2_with fail
            go_quiet (fail)
            go_wp2_with fail
            go_quiet (fail)
            go_wp2_with fail
            go_ret
            refine ⟨by rw [HE.out]; rfl, ?_⟩
            rw [HE.out]
            have he : (p : Int) + 1 = ((i + (k + 1) : Nat) : Int) := by have := HP.out; omega
            rw [he]
            exact (HW.out _).trans ⟨heap_set (w := w.drewN _) (HW.out _).1 1 (.int .i64 ((i + (k + 1) : Nat) : Int)), grown_set _ _ _ _⟩
        · have HB : Hid (scan (s.data.toList.drop (i + (k + 1))) (k + 1) (acc + 128 ^ k * (s[p].toNat % 128)) = R) := by
            have := HS.out; rw [if_neg (by omega), if_neg (by omega)] at this; exact this
          have i9 : ((k : Int) == 9) = false := by rw [beq_eq_false_iff_ne]; omega
          have ip : (k : Int) ≤ 0 := by omega
          have il : (128 : Int) ≤ (s[p].toNat : Int) := by omega
          obtain ⟨hm1, hm2, hm3, hm4⟩ := mul_forms acc k s[p].toNat HA.out hk9 hcl (by omega)
          have ht1 := pow_128 k (by omega)
          have ht2 : U (128 ^ k) * 128 % 18446744073709551616 = U (128 ^ (k + 1)) := by rw [← IntKind.wrap_u64]; exact ht1
          have HV := Lib.hid (pow_step HA.out (Nat.mod_lt s[p].toNat (by decide)))
          clear HS HM HER
          generalize hV : acc + 128 ^ k * (s[p].toNat % 128) = V at *
          clear hV
          have HQ := Lib.hid hq; clear hq
          go_wp2_with fail
          go_quiet (fail)
          go_wp2_with fail
          go_quiet (fail)
          go_wp2_with fail
          go_roundw
          case rel => exact ⟨k + 1, V, _, by have := HQ.out; omega, by have := HP.out; omega, by go_num, rfl, rfl, rfl, HV.out, HB.out⟩
          case measure => simp [intOf] <;> omega
      · have HB : Hid (R = (0, 0, 8)) := by
          have := hR.out.2; rw [scan_e s i k acc (by omega)] at this; exact this.symm
        have HE := Lib.hid (HER.out 8 (by decide) HB.out)
        have hp1 : (s.size : Int) ≤ (p : Int) := by omega
        clear hR hp HM HER
        go_wp2_with fail
        go_quiet (fail)
        go_wp2_with fail
        refine (dwrong d s i 8 _ (HW.out _).1 (by decide) 8 rfl).mono ?_; rintro x w1 ⟨rfl, hst⟩
        have HST := Lib.hid ((HW.out _).trans hst); clear hst
        go_wp2_with fail
        go_ret
        refine ⟨by rw [HE.out]; rfl, ?_⟩
        rw [HE.out]; exact HST.out
  · have HM : Hid (shR s i e m = (0, i, e)) := if_neg he
    have hb : ((e : Int) != 0) = true := by rw [bne_iff_ne]; omega
    have H := Lib.hid h
    clear he h c3
    go_enter Tryz.func39, Tryz.ntmps39
    go_wp2_with fail
    go_ret
    refine ⟨by rw [HM.out]; rfl, ?_⟩
    rw [HM.out]; exact DStep.refl H.out

end Go.Proofs.YtiibeemjkdipnaaGreatDoor.Wire

/-
  The document's Reader: Text; what is asked of it ('asked').
-/
namespace Go.Proofs.YtiibeemjkdipnaaGreatDoor.Wire
open Go.RowKit

set_option maxRecDepth 100000 in
set_option maxHeartbeats 1000000 in
theorem dtext_walk (d : Nat) (s : ByteArray) (i e : Nat) (most : Int) (m : Nat) (w : World) (h : Dr w d s i e) (hi : i ≤ s.size) (hs : s.size ≤ 1000000000000)
    (hmax : max most 0 = (m : Int)) (hm : m ≤ 9223372036854775807) :
    Calls Tryz.prog 67 #[.pointer (some ⟨d, 0, none⟩), .int .i64 most] w fun x w' => x = .returned (.string (txR s i e m).1) ∧ DStep w w' d s (txR s i e m).2.1 (txR s i e m).2.2 := by
  have hw1 : IntKind.u64.wrap (m : Int) = U m := wrapM (m : Int) (by omega) (by omega)
  have hw2 : IntKind.i64.wrap (U (shR s i e m).1) = ((shR s i e m).1 : Int) := wrapI _ (by have := shR_most s i e m; omega)
  have hle := shR_le s i e m hi
  have HX : Hid (txR s i e m = (tkT s (shR s i e m).2.1 (shR s i e m).2.2 (shR s i e m).1, if tkE s (shR s i e m).2.1 (shR s i e m).2.2 (shR s i e m).1 = 0 then tkI s (shR s i e m).2.1 (shR s i e m).2.2 (shR s i e m).1 else i, tkE s (shR s i e m).2.1 (shR s i e m).2.2 (shR s i e m).1)) := rfl
  have HSR := Lib.hid (dshort_any d s i e m w h hi hs)
  have HERR : Hid ((shR s i e m).2.2 ≠ 0 → (shR s i e m).2.1 = i) := fun hh => (sh_err hh).2
  have cc := h.cells.2.1
  have HM := Lib.hid hm
  clear hm
  generalize shR s i e m = R at *
  obtain ⟨n, j, f⟩ := R
  simp only [] at hw2 hle
  have hsub : IntKind.i64.wrap ((s.size : Int) - (j : Int)) = (s.size : Int) - (j : Int) := IntWalk.i64_in _ (by omega)
  have hsubU : IntKind.u64.wrap ((s.size : Int) - (j : Int)) = (s.size : Int) - (j : Int) := by rw [IntKind.wrap_u64]; omega
  have HLE := Lib.hid hle
  clear hle
  by_cases hf : f = 0
  · subst hf
    by_cases hn : j + n ≤ s.size
    · have HX2 : Hid (txR s i e m = (tkT s j 0 n, tkI s j 0 n, tkE s j 0 n)) := by
        have h0 : tkE s j 0 n = 0 := by unfold tkE; rw [if_pos rfl, if_pos hn]
        have := HX.out; rw [if_pos h0] at this; exact this
      have hg : U n ≤ (s.size : Int) - (j : Int) := by unfold U; have := HLE.out; omega
      clear hn HX
      go_enter Tryz.func67, Tryz.ntmps67
      go_wp2_with fail
      refine HSR.out.mono ?_; rintro x w1 ⟨rfl, hst⟩
      obtain ⟨c0, c1, c2, c3⟩ := hst.1.cells
      have HST := Lib.hid hst; clear hst cc c3
      go_wp2_with fail
      go_quiet (fail)
      go_wp2_with fail
      refine (draw_any d s j 0 (n : Int) (w1.drewN nq) HST.out.1 HLE.out hs).mono ?_; rintro x w2 ⟨rfl, hst⟩
      rw [Int.toNat_natCast] at hst ⊢
      have HST2 := Lib.hid hst; clear hst
      go_wp2_with fail
      go_ret
      refine ⟨by rw [HX2.out]; rfl, ?_⟩
      rw [HX2.out]
      exact (HST.out.drewN nq).trans HST2.out
    · have HX2 : Hid (txR s i e m = (⟨#[]⟩, i, 8)) := by
        have h0 : tkE s j 0 n = 8 := by unfold tkE; rw [if_pos rfl, if_neg hn]
        have h1 : tkT s j 0 n = ⟨#[]⟩ := if_neg (by omega)
        have := HX.out; rw [if_neg (by rw [h0]; decide), h0, h1] at this; exact this
      have hg : (s.size : Int) - (j : Int) < U n := by unfold U; have := HLE.out; omega
      clear hn HX
      go_enter Tryz.func67, Tryz.ntmps67
      go_wp2_with fail
      refine HSR.out.mono ?_; rintro x w1 ⟨rfl, hst⟩
      obtain ⟨c0, c1, c2, c3⟩ := hst.1.cells
      have f1 := frozen_row hst.1 1
      have HST := Lib.hid hst; clear hst cc c3
      go_wp2_with fail
      go_quiet (fail)
      go_wp2_with fail
      have HD : Hid (DStep (w1.drewN nq) ((w1.drewN nq).setCell ⟨d, 1, none⟩ (.int .i64 (i : Int))) d s i 0) := ⟨heap_set (w := w1.drewN nq) HST.out.1 1 (.int .i64 (i : Int)), grown_set _ _ _ _⟩
      refine (dwrong d s i 8 _ HD.out.1 (by decide) 8 rfl).mono ?_; rintro x w2 ⟨rfl, hst⟩
      have HST2 := Lib.hid ((HST.out.drewN nq).trans (HD.out.trans hst)); clear hst
      go_wp2_with fail
      go_ret
      refine ⟨by rw [HX2.out]; rfl, ?_⟩
      rw [HX2.out]
      exact HST2.out
  · have HX2 : Hid (txR s i e m = (⟨#[]⟩, i, f)) := by
      have h0 : tkE s j f n = f := if_neg hf
      have h1 : tkT s j f n = ⟨#[]⟩ := if_neg (by omega)
      have := HX.out; rw [if_neg (by rw [h0]; exact hf), h0, h1] at this; exact this
    obtain rfl : j = i := HERR.out hf
    have hb : ((f : Int) != 0) = true := by rw [bne_iff_ne]; omega
    clear hf HX
    go_enter Tryz.func67, Tryz.ntmps67
    go_wp2_with fail
    refine HSR.out.mono ?_; rintro x w1 ⟨rfl, hst⟩
    obtain ⟨c0, c1, c2, c3⟩ := hst.1.cells
    have HST := Lib.hid hst; clear hst cc c3
    go_wp2_with fail
    go_ret
    refine ⟨by rw [HX2.out]; rfl, ?_⟩
    rw [HX2.out]
    exact HST.out
theorem dtext_any (d : Nat) (s : ByteArray) (i e : Nat) (most : Int) (w : World) (h : Dr w d s i e) (hi : i ≤ s.size) (hs : s.size ≤ 1000000000000) (hm : most ≤ 9223372036854775807) :
    Calls Tryz.prog 67 #[.pointer (some ⟨d, 0, none⟩), .int .i64 most] w fun x w' => x = .returned (.string (txR s i e most.toNat).1) ∧ DStep w w' d s (txR s i e most.toNat).2.1 (txR s i e most.toNat).2.2 :=
  dtext_walk d s i e most most.toNat w h hi hs (by omega) (by omega)

theorem ask_end {w w1 : World} {d : Nat} {s : ByteArray} {o : Obj} {i' e' : Nat} (k : DStep (w.alloc o) w1 d s i' e') (G : (Nat × ByteArray) × Nat × Nat) (hG : G.2 = (i', e')) : DStep w w1 d s G.2.1 G.2.2 := by
  rw [hG]
  exact ⟨k.1, grown_trans (grown_below ((Below.refl _ _).alloc (Nat.le_refl _) _)) k.2⟩
theorem dr_alloc {w : World} {d : Nat} {s : ByteArray} {i e : Nat} (h : Dr w d s i e) (o : Obj) : Dr (w.alloc o) d s i e := (Below.heap_alloc w o d (row_lt h)).trans h

end Go.Proofs.YtiibeemjkdipnaaGreatDoor.Wire
