/-
  The document's Reader.
-/
import Derived.Test.YtdllncbacbpedaaB18
namespace Go.Proofs.Ytdllncbacbpedaa.Wire
open Go.RowKit

def drS (s : ByteArray) (i e t : Nat) : Array Value := #[.string s, .int .i64 (i : Int), .int .i64 (e : Int), .int .i64 (t : Int)]
def Dr (w : World) (d : Nat) (s : ByteArray) (i e : Nat) : Prop := w.heap[d]? = some (.cells (drS s i e (errAt i e)) 61 (0, 0))
def DStep (w w' : World) (d : Nat) (s : ByteArray) (i e : Nat) : Prop := Dr w' d s i e ∧ w.grownBy w' (some d)
theorem DStep.refl {w : World} {d : Nat} {s : ByteArray} {i e : Nat} (h : Dr w d s i e) : DStep w w d s i e := ⟨h, grown_refl _ _⟩
theorem DStep.drewN {w w' : World} {d : Nat} {s : ByteArray} {i e : Nat} (h : DStep w w' d s i e) (n : Nat) : DStep w (w'.drewN n) d s i e := ⟨h.1, grown_drewN h.2 n⟩
theorem DStep.trans {a b c : World} {d : Nat} {s t : ByteArray} {i e j f : Nat} (h : DStep a b d s i e) (k : DStep b c d t j f) : DStep a c d t j f := ⟨k.1, grown_trans h.2 k.2⟩
theorem grown_set (w : World) (d j : Nat) (v : Value) : w.grownBy (w.setCell ⟨d, j, none⟩ v) (some d) := ⟨rfl, rfl, rfl, by simp [World.setCell], fun k _ hn => Below.heap_setCell w _ v k (fun e => hn (by rw [e]))⟩
theorem Dr.cells {w : World} {d : Nat} {s : ByteArray} {i e : Nat} (h : Dr w d s i e) : w.cell? ⟨d, 0, none⟩ = some (.string s) ∧ w.cell? ⟨d, 1, none⟩ = some (.int .i64 (i : Int)) ∧ w.cell? ⟨d, 2, none⟩ = some (.int .i64 (e : Int)) ∧ w.cell? ⟨d, 3, none⟩ = some (.int .i64 (errAt i e : Int)) :=
  ⟨cell_row h 0, cell_row h 1, cell_row h 2, cell_row h 3⟩

/-! ### an error -/
set_option maxHeartbeats 400000 in
theorem dwrong_any (d : Nat) (s : ByteArray) (i : Nat) (f : Nat) (w : World) (h : Dr w d s i 0) (hf : f ≠ 0) (j : Nat) (hj : w.cell? ⟨d, 1, none⟩ = some (.int .i64 (j : Int)) → i = j) (y : Int) (hy : y = (f : Int)) :
    Calls Try.prog 66 #[.pointer (some ⟨d, 0, none⟩), .int .i64 y, .int .i64 (i : Int)] w fun x w' => x = .returned (.tuple #[]) ∧ DStep w w' d s i f := by
  subst hy
  obtain ⟨c0, c1, c2, c3⟩ := h.cells
  have f2 := frozen_row h 2
  have f3 := frozen_row h 3
  have HE : Hid (errAt i f = i) := if_neg hf
  clear hj
  go_enter Try.func66, Try.ntmps66
  go_wp2_with fail
  go_end0
  refine ⟨rfl, ?_, grown_trans (grown_set _ _ _ _) (grown_set _ _ _ _)⟩
  have := heap_set (heap_set h 2 (.int .i64 (f : Int))) 3 (.int .i64 (i : Int))
  unfold Dr
  rw [HE.out]; exact this
theorem dwrong (d : Nat) (s : ByteArray) (i : Nat) (f : Nat) (w : World) (h : Dr w d s i 0) (hf : f ≠ 0) (y : Int) (hy : y = (f : Int)) :
    Calls Try.prog 66 #[.pointer (some ⟨d, 0, none⟩), .int .i64 y, .int .i64 (i : Int)] w fun x w' => x = .returned (.tuple #[]) ∧ DStep w w' d s i f :=
  dwrong_any d s i f w h hf i (fun _ => rfl) y hy

/-! ### End -/
set_option maxHeartbeats 400000 in
theorem dend_any (d : Nat) (s : ByteArray) (i e : Nat) (w : World) (h : Dr w d s i e) :
    Calls Try.prog 41 #[.pointer (some ⟨d, 0, none⟩)] w fun x w' => x = .returned (.int .i64 (endE s i e : Int)) ∧ ∃ n, w' = w.drewN n := by
  obtain ⟨c0, c1, c2, c3⟩ := h.cells
  clear h c3
  by_cases he : e = 0
  · subst he
    by_cases hl : i < s.size
    · have hE : Hid (endE s i 0 = 4) := if_pos ⟨rfl, hl⟩
      have hg : (i : Int) < (s.size : Int) := by omega
      go_enter Try.func41, Try.ntmps41
      go_wp2_with fail
      go_quiet (fail)
      go_wp2_with fail
      go_ret
      exact ⟨by rw [hE.out]; rfl, _, rfl⟩
    · have hE : Hid (endE s i 0 = 0) := if_neg (by omega)
      have hg : (s.size : Int) ≤ (i : Int) := by omega
      go_enter Try.func41, Try.ntmps41
      go_wp2_with fail
      go_quiet (fail)
      go_wp2_with fail
      go_ret
      exact ⟨by rw [hE.out]; rfl, _, rfl⟩
  · have hE : Hid (endE s i e = e) := if_neg (by omega)
    have hb : ((e : Int) == 0) = false := by rw [beq_eq_false_iff_ne]; omega
    clear he
    go_enter Try.func41, Try.ntmps41
    go_wp2_with fail
    go_quiet (fail)
    go_wp2_with fail
    go_ret
    exact ⟨by rw [hE.out]; rfl, _, rfl⟩

/-! ### Raw -/
set_option maxRecDepth 100000 in
set_option maxHeartbeats 400000 in
theorem draw_walk (d : Nat) (s : ByteArray) (i e : Nat) (n : Nat) (m : Int) (w : World) (h : Dr w d s i e) (hi : i ≤ s.size) (hs : s.size ≤ 1000000000000) (hm : max m 0 = (n : Int)) :
    Calls Try.prog 64 #[.pointer (some ⟨d, 0, none⟩), .int .i64 m] w fun x w' => x = .returned (.string (tkT s i e n)) ∧ DStep w w' d s (tkI s i e n) (tkE s i e n) := by
  obtain ⟨c0, c1, c2, c3⟩ := h.cells
  have hsub : IntKind.i64.wrap ((s.size : Int) - (i : Int)) = (s.size : Int) - (i : Int) := IntWalk.i64_in _ (by omega)
  by_cases he : e = 0
  · subst he
    by_cases hn : i + n ≤ s.size
    · have hT : Hid (tkT s i 0 n = s.extract i (i + n) ∧ tkI s i 0 n = i + n ∧ tkE s i 0 n = 0) := ⟨if_pos ⟨rfl, hn⟩, if_pos ⟨rfl, hn⟩, by unfold tkE; rw [if_pos rfl, if_pos hn]⟩
      have hg : (n : Int) ≤ (s.size : Int) - (i : Int) := by omega
      have b0 : (0 : Int) ≤ (i : Int) := by omega
      have b1 : (i : Int) ≤ (i : Int) + (n : Int) := by omega
      have b2 : (i : Int) + (n : Int) ≤ (s.size : Int) := by omega
      have b3 : ((i : Int) + (n : Int)).toNat = i + n := by omega
      have hadd : IntKind.i64.wrap ((i : Int) + (n : Int)) = (i : Int) + (n : Int) := IntWalk.i64_in _ (by omega)
      have f1 := frozen_row h 1
      have H := Lib.hid h
      clear hn h c3
      go_enter Try.func64, Try.ntmps64
      go_wp2_with fail
      go_quiet (fail)
      go_wp2_with fail
      go_quiet (fail)
      go_wp2_with fail
      go_ret
      refine ⟨by rw [hT.out.1]; rfl, ?_⟩
      rw [hT.out.2.1, hT.out.2.2]
      refine ⟨?_, grown_trans (grown_drewN (grown_refl w d) _) (grown_set _ _ _ _)⟩
      have := heap_set H.out 1 (.int .i64 ((i + n : Nat) : Int))
      exact this
    · have hT : Hid (tkT s i 0 n = ⟨#[]⟩ ∧ tkI s i 0 n = i ∧ tkE s i 0 n = 8) := ⟨if_neg (by omega), if_neg (by omega), by unfold tkE; rw [if_pos rfl, if_neg hn]⟩
      have hg : (s.size : Int) - (i : Int) < (n : Int) := by omega
      have H := Lib.hid h
      clear hn h c3
      go_enter Try.func64, Try.ntmps64
      go_wp2_with fail
      go_quiet (fail)
      go_wp2_with fail
      refine (dwrong d s i 8 (w.drewN nq) H.out (by decide) 8 rfl).mono ?_; rintro x w1 ⟨rfl, hst⟩
      have HST := Lib.hid ((DStep.refl H.out).drewN nq |>.trans hst); clear hst
      go_wp2_with fail
      go_ret
      refine ⟨by rw [hT.out.1]; rfl, ?_⟩
      rw [hT.out.2.1, hT.out.2.2]; exact HST.out
  · have hT : Hid (tkT s i e n = ⟨#[]⟩ ∧ tkI s i e n = i ∧ tkE s i e n = e) := ⟨if_neg (by omega), if_neg (by omega), if_neg he⟩
    have hb : ((e : Int) != 0) = true := by rw [bne_iff_ne]; omega
    have H := Lib.hid h
    clear he h c3
    go_enter Try.func64, Try.ntmps64
    go_wp2_with fail
    go_ret
    refine ⟨by rw [hT.out.1]; rfl, ?_⟩
    rw [hT.out.2.1, hT.out.2.2]; exact DStep.refl H.out
theorem draw_any (d : Nat) (s : ByteArray) (i e : Nat) (m : Int) (w : World) (h : Dr w d s i e) (hi : i ≤ s.size) (hs : s.size ≤ 1000000000000) :
    Calls Try.prog 64 #[.pointer (some ⟨d, 0, none⟩), .int .i64 m] w fun x w' => x = .returned (.string (tkT s i e m.toNat)) ∧ DStep w w' d s (tkI s i e m.toNat) (tkE s i e m.toNat) :=
  draw_walk d s i e m.toNat m w h hi hs (by omega)

end Go.Proofs.Ytdllncbacbpedaa.Wire
