/-
  The walk of the statement WireReads.
-/
import Derived.Test.YtdllncbacbpedaaB24
import Derived.Test.YtdllncbacbpedaaB19
import Derived.Test.YtdllncbacbpedaaB14
namespace Go.Proofs.Ytdllncbacbpedaa.Wire
open Go.RowKit

structure TwoI (w0 : World) (s : ByteArray) (r d i e : Nat) (wr : World) : Prop where
  bel : Below w0.heap.size w0 wr
  rd : Rd wr r s i e
  dr : Dr wr d s i e
  le : i ≤ s.size
  low : w0.heap.size ≤ r
  lowd : w0.heap.size ≤ d
  ne : r ≠ d
theorem dstep_low {B : Nat} {a b : World} {d : Nat} {s : ByteArray} {i e : Nat} (h : DStep a b d s i e) (hr : B ≤ d) (hB : B ≤ a.heap.size) : Below B a b :=
  ⟨h.2.os, h.2.tape, h.2.output, h.2.size, fun k hk => h.2.block k (by omega) (fun e => by injection e with e; omega)⟩
theorem Dr.beside {a b : World} {r d : Nat} {s : ByteArray} {i e : Nat} (h : Dr a d s i e) (k : a.grownBy b (some r)) (hne : r ≠ d) : Dr b d s i e := (k.block d (row_lt h) (fun e => by injection e with e; omega)).trans h
theorem Rd.beside {a b : World} {r d : Nat} {s : ByteArray} {i e : Nat} (h : Rd a r s i e) (k : a.grownBy b (some d)) (hne : r ≠ d) : Rd b r s i e := (k.block r (row_lt h) (fun e => by injection e with e; omega)).trans h
/-- both are asked -/
theorem TwoI.both {w0 wr w1 w2 : World} {s : ByteArray} {r d i e j f : Nat} (h : TwoI w0 s r d i e wr) (k : Step wr w1 r s j f) (l : DStep w1 w2 d s j f) (hj : j ≤ s.size) : TwoI w0 s r d j f w2 := by
  have h1 := h.bel.trans (step_low k h.low h.bel.size)
  exact ⟨h1.trans (dstep_low l h.lowd h1.size), k.1.beside l.2 h.ne, l.1, hj, h.low, h.lowd, h.ne⟩
theorem TwoI.drewN {w0 wr : World} {s : ByteArray} {r d i e : Nat} (h : TwoI w0 s r d i e wr) (n : Nat) : TwoI w0 s r d i e (wr.drewN n) := ⟨⟨h.bel.os, h.bel.tape, h.bel.output, h.bel.size, h.bel.block⟩, h.rd, h.dr, h.le, h.low, h.lowd, h.ne⟩

set_option maxRecDepth 100000 in
set_option maxHeartbeats 4000000 in
theorem wireReads_walk (s : ByteArray) (A : Option Addr) (cap : Nat) (xs : List It) (w : World) (hs : s.size ≤ maxLen) (hx : Items w A xs w.heap.size) (hl : xs.length ≤ cap) (hcap : cap ≤ maxLen) :
    Calls Try.prog 5 #[.string s, .slice A xs.length cap] w fun e w' => e = .returned (.bool true) ∧ Below w.heap.size w w' := by
  have HX := Lib.hid hx; clear hx
  have HH : Hid (∀ W, Below w.heap.size w W → Calls Try.prog 35 #[.string s, .slice A xs.length cap] W fun e w' => e = .returned (.bool (decide (20000 ≤ s.size + tot xs))) ∧ W = w') := fun W hb =>
    heavy_any s A cap xs W hs (fun i hi => by
      obtain ⟨b, off, h1, h2, h3⟩ := HX.out.below hb i hi
      exact ⟨b, off, h1, by have := hb.size; omega, h3⟩) hl hcap
  by_cases hv : 20000 ≤ s.size + tot xs
  · rw [decide_eq_true hv] at HH
    clear hv
    go_enter Try.func5, Try.ntmps5
    go_wp2_with fail
    refine (HH.out w (Below.refl _ _)).mono ?_; rintro e w2 ⟨rfl, rfl⟩
    go_wp2_with fail
    refine (works_any w).mono ?_; rintro e w2 ⟨rfl, hb2⟩
    go_wp2_with fail
    go_ret
    exact ⟨rfl, hb2⟩
  · rw [decide_eq_false hv] at HH
    have HS : Hid (s.size ≤ 1000000000000) := by show _ ≤ _; omega
    clear hv
    have hlen : xs.length ≤ 9223372036854775807 := by unfold maxLen at hcap; omega
    go_enter Try.func5, Try.ntmps5
    go_wp2_with fail
    refine (HH.out w (Below.refl _ _)).mono ?_; rintro e w2 ⟨rfl, rfl⟩
    go_wp2_with fail
    refine (new_any s w).mono ?_; rintro e w2 ⟨rfl, rfl⟩
    have HI0 : Hid (TwoI w s w.heap.size (w.heap.size + 1) 0 0 ((w.alloc (.cells (rdS s 0 0) 73)).alloc (.cells #[.string s, .int .i64 0, .int .i64 0, .int .i64 0] 61))) := by
      have h1 : w.heap.size ≤ (w.alloc (.cells (rdS s 0 0) 73)).heap.size := by simp
      have h2 : (w.alloc (.cells (rdS s 0 0) 73)).heap.size = w.heap.size + 1 := by simp
      refine ⟨((Below.refl _ _).alloc (Nat.le_refl _) _).alloc h1 _, rd_alloc (Rd.new s w) _, ?_, Nat.zero_le _, Nat.le_refl _, Nat.le_succ _, by omega⟩
      have := heap_alloc_new (w.alloc (.cells (rdS s 0 0) 73)) (.cells #[.string s, .int .i64 0, .int .i64 0, .int .i64 0] 61)
      rw [h2] at this
      exact this
    go_wp2_with fail
    generalize hr : w.heap.size = r at *
    have HRr := Lib.hid hr; clear hr
    generalize hd : r + 1 = d at *
    have HDd := Lib.hid hd; clear hd
    go_loopw [7] (fun t wr => ∃ k i e : Nat, k ≤ xs.length ∧ t = .int .i64 k ∧ Hid (TwoI w s r d i e wr)) (fun t _ => xs.length - (intOf t).toNat)
    case atStart => exact ⟨0, 0, 0, Nat.zero_le _, rfl, HI0⟩
    case round =>
      obtain ⟨k, i, e, hk, rfl, HI⟩ := hrel
      by_cases hlt : k < xs.length
      · have HXr := Lib.hid (HX.out.below (by have := HI.out.bel; rw [HRr.out] at this; exact this))
        obtain ⟨b, off, hA, hB, c0, c1, c2, c3, hok⟩ := HXr.out k hlt
        have HOK := Lib.hid hok
        have HBb := Lib.hid hB
        subst hA
        clear hok hB
        generalize hX : xs[k] = x at *
        have HXk := Lib.hid hX; clear hX
        have hk0 : (0 : Int) ≤ (k : Int) := by omega
        have hk1 : (k : Int) < (xs.length : Int) := by omega
        have HJ := Lib.hid (gt_le s i e x HI.out.le)
        have hget := Lib.hid (lget_any r s i e x wr HI.out.rd HI.out.le HS.out HOK.out)
        have hask := Lib.hid (fun W (h : Dr W d s i e) => lask_any d s i e x W h HI.out.le HS.out HOK.out)
        generalize gt s i e x = G at *
        obtain ⟨⟨V, T⟩, j, f⟩ := G
        have C0 := Lib.hid c0; have C1 := Lib.hid c1; have C2 := Lib.hid c2; have C3 := Lib.hid c3
        go_wp2_with fail
        refine hget.out.mono ?_; rintro z w2 ⟨rfl, hst⟩
        have HST := Lib.hid hst
        have HBw := Lib.hid (step_low (B := w.heap.size) hst (by rw [HRr.out]; exact Nat.le_refl _) (by have := HI.out.bel.size; exact this))
        clear hst c0 c1 c2 c3
        have hB := HBb.out
        rw [← HRr.out] at hB
        have c0 := (HBw.out.cell (p := ⟨b, off + k * 4, none⟩) hB).trans C0.out
        have c1 := (HBw.out.cell (p := ⟨b, off + k * 4 + 1, none⟩) hB).trans C1.out
        have c2 := (HBw.out.cell (p := ⟨b, off + k * 4 + 2, none⟩) hB).trans C2.out
        have c3 := (HBw.out.cell (p := ⟨b, off + k * 4 + 3, none⟩) hB).trans C3.out
        clear hB
        go_wp2_with fail
        refine (hask.out w2 (HI.out.dr.beside HST.out.2 HI.out.ne)).mono ?_; rintro z w3 ⟨rfl, hst⟩
        have HI3 := Lib.hid (HI.out.both HST.out hst HJ.out)
        clear hst HST c0 c1 c2 c3 hget hask HBw
        go_wp2_with fail
        refine (err_any r s j f w3 HI3.out.rd).mono ?_; rintro z w4 ⟨rfl, n5, rfl⟩
        have HI4 := Lib.hid (HI3.out.drewN n5)
        clear HI3
        generalize w3.drewN n5 = W at *
        obtain ⟨c0, c1, c2, c3⟩ := HI4.out.dr.cells
        have hsub : IntKind.i64.wrap ((s.size : Int) - (j : Int)) = (s.size : Int) - (j : Int) := IntWalk.i64_in _ (by have := HI4.out.le; have := HS.out; omega)
        have HAt : Hid (∀ n, Calls Try.prog 29 #[.pointer (some ⟨r, 0, none⟩)] (W.drewN n) fun z w' => z = .returned (.int .i64 (j : Int)) ∧ w' = W.drewN n) := fun n => (at_any r s j f (W.drewN n) HI4.out.rd).mono fun _ _ ⟨h1, h2⟩ => ⟨h1, h2.symm⟩
        have HLf : Hid (∀ n, Calls Try.prog 14 #[.pointer (some ⟨r, 0, none⟩)] (W.drewN n) fun z w' => z = .returned (.int .i64 ((s.size : Int) - (j : Int))) ∧ ∃ m, w' = (W.drewN n).drewN m) := fun n => left_any r s j f (W.drewN n) HI4.out.rd HI4.out.le HS.out
        have HEn : Hid (∀ n, Calls Try.prog 15 #[.pointer (some ⟨r, 0, none⟩)] (W.drewN n) fun z w' => z = .returned (.int .i64 (endE s j f : Int)) ∧ ∃ m, w' = (W.drewN n).drewN m) := fun n => end_any r s j f (W.drewN n) HI4.out.rd HI4.out.le HS.out
        have HEd : Hid (∀ n, Calls Try.prog 41 #[.pointer (some ⟨d, 0, none⟩)] (W.drewN n) fun z w' => z = .returned (.int .i64 (endE s j f : Int)) ∧ ∃ m, w' = (W.drewN n).drewN m) := fun n => dend_any d s j f (W.drewN n) HI4.out.dr
        go_wp2_with fail
        go_quiet ((first | (go_at_call 29; exact Calls.quiet_of_same (HAt.out _)) | (go_at_call 14; exact Calls.quiet_of (HLf.out _)) | (go_at_call 15; exact Calls.quiet_of (HEn.out _)) | (go_at_call 41; exact Calls.quiet_of (HEd.out _))))
        have HI5 := Lib.hid (HI4.out.drewN nq)
        clear c0 c1 c2 c3
        go_wp2_with fail
        go_roundw
        case rel => exact ⟨k + 1, j, f, by omega, by go_num, HI5⟩
        case measure => simp [intOf] <;> omega
      · obtain rfl : k = xs.length := by omega
        go_wp2_with fail
        refine (carry HI.out.bel (works_any _)).mono ?_; rintro z w2 ⟨rfl, hb⟩
        go_wp2_with fail
        go_ret
        exact ⟨rfl, hb⟩

end Go.Proofs.Ytdllncbacbpedaa.Wire
