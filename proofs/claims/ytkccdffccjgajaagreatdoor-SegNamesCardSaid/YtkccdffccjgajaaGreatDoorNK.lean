import Derived.Test.YtkccdffccjgajaaGreatDoorNH
/-
  The walk of the function that Split's iterator hands about: a payload goes into the last segment.
-/
namespace Go.Proofs.YtkccdffccjgajaaGreatDoor.Seg
open Go Go.RowKit
open Go.Proofs.YtkccdffccjgajaaGreatDoor.Wire (S S_list S_size cell_row frozen_row row_lt heap_set U)
open Go.Proofs.YtkccdffccjgajaaGreatDoor.Frame Go.Proofs.YtkccdffccjgajaaGreatDoor.Ranges
attribute [local go_sem] Oper.semAt_some

/-- the iterator's variables: the last segment, the greatest size, where segments are handed to, whether more are wanted -/
structure Cb (most : Int) (l bl bm by_ bw ob : Nat) (X : World) : Prop where
  last : Boxed X bl 83 (.pointer (some ⟨ob, 0, none⟩))
  most : Boxed X bm 3 (.int .i64 most)
  yld : Boxed X by_ 117 (.func (.yield l) #[] #[])
  wanted : Boxed X bw 4 (.bool true)
theorem Cb.only {most : Int} {l bl bm by_ bw ob B : Nat} {X X' : World} (h : Cb most l bl bm by_ bw ob X) (g : Opn.Only B X X') : Cb most l bl bm by_ bw ob X' :=
  ⟨only_boxed g h.last (by decide) (by decide) (by decide), only_boxed g h.most (by decide) (by decide) (by decide), only_boxed g h.yld (by decide) (by decide) (by decide), only_boxed g h.wanted (by decide) (by decide) (by decide)⟩
theorem Cb.dn {most : Int} {l bl bm by_ bw ob : Nat} {X : World} (h : Cb most l bl bm by_ bw ob X) (n : Nat) : Cb most l bl bm by_ bw ob (X.drewN n) := ⟨h.last, h.most, h.yld, h.wanted⟩
theorem wf_nat (n : Nat) (h : n ≤ 1000000000000) : (Lit.int .i64 (n : Int)).wf = true := by simp [Lit.wf, IntKind.min, IntKind.max, IntKind.bits, IntKind.signed]; omega
set_option maxRecDepth 100000 in
set_option maxHeartbeats 4000000 in
/-- it goes in -/
theorem cb_put (most : Int) (hm : (Lit.int .i64 most).wf = true) (l bl bm by_ bw ob B N : Nat) (seg : List UInt8) (p : ByteArray) (hN : N < 1048576) (h1 : 1 ≤ p.size) (h2 : p.size ≤ 4096) (hs : seg.length ≤ 100000000000) (hf : fitsB (seg.length : Int) (p.size : Int) most = true)
    (X : World) (hc : Cb most l bl bm by_ bw ob X) (hw : Opn.Wr (N : Int) B X ob seg) :
    Calls Tryz.prog 80 #[.string p, .pointer (some ⟨bl, 0, none⟩), .pointer (some ⟨bm, 0, none⟩), .pointer (some ⟨by_, 0, none⟩), .pointer (some ⟨bw, 0, none⟩)] X fun e X' =>
      e = .returned (.bool true) ∧ Opn.Wr ((N + 1 : Nat) : Int) B X' ob (seg ++ frB N p.data.toList) ∧ Opn.Only B X X' := by
  have hft := fun W => Fits_any (seg.length : Int) (p.size : Int) most (wf_nat _ (by omega)) hm W
  rw [hf] at hft
  have HFT := Lib.hid (fun n => (hft (X.drewN n)).mono fun e w' (h : _ ∧ _) => And.intro h.1 h.2.symm)
  have HLE := Lib.hid (fun n => (Opn.len_any (X.drewN n) B ob seg (hw.drewN n)).mono fun e w' (h : _ ∧ _) => And.intro h.1 h.2.symm)
  clear hft
  have HPU := Lib.hid (fun W => put_seg N p hN h1 h2 B ob seg hs W)
  have HC := Lib.hid hc
  have HW := Lib.hid hw
  have cL := hc.last.cell
  have cM := hc.most.cell
  clear hm hN h1 h2 hs hf hw
  go_enter Tryz.func80, Tryz.ntmps80
  go_wp2_with fail
  go_quiet ((first | (go_at_call 81; exact Calls.quiet_of_same (HLE.out _)) | (go_at_call 20; exact Calls.quiet_of_same (HFT.out _))))
  have cL' := (hc.dn nq).last.cell
  go_wp2_with fail
  refine (HPU.out _ (HW.out.drewN nq)).mono ?_
  rintro e w2 ⟨rfl, hw2, ho2⟩
  have HW2 := Lib.hid hw2
  have HO2 := Lib.hid (((Opn.Only.refl B X).drewN nq).trans ho2)
  clear hw2 ho2
  go_wp2_with fail
  go_ret
  exact ⟨rfl, HW2.out, HO2.out⟩
theorem Wr.off {N : Int} {B : Nat} {w : World} {p r : Nat} {l : List UInt8} (h : Opn.Wr N B w p l) (hr : r < B) (v : Value) : Opn.Wr N B (w.setCell ⟨r, 0, none⟩ v) p l := by
  obtain ⟨hB, h⟩ := h
  refine ⟨hB, ?_⟩
  rcases h with ⟨h, e⟩ | ⟨q, g, cap, h1, h2, h3, h4, h5⟩
  · exact Or.inl ⟨(Wire.heap_far 0 v (by omega)).trans h, e⟩
  · exact Or.inr ⟨q, g, cap, h1, h2, (Wire.heap_far 0 v (by omega)).trans h3, (Wire.heap_far 0 v (by omega)).trans h4, h5.same (Wire.heap_far 0 v (by omega))⟩
theorem yields_all {P : Program} {l : Nat} {args : Array Value} {X : World} {R : Ending → World → Prop} (h : ∀ n, YieldAt Fence.wide 0 P l args (X.drewN n) R) :
    ∃ (fn : Nat → _) (tmps : Nat → _) (assign : Nat → _) (body : Nat → _), (∀ n, (Instr.yield l args).run P (X.drewN n) = .ok (.round l (fn n) (tmps n) (assign n) (body n)) (X.drewN n)) ∧ ∀ n, RoundIn Fence.wide 0 P l (fn n) (tmps n) (assign n) (body n) (X.drewN n) R :=
  ⟨fun n => (h n).choose, fun n => (h n).choose_spec.choose, fun n => (h n).choose_spec.choose_spec.choose, fun n => (h n).choose_spec.choose_spec.choose_spec.choose,
    fun n => (h n).choose_spec.choose_spec.choose_spec.choose_spec.1, fun n => (h n).choose_spec.choose_spec.choose_spec.choose_spec.2⟩
set_option maxRecDepth 100000 in
set_option maxHeartbeats 4000000 in
/-- it doesn't: the last segment is handed on, and another one begun -/
theorem cb_cut (most : Int) (hm : (Lit.int .i64 most).wf = true) (l bl bm by_ bw ob B N : Nat) (seg : List UInt8) (p : ByteArray) (hN : N < 1048576) (h1 : 1 ≤ p.size) (h2 : p.size ≤ 4096) (hs : seg.length ≤ 100000000000) (hf : fitsB (seg.length : Int) (p.size : Int) most = false)
    (X : World) (hc : Cb most l bl bm by_ bw ob X) (hw : Opn.Wr (N : Int) B X ob seg) (hbl : bl ≠ bw) (hob : ob ≠ bl ∧ ob ≠ bw) (Post : World → Prop)
    (hP : ∀ W', Post W' → Boxed W' bl 83 (.pointer (some ⟨ob, 0, none⟩)) ∧ Boxed W' bw 4 (.bool true) ∧ W'.heap[ob]? = X.heap[ob]?)
    (hy : ∀ n, YieldAt Fence.wide 0 Tryz.prog l #[.string (S seg)] (X.drewN n) fun e W' => e = .returned (.bool true) ∧ Post W') :
    CallsIn Fence.wide 0 Tryz.prog 80 #[.string p, .pointer (some ⟨bl, 0, none⟩), .pointer (some ⟨bm, 0, none⟩), .pointer (some ⟨by_, 0, none⟩), .pointer (some ⟨bw, 0, none⟩)] X fun e X' =>
      e = .returned (.bool true) ∧ ∃ W', Post W' ∧ Opn.Wr ((N + 1 : Nat) : Int) W'.heap.size X' W'.heap.size (segH N ++ frB N p.data.toList) ∧ Grw (fun r => r = bl ∨ r = bw) W' X' ∧
        Boxed X' bl 83 (.pointer (some ⟨W'.heap.size, 0, none⟩)) ∧ Boxed X' bw 4 (.bool true) := by
  have hft := fun W => Fits_any (seg.length : Int) (p.size : Int) most (wf_nat _ (by omega)) hm W
  rw [hf] at hft
  have HFT := Lib.hid (fun n => (hft (X.drewN n)).mono fun e w' (h : _ ∧ _) => And.intro h.1 h.2.symm)
  have HLE := Lib.hid (fun n => (Opn.len_any (X.drewN n) B ob seg (hw.drewN n)).mono fun e w' (h : _ ∧ _) => And.intro h.1 h.2.symm)
  clear hft
  have HPU := Lib.hid (fun B' ob' W => put_seg N p hN h1 h2 B' ob' (segH N) (by rw [segH_length]; decide) W)
  have HBE := Lib.hid (fun W => begin_any N (by omega) W)
  have HBY : Hid (∀ n, Calls Tryz.prog 50 #[.pointer (some ⟨ob, 0, none⟩)] (X.drewN n) fun e w' => e = .returned (.string (S seg)) ∧ ∃ m, w' = X.drewN m) :=
    Lib.hid (fun n => (Opn.bytes_any (X.drewN n) B ob seg (hw.drewN n)).mono fun e w' ⟨a, m, hmm⟩ => ⟨a, n + m, by rw [hmm, World.drewN_drewN]⟩)
  obtain ⟨fn, tmps, assign, body, hyr, hR⟩ := yields_all hy
  have HRR := Lib.hid hR
  clear hR
  have HC := Lib.hid hc
  have HW := Lib.hid hw
  have HP := Lib.hid hP
  have HNE := Lib.hid (And.intro hbl hob)
  have cL := hc.last.cell
  have cM := hc.most.cell
  have cY := hc.yld.cell
  clear hm hN h1 h2 hs hf hw hP hy
  refine callsIn_of_wp Tryz.func80 rfl trivial ?_ rfl
  simp only [Tryz.ntmps80, List.size_toArray, List.length_cons, List.length_nil, Nat.reduceAdd, Nat.reduceSub, Array.replicate_succ, Array.replicate_zero, List.push_toArray, List.append_toArray, List.nil_append, List.cons_append]
  refine wpIn_wide.2 ?_
  go_wp2_with fail
  go_quiet ((first | (go_at_call 81; exact Calls.quiet_of_same (HLE.out _)) | (go_at_call 20; exact Calls.quiet_of_same (HFT.out _))))
  have cL' := (hc.dn nq).last.cell
  have cY' := (hc.dn nq).yld.cell
  go_wp2_with fail
  refine (wpIn_wide (n := 0)).1 ?_
  have hfm : Tryz.prog.follows .mixedOrders = true := by kernel_rfl
  gi_region_with_o (first | (refine ⟨trivial, rfl, ?_⟩; gi_at_call 50; refine (callsIn_wide.2 (HBY.out _)).mono ?_; rintro e w' ⟨rfl, nq2, rfl⟩) | (refine ⟨rfl, (HRR.out _).mono ?_⟩; rintro e w' ⟨rfl, hpost⟩; (have cw := (HP.out _ hpost).2.1.cell); (have fw := (HP.out _ hpost).2.1.frozen); (have HPO := Lib.hid hpost); clear hpost))
  all_goals
    have hPw := HP.out _ HPO.out
    have hz5 : (w'.setCell ⟨bw, 0, none⟩ (.bool true)).heap.size = w'.heap.size := by simp [World.setCell]
    have hL5 : Boxed (w'.setCell ⟨bw, 0, none⟩ (.bool true)) bl 83 (.pointer (some ⟨ob, 0, none⟩)) := hPw.1.other HNE.out.1 _
    have hW5 : Boxed (w'.setCell ⟨bw, 0, none⟩ (.bool true)) bw 4 (.bool true) := hPw.2.1.set _
    have hO5 : (w'.setCell ⟨bw, 0, none⟩ (.bool true)).heap[ob]? = X.heap[ob]? := (Wire.heap_far 0 _ HNE.out.2.2).trans hPw.2.2
    have hg5 : ∀ k, k ≠ bw → (w'.setCell ⟨bw, 0, none⟩ (.bool true)).heap[k]? = w'.heap[k]? := fun k h => Wire.heap_far 0 _ h
    have hs5 : (w'.setCell ⟨bw, 0, none⟩ (.bool true)).os = w'.os ∧ (w'.setCell ⟨bw, 0, none⟩ (.bool true)).tape = w'.tape ∧ (w'.setCell ⟨bw, 0, none⟩ (.bool true)).output = w'.output := ⟨rfl, rfl, rfl⟩
    generalize w'.setCell ⟨bw, 0, none⟩ (.bool true) = W5 at *
    have c1 := hL5.cell
    have c2 := hW5.cell
    have c3 : W5.cell? ⟨ob, 2, none⟩ = some (.int .i64 (N : Int)) := (World.cell?_of_block (w := X) hO5).trans HW.out.cell2.1
    have H5 := Lib.hid (And.intro hz5 (And.intro hL5 (And.intro hW5 (And.intro hg5 hs5))))
    clear cw fw hPw hz5 hL5 hW5 hO5 hg5 hs5 cL' cY' cL cM cY hyr
    go_wp2_with fail
    refine (HBE.out W5).mono ?_
    rintro e w6 ⟨rfl, hw6, hb6⟩
    have hbl6 : Boxed w6 bl 83 (.pointer (some ⟨ob, 0, none⟩)) := (hb6.block _ H5.out.2.1.lt).trans H5.out.2.1
    have c1 := hbl6.cell
    have f1 := hbl6.frozen
    have H6 := Lib.hid (And.intro hw6 (And.intro hb6 hbl6))
    clear hw6 hb6 hbl6 c2 c3
    have hL7 : Boxed (w6.setCell ⟨bl, 0, none⟩ (.pointer (some ⟨W5.heap.size, 0, none⟩))) bl 83 (.pointer (some ⟨W5.heap.size, 0, none⟩)) := H6.out.2.2.set _
    have hw7 := Wr.off H6.out.1 H5.out.2.1.lt (.pointer (some ⟨W5.heap.size, 0, none⟩))
    have hg7 : ∀ k, k ≠ bl → (w6.setCell ⟨bl, 0, none⟩ (.pointer (some ⟨W5.heap.size, 0, none⟩))).heap[k]? = w6.heap[k]? := fun k h => Wire.heap_far 0 _ h
    have hs7 : (w6.setCell ⟨bl, 0, none⟩ (.pointer (some ⟨W5.heap.size, 0, none⟩))).os = w6.os ∧ (w6.setCell ⟨bl, 0, none⟩ (.pointer (some ⟨W5.heap.size, 0, none⟩))).tape = w6.tape ∧ (w6.setCell ⟨bl, 0, none⟩ (.pointer (some ⟨W5.heap.size, 0, none⟩))).output = w6.output := ⟨rfl, rfl, rfl⟩
    have hz7 : (w6.setCell ⟨bl, 0, none⟩ (.pointer (some ⟨W5.heap.size, 0, none⟩))).heap.size = w6.heap.size := by simp [World.setCell]
    obtain ⟨W7, hW7⟩ : ∃ W7, w6.setCell ⟨bl, 0, none⟩ (.pointer (some ⟨W5.heap.size, 0, none⟩)) = W7 := ⟨_, rfl⟩
    rw [hW7] at hL7 hw7 hg7 hs7 hz7
    have c7 := hL7.cell
    have H7 := Lib.hid (And.intro hL7 (And.intro hw7 (And.intro hg7 (And.intro hs7 hz7))))
    clear hL7 hw7 hg7 hs7 hz7
    go_wp2_with fail
    refine (HPU.out W5.heap.size W5.heap.size W7 H7.out.2.1).mono ?_
    rintro e w8 ⟨rfl, hw8, ho8⟩
    have H8 := Lib.hid (And.intro hw8 ho8)
    clear hw8 ho8
    go_wp2_with fail
    go_ret
    have h5 := H5.out
    have h6 := H6.out
    have h7 := H7.out
    have h8 := H8.out
    have l5 := h5.2.1.lt
    have l6 := h5.2.2.1.lt
    refine ⟨rfl, w', HPO.out, ?_, ⟨?_, ?_, ?_, ?_, ?_⟩, ?_, ?_⟩
    · rw [← h5.1]; exact h8.1
    · exact h8.2.below.os.trans (h7.2.2.2.1.1.trans (h6.2.1.os.trans h5.2.2.2.2.1))
    · exact h8.2.below.tape.trans (h7.2.2.2.1.2.1.trans (h6.2.1.tape.trans h5.2.2.2.2.2.1))
    · exact h8.2.below.output.trans (h7.2.2.2.1.2.2.trans (h6.2.1.output.trans h5.2.2.2.2.2.2))
    · have := h8.2.below.size; have := h7.2.2.2.2; have := h6.2.1.size; have := h5.1; omega
    · intro k hk hT
      have hk5 : k < W5.heap.size := by rw [h5.1]; exact hk
      exact (h8.2.below.block k hk5).trans ((h7.2.2.1 k (fun e => hT (Or.inl e))).trans ((h6.2.1.block k hk5).trans (h5.2.2.2.1 k (fun e => hT (Or.inr e)))))
    · rw [← h5.1]; exact (h8.2.below.block _ l5).trans h7.1
    · exact (h8.2.below.block _ l6).trans ((h7.2.2.1 bw (fun e => HNE.out.1 e.symm)).trans ((h6.2.1.block _ l6).trans h5.2.2.1))
end Go.Proofs.YtkccdffccjgajaaGreatDoor.Seg

/-
  The walk of segments: what its iterator hands over.
-/
namespace Go.Proofs.YtkccdffccjgajaaGreatDoor.Seg
open Go Go.RowKit
open Go.Proofs.YtkccdffccjgajaaGreatDoor.Wire (S S_list S_size cell_row frozen_row row_lt heap_set U)
open Go.Proofs.YtkccdffccjgajaaGreatDoor.Frame Go.Proofs.YtkccdffccjgajaaGreatDoor.Ranges
attribute [local go_sem] Oper.semAt_some

def grp (most : Int) (q0 : Nat) (xs : List ByteArray) : List (Nat × List (List UInt8)) := spl most q0 [] (bytesP xs)
def RelS (most : Int) (q0 : Nat) (xs : List ByteArray) (i _sz : Nat) (args : Array Value) (_W : World) : Prop :=
  ∃ g, (grp most q0 xs)[i]? = some g ∧ args = #[.string (S (segB g.1 g.2))]
theorem strs_over {X X' : World} {A : Option Addr} {xs : List ByteArray} (h : Strs X A xs) (hs : X.heap.size ≤ X'.heap.size) (hA : ∀ a, A = some a → 0 < xs.length → X'.heap[a.block]? = X.heap[a.block]?) : Strs X' A xs := fun j hj => by
  obtain ⟨b, o, e, h1, h2, h3⟩ := h j hj
  exact ⟨b, o, e, Nat.lt_of_lt_of_le h1 hs, h2, (World.cell?_of_block (w := X) (w' := X') (show X'.heap[b]? = X.heap[b]? from hA _ e (by omega))).trans h3⟩
theorem drop_head {α : Type} {l : List α} {i : Nat} {a : α} {m : List α} (h : l.drop i = a :: m) : l[i]? = some a ∧ l.drop (i + 1) = m ∧ i < l.length := by
  have h1 : (l.drop i)[0]? = some a := by rw [h]; rfl
  rw [List.getElem?_drop, Nat.add_zero] at h1
  refine ⟨h1, ?_, (List.getElem?_eq_some_iff.1 h1).1⟩
  rw [← List.drop_drop, h]; rfl
/-- what stands between two payloads -/
structure St (most : Int) (q0 : Nat) (xs : List ByteArray) (A : Option Addr) (l bl bm by_ bw Wz : Nat) (J : (Nat → Prop) → Nat → World → Prop) (j i : Nat) (R : Nat → Prop) (q : Nat) (cur : List (List UInt8)) (W0 X : World) : Prop where
  strs : Strs X A xs
  wz : Wz < W0.heap.size
  low : Low Wz R
  inn : In R W0
  jj : J R i W0
  grw : Grw (fun r => Wz ≤ r ∧ ¬ R r) W0 X
  nl : ¬ R bl
  nw : ¬ R bw
  ny : ¬ R by_
  ol : W0.heap.size ≠ bl
  ow : W0.heap.size ≠ bw
  cb : Cb most l bl bm by_ bw W0.heap.size X
  wr : Opn.Wr ((q + cur.length : Nat) : Int) W0.heap.size X W0.heap.size (segB q cur)
  sp : (grp most q0 xs).drop i = spl most q cur ((bytesP xs).drop j)
  num : q + cur.length = q0 + j
  len : segN cur ≤ 16 + 4112 * j
theorem drop_pay (xs : List ByteArray) (j : Nat) (h : j < xs.length) : (bytesP xs).drop j = (xs[j]'h).data.toList :: (bytesP xs).drop (j + 1) := by
  have hl : j < (bytesP xs).length := by rw [bytesP_len]; exact h
  rw [List.drop_eq_getElem_cons hl, bytesP_at xs j h]
theorem kq_dn {o m c B : Nat} {R : Nat → Prop} {X W' : World} {n : Nat} (h : Kq o m c B R (X.drewN n) W') : Kq o m c B R X W' := ⟨h.size, h.same, h.os, h.tape, h.output⟩
set_option maxHeartbeats 1000000 in
/-- one payload -/
theorem st_step (most : Int) (hm : (Lit.int .i64 most).wf = true) (q0 : Nat) (xs : List ByteArray) (hl : xs.length ≤ 1000000) (hok : okP q0 (bytesP xs)) (A : Option Addr) (l bl bm by_ bw o m c Wz : Nat) (J : (Nat → Prop) → Nat → World → Prop)
    (hA : ∀ a, A = some a → 0 < xs.length → a.block < o) (ho : o ≤ m) (hmb : m ≤ bm) (hbc : bm < c) (hcz : c ≤ Wz) (hy1 : Wz ≤ by_) (hl1 : Wz ≤ bl) (hw1 : Wz ≤ bw) (hlw : bl ≠ bw)
    (hJ : ∀ R i, Low Wz R → Stays (fun r => Wz ≤ r ∧ ¬ R r) (J R i))
    (hY : ∀ R i args W0 W1, Low Wz R → In R W0 → i < (grp most q0 xs).length → J R i W0 → Grw (fun r => Wz ≤ r ∧ ¬ R r) W0 W1 → RelS most q0 xs i W0.heap.size args W1 → YieldAt Fence.wide 0 Tryz.prog l args W1 fun e W' =>
      e = .returned (.bool true) ∧ ∃ R', Low Wz R' ∧ (∀ r, R' r → R r ∨ W1.heap.size ≤ r) ∧ In R' W' ∧ J R' (i + 1) W' ∧ Kq o m c Wz R W1 W')
    (j : Nat) (hj : j < xs.length) (X : World) (h : ∃ i R q cur W0, St most q0 xs A l bl bm by_ bw Wz J j i R q cur W0 X) :
    CallsIn Fence.wide 0 Tryz.prog 80 #[.string xs[j], .pointer (some ⟨bl, 0, none⟩), .pointer (some ⟨bm, 0, none⟩), .pointer (some ⟨by_, 0, none⟩), .pointer (some ⟨bw, 0, none⟩)] X fun e X' =>
      e = .returned (.bool true) ∧ ∃ i R q cur W0, St most q0 xs A l bl bm by_ bw Wz J (j + 1) i R q cur W0 X' := by
  obtain ⟨i, R, q, cur, W0, h⟩ := h
  have hp := hok.2 (xs[j].data.toList) (by rw [← bytesP_at xs j hj]; exact List.getElem_mem _)
  rw [s_len] at hp
  have hn : q0 + xs.length ≤ 1048576 := by have := hok.1; rw [bytesP_len] at this; exact this
  have hdp := drop_pay xs j hj
  have hlen : (segB q cur).length = segN cur := segB_length q cur
  have hlen2 := h.len
  have hnum := h.num
  have hspl := h.sp
  rw [hdp, spl, s_len] at hspl
  cases hf : fitsB (segN cur : Int) (xs[j].size : Int) most with
  | true =>
    refine callsIn_wide.2 ((cb_put most hm l bl bm by_ bw W0.heap.size W0.heap.size (q + cur.length) (segB q cur) xs[j] (by omega) hp.1 hp.2 (by rw [hlen]; omega) (by rw [hlen]; exact hf) X h.cb h.wr).mono ?_)
    rintro e X' ⟨rfl, hw, ho2⟩
    refine ⟨rfl, i, R, q, cur ++ [xs[j].data.toList], W0, ?_⟩
    have hst : Strs X' A xs := strs_over h.strs ho2.below.size (fun a ha hp => ho2.below.block _ (by have := hA a ha hp; have := h.wz; omega))
    exact {
      strs := hst, wz := h.wz, low := h.low, inn := h.inn, jj := h.jj,
      grw := ⟨ho2.below.os.trans h.grw.os, ho2.below.tape.trans h.grw.tape, ho2.below.output.trans h.grw.output, Nat.le_trans h.grw.size ho2.below.size, fun k h1 h2 => (ho2.below.block k h1).trans (h.grw.block k h1 h2)⟩,
      nl := h.nl, nw := h.nw, ny := h.ny, ol := h.ol, ow := h.ow, cb := h.cb.only ho2,
      wr := by rw [segB_snoc, List.length_append]; exact hw,
      sp := by rw [hspl, hf, if_pos rfl],
      num := by rw [List.length_append, List.length_singleton]; omega,
      len := by rw [segN_snoc, s_len]; omega }
  | false =>
    rw [hf, if_neg (by decide)] at hspl
    obtain ⟨hg, hd, hi⟩ := drop_head hspl
    have hbl := h.cb.last.lt
    have hbw := h.cb.wanted.lt
    have hby := h.cb.yld.lt
    have hob := h.wr.lt
    have hRo : ¬ R W0.heap.size := fun k => absurd (h.inn _ k) (Nat.lt_irrefl _)
    have hwz := h.wz
    refine (cb_cut most hm l bl bm by_ bw W0.heap.size W0.heap.size (q + cur.length) (segB q cur) xs[j] (by omega) hp.1 hp.2 (by rw [hlen]; omega) (by rw [hlen]; exact hf) X h.cb h.wr hlw ⟨h.ol, h.ow⟩
      (fun W' => ∃ R', Low Wz R' ∧ (∀ r, R' r → R r ∨ X.heap.size ≤ r) ∧ In R' W' ∧ J R' (i + 1) W' ∧ Kq o m c Wz R X W') ?_ ?_).mono ?_
    · rintro W' ⟨R', _, _, _, _, hk⟩
      exact ⟨(hk.same bl hbl h.nl (by omega)).trans h.cb.last, (hk.same bw hbw h.nw (by omega)).trans h.cb.wanted, hk.same _ hob hRo (by omega)⟩
    · intro n
      obtain ⟨fn, tmps, assign, body, hr, hR⟩ := hY R i #[.string (S (segB q cur))] W0 (X.drewN n) h.low h.inn hi h.jj ⟨h.grw.os, h.grw.tape, h.grw.output, h.grw.size, h.grw.block⟩ ⟨(q, cur), hg, rfl⟩
      refine ⟨fn, tmps, assign, body, hr, hR.mono ?_⟩
      rintro e W' ⟨rfl, R', a1, a2, a3, a4, a5⟩
      exact ⟨rfl, R', a1, a2, a3, a4, kq_dn a5⟩
    · rintro e X' ⟨rfl, W', ⟨R', r1, r2, r3, r4, hk⟩, hw, hg2, hb1, hb2⟩
      have nb : ∀ z, Wz ≤ z → z < X.heap.size → ¬ R z → ¬ R' z := fun z _ z2 z3 k => by rcases r2 z k with e | e; exact z3 e; omega
      have hsz := hk.size
      refine ⟨rfl, i + 1, R', q + cur.length, [xs[j].data.toList], W', ?_⟩
      have bmx : Boxed W' bm 3 (.int .i64 most) := (hk.same bm h.cb.most.lt (fun k => by have := h.low _ k; omega) (by omega)).trans h.cb.most
      have byx : Boxed W' by_ 117 (.func (.yield l) #[] #[]) := (hk.same by_ hby h.ny (by omega)).trans h.cb.yld
      have hby2 : by_ ≠ bl ∧ by_ ≠ bw := by
        constructor
        · rintro rfl
          have h1 := h.cb.yld; have h2 := h.cb.last
          unfold Boxed at h1 h2; rw [h1] at h2; injection h2 with h2; injection h2 with _ e; cases e
        · rintro rfl
          have h1 := h.cb.yld; have h2 := h.cb.wanted
          unfold Boxed at h1 h2; rw [h1] at h2; injection h2 with h2; injection h2 with _ e; cases e
      exact {
        strs := strs_over h.strs (Nat.le_trans hk.size hg2.size) (fun a ha hp => by
          have h1 := hA a ha hp
          exact (hg2.block _ (by omega) (by omega)).trans (hk.same _ (by omega) (fun k => by have := h.low _ k; omega) (Or.inl h1))),
        wz := by omega, low := r1, inn := r3, jj := r4,
        grw := hg2.mono (fun r hr => by rcases hr with rfl | rfl; exact ⟨hl1, nb _ hl1 hbl h.nl⟩; exact ⟨hw1, nb _ hw1 hbw h.nw⟩),
        nl := nb _ hl1 hbl h.nl, nw := nb _ hw1 hbw h.nw, ny := nb _ hy1 hby h.ny,
        ol := by omega, ow := by omega,
        cb := ⟨hb1, (hg2.block bm bmx.lt (by omega)).trans bmx, (hg2.block by_ byx.lt (fun k => by rcases k with k | k; exact hby2.1 k; exact hby2.2 k)).trans byx, hb2⟩,
        wr := by
          have e : segB (q + cur.length) [xs[j].data.toList] = segH (q + cur.length) ++ frB (q + cur.length) xs[j].data.toList := by unfold segB; rw [rowB, rowB, List.append_nil]
          rw [e]; exact hw,
        sp := hd,
        num := by rw [List.length_singleton]; omega,
        len := by
          have e : segN [xs[j].data.toList] = 16 + (16 + xs[j].size) := by unfold segN; rw [rowB, rowB, List.append_nil, frB_length, s_len]
          rw [e]; omega }
end Go.Proofs.YtkccdffccjgajaaGreatDoor.Seg
