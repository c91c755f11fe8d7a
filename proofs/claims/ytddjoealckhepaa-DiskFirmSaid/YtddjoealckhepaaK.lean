import Derived.Test.YtddjoealckhepaaU
import Derived.Test.YtddjoealckhepaaCS
/-
  All names, rising; what looks at a disk.
-/
namespace Go.Proofs.Ytddjoealckhepaa.Disk
open Go Go.RowKit Go.Maps Go.Shelf Go.Proofs

/-- slices.Sort's two contracts at this dump -/
theorem sortsA (m : Nat) : AnyZ.SortsIn Try.prog Try.sortedA_ren Fence.wide m :=
  ⟨fun blk off cap ss W hH hblk hsz => callsIn_wide.2 (AnyM.slices_Sort_string Try.sortA blk off cap ss W hH hblk hsz),
   fun p cap W => callsIn_wide.2 (AnyM.slices_Sort_string_none Try.sortA p cap W)⟩
theorem keys_call (mb : Option Nat) (W : World) : Calls Try.prog 72 #[.map mb] W fun e w' => e = .returned (.func (.func 81) #[] #[.pointer (some ⟨W.heap.size, 0, none⟩)]) ∧ w' = W.alloc (.cells #[.map mb] 83) :=
  (callsIn_wide (n := 5)).1 (AnyZ.keys_in Try.keysA Fence.wide 5 trivial rfl mb W)
set_option maxHeartbeats 1000000 in
theorem sorted_call (a b : Nat) (d : Dk) (w : World) (h : DkAt w a b d) :
    Calls Try.prog 71 #[.func (.func 81) #[] #[.pointer (some ⟨w.heap.size, 0, none⟩)]] (w.alloc (.cells #[.map (some b)] 83)) fun e w' => ∃ v : Value, e = .returned v ∧ w'.ownsRow (w.alloc (.cells #[.map (some b)] 83)).heap.size 9 1 v d.l.length ((d.l.map (·.1)).map encStr) ∧ Below (w.alloc (.cells #[.map (some b)] 83)).heap.size (w.alloc (.cells #[.map (some b)] 83)) w' := by
  have hbl := h.mp.lt
  have hseq : SeqGives Fence.wide 2 Try.prog 81 #[.pointer (some ⟨w.heap.size, 0, none⟩)] encStr (fun ss => ss.Perm (strKeys (toD fD d.l))) (Maps.size (toD fD d.l)) (w.alloc (.cells #[.map (some b)] 83)) :=
    AnyZ.keys_gives (ρ := Try.keysA_ren) { Try.keysA with } Fence.wide _ trivial rfl (by omega) w.heap.size b d.l.length (toD fD d.l) _ (by simp) (by simp) (by
      obtain ⟨es, clock, hb, Ft, hs, hD⟩ := h.mp
      exact ⟨es, clock, (Below.heap_alloc _ _ b hbl).trans hb, Ft, hs, hD⟩)
  have hlen := h.ok.len
  have cS := AnyZ.sorted_in Try.sortedA Fence.wide 5 trivial trivial trivial trivial rfl (by omega) (sortsA _) (enters_of Try.func80 (by kernel_rfl) rfl) 81 #[.pointer (some ⟨w.heap.size, 0, none⟩)] trivial (enters_of Try.func81 (by kernel_rfl) rfl) _ _ (by rw [toD_size]; unfold maxLen; omega) (by rw [toD_size]; omega) _ hseq
  refine (callsIn_wide.1 cS).mono ?_
  rintro e w' ⟨v, ss, rfl, hp, hrow, -, hb⟩
  rw [toD_keys] at hp
  have hl : ss.length = d.l.length := by rw [hp.length_eq, List.length_map]
  rw [names_sorted h.ok.up hp, hl] at hrow
  exact ⟨v, rfl, hrow, hb⟩

set_option maxRecDepth 100000 in
set_option maxHeartbeats 1000000 in
theorem names_any (a b : Nat) (d : Dk) (w : World) (h : DkAt w a b d) :
    Calls Try.prog 47 #[.pointer (some ⟨a, 0, none⟩)] w fun z w' => ∃ v : Value, z = .returned v ∧ w'.ownsRow w.heap.size 9 1 v d.l.length ((d.l.map (·.1)).map encStr) ∧ Below w.heap.size w w' := by
  obtain ⟨c0, c1, c2, c3, c4⟩ := h.cell
  have HK := Lib.hid (keys_call (some b) w)
  have HS := Lib.hid (sorted_call a b d w h)
  clear h
  go_enter Try.func47, Try.ntmps47
  go_wp2_with fail
  refine HK.out.mono ?_
  rintro z w1 ⟨rfl, rfl⟩
  go_wp2_with fail
  refine HS.out.mono ?_
  rintro z w2 ⟨v, rfl, h1, h2⟩
  have H1 := Lib.hid h1
  have H2 := Lib.hid h2
  clear h1 h2
  go_wp2_with fail
  go_ret
  exact ⟨v, rfl, ownsRow_base_a H1.out (by simp), ((Below.refl _ w).alloc (Nat.le_refl _) _).trans (H2.out.mono (by simp))⟩

set_option maxRecDepth 100000 in
set_option maxHeartbeats 1000000 in
theorem list_any (a b : Nat) (d : Dk) (w : World) (h : DkAt w a b d) (hg : d.gone = false) :
    Calls Try.prog 15 #[.pointer (some ⟨a, 0, none⟩)] w fun z w' => ∃ v : Value, z = .returned (.tuple #[v, .int .i64 0]) ∧ w'.ownsRow w.heap.size 9 1 v d.l.length ((d.l.map (·.1)).map encStr) ∧ Below w.heap.size w w' := by
  have HR := Lib.hid (refusal_any a b d w h)
  have HN := Lib.hid (names_any a b d w h)
  rw [show refus d = 0 by simp [refus, hg]] at HR
  clear h hg
  go_enter Try.func15, Try.ntmps15
  go_wp2_with fail
  refine HR.out.mono ?_
  rintro z w1 ⟨rfl, rfl⟩
  go_wp2_with fail
  refine HN.out.mono ?_
  rintro z w2 ⟨v, rfl, h1, h2⟩
  have H1 := Lib.hid h1
  have H2 := Lib.hid h2
  clear h1 h2
  go_wp2_with fail
  go_ret2
  exact ⟨v, rfl, H1.out, H2.out⟩
theorem list_gone (a b : Nat) (d : Dk) (w : World) (h : DkAt w a b d) (hg : d.gone = true) :
    Calls Try.prog 15 #[.pointer (some ⟨a, 0, none⟩)] w fun z w' => z = .returned (.tuple #[.slice none 0 0, .int .i64 45]) ∧ Below w.heap.size w w' := by
  have HR := Lib.hid (refusal_any a b d w h)
  rw [show refus d = 45 by simp [refus, hg]] at HR
  clear h hg
  go_enter Try.func15, Try.ntmps15
  go_wp2_with fail
  refine HR.out.mono ?_
  rintro z w1 ⟨rfl, rfl⟩
  go_wp2_with fail
  go_ret2
  exact ⟨rfl, Below.refl _ _⟩

set_option maxRecDepth 100000 in
set_option maxHeartbeats 1000000 in
theorem read_any (a b : Nat) (d : Dk) (n : Nm) (hn : n.length ≤ maxLen) (w : World) (h : DkAt w a b d) :
    Calls Try.prog 14 #[.pointer (some ⟨a, 0, none⟩), .string (S n)] w fun z w' => z = .returned (.tuple #[.string (S (fndF d n).b), .int .i64 (fndE d n : Int)]) ∧ Below w.heap.size w w' := by
  have HF := Lib.hid (find_any a b d n hn w h)
  clear h hn
  generalize fndF d n = f at HF ⊢
  generalize fndE d n = e at HF ⊢
  obtain ⟨fb, fg⟩ := f
  unfold fV at HF
  go_enter Try.func14, Try.ntmps14
  go_wp2_with fail
  refine HF.out.mono ?_
  rintro z w1 ⟨rfl, h1⟩
  have H1 := Lib.hid h1
  clear h1
  go_wp2_with fail
  go_ret2
  exact ⟨rfl, H1.out.alloc H1.out.size _⟩
theorem up_any (a b : Nat) (d : Dk) (w : World) (h : DkAt w a b d) :
    Calls Try.prog 25 #[.pointer (some ⟨a, 0, none⟩)] w fun z w' => z = .returned (.bool !d.gone) ∧ w' = w := by
  have HR := Lib.hid (refusal_any a b d w h)
  unfold refus at HR
  clear h
  cases hg : d.gone <;> rw [hg] at HR
  · go_enter Try.func25, Try.ntmps25
    go_wp2_with fail
    refine HR.out.mono ?_
    rintro z w1 ⟨rfl, rfl⟩
    go_wp2_with fail
    go_ret
    exact ⟨rfl, rfl⟩
  · go_enter Try.func25, Try.ntmps25
    go_wp2_with fail
    refine HR.out.mono ?_
    rintro z w1 ⟨rfl, rfl⟩
    go_wp2_with fail
    go_ret
    exact ⟨rfl, rfl⟩
theorem capacity_any (a b : Nat) (d : Dk) (w : World) (h : DkAt w a b d) :
    Calls Try.prog 27 #[.pointer (some ⟨a, 0, none⟩)] w fun z w' => z = .returned (.int .i64 (d.cap : Int)) ∧ w' = w := by
  obtain ⟨c0, c1, c2, c3, c4⟩ := h.cell
  clear h
  go_enter Try.func27, Try.ntmps27
  go_wp2_with fail
  go_ret
  exact ⟨rfl, rfl⟩

theorem set_power {w : World} {a b : Nat} {d : Dk} (h : DkAt w a b d) (x y : Bool) (n : Nat) (m : Int) (hm : m = (n : Int)) (hn : n ≤ 9223372036854775807) (hc : y = false → n = 0) :
    DkAt (((w.setCell ⟨a, 2, none⟩ (.bool x)).setCell ⟨a, 3, none⟩ (.bool y)).setCell ⟨a, 4, none⟩ (.int .i64 m)) a b { d with gone := x, cut := y, left := n } := by
  subst hm
  exact h.set (d' := { d with gone := x, cut := y, left := n }) (by rw [heap_set (heap_set (heap_set h.blk _ _) _ _) _ _]; rfl) ((heap_far _ _ h.ne.symm).trans ((heap_far _ _ h.ne.symm).trans (heap_far _ _ h.ne.symm))) rfl { h.ok with left := hn, cut := hc }
theorem tn3 (w : World) (a b : Nat) (x y z : Value) : Tn a b w (((w.setCell ⟨a, 2, none⟩ x).setCell ⟨a, 3, none⟩ y).setCell ⟨a, 4, none⟩ z) :=
  ((Tn.set w a b 2 x).trans (Tn.set _ a b 3 y)).trans (Tn.set _ a b 4 z)
def cutD (d : Dk) (m : Int) : Nat × Dk := if d.gone then (45, d) else if m < 0 then (1, d) else (0, { d with gone := false, cut := true, left := m.toNat })
set_option maxRecDepth 100000 in
set_option maxHeartbeats 1000000 in
theorem cut_any (a b : Nat) (d : Dk) (m : Int) (hm : m ≤ 9223372036854775807) (w : World) (h : DkAt w a b d) :
    Calls Try.prog 23 #[.pointer (some ⟨a, 0, none⟩), .int .i64 m] w fun z w' => z = .returned (.int .i64 ((cutD d m).1 : Int)) ∧ DkAt w' a b (cutD d m).2 ∧ Tn a b w w' := by
  have HD := Lib.hid h
  have HR := Lib.hid (refusal_any a b d w h)
  obtain ⟨c0, c1, c2, c3, c4⟩ := h.cell
  have fz := h.fz
  have HM := Lib.hid hm
  unfold refus at HR
  clear h hm
  cases hg : d.gone with
  | true =>
    rw [hg] at HR
    have HC := Lib.hid (show cutD d m = (45, d) by simp [cutD, hg])
    clear hg
    go_enter Try.func23, Try.ntmps23
    go_wp2_with fail
    refine HR.out.mono ?_
    rintro z w1 ⟨rfl, rfl⟩
    go_wp2_with fail
    go_ret
    rw [HC.out]
    exact ⟨rfl, HD.out, Tn.refl _ _ _⟩
  | false =>
    rw [hg] at HR
    by_cases hlo : m < 0
    · have HC := Lib.hid (show cutD d m = (1, d) by simp [cutD, hg, hlo])
      have z : decide (m < 0) = true := decide_eq_true hlo
      clear hg
      go_enter Try.func23, Try.ntmps23
      go_wp2_with fail
      refine HR.out.mono ?_
      rintro z w1 ⟨rfl, rfl⟩
      go_wp2_with fail
      go_ret
      rw [HC.out]
      exact ⟨rfl, HD.out, Tn.refl _ _ _⟩
    · have HC := Lib.hid (show cutD d m = (0, { d with gone := false, cut := true, left := m.toNat }) by simp [cutD, hg, hlo])
      have z : decide (m < 0) = false := decide_eq_false hlo
      have HL := Lib.hid (show 0 ≤ m by omega)
      clear hg
      go_enter Try.func23, Try.ntmps23
      go_wp2_with fail
      refine HR.out.mono ?_
      rintro z w1 ⟨rfl, rfl⟩
      go_wp2_with fail
      go_ret
      rw [HC.out]
      exact ⟨rfl, set_power HD.out false true m.toNat m (by omega) (by have := HM.out; omega) (fun h => by cases h), tn3 _ _ _ _ _ _⟩
end Go.Proofs.Ytddjoealckhepaa.Disk
