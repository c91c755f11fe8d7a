/-
  Numbers' texts, whatever the table of powers of ten holds.
-/
import Derived.Test.YtdaeiapogipjbaaDoorT1
import Derived.Test.YtdaeiapogipjbaaDoorDT
namespace Go.Proofs.YtdaeiapogipjbaaDoor.Fault
open Go Go.RowKit Go.Sort Go.Lib

/-- the table holds T -/
def TabX (T : Nat → Int) (w : World) : Prop := (∀ i, i < 20 → w.cell? ⟨2, i, none⟩ = some (.int .u64 (T i))) ∧ 2 < w.heap.size
theorem TabX.below {T : Nat → Int} {w w' : World} (h : TabX T w) (hb : Below w.heap.size w w') : TabX T w' :=
  ⟨fun i hi => (World.cell?_of_block (hb.block _ h.2)).trans (h.1 i hi), Nat.lt_of_lt_of_le h.2 hb.size⟩
/-- how many places a number is given -/
def ndX (T : Nat → Int) (u : Nat) : Nat := l10 (Lib.bitLen u) + if T (l10 (Lib.bitLen u)) ≤ (u : Int) then 1 else 0
theorem ndX_le (T : Nat → Int) (u : Nat) (h1 : 1 ≤ u) (h2 : u < 18446744073709551616) : u < 10 ^ (ndX T u + 1) ∧ ndX T u ≤ 20 ∧ l10 (Lib.bitLen u) < 20 := by
  have hL : Lib.bitLen u ≤ 64 := bitLen_le u 64 (Nat.le_refl _) h2
  obtain ⟨hb1, _, hb3⟩ := Lib.bitLenAux_bounds 64 u (by omega) (by omega)
  have hb1' : 1 ≤ Lib.bitLen u := hb1
  have hb3' : u < 2 ^ Lib.bitLen u := hb3
  obtain ⟨ht1, _, ht3⟩ := l10_tab ⟨Lib.bitLen u, by omega⟩ hb1'
  simp only [] at ht1 ht3
  refine ⟨Nat.lt_of_lt_of_le (Nat.lt_of_lt_of_le hb3' ht1) (Nat.pow_le_pow_right (by decide) (by unfold ndX; omega)), by unfold ndX; split <;> omega, by omega⟩
/-- the places -/
def digsX (T : Nat → Int) (u : Nat) : List UInt8 := (List.range (ndX T u)).map fun t => digB (ndX T u) u t
theorem digsX_length (T : Nat → Int) (u : Nat) : (digsX T u).length = ndX T u := by unfold digsX; simp

set_option maxRecDepth 100000 in
set_option maxHeartbeats 1000000 in
theorem numDigits_any {T : Nat → Int} {w : World} (hT : TabX T w) (u : Nat) (h1 : 1 ≤ u) (h2 : u < 18446744073709551616) :
    Calls Tryd.prog 52 #[.int .u64 u] w fun e w' => e = .returned (.int .i64 (ndX T u)) ∧ w' = w := by
  have hL : Lib.bitLen u ≤ 64 := bitLen_le u 64 (Nat.le_refl _) h2
  obtain ⟨_, _, h20⟩ := ndX_le T u h1 h2
  have hcell := hT.1 _ h20
  have hto : ((u : Int)).toNat = u := by omega
  unfold ndX
  generalize hq : l10 (Lib.bitLen u) = q at h20 hcell ⊢
  generalize T q = X at hcell ⊢
  clear hT
  by_cases hX : X ≤ (u : Int)
  · rw [if_pos hX]
    go_enter Tryd.func52, Tryd.ntmps52
    go_wp2_with (first
      | (go_at_call 56; refine (Tryd.bits_Len64 _ _ (by omega) (by omega)).mono ?_; rintro e w' ⟨rfl, rfl⟩)
      | (go_at_call 55; refine (Tryd.internal_strconv_log10Pow2 _ (by first | exact hL | (rw [hto]; exact hL)) _).mono ?_; rintro e w' ⟨rfl, rfl⟩)
      | (go_at_call 57; refine (Tryd.internal_strconv_bool2_int _ _).mono ?_; rintro e w' ⟨rfl, rfl⟩))
    go_ret
    refine ⟨?_, rfl⟩
    congr 2
  · rw [if_neg hX]
    have hX' : ¬ (u : Int) ≥ X := hX
    go_enter Tryd.func52, Tryd.ntmps52
    go_wp2_with (first
      | (go_at_call 56; refine (Tryd.bits_Len64 _ _ (by omega) (by omega)).mono ?_; rintro e w' ⟨rfl, rfl⟩)
      | (go_at_call 55; refine (Tryd.internal_strconv_log10Pow2 _ (by first | exact hL | (rw [hto]; exact hL)) _).mono ?_; rintro e w' ⟨rfl, rfl⟩)
      | (go_at_call 57; refine (Tryd.internal_strconv_bool2_int _ _).mono ?_; rintro e w' ⟨rfl, rfl⟩))
    go_ret
    refine ⟨?_, rfl⟩
    congr 2

/-- a block of places -/
theorem arr24 : Tryd.prog.arrayLen 99 = 24 := by kernel_rfl
theorem elem24 : Tryd.prog.elem 99 = 5 := by kernel_rfl
theorem size8 (w : World) : (sizeOf 5).run Tryd.prog w = .ok 1 w := by kernel_rfl
/-- what the places read as, one by one -/
theorem full_at {T : Nat → Int} {u : Nat} {dk : Array UInt8} (h : Full (ndX T u) u dk) (j : Nat) (hj : j < (digsX T u).length) : (digsX T u)[j] = dk[j]! := by
  have hj' : j < ndX T u := by rw [digsX_length] at hj; exact hj
  rw [h.2 j hj']
  simp [digsX]
/-- the text of a number that is not one of the small ones -/
def bigX (T : Nat → Int) (i : Int) : List UInt8 := if i < 0 then 45 :: digsX T i.natAbs else digsX T i.natAbs

/-- the world behind formatBase10, on a block of places that is new -/
abbrev Filled (w : World) (dk : Array UInt8) (k : Nat) : World := (putRow bV (w.alloc (.cells Lib.zeros24 99)) w.heap.size 1 dk).drewN k
theorem filled_at {w : World} {dk : Array UInt8} {k nd : Nat} (hH : Holds bV (w.alloc (.cells Lib.zeros24 99)) w.heap.size 1 (Array.replicate nd (0 : UInt8))) (hs : dk.size = nd) (i : Nat) (hi : i < nd) :
    (Filled w dk k).cell? ⟨w.heap.size, 1 + i, none⟩ = some (.int .u8 (dk[i]!.toNat : Int)) := by
  rw [World.cell?_drewN]
  exact cell?_putRow bV _ w.heap.size 1 _ dk hH (by rw [hs, Array.size_replicate]) i (by omega)
theorem filled_sign (w : World) (dk : Array UInt8) (k : Nat) : (Filled w dk k).cell? ⟨w.heap.size, 0, none⟩ = some (.int .u8 0) ∧ (Filled w dk k).frozen? ⟨w.heap.size, 0, none⟩ = false := by
  constructor
  · rw [World.cell?_drewN, cell?_putRow_other _ _ _ _ _ _ (Or.inr (Or.inl (Nat.zero_lt_one))), World.cell?_alloc_new]
    exact Lib.zeros24_at 0 (by omega)
  · rw [World.frozen?_drewN, frozen?_putRow]
    exact World.frozen?_alloc_new _ _ _ _
theorem filled_text {w : World} {dk : Array UInt8} {k nd : Nat} {l : List UInt8} (hH : Holds bV (w.alloc (.cells Lib.zeros24 99)) w.heap.size 1 (Array.replicate nd (0 : UInt8))) (hs : dk.size = nd) (hl : l.length = nd) (hd : ∀ j (hj : j < l.length), l[j] = dk[j]!) :
    (convert 103 9 (.slice (some ⟨w.heap.size, 1, none⟩) nd 23)).run Tryd.prog (Filled w dk k) = .ok (.string ⟨l.toArray⟩) (Filled w dk k) := by
  have h := run_convert_bytes_back (P := Tryd.prog) (Filled w dk k) 103 9 5 ⟨w.heap.size, 1, none⟩ 23 l Tryd.underlying103 Tryd.underlying5 Tryd.underlying9 (fun j hj => by
    rw [Lib.add_plain, filled_at hH hs j (by omega), hd j hj])
  rw [hl] at h
  exact h
theorem filled_signed {w : World} {dk : Array UInt8} {k nd : Nat} {l : List UInt8} (hH : Holds bV (w.alloc (.cells Lib.zeros24 99)) w.heap.size 1 (Array.replicate nd (0 : UInt8))) (hs : dk.size = nd) (hl : l.length = nd) (hd : ∀ j (hj : j < l.length), l[j] = dk[j]!) :
    (convert 103 9 (.slice (some ⟨w.heap.size, 0, none⟩) (1 + nd) 24)).run Tryd.prog ((Filled w dk k).setCell ⟨w.heap.size, 0, none⟩ (.int .u8 45)) = .ok (.string ⟨(45 :: l).toArray⟩) ((Filled w dk k).setCell ⟨w.heap.size, 0, none⟩ (.int .u8 45)) := by
  have h := run_convert_bytes_back (P := Tryd.prog) ((Filled w dk k).setCell ⟨w.heap.size, 0, none⟩ (.int .u8 45)) 103 9 5 ⟨w.heap.size, 0, none⟩ 24 (45 :: l) Tryd.underlying103 Tryd.underlying5 Tryd.underlying9 (fun j hj => by
    rw [Lib.add_plain]
    cases j with
    | zero => exact World.cell?_setCell_same _ _ _ (filled_sign w dk k).1
    | succ i =>
      have hi : i < l.length := by simpa using hj
      rw [World.cell?_setCell_other _ _ _ _ (by simp), List.getElem_cons_succ, hd i hi, show 0 + (i + 1) = 1 + i by omega]
      exact filled_at hH hs i (by omega))
  rw [List.length_cons, hl, Nat.add_comm] at h
  exact h

set_option maxRecDepth 100000 in
set_option maxHeartbeats 4000000 in
theorem format_neg {T : Nat → Int} {w : World} (hT : TabX T w) (u : Nat) (h1 : 1 ≤ u) (h2 : u ≤ 9223372036854775808) :
    Calls Tryd.prog 50 #[.int .i64 (-(u : Int)), .int .i64 10] w fun e w' => e = .returned (.string ⟨(45 :: digsX T u).toArray⟩) ∧ Below w.heap.size w w' := by
  obtain ⟨hlt, hnd20, _⟩ := ndX_le T u h1 (by omega)
  have hwr : IntKind.u64.wrap (-IntKind.u64.wrap (-(u : Int))) = (u : Int) := by rw [IntKind.wrap_u64, IntKind.wrap_u64]; omega
  have hL := digsX_length T u
  have hN := numDigits_any (hT.below ((Below.refl w.heap.size w).alloc (Nat.le_refl _) (.cells Lib.zeros24 99))) u h1 (by omega)
  have hH0 := Lib.holds_zero w 99 (ndX T u) (by omega)
  have hfmt := base10_any w.heap.size 1 23 u (Array.replicate (ndX T u) 0) (w.alloc (.cells Lib.zeros24 99)) hH0 (by rw [Array.size_replicate]; exact hlt) (by omega) (by rw [Array.size_replicate]; omega)
  rw [Array.size_replicate] at hfmt
  have hfull := fun (dk : Array UInt8) (h : Full (ndX T u) u dk) => full_at h
  have hb3 : ndX T u ≤ 23 := by omega
  generalize hnd : ndX T u = nd at *
  have hsl1 : ∀ W, (Instr.sliceAt 99 (.pointer (some ⟨w.heap.size, 0, none⟩)) (some (.int .i64 1)) (some (.int .i64 (1 + (nd : Int)))) none).run Tryd.prog W = .ok (.slice (some ⟨w.heap.size, 1, none⟩) nd 23) W := fun W => by
    rw [run_sliceAt_array_lh W 99 ⟨w.heap.size, 0, none⟩ Tryd.underlying99 .i64 .i64 1 (1 + (nd : Int)) (by omega) (by omega) (by rw [arr24]; omega)]
    rw [elem24, size8, arr24]
    simp [Result.andThen, slicedAt, Addr.add]
    omega
  have hsl2 : ∀ W, (Instr.sliceAt 99 (.pointer (some ⟨w.heap.size, 0, none⟩)) none (some (.int .i64 (1 + (nd : Int)))) none).run Tryd.prog W = .ok (.slice (some ⟨w.heap.size, 0, none⟩) (1 + nd) 24) W := fun W => by
    rw [run_sliceAt_array_h W 99 ⟨w.heap.size, 0, none⟩ Tryd.underlying99 .i64 (1 + (nd : Int)) (by omega) (by rw [arr24]; omega)]
    rw [elem24, size8, arr24]
    simp [Result.andThen, slicedAt, Addr.add]
    omega
  have HH0 := Lib.hid hH0
  have HF := Lib.hid hfull
  have HLen := Lib.hid hL
  clear hH0 hfull hL hlt hnd hT
  have mixed : Tryd.prog.follows .mixedOrders = true := by kernel_rfl
  go_enter Tryd.func50, Tryd.ntmps50
  go_wp2_with (go_at_call 52; refine hN.mono ?_; rintro e w' ⟨rfl, rfl⟩)
  go_at_call 53
  refine hfmt.mono ?_
  rintro e w' ⟨rfl, k, dk, rfl, hF⟩
  obtain ⟨hc0, hf0⟩ := filled_sign w dk k
  have hcv := filled_signed (k := k) HH0.out hF.1 HLen.out (HF.out dk hF)
  go_wp2
  go_ret
  obtain ⟨os, eo⟩ := Lib.fin_neg w (.cells Lib.zeros24 99) dk k (.int .u8 45)
  exact ⟨rfl, by rw [eo]; exact Lib.below_grow _ _ (Nat.le_refl _) _ _⟩

set_option maxRecDepth 100000 in
set_option maxHeartbeats 4000000 in
theorem format_pos {T : Nat → Int} {w : World} (hT : TabX T w) (u : Nat) (h1 : 100 ≤ u) (h2 : u ≤ 9223372036854775807) :
    Calls Tryd.prog 50 #[.int .i64 (u : Int), .int .i64 10] w fun e w' => e = .returned (.string ⟨(digsX T u).toArray⟩) ∧ Below w.heap.size w w' := by
  obtain ⟨hlt, hnd20, _⟩ := ndX_le T u (by omega) (by omega)
  have hwr : IntKind.u64.wrap (u : Int) = (u : Int) := by rw [IntKind.wrap_u64]; omega
  have hL := digsX_length T u
  have hN := numDigits_any (hT.below ((Below.refl w.heap.size w).alloc (Nat.le_refl _) (.cells Lib.zeros24 99))) u (by omega) (by omega)
  have hH0 := Lib.holds_zero w 99 (ndX T u) (by omega)
  have hfmt := base10_any w.heap.size 1 23 u (Array.replicate (ndX T u) 0) (w.alloc (.cells Lib.zeros24 99)) hH0 (by rw [Array.size_replicate]; exact hlt) (by omega) (by rw [Array.size_replicate]; omega)
  rw [Array.size_replicate] at hfmt
  have hfull := fun (dk : Array UInt8) (h : Full (ndX T u) u dk) => full_at h
  have hb3 : ndX T u ≤ 23 := by omega
  generalize hnd : ndX T u = nd at *
  have hsl1 : ∀ W, (Instr.sliceAt 99 (.pointer (some ⟨w.heap.size, 0, none⟩)) (some (.int .i64 1)) (some (.int .i64 (1 + (nd : Int)))) none).run Tryd.prog W = .ok (.slice (some ⟨w.heap.size, 1, none⟩) nd 23) W := fun W => by
    rw [run_sliceAt_array_lh W 99 ⟨w.heap.size, 0, none⟩ Tryd.underlying99 .i64 .i64 1 (1 + (nd : Int)) (by omega) (by omega) (by rw [arr24]; omega)]
    rw [elem24, size8, arr24]
    simp [Result.andThen, slicedAt, Addr.add]
    omega
  have HH0 := Lib.hid hH0
  have HF := Lib.hid hfull
  have HLen := Lib.hid hL
  clear hH0 hfull hL hlt hnd hT
  have mixed : Tryd.prog.follows .mixedOrders = true := by kernel_rfl
  go_enter Tryd.func50, Tryd.ntmps50
  go_wp2_with (go_at_call 52; refine hN.mono ?_; rintro e w' ⟨rfl, rfl⟩)
  go_at_call 53
  refine hfmt.mono ?_
  rintro e w' ⟨rfl, k, dk, rfl, hF⟩
  have hcv := filled_text (k := k) HH0.out hF.1 HLen.out (HF.out dk hF)
  go_wp2
  go_ret
  obtain ⟨os, eo⟩ := Lib.fin_pos w (.cells Lib.zeros24 99) dk k
  exact ⟨rfl, by rw [show Filled w dk k = _ from eo]; exact Lib.below_grow _ _ (Nat.le_refl _) _ _⟩

/-- the text of any number -/
def textX (T : Nat → Int) (i : Int) : ByteArray := if 0 ≤ i ∧ i < 100 then smallB i else S (bigX T i)
theorem textX_size (T : Nat → Int) (i : Int) (h : Wf i) : (textX T i).size ≤ 64 := by
  unfold Wf at h
  unfold textX
  split
  · rename_i hs
    have e : i = (i.toNat : Int) := by omega
    rw [e]
    exact small_size ⟨i.toNat, by omega⟩
  · rename_i hs
    rw [S_size]
    unfold bigX
    have := (ndX_le T i.natAbs (by omega) (by omega)).2.1
    split
    · rw [List.length_cons, digsX_length]; omega
    · rw [digsX_length]; omega
theorem format_any {T : Nat → Int} {w : World} (hT : TabX T w) (i : Int) (h : Wf i) (hs : ¬ (0 ≤ i ∧ i < 100)) :
    Calls Tryd.prog 50 #[.int .i64 i, .int .i64 10] w fun e w' => e = .returned (.string (textX T i)) ∧ Below w.heap.size w w' := by
  unfold Wf at h
  unfold textX bigX
  rw [if_neg hs]
  by_cases hn : i < 0
  · rw [if_pos hn]
    have := format_neg hT i.natAbs (by omega) (by omega)
    rw [show -((i.natAbs : Nat) : Int) = i by omega] at this
    exact this
  · rw [if_neg hn]
    have := format_pos hT i.natAbs (by omega) (by omega)
    rw [show ((i.natAbs : Nat) : Int) = i by omega] at this
    exact this
theorem textX_small (T : Nat → Int) {i : Int} (hs : 0 ≤ i ∧ i < 100) : textX T i = smallB i := by unfold textX; rw [if_pos hs]
set_option maxRecDepth 100000 in
theorem fmt_big {T : Nat → Int} {w : World} (hT : TabX T w) (i : Int) (h : Wf i) (hs : ¬ (0 ≤ i ∧ i < 100)) :
    Calls Tryd.prog 85 #[.int .i64 i, .int .i64 10] w fun e w' => e = .returned (.string (textX T i)) ∧ Below w.heap.size w w' := by
  have H := Lib.hid (format_any hT i h hs)
  clear hT h hs
  generalize textX T i = s at H ⊢
  go_enter Tryd.func85, Tryd.ntmps85
  go_wp2_with (go_at_call 50; refine H.out.mono ?_; rintro ev w1 ⟨rfl, hb1⟩; have HB := Lib.hid hb1; clear hb1)
  go_ret
  exact ⟨rfl, HB.out⟩
set_option maxRecDepth 100000 in
theorem itoa_in {T : Nat → Int} {w : World} (hT : TabX T w) (i : Int) (h : Wf i) (hs : ¬ (0 ≤ i ∧ i < 100)) :
    Calls Tryd.prog 43 #[.int .i64 i] w fun e w' => e = .returned (.string (textX T i)) ∧ Below w.heap.size w w' := by
  have H := Lib.hid (format_any hT i h hs)
  clear hT h hs
  generalize textX T i = s at H ⊢
  go_enter Tryd.func43, Tryd.ntmps43
  go_wp2_with (go_at_call 50; refine H.out.mono ?_; rintro ev w1 ⟨rfl, hb1⟩; have HB := Lib.hid hb1; clear hb1)
  go_ret
  exact ⟨rfl, HB.out⟩
set_option maxRecDepth 100000 in
theorem itoa_big {T : Nat → Int} {w : World} (hT : TabX T w) (i : Int) (h : Wf i) (hs : ¬ (0 ≤ i ∧ i < 100)) :
    Calls Tryd.prog 32 #[.int .i64 i] w fun e w' => e = .returned (.string (textX T i)) ∧ Below w.heap.size w w' := by
  have H := Lib.hid (itoa_in hT i h hs)
  clear hT h hs
  generalize textX T i = s at H ⊢
  go_enter Tryd.func32, Tryd.ntmps32
  go_wp2_with (go_at_call 43; refine H.out.mono ?_; rintro ev w1 ⟨rfl, hb1⟩; have HB := Lib.hid hb1; clear hb1)
  go_ret
  exact ⟨rfl, HB.out⟩
/-- **numbers' texts, whatever the table holds** -/
theorem says_x {T : Nat → Int} {w : World} (hT : TabX T w) : Says Wf (textX T) w where
  fmt W i hW hD := by
    by_cases hs : 0 ≤ i ∧ i < 100
    · rw [textX_small T hs]; exact (says_small w).fmt W i hW hs
    · exact fmt_big (hT.below hW) i hD hs
  itoa W i hW hD := by
    by_cases hs : 0 ≤ i ∧ i < 100
    · rw [textX_small T hs]; exact (says_small w).itoa W i hW hs
    · exact itoa_big (hT.below hW) i hD hs
  size i hD := textX_size T i hD

end Go.Proofs.YtdaeiapogipjbaaDoor.Fault
