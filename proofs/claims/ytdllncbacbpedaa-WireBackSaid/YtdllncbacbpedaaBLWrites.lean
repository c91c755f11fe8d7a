/-
  The walk of the statement WireWrites.
-/
import Derived.Test.YtdllncbacbpedaaB17
import Derived.Deep.RegionHeld3
namespace Go.Proofs.Ytdllncbacbpedaa.Wire
open Go.RowKit

/-- what Items become, one behind the other -/
def allB (xs : List It) : List UInt8 := (xs.map wrB).flatten
theorem allB_take (xs : List It) (k : Nat) (h : k < xs.length) : allB (xs.take (k + 1)) = allB (xs.take k) ++ wrB xs[k] := by
  unfold allB
  rw [List.take_succ_eq_append_getElem h, List.map_append, List.flatten_append]; simp
theorem tot_ge (xs : List It) (i : Nat) (h : i < xs.length) : 20 + min 20000 xs[i].t.size ≤ tot xs := by
  have h1 := tot_take xs i h
  have h2 := tot_le xs (i + 1)
  omega
theorem light (xs : List It) (i : Nat) (h : i < xs.length) (ht : tot xs < 20000) : xs[i].t.size < 20000 := by
  have := tot_ge xs i h; omega
theorem allB_len (xs : List It) (ht : tot xs < 20000) : ∀ k, k ≤ xs.length → (allB (xs.take k)).length ≤ tot (xs.take k)
  | 0, _ => by simp [allB]
  | k + 1, hk => by
    have ih := allB_len xs ht k (by omega)
    have h1 := wrB_le xs[k]
    have h2 := light xs k (by omega) ht
    rw [allB_take xs k (by omega), tot_take xs k (by omega), List.length_append]
    omega
theorem allB_small (xs : List It) (ht : tot xs < 20000) (k : Nat) (hk : k ≤ xs.length) : (allB (xs.take k)).length < 20000 := by
  have h1 := allB_len xs ht k hk
  have h2 := tot_le xs k
  omega

theorem below_drew {w w' : World} (hb : Below w.drew.heap.size w.drew w') : Below w.heap.size w w' := ⟨hb.os, hb.tape, hb.output, hb.size, hb.block⟩
set_option maxRecDepth 100000 in
set_option maxHeartbeats 2000000 in
theorem wireWrites_walk (A : Option Addr) (cap : Nat) (xs : List It) (w : World) (hx : Items w A xs w.heap.size) (hl : xs.length ≤ cap) (hcap : cap ≤ maxLen) :
    Calls Try.prog 4 #[.slice A xs.length cap] w fun e w' => e = .returned (.bool true) ∧ Below w.heap.size w w' := by
  have hh := heavy_any ⟨#[]⟩ A cap xs w (by unfold maxLen; decide) hx hl hcap
  have HX := Lib.hid hx; clear hx
  by_cases hv : 20000 ≤ tot xs
  · have e : decide (20000 ≤ (ByteArray.mk #[]).size + tot xs) = true := decide_eq_true (by omega)
    rw [e] at hh; clear e hv
    go_enter Try.func4, Try.ntmps4
    go_wp2_with fail
    refine hh.mono ?_; rintro e w1 ⟨rfl, rfl⟩
    go_wp2_with fail
    refine (works_any w).mono ?_; rintro e w1 ⟨rfl, hb1⟩
    go_wp2_with fail
    go_ret
    exact ⟨rfl, hb1⟩
  · have e : decide (20000 ≤ (ByteArray.mk #[]).size + tot xs) = false := decide_eq_false (by have : (ByteArray.mk #[]).size = 0 := rfl; omega)
    rw [e] at hh; clear e
    have HT : Hid (tot xs < 20000) := by show _ < _; omega
    clear hv
    have hlen : xs.length ≤ 9223372036854775807 := by unfold maxLen at hcap; omega
    have HI0 := Lib.hid (Inv.new w)
    go_enter Try.func4, Try.ntmps4
    go_wp2_with fail
    refine hh.mono ?_; rintro e w1 ⟨rfl, rfl⟩
    clear hh
    go_wp2_with fail
    go_loopw [4, 5] (fun t i wr => ∃ k : Nat, k ≤ xs.length ∧ i = .int .i64 k ∧ t = .string (S (allB (xs.take k))) ∧ Hid (Inv w.heap.size w w.heap.size (allB (xs.take k)) wr)) (fun _ i _ => xs.length - (intOf i).toNat)
    case atStart => exact ⟨0, Nat.zero_le _, rfl, rfl, HI0⟩
    case round =>
      obtain ⟨k, hk, rfl, rfl, HI⟩ := hrel
      by_cases hlt : k < xs.length
      · have HXr := Lib.hid (HX.out.below HI.out.bel)
        obtain ⟨b, off, hA, hB, c0, c1, c2, c3, hok⟩ := HXr.out k hlt
        have HLI := Lib.hid (light xs k hlt HT.out)
        have HAB := Lib.hid (allB_take xs k hlt)
        have HSM := Lib.hid (allB_small xs HT.out k hk)
        have HSM2 := Lib.hid (allB_small xs HT.out (k + 1) hlt)
        have HOK := Lib.hid hok
        have HBb := Lib.hid hB
        have hA2 := Lib.hid hA
        subst hA
        clear hok hB
        generalize hL : allB (xs.take k) = L at *
        generalize hX : xs[k] = x at *
        have HL := Lib.hid hL; have HXk := Lib.hid hX; clear hL hX
        have HN : Hid (x.n < 18446744073709551616) := HOK.out.2.1
        have hsz : Hid (sizeN x.n = (S (shortB x.n)).size) := by show _ = _; rw [S_size, shortB_size x.n HN.out]
        have hLs : (S L).size < 20000 := by rw [S_size]; exact HSM.out
        have hWs : (S (wrB x)).size < 20040 := by rw [S_size]; have := wrB_le x; have := HLI.out; omega
        have HLsz : Hid (((L ++ wrB x).length : Int) = ((S (L ++ wrB x)).size : Int)) := by show _ = _; rw [S_size]
        have HSA := Lib.hid (S_append L (wrB x))
        go_wp2_with fail
        refine (lput_any wr w.heap.size w.heap.size L x HI.out.wr HOK.out (by have := HSM.out; have := HLI.out; omega)).mono ?_; rintro e w2 ⟨rfl, h1, o1⟩
        have HI2 := Lib.hid (HI.out.put h1 o1)
        have HBl := Lib.hid o1.below
        have hB := HBb.out
        have c0 := (o1.below.cell (p := ⟨b, off + k * 4, none⟩) hB).trans c0
        have c1 := (o1.below.cell (p := ⟨b, off + k * 4 + 1, none⟩) hB).trans c1
        have c2 := (o1.below.cell (p := ⟨b, off + k * 4 + 2, none⟩) hB).trans c2
        have c3 := (o1.below.cell (p := ⟨b, off + k * 4 + 3, none⟩) hB).trans c3
        clear h1 o1 hB
        go_wp2_with fail
        refine (lbytes_any w2 x HOK.out (by have := HLI.out; omega)).mono ?_; rintro e w3 ⟨rfl, hb3⟩
        have HI3 := Lib.hid (HI2.out.below hb3)
        have hB := HBb.out
        have c1k : w2.cell? ⟨b, off + k * 4 + 1, none⟩ = some (.int .u64 (U x.n)) := c1
        have hB3 : Hid (b < w2.heap.size) := by have := HI2.out.bel.size; show b < _; omega
        have d1 : w3.cell? ⟨b, off + k * 4 + 1, none⟩ = some (.int .u64 (U x.n)) := (hb3.cell (p := ⟨b, off + k * 4 + 1, none⟩) hB3.out).trans c1k
        clear hb3 c0 c1 c2 c3 hB c1k
        go_wp2_with fail
        rw [HSA.out]
        have HLn : Hid (∀ W, Wr w.heap.size W w.heap.size (L ++ wrB x) → Calls Try.prog 23 #[.pointer (some ⟨w.heap.size, 0, none⟩)] W fun e w' => e = .returned (.int .i64 ((S (L ++ wrB x)).size : Int)) ∧ W = w') := fun W hW => by
          have h := len_any W w.heap.size w.heap.size _ hW
          rw [HLsz.out] at h; exact h
        have HSn : Hid (∀ W, Calls Try.prog 12 #[.int .u64 (U x.n)] W fun e w' => e = .returned (.int .i64 ((S (shortB x.n)).size : Int)) ∧ W = w') := fun W => by
          have h := size_any x.n W HN
          rw [hsz.out] at h; exact h
        have HRn : Hid (∀ W, Calls Try.prog 38 #[.int .u64 (U x.n)] W fun e w' => e = .returned (.string (S (shortB x.n))) ∧ Below W.heap.size W w') := fun W => refShort_any x.n W HN
        have HAB2 : Hid (L ++ wrB x = allB (xs.take (k + 1))) := by have := HAB.out; show _ = _; exact this.symm
        have hMs : (S (L ++ wrB x)).size ≤ 1000000 := by rw [S_size, List.length_append]; have := HSM.out; rw [S_size] at hWs; omega
        have hB4 : Hid (b < w3.heap.size) := by have := HI3.out.bel.size; have := HBb.out; have := HI.out.bel.size; show b < _; have := HBl.out.size; omega
        clear hLs hWs HSA
        generalize L ++ wrB x = M at *
        generalize S (shortB x.n) = Z at *
        have hk0 : (0 : Int) ≤ (k : Int) := by omega
        have hk1 : (k : Int) < (xs.length : Int) := by omega
        go_region_held3 (fun w' => w'.cell? ⟨b, off + k * 4 + 1, none⟩ = some (.int .u64 (U x.n))) (first | go_keep | assumption)
          ((first | (go_at_call 23; refine (HLn.out w3.drew HI3.out.wr).mono ?_; rintro e w5 ⟨rfl, rfl⟩) | (go_at_call 12; refine (HSn.out _).mono ?_; rintro e w' ⟨rfl, rfl⟩) | (go_at_call 38; refine (HRn.out _).mono ?_; rintro e w' ⟨rfl, hb4⟩; (have d2 : w'.cell? ⟨b, off + k * 4 + 1, none⟩ = some (.int .u64 (U x.n)) := (hb4.cell (p := ⟨b, off + k * 4 + 1, none⟩) hB4.out).trans d1))))
        all_goals
          have HI4 := Lib.hid (HI3.out.below (below_drew hb4))
          go_wp2_with fail
          go_roundw
          case rel => exact ⟨k + 1, by omega, by go_num, by rw [HAB2.out], by rw [← HAB2.out]; exact HI4⟩
          case measure => simp [intOf] <;> omega
      · obtain rfl : k = xs.length := by omega
        rw [List.take_length] at *
        go_wp2_with fail
        refine (bytes_any wr w.heap.size w.heap.size _ HI.out.wr).mono ?_; rintro e w2 ⟨rfl, n2, rfl⟩
        have hb2 : Below w.heap.size w (wr.drewN n2) := (HI.out.drewN n2).bel
        go_wp2_with fail
        refine (carry hb2 (works_any _)).mono ?_; rintro e w3 ⟨rfl, hb3⟩
        go_wp2_with fail
        go_ret
        exact ⟨rfl, hb3⟩

end Go.Proofs.Ytdllncbacbpedaa.Wire
