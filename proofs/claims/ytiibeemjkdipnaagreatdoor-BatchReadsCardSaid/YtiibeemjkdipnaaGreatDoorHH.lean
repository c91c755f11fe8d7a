import Derived.Test.YtiibeemjkdipnaaGreatDoorHG
import Derived.Test.YtiibeemjkdipnaaGreatDoorUO
import Derived.Test.YtiibeemjkdipnaaGreatDoorUR
/-
  A batch's payload: written, Encode, Say, Newest; Same.
-/
namespace Go.Proofs.YtiibeemjkdipnaaGreatDoor.Batch
open Go Go.RowKit
open Go.Proofs.YtiibeemjkdipnaaGreatDoor.Wire (Wr Only Inv U fixB shortB u8_any short_any bytes_any wrapS)
open Go.Proofs.YtiibeemjkdipnaaGreatDoor.Schema
open Go.Proofs.YtiibeemjkdipnaaGreatDoor.Codec (bare putB Put_any)
open Go.Proofs.YtiibeemjkdipnaaGreatDoor.Upcast (ev0 Lowest_ev lwX)

theorem allB_next {l : List Ev} {i : Nat} (h : i < l.length) : allB (l.take (i + 1)) = allB (l.take i) ++ bare (l.getD i ev0) := by
  rw [take_next h]
  unfold allB
  rw [List.flatMap_append, List.flatMap_singleton]

theorem vOf_get (xs : List Lx) (h : 0 < xs.length) : vOf (xs.map (·.e)) = xs[0].e.v := by unfold vOf; rw [Upcast.getD_map xs 0 h]

set_option maxRecDepth 100000 in
set_option maxHeartbeats 400000 in
theorem written_any (D : Option Addr) (cap : Nat) (xs : List Lx) (hm : mayL (xs.map (·.e)) = true) (w : World) (hX : Row w D xs) (E : Env w) :
    Calls Tryz.prog 28 #[.slice D xs.length cap] w fun z w' => z = .returned (.string (Wire.S (payB (xs.map (·.e))))) ∧ Below w.heap.size w w' := by
  have HI := Lib.hid (Inv.new w)
  have HE := Lib.hid E
  have HX := Lib.hid hX
  have ho := mayL_out hm
  rw [List.length_map] at ho
  have hlen := payB_le hm
  have hms : ∀ (i : Nat) (h : i < xs.length), may xs[i].e = true := fun i h => (ho.2.2.1 _ (List.mem_map_of_mem (List.getElem_mem h))).1
  have HMS := Lib.hid hms
  have HN := Lib.hid (And.intro ho.1 (And.intro ho.2.1 (And.intro ho.2.2.2.1 ho.2.2.2.2)))
  have HP := Lib.hid (show payB (xs.map (·.e)) = (fixB 1 (vOf (xs.map (·.e))) ++ shortB xs.length) ++ allB ((xs.map (·.e)).take xs.length) by
    unfold payB
    rw [List.length_map, List.append_assoc, List.take_of_length_le (by rw [List.length_map]; exact Nat.le_refl _)])
  have HAL := Lib.hid (fun i => (show (allB ((xs.map (·.e)).take i)).length ≤ 102 * 40 from by
    have h1 := allB_le ((xs.map (·.e)).take i) (fun e he => (ho.2.2.1 e (List.mem_of_mem_take he)).1)
    have h2 : ((xs.map (·.e)).take i).length ≤ 40 := by rw [List.length_take, List.length_map]; omega
    omega))
  have h0 : 0 < xs.length := ho.1
  have HV0 := Lib.hid (vOf_get xs h0)
  clear hX hm E ho hlen hms
  go_enter Tryz.func28, Tryz.ntmps28
  go_upto_region 2 with (fail)
  generalize w.alloc (.cells #[.pointer none, .int .i64 0] 73) = W at HI ⊢
  obtain ⟨b, o, rfl, hbl, c0, c1, c2, c3, -⟩ := (HX.out.below HI.out.bel).at 0 h0
  have z0 : (0 : Int) < (xs.length : Int) := by omega
  rw [Nat.zero_mul, Nat.add_zero, ← HV0.out] at c0
  clear c1 c2 c3 hbl HV0
  go_wp2_with fail
  clear c0
  have hc := u8_any W w.heap.size w.heap.size [] (vOf (xs.map (·.e))) HI.out.wr (by simp only [List.length_nil]; omega) ((vOf (xs.map (·.e)) : Nat) : Int) rfl (Lib.hid (by have := HN.out; omega))
  refine hc.mono ?_
  clear hc
  rintro z W1 ⟨rfl, h1, h2⟩
  replace HI := Lib.hid (HI.out.put h1 h2)
  clear h1 h2
  go_wp2_with fail
  have hc := short_any W1 w.heap.size w.heap.size _ xs.length HI.out.wr (by rw [List.nil_append, Wire.fixB_length]; omega) (Lib.hid (by have := HN.out; omega)) (IntKind.u64.wrap (xs.length : Int)) (wrapS xs.length (by have := HN.out; omega))
  first | refine hc.mono ?_ | (rw [wrapS xs.length (by have := HN.out; omega)] at hc; refine hc.mono ?_)
  clear hc
  rintro z W2 ⟨rfl, h1, h2⟩
  replace HI := Lib.hid (HI.out.put h1 h2)
  clear h1 h2 z0 h0
  go_wp2_with fail
  have HI0 : Hid (Inv w.heap.size w w.heap.size (([] ++ fixB 1 (vOf (xs.map (·.e))) ++ shortB xs.length) ++ allB ((xs.map (·.e)).take 0)) W2) := by
    rw [List.take_zero, show allB [] = [] from rfl, List.append_nil]; exact HI
  clear HI
  go_loopw [17] (fun t wr => ∃ i : Nat, t = .int .i64 i ∧ i ≤ xs.length ∧ Hid (Inv w.heap.size w w.heap.size (([] ++ fixB 1 (vOf (xs.map (·.e))) ++ shortB xs.length) ++ allB ((xs.map (·.e)).take i)) wr)) (fun t _ => xs.length - (intOf t).toNat)
  case atStart => exact ⟨0, rfl, Nat.zero_le _, HI0⟩
  case round =>
    obtain ⟨i, rfl, hi, HI⟩ := hrel
    clear HI0
    by_cases hlt : i < xs.length
    · have z0 : (0 : Int) ≤ (i : Int) := by omega
      have z1 : (i : Int) < (xs.length : Int) := by omega
      obtain ⟨b, o, he, hbl, c0, c1, c2, c3, hat⟩ := (HX.out.below HI.out.bel).at i hlt
      injection he with he; injection he with e1 e2; subst e1; subst e2
      have HAT := Lib.hid (HX.out.2 _ (List.getElem_mem hlt))
      have HNL := Lib.hid (show xs[i].e.ns.length ≤ 1000000 by have := (Codec.may_lens (HMS.out i hlt)).1; omega)
      have HLL := Lib.hid (show ((([] : List UInt8) ++ fixB 1 (vOf (xs.map (·.e)))) ++ shortB xs.length ++ allB ((xs.map (·.e)).take i)).length ≤ 100000000000 by
        have h1 := HAL.out i
        have h2 := Wire.shortB_le xs.length
        rw [List.length_append, List.length_append, List.length_append, Wire.fixB_length]
        simp only [List.length_nil]
        omega)
      have HMX := Lib.hid (HMS.out i hlt)
      have HNX := Lib.hid (show allB ((xs.map (·.e)).take (i + 1)) = allB ((xs.map (·.e)).take i) ++ putB xs[i].e by
        rw [allB_next (by rw [List.length_map]; exact hlt), Upcast.getD_map xs i hlt]
        unfold putB
        rw [if_pos HMX.out])
      clear hat hbl
      generalize xs[i] = x at HAT HMX HNX HNL c0 c1 c2 c3
      have hb1 := (Below.refl wr.heap.size wr).alloc (Nat.le_refl _) (.cells #[.int .u8 x.e.v, .int .u8 x.e.k, .slice x.A x.e.ns.length x.ca, .slice x.C x.e.ts.length x.cc] 39)
      have hp := box4 wr (.int .u8 x.e.v) (.int .u8 x.e.k) (.slice x.A x.e.ns.length x.ca) (.slice x.C x.e.ts.length x.cc) 39
      go_upto_region 7 with (fail)
      have HI1 := Lib.hid (HI.out.below hb1)
      obtain ⟨p0, p1, p2, p3⟩ := hp
      clear c0 c1 c2 c3 hb1
      generalize wr.alloc (.cells #[.int .u8 x.e.v, .int .u8 x.e.k, .slice x.A x.e.ns.length x.ca, .slice x.C x.e.ts.length x.cc] 39) = W3 at HI1 p0 p1 p2 p3 ⊢
      go_wp2_with fail
      clear p0 p1 p2 p3 z0 z1
      refine (Put_any w W3 w.heap.size w.heap.size _ x.A x.ca x.C x.cc x.e HI1.out.bel (Nat.le_refl _) HI1.out.wr HLL.out HNL.out HAT.out HE.out).mono ?_
      rintro z W4 ⟨rfl, h1, h2⟩
      have HI2 := HI1.out.put h1 h2
      rw [List.append_assoc, ← HNX.out] at HI2
      have HI3 := Lib.hid HI2
      have zk : IntKind.i64.wrap ((i : Int) + 1) = (i : Int) + 1 := by (rw [IntKind.wrap_i64]; have := HN.out.2.1; omega)
      clear h1 h2 HI2
      go_wp2_with fail
      go_roundw
      case rel => exact ⟨i + 1, by go_num, by omega, HI3⟩
      case measure => simp [intOf] <;> omega
    · have z1 : ¬ (i : Int) < (xs.length : Int) := by omega
      have HPP := Lib.hid (show ([] ++ fixB 1 (vOf (xs.map (·.e))) ++ shortB xs.length) ++ allB ((xs.map (·.e)).take i) = payB (xs.map (·.e)) by rw [HP.out, List.nil_append, show i = xs.length by omega])
      rw [HPP.out] at HI
      go_wp2_with fail
      refine (bytes_any wr w.heap.size w.heap.size _ HI.out.wr).mono ?_
      rintro z z1 ⟨rfl, nq, rfl⟩
      replace HI := Lib.hid (HI.out.drewN nq)
      go_wp2_with fail
      go_ret
      exact ⟨rfl, HI.out.bel⟩
end Go.Proofs.YtiibeemjkdipnaaGreatDoor.Batch
