import Derived.Test.YtiibeemjkdipnaaGreatDoorHP
import Derived.Test.YtiibeemjkdipnaaGreatDoorVF
import Derived.Test.YtiibeemjkdipnaaGreatDoorGX
/-
  The law's own of a list, and spoilEvent.
-/
namespace Go.Proofs.YtiibeemjkdipnaaGreatDoor.Batch
open Go Go.RowKit
open Go.Proofs.YtiibeemjkdipnaaGreatDoor.Schema
open Go.Proofs.YtiibeemjkdipnaaGreatDoor.Upcast

set_option maxRecDepth 100000 in
set_option maxHeartbeats 4000000 in
theorem spoil_sp (A : Option Addr) (ca : Nat) (C : Option Addr) (cc : Nat) (x : Ev) (B : Nat) (W : World) (s1 : Spot W B 2 A x.ns.length) (s2 : Spot W B 9 C x.ts.length) (hn1 : x.ns.length ≤ 1000000) (hm1 : x.ts.length ≤ 1000000) :
    Calls Tryz.prog 20 #[evV A ca C cc x] W fun z w' => z = .returned (.tuple #[]) ∧ Sp A x.ns.length C x.ts.length W w' := by
  have HLB := Lib.hid (And.intro (fun k hk => (s1.box k hk).2) (fun k hk => (s2.box k hk).2))
  have hb := (Below.refl W.heap.size W).alloc (Nat.le_refl _) (.cells #[.int .u8 x.v, .int .u8 x.k, .slice A x.ns.length ca, .slice C x.ts.length cc] 39)
  have HI : Hid (SpI W B W.heap.size (.int .u8 x.v) (.int .u8 x.k) (.slice A x.ns.length ca) (.slice C x.ts.length cc) A x.ns.length C x.ts.length (W.alloc (.cells #[.int .u8 x.v, .int .u8 x.k, .slice A x.ns.length ca, .slice C x.ts.length cc] 39))) :=
    Lib.hid ⟨Sp.of hb, box4 W _ _ _ _ _, s1.low hb, s2.low hb⟩
  clear s1 s2 hb
  unfold evV
  go_enter Tryz.func20, Tryz.ntmps20
  go_upto_region 1 with (fail)
  generalize W.alloc (.cells #[.int .u8 x.v, .int .u8 x.k, .slice A x.ns.length ca, .slice C x.ts.length cc] 39) = W1 at HI ⊢
  generalize hbb : W.heap.size = b at HI HLB ⊢
  clear hbb
  go_wp2_with fail
  go_loopw [2] (fun i wr => ∃ q : Nat, i = .int .i64 q ∧ q ≤ x.ns.length ∧ Hid (SpI W B b (.int .u8 x.v) (.int .u8 x.k) (.slice A x.ns.length ca) (.slice C x.ts.length cc) A x.ns.length C x.ts.length wr)) (fun i _ => x.ns.length - (intOf i).toNat)
  case atStart => exact ⟨0, rfl, Nat.zero_le _, HI⟩
  case round =>
    clear HI
    obtain ⟨q, rfl, hq, HIq⟩ := hrel
    obtain ⟨p0, p1, p2, p3⟩ := HIq.out.four
    clear p0 p1 p3
    by_cases hlt : q < x.ns.length
    · have z0 : (0 : Int) ≤ (q : Int) := by omega
      have z1 : (q : Int) < (x.ns.length : Int) := by omega
      rcases HIq.out.s1 with h0 | ⟨g, rfl, hBg, -, -, hsp⟩
      · omega
      · obtain ⟨u, c0⟩ := hsp.1 q hlt
        have f0 := hsp.2 q
        have hh : hit (some ⟨g, 0, none⟩) x.ns.length g := ⟨by omega, rfl⟩
        have HI2 := Lib.hid (HIq.out.set g q (.int .i64 (-7)) (Or.inl hh) (HLB.out.1 g hh))
        clear hsp hBg hh
        go_wp2_with fail
        go_roundw
        case rel => exact ⟨q + 1, by go_num, by omega, HI2⟩
        case measure => simp [intOf] <;> omega
    · have z1 : ¬ (q : Int) < (x.ns.length : Int) := by omega
      clear hlt
      go_wp2_with fail
      clear p2 z1
      go_loopw [3] (fun i wr => ∃ q : Nat, i = .int .i64 q ∧ q ≤ x.ts.length ∧ Hid (SpI W B b (.int .u8 x.v) (.int .u8 x.k) (.slice A x.ns.length ca) (.slice C x.ts.length cc) A x.ns.length C x.ts.length wr)) (fun i _ => x.ts.length - (intOf i).toNat)
      case atStart => exact ⟨0, rfl, Nat.zero_le _, HIq⟩
      case round =>
        clear HIq
        obtain ⟨q2, rfl, hq2, HIr⟩ := hrel
        obtain ⟨p0, p1, p2, p3⟩ := HIr.out.four
        clear p0 p1 p2
        by_cases hlt : q2 < x.ts.length
        · have z0 : (0 : Int) ≤ (q2 : Int) := by omega
          have z1 : (q2 : Int) < (x.ts.length : Int) := by omega
          rcases HIr.out.s2 with h0 | ⟨g, rfl, hBg, -, -, hsp⟩
          · omega
          · obtain ⟨u, c0⟩ := hsp.1 q2 hlt
            have f0 := hsp.2 q2
            have hh : hit (some ⟨g, 0, none⟩) x.ts.length g := ⟨by omega, rfl⟩
            have HI2 := Lib.hid (HIr.out.set g q2 (.string ⟨#[115, 112, 111, 105, 108, 116]⟩) (Or.inr hh) (HLB.out.2 g hh))
            clear hsp hBg hh
            go_wp2_with fail
            go_roundw
            case rel => exact ⟨q2 + 1, by go_num, by omega, HI2⟩
            case measure => simp [intOf] <;> omega
        · have z1 : ¬ (q2 : Int) < (x.ts.length : Int) := by omega
          go_wp2_with fail
          first | (go_end0; exact ⟨rfl, HIr.out.sp⟩) | exact bodyPost_ret (by simp [results, Tryz.results20, go_sem]) rfl ⟨rfl, HIr.out.sp⟩
end Go.Proofs.YtiibeemjkdipnaaGreatDoor.Batch
