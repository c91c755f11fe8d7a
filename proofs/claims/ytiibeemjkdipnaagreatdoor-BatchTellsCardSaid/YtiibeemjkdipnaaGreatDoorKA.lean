import Derived.Test.YtiibeemjkdipnaaGreatDoorHP
import Derived.Test.YtiibeemjkdipnaaGreatDoorVF
import Derived.Test.YtiibeemjkdipnaaGreatDoorGX
/-
  The law's own of a list, and spoilEvent.
-/
namespace Go.Proofs.YtiibeemjkdipnaaGreatDoor.Batch
open Go Go.RowKit
open Go.Proofs.YtiibeemjkdipnaaGreatDoor.Schema
open Go.Proofs.YtiibeemjkdipnaaGreatDoor.Upcast

set_option maxRecDepth 100000 in
set_option maxHeartbeats 4000000 in
theorem own_list (A : Option Addr) (cap : Nat) (xs : List Lx) (hn : xs.length ≤ 100000) (hs : ∀ x ∈ xs, Light x) (W : World) (hX : Row W A xs) :
    Calls Tryz.prog 7 #[.slice A xs.length cap] W (OwsRes xs W) := by
  have HX := Lib.hid hX
  have HN := Lib.hid hn
  have HS := Lib.hid hs
  clear hX hn hs
  go_enter Tryz.func7, Tryz.ntmps7
  go_wp2_with fail
  go_loopw [3, 4] (fun vx t wr => ∃ (i : Nat) (ys : List Lx), i ≤ xs.length ∧ t = .int .i64 i ∧ Hid (OwI W (xs.map (·.e)) i vx ys wr)) (fun _ t _ => xs.length - (intOf t).toNat)
  case atStart => exact ⟨0, [], Nat.zero_le _, rfl, Lib.hid ⟨Below.refl _ _, OwnR.nil _ _, rfl, rfl, fun y hy => (by cases hy)⟩⟩
  case round =>
    obtain ⟨i, ys, hi, rfl, HI⟩ := hrel
    by_cases hlt : i < xs.length
    case pos =>
      have z0 : (0 : Int) ≤ (i : Int) := by omega
      have z1 : (i : Int) < (xs.length : Int) := by omega
      have HLT := Lib.hid hlt
      have zk : IntKind.i64.wrap ((i : Int) + 1) = (i : Int) + 1 := by (rw [IntKind.wrap_i64]; have := HN.out; omega)
      obtain ⟨b, o, rfl, hbl, c0, c1, c2, c3, hat⟩ := (HX.out.below HI.out.bel).at i hlt
      have HAT := Lib.hid hat
      have HGD := Lib.hid (show (xs.map (·.e))[i]? = some xs[i].e by rw [List.getElem?_map, List.getElem?_eq_getElem hlt]; rfl)
      have HSX := Lib.hid (HS.out _ (List.getElem_mem hlt))
      clear hat hbl
      generalize xs[i] = x at HAT HGD HSX c0 c1 c2 c3
      go_wp2_with fail
      clear c0 c1 c2 c3 z0 z1
      refine (own_x x.A x.ca x.C x.cc x.e HSX.out.1 HSX.out.2 wr HAT.out).mono ?_
      rintro z W2 ⟨A1, d1, B1, d2, mid, rfl, hm1, hm2, h1, h2, hb⟩
      have hws := HI.out.bel.size
      have HO : Hid (LoAt W2 W.heap.size ⟨A1, d1, B1, d2, x.e⟩) := Lib.hid ⟨HAT.out.v, HAT.out.k, HAT.out.fit, HAT.out.txt, h1.own.less hws, h2.own.less (by omega)⟩
      replace HI := Lib.hid (HI.out.below hb)
      clear h1 h2 hm1 hm2 hb hws
      unfold evV
      have hb3 := (Below.refl W2.heap.size W2).alloc (Nat.le_refl _) (.cells #[.int .u8 x.e.v, .int .u8 x.e.k, .slice A1 x.e.ns.length d1, .slice B1 x.e.ts.length d2] 39)
      replace HI := Lib.hid (HI.out.below hb3)
      replace HO := Lib.hid (HO.out.below hb3)
      clear hb3
      have HNEW := Lib.hid (lx_new W2 ⟨A1, d1, B1, d2, x.e⟩)
      have HYL := Lib.hid (show ys.length ≤ 1000000 by (have := HI.out.len; have := HN.out; omega))
      go_wp2_with (at_builtin; refine wpList_append_ev rfl (.tmp 11) (.tmp 17) rfl W.heap.size _ ys rfl HI.out.own ⟨W2.heap.size, 0, none⟩ 1 ⟨A1, d1, B1, d2, x.e⟩ rfl HNEW.out ?c1 ?c2 ?_)
      case c1 => exact HYL.out
      case c2 => first | exact HI.out.bel.size | exact Nat.le_trans HI.out.bel.size (by simp)
      intro v' W5 hO hg
      have HI5 := Lib.hid (HI.out.snoc hO hg HGD.out HO.out)
      clear hO hg HI HNEW HO
      go_wp2_with fail
      go_roundw
      case rel => exact ⟨i + 1, _, by have := HLT.out; omega, by go_num, HI5⟩
      case measure => simp [intOf] <;> omega
    case neg =>
      have z1 : ¬ (i : Int) < (xs.length : Int) := by omega
      have hii : i = xs.length := by omega
      rw [hii] at HI
      clear hii hlt hi
      obtain ⟨A1, d1, hz, hv, hn, hle, -⟩ := HI.out.own.vat
      subst hz
      have HV := Lib.hid hv
      have HNA := Lib.hid hn
      have HLE := Lib.hid hle
      clear hv hn hle
      go_wp2_with fail
      go_ret
      exact ⟨ys, A1, d1, rfl, ⟨HV.out, fun y hy => (HI.out.at_ y hy).lx⟩, by rw [HI.out.eq, List.take_of_length_le (by simp)], HNA.out, HLE.out, HI.out.bel⟩


set_option maxRecDepth 100000 in
set_option maxHeartbeats 4000000 in
theorem spoil_sp (A : Option Addr) (ca : Nat) (C : Option Addr) (cc : Nat) (x : Ev) (B : Nat) (W : World) (s1 : Spot W B 2 A x.ns.length) (s2 : Spot W B 9 C x.ts.length) (hn1 : x.ns.length ≤ 1000000) (hm1 : x.ts.length ≤ 1000000) :
    Calls Tryz.prog 20 #[evV A ca C cc x] W fun z w' => z = .returned (.tuple #[]) ∧ Sp A x.ns.length C x.ts.length W w' := by
  have HLB := Lib.hid (And.intro (fun k hk => (s1.box k hk).2) (fun k hk => (s2.box k hk).2))
  have hb := (Below.refl W.heap.size W).alloc (Nat.le_refl _) (.cells #[.int .u8 x.v, .int .u8 x.k, .slice A x.ns.length ca, .slice C x.ts.length cc] 39)
  have HI : Hid (SpI W B W.heap.size (.int .u8 x.v) (.int .u8 x.k) (.slice A x.ns.length ca) (.slice C x.ts.length cc) A x.ns.length C x.ts.length (W.alloc (.cells #[.int .u8 x.v, .int .u8 x.k, .slice A x.ns.length ca, .slice C x.ts.length cc] 39))) :=
    Lib.hid ⟨Sp.of hb, box4 W _ _ _ _ _, s1.low hb, s2.low hb⟩
  clear s1 s2 hb
  unfold evV
  go_enter Tryz.func20, Tryz.ntmps20
  go_upto_region 1 with (fail)
  generalize W.alloc (.cells #[.int .u8 x.v, .int .u8 x.k, .slice A x.ns.length ca, .slice C x.ts.length cc] 39) = W1 at HI ⊢
  generalize hbb : W.heap.size = b at HI HLB ⊢
  clear hbb
  go_wp2_with fail
  go_loopw [2] (fun i wr => ∃ q : Nat, i = .int .i64 q ∧ q ≤ x.ns.length ∧ Hid (SpI W B b (.int .u8 x.v) (.int .u8 x.k) (.slice A x.ns.length ca) (.slice C x.ts.length cc) A x.ns.length C x.ts.length wr)) (fun i _ => x.ns.length - (intOf i).toNat)
  case atStart => exact ⟨0, rfl, Nat.zero_le _, HI⟩
  case round =>
    clear HI
    obtain ⟨q, rfl, hq, HIq⟩ := hrel
    obtain ⟨p0, p1, p2, p3⟩ := HIq.out.four
    clear p0 p1 p3
    by_cases hlt : q < x.ns.length
    · have z0 : (0 : Int) ≤ (q : Int) := by omega
      have z1 : (q : Int) < (x.ns.length : Int) := by omega
      rcases HIq.out.s1 with h0 | ⟨g, rfl, hBg, -, -, hsp⟩
      · omega
      · obtain ⟨u, c0⟩ := hsp.1 q hlt
        have f0 := hsp.2 q
        have hh : hit (some ⟨g, 0, none⟩) x.ns.length g := ⟨by omega, rfl⟩
        have HI2 := Lib.hid (HIq.out.set g q (.int .i64 (-7)) (Or.inl hh) (HLB.out.1 g hh))
        clear hsp hBg hh
        go_wp2_with fail
        go_roundw
        case rel => exact ⟨q + 1, by go_num, by omega, HI2⟩
        case measure => simp [intOf] <;> omega
    · have z1 : ¬ (q : Int) < (x.ns.length : Int) := by omega
      clear hlt
      go_wp2_with fail
      clear p2 z1
      go_loopw [3] (fun i wr => ∃ q : Nat, i = .int .i64 q ∧ q ≤ x.ts.length ∧ Hid (SpI W B b (.int .u8 x.v) (.int .u8 x.k) (.slice A x.ns.length ca) (.slice C x.ts.length cc) A x.ns.length C x.ts.length wr)) (fun i _ => x.ts.length - (intOf i).toNat)
      case atStart => exact ⟨0, rfl, Nat.zero_le _, HIq⟩
      case round =>
        clear HIq
        obtain ⟨q2, rfl, hq2, HIr⟩ := hrel
        obtain ⟨p0, p1, p2, p3⟩ := HIr.out.four
        clear p0 p1 p2
        by_cases hlt : q2 < x.ts.length
        · have z0 : (0 : Int) ≤ (q2 : Int) := by omega
          have z1 : (q2 : Int) < (x.ts.length : Int) := by omega
          rcases HIr.out.s2 with h0 | ⟨g, rfl, hBg, -, -, hsp⟩
          · omega
          · obtain ⟨u, c0⟩ := hsp.1 q2 hlt
            have f0 := hsp.2 q2
            have hh : hit (some ⟨g, 0, none⟩) x.ts.length g := ⟨by omega, rfl⟩
            have HI2 := Lib.hid (HIr.out.set g q2 (.string ⟨#[115, 112, 111, 105, 108, 116]⟩) (Or.inr hh) (HLB.out.2 g hh))
            clear hsp hBg hh
            go_wp2_with fail
            go_roundw
            case rel => exact ⟨q2 + 1, by go_num, by omega, HI2⟩
            case measure => simp [intOf] <;> omega
        · have z1 : ¬ (q2 : Int) < (x.ts.length : Int) := by omega
          go_wp2_with fail
          first | (go_end0; exact ⟨rfl, HIr.out.sp⟩) | exact bodyPost_ret (by simp [results, Tryz.results20, go_sem]) rfl ⟨rfl, HIr.out.sp⟩
end Go.Proofs.YtiibeemjkdipnaaGreatDoor.Batch
