import Derived.Test.YtbjpkffhpdcapaaDoorUR
import Derived.Test.YtbjpkffhpdcapaaDoorE26
import Derived.Deep.RegionWith
/-
  The document's Same of lists that are the same.
-/
namespace Go.Proofs.YtbjpkffhpdcapaaDoor.Upcast
open Go Go.RowKit
open Go.Proofs.YtbjpkffhpdcapaaDoor.Schema

theorem map_at {xs ys : List Lx} (h : xs.map (·.e) = ys.map (·.e)) (k : Nat) (h1 : k < xs.length) (h2 : k < ys.length) : xs[k].e = ys[k].e := by
  have e1 := getD_map xs k h1
  have e2 := getD_map ys k h2
  rw [← e1, ← e2, h]

set_option maxRecDepth 100000 in
set_option maxHeartbeats 2000000 in
theorem sames_any (A : Option Addr) (ca : Nat) (xs : List Lx) (C : Option Addr) (cc : Nat) (ys : List Lx) (hxy : xs.map (·.e) = ys.map (·.e)) (hn : xs.length ≤ 1000) (hs : ∀ x ∈ xs, x.e.ns.length ≤ 1000 ∧ x.e.ts.length ≤ 1000) (w : World) (hX : Row w A xs) (hY : Row w C ys) :
    Calls Tryd.prog 18 #[.slice A xs.length ca, .slice C ys.length cc] w (fun z w' => z = .returned (.bool true) ∧ Below w.heap.size w w') := by
  have hlen : xs.length = ys.length := by have := congrArg List.length hxy; simpa using this
  rw [← hlen]
  have HX := Lib.hid hX
  have HY := Lib.hid hY
  have HS := Lib.hid hs
  have HE := Lib.hid (fun k h1 h2 => map_at hxy k h1 h2)
  have HL := Lib.hid hlen
  clear hX hY hs hxy hlen
  go_enter Tryd.func18, Tryd.ntmps18
  go_wp2_with fail
  go_loopw [5] (fun i wr => ∃ k : Nat, k ≤ xs.length ∧ i = .int .i64 k ∧ Hid (Below w.heap.size w wr)) (fun i _ => xs.length - (intOf i).toNat)
  case atStart => exact ⟨0, Nat.zero_le _, rfl, Lib.hid (Below.refl _ _)⟩
  case round =>
    obtain ⟨k, hk, rfl, HB⟩ := hrel
    by_cases hlt : k < xs.length
    · have z0 : (0 : Int) ≤ (k : Int) := by omega
      have z1 : (k : Int) < (xs.length : Int) := by omega
      have hlt2 : k < ys.length := by have := HL.out; omega
      have hbd := HB.out.trans (below_drew w.heap.size wr)
      obtain ⟨b, o, hA, -, -, -, -, -, -⟩ := (HX.out.below HB.out).at k hlt
      obtain ⟨b2, o2, hC, -, -, -, -, -, -⟩ := (HY.out.below HB.out).at k hlt2
      have hrx := (HX.out.below hbd).at k hlt
      have hry := (HY.out.below hbd).at k hlt2
      subst hA hC
      obtain ⟨b', o', e1, -, c0, c1, c2, c3, hax⟩ := hrx
      injection e1 with e1; injection e1 with e1 e2; subst e1 e2
      obtain ⟨b3, o3, e1, -, d0, d1, d2, d3, hay⟩ := hry
      injection e1 with e1; injection e1 with e1 e2; subst e1 e2
      have HAX := Lib.hid hax
      have HAY := Lib.hid hay
      have HSX := Lib.hid (HS.out _ (List.getElem_mem hlt))
      have HEX := Lib.hid (HE.out k hlt hlt2)
      have HLT := Lib.hid hlt
      clear hax hay hbd
      generalize xs[k] = x at HAX HSX HEX c0 c1 c2 c3
      generalize ys[k] = y at HAY HEX d0 d1 d2 d3
      clear hlt2
      have hc := rSame_any x.A x.ca x.C x.cc x.e y.A y.ca y.C y.cc y.e (by have := HSX.out; omega) (by have := HSX.out; omega) wr.drew HAX.out HAY.out
      rw [(same_iff _ _).2 HEX.out] at hc
      have HC := Lib.hid hc
      simp only [evV] at HC
      clear hc
      go_wp2_with fail
      refine wp_region_held_drew (S := (fun w' => Below wr.heap.size wr w' ∧ w'.cell? ⟨b, o + k * 4, none⟩ = some (.int .u8 x.e.v) ∧ w'.cell? ⟨b, o + k * 4 + 1, none⟩ = some (.int .u8 x.e.k) ∧ w'.cell? ⟨b, o + k * 4 + 2, none⟩ = some (.slice x.A x.e.ns.length x.ca) ∧ w'.cell? ⟨b, o + k * 4 + 3, none⟩ = some (.slice x.C x.e.ts.length x.cc) ∧ w'.cell? ⟨b2, o2 + k * 4, none⟩ = some (.int .u8 y.e.v) ∧ w'.cell? ⟨b2, o2 + k * 4 + 1, none⟩ = some (.int .u8 y.e.k) ∧ w'.cell? ⟨b2, o2 + k * 4 + 2, none⟩ = some (.slice y.A y.e.ns.length y.ca) ∧ w'.cell? ⟨b2, o2 + k * 4 + 3, none⟩ = some (.slice y.C y.e.ts.length y.cc))) (by kernel_rfl) ⟨below_drew wr.heap.size wr, c0, c1, c2, c3, d0, d1, d2, d3⟩ (fun hHeld => ?_)
      refine wpAnyH_take (i := 0) (oi := { dst := some 17, op := Go.Op.move (Go.Operand.tmp 0), type := 26, pos := "ref.go:189", after := #[], guard := none }) (v := ?v1) rfl (by kernel_rfl) (by kernel_rfl) (by kernel_rfl) (fun _ _ _ h => h) (Or.inl ⟨by rfl, ?hy1⟩) (by assumption) ?rest1
      case hy1 => (intro w hSw; obtain ⟨s0, s1, s2, s3, s4, s5, s6, s7, s8⟩ := hSw; go_simp; try with_reducible rfl)
      try simp only [Act.put, List.setIfInBounds_toArray, List.set_cons_zero, List.set_cons_succ]
      refine wpAnyH_take (i := 1) (oi := { dst := some 18, op := Go.Op.move (Go.Operand.tmp 5), type := 3, pos := "ref.go:189", after := #[], guard := none }) (v := ?v2) rfl (by kernel_rfl) (by kernel_rfl) (by kernel_rfl) (fun _ _ _ h => h) (Or.inl ⟨by rfl, ?hy2⟩) (by assumption) ?rest2
      case hy2 => (intro w hSw; obtain ⟨s0, s1, s2, s3, s4, s5, s6, s7, s8⟩ := hSw; go_simp; try with_reducible rfl)
      try simp only [Act.put, List.setIfInBounds_toArray, List.set_cons_zero, List.set_cons_succ]
      refine wpAnyH_take (i := 2) (oi := { dst := some 19, op := Go.Op.indexAddr 26 (Go.Operand.tmp 17) (Go.Operand.tmp 18), type := 0, pos := "ref.go:189", after := #[{ on := 0, ground := Go.Ground.data }, { on := 1, ground := Go.Ground.data }], guard := none }) (v := ?v3) rfl (by kernel_rfl) (by kernel_rfl) (by kernel_rfl) (fun _ _ _ h => h) (Or.inl ⟨by rfl, ?hy3⟩) (by assumption) ?rest3
      case hy3 => (intro w hSw; obtain ⟨s0, s1, s2, s3, s4, s5, s6, s7, s8⟩ := hSw; go_simp; try with_reducible rfl)
      try simp only [Act.put, List.setIfInBounds_toArray, List.set_cons_zero, List.set_cons_succ]
      refine wpAnyH_take (i := 3) (oi := { dst := some 20, op := Go.Op.load 25 (Go.Operand.tmp 19), type := 25, pos := "ref.go:189", after := #[{ on := 2, ground := Go.Ground.data }], guard := none }) (v := ?v4) rfl (by kernel_rfl) (by kernel_rfl) (by kernel_rfl) (fun _ _ _ h => h) (Or.inl ⟨by rfl, ?hy4⟩) (by assumption) ?rest4
      case hy4 => (intro w hSw; obtain ⟨s0, s1, s2, s3, s4, s5, s6, s7, s8⟩ := hSw; go_simp; try with_reducible rfl)
      try simp only [Act.put, List.setIfInBounds_toArray, List.set_cons_zero, List.set_cons_succ]
      refine wpAnyH_take (i := 4) (oi := { dst := some 21, op := Go.Op.move (Go.Operand.tmp 1), type := 26, pos := "ref.go:189", after := #[], guard := none }) (v := ?v5) rfl (by kernel_rfl) (by kernel_rfl) (by kernel_rfl) (fun _ _ _ h => h) (Or.inl ⟨by rfl, ?hy5⟩) (by assumption) ?rest5
      case hy5 => (intro w hSw; obtain ⟨s0, s1, s2, s3, s4, s5, s6, s7, s8⟩ := hSw; go_simp; try with_reducible rfl)
      try simp only [Act.put, List.setIfInBounds_toArray, List.set_cons_zero, List.set_cons_succ]
      refine wpAnyH_take (i := 5) (oi := { dst := some 22, op := Go.Op.move (Go.Operand.tmp 5), type := 3, pos := "ref.go:189", after := #[], guard := none }) (v := ?v6) rfl (by kernel_rfl) (by kernel_rfl) (by kernel_rfl) (fun _ _ _ h => h) (Or.inl ⟨by rfl, ?hy6⟩) (by assumption) ?rest6
      case hy6 => (intro w hSw; obtain ⟨s0, s1, s2, s3, s4, s5, s6, s7, s8⟩ := hSw; go_simp; try with_reducible rfl)
      try simp only [Act.put, List.setIfInBounds_toArray, List.set_cons_zero, List.set_cons_succ]
      refine wpAnyH_take (i := 6) (oi := { dst := some 23, op := Go.Op.indexAddr 26 (Go.Operand.tmp 21) (Go.Operand.tmp 22), type := 0, pos := "ref.go:189", after := #[{ on := 4, ground := Go.Ground.data }, { on := 5, ground := Go.Ground.data }], guard := none }) (v := ?v7) rfl (by kernel_rfl) (by kernel_rfl) (by kernel_rfl) (fun _ _ _ h => h) (Or.inl ⟨by rfl, ?hy7⟩) (by assumption) ?rest7
      case hy7 => (intro w hSw; obtain ⟨s0, s1, s2, s3, s4, s5, s6, s7, s8⟩ := hSw; go_simp; try with_reducible rfl)
      try simp only [Act.put, List.setIfInBounds_toArray, List.set_cons_zero, List.set_cons_succ]
      refine wpAnyH_take (i := 7) (oi := { dst := some 24, op := Go.Op.load 25 (Go.Operand.tmp 23), type := 25, pos := "ref.go:189", after := #[{ on := 6, ground := Go.Ground.data }], guard := none }) (v := ?v8) rfl (by kernel_rfl) (by kernel_rfl) (by kernel_rfl) (fun _ _ _ h => h) (Or.inl ⟨by rfl, ?hy8⟩) (by assumption) ?rest8
      case hy8 => (intro w hSw; obtain ⟨s0, s1, s2, s3, s4, s5, s6, s7, s8⟩ := hSw; go_simp; try with_reducible rfl)
      try simp only [Act.put, List.setIfInBounds_toArray, List.set_cons_zero, List.set_cons_succ]
      refine wpAnyH_ready (rs := [8]) (by kernel_rfl) (by simp) ?_
      refine AllReadyH.cons (o := { dst := some 25, op := Go.Op.call { callee := Go.Callee.value (Go.Operand.func 17), args := #[Go.Operand.tmp 20, Go.Operand.tmp 24], argTypes := #[25, 25] }, type := 4, pos := "ref.go:189", after := #[{ on := 3, ground := Go.Ground.data }, { on := 7, ground := Go.Ground.data }], guard := none }) rfl (fun K hK => ?_) AllReadyH.nil
      go_simp
      go_at_call 17
      refine HC.out.mono ?_
      rintro z V1 ⟨rfl, hb⟩
      have g1 := below_step (below_drew wr.heap.size wr) hb
      refine hK.out _ _ ⟨g1, cell_kept c0 hb, cell_kept c1 hb, cell_kept c2 hb, cell_kept c3 hb, cell_kept d0 hb, cell_kept d1 hb, cell_kept d2 hb, cell_kept d3 hb⟩ (fun hHeld => ?_)
      clear hK K hb
      try simp only [Act.put, List.setIfInBounds_toArray, List.set_cons_zero, List.set_cons_succ]
      refine wpAnyH_take (i := 9) (oi := { dst := some 26, op := Go.Op.unOp Go.UnOp.not 4 (Go.Operand.tmp 25), type := 4, pos := "ref.go:189", after := #[{ on := 8, ground := Go.Ground.data }], guard := none }) (v := ?v9) rfl (by kernel_rfl) (by kernel_rfl) (by kernel_rfl) (fun _ _ _ h => h) (Or.inl ⟨by rfl, ?hy9⟩) (by assumption) ?rest9
      case hy9 => (intro w hSw; obtain ⟨s0, s1, s2, s3, s4, s5, s6, s7, s8⟩ := hSw; go_simp; try with_reducible rfl)
      try simp only [Act.put, List.setIfInBounds_toArray, List.set_cons_zero, List.set_cons_succ]
      refine wpAnyH_done (by kernel_rfl) ?_ _
      have HZ := Lib.hid (below_step HB.out g1)
      clear hHeld g1 c0 c1 c2 c3 d0 d1 d2 d3 z0 z1 hlt
      go_wp2_with fail
      go_roundw
      case rel => exact ⟨k + 1, by have := HLT.out; omega, by go_num, HZ⟩
      case measure => simp [intOf] <;> (have := HLT.out; omega)
    · have z1 : ¬ (k : Int) < (xs.length : Int) := by omega
      clear hlt
      go_wp2_with fail
      go_ret
      exact ⟨rfl, HB.out⟩
end Go.Proofs.YtbjpkffhpdcapaaDoor.Upcast
