import Derived.Test.YtiibeemjkdipnaaGreatDoorKA
/-
  The document's own May and Encode of a batch.
-/
namespace Go.Proofs.YtiibeemjkdipnaaGreatDoor.Batch
open Go Go.RowKit
open Go.Proofs.YtiibeemjkdipnaaGreatDoor.Schema
open Go.Proofs.YtiibeemjkdipnaaGreatDoor.Wire (U shortB fixB refShort_any conv1_now conv1_drew conv1_after str1_size wrapS)
open Go.Proofs.YtiibeemjkdipnaaGreatDoor.Codec (bare Bare_any kind_byte S_snoc)
open Go.Proofs.YtiibeemjkdipnaaGreatDoor.Upcast (ev0)

theorem mayL_no {xs : List Lx} {i : Nat} (h : i < xs.length) (hs : (decide (xs[i].e.v = vOf (xs.map (·.e))) && may xs[i].e) = false) : mayL (xs.map (·.e)) = false := by
  unfold mayL
  rw [Bool.and_eq_false_iff]
  right
  rw [List.all_eq_false]
  exact ⟨xs[i].e, List.mem_map_of_mem (List.getElem_mem h), by rw [hs]; decide⟩
theorem mayL_yes {xs : List Lx} (h0 : 0 < xs.length) (h40 : xs.length ≤ 40) (h : ∀ (i : Nat) (hi : i < xs.length), (decide (xs[i].e.v = vOf (xs.map (·.e))) && may xs[i].e) = true) : mayL (xs.map (·.e)) = true := by
  unfold mayL
  rw [List.length_map, decide_eq_true (show 1 ≤ xs.length by omega), decide_eq_true h40, Bool.true_and, Bool.true_and, List.all_eq_true]
  intro e he
  obtain ⟨x, hx, rfl⟩ := List.mem_map.1 he
  obtain ⟨i, hi, rfl⟩ := List.getElem_of_mem hx
  exact h i hi
theorem mayL_few {l : List Ev} (h : ¬ (1 ≤ l.length ∧ l.length ≤ 40)) : mayL l = false := by
  cases hm : mayL l with
  | false => rfl
  | true => have := mayL_out hm; exact absurd ⟨this.1, this.2.1⟩ h

set_option maxRecDepth 100000 in
set_option maxHeartbeats 2000000 in
theorem rMayL_any (D : Option Addr) (cap : Nat) (xs : List Lx) (w : World) (hX : Row w D xs) :
    Calls Tryz.prog 13 #[.slice D xs.length cap] w fun z w' => z = .returned (.bool (mayL (xs.map (·.e)))) ∧ Below w.heap.size w w' := by
  have HX := Lib.hid hX
  clear hX
  go_enter Tryz.func13, Tryz.ntmps13
  by_cases h1 : xs.length < 1
  · have HM := Lib.hid (mayL_few (l := xs.map (·.e)) (by rw [List.length_map]; omega))
    have z1 : (xs.length : Int) < 1 := by omega
    have z2 : decide ((xs.length : Int) < 1) = true := decide_eq_true z1
    have z3 : xs.length = 0 := by omega
    clear h1
    go_wp2_with fail
    all_goals (go_ret; exact ⟨by rw [HM.out]; rfl, Below.refl _ _⟩)
  have z1 : ¬ (xs.length : Int) < 1 := by omega
  have z2 : decide ((xs.length : Int) < 1) = false := decide_eq_false z1
  by_cases h2 : 40 < xs.length
  · have HM := Lib.hid (mayL_few (l := xs.map (·.e)) (by rw [List.length_map]; omega))
    have z3 : (40 : Int) < (xs.length : Int) := by omega
    have z4 : decide ((40 : Int) < (xs.length : Int)) = true := decide_eq_true z3
    clear h1 h2
    go_wp2_with fail
    all_goals (go_ret; exact ⟨by rw [HM.out]; rfl, Below.refl _ _⟩)
  have z3 : ¬ (40 : Int) < (xs.length : Int) := by omega
  have z4 : decide ((40 : Int) < (xs.length : Int)) = false := decide_eq_false z3
  have z5 : ¬ xs.length = 0 := by omega
  have z6 : (xs.length == 0) = false := beq_eq_false_iff_ne.2 z5
  have HL := Lib.hid (show 0 < xs.length ∧ xs.length ≤ 40 by omega)
  clear h1 h2
  go_wp2_with fail
  clear z1 z2 z3 z4 z5 z6
  have HI : Hid ((∀ (j : Nat) (hj : j < xs.length), j < 0 → (decide (xs[j].e.v = vOf (xs.map (·.e))) && may xs[j].e) = true) ∧ Below w.heap.size w w) := ⟨fun j _ h => absurd h (Nat.not_lt_zero _), Below.refl _ _⟩
  go_loopw [3] (fun t wr => ∃ i : Nat, t = .int .i64 i ∧ i ≤ xs.length ∧ Hid ((∀ (j : Nat) (hj : j < xs.length), j < i → (decide (xs[j].e.v = vOf (xs.map (·.e))) && may xs[j].e) = true) ∧ Below w.heap.size w wr)) (fun t _ => xs.length - (intOf t).toNat)
  case atStart => exact ⟨0, rfl, Nat.zero_le _, HI⟩
  case round =>
    obtain ⟨i, rfl, hi, HJ⟩ := hrel
    clear HI
    by_cases hlt : i < xs.length
    · have z0 : (0 : Int) ≤ (i : Int) := by omega
      have z1 : (i : Int) < (xs.length : Int) := by omega
      have z2 : (0 : Int) < (xs.length : Int) := by omega
      have HNX := Lib.hid (fun (h : (decide (xs[i].e.v = vOf (xs.map (·.e))) && may xs[i].e) = true) (j : Nat) (hj : j < xs.length) (hji : j < i + 1) => (show (decide (xs[j].e.v = vOf (xs.map (·.e))) && may xs[j].e) = true from by
        rcases Nat.lt_or_ge j i with h3 | h3
        · exact HJ.out.1 j hj h3
        · obtain rfl : j = i := by omega
          exact h))
      have HNO := Lib.hid (mayL_no hlt)
      obtain ⟨b, o, rfl, hbl, c0, c1, c2, c3, hat⟩ := (HX.out.below HJ.out.2).at i hlt
      obtain ⟨b', o', he, hbl', d0, d1, d2, d3, -⟩ := (HX.out.below HJ.out.2).at 0 HL.out.1
      injection he with he; injection he with e1 e2; subst e1; subst e2
      rw [Nat.zero_mul, Nat.add_zero] at d0
      have HV0 := Lib.hid (vOf_get xs HL.out.1)
      rw [← HV0.out] at d0
      generalize vOf (xs.map (·.e)) = v0 at HNX HNO d0 HV0 ⊢
      have HAT := Lib.hid hat
      generalize xs[i] = x at HAT HNX HNO c0 c1 c2 c3
      have HC := Lib.hid (fun V (hV : Below wr.heap.size wr V) => rMay_any x.A x.ca x.C x.cc x.e V (HAT.out.below hV))
      simp only [evV] at HC
      clear d1 d2 d3 hbl hbl' hat
      have hg0 := fun V (hV : Below wr.heap.size wr V) => Schema.cell_kept c0 hV
      have hg1 := fun V (hV : Below wr.heap.size wr V) => Schema.cell_kept d0 hV
      have HG0 := Lib.hid hg0
      have HG1 := Lib.hid hg1
      clear hg0 hg1
      have HLI := Lib.hid hlt
      go_upto_region 6 with (fail)
      have HG := Lib.hid (fun V (hV : Below wr.heap.size wr V) => (show (fun w' => w'.cell? ⟨b, o + i * 4, none⟩ = some (.int .u8 x.e.v) ∧ w'.cell? ⟨b, o + i * 4 + 1, none⟩ = some (.int .u8 x.e.k) ∧ w'.cell? ⟨b, o + i * 4 + 2, none⟩ = some (.slice x.A x.e.ns.length x.ca) ∧ w'.cell? ⟨b, o + i * 4 + 3, none⟩ = some (.slice x.C x.e.ts.length x.cc) ∧ w'.cell? ⟨b, o, none⟩ = some (.int .u8 v0)) V from ⟨Schema.cell_kept c0 hV, Schema.cell_kept c1 hV, Schema.cell_kept c2 hV, Schema.cell_kept c3 hV, Schema.cell_kept d0 hV⟩))
      have z2n : 0 < xs.length := HL.out.1
      clear c0 c1 c2 c3 d0 HG0 HG1
      cases hm : may x.e with
      | false =>
        have HNN := Lib.hid (HNO.out (by rw [hm]; exact Bool.and_false _))
        rw [hm] at HC
        clear hm HNX
        refine wp_region_held_drew (S := (fun w' => w'.cell? ⟨b, o + i * 4, none⟩ = some (.int .u8 x.e.v) ∧ w'.cell? ⟨b, o + i * 4 + 1, none⟩ = some (.int .u8 x.e.k) ∧ w'.cell? ⟨b, o + i * 4 + 2, none⟩ = some (.slice x.A x.e.ns.length x.ca) ∧ w'.cell? ⟨b, o + i * 4 + 3, none⟩ = some (.slice x.C x.e.ts.length x.cc) ∧ w'.cell? ⟨b, o, none⟩ = some (.int .u8 v0))) (by kernel_rfl) (HG.out _ (below_drew _ _)) (fun hHeld => ?_)
        refine wpAnyH_take (i := 0) (oi := { dst := some 18, op := Go.Op.move (Go.Operand.tmp 0), type := 22, pos := "ref.go:18", after := #[], guard := none }) (v := ?v1) rfl (by kernel_rfl) (by kernel_rfl) (by kernel_rfl) (fun _ _ _ h => h) (Or.inl ⟨by rfl, ?hy1⟩) (by assumption) ?rest1
        case hy1 => (intro w hSw; obtain ⟨s0, s1, s2, s3, s4⟩ := hSw; go_simp; try with_reducible rfl)
        try simp only [Act.put, List.setIfInBounds_toArray, List.set_cons_zero, List.set_cons_succ]
        refine wpAnyH_take (i := 1) (oi := { dst := some 19, op := Go.Op.move (Go.Operand.tmp 3), type := 3, pos := "ref.go:18", after := #[], guard := none }) (v := ?v2) rfl (by kernel_rfl) (by kernel_rfl) (by kernel_rfl) (fun _ _ _ h => h) (Or.inl ⟨by rfl, ?hy2⟩) (by assumption) ?rest2
        case hy2 => (intro w hSw; obtain ⟨s0, s1, s2, s3, s4⟩ := hSw; go_simp; try with_reducible rfl)
        try simp only [Act.put, List.setIfInBounds_toArray, List.set_cons_zero, List.set_cons_succ]
        refine wpAnyH_take (i := 2) (oi := { dst := some 20, op := Go.Op.indexAddr 22 (Go.Operand.tmp 18) (Go.Operand.tmp 19), type := 0, pos := "ref.go:18", after := #[{ on := 0, ground := Go.Ground.data }, { on := 1, ground := Go.Ground.data }], guard := none }) (v := ?v3) rfl (by kernel_rfl) (by kernel_rfl) (by kernel_rfl) (fun _ _ _ h => h) (Or.inl ⟨by rfl, ?hy3⟩) (by assumption) ?rest3
        case hy3 => (intro w hSw; obtain ⟨s0, s1, s2, s3, s4⟩ := hSw; go_simp; try with_reducible rfl)
        try simp only [Act.put, List.setIfInBounds_toArray, List.set_cons_zero, List.set_cons_succ]
        refine wpAnyH_take (i := 3) (oi := { dst := some 21, op := Go.Op.load 39 (Go.Operand.tmp 20), type := 39, pos := "ref.go:18", after := #[{ on := 2, ground := Go.Ground.data }], guard := none }) (v := ?v4) rfl (by kernel_rfl) (by kernel_rfl) (by kernel_rfl) (fun _ _ _ h => h) (Or.inl ⟨by rfl, ?hy4⟩) (by assumption) ?rest4
        case hy4 => (intro w hSw; obtain ⟨s0, s1, s2, s3, s4⟩ := hSw; go_simp; try with_reducible rfl)
        try simp only [Act.put, List.setIfInBounds_toArray, List.set_cons_zero, List.set_cons_succ]
        refine wpAnyH_ready (rs := [4]) (by kernel_rfl) (by simp) ?_
        refine AllReadyH.cons (o := { dst := some 22, op := Go.Op.call { callee := Go.Callee.value (Go.Operand.func 33), args := #[Go.Operand.tmp 21], argTypes := #[39] }, type := 4, pos := "ref.go:18", after := #[{ on := 3, ground := Go.Ground.data }], guard := none }) rfl (fun K hK => ?_) AllReadyH.nil
        go_simp
        go_at_call 33
        refine (HC.out _ (below_drew _ _)).mono ?_
        rintro z V1 ⟨rfl, hbV⟩
        have HBV := Lib.hid (below_step (below_drew wr.heap.size wr) hbV)
        clear hbV
        refine hK.out _ _ (HG.out _ HBV.out) (fun hHeld => ?_)
        clear hK K
        try simp only [Act.put, List.setIfInBounds_toArray, List.set_cons_zero, List.set_cons_succ]
        refine wpAnyH_take (i := 5) (oi := { dst := some 23, op := Go.Op.unOp Go.UnOp.not 4 (Go.Operand.tmp 22), type := 4, pos := "ref.go:18", after := #[{ on := 4, ground := Go.Ground.data }], guard := none }) (v := ?v5) rfl (by kernel_rfl) (by kernel_rfl) (by kernel_rfl) (fun _ _ _ h => h) (Or.inl ⟨by rfl, ?hy5⟩) (by assumption) ?rest5
        case hy5 => (intro w hSw; obtain ⟨s0, s1, s2, s3, s4⟩ := hSw; go_simp; try with_reducible rfl)
        try simp only [Act.put, List.setIfInBounds_toArray, List.set_cons_zero, List.set_cons_succ]
        refine wpAnyH_take (i := 6) (oi := { dst := some 24, op := Go.Op.move (Go.Operand.tmp 23), type := 4, pos := "ref.go:18", after := #[{ on := 5, ground := Go.Ground.data }, { on := 4, ground := Go.Ground.chain }], guard := none }) (v := ?v6) rfl (by kernel_rfl) (by kernel_rfl) (by kernel_rfl) (fun _ _ _ h => h) (Or.inl ⟨by rfl, ?hy6⟩) (by assumption) ?rest6
        case hy6 => (intro w hSw; obtain ⟨s0, s1, s2, s3, s4⟩ := hSw; go_simp; try with_reducible rfl)
        try simp only [Act.put, List.setIfInBounds_toArray, List.set_cons_zero, List.set_cons_succ]
        refine wpAnyH_take (i := 7) (oi := { dst := some 25, op := Go.Op.move (Go.Operand.tmp 0), type := 22, pos := "ref.go:18", after := #[{ on := 6, ground := Go.Ground.guard }], guard := some (6, false) }) (v := undef) rfl (by kernel_rfl) (by kernel_rfl) (by kernel_rfl) (fun _ _ _ h => h) (Or.inr ⟨by rfl, rfl⟩) (by assumption) ?_
        try simp only [Act.put, List.setIfInBounds_toArray, List.set_cons_zero, List.set_cons_succ]
        refine wpAnyH_take (i := 8) (oi := { dst := some 26, op := Go.Op.move (Go.Operand.tmp 3), type := 3, pos := "ref.go:18", after := #[{ on := 6, ground := Go.Ground.guard }], guard := some (6, false) }) (v := undef) rfl (by kernel_rfl) (by kernel_rfl) (by kernel_rfl) (fun _ _ _ h => h) (Or.inr ⟨by rfl, rfl⟩) (by assumption) ?_
        try simp only [Act.put, List.setIfInBounds_toArray, List.set_cons_zero, List.set_cons_succ]
        refine wpAnyH_take (i := 9) (oi := { dst := some 27, op := Go.Op.indexAddr 22 (Go.Operand.tmp 25) (Go.Operand.tmp 26), type := 0, pos := "ref.go:18", after := #[{ on := 7, ground := Go.Ground.data }, { on := 8, ground := Go.Ground.data }, { on := 6, ground := Go.Ground.guard }], guard := some (6, false) }) (v := undef) rfl (by kernel_rfl) (by kernel_rfl) (by kernel_rfl) (fun _ _ _ h => h) (Or.inr ⟨by rfl, rfl⟩) (by assumption) ?_
        try simp only [Act.put, List.setIfInBounds_toArray, List.set_cons_zero, List.set_cons_succ]
        refine wpAnyH_take (i := 10) (oi := { dst := some 28, op := Go.Op.fieldAddr 39 (Go.Operand.tmp 27) 0, type := 0, pos := "ref.go:18", after := #[{ on := 9, ground := Go.Ground.data }, { on := 6, ground := Go.Ground.guard }], guard := some (6, false) }) (v := undef) rfl (by kernel_rfl) (by kernel_rfl) (by kernel_rfl) (fun _ _ _ h => h) (Or.inr ⟨by rfl, rfl⟩) (by assumption) ?_
        try simp only [Act.put, List.setIfInBounds_toArray, List.set_cons_zero, List.set_cons_succ]
        refine wpAnyH_take (i := 11) (oi := { dst := some 29, op := Go.Op.load 5 (Go.Operand.tmp 28), type := 5, pos := "ref.go:18", after := #[{ on := 10, ground := Go.Ground.data }, { on := 6, ground := Go.Ground.guard }], guard := some (6, false) }) (v := undef) rfl (by kernel_rfl) (by kernel_rfl) (by kernel_rfl) (fun _ _ _ h => h) (Or.inr ⟨by rfl, rfl⟩) (by assumption) ?_
        try simp only [Act.put, List.setIfInBounds_toArray, List.set_cons_zero, List.set_cons_succ]
        refine wpAnyH_take (i := 12) (oi := { dst := some 30, op := Go.Op.move (Go.Operand.tmp 0), type := 22, pos := "ref.go:18", after := #[{ on := 6, ground := Go.Ground.guard }], guard := some (6, false) }) (v := undef) rfl (by kernel_rfl) (by kernel_rfl) (by kernel_rfl) (fun _ _ _ h => h) (Or.inr ⟨by rfl, rfl⟩) (by assumption) ?_
        try simp only [Act.put, List.setIfInBounds_toArray, List.set_cons_zero, List.set_cons_succ]
        refine wpAnyH_take (i := 13) (oi := { dst := some 31, op := Go.Op.indexAddr 22 (Go.Operand.tmp 30) (Go.Operand.const (Go.Value.int Go.IntKind.i64 0)), type := 0, pos := "ref.go:18", after := #[{ on := 12, ground := Go.Ground.data }, { on := 6, ground := Go.Ground.guard }], guard := some (6, false) }) (v := undef) rfl (by kernel_rfl) (by kernel_rfl) (by kernel_rfl) (fun _ _ _ h => h) (Or.inr ⟨by rfl, rfl⟩) (by assumption) ?_
        try simp only [Act.put, List.setIfInBounds_toArray, List.set_cons_zero, List.set_cons_succ]
        refine wpAnyH_take (i := 14) (oi := { dst := some 32, op := Go.Op.fieldAddr 39 (Go.Operand.tmp 31) 0, type := 0, pos := "ref.go:18", after := #[{ on := 13, ground := Go.Ground.data }, { on := 6, ground := Go.Ground.guard }], guard := some (6, false) }) (v := undef) rfl (by kernel_rfl) (by kernel_rfl) (by kernel_rfl) (fun _ _ _ h => h) (Or.inr ⟨by rfl, rfl⟩) (by assumption) ?_
        try simp only [Act.put, List.setIfInBounds_toArray, List.set_cons_zero, List.set_cons_succ]
        refine wpAnyH_take (i := 15) (oi := { dst := some 33, op := Go.Op.load 5 (Go.Operand.tmp 32), type := 5, pos := "ref.go:18", after := #[{ on := 14, ground := Go.Ground.data }, { on := 6, ground := Go.Ground.guard }], guard := some (6, false) }) (v := undef) rfl (by kernel_rfl) (by kernel_rfl) (by kernel_rfl) (fun _ _ _ h => h) (Or.inr ⟨by rfl, rfl⟩) (by assumption) ?_
        try simp only [Act.put, List.setIfInBounds_toArray, List.set_cons_zero, List.set_cons_succ]
        refine wpAnyH_take (i := 16) (oi := { dst := some 34, op := Go.Op.binOp Go.BinOp.neq 5 (Go.Operand.tmp 29) (Go.Operand.tmp 33) 5, type := 4, pos := "ref.go:18", after := #[{ on := 11, ground := Go.Ground.data }, { on := 15, ground := Go.Ground.data }, { on := 6, ground := Go.Ground.guard }], guard := some (6, false) }) (v := undef) rfl (by kernel_rfl) (by kernel_rfl) (by kernel_rfl) (fun _ _ _ h => h) (Or.inr ⟨by rfl, rfl⟩) (by assumption) ?_
        try simp only [Act.put, List.setIfInBounds_toArray, List.set_cons_zero, List.set_cons_succ]
        refine wpAnyH_take (i := 17) (oi := { dst := some 35, op := Go.Op.pick (Go.Operand.tmp 24) (Go.Operand.const (Go.Value.bool true)) (Go.Operand.tmp 34), type := 4, pos := "ref.go:18", after := #[{ on := 6, ground := Go.Ground.data }, { on := 16, ground := Go.Ground.data }], guard := none }) (v := ?v17) rfl (by kernel_rfl) (by kernel_rfl) (by kernel_rfl) (fun _ _ _ h => h) (Or.inl ⟨by rfl, ?hy17⟩) (by assumption) ?rest17
        case hy17 => (intro w hSw; obtain ⟨s0, s1, s2, s3, s4⟩ := hSw; go_simp; try with_reducible rfl)
        try simp only [Act.put, List.setIfInBounds_toArray, List.set_cons_zero, List.set_cons_succ]
        refine wpAnyH_done (by kernel_rfl) ?_ _
        go_wp2_with fail
        go_ret
        exact ⟨by rw [HNN.out]; rfl, below_step HJ.out.2 HBV.out⟩
      | true =>
        rw [hm] at HC HNX HNO
        clear hm
        by_cases hv : x.e.v = v0
        · have HNN := Lib.hid (HNX.out (by rw [decide_eq_true hv]; rfl))
          subst hv
          clear HNX HNO
          refine wp_region_held_drew (S := (fun w' => w'.cell? ⟨b, o + i * 4, none⟩ = some (.int .u8 x.e.v) ∧ w'.cell? ⟨b, o + i * 4 + 1, none⟩ = some (.int .u8 x.e.k) ∧ w'.cell? ⟨b, o + i * 4 + 2, none⟩ = some (.slice x.A x.e.ns.length x.ca) ∧ w'.cell? ⟨b, o + i * 4 + 3, none⟩ = some (.slice x.C x.e.ts.length x.cc) ∧ w'.cell? ⟨b, o, none⟩ = some (.int .u8 x.e.v))) (by kernel_rfl) (HG.out _ (below_drew _ _)) (fun hHeld => ?_)
          refine wpAnyH_take (i := 0) (oi := { dst := some 18, op := Go.Op.move (Go.Operand.tmp 0), type := 22, pos := "ref.go:18", after := #[], guard := none }) (v := ?v18) rfl (by kernel_rfl) (by kernel_rfl) (by kernel_rfl) (fun _ _ _ h => h) (Or.inl ⟨by rfl, ?hy18⟩) (by assumption) ?rest18
          case hy18 => (intro w hSw; obtain ⟨s0, s1, s2, s3, s4⟩ := hSw; go_simp; try with_reducible rfl)
          try simp only [Act.put, List.setIfInBounds_toArray, List.set_cons_zero, List.set_cons_succ]
          refine wpAnyH_take (i := 1) (oi := { dst := some 19, op := Go.Op.move (Go.Operand.tmp 3), type := 3, pos := "ref.go:18", after := #[], guard := none }) (v := ?v19) rfl (by kernel_rfl) (by kernel_rfl) (by kernel_rfl) (fun _ _ _ h => h) (Or.inl ⟨by rfl, ?hy19⟩) (by assumption) ?rest19
          case hy19 => (intro w hSw; obtain ⟨s0, s1, s2, s3, s4⟩ := hSw; go_simp; try with_reducible rfl)
          try simp only [Act.put, List.setIfInBounds_toArray, List.set_cons_zero, List.set_cons_succ]
          refine wpAnyH_take (i := 2) (oi := { dst := some 20, op := Go.Op.indexAddr 22 (Go.Operand.tmp 18) (Go.Operand.tmp 19), type := 0, pos := "ref.go:18", after := #[{ on := 0, ground := Go.Ground.data }, { on := 1, ground := Go.Ground.data }], guard := none }) (v := ?v20) rfl (by kernel_rfl) (by kernel_rfl) (by kernel_rfl) (fun _ _ _ h => h) (Or.inl ⟨by rfl, ?hy20⟩) (by assumption) ?rest20
          case hy20 => (intro w hSw; obtain ⟨s0, s1, s2, s3, s4⟩ := hSw; go_simp; try with_reducible rfl)
          try simp only [Act.put, List.setIfInBounds_toArray, List.set_cons_zero, List.set_cons_succ]
          refine wpAnyH_take (i := 3) (oi := { dst := some 21, op := Go.Op.load 39 (Go.Operand.tmp 20), type := 39, pos := "ref.go:18", after := #[{ on := 2, ground := Go.Ground.data }], guard := none }) (v := ?v21) rfl (by kernel_rfl) (by kernel_rfl) (by kernel_rfl) (fun _ _ _ h => h) (Or.inl ⟨by rfl, ?hy21⟩) (by assumption) ?rest21
          case hy21 => (intro w hSw; obtain ⟨s0, s1, s2, s3, s4⟩ := hSw; go_simp; try with_reducible rfl)
          try simp only [Act.put, List.setIfInBounds_toArray, List.set_cons_zero, List.set_cons_succ]
          refine wpAnyH_ready (rs := [4]) (by kernel_rfl) (by simp) ?_
          refine AllReadyH.cons (o := { dst := some 22, op := Go.Op.call { callee := Go.Callee.value (Go.Operand.func 33), args := #[Go.Operand.tmp 21], argTypes := #[39] }, type := 4, pos := "ref.go:18", after := #[{ on := 3, ground := Go.Ground.data }], guard := none }) rfl (fun K hK => ?_) AllReadyH.nil
          go_simp
          go_at_call 33
          refine (HC.out _ (below_drew _ _)).mono ?_
          rintro z V1 ⟨rfl, hbV⟩
          have HBV := Lib.hid (below_step (below_drew wr.heap.size wr) hbV)
          clear hbV
          refine hK.out _ _ (HG.out _ HBV.out) (fun hHeld => ?_)
          clear hK K
          try simp only [Act.put, List.setIfInBounds_toArray, List.set_cons_zero, List.set_cons_succ]
          refine wpAnyH_take (i := 5) (oi := { dst := some 23, op := Go.Op.unOp Go.UnOp.not 4 (Go.Operand.tmp 22), type := 4, pos := "ref.go:18", after := #[{ on := 4, ground := Go.Ground.data }], guard := none }) (v := ?v22) rfl (by kernel_rfl) (by kernel_rfl) (by kernel_rfl) (fun _ _ _ h => h) (Or.inl ⟨by rfl, ?hy22⟩) (by assumption) ?rest22
          case hy22 => (intro w hSw; obtain ⟨s0, s1, s2, s3, s4⟩ := hSw; go_simp; try with_reducible rfl)
          try simp only [Act.put, List.setIfInBounds_toArray, List.set_cons_zero, List.set_cons_succ]
          refine wpAnyH_take (i := 6) (oi := { dst := some 24, op := Go.Op.move (Go.Operand.tmp 23), type := 4, pos := "ref.go:18", after := #[{ on := 5, ground := Go.Ground.data }, { on := 4, ground := Go.Ground.chain }], guard := none }) (v := ?v23) rfl (by kernel_rfl) (by kernel_rfl) (by kernel_rfl) (fun _ _ _ h => h) (Or.inl ⟨by rfl, ?hy23⟩) (by assumption) ?rest23
          case hy23 => (intro w hSw; obtain ⟨s0, s1, s2, s3, s4⟩ := hSw; go_simp; try with_reducible rfl)
          try simp only [Act.put, List.setIfInBounds_toArray, List.set_cons_zero, List.set_cons_succ]
          refine wpAnyH_take (i := 7) (oi := { dst := some 25, op := Go.Op.move (Go.Operand.tmp 0), type := 22, pos := "ref.go:18", after := #[{ on := 6, ground := Go.Ground.guard }], guard := some (6, false) }) (v := ?v24) rfl (by kernel_rfl) (by kernel_rfl) (by kernel_rfl) (fun _ _ _ h => h) (Or.inl ⟨by rfl, ?hy24⟩) (by assumption) ?rest24
          case hy24 => (intro w hSw; obtain ⟨s0, s1, s2, s3, s4⟩ := hSw; go_simp; try with_reducible rfl)
          try simp only [Act.put, List.setIfInBounds_toArray, List.set_cons_zero, List.set_cons_succ]
          refine wpAnyH_take (i := 8) (oi := { dst := some 26, op := Go.Op.move (Go.Operand.tmp 3), type := 3, pos := "ref.go:18", after := #[{ on := 6, ground := Go.Ground.guard }], guard := some (6, false) }) (v := ?v25) rfl (by kernel_rfl) (by kernel_rfl) (by kernel_rfl) (fun _ _ _ h => h) (Or.inl ⟨by rfl, ?hy25⟩) (by assumption) ?rest25
          case hy25 => (intro w hSw; obtain ⟨s0, s1, s2, s3, s4⟩ := hSw; go_simp; try with_reducible rfl)
          try simp only [Act.put, List.setIfInBounds_toArray, List.set_cons_zero, List.set_cons_succ]
          refine wpAnyH_take (i := 9) (oi := { dst := some 27, op := Go.Op.indexAddr 22 (Go.Operand.tmp 25) (Go.Operand.tmp 26), type := 0, pos := "ref.go:18", after := #[{ on := 7, ground := Go.Ground.data }, { on := 8, ground := Go.Ground.data }, { on := 6, ground := Go.Ground.guard }], guard := some (6, false) }) (v := ?v26) rfl (by kernel_rfl) (by kernel_rfl) (by kernel_rfl) (fun _ _ _ h => h) (Or.inl ⟨by rfl, ?hy26⟩) (by assumption) ?rest26
          case hy26 => (intro w hSw; obtain ⟨s0, s1, s2, s3, s4⟩ := hSw; go_simp; try with_reducible rfl)
          try simp only [Act.put, List.setIfInBounds_toArray, List.set_cons_zero, List.set_cons_succ]
          refine wpAnyH_take (i := 10) (oi := { dst := some 28, op := Go.Op.fieldAddr 39 (Go.Operand.tmp 27) 0, type := 0, pos := "ref.go:18", after := #[{ on := 9, ground := Go.Ground.data }, { on := 6, ground := Go.Ground.guard }], guard := some (6, false) }) (v := ?v27) rfl (by kernel_rfl) (by kernel_rfl) (by kernel_rfl) (fun _ _ _ h => h) (Or.inl ⟨by rfl, ?hy27⟩) (by assumption) ?rest27
          case hy27 => (intro w hSw; obtain ⟨s0, s1, s2, s3, s4⟩ := hSw; go_simp; try with_reducible rfl)
          try simp only [Act.put, List.setIfInBounds_toArray, List.set_cons_zero, List.set_cons_succ]
          refine wpAnyH_take (i := 11) (oi := { dst := some 29, op := Go.Op.load 5 (Go.Operand.tmp 28), type := 5, pos := "ref.go:18", after := #[{ on := 10, ground := Go.Ground.data }, { on := 6, ground := Go.Ground.guard }], guard := some (6, false) }) (v := ?v28) rfl (by kernel_rfl) (by kernel_rfl) (by kernel_rfl) (fun _ _ _ h => h) (Or.inl ⟨by rfl, ?hy28⟩) (by assumption) ?rest28
          case hy28 => (intro w hSw; obtain ⟨s0, s1, s2, s3, s4⟩ := hSw; go_simp; try with_reducible rfl)
          try simp only [Act.put, List.setIfInBounds_toArray, List.set_cons_zero, List.set_cons_succ]
          refine wpAnyH_take (i := 12) (oi := { dst := some 30, op := Go.Op.move (Go.Operand.tmp 0), type := 22, pos := "ref.go:18", after := #[{ on := 6, ground := Go.Ground.guard }], guard := some (6, false) }) (v := ?v29) rfl (by kernel_rfl) (by kernel_rfl) (by kernel_rfl) (fun _ _ _ h => h) (Or.inl ⟨by rfl, ?hy29⟩) (by assumption) ?rest29
          case hy29 => (intro w hSw; obtain ⟨s0, s1, s2, s3, s4⟩ := hSw; go_simp; try with_reducible rfl)
          try simp only [Act.put, List.setIfInBounds_toArray, List.set_cons_zero, List.set_cons_succ]
          refine wpAnyH_take (i := 13) (oi := { dst := some 31, op := Go.Op.indexAddr 22 (Go.Operand.tmp 30) (Go.Operand.const (Go.Value.int Go.IntKind.i64 0)), type := 0, pos := "ref.go:18", after := #[{ on := 12, ground := Go.Ground.data }, { on := 6, ground := Go.Ground.guard }], guard := some (6, false) }) (v := ?v30) rfl (by kernel_rfl) (by kernel_rfl) (by kernel_rfl) (fun _ _ _ h => h) (Or.inl ⟨by rfl, ?hy30⟩) (by assumption) ?rest30
          case hy30 => (intro w hSw; obtain ⟨s0, s1, s2, s3, s4⟩ := hSw; go_simp; try with_reducible rfl)
          try simp only [Act.put, List.setIfInBounds_toArray, List.set_cons_zero, List.set_cons_succ]
          refine wpAnyH_take (i := 14) (oi := { dst := some 32, op := Go.Op.fieldAddr 39 (Go.Operand.tmp 31) 0, type := 0, pos := "ref.go:18", after := #[{ on := 13, ground := Go.Ground.data }, { on := 6, ground := Go.Ground.guard }], guard := some (6, false) }) (v := ?v31) rfl (by kernel_rfl) (by kernel_rfl) (by kernel_rfl) (fun _ _ _ h => h) (Or.inl ⟨by rfl, ?hy31⟩) (by assumption) ?rest31
          case hy31 => (intro w hSw; obtain ⟨s0, s1, s2, s3, s4⟩ := hSw; go_simp; try with_reducible rfl)
          try simp only [Act.put, List.setIfInBounds_toArray, List.set_cons_zero, List.set_cons_succ]
          refine wpAnyH_take (i := 15) (oi := { dst := some 33, op := Go.Op.load 5 (Go.Operand.tmp 32), type := 5, pos := "ref.go:18", after := #[{ on := 14, ground := Go.Ground.data }, { on := 6, ground := Go.Ground.guard }], guard := some (6, false) }) (v := ?v32) rfl (by kernel_rfl) (by kernel_rfl) (by kernel_rfl) (fun _ _ _ h => h) (Or.inl ⟨by rfl, ?hy32⟩) (by assumption) ?rest32
          case hy32 => (intro w hSw; obtain ⟨s0, s1, s2, s3, s4⟩ := hSw; go_simp; try with_reducible rfl)
          try simp only [Act.put, List.setIfInBounds_toArray, List.set_cons_zero, List.set_cons_succ]
          refine wpAnyH_take (i := 16) (oi := { dst := some 34, op := Go.Op.binOp Go.BinOp.neq 5 (Go.Operand.tmp 29) (Go.Operand.tmp 33) 5, type := 4, pos := "ref.go:18", after := #[{ on := 11, ground := Go.Ground.data }, { on := 15, ground := Go.Ground.data }, { on := 6, ground := Go.Ground.guard }], guard := some (6, false) }) (v := ?v33) rfl (by kernel_rfl) (by kernel_rfl) (by kernel_rfl) (fun _ _ _ h => h) (Or.inl ⟨by rfl, ?hy33⟩) (by assumption) ?rest33
          case hy33 => (intro w hSw; obtain ⟨s0, s1, s2, s3, s4⟩ := hSw; go_simp; try with_reducible rfl)
          try simp only [Act.put, List.setIfInBounds_toArray, List.set_cons_zero, List.set_cons_succ]
          refine wpAnyH_take (i := 17) (oi := { dst := some 35, op := Go.Op.pick (Go.Operand.tmp 24) (Go.Operand.const (Go.Value.bool true)) (Go.Operand.tmp 34), type := 4, pos := "ref.go:18", after := #[{ on := 6, ground := Go.Ground.data }, { on := 16, ground := Go.Ground.data }], guard := none }) (v := ?v34) rfl (by kernel_rfl) (by kernel_rfl) (by kernel_rfl) (fun _ _ _ h => h) (Or.inl ⟨by rfl, ?hy34⟩) (by assumption) ?rest34
          case hy34 => (intro w hSw; obtain ⟨s0, s1, s2, s3, s4⟩ := hSw; go_simp; try with_reducible rfl)
          try simp only [Act.put, List.setIfInBounds_toArray, List.set_cons_zero, List.set_cons_succ]
          refine wpAnyH_done (by kernel_rfl) ?_ _
          have hJ2 := Lib.hid (And.intro HNN.out (below_step HJ.out.2 HBV.out))
          have zk2 : IntKind.i64.wrap ((i : Int) + 1) = (i : Int) + 1 := by (rw [IntKind.wrap_i64]; have := HLI.out; have := HL.out; omega)
          go_wp2_with fail
          go_roundw
          case rel => exact ⟨i + 1, by go_num, by have := HLI.out; omega, hJ2⟩
          case measure => simp [intOf] <;> (have := HLI.out; omega)
        · have HNN := Lib.hid (HNO.out (by rw [decide_eq_false hv]; rfl))
          have zv : ¬ (x.e.v : Int) = (v0 : Int) := by omega
          clear HNX HNO
          refine wp_region_held_drew (S := (fun w' => w'.cell? ⟨b, o + i * 4, none⟩ = some (.int .u8 x.e.v) ∧ w'.cell? ⟨b, o + i * 4 + 1, none⟩ = some (.int .u8 x.e.k) ∧ w'.cell? ⟨b, o + i * 4 + 2, none⟩ = some (.slice x.A x.e.ns.length x.ca) ∧ w'.cell? ⟨b, o + i * 4 + 3, none⟩ = some (.slice x.C x.e.ts.length x.cc) ∧ w'.cell? ⟨b, o, none⟩ = some (.int .u8 v0))) (by kernel_rfl) (HG.out _ (below_drew _ _)) (fun hHeld => ?_)
          refine wpAnyH_take (i := 0) (oi := { dst := some 18, op := Go.Op.move (Go.Operand.tmp 0), type := 22, pos := "ref.go:18", after := #[], guard := none }) (v := ?v35) rfl (by kernel_rfl) (by kernel_rfl) (by kernel_rfl) (fun _ _ _ h => h) (Or.inl ⟨by rfl, ?hy35⟩) (by assumption) ?rest35
          case hy35 => (intro w hSw; obtain ⟨s0, s1, s2, s3, s4⟩ := hSw; go_simp; try with_reducible rfl)
          try simp only [Act.put, List.setIfInBounds_toArray, List.set_cons_zero, List.set_cons_succ]
          refine wpAnyH_take (i := 1) (oi := { dst := some 19, op := Go.Op.move (Go.Operand.tmp 3), type := 3, pos := "ref.go:18", after := #[], guard := none }) (v := ?v36) rfl (by kernel_rfl) (by kernel_rfl) (by kernel_rfl) (fun _ _ _ h => h) (Or.inl ⟨by rfl, ?hy36⟩) (by assumption) ?rest36
          case hy36 => (intro w hSw; obtain ⟨s0, s1, s2, s3, s4⟩ := hSw; go_simp; try with_reducible rfl)
          try simp only [Act.put, List.setIfInBounds_toArray, List.set_cons_zero, List.set_cons_succ]
          refine wpAnyH_take (i := 2) (oi := { dst := some 20, op := Go.Op.indexAddr 22 (Go.Operand.tmp 18) (Go.Operand.tmp 19), type := 0, pos := "ref.go:18", after := #[{ on := 0, ground := Go.Ground.data }, { on := 1, ground := Go.Ground.data }], guard := none }) (v := ?v37) rfl (by kernel_rfl) (by kernel_rfl) (by kernel_rfl) (fun _ _ _ h => h) (Or.inl ⟨by rfl, ?hy37⟩) (by assumption) ?rest37
          case hy37 => (intro w hSw; obtain ⟨s0, s1, s2, s3, s4⟩ := hSw; go_simp; try with_reducible rfl)
          try simp only [Act.put, List.setIfInBounds_toArray, List.set_cons_zero, List.set_cons_succ]
          refine wpAnyH_take (i := 3) (oi := { dst := some 21, op := Go.Op.load 39 (Go.Operand.tmp 20), type := 39, pos := "ref.go:18", after := #[{ on := 2, ground := Go.Ground.data }], guard := none }) (v := ?v38) rfl (by kernel_rfl) (by kernel_rfl) (by kernel_rfl) (fun _ _ _ h => h) (Or.inl ⟨by rfl, ?hy38⟩) (by assumption) ?rest38
          case hy38 => (intro w hSw; obtain ⟨s0, s1, s2, s3, s4⟩ := hSw; go_simp; try with_reducible rfl)
          try simp only [Act.put, List.setIfInBounds_toArray, List.set_cons_zero, List.set_cons_succ]
          refine wpAnyH_ready (rs := [4]) (by kernel_rfl) (by simp) ?_
          refine AllReadyH.cons (o := { dst := some 22, op := Go.Op.call { callee := Go.Callee.value (Go.Operand.func 33), args := #[Go.Operand.tmp 21], argTypes := #[39] }, type := 4, pos := "ref.go:18", after := #[{ on := 3, ground := Go.Ground.data }], guard := none }) rfl (fun K hK => ?_) AllReadyH.nil
          go_simp
          go_at_call 33
          refine (HC.out _ (below_drew _ _)).mono ?_
          rintro z V1 ⟨rfl, hbV⟩
          have HBV := Lib.hid (below_step (below_drew wr.heap.size wr) hbV)
          clear hbV
          refine hK.out _ _ (HG.out _ HBV.out) (fun hHeld => ?_)
          clear hK K
          try simp only [Act.put, List.setIfInBounds_toArray, List.set_cons_zero, List.set_cons_succ]
          refine wpAnyH_take (i := 5) (oi := { dst := some 23, op := Go.Op.unOp Go.UnOp.not 4 (Go.Operand.tmp 22), type := 4, pos := "ref.go:18", after := #[{ on := 4, ground := Go.Ground.data }], guard := none }) (v := ?v39) rfl (by kernel_rfl) (by kernel_rfl) (by kernel_rfl) (fun _ _ _ h => h) (Or.inl ⟨by rfl, ?hy39⟩) (by assumption) ?rest39
          case hy39 => (intro w hSw; obtain ⟨s0, s1, s2, s3, s4⟩ := hSw; go_simp; try with_reducible rfl)
          try simp only [Act.put, List.setIfInBounds_toArray, List.set_cons_zero, List.set_cons_succ]
          refine wpAnyH_take (i := 6) (oi := { dst := some 24, op := Go.Op.move (Go.Operand.tmp 23), type := 4, pos := "ref.go:18", after := #[{ on := 5, ground := Go.Ground.data }, { on := 4, ground := Go.Ground.chain }], guard := none }) (v := ?v40) rfl (by kernel_rfl) (by kernel_rfl) (by kernel_rfl) (fun _ _ _ h => h) (Or.inl ⟨by rfl, ?hy40⟩) (by assumption) ?rest40
          case hy40 => (intro w hSw; obtain ⟨s0, s1, s2, s3, s4⟩ := hSw; go_simp; try with_reducible rfl)
          try simp only [Act.put, List.setIfInBounds_toArray, List.set_cons_zero, List.set_cons_succ]
          refine wpAnyH_take (i := 7) (oi := { dst := some 25, op := Go.Op.move (Go.Operand.tmp 0), type := 22, pos := "ref.go:18", after := #[{ on := 6, ground := Go.Ground.guard }], guard := some (6, false) }) (v := ?v41) rfl (by kernel_rfl) (by kernel_rfl) (by kernel_rfl) (fun _ _ _ h => h) (Or.inl ⟨by rfl, ?hy41⟩) (by assumption) ?rest41
          case hy41 => (intro w hSw; obtain ⟨s0, s1, s2, s3, s4⟩ := hSw; go_simp; try with_reducible rfl)
          try simp only [Act.put, List.setIfInBounds_toArray, List.set_cons_zero, List.set_cons_succ]
          refine wpAnyH_take (i := 8) (oi := { dst := some 26, op := Go.Op.move (Go.Operand.tmp 3), type := 3, pos := "ref.go:18", after := #[{ on := 6, ground := Go.Ground.guard }], guard := some (6, false) }) (v := ?v42) rfl (by kernel_rfl) (by kernel_rfl) (by kernel_rfl) (fun _ _ _ h => h) (Or.inl ⟨by rfl, ?hy42⟩) (by assumption) ?rest42
          case hy42 => (intro w hSw; obtain ⟨s0, s1, s2, s3, s4⟩ := hSw; go_simp; try with_reducible rfl)
          try simp only [Act.put, List.setIfInBounds_toArray, List.set_cons_zero, List.set_cons_succ]
          refine wpAnyH_take (i := 9) (oi := { dst := some 27, op := Go.Op.indexAddr 22 (Go.Operand.tmp 25) (Go.Operand.tmp 26), type := 0, pos := "ref.go:18", after := #[{ on := 7, ground := Go.Ground.data }, { on := 8, ground := Go.Ground.data }, { on := 6, ground := Go.Ground.guard }], guard := some (6, false) }) (v := ?v43) rfl (by kernel_rfl) (by kernel_rfl) (by kernel_rfl) (fun _ _ _ h => h) (Or.inl ⟨by rfl, ?hy43⟩) (by assumption) ?rest43
          case hy43 => (intro w hSw; obtain ⟨s0, s1, s2, s3, s4⟩ := hSw; go_simp; try with_reducible rfl)
          try simp only [Act.put, List.setIfInBounds_toArray, List.set_cons_zero, List.set_cons_succ]
          refine wpAnyH_take (i := 10) (oi := { dst := some 28, op := Go.Op.fieldAddr 39 (Go.Operand.tmp 27) 0, type := 0, pos := "ref.go:18", after := #[{ on := 9, ground := Go.Ground.data }, { on := 6, ground := Go.Ground.guard }], guard := some (6, false) }) (v := ?v44) rfl (by kernel_rfl) (by kernel_rfl) (by kernel_rfl) (fun _ _ _ h => h) (Or.inl ⟨by rfl, ?hy44⟩) (by assumption) ?rest44
          case hy44 => (intro w hSw; obtain ⟨s0, s1, s2, s3, s4⟩ := hSw; go_simp; try with_reducible rfl)
          try simp only [Act.put, List.setIfInBounds_toArray, List.set_cons_zero, List.set_cons_succ]
          refine wpAnyH_take (i := 11) (oi := { dst := some 29, op := Go.Op.load 5 (Go.Operand.tmp 28), type := 5, pos := "ref.go:18", after := #[{ on := 10, ground := Go.Ground.data }, { on := 6, ground := Go.Ground.guard }], guard := some (6, false) }) (v := ?v45) rfl (by kernel_rfl) (by kernel_rfl) (by kernel_rfl) (fun _ _ _ h => h) (Or.inl ⟨by rfl, ?hy45⟩) (by assumption) ?rest45
          case hy45 => (intro w hSw; obtain ⟨s0, s1, s2, s3, s4⟩ := hSw; go_simp; try with_reducible rfl)
          try simp only [Act.put, List.setIfInBounds_toArray, List.set_cons_zero, List.set_cons_succ]
          refine wpAnyH_take (i := 12) (oi := { dst := some 30, op := Go.Op.move (Go.Operand.tmp 0), type := 22, pos := "ref.go:18", after := #[{ on := 6, ground := Go.Ground.guard }], guard := some (6, false) }) (v := ?v46) rfl (by kernel_rfl) (by kernel_rfl) (by kernel_rfl) (fun _ _ _ h => h) (Or.inl ⟨by rfl, ?hy46⟩) (by assumption) ?rest46
          case hy46 => (intro w hSw; obtain ⟨s0, s1, s2, s3, s4⟩ := hSw; go_simp; try with_reducible rfl)
          try simp only [Act.put, List.setIfInBounds_toArray, List.set_cons_zero, List.set_cons_succ]
          refine wpAnyH_take (i := 13) (oi := { dst := some 31, op := Go.Op.indexAddr 22 (Go.Operand.tmp 30) (Go.Operand.const (Go.Value.int Go.IntKind.i64 0)), type := 0, pos := "ref.go:18", after := #[{ on := 12, ground := Go.Ground.data }, { on := 6, ground := Go.Ground.guard }], guard := some (6, false) }) (v := ?v47) rfl (by kernel_rfl) (by kernel_rfl) (by kernel_rfl) (fun _ _ _ h => h) (Or.inl ⟨by rfl, ?hy47⟩) (by assumption) ?rest47
          case hy47 => (intro w hSw; obtain ⟨s0, s1, s2, s3, s4⟩ := hSw; go_simp; try with_reducible rfl)
          try simp only [Act.put, List.setIfInBounds_toArray, List.set_cons_zero, List.set_cons_succ]
          refine wpAnyH_take (i := 14) (oi := { dst := some 32, op := Go.Op.fieldAddr 39 (Go.Operand.tmp 31) 0, type := 0, pos := "ref.go:18", after := #[{ on := 13, ground := Go.Ground.data }, { on := 6, ground := Go.Ground.guard }], guard := some (6, false) }) (v := ?v48) rfl (by kernel_rfl) (by kernel_rfl) (by kernel_rfl) (fun _ _ _ h => h) (Or.inl ⟨by rfl, ?hy48⟩) (by assumption) ?rest48
          case hy48 => (intro w hSw; obtain ⟨s0, s1, s2, s3, s4⟩ := hSw; go_simp; try with_reducible rfl)
          try simp only [Act.put, List.setIfInBounds_toArray, List.set_cons_zero, List.set_cons_succ]
          refine wpAnyH_take (i := 15) (oi := { dst := some 33, op := Go.Op.load 5 (Go.Operand.tmp 32), type := 5, pos := "ref.go:18", after := #[{ on := 14, ground := Go.Ground.data }, { on := 6, ground := Go.Ground.guard }], guard := some (6, false) }) (v := ?v49) rfl (by kernel_rfl) (by kernel_rfl) (by kernel_rfl) (fun _ _ _ h => h) (Or.inl ⟨by rfl, ?hy49⟩) (by assumption) ?rest49
          case hy49 => (intro w hSw; obtain ⟨s0, s1, s2, s3, s4⟩ := hSw; go_simp; try with_reducible rfl)
          try simp only [Act.put, List.setIfInBounds_toArray, List.set_cons_zero, List.set_cons_succ]
          refine wpAnyH_take (i := 16) (oi := { dst := some 34, op := Go.Op.binOp Go.BinOp.neq 5 (Go.Operand.tmp 29) (Go.Operand.tmp 33) 5, type := 4, pos := "ref.go:18", after := #[{ on := 11, ground := Go.Ground.data }, { on := 15, ground := Go.Ground.data }, { on := 6, ground := Go.Ground.guard }], guard := some (6, false) }) (v := ?v50) rfl (by kernel_rfl) (by kernel_rfl) (by kernel_rfl) (fun _ _ _ h => h) (Or.inl ⟨by rfl, ?hy50⟩) (by assumption) ?rest50
          case hy50 => (intro w hSw; obtain ⟨s0, s1, s2, s3, s4⟩ := hSw; go_simp; try with_reducible rfl)
          try simp only [Act.put, List.setIfInBounds_toArray, List.set_cons_zero, List.set_cons_succ]
          refine wpAnyH_take (i := 17) (oi := { dst := some 35, op := Go.Op.pick (Go.Operand.tmp 24) (Go.Operand.const (Go.Value.bool true)) (Go.Operand.tmp 34), type := 4, pos := "ref.go:18", after := #[{ on := 6, ground := Go.Ground.data }, { on := 16, ground := Go.Ground.data }], guard := none }) (v := ?v51) rfl (by kernel_rfl) (by kernel_rfl) (by kernel_rfl) (fun _ _ _ h => h) (Or.inl ⟨by rfl, ?hy51⟩) (by assumption) ?rest51
          case hy51 => (intro w hSw; obtain ⟨s0, s1, s2, s3, s4⟩ := hSw; go_simp; try with_reducible rfl)
          try simp only [Act.put, List.setIfInBounds_toArray, List.set_cons_zero, List.set_cons_succ]
          refine wpAnyH_done (by kernel_rfl) ?_ _
          go_wp2_with fail
          go_ret
          exact ⟨by rw [HNN.out]; rfl, below_step HJ.out.2 HBV.out⟩
    · have z1 : ¬ (i : Int) < (xs.length : Int) := by omega
      have HYES := Lib.hid (mayL_yes HL.out.1 HL.out.2 (fun j hj => HJ.out.1 j hj (by omega)))
      go_wp2_with fail
      go_ret
      exact ⟨by rw [HYES.out]; rfl, HJ.out.2⟩

/-- what stands written behind i events -/
def outB (v : Nat) (xs : List Lx) (i : Nat) : List UInt8 := (fixB 1 v ++ shortB xs.length) ++ allB ((xs.map (·.e)).take i)
set_option maxRecDepth 100000 in
set_option maxHeartbeats 2000000 in
theorem rEncL_any (D : Option Addr) (cap : Nat) (xs : List Lx) (hn : xs.length ≤ 1000000000) (w : World) (hX : Row w D xs) :
    Calls Tryz.prog 9 #[.slice D xs.length cap] w fun z w' => z = .returned (.tuple #[.string (encT (xs.map (·.e))), .int .i64 (refN (xs.map (·.e)) : Int)]) ∧ Below w.heap.size w w' := by
  have HX := Lib.hid hX
  have HNN := Lib.hid hn
  clear hX
  go_enter Tryz.func9, Tryz.ntmps9
  by_cases h2 : 40 < xs.length
  · have hr : refN (xs.map (·.e)) = 40 := if_pos (by rw [List.length_map]; exact h2)
    have HR := Lib.hid (And.intro hr (encT_no (l := xs.map (·.e)) (by rw [hr]; decide)))
    have z3 : (40 : Int) < (xs.length : Int) := by omega
    have z4 : decide ((40 : Int) < (xs.length : Int)) = true := decide_eq_true z3
    clear h2 hr hn
    go_wp2_with fail
    all_goals (go_ret2; exact ⟨by rw [HR.out.1, HR.out.2]; rfl, Below.refl _ _⟩)
  have z3 : ¬ (40 : Int) < (xs.length : Int) := by omega
  have z4 : decide ((40 : Int) < (xs.length : Int)) = false := decide_eq_false z3
  have HL := Lib.hid (show xs.length ≤ 40 by omega)
  have hn40 : ¬ 40 < (xs.map (·.e)).length := by rw [List.length_map]; exact h2
  have HN40 := Lib.hid hn40
  clear h2 hn40 hn
  go_wp2_with fail
  clear z3 z4
  refine (rMayL_any D cap xs w HX.out).mono ?_
  rintro z W1 ⟨rfl, hb⟩
  have HB := Lib.hid hb
  clear hb
  cases hm : mayL (xs.map (·.e)) with
  | false =>
    have hr : refN (xs.map (·.e)) = 4 := by unfold refN; rw [if_neg HN40.out, hm]; rfl
    have HR := Lib.hid (And.intro hr (encT_no (l := xs.map (·.e)) (by rw [hr]; decide)))
    clear hm hr
    go_wp2_with fail
    go_ret2
    exact ⟨by rw [HR.out.1, HR.out.2]; rfl, HB.out⟩
  | true =>
    have hr : refN (xs.map (·.e)) = 0 := refN_zero.2 hm
    have HR := Lib.hid (And.intro hr (encT_yes hr))
    have ho := mayL_out hm
    rw [List.length_map] at ho
    have HMS := Lib.hid (fun (i : Nat) (h : i < xs.length) => (show may xs[i].e = true from (ho.2.2.1 _ (List.mem_map_of_mem (List.getElem_mem h))).1))
    have HP := Lib.hid (show payB (xs.map (·.e)) = (fixB 1 (vOf (xs.map (·.e))) ++ shortB xs.length) ++ allB ((xs.map (·.e)).take xs.length) by
      unfold payB
      rw [List.length_map, List.append_assoc, List.take_of_length_le (by rw [List.length_map]; exact Nat.le_refl _)])
    have HAL := Lib.hid (fun i => (show (allB ((xs.map (·.e)).take i)).length ≤ 102 * 40 from by
      have h1 := allB_le ((xs.map (·.e)).take i) (fun e he => (ho.2.2.1 e (List.mem_of_mem_take he)).1)
      have h2 : ((xs.map (·.e)).take i).length ≤ 40 := by rw [List.length_take, List.length_map]; omega
      omega))
    have h0 : 0 < xs.length := ho.1
    have z0 : (0 : Int) < (xs.length : Int) := by omega
    have HV0 := Lib.hid (vOf_get xs h0)
    have hvl := ho.2.2.2
    obtain ⟨b, o, rfl, hbl, c0, c1, c2, c3, -⟩ := (HX.out.below HB.out).at 0 h0
    rw [Nat.zero_mul, Nat.add_zero, ← HV0.out] at c0
    have HH := Lib.hid (show strOfNums [((vOf (xs.map (·.e)) : Nat) : Int)] ++ Wire.S (shortB xs.length) = Wire.S (outB (vOf (xs.map (·.e))) xs 0) by
      unfold outB
      rw [kind_byte _ (by omega), S_snoc, List.take_zero, show allB [] = [] from rfl, List.append_nil])
    generalize vOf (xs.map (·.e)) = v0 at HP c0 HH hvl
    have HVL := Lib.hid hvl
    have hz1 : (Wire.S (shortB xs.length)).size ≤ 1000 := by rw [Wire.S_size]; have := Wire.shortB_le xs.length; omega
    have hi := fun V => refShort_any xs.length V (Lib.hid (by have := HL.out; omega))
    rw [← wrapS xs.length (by have := HL.out; omega)] at hi
    have HI := Lib.hid hi
    clear hi
    clear hm hr ho c1 c2 c3 hbl hvl
    have hz2 := str1_size
    go_upto_region 5 with (fail)
    go_cut [4] (fun u wx => u = .string (Wire.S (outB v0 xs 0)) ∧ Hid (Below w.heap.size w wx))
    case first =>
      have hc1 := conv1_now
      have hc2 := conv1_drew
      have r0 := Schema.cell_kept c0 ((Below.refl W1.heap.size W1).alloc (Nat.le_refl _) (.cells #[.int .u8 (v0 : Int)] 5))
      go_region_with ((go_at_call 29; refine (HI.out _).mono ?_; rintro z w' ⟨rfl, hb⟩; (have hb5 : Below W1.heap.size W1 w' := by first | exact below_step (Below.refl _ _) hb | exact below_step (below_drew _ _) hb | exact below_step (below_step ((Below.refl _ _).alloc (Nat.le_refl _) _) (below_drew _ _)) hb | exact below_step (below_step (below_drew _ _) ((Below.refl _ _).alloc (Nat.le_refl _) _)) hb); (have g0 := Schema.cell_kept c0 hb5); (try have hc3 := conv1_after hb)))
      all_goals
        go_wp2_with fail
        go_meet
        exact ⟨by rw [HH.out], Lib.hid (by first | exact HB.out.trans (hb5.mono HB.out.size) | exact (HB.out.trans (hb5.mono HB.out.size)).alloc (by have := HB.out.size; have := hb5.size; omega) _)⟩
    case rest =>
      obtain ⟨rfl, HI0⟩ := hcut
      clear c0 hz1 hz2 z0
      go_wp2_with fail
      go_loopw [4, 5] (fun u t wr => ∃ i : Nat, i ≤ xs.length ∧ t = .int .i64 i ∧ u = .string (Wire.S (outB v0 xs i)) ∧ Hid (Below w.heap.size w wr)) (fun _ t _ => xs.length - (intOf t).toNat)
      case atStart => exact ⟨0, Nat.zero_le _, rfl, rfl, HI0⟩
      case round =>
        obtain ⟨i, hi, rfl, rfl, HJ⟩ := hrel
        clear HI0
        by_cases hlt : i < xs.length
        · have z0 : (0 : Int) ≤ (i : Int) := by omega
          have z1 : (i : Int) < (xs.length : Int) := by omega
          have hzs : (Wire.S (outB v0 xs i)).size ≤ 100000 := by
            unfold outB
            rw [Wire.S_size, List.length_append, List.length_append, Wire.fixB_length]
            have h1 := HAL.out i
            have h2 := Wire.shortB_le xs.length
            omega
          obtain ⟨b2, o2, he, hbl, c0, c1, c2, c3, hat⟩ := (HX.out.below HJ.out).at i hlt
          injection he with he; injection he with e1 e2; subst e1; subst e2
          have HAT := Lib.hid hat
          have HMX := Lib.hid (HMS.out i hlt)
          have HNX := Lib.hid (show Wire.S (outB v0 xs i) ++ Wire.S (bare xs[i].e) = Wire.S (outB v0 xs (i + 1)) by
            unfold outB
            rw [S_snoc, allB_next (by rw [List.length_map]; exact hlt), Upcast.getD_map xs i hlt, List.append_assoc])
          clear hat hbl
          generalize xs[i] = x at HAT HMX HNX c0 c1 c2 c3
          have hzb : (Wire.S (bare x.e)).size ≤ 1000 := by
            have h1 := allB_le [x.e] (fun e he => by rw [List.mem_singleton.1 he]; exact HMX.out)
            rw [show allB [x.e] = bare x.e ++ [] from rfl, List.append_nil] at h1
            rw [Wire.S_size]
            simp only [List.length_singleton] at h1
            omega
          have hc := Bare_any x.A x.ca x.C x.cc x.e wr HAT.out HMX.out
          simp only [evV] at hc
          have HC := Lib.hid hc
          have zk : IntKind.i64.wrap ((i : Int) + 1) = (i : Int) + 1 := by (rw [IntKind.wrap_i64]; have := HL.out; omega)
          clear hc
          go_wp2_with fail
          refine HC.out.mono ?_
          rintro z W4 ⟨rfl, hb⟩
          have HB4 := Lib.hid (below_step HJ.out hb)
          clear hb c0 c1 c2 c3
          go_wp2_with fail
          go_roundw
          case rel => exact ⟨i + 1, by omega, by go_num, by rw [← HNX.out], HB4⟩
          case measure => simp [intOf] <;> omega
        · have z1 : ¬ (i : Int) < (xs.length : Int) := by omega
          have HPP := Lib.hid (show outB v0 xs i = payB (xs.map (·.e)) by unfold outB; rw [HP.out, show i = xs.length by omega])
          rw [HPP.out]
          go_wp2_with fail
          go_ret2
          exact ⟨by rw [HR.out.1, HR.out.2]; rfl, HJ.out⟩
end Go.Proofs.YtiibeemjkdipnaaGreatDoor.Batch
