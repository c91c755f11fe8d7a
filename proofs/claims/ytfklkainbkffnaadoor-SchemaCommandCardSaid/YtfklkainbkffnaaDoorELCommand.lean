/-
  The walk of the statement SchemaCommand.
-/
import Derived.Test.YtfklkainbkffnaaDoorELSame
import Derived.Test.YtfklkainbkffnaaDoorE25
import Derived.Deep.RegionHeld3
import Derived.Deep.DeepCutAuto
namespace Go.Proofs.YtfklkainbkffnaaDoor.Schema
open Go Go.RowKit

set_option maxRecDepth 100000 in
set_option maxHeartbeats 8000000 in
theorem schemaCommand_walk (A0 : Option Addr) (c0 : Nat) (e0 : Cm) (pl n : Int) (w : World)
    (y0 : CmAt w A0 c0 e0) (m0 : c0 ≤ maxLen)
    (hpl : (Lit.int .i64 pl).wf = true) (hnw : (Lit.int .i64 n).wf = true) (E : Env w) :
    Calls Tryd.prog 9 #[cmV A0 c0 e0, .int .i64 pl, .int .i64 n] w fun z w' => z = .returned (.bool true) ∧ Below w.heap.size w w' := by
  have HE := Lib.hid E
  have HPL := Lib.hid (bounds_i64 hpl)
  have HNW := Lib.hid (bounds_i64 hnw)
  clear hpl hnw E
  have HY0 := Lib.hid y0
  clear y0 m0
  unfold cmV
  have ha := (Below.refl w.heap.size w).alloc (Nat.le_refl _) (.cells #[.int .u8 e0.k, .slice A0 e0.ns.length c0, .string e0.t] 51)
  have HP4 := Lib.hid (show Three _ w.heap.size _ _ _ from box3 w (.int .u8 e0.k) (.slice A0 e0.ns.length c0) (.string e0.t) 51)
  have HB := Lib.hid ha
  have HORD := Lib.hid (show w.heap.size + 1 ≤ (w.alloc (.cells #[.int .u8 e0.k, .slice A0 e0.ns.length c0, .string e0.t] 51)).heap.size from by simp)
  clear ha
  by_cases h1 : 300 < e0.ns.length
  · have h1' : decide ((300 : Int) < (e0.ns.length : Int)) = true := decide_eq_true (by omega)
    clear HORD HNW HPL HY0
    obtain ⟨p0, p1, p2⟩ := HP4.out
    go_enter Tryd.func9, Tryd.ntmps9
    go_wp2_with fail
    clear p0 p1 p2
    go_wp2_with (go_at_call 11; refine (awake_any _ (HE.out.below HB.out)).mono ?_; rintro z Wz ⟨rfl, hb⟩; have HZ := Lib.hid (below_step HB.out hb); clear hb)
    go_ret
    exact ⟨rfl, HZ.out⟩
  by_cases h2 : 300 < e0.t.size
  · have h1' : decide ((300 : Int) < (e0.ns.length : Int)) = false := decide_eq_false (by omega)
    have h2' : decide ((300 : Int) < (e0.t.size : Int)) = true := decide_eq_true (by omega)
    clear HORD HNW HPL HY0
    obtain ⟨p0, p1, p2⟩ := HP4.out
    go_enter Tryd.func9, Tryd.ntmps9
    go_wp2_with fail
    clear p0 p1 p2
    go_wp2_with (go_at_call 11; refine (awake_any _ (HE.out.below HB.out)).mono ?_; rintro z Wz ⟨rfl, hb⟩; have HZ := Lib.hid (below_step HB.out hb); clear hb)
    go_ret
    exact ⟨rfl, HZ.out⟩
  have h1' : decide ((300 : Int) < (e0.ns.length : Int)) = false := decide_eq_false (by omega)
  have h2' : decide ((300 : Int) < (e0.t.size : Int)) = false := decide_eq_false (by omega)
  have HL0 := Lib.hid (show e0.ns.length ≤ 300 ∧ e0.t.size ≤ 300 from ⟨by omega, by omega⟩)
  obtain ⟨hp4_0, hp4_1, hp4_2⟩ := HP4.out
  go_enter Tryd.func9, Tryd.ntmps9
  go_wp2_with fail
  clear hp4_0 hp4_1 hp4_2
  clear h1 h2 h1' h2'
  generalize w.alloc (.cells #[.int .u8 e0.k, .slice A0 e0.ns.length c0, .string e0.t] 51) = W0 at HP4 HB HORD ⊢
  refine (awake_any _ (HE.out.below HB.out)).mono ?_; rintro z W1 ⟨rfl, hb⟩
  have HO2 := Lib.hid (And.intro HORD.out hb.size)
  clear HORD
  have HORD := HO2
  clear HO2
  replace HP4 := Lib.hid (HP4.out.below hb)
  replace HB := Lib.hid (below_step HB.out hb)
  clear hb
  obtain ⟨hp4_0, hp4_1, hp4_2⟩ := HP4.out
  go_wp2_with fail
  clear hp4_0 hp4_1 hp4_2
  refine (Command_any e0.k HY0.out.k W1 (HE.out.below HB.out)).mono ?_; rintro z W2 ⟨v, rfl, hown, hb⟩
  obtain ⟨Al, cl, rfl, -, -, -⟩ := hown.vat
  simp only [clsV_len] at hown ⊢
  have HLS := Lib.hid (show OwnB W2 W1.heap.size W2.heap.size 34 (.slice Al (asks e0.k).size cl) (clsV (asks e0.k)) from Or.inl ⟨hown, fun b hb => (World.ownsRow.lt hown b hb).2⟩)
  have HO2 := Lib.hid (And.intro HORD.out hb.size)
  clear HORD
  have HORD := HO2
  clear HO2
  replace HP4 := Lib.hid (HP4.out.below hb)
  replace HB := Lib.hid (below_step HB.out hb)
  clear hb hown
  obtain ⟨hp4_0, hp4_1, hp4_2⟩ := HP4.out
  go_wp2_with fail
  clear hp4_0 hp4_1 hp4_2
  refine (mayC_any A0 c0 e0 (by have := HL0.out; omega) W2 (HE.out.below HB.out) (HY0.out.below HB.out)).mono ?_; rintro z W3 ⟨rfl, hb⟩
  have HO2 := Lib.hid (And.intro HORD.out hb.size)
  clear HORD
  have HORD := HO2
  clear HO2
  replace HP4 := Lib.hid (HP4.out.below hb)
  replace HB := Lib.hid (below_step HB.out hb)
  replace HLS := Lib.hid (HLS.out.below hb)
  clear hb
  cases hm : mayC e0 with
  | false =>
    go_wp2_with fail
    go_ret
    exact ⟨rfl, HB.out⟩
  | true =>
    obtain ⟨p1, p2, _, p4⟩ := mayC_parts hm
    have HM := Lib.hid hm
    have HMN := Lib.hid (mayC_name hm)
    have HMO := Lib.hid (mayC_otherT hm)
    clear hm p4
    rw [p1]
    simp only [Bool.true_and]
    have HSN := Lib.hid p2
    have HIC := Lib.hid p1
    have hz1 : (((asks e0.k).size : Int) != (e0.ns.length : Int)) = false := by rw [p2]; simp
    have hz2 : ((asks e0.k).size != e0.ns.length) = false := by rw [p2]; simp
    clear p1 p2
    generalize (cmAt e0.k).text = tx at HMN HMO ⊢
    have hz6 : (tx != tx) = false := by cases tx <;> rfl
    obtain ⟨hp4_0, hp4_1, hp4_2⟩ := HP4.out
    go_wp2_with fail
    clear hp4_0 hp4_1 hp4_2
    refine (mayName_any e0.t HY0.out.txt _).mono ?_; rintro z W4 ⟨rfl, hb⟩
    have HO2 := Lib.hid (And.intro HORD.out hb.size)
    clear HORD
    have HORD := HO2
    clear HO2
    replace HP4 := Lib.hid (HP4.out.below hb)
    replace HB := Lib.hid (below_step HB.out hb)
    replace HLS := Lib.hid (HLS.out.below hb)
    clear hb
    rw [HMN.out]
    go_upto_region 8 with (fail)
    clear hz1 hz2 hz6
    have HKS := Lib.hid (fun W (hW : Below W4.heap.size W4 W) => show (fun w' => Below W4.heap.size W4 w' ∧ w'.cell? ⟨w.heap.size, 0, none⟩ = some (.int .u8 e0.k) ∧ w'.cell? ⟨w.heap.size, 1, none⟩ = some (.slice A0 e0.ns.length c0) ∧ w'.cell? ⟨w.heap.size, 2, none⟩ = some (.string e0.t)) W from by
      obtain ⟨p0, p1, p2⟩ := HP4.out.below hW
      exact ⟨hW, p0, p1, p2⟩)
    go_cut [10] (fun u wx => ∃ A cap b, u = .pointer (some ⟨b, 0, none⟩) ∧ Hid (Three wx b (.int .u8 e0.k) (.slice A (e0.ns.length + 1) cap) (.string e0.t) ∧ CmAt wx A cap (cMoreN e0 n) ∧ Below W4.heap.size W4 wx))
    case first =>
      have gd := below_drew W4.heap.size W4
      have HG := Lib.hid gd
      refine wp_region_held_drew (S := (fun w' => Below W4.heap.size W4 w' ∧ w'.cell? ⟨w.heap.size, 0, none⟩ = some (.int .u8 e0.k) ∧ w'.cell? ⟨w.heap.size, 1, none⟩ = some (.slice A0 e0.ns.length c0) ∧ w'.cell? ⟨w.heap.size, 2, none⟩ = some (.string e0.t))) (by kernel_rfl) (HKS.out _ gd) (fun hHeld => ?_)
      have HO2 := Lib.hid (And.intro HORD.out gd.size)
      clear HORD
      have HORD := HO2
      clear HO2
      replace HP4 := Lib.hid (HP4.out.below gd)
      replace HB := Lib.hid (below_step HB.out gd)
      replace HLS := Lib.hid (HLS.out.below gd)
      clear gd
      generalize W4.drew = D0 at HP4 HB HLS HG HORD hHeld ⊢
      refine wpAnyH_take (i := 0) (oi := { dst := some 56, op := Go.Op.fieldAddr 51 (Go.Operand.tmp 3) 0, type := 0, pos := "outright.go:117", after := #[], guard := none }) (v := ?v1) rfl (by kernel_rfl) (by kernel_rfl) (by kernel_rfl) (fun _ _ _ h => h) (Or.inl ⟨by rfl, ?hy1⟩) (by assumption) ?rest1
      case hy1 => (intro w hSw; obtain ⟨s0, s1, s2, s3⟩ := hSw; go_simp; try with_reducible rfl)
      try simp only [Act.put, List.setIfInBounds_toArray, List.set_cons_zero, List.set_cons_succ]
      refine wpAnyH_take (i := 1) (oi := { dst := some 57, op := Go.Op.load 5 (Go.Operand.tmp 56), type := 5, pos := "outright.go:117", after := #[{ on := 0, ground := Go.Ground.data }], guard := none }) (v := ?v2) rfl (by kernel_rfl) (by kernel_rfl) (by kernel_rfl) (fun _ _ _ h => h) (Or.inl ⟨by rfl, ?hy2⟩) (by assumption) ?rest2
      case hy2 => (intro w hSw; obtain ⟨s0, s1, s2, s3⟩ := hSw; go_simp; try with_reducible rfl)
      try simp only [Act.put, List.setIfInBounds_toArray, List.set_cons_zero, List.set_cons_succ]
      refine wpAnyH_take (i := 3) (oi := { dst := some 59, op := Go.Op.fieldAddr 51 (Go.Operand.tmp 3) 1, type := 0, pos := "outright.go:117", after := #[], guard := none }) (v := ?v3) rfl (by kernel_rfl) (by kernel_rfl) (by kernel_rfl) (fun _ _ _ h => h) (Or.inl ⟨by rfl, ?hy3⟩) (by assumption) ?rest3
      case hy3 => (intro w hSw; obtain ⟨s0, s1, s2, s3⟩ := hSw; go_simp; try with_reducible rfl)
      try simp only [Act.put, List.setIfInBounds_toArray, List.set_cons_zero, List.set_cons_succ]
      refine wpAnyH_take (i := 4) (oi := { dst := some 60, op := Go.Op.load 41 (Go.Operand.tmp 59), type := 41, pos := "outright.go:117", after := #[{ on := 3, ground := Go.Ground.data }], guard := none }) (v := ?v4) rfl (by kernel_rfl) (by kernel_rfl) (by kernel_rfl) (fun _ _ _ h => h) (Or.inl ⟨by rfl, ?hy4⟩) (by assumption) ?rest4
      case hy4 => (intro w hSw; obtain ⟨s0, s1, s2, s3⟩ := hSw; go_simp; try with_reducible rfl)
      try simp only [Act.put, List.setIfInBounds_toArray, List.set_cons_zero, List.set_cons_succ]
      refine wpAnyH_take (i := 6) (oi := { dst := some 62, op := Go.Op.move (Go.Operand.tmp 2), type := 2, pos := "outright.go:117", after := #[], guard := none }) (v := ?v5) rfl (by kernel_rfl) (by kernel_rfl) (by kernel_rfl) (fun _ _ _ h => h) (Or.inl ⟨by rfl, ?hy5⟩) (by assumption) ?rest5
      case hy5 => (intro w hSw; obtain ⟨s0, s1, s2, s3⟩ := hSw; go_simp; try with_reducible rfl)
      try simp only [Act.put, List.setIfInBounds_toArray, List.set_cons_zero, List.set_cons_succ]
      refine wpAnyH_take (i := 9) (oi := { dst := some 65, op := Go.Op.fieldAddr 51 (Go.Operand.tmp 3) 2, type := 0, pos := "outright.go:117", after := #[], guard := none }) (v := ?v6) rfl (by kernel_rfl) (by kernel_rfl) (by kernel_rfl) (fun _ _ _ h => h) (Or.inl ⟨by rfl, ?hy6⟩) (by assumption) ?rest6
      case hy6 => (intro w hSw; obtain ⟨s0, s1, s2, s3⟩ := hSw; go_simp; try with_reducible rfl)
      try simp only [Act.put, List.setIfInBounds_toArray, List.set_cons_zero, List.set_cons_succ]
      refine wpAnyH_take (i := 10) (oi := { dst := some 66, op := Go.Op.load 9 (Go.Operand.tmp 65), type := 9, pos := "outright.go:117", after := #[{ on := 9, ground := Go.Ground.data }], guard := none }) (v := ?v7) rfl (by kernel_rfl) (by kernel_rfl) (by kernel_rfl) (fun _ _ _ h => h) (Or.inl ⟨by rfl, ?hy7⟩) (by assumption) ?rest7
      case hy7 => (intro w hSw; obtain ⟨s0, s1, s2, s3⟩ := hSw; go_simp; try with_reducible rfl)
      try simp only [Act.put, List.setIfInBounds_toArray, List.set_cons_zero, List.set_cons_succ]
      refine wpAnyH_ready (rs := [2, 7, 12]) (by kernel_rfl) (by simp) ?_
      refine (AllReadyH.cons (o := { dst := some 58, op := Go.Op.buildSlice 41 0 #[], type := 41, pos := "outright.go:117", after := #[], guard := none }) rfl (fun K hK => ?br8_2) (AllReadyH.cons (o := { dst := some 63, op := Go.Op.buildSlice 41 1 #[(0, Go.Operand.tmp 62)], type := 41, pos := "outright.go:117", after := #[{ on := 6, ground := Go.Ground.data }], guard := none }) rfl (fun K hK => ?br8_7) (AllReadyH.cons (o := { dst := some 10, op := Go.Op.alloc 51, type := 0, pos := "outright.go:117", after := #[], guard := none }) rfl (fun K hK => ?br8_12) AllReadyH.nil)))
      case br8_2 =>
        have hb := (Below.refl D0.heap.size D0).alloc (Nat.le_refl _) (.cells #[] 2)
        have hs : D0.heap.size + 1 ≤ (D0.alloc (.cells #[] 2)).heap.size := by simp
        replace HP4 := Lib.hid (HP4.out.below hb)
        replace HB := Lib.hid (below_step HB.out hb)
        replace HLS := Lib.hid (HLS.out.below hb)
        replace HG := Lib.hid (below_step HG.out hb)
        have HO2 := Lib.hid (And.intro HORD.out hs)
        clear HORD
        have HORD := HO2
        clear HO2
        go_simp
        refine hK.out _ _ (HKS.out _ HG.out) (fun hHeld => ?_)
        clear hK K
        clear hb hs
        generalize hWs : D0.heap.size = z0 at HP4 HB HLS HG HORD ⊢
        clear hWs
        generalize D0.alloc (.cells #[] 2) = D1 at HP4 HB HLS HG HORD hHeld ⊢
        try simp only [Act.put, List.setIfInBounds_toArray, List.set_cons_zero, List.set_cons_succ]
        refine wpAnyH_ready (rs := [5, 7, 12]) (by kernel_rfl) (by simp) ?_
        refine (AllReadyH.cons (o := { dst := some 61, op := Go.Op.call { callee := Go.Callee.builtin Go.Builtin.append, args := #[Go.Operand.tmp 58, Go.Operand.tmp 60], argTypes := #[41, 41] }, type := 41, pos := "outright.go:117", after := #[{ on := 2, ground := Go.Ground.data }, { on := 4, ground := Go.Ground.data }], guard := none }) rfl (fun K hK => ?br9_5) (AllReadyH.cons (o := { dst := some 63, op := Go.Op.buildSlice 41 1 #[(0, Go.Operand.tmp 62)], type := 41, pos := "outright.go:117", after := #[{ on := 6, ground := Go.Ground.data }], guard := none }) rfl (fun K hK => ?br9_7) (AllReadyH.cons (o := { dst := some 10, op := Go.Op.alloc 51, type := 0, pos := "outright.go:117", after := #[], guard := none }) rfl (fun K hK => ?br9_12) AllReadyH.nil)))
        case br9_5 =>
          refine step_append_new 41 2 (.int .i64 0) 8 Tryd.underlying41 infoN rfl (by decide) rfl (.tmp 58) (.tmp 60) rfl z0 rfl A0 e0.ns.length c0 (nums e0.ns) rfl (nums_len _).symm (HY0.out.below HB.out).ns (nums_cell _) HY0.out.nA (by have := HL0.out; simp only [nums_len]; omega) ?_
          intro v1 D2 hO hb
          obtain ⟨A1, c1, rfl, -⟩ := hO.vat
          have hO1 := hO.b
          rw [nums_len] at hO1 ⊢
          clear hO
          replace HP4 := Lib.hid (HP4.out.below hb)
          replace HB := Lib.hid (below_step HB.out hb)
          replace HLS := Lib.hid (HLS.out.below hb)
          replace HG := Lib.hid (below_step HG.out hb)
          have HO2 := Lib.hid (And.intro HORD.out hb.size)
          clear HORD
          have HORD := HO2
          clear HO2
          have H1N := Lib.hid hO1
          clear hO1 hb
          refine hK.out _ _ (HKS.out _ HG.out) (fun hHeld => ?_)
          clear hK K
          try simp only [Act.put, List.setIfInBounds_toArray, List.set_cons_zero, List.set_cons_succ]
          refine wpAnyH_ready (rs := [7, 12]) (by kernel_rfl) (by simp) ?_
          refine (AllReadyH.cons (o := { dst := some 63, op := Go.Op.buildSlice 41 1 #[(0, Go.Operand.tmp 62)], type := 41, pos := "outright.go:117", after := #[{ on := 6, ground := Go.Ground.data }], guard := none }) rfl (fun K hK => ?br10_7) (AllReadyH.cons (o := { dst := some 10, op := Go.Op.alloc 51, type := 0, pos := "outright.go:117", after := #[], guard := none }) rfl (fun K hK => ?br10_12) AllReadyH.nil))
          case br10_7 =>
            have hb := (Below.refl D2.heap.size D2).alloc (Nat.le_refl _) (.cells #[.int .i64 n] 2)
            have hs : D2.heap.size + 1 ≤ (D2.alloc (.cells #[.int .i64 n] 2)).heap.size := by simp
            replace HP4 := Lib.hid (HP4.out.below hb)
            replace HB := Lib.hid (below_step HB.out hb)
            replace HLS := Lib.hid (HLS.out.below hb)
            replace HG := Lib.hid (below_step HG.out hb)
            replace H1N := Lib.hid (H1N.out.below hb)
            have HO2 := Lib.hid (And.intro HORD.out hs)
            clear HORD
            have HORD := HO2
            clear HO2
            have HE1 := Lib.hid (vat_new D2 (.int .i64 n) 2)
            go_simp
            refine hK.out _ _ (HKS.out _ HG.out) (fun hHeld => ?_)
            clear hK K
            clear hb hs
            generalize hWs : D2.heap.size = q0 at HP4 HB HLS HG H1N HE1 HORD ⊢
            clear hWs
            generalize D2.alloc (.cells #[.int .i64 n] 2) = D3 at HP4 HB HLS HG H1N HE1 HORD hHeld ⊢
            try simp only [Act.put, List.setIfInBounds_toArray, List.set_cons_zero, List.set_cons_succ]
            refine wpAnyH_ready (rs := [8, 12]) (by kernel_rfl) (by simp) ?_
            refine (AllReadyH.cons (o := { dst := some 64, op := Go.Op.call { callee := Go.Callee.builtin Go.Builtin.append, args := #[Go.Operand.tmp 61, Go.Operand.tmp 63], argTypes := #[41, 41] }, type := 41, pos := "outright.go:117", after := #[{ on := 5, ground := Go.Ground.data }, { on := 7, ground := Go.Ground.data }, { on := 5, ground := Go.Ground.chain }], guard := none }) rfl (fun K hK => ?br11_8) (AllReadyH.cons (o := { dst := some 10, op := Go.Op.alloc 51, type := 0, pos := "outright.go:117", after := #[], guard := none }) rfl (fun K hK => ?br11_12) AllReadyH.nil))
            case br11_8 =>
              refine step_append_one 41 2 (.int .i64 0) 8 Tryd.underlying41 infoN rfl (by decide) rfl (.tmp 61) (.tmp 63) rfl D1.heap.size q0 _ (nums e0.ns) rfl H1N.out (some ⟨q0, 0, none⟩) 1 (.int .i64 n) rfl HE1.out rfl (by have := HL0.out; simp only [nums_len]; omega) (by have hord := HORD.out; omega) ?_
              intro v2 D4 hO ht
              obtain ⟨A2, c2, rfl, -⟩ := hO.own.vat
              clear H1N
              clear HE1
              have hq : (nums e0.ns ++ [Value.int .i64 n]).length = e0.ns.length + 1 := by simp [nums_len]
              rw [hq] at hO ⊢
              clear hq
              replace HP4 := Lib.hid (HP4.out.touch ht (by have hord := HORD.out; omega))
              replace HB := Lib.hid (Touch.step HB.out ht (by have hord := HORD.out; omega))
              replace HLS := Lib.hid (HLS.out.touch ht (by have hord := HORD.out; omega))
              replace HG := Lib.hid (Touch.step HG.out ht (by have hord := HORD.out; omega))
              have HO2 := Lib.hid (And.intro HORD.out ht.size)
              clear HORD
              have HORD := HO2
              clear HO2
              have H2N := Lib.hid hO
              clear hO ht
              refine hK.out _ _ (HKS.out _ HG.out) (fun hHeld => ?_)
              clear hK K
              try simp only [Act.put, List.setIfInBounds_toArray, List.set_cons_zero, List.set_cons_succ]
              refine wpAnyH_take (i := 11) (oi := { dst := some 67, op := Go.Op.build 51 #[(0, Go.Operand.tmp 57), (1, Go.Operand.tmp 64), (2, Go.Operand.tmp 66)], type := 51, pos := "outright.go:117", after := #[{ on := 1, ground := Go.Ground.data }, { on := 8, ground := Go.Ground.data }, { on := 10, ground := Go.Ground.data }], guard := none }) (v := ?v12) rfl (by kernel_rfl) (by kernel_rfl) (by kernel_rfl) (fun _ _ _ h => h) (Or.inl ⟨by rfl, ?hy12⟩) (by assumption) ?rest12
              case hy12 => (intro w hSw; obtain ⟨s0, s1, s2, s3⟩ := hSw; go_simp; try with_reducible rfl)
              try simp only [Act.put, List.setIfInBounds_toArray, List.set_cons_zero, List.set_cons_succ]
              refine wpAnyH_ready (rs := [12]) (by kernel_rfl) (by simp) ?_
              refine (AllReadyH.cons (o := { dst := some 10, op := Go.Op.alloc 51, type := 0, pos := "outright.go:117", after := #[], guard := none }) rfl (fun K hK => ?br13_12) AllReadyH.nil)
              case br13_12 =>
                have hb := (Below.refl D4.heap.size D4).alloc (Nat.le_refl _) (.cells #[.int .u8 0, .slice none 0 0, .string ⟨#[]⟩] 51)
                have hs : D4.heap.size + 1 ≤ (D4.alloc (.cells #[.int .u8 0, .slice none 0 0, .string ⟨#[]⟩] 51)).heap.size := by simp
                replace HP4 := Lib.hid (HP4.out.below hb)
                replace HB := Lib.hid (below_step HB.out hb)
                replace HLS := Lib.hid (HLS.out.below hb)
                replace HG := Lib.hid (below_step HG.out hb)
                replace H2N := Lib.hid (H2N.out.below hb)
                have HO2 := Lib.hid (And.intro HORD.out hs)
                clear HORD
                have HORD := HO2
                clear HO2
                have HPm := Lib.hid (show Three _ D4.heap.size _ _ _ from box3 D4 (.int .u8 0) (.slice none 0 0) (.string ⟨#[]⟩) 51)
                have HFm := Lib.hid (free_new D4 #[.int .u8 0, .slice none 0 0, .string ⟨#[]⟩] 51)
                have HKm := Lib.hid (boxT_new D4 #[.int .u8 0, .slice none 0 0, .string ⟨#[]⟩] 51)
                go_simp
                refine hK.out _ _ (HKS.out _ HG.out) (fun hHeld => ?_)
                clear hK K
                clear hb hs
                generalize hWs : D4.heap.size = b0 at HP4 HB HLS HG H2N HPm HFm HKm HORD ⊢
                clear hWs
                generalize D4.alloc (.cells #[.int .u8 0, .slice none 0 0, .string ⟨#[]⟩] 51) = D5 at HP4 HB HLS HG H2N HPm HFm HKm HORD hHeld ⊢
                try simp only [Act.put, List.setIfInBounds_toArray, List.set_cons_zero, List.set_cons_succ]
                refine wpAnyH_ready (rs := [13]) (by kernel_rfl) (by simp) ?_
                refine (AllReadyH.cons (o := { dst := none, op := Go.Op.store 51 (Go.Operand.tmp 10) (Go.Operand.tmp 67), type := 0, pos := "outright.go:117", after := #[{ on := 12, ground := Go.Ground.data }, { on := 11, ground := Go.Ground.data }, { on := 8, ground := Go.Ground.chain }, { on := 0, ground := Go.Ground.phase }, { on := 1, ground := Go.Ground.phase }, { on := 2, ground := Go.Ground.phase }, { on := 3, ground := Go.Ground.phase }, { on := 4, ground := Go.Ground.phase }, { on := 5, ground := Go.Ground.phase }, { on := 6, ground := Go.Ground.phase }, { on := 7, ground := Go.Ground.phase }, { on := 8, ground := Go.Ground.phase }, { on := 9, ground := Go.Ground.phase }, { on := 10, ground := Go.Ground.phase }, { on := 11, ground := Go.Ground.phase }, { on := 12, ground := Go.Ground.phase }], guard := none }) rfl (fun K hK => ?br14_13) AllReadyH.nil)
                case br14_13 =>
                  obtain ⟨hpm_0, hpm_1, hpm_2⟩ := HPm.out
                  have f0 := HFm.out.2 0
                  have f1 := HFm.out.2 1
                  have f2 := HFm.out.2 2
                  go_simp
                  clear hpm_0 hpm_1 hpm_2
                  clear f0 f1 f2
                  have hp := (((HPm.out.set0 (.int .u8 e0.k)).set1 (.slice A2 (e0.ns.length + 1) c2)).set2 (.string e0.t))
                  have ht := Touch.set D5 b0 0 (.int .u8 e0.k)
                  have hf := HFm.out.set b0 0 (.int .u8 e0.k)
                  have sp_H2N := H2N.out.boxT HKm.out (by decide) 0 (.int .u8 e0.k)
                  replace HKm := Lib.hid (HKm.out.set 0 (.int .u8 e0.k))
                  replace HP4 := Lib.hid (HP4.out.touch ht (by have hord := HORD.out; omega))
                  replace HB := Lib.hid (Touch.step HB.out ht (by have hord := HORD.out; omega))
                  replace HLS := Lib.hid (HLS.out.touch ht (by have hord := HORD.out; omega))
                  replace HG := Lib.hid (Touch.step HG.out ht (by have hord := HORD.out; omega))
                  replace HFm := Lib.hid hf
                  clear ht hf
                  replace H2N := Lib.hid sp_H2N
                  clear sp_H2N
                  have ht := Touch.set (D5.setCell ⟨b0, 0, none⟩ (.int .u8 e0.k)) b0 1 (.slice A2 (e0.ns.length + 1) c2)
                  have hf := HFm.out.set b0 1 (.slice A2 (e0.ns.length + 1) c2)
                  have sp_H2N := H2N.out.boxT HKm.out (by decide) 1 (.slice A2 (e0.ns.length + 1) c2)
                  replace HKm := Lib.hid (HKm.out.set 1 (.slice A2 (e0.ns.length + 1) c2))
                  replace HP4 := Lib.hid (HP4.out.touch ht (by have hord := HORD.out; omega))
                  replace HB := Lib.hid (Touch.step HB.out ht (by have hord := HORD.out; omega))
                  replace HLS := Lib.hid (HLS.out.touch ht (by have hord := HORD.out; omega))
                  replace HG := Lib.hid (Touch.step HG.out ht (by have hord := HORD.out; omega))
                  replace HFm := Lib.hid hf
                  clear ht hf
                  replace H2N := Lib.hid sp_H2N
                  clear sp_H2N
                  have ht := Touch.set ((D5.setCell ⟨b0, 0, none⟩ (.int .u8 e0.k)).setCell ⟨b0, 1, none⟩ (.slice A2 (e0.ns.length + 1) c2)) b0 2 (.string e0.t)
                  have hf := HFm.out.set b0 2 (.string e0.t)
                  have sp_H2N := H2N.out.boxT HKm.out (by decide) 2 (.string e0.t)
                  replace HKm := Lib.hid (HKm.out.set 2 (.string e0.t))
                  replace HP4 := Lib.hid (HP4.out.touch ht (by have hord := HORD.out; omega))
                  replace HB := Lib.hid (Touch.step HB.out ht (by have hord := HORD.out; omega))
                  replace HLS := Lib.hid (HLS.out.touch ht (by have hord := HORD.out; omega))
                  replace HG := Lib.hid (Touch.step HG.out ht (by have hord := HORD.out; omega))
                  replace HFm := Lib.hid hf
                  clear ht hf
                  replace H2N := Lib.hid sp_H2N
                  clear sp_H2N
                  have hs : D5.heap.size ≤ (((D5.setCell ⟨b0, 0, none⟩ (.int .u8 e0.k)).setCell ⟨b0, 1, none⟩ (.slice A2 (e0.ns.length + 1) c2)).setCell ⟨b0, 2, none⟩ (.string e0.t)).heap.size := by simp
                  have HO2 := Lib.hid (And.intro HORD.out hs)
                  clear HORD
                  have HORD := HO2
                  clear HO2
                  replace HPm := Lib.hid hp
                  clear hp hs
                  refine hK.out _ _ (HKS.out _ HG.out) (fun hHeld => ?_)
                  clear hK K
                  generalize (((D5.setCell ⟨b0, 0, none⟩ (.int .u8 e0.k)).setCell ⟨b0, 1, none⟩ (.slice A2 (e0.ns.length + 1) c2)).setCell ⟨b0, 2, none⟩ (.string e0.t)) = D6 at HP4 HB HLS HG H2N HPm HFm HKm HORD hHeld ⊢
                  try simp only [Act.put, List.setIfInBounds_toArray, List.set_cons_zero, List.set_cons_succ]
                  refine wpAnyH_done (by kernel_rfl) ?_ _
                  go_wp2_with fail
                  go_meet
                  refine ⟨A2, c2, b0, rfl, Lib.hid ⟨HPm.out, cm_of (c := cMoreN e0 n) HY0.out.k (fun x hx => ?_) HY0.out.txt (by have h := H2N.out; simpa [cMoreN, nums] using h), HG.out⟩⟩
                  rcases List.mem_append.1 hx with h | h
                  · exact HY0.out.fit x h
                  · rw [List.mem_singleton.1 h]; exact HNW.out
            case br11_12 =>
              have hb := (Below.refl D3.heap.size D3).alloc (Nat.le_refl _) (.cells #[.int .u8 0, .slice none 0 0, .string ⟨#[]⟩] 51)
              have hs : D3.heap.size + 1 ≤ (D3.alloc (.cells #[.int .u8 0, .slice none 0 0, .string ⟨#[]⟩] 51)).heap.size := by simp
              replace HP4 := Lib.hid (HP4.out.below hb)
              replace HB := Lib.hid (below_step HB.out hb)
              replace HLS := Lib.hid (HLS.out.below hb)
              replace HG := Lib.hid (below_step HG.out hb)
              replace H1N := Lib.hid (H1N.out.below hb)
              replace HE1 := Lib.hid (HE1.out.below hb)
              have HO2 := Lib.hid (And.intro HORD.out hs)
              clear HORD
              have HORD := HO2
              clear HO2
              have HPm := Lib.hid (show Three _ D3.heap.size _ _ _ from box3 D3 (.int .u8 0) (.slice none 0 0) (.string ⟨#[]⟩) 51)
              have HFm := Lib.hid (free_new D3 #[.int .u8 0, .slice none 0 0, .string ⟨#[]⟩] 51)
              have HKm := Lib.hid (boxT_new D3 #[.int .u8 0, .slice none 0 0, .string ⟨#[]⟩] 51)
              go_simp
              refine hK.out _ _ (HKS.out _ HG.out) (fun hHeld => ?_)
              clear hK K
              clear hb hs
              generalize hWs : D3.heap.size = b0 at HP4 HB HLS HG H1N HE1 HPm HFm HKm HORD ⊢
              clear hWs
              generalize D3.alloc (.cells #[.int .u8 0, .slice none 0 0, .string ⟨#[]⟩] 51) = D4 at HP4 HB HLS HG H1N HE1 HPm HFm HKm HORD hHeld ⊢
              try simp only [Act.put, List.setIfInBounds_toArray, List.set_cons_zero, List.set_cons_succ]
              refine wpAnyH_ready (rs := [8]) (by kernel_rfl) (by simp) ?_
              refine (AllReadyH.cons (o := { dst := some 64, op := Go.Op.call { callee := Go.Callee.builtin Go.Builtin.append, args := #[Go.Operand.tmp 61, Go.Operand.tmp 63], argTypes := #[41, 41] }, type := 41, pos := "outright.go:117", after := #[{ on := 5, ground := Go.Ground.data }, { on := 7, ground := Go.Ground.data }, { on := 5, ground := Go.Ground.chain }], guard := none }) rfl (fun K hK => ?br15_8) AllReadyH.nil)
              case br15_8 =>
                refine step_append_one 41 2 (.int .i64 0) 8 Tryd.underlying41 infoN rfl (by decide) rfl (.tmp 61) (.tmp 63) rfl D1.heap.size q0 _ (nums e0.ns) rfl H1N.out (some ⟨q0, 0, none⟩) 1 (.int .i64 n) rfl HE1.out rfl (by have := HL0.out; simp only [nums_len]; omega) (by have hord := HORD.out; omega) ?_
                intro v2 D5 hO ht
                obtain ⟨A2, c2, rfl, -⟩ := hO.own.vat
                clear H1N
                clear HE1
                have hq : (nums e0.ns ++ [Value.int .i64 n]).length = e0.ns.length + 1 := by simp [nums_len]
                rw [hq] at hO ⊢
                clear hq
                replace HP4 := Lib.hid (HP4.out.touch ht (by have hord := HORD.out; omega))
                replace HB := Lib.hid (Touch.step HB.out ht (by have hord := HORD.out; omega))
                replace HLS := Lib.hid (HLS.out.touch ht (by have hord := HORD.out; omega))
                replace HG := Lib.hid (Touch.step HG.out ht (by have hord := HORD.out; omega))
                replace HPm := Lib.hid (HPm.out.touch ht (by have hord := HORD.out; omega))
                replace HFm := Lib.hid (HFm.out.touch ht (by have hord := HORD.out; omega))
                replace HKm := Lib.hid (HKm.out.touch ht (by have hord := HORD.out; omega))
                have HO2 := Lib.hid (And.intro HORD.out ht.size)
                clear HORD
                have HORD := HO2
                clear HO2
                have H2N := Lib.hid hO
                clear hO ht
                refine hK.out _ _ (HKS.out _ HG.out) (fun hHeld => ?_)
                clear hK K
                try simp only [Act.put, List.setIfInBounds_toArray, List.set_cons_zero, List.set_cons_succ]
                refine wpAnyH_take (i := 11) (oi := { dst := some 67, op := Go.Op.build 51 #[(0, Go.Operand.tmp 57), (1, Go.Operand.tmp 64), (2, Go.Operand.tmp 66)], type := 51, pos := "outright.go:117", after := #[{ on := 1, ground := Go.Ground.data }, { on := 8, ground := Go.Ground.data }, { on := 10, ground := Go.Ground.data }], guard := none }) (v := ?v16) rfl (by kernel_rfl) (by kernel_rfl) (by kernel_rfl) (fun _ _ _ h => h) (Or.inl ⟨by rfl, ?hy16⟩) (by assumption) ?rest16
                case hy16 => (intro w hSw; obtain ⟨s0, s1, s2, s3⟩ := hSw; go_simp; try with_reducible rfl)
                try simp only [Act.put, List.setIfInBounds_toArray, List.set_cons_zero, List.set_cons_succ]
                refine wpAnyH_ready (rs := [13]) (by kernel_rfl) (by simp) ?_
                refine (AllReadyH.cons (o := { dst := none, op := Go.Op.store 51 (Go.Operand.tmp 10) (Go.Operand.tmp 67), type := 0, pos := "outright.go:117", after := #[{ on := 12, ground := Go.Ground.data }, { on := 11, ground := Go.Ground.data }, { on := 8, ground := Go.Ground.chain }, { on := 0, ground := Go.Ground.phase }, { on := 1, ground := Go.Ground.phase }, { on := 2, ground := Go.Ground.phase }, { on := 3, ground := Go.Ground.phase }, { on := 4, ground := Go.Ground.phase }, { on := 5, ground := Go.Ground.phase }, { on := 6, ground := Go.Ground.phase }, { on := 7, ground := Go.Ground.phase }, { on := 8, ground := Go.Ground.phase }, { on := 9, ground := Go.Ground.phase }, { on := 10, ground := Go.Ground.phase }, { on := 11, ground := Go.Ground.phase }, { on := 12, ground := Go.Ground.phase }], guard := none }) rfl (fun K hK => ?br17_13) AllReadyH.nil)
                case br17_13 =>
                  obtain ⟨hpm_0, hpm_1, hpm_2⟩ := HPm.out
                  have f0 := HFm.out.2 0
                  have f1 := HFm.out.2 1
                  have f2 := HFm.out.2 2
                  go_simp
                  clear hpm_0 hpm_1 hpm_2
                  clear f0 f1 f2
                  have hp := (((HPm.out.set0 (.int .u8 e0.k)).set1 (.slice A2 (e0.ns.length + 1) c2)).set2 (.string e0.t))
                  have ht := Touch.set D5 b0 0 (.int .u8 e0.k)
                  have hf := HFm.out.set b0 0 (.int .u8 e0.k)
                  have sp_H2N := H2N.out.boxT HKm.out (by decide) 0 (.int .u8 e0.k)
                  replace HKm := Lib.hid (HKm.out.set 0 (.int .u8 e0.k))
                  replace HP4 := Lib.hid (HP4.out.touch ht (by have hord := HORD.out; omega))
                  replace HB := Lib.hid (Touch.step HB.out ht (by have hord := HORD.out; omega))
                  replace HLS := Lib.hid (HLS.out.touch ht (by have hord := HORD.out; omega))
                  replace HG := Lib.hid (Touch.step HG.out ht (by have hord := HORD.out; omega))
                  replace HFm := Lib.hid hf
                  clear ht hf
                  replace H2N := Lib.hid sp_H2N
                  clear sp_H2N
                  have ht := Touch.set (D5.setCell ⟨b0, 0, none⟩ (.int .u8 e0.k)) b0 1 (.slice A2 (e0.ns.length + 1) c2)
                  have hf := HFm.out.set b0 1 (.slice A2 (e0.ns.length + 1) c2)
                  have sp_H2N := H2N.out.boxT HKm.out (by decide) 1 (.slice A2 (e0.ns.length + 1) c2)
                  replace HKm := Lib.hid (HKm.out.set 1 (.slice A2 (e0.ns.length + 1) c2))
                  replace HP4 := Lib.hid (HP4.out.touch ht (by have hord := HORD.out; omega))
                  replace HB := Lib.hid (Touch.step HB.out ht (by have hord := HORD.out; omega))
                  replace HLS := Lib.hid (HLS.out.touch ht (by have hord := HORD.out; omega))
                  replace HG := Lib.hid (Touch.step HG.out ht (by have hord := HORD.out; omega))
                  replace HFm := Lib.hid hf
                  clear ht hf
                  replace H2N := Lib.hid sp_H2N
                  clear sp_H2N
                  have ht := Touch.set ((D5.setCell ⟨b0, 0, none⟩ (.int .u8 e0.k)).setCell ⟨b0, 1, none⟩ (.slice A2 (e0.ns.length + 1) c2)) b0 2 (.string e0.t)
                  have hf := HFm.out.set b0 2 (.string e0.t)
                  have sp_H2N := H2N.out.boxT HKm.out (by decide) 2 (.string e0.t)
                  replace HKm := Lib.hid (HKm.out.set 2 (.string e0.t))
                  replace HP4 := Lib.hid (HP4.out.touch ht (by have hord := HORD.out; omega))
                  replace HB := Lib.hid (Touch.step HB.out ht (by have hord := HORD.out; omega))
                  replace HLS := Lib.hid (HLS.out.touch ht (by have hord := HORD.out; omega))
                  replace HG := Lib.hid (Touch.step HG.out ht (by have hord := HORD.out; omega))
                  replace HFm := Lib.hid hf
                  clear ht hf
                  replace H2N := Lib.hid sp_H2N
                  clear sp_H2N
                  have hs : D5.heap.size ≤ (((D5.setCell ⟨b0, 0, none⟩ (.int .u8 e0.k)).setCell ⟨b0, 1, none⟩ (.slice A2 (e0.ns.length + 1) c2)).setCell ⟨b0, 2, none⟩ (.string e0.t)).heap.size := by simp
                  have HO2 := Lib.hid (And.intro HORD.out hs)
                  clear HORD
                  have HORD := HO2
                  clear HO2
                  replace HPm := Lib.hid hp
                  clear hp hs
                  refine hK.out _ _ (HKS.out _ HG.out) (fun hHeld => ?_)
                  clear hK K
                  generalize (((D5.setCell ⟨b0, 0, none⟩ (.int .u8 e0.k)).setCell ⟨b0, 1, none⟩ (.slice A2 (e0.ns.length + 1) c2)).setCell ⟨b0, 2, none⟩ (.string e0.t)) = D6 at HP4 HB HLS HG HPm HFm HKm H2N HORD hHeld ⊢
                  try simp only [Act.put, List.setIfInBounds_toArray, List.set_cons_zero, List.set_cons_succ]
                  refine wpAnyH_done (by kernel_rfl) ?_ _
                  go_wp2_with fail
                  go_meet
                  refine ⟨A2, c2, b0, rfl, Lib.hid ⟨HPm.out, cm_of (c := cMoreN e0 n) HY0.out.k (fun x hx => ?_) HY0.out.txt (by have h := H2N.out; simpa [cMoreN, nums] using h), HG.out⟩⟩
                  rcases List.mem_append.1 hx with h | h
                  · exact HY0.out.fit x h
                  · rw [List.mem_singleton.1 h]; exact HNW.out
          case br10_12 =>
            have hb := (Below.refl D2.heap.size D2).alloc (Nat.le_refl _) (.cells #[.int .u8 0, .slice none 0 0, .string ⟨#[]⟩] 51)
            have hs : D2.heap.size + 1 ≤ (D2.alloc (.cells #[.int .u8 0, .slice none 0 0, .string ⟨#[]⟩] 51)).heap.size := by simp
            replace HP4 := Lib.hid (HP4.out.below hb)
            replace HB := Lib.hid (below_step HB.out hb)
            replace HLS := Lib.hid (HLS.out.below hb)
            replace HG := Lib.hid (below_step HG.out hb)
            replace H1N := Lib.hid (H1N.out.below hb)
            have HO2 := Lib.hid (And.intro HORD.out hs)
            clear HORD
            have HORD := HO2
            clear HO2
            have HPm := Lib.hid (show Three _ D2.heap.size _ _ _ from box3 D2 (.int .u8 0) (.slice none 0 0) (.string ⟨#[]⟩) 51)
            have HFm := Lib.hid (free_new D2 #[.int .u8 0, .slice none 0 0, .string ⟨#[]⟩] 51)
            have HKm := Lib.hid (boxT_new D2 #[.int .u8 0, .slice none 0 0, .string ⟨#[]⟩] 51)
            go_simp
            refine hK.out _ _ (HKS.out _ HG.out) (fun hHeld => ?_)
            clear hK K
            clear hb hs
            generalize hWs : D2.heap.size = b0 at HP4 HB HLS HG H1N HPm HFm HKm HORD ⊢
            clear hWs
            generalize D2.alloc (.cells #[.int .u8 0, .slice none 0 0, .string ⟨#[]⟩] 51) = D3 at HP4 HB HLS HG H1N HPm HFm HKm HORD hHeld ⊢
            try simp only [Act.put, List.setIfInBounds_toArray, List.set_cons_zero, List.set_cons_succ]
            refine wpAnyH_ready (rs := [7]) (by kernel_rfl) (by simp) ?_
            refine (AllReadyH.cons (o := { dst := some 63, op := Go.Op.buildSlice 41 1 #[(0, Go.Operand.tmp 62)], type := 41, pos := "outright.go:117", after := #[{ on := 6, ground := Go.Ground.data }], guard := none }) rfl (fun K hK => ?br18_7) AllReadyH.nil)
            case br18_7 =>
              have hb := (Below.refl D3.heap.size D3).alloc (Nat.le_refl _) (.cells #[.int .i64 n] 2)
              have hs : D3.heap.size + 1 ≤ (D3.alloc (.cells #[.int .i64 n] 2)).heap.size := by simp
              replace HP4 := Lib.hid (HP4.out.below hb)
              replace HB := Lib.hid (below_step HB.out hb)
              replace HLS := Lib.hid (HLS.out.below hb)
              replace HG := Lib.hid (below_step HG.out hb)
              replace H1N := Lib.hid (H1N.out.below hb)
              replace HPm := Lib.hid (HPm.out.below hb)
              replace HFm := Lib.hid (HFm.out.below hb)
              replace HKm := Lib.hid (HKm.out.below hb)
              have HO2 := Lib.hid (And.intro HORD.out hs)
              clear HORD
              have HORD := HO2
              clear HO2
              have HE1 := Lib.hid (vat_new D3 (.int .i64 n) 2)
              go_simp
              refine hK.out _ _ (HKS.out _ HG.out) (fun hHeld => ?_)
              clear hK K
              clear hb hs
              generalize hWs : D3.heap.size = q0 at HP4 HB HLS HG H1N HPm HFm HKm HE1 HORD ⊢
              clear hWs
              generalize D3.alloc (.cells #[.int .i64 n] 2) = D4 at HP4 HB HLS HG H1N HPm HFm HKm HE1 HORD hHeld ⊢
              try simp only [Act.put, List.setIfInBounds_toArray, List.set_cons_zero, List.set_cons_succ]
              refine wpAnyH_ready (rs := [8]) (by kernel_rfl) (by simp) ?_
              refine (AllReadyH.cons (o := { dst := some 64, op := Go.Op.call { callee := Go.Callee.builtin Go.Builtin.append, args := #[Go.Operand.tmp 61, Go.Operand.tmp 63], argTypes := #[41, 41] }, type := 41, pos := "outright.go:117", after := #[{ on := 5, ground := Go.Ground.data }, { on := 7, ground := Go.Ground.data }, { on := 5, ground := Go.Ground.chain }], guard := none }) rfl (fun K hK => ?br19_8) AllReadyH.nil)
              case br19_8 =>
                refine step_append_one 41 2 (.int .i64 0) 8 Tryd.underlying41 infoN rfl (by decide) rfl (.tmp 61) (.tmp 63) rfl D1.heap.size b0 _ (nums e0.ns) rfl H1N.out (some ⟨q0, 0, none⟩) 1 (.int .i64 n) rfl HE1.out rfl (by have := HL0.out; simp only [nums_len]; omega) (by have hord := HORD.out; omega) ?_
                intro v2 D5 hO ht
                obtain ⟨A2, c2, rfl, -⟩ := hO.own.vat
                clear H1N
                clear HE1
                have hq : (nums e0.ns ++ [Value.int .i64 n]).length = e0.ns.length + 1 := by simp [nums_len]
                rw [hq] at hO ⊢
                clear hq
                replace HP4 := Lib.hid (HP4.out.touch ht (by have hord := HORD.out; omega))
                replace HB := Lib.hid (Touch.step HB.out ht (by have hord := HORD.out; omega))
                replace HLS := Lib.hid (HLS.out.touch ht (by have hord := HORD.out; omega))
                replace HG := Lib.hid (Touch.step HG.out ht (by have hord := HORD.out; omega))
                replace HPm := Lib.hid (HPm.out.touch ht (by have hord := HORD.out; omega))
                replace HFm := Lib.hid (HFm.out.touch ht (by have hord := HORD.out; omega))
                replace HKm := Lib.hid (HKm.out.touch ht (by have hord := HORD.out; omega))
                have HO2 := Lib.hid (And.intro HORD.out ht.size)
                clear HORD
                have HORD := HO2
                clear HO2
                have H2N := Lib.hid hO
                clear hO ht
                refine hK.out _ _ (HKS.out _ HG.out) (fun hHeld => ?_)
                clear hK K
                try simp only [Act.put, List.setIfInBounds_toArray, List.set_cons_zero, List.set_cons_succ]
                refine wpAnyH_take (i := 11) (oi := { dst := some 67, op := Go.Op.build 51 #[(0, Go.Operand.tmp 57), (1, Go.Operand.tmp 64), (2, Go.Operand.tmp 66)], type := 51, pos := "outright.go:117", after := #[{ on := 1, ground := Go.Ground.data }, { on := 8, ground := Go.Ground.data }, { on := 10, ground := Go.Ground.data }], guard := none }) (v := ?v20) rfl (by kernel_rfl) (by kernel_rfl) (by kernel_rfl) (fun _ _ _ h => h) (Or.inl ⟨by rfl, ?hy20⟩) (by assumption) ?rest20
                case hy20 => (intro w hSw; obtain ⟨s0, s1, s2, s3⟩ := hSw; go_simp; try with_reducible rfl)
                try simp only [Act.put, List.setIfInBounds_toArray, List.set_cons_zero, List.set_cons_succ]
                refine wpAnyH_ready (rs := [13]) (by kernel_rfl) (by simp) ?_
                refine (AllReadyH.cons (o := { dst := none, op := Go.Op.store 51 (Go.Operand.tmp 10) (Go.Operand.tmp 67), type := 0, pos := "outright.go:117", after := #[{ on := 12, ground := Go.Ground.data }, { on := 11, ground := Go.Ground.data }, { on := 8, ground := Go.Ground.chain }, { on := 0, ground := Go.Ground.phase }, { on := 1, ground := Go.Ground.phase }, { on := 2, ground := Go.Ground.phase }, { on := 3, ground := Go.Ground.phase }, { on := 4, ground := Go.Ground.phase }, { on := 5, ground := Go.Ground.phase }, { on := 6, ground := Go.Ground.phase }, { on := 7, ground := Go.Ground.phase }, { on := 8, ground := Go.Ground.phase }, { on := 9, ground := Go.Ground.phase }, { on := 10, ground := Go.Ground.phase }, { on := 11, ground := Go.Ground.phase }, { on := 12, ground := Go.Ground.phase }], guard := none }) rfl (fun K hK => ?br21_13) AllReadyH.nil)
                case br21_13 =>
                  obtain ⟨hpm_0, hpm_1, hpm_2⟩ := HPm.out
                  have f0 := HFm.out.2 0
                  have f1 := HFm.out.2 1
                  have f2 := HFm.out.2 2
                  go_simp
                  clear hpm_0 hpm_1 hpm_2
                  clear f0 f1 f2
                  have hp := (((HPm.out.set0 (.int .u8 e0.k)).set1 (.slice A2 (e0.ns.length + 1) c2)).set2 (.string e0.t))
                  have ht := Touch.set D5 b0 0 (.int .u8 e0.k)
                  have hf := HFm.out.set b0 0 (.int .u8 e0.k)
                  have sp_H2N := H2N.out.boxT HKm.out (by decide) 0 (.int .u8 e0.k)
                  replace HKm := Lib.hid (HKm.out.set 0 (.int .u8 e0.k))
                  replace HP4 := Lib.hid (HP4.out.touch ht (by have hord := HORD.out; omega))
                  replace HB := Lib.hid (Touch.step HB.out ht (by have hord := HORD.out; omega))
                  replace HLS := Lib.hid (HLS.out.touch ht (by have hord := HORD.out; omega))
                  replace HG := Lib.hid (Touch.step HG.out ht (by have hord := HORD.out; omega))
                  replace HFm := Lib.hid hf
                  clear ht hf
                  replace H2N := Lib.hid sp_H2N
                  clear sp_H2N
                  have ht := Touch.set (D5.setCell ⟨b0, 0, none⟩ (.int .u8 e0.k)) b0 1 (.slice A2 (e0.ns.length + 1) c2)
                  have hf := HFm.out.set b0 1 (.slice A2 (e0.ns.length + 1) c2)
                  have sp_H2N := H2N.out.boxT HKm.out (by decide) 1 (.slice A2 (e0.ns.length + 1) c2)
                  replace HKm := Lib.hid (HKm.out.set 1 (.slice A2 (e0.ns.length + 1) c2))
                  replace HP4 := Lib.hid (HP4.out.touch ht (by have hord := HORD.out; omega))
                  replace HB := Lib.hid (Touch.step HB.out ht (by have hord := HORD.out; omega))
                  replace HLS := Lib.hid (HLS.out.touch ht (by have hord := HORD.out; omega))
                  replace HG := Lib.hid (Touch.step HG.out ht (by have hord := HORD.out; omega))
                  replace HFm := Lib.hid hf
                  clear ht hf
                  replace H2N := Lib.hid sp_H2N
                  clear sp_H2N
                  have ht := Touch.set ((D5.setCell ⟨b0, 0, none⟩ (.int .u8 e0.k)).setCell ⟨b0, 1, none⟩ (.slice A2 (e0.ns.length + 1) c2)) b0 2 (.string e0.t)
                  have hf := HFm.out.set b0 2 (.string e0.t)
                  have sp_H2N := H2N.out.boxT HKm.out (by decide) 2 (.string e0.t)
                  replace HKm := Lib.hid (HKm.out.set 2 (.string e0.t))
                  replace HP4 := Lib.hid (HP4.out.touch ht (by have hord := HORD.out; omega))
                  replace HB := Lib.hid (Touch.step HB.out ht (by have hord := HORD.out; omega))
                  replace HLS := Lib.hid (HLS.out.touch ht (by have hord := HORD.out; omega))
                  replace HG := Lib.hid (Touch.step HG.out ht (by have hord := HORD.out; omega))
                  replace HFm := Lib.hid hf
                  clear ht hf
                  replace H2N := Lib.hid sp_H2N
                  clear sp_H2N
                  have hs : D5.heap.size ≤ (((D5.setCell ⟨b0, 0, none⟩ (.int .u8 e0.k)).setCell ⟨b0, 1, none⟩ (.slice A2 (e0.ns.length + 1) c2)).setCell ⟨b0, 2, none⟩ (.string e0.t)).heap.size := by simp
                  have HO2 := Lib.hid (And.intro HORD.out hs)
                  clear HORD
                  have HORD := HO2
                  clear HO2
                  replace HPm := Lib.hid hp
                  clear hp hs
                  refine hK.out _ _ (HKS.out _ HG.out) (fun hHeld => ?_)
                  clear hK K
                  generalize (((D5.setCell ⟨b0, 0, none⟩ (.int .u8 e0.k)).setCell ⟨b0, 1, none⟩ (.slice A2 (e0.ns.length + 1) c2)).setCell ⟨b0, 2, none⟩ (.string e0.t)) = D6 at HP4 HB HLS HG HPm HFm HKm H2N HORD hHeld ⊢
                  try simp only [Act.put, List.setIfInBounds_toArray, List.set_cons_zero, List.set_cons_succ]
                  refine wpAnyH_done (by kernel_rfl) ?_ _
                  go_wp2_with fail
                  go_meet
                  refine ⟨A2, c2, b0, rfl, Lib.hid ⟨HPm.out, cm_of (c := cMoreN e0 n) HY0.out.k (fun x hx => ?_) HY0.out.txt (by have h := H2N.out; simpa [cMoreN, nums] using h), HG.out⟩⟩
                  rcases List.mem_append.1 hx with h | h
                  · exact HY0.out.fit x h
                  · rw [List.mem_singleton.1 h]; exact HNW.out
        case br9_7 =>
          have hb := (Below.refl D1.heap.size D1).alloc (Nat.le_refl _) (.cells #[.int .i64 n] 2)
          have hs : D1.heap.size + 1 ≤ (D1.alloc (.cells #[.int .i64 n] 2)).heap.size := by simp
          replace HP4 := Lib.hid (HP4.out.below hb)
          replace HB := Lib.hid (below_step HB.out hb)
          replace HLS := Lib.hid (HLS.out.below hb)
          replace HG := Lib.hid (below_step HG.out hb)
          have HO2 := Lib.hid (And.intro HORD.out hs)
          clear HORD
          have HORD := HO2
          clear HO2
          have HE1 := Lib.hid (vat_new D1 (.int .i64 n) 2)
          go_simp
          refine hK.out _ _ (HKS.out _ HG.out) (fun hHeld => ?_)
          clear hK K
          clear hb hs
          generalize hWs : D1.heap.size = q0 at HP4 HB HLS HG HE1 HORD ⊢
          clear hWs
          generalize D1.alloc (.cells #[.int .i64 n] 2) = D2 at HP4 HB HLS HG HE1 HORD hHeld ⊢
          try simp only [Act.put, List.setIfInBounds_toArray, List.set_cons_zero, List.set_cons_succ]
          refine wpAnyH_ready (rs := [5, 12]) (by kernel_rfl) (by simp) ?_
          refine (AllReadyH.cons (o := { dst := some 61, op := Go.Op.call { callee := Go.Callee.builtin Go.Builtin.append, args := #[Go.Operand.tmp 58, Go.Operand.tmp 60], argTypes := #[41, 41] }, type := 41, pos := "outright.go:117", after := #[{ on := 2, ground := Go.Ground.data }, { on := 4, ground := Go.Ground.data }], guard := none }) rfl (fun K hK => ?br22_5) (AllReadyH.cons (o := { dst := some 10, op := Go.Op.alloc 51, type := 0, pos := "outright.go:117", after := #[], guard := none }) rfl (fun K hK => ?br22_12) AllReadyH.nil))
          case br22_5 =>
            refine step_append_new 41 2 (.int .i64 0) 8 Tryd.underlying41 infoN rfl (by decide) rfl (.tmp 58) (.tmp 60) rfl z0 rfl A0 e0.ns.length c0 (nums e0.ns) rfl (nums_len _).symm (HY0.out.below HB.out).ns (nums_cell _) HY0.out.nA (by have := HL0.out; simp only [nums_len]; omega) ?_
            intro v1 D3 hO hb
            obtain ⟨A1, c1, rfl, -⟩ := hO.vat
            have hO1 := hO.b
            rw [nums_len] at hO1 ⊢
            clear hO
            replace HP4 := Lib.hid (HP4.out.below hb)
            replace HB := Lib.hid (below_step HB.out hb)
            replace HLS := Lib.hid (HLS.out.below hb)
            replace HG := Lib.hid (below_step HG.out hb)
            replace HE1 := Lib.hid (HE1.out.below hb)
            have HO2 := Lib.hid (And.intro HORD.out hb.size)
            clear HORD
            have HORD := HO2
            clear HO2
            have H1N := Lib.hid hO1
            clear hO1 hb
            refine hK.out _ _ (HKS.out _ HG.out) (fun hHeld => ?_)
            clear hK K
            try simp only [Act.put, List.setIfInBounds_toArray, List.set_cons_zero, List.set_cons_succ]
            refine wpAnyH_ready (rs := [8, 12]) (by kernel_rfl) (by simp) ?_
            refine (AllReadyH.cons (o := { dst := some 64, op := Go.Op.call { callee := Go.Callee.builtin Go.Builtin.append, args := #[Go.Operand.tmp 61, Go.Operand.tmp 63], argTypes := #[41, 41] }, type := 41, pos := "outright.go:117", after := #[{ on := 5, ground := Go.Ground.data }, { on := 7, ground := Go.Ground.data }, { on := 5, ground := Go.Ground.chain }], guard := none }) rfl (fun K hK => ?br23_8) (AllReadyH.cons (o := { dst := some 10, op := Go.Op.alloc 51, type := 0, pos := "outright.go:117", after := #[], guard := none }) rfl (fun K hK => ?br23_12) AllReadyH.nil))
            case br23_8 =>
              refine step_append_one 41 2 (.int .i64 0) 8 Tryd.underlying41 infoN rfl (by decide) rfl (.tmp 61) (.tmp 63) rfl D2.heap.size D3.heap.size _ (nums e0.ns) rfl H1N.out (some ⟨q0, 0, none⟩) 1 (.int .i64 n) rfl HE1.out rfl (by have := HL0.out; simp only [nums_len]; omega) (by have hord := HORD.out; omega) ?_
              intro v2 D4 hO ht
              obtain ⟨A2, c2, rfl, -⟩ := hO.own.vat
              clear H1N
              clear HE1
              have hq : (nums e0.ns ++ [Value.int .i64 n]).length = e0.ns.length + 1 := by simp [nums_len]
              rw [hq] at hO ⊢
              clear hq
              replace HP4 := Lib.hid (HP4.out.touch ht (by have hord := HORD.out; omega))
              replace HB := Lib.hid (Touch.step HB.out ht (by have hord := HORD.out; omega))
              replace HLS := Lib.hid (HLS.out.touch ht (by have hord := HORD.out; omega))
              replace HG := Lib.hid (Touch.step HG.out ht (by have hord := HORD.out; omega))
              have HO2 := Lib.hid (And.intro HORD.out ht.size)
              clear HORD
              have HORD := HO2
              clear HO2
              have H2N := Lib.hid hO
              clear hO ht
              refine hK.out _ _ (HKS.out _ HG.out) (fun hHeld => ?_)
              clear hK K
              try simp only [Act.put, List.setIfInBounds_toArray, List.set_cons_zero, List.set_cons_succ]
              refine wpAnyH_take (i := 11) (oi := { dst := some 67, op := Go.Op.build 51 #[(0, Go.Operand.tmp 57), (1, Go.Operand.tmp 64), (2, Go.Operand.tmp 66)], type := 51, pos := "outright.go:117", after := #[{ on := 1, ground := Go.Ground.data }, { on := 8, ground := Go.Ground.data }, { on := 10, ground := Go.Ground.data }], guard := none }) (v := ?v24) rfl (by kernel_rfl) (by kernel_rfl) (by kernel_rfl) (fun _ _ _ h => h) (Or.inl ⟨by rfl, ?hy24⟩) (by assumption) ?rest24
              case hy24 => (intro w hSw; obtain ⟨s0, s1, s2, s3⟩ := hSw; go_simp; try with_reducible rfl)
              try simp only [Act.put, List.setIfInBounds_toArray, List.set_cons_zero, List.set_cons_succ]
              refine wpAnyH_ready (rs := [12]) (by kernel_rfl) (by simp) ?_
              refine (AllReadyH.cons (o := { dst := some 10, op := Go.Op.alloc 51, type := 0, pos := "outright.go:117", after := #[], guard := none }) rfl (fun K hK => ?br25_12) AllReadyH.nil)
              case br25_12 =>
                have hb := (Below.refl D4.heap.size D4).alloc (Nat.le_refl _) (.cells #[.int .u8 0, .slice none 0 0, .string ⟨#[]⟩] 51)
                have hs : D4.heap.size + 1 ≤ (D4.alloc (.cells #[.int .u8 0, .slice none 0 0, .string ⟨#[]⟩] 51)).heap.size := by simp
                replace HP4 := Lib.hid (HP4.out.below hb)
                replace HB := Lib.hid (below_step HB.out hb)
                replace HLS := Lib.hid (HLS.out.below hb)
                replace HG := Lib.hid (below_step HG.out hb)
                replace H2N := Lib.hid (H2N.out.below hb)
                have HO2 := Lib.hid (And.intro HORD.out hs)
                clear HORD
                have HORD := HO2
                clear HO2
                have HPm := Lib.hid (show Three _ D4.heap.size _ _ _ from box3 D4 (.int .u8 0) (.slice none 0 0) (.string ⟨#[]⟩) 51)
                have HFm := Lib.hid (free_new D4 #[.int .u8 0, .slice none 0 0, .string ⟨#[]⟩] 51)
                have HKm := Lib.hid (boxT_new D4 #[.int .u8 0, .slice none 0 0, .string ⟨#[]⟩] 51)
                go_simp
                refine hK.out _ _ (HKS.out _ HG.out) (fun hHeld => ?_)
                clear hK K
                clear hb hs
                generalize hWs : D4.heap.size = b0 at HP4 HB HLS HG H2N HPm HFm HKm HORD ⊢
                clear hWs
                generalize D4.alloc (.cells #[.int .u8 0, .slice none 0 0, .string ⟨#[]⟩] 51) = D5 at HP4 HB HLS HG H2N HPm HFm HKm HORD hHeld ⊢
                try simp only [Act.put, List.setIfInBounds_toArray, List.set_cons_zero, List.set_cons_succ]
                refine wpAnyH_ready (rs := [13]) (by kernel_rfl) (by simp) ?_
                refine (AllReadyH.cons (o := { dst := none, op := Go.Op.store 51 (Go.Operand.tmp 10) (Go.Operand.tmp 67), type := 0, pos := "outright.go:117", after := #[{ on := 12, ground := Go.Ground.data }, { on := 11, ground := Go.Ground.data }, { on := 8, ground := Go.Ground.chain }, { on := 0, ground := Go.Ground.phase }, { on := 1, ground := Go.Ground.phase }, { on := 2, ground := Go.Ground.phase }, { on := 3, ground := Go.Ground.phase }, { on := 4, ground := Go.Ground.phase }, { on := 5, ground := Go.Ground.phase }, { on := 6, ground := Go.Ground.phase }, { on := 7, ground := Go.Ground.phase }, { on := 8, ground := Go.Ground.phase }, { on := 9, ground := Go.Ground.phase }, { on := 10, ground := Go.Ground.phase }, { on := 11, ground := Go.Ground.phase }, { on := 12, ground := Go.Ground.phase }], guard := none }) rfl (fun K hK => ?br26_13) AllReadyH.nil)
                case br26_13 =>
                  obtain ⟨hpm_0, hpm_1, hpm_2⟩ := HPm.out
                  have f0 := HFm.out.2 0
                  have f1 := HFm.out.2 1
                  have f2 := HFm.out.2 2
                  go_simp
                  clear hpm_0 hpm_1 hpm_2
                  clear f0 f1 f2
                  have hp := (((HPm.out.set0 (.int .u8 e0.k)).set1 (.slice A2 (e0.ns.length + 1) c2)).set2 (.string e0.t))
                  have ht := Touch.set D5 b0 0 (.int .u8 e0.k)
                  have hf := HFm.out.set b0 0 (.int .u8 e0.k)
                  have sp_H2N := H2N.out.boxT HKm.out (by decide) 0 (.int .u8 e0.k)
                  replace HKm := Lib.hid (HKm.out.set 0 (.int .u8 e0.k))
                  replace HP4 := Lib.hid (HP4.out.touch ht (by have hord := HORD.out; omega))
                  replace HB := Lib.hid (Touch.step HB.out ht (by have hord := HORD.out; omega))
                  replace HLS := Lib.hid (HLS.out.touch ht (by have hord := HORD.out; omega))
                  replace HG := Lib.hid (Touch.step HG.out ht (by have hord := HORD.out; omega))
                  replace HFm := Lib.hid hf
                  clear ht hf
                  replace H2N := Lib.hid sp_H2N
                  clear sp_H2N
                  have ht := Touch.set (D5.setCell ⟨b0, 0, none⟩ (.int .u8 e0.k)) b0 1 (.slice A2 (e0.ns.length + 1) c2)
                  have hf := HFm.out.set b0 1 (.slice A2 (e0.ns.length + 1) c2)
                  have sp_H2N := H2N.out.boxT HKm.out (by decide) 1 (.slice A2 (e0.ns.length + 1) c2)
                  replace HKm := Lib.hid (HKm.out.set 1 (.slice A2 (e0.ns.length + 1) c2))
                  replace HP4 := Lib.hid (HP4.out.touch ht (by have hord := HORD.out; omega))
                  replace HB := Lib.hid (Touch.step HB.out ht (by have hord := HORD.out; omega))
                  replace HLS := Lib.hid (HLS.out.touch ht (by have hord := HORD.out; omega))
                  replace HG := Lib.hid (Touch.step HG.out ht (by have hord := HORD.out; omega))
                  replace HFm := Lib.hid hf
                  clear ht hf
                  replace H2N := Lib.hid sp_H2N
                  clear sp_H2N
                  have ht := Touch.set ((D5.setCell ⟨b0, 0, none⟩ (.int .u8 e0.k)).setCell ⟨b0, 1, none⟩ (.slice A2 (e0.ns.length + 1) c2)) b0 2 (.string e0.t)
                  have hf := HFm.out.set b0 2 (.string e0.t)
                  have sp_H2N := H2N.out.boxT HKm.out (by decide) 2 (.string e0.t)
                  replace HKm := Lib.hid (HKm.out.set 2 (.string e0.t))
                  replace HP4 := Lib.hid (HP4.out.touch ht (by have hord := HORD.out; omega))
                  replace HB := Lib.hid (Touch.step HB.out ht (by have hord := HORD.out; omega))
                  replace HLS := Lib.hid (HLS.out.touch ht (by have hord := HORD.out; omega))
                  replace HG := Lib.hid (Touch.step HG.out ht (by have hord := HORD.out; omega))
                  replace HFm := Lib.hid hf
                  clear ht hf
                  replace H2N := Lib.hid sp_H2N
                  clear sp_H2N
                  have hs : D5.heap.size ≤ (((D5.setCell ⟨b0, 0, none⟩ (.int .u8 e0.k)).setCell ⟨b0, 1, none⟩ (.slice A2 (e0.ns.length + 1) c2)).setCell ⟨b0, 2, none⟩ (.string e0.t)).heap.size := by simp
                  have HO2 := Lib.hid (And.intro HORD.out hs)
                  clear HORD
                  have HORD := HO2
                  clear HO2
                  replace HPm := Lib.hid hp
                  clear hp hs
                  refine hK.out _ _ (HKS.out _ HG.out) (fun hHeld => ?_)
                  clear hK K
                  generalize (((D5.setCell ⟨b0, 0, none⟩ (.int .u8 e0.k)).setCell ⟨b0, 1, none⟩ (.slice A2 (e0.ns.length + 1) c2)).setCell ⟨b0, 2, none⟩ (.string e0.t)) = D6 at HP4 HB HLS HG H2N HPm HFm HKm HORD hHeld ⊢
                  try simp only [Act.put, List.setIfInBounds_toArray, List.set_cons_zero, List.set_cons_succ]
                  refine wpAnyH_done (by kernel_rfl) ?_ _
                  go_wp2_with fail
                  go_meet
                  refine ⟨A2, c2, b0, rfl, Lib.hid ⟨HPm.out, cm_of (c := cMoreN e0 n) HY0.out.k (fun x hx => ?_) HY0.out.txt (by have h := H2N.out; simpa [cMoreN, nums] using h), HG.out⟩⟩
                  rcases List.mem_append.1 hx with h | h
                  · exact HY0.out.fit x h
                  · rw [List.mem_singleton.1 h]; exact HNW.out
            case br23_12 =>
              have hb := (Below.refl D3.heap.size D3).alloc (Nat.le_refl _) (.cells #[.int .u8 0, .slice none 0 0, .string ⟨#[]⟩] 51)
              have hs : D3.heap.size + 1 ≤ (D3.alloc (.cells #[.int .u8 0, .slice none 0 0, .string ⟨#[]⟩] 51)).heap.size := by simp
              replace HP4 := Lib.hid (HP4.out.below hb)
              replace HB := Lib.hid (below_step HB.out hb)
              replace HLS := Lib.hid (HLS.out.below hb)
              replace HG := Lib.hid (below_step HG.out hb)
              replace HE1 := Lib.hid (HE1.out.below hb)
              replace H1N := Lib.hid (H1N.out.below hb)
              have HO2 := Lib.hid (And.intro HORD.out hs)
              clear HORD
              have HORD := HO2
              clear HO2
              have HPm := Lib.hid (show Three _ D3.heap.size _ _ _ from box3 D3 (.int .u8 0) (.slice none 0 0) (.string ⟨#[]⟩) 51)
              have HFm := Lib.hid (free_new D3 #[.int .u8 0, .slice none 0 0, .string ⟨#[]⟩] 51)
              have HKm := Lib.hid (boxT_new D3 #[.int .u8 0, .slice none 0 0, .string ⟨#[]⟩] 51)
              go_simp
              refine hK.out _ _ (HKS.out _ HG.out) (fun hHeld => ?_)
              clear hK K
              clear hb hs
              generalize hWs : D3.heap.size = b0 at HP4 HB HLS HG HE1 H1N HPm HFm HKm HORD ⊢
              clear hWs
              generalize D3.alloc (.cells #[.int .u8 0, .slice none 0 0, .string ⟨#[]⟩] 51) = D4 at HP4 HB HLS HG HE1 H1N HPm HFm HKm HORD hHeld ⊢
              try simp only [Act.put, List.setIfInBounds_toArray, List.set_cons_zero, List.set_cons_succ]
              refine wpAnyH_ready (rs := [8]) (by kernel_rfl) (by simp) ?_
              refine (AllReadyH.cons (o := { dst := some 64, op := Go.Op.call { callee := Go.Callee.builtin Go.Builtin.append, args := #[Go.Operand.tmp 61, Go.Operand.tmp 63], argTypes := #[41, 41] }, type := 41, pos := "outright.go:117", after := #[{ on := 5, ground := Go.Ground.data }, { on := 7, ground := Go.Ground.data }, { on := 5, ground := Go.Ground.chain }], guard := none }) rfl (fun K hK => ?br27_8) AllReadyH.nil)
              case br27_8 =>
                refine step_append_one 41 2 (.int .i64 0) 8 Tryd.underlying41 infoN rfl (by decide) rfl (.tmp 61) (.tmp 63) rfl D2.heap.size b0 _ (nums e0.ns) rfl H1N.out (some ⟨q0, 0, none⟩) 1 (.int .i64 n) rfl HE1.out rfl (by have := HL0.out; simp only [nums_len]; omega) (by have hord := HORD.out; omega) ?_
                intro v2 D5 hO ht
                obtain ⟨A2, c2, rfl, -⟩ := hO.own.vat
                clear H1N
                clear HE1
                have hq : (nums e0.ns ++ [Value.int .i64 n]).length = e0.ns.length + 1 := by simp [nums_len]
                rw [hq] at hO ⊢
                clear hq
                replace HP4 := Lib.hid (HP4.out.touch ht (by have hord := HORD.out; omega))
                replace HB := Lib.hid (Touch.step HB.out ht (by have hord := HORD.out; omega))
                replace HLS := Lib.hid (HLS.out.touch ht (by have hord := HORD.out; omega))
                replace HG := Lib.hid (Touch.step HG.out ht (by have hord := HORD.out; omega))
                replace HPm := Lib.hid (HPm.out.touch ht (by have hord := HORD.out; omega))
                replace HFm := Lib.hid (HFm.out.touch ht (by have hord := HORD.out; omega))
                replace HKm := Lib.hid (HKm.out.touch ht (by have hord := HORD.out; omega))
                have HO2 := Lib.hid (And.intro HORD.out ht.size)
                clear HORD
                have HORD := HO2
                clear HO2
                have H2N := Lib.hid hO
                clear hO ht
                refine hK.out _ _ (HKS.out _ HG.out) (fun hHeld => ?_)
                clear hK K
                try simp only [Act.put, List.setIfInBounds_toArray, List.set_cons_zero, List.set_cons_succ]
                refine wpAnyH_take (i := 11) (oi := { dst := some 67, op := Go.Op.build 51 #[(0, Go.Operand.tmp 57), (1, Go.Operand.tmp 64), (2, Go.Operand.tmp 66)], type := 51, pos := "outright.go:117", after := #[{ on := 1, ground := Go.Ground.data }, { on := 8, ground := Go.Ground.data }, { on := 10, ground := Go.Ground.data }], guard := none }) (v := ?v28) rfl (by kernel_rfl) (by kernel_rfl) (by kernel_rfl) (fun _ _ _ h => h) (Or.inl ⟨by rfl, ?hy28⟩) (by assumption) ?rest28
                case hy28 => (intro w hSw; obtain ⟨s0, s1, s2, s3⟩ := hSw; go_simp; try with_reducible rfl)
                try simp only [Act.put, List.setIfInBounds_toArray, List.set_cons_zero, List.set_cons_succ]
                refine wpAnyH_ready (rs := [13]) (by kernel_rfl) (by simp) ?_
                refine (AllReadyH.cons (o := { dst := none, op := Go.Op.store 51 (Go.Operand.tmp 10) (Go.Operand.tmp 67), type := 0, pos := "outright.go:117", after := #[{ on := 12, ground := Go.Ground.data }, { on := 11, ground := Go.Ground.data }, { on := 8, ground := Go.Ground.chain }, { on := 0, ground := Go.Ground.phase }, { on := 1, ground := Go.Ground.phase }, { on := 2, ground := Go.Ground.phase }, { on := 3, ground := Go.Ground.phase }, { on := 4, ground := Go.Ground.phase }, { on := 5, ground := Go.Ground.phase }, { on := 6, ground := Go.Ground.phase }, { on := 7, ground := Go.Ground.phase }, { on := 8, ground := Go.Ground.phase }, { on := 9, ground := Go.Ground.phase }, { on := 10, ground := Go.Ground.phase }, { on := 11, ground := Go.Ground.phase }, { on := 12, ground := Go.Ground.phase }], guard := none }) rfl (fun K hK => ?br29_13) AllReadyH.nil)
                case br29_13 =>
                  obtain ⟨hpm_0, hpm_1, hpm_2⟩ := HPm.out
                  have f0 := HFm.out.2 0
                  have f1 := HFm.out.2 1
                  have f2 := HFm.out.2 2
                  go_simp
                  clear hpm_0 hpm_1 hpm_2
                  clear f0 f1 f2
                  have hp := (((HPm.out.set0 (.int .u8 e0.k)).set1 (.slice A2 (e0.ns.length + 1) c2)).set2 (.string e0.t))
                  have ht := Touch.set D5 b0 0 (.int .u8 e0.k)
                  have hf := HFm.out.set b0 0 (.int .u8 e0.k)
                  have sp_H2N := H2N.out.boxT HKm.out (by decide) 0 (.int .u8 e0.k)
                  replace HKm := Lib.hid (HKm.out.set 0 (.int .u8 e0.k))
                  replace HP4 := Lib.hid (HP4.out.touch ht (by have hord := HORD.out; omega))
                  replace HB := Lib.hid (Touch.step HB.out ht (by have hord := HORD.out; omega))
                  replace HLS := Lib.hid (HLS.out.touch ht (by have hord := HORD.out; omega))
                  replace HG := Lib.hid (Touch.step HG.out ht (by have hord := HORD.out; omega))
                  replace HFm := Lib.hid hf
                  clear ht hf
                  replace H2N := Lib.hid sp_H2N
                  clear sp_H2N
                  have ht := Touch.set (D5.setCell ⟨b0, 0, none⟩ (.int .u8 e0.k)) b0 1 (.slice A2 (e0.ns.length + 1) c2)
                  have hf := HFm.out.set b0 1 (.slice A2 (e0.ns.length + 1) c2)
                  have sp_H2N := H2N.out.boxT HKm.out (by decide) 1 (.slice A2 (e0.ns.length + 1) c2)
                  replace HKm := Lib.hid (HKm.out.set 1 (.slice A2 (e0.ns.length + 1) c2))
                  replace HP4 := Lib.hid (HP4.out.touch ht (by have hord := HORD.out; omega))
                  replace HB := Lib.hid (Touch.step HB.out ht (by have hord := HORD.out; omega))
                  replace HLS := Lib.hid (HLS.out.touch ht (by have hord := HORD.out; omega))
                  replace HG := Lib.hid (Touch.step HG.out ht (by have hord := HORD.out; omega))
                  replace HFm := Lib.hid hf
                  clear ht hf
                  replace H2N := Lib.hid sp_H2N
                  clear sp_H2N
                  have ht := Touch.set ((D5.setCell ⟨b0, 0, none⟩ (.int .u8 e0.k)).setCell ⟨b0, 1, none⟩ (.slice A2 (e0.ns.length + 1) c2)) b0 2 (.string e0.t)
                  have hf := HFm.out.set b0 2 (.string e0.t)
                  have sp_H2N := H2N.out.boxT HKm.out (by decide) 2 (.string e0.t)
                  replace HKm := Lib.hid (HKm.out.set 2 (.string e0.t))
                  replace HP4 := Lib.hid (HP4.out.touch ht (by have hord := HORD.out; omega))
                  replace HB := Lib.hid (Touch.step HB.out ht (by have hord := HORD.out; omega))
                  replace HLS := Lib.hid (HLS.out.touch ht (by have hord := HORD.out; omega))
                  replace HG := Lib.hid (Touch.step HG.out ht (by have hord := HORD.out; omega))
                  replace HFm := Lib.hid hf
                  clear ht hf
                  replace H2N := Lib.hid sp_H2N
                  clear sp_H2N
                  have hs : D5.heap.size ≤ (((D5.setCell ⟨b0, 0, none⟩ (.int .u8 e0.k)).setCell ⟨b0, 1, none⟩ (.slice A2 (e0.ns.length + 1) c2)).setCell ⟨b0, 2, none⟩ (.string e0.t)).heap.size := by simp
                  have HO2 := Lib.hid (And.intro HORD.out hs)
                  clear HORD
                  have HORD := HO2
                  clear HO2
                  replace HPm := Lib.hid hp
                  clear hp hs
                  refine hK.out _ _ (HKS.out _ HG.out) (fun hHeld => ?_)
                  clear hK K
                  generalize (((D5.setCell ⟨b0, 0, none⟩ (.int .u8 e0.k)).setCell ⟨b0, 1, none⟩ (.slice A2 (e0.ns.length + 1) c2)).setCell ⟨b0, 2, none⟩ (.string e0.t)) = D6 at HP4 HB HLS HG HPm HFm HKm H2N HORD hHeld ⊢
                  try simp only [Act.put, List.setIfInBounds_toArray, List.set_cons_zero, List.set_cons_succ]
                  refine wpAnyH_done (by kernel_rfl) ?_ _
                  go_wp2_with fail
                  go_meet
                  refine ⟨A2, c2, b0, rfl, Lib.hid ⟨HPm.out, cm_of (c := cMoreN e0 n) HY0.out.k (fun x hx => ?_) HY0.out.txt (by have h := H2N.out; simpa [cMoreN, nums] using h), HG.out⟩⟩
                  rcases List.mem_append.1 hx with h | h
                  · exact HY0.out.fit x h
                  · rw [List.mem_singleton.1 h]; exact HNW.out
          case br22_12 =>
            have hb := (Below.refl D2.heap.size D2).alloc (Nat.le_refl _) (.cells #[.int .u8 0, .slice none 0 0, .string ⟨#[]⟩] 51)
            have hs : D2.heap.size + 1 ≤ (D2.alloc (.cells #[.int .u8 0, .slice none 0 0, .string ⟨#[]⟩] 51)).heap.size := by simp
            replace HP4 := Lib.hid (HP4.out.below hb)
            replace HB := Lib.hid (below_step HB.out hb)
            replace HLS := Lib.hid (HLS.out.below hb)
            replace HG := Lib.hid (below_step HG.out hb)
            replace HE1 := Lib.hid (HE1.out.below hb)
            have HO2 := Lib.hid (And.intro HORD.out hs)
            clear HORD
            have HORD := HO2
            clear HO2
            have HPm := Lib.hid (show Three _ D2.heap.size _ _ _ from box3 D2 (.int .u8 0) (.slice none 0 0) (.string ⟨#[]⟩) 51)
            have HFm := Lib.hid (free_new D2 #[.int .u8 0, .slice none 0 0, .string ⟨#[]⟩] 51)
            have HKm := Lib.hid (boxT_new D2 #[.int .u8 0, .slice none 0 0, .string ⟨#[]⟩] 51)
            go_simp
            refine hK.out _ _ (HKS.out _ HG.out) (fun hHeld => ?_)
            clear hK K
            clear hb hs
            generalize hWs : D2.heap.size = b0 at HP4 HB HLS HG HE1 HPm HFm HKm HORD ⊢
            clear hWs
            generalize D2.alloc (.cells #[.int .u8 0, .slice none 0 0, .string ⟨#[]⟩] 51) = D3 at HP4 HB HLS HG HE1 HPm HFm HKm HORD hHeld ⊢
            try simp only [Act.put, List.setIfInBounds_toArray, List.set_cons_zero, List.set_cons_succ]
            refine wpAnyH_ready (rs := [5]) (by kernel_rfl) (by simp) ?_
            refine (AllReadyH.cons (o := { dst := some 61, op := Go.Op.call { callee := Go.Callee.builtin Go.Builtin.append, args := #[Go.Operand.tmp 58, Go.Operand.tmp 60], argTypes := #[41, 41] }, type := 41, pos := "outright.go:117", after := #[{ on := 2, ground := Go.Ground.data }, { on := 4, ground := Go.Ground.data }], guard := none }) rfl (fun K hK => ?br30_5) AllReadyH.nil)
            case br30_5 =>
              refine step_append_new 41 2 (.int .i64 0) 8 Tryd.underlying41 infoN rfl (by decide) rfl (.tmp 58) (.tmp 60) rfl z0 rfl A0 e0.ns.length c0 (nums e0.ns) rfl (nums_len _).symm (HY0.out.below HB.out).ns (nums_cell _) HY0.out.nA (by have := HL0.out; simp only [nums_len]; omega) ?_
              intro v1 D4 hO hb
              obtain ⟨A1, c1, rfl, -⟩ := hO.vat
              have hO1 := hO.b
              rw [nums_len] at hO1 ⊢
              clear hO
              replace HP4 := Lib.hid (HP4.out.below hb)
              replace HB := Lib.hid (below_step HB.out hb)
              replace HLS := Lib.hid (HLS.out.below hb)
              replace HG := Lib.hid (below_step HG.out hb)
              replace HE1 := Lib.hid (HE1.out.below hb)
              replace HPm := Lib.hid (HPm.out.below hb)
              replace HFm := Lib.hid (HFm.out.below hb)
              replace HKm := Lib.hid (HKm.out.below hb)
              have HO2 := Lib.hid (And.intro HORD.out hb.size)
              clear HORD
              have HORD := HO2
              clear HO2
              have H1N := Lib.hid hO1
              clear hO1 hb
              refine hK.out _ _ (HKS.out _ HG.out) (fun hHeld => ?_)
              clear hK K
              try simp only [Act.put, List.setIfInBounds_toArray, List.set_cons_zero, List.set_cons_succ]
              refine wpAnyH_ready (rs := [8]) (by kernel_rfl) (by simp) ?_
              refine (AllReadyH.cons (o := { dst := some 64, op := Go.Op.call { callee := Go.Callee.builtin Go.Builtin.append, args := #[Go.Operand.tmp 61, Go.Operand.tmp 63], argTypes := #[41, 41] }, type := 41, pos := "outright.go:117", after := #[{ on := 5, ground := Go.Ground.data }, { on := 7, ground := Go.Ground.data }, { on := 5, ground := Go.Ground.chain }], guard := none }) rfl (fun K hK => ?br31_8) AllReadyH.nil)
              case br31_8 =>
                refine step_append_one 41 2 (.int .i64 0) 8 Tryd.underlying41 infoN rfl (by decide) rfl (.tmp 61) (.tmp 63) rfl D3.heap.size D4.heap.size _ (nums e0.ns) rfl H1N.out (some ⟨q0, 0, none⟩) 1 (.int .i64 n) rfl HE1.out rfl (by have := HL0.out; simp only [nums_len]; omega) (by have hord := HORD.out; omega) ?_
                intro v2 D5 hO ht
                obtain ⟨A2, c2, rfl, -⟩ := hO.own.vat
                clear H1N
                clear HE1
                have hq : (nums e0.ns ++ [Value.int .i64 n]).length = e0.ns.length + 1 := by simp [nums_len]
                rw [hq] at hO ⊢
                clear hq
                replace HP4 := Lib.hid (HP4.out.touch ht (by have hord := HORD.out; omega))
                replace HB := Lib.hid (Touch.step HB.out ht (by have hord := HORD.out; omega))
                replace HLS := Lib.hid (HLS.out.touch ht (by have hord := HORD.out; omega))
                replace HG := Lib.hid (Touch.step HG.out ht (by have hord := HORD.out; omega))
                replace HPm := Lib.hid (HPm.out.touch ht (by have hord := HORD.out; omega))
                replace HFm := Lib.hid (HFm.out.touch ht (by have hord := HORD.out; omega))
                replace HKm := Lib.hid (HKm.out.touch ht (by have hord := HORD.out; omega))
                have HO2 := Lib.hid (And.intro HORD.out ht.size)
                clear HORD
                have HORD := HO2
                clear HO2
                have H2N := Lib.hid hO
                clear hO ht
                refine hK.out _ _ (HKS.out _ HG.out) (fun hHeld => ?_)
                clear hK K
                try simp only [Act.put, List.setIfInBounds_toArray, List.set_cons_zero, List.set_cons_succ]
                refine wpAnyH_take (i := 11) (oi := { dst := some 67, op := Go.Op.build 51 #[(0, Go.Operand.tmp 57), (1, Go.Operand.tmp 64), (2, Go.Operand.tmp 66)], type := 51, pos := "outright.go:117", after := #[{ on := 1, ground := Go.Ground.data }, { on := 8, ground := Go.Ground.data }, { on := 10, ground := Go.Ground.data }], guard := none }) (v := ?v32) rfl (by kernel_rfl) (by kernel_rfl) (by kernel_rfl) (fun _ _ _ h => h) (Or.inl ⟨by rfl, ?hy32⟩) (by assumption) ?rest32
                case hy32 => (intro w hSw; obtain ⟨s0, s1, s2, s3⟩ := hSw; go_simp; try with_reducible rfl)
                try simp only [Act.put, List.setIfInBounds_toArray, List.set_cons_zero, List.set_cons_succ]
                refine wpAnyH_ready (rs := [13]) (by kernel_rfl) (by simp) ?_
                refine (AllReadyH.cons (o := { dst := none, op := Go.Op.store 51 (Go.Operand.tmp 10) (Go.Operand.tmp 67), type := 0, pos := "outright.go:117", after := #[{ on := 12, ground := Go.Ground.data }, { on := 11, ground := Go.Ground.data }, { on := 8, ground := Go.Ground.chain }, { on := 0, ground := Go.Ground.phase }, { on := 1, ground := Go.Ground.phase }, { on := 2, ground := Go.Ground.phase }, { on := 3, ground := Go.Ground.phase }, { on := 4, ground := Go.Ground.phase }, { on := 5, ground := Go.Ground.phase }, { on := 6, ground := Go.Ground.phase }, { on := 7, ground := Go.Ground.phase }, { on := 8, ground := Go.Ground.phase }, { on := 9, ground := Go.Ground.phase }, { on := 10, ground := Go.Ground.phase }, { on := 11, ground := Go.Ground.phase }, { on := 12, ground := Go.Ground.phase }], guard := none }) rfl (fun K hK => ?br33_13) AllReadyH.nil)
                case br33_13 =>
                  obtain ⟨hpm_0, hpm_1, hpm_2⟩ := HPm.out
                  have f0 := HFm.out.2 0
                  have f1 := HFm.out.2 1
                  have f2 := HFm.out.2 2
                  go_simp
                  clear hpm_0 hpm_1 hpm_2
                  clear f0 f1 f2
                  have hp := (((HPm.out.set0 (.int .u8 e0.k)).set1 (.slice A2 (e0.ns.length + 1) c2)).set2 (.string e0.t))
                  have ht := Touch.set D5 b0 0 (.int .u8 e0.k)
                  have hf := HFm.out.set b0 0 (.int .u8 e0.k)
                  have sp_H2N := H2N.out.boxT HKm.out (by decide) 0 (.int .u8 e0.k)
                  replace HKm := Lib.hid (HKm.out.set 0 (.int .u8 e0.k))
                  replace HP4 := Lib.hid (HP4.out.touch ht (by have hord := HORD.out; omega))
                  replace HB := Lib.hid (Touch.step HB.out ht (by have hord := HORD.out; omega))
                  replace HLS := Lib.hid (HLS.out.touch ht (by have hord := HORD.out; omega))
                  replace HG := Lib.hid (Touch.step HG.out ht (by have hord := HORD.out; omega))
                  replace HFm := Lib.hid hf
                  clear ht hf
                  replace H2N := Lib.hid sp_H2N
                  clear sp_H2N
                  have ht := Touch.set (D5.setCell ⟨b0, 0, none⟩ (.int .u8 e0.k)) b0 1 (.slice A2 (e0.ns.length + 1) c2)
                  have hf := HFm.out.set b0 1 (.slice A2 (e0.ns.length + 1) c2)
                  have sp_H2N := H2N.out.boxT HKm.out (by decide) 1 (.slice A2 (e0.ns.length + 1) c2)
                  replace HKm := Lib.hid (HKm.out.set 1 (.slice A2 (e0.ns.length + 1) c2))
                  replace HP4 := Lib.hid (HP4.out.touch ht (by have hord := HORD.out; omega))
                  replace HB := Lib.hid (Touch.step HB.out ht (by have hord := HORD.out; omega))
                  replace HLS := Lib.hid (HLS.out.touch ht (by have hord := HORD.out; omega))
                  replace HG := Lib.hid (Touch.step HG.out ht (by have hord := HORD.out; omega))
                  replace HFm := Lib.hid hf
                  clear ht hf
                  replace H2N := Lib.hid sp_H2N
                  clear sp_H2N
                  have ht := Touch.set ((D5.setCell ⟨b0, 0, none⟩ (.int .u8 e0.k)).setCell ⟨b0, 1, none⟩ (.slice A2 (e0.ns.length + 1) c2)) b0 2 (.string e0.t)
                  have hf := HFm.out.set b0 2 (.string e0.t)
                  have sp_H2N := H2N.out.boxT HKm.out (by decide) 2 (.string e0.t)
                  replace HKm := Lib.hid (HKm.out.set 2 (.string e0.t))
                  replace HP4 := Lib.hid (HP4.out.touch ht (by have hord := HORD.out; omega))
                  replace HB := Lib.hid (Touch.step HB.out ht (by have hord := HORD.out; omega))
                  replace HLS := Lib.hid (HLS.out.touch ht (by have hord := HORD.out; omega))
                  replace HG := Lib.hid (Touch.step HG.out ht (by have hord := HORD.out; omega))
                  replace HFm := Lib.hid hf
                  clear ht hf
                  replace H2N := Lib.hid sp_H2N
                  clear sp_H2N
                  have hs : D5.heap.size ≤ (((D5.setCell ⟨b0, 0, none⟩ (.int .u8 e0.k)).setCell ⟨b0, 1, none⟩ (.slice A2 (e0.ns.length + 1) c2)).setCell ⟨b0, 2, none⟩ (.string e0.t)).heap.size := by simp
                  have HO2 := Lib.hid (And.intro HORD.out hs)
                  clear HORD
                  have HORD := HO2
                  clear HO2
                  replace HPm := Lib.hid hp
                  clear hp hs
                  refine hK.out _ _ (HKS.out _ HG.out) (fun hHeld => ?_)
                  clear hK K
                  generalize (((D5.setCell ⟨b0, 0, none⟩ (.int .u8 e0.k)).setCell ⟨b0, 1, none⟩ (.slice A2 (e0.ns.length + 1) c2)).setCell ⟨b0, 2, none⟩ (.string e0.t)) = D6 at HP4 HB HLS HG HPm HFm HKm H2N HORD hHeld ⊢
                  try simp only [Act.put, List.setIfInBounds_toArray, List.set_cons_zero, List.set_cons_succ]
                  refine wpAnyH_done (by kernel_rfl) ?_ _
                  go_wp2_with fail
                  go_meet
                  refine ⟨A2, c2, b0, rfl, Lib.hid ⟨HPm.out, cm_of (c := cMoreN e0 n) HY0.out.k (fun x hx => ?_) HY0.out.txt (by have h := H2N.out; simpa [cMoreN, nums] using h), HG.out⟩⟩
                  rcases List.mem_append.1 hx with h | h
                  · exact HY0.out.fit x h
                  · rw [List.mem_singleton.1 h]; exact HNW.out
        case br9_12 =>
          have hb := (Below.refl D1.heap.size D1).alloc (Nat.le_refl _) (.cells #[.int .u8 0, .slice none 0 0, .string ⟨#[]⟩] 51)
          have hs : D1.heap.size + 1 ≤ (D1.alloc (.cells #[.int .u8 0, .slice none 0 0, .string ⟨#[]⟩] 51)).heap.size := by simp
          replace HP4 := Lib.hid (HP4.out.below hb)
          replace HB := Lib.hid (below_step HB.out hb)
          replace HLS := Lib.hid (HLS.out.below hb)
          replace HG := Lib.hid (below_step HG.out hb)
          have HO2 := Lib.hid (And.intro HORD.out hs)
          clear HORD
          have HORD := HO2
          clear HO2
          have HPm := Lib.hid (show Three _ D1.heap.size _ _ _ from box3 D1 (.int .u8 0) (.slice none 0 0) (.string ⟨#[]⟩) 51)
          have HFm := Lib.hid (free_new D1 #[.int .u8 0, .slice none 0 0, .string ⟨#[]⟩] 51)
          have HKm := Lib.hid (boxT_new D1 #[.int .u8 0, .slice none 0 0, .string ⟨#[]⟩] 51)
          go_simp
          refine hK.out _ _ (HKS.out _ HG.out) (fun hHeld => ?_)
          clear hK K
          clear hb hs
          generalize hWs : D1.heap.size = b0 at HP4 HB HLS HG HPm HFm HKm HORD ⊢
          clear hWs
          generalize D1.alloc (.cells #[.int .u8 0, .slice none 0 0, .string ⟨#[]⟩] 51) = D2 at HP4 HB HLS HG HPm HFm HKm HORD hHeld ⊢
          try simp only [Act.put, List.setIfInBounds_toArray, List.set_cons_zero, List.set_cons_succ]
          refine wpAnyH_ready (rs := [5, 7]) (by kernel_rfl) (by simp) ?_
          refine (AllReadyH.cons (o := { dst := some 61, op := Go.Op.call { callee := Go.Callee.builtin Go.Builtin.append, args := #[Go.Operand.tmp 58, Go.Operand.tmp 60], argTypes := #[41, 41] }, type := 41, pos := "outright.go:117", after := #[{ on := 2, ground := Go.Ground.data }, { on := 4, ground := Go.Ground.data }], guard := none }) rfl (fun K hK => ?br34_5) (AllReadyH.cons (o := { dst := some 63, op := Go.Op.buildSlice 41 1 #[(0, Go.Operand.tmp 62)], type := 41, pos := "outright.go:117", after := #[{ on := 6, ground := Go.Ground.data }], guard := none }) rfl (fun K hK => ?br34_7) AllReadyH.nil))
          case br34_5 =>
            refine step_append_new 41 2 (.int .i64 0) 8 Tryd.underlying41 infoN rfl (by decide) rfl (.tmp 58) (.tmp 60) rfl z0 rfl A0 e0.ns.length c0 (nums e0.ns) rfl (nums_len _).symm (HY0.out.below HB.out).ns (nums_cell _) HY0.out.nA (by have := HL0.out; simp only [nums_len]; omega) ?_
            intro v1 D3 hO hb
            obtain ⟨A1, c1, rfl, -⟩ := hO.vat
            have hO1 := hO.b
            rw [nums_len] at hO1 ⊢
            clear hO
            replace HP4 := Lib.hid (HP4.out.below hb)
            replace HB := Lib.hid (below_step HB.out hb)
            replace HLS := Lib.hid (HLS.out.below hb)
            replace HG := Lib.hid (below_step HG.out hb)
            replace HPm := Lib.hid (HPm.out.below hb)
            replace HFm := Lib.hid (HFm.out.below hb)
            replace HKm := Lib.hid (HKm.out.below hb)
            have HO2 := Lib.hid (And.intro HORD.out hb.size)
            clear HORD
            have HORD := HO2
            clear HO2
            have H1N := Lib.hid hO1
            clear hO1 hb
            refine hK.out _ _ (HKS.out _ HG.out) (fun hHeld => ?_)
            clear hK K
            try simp only [Act.put, List.setIfInBounds_toArray, List.set_cons_zero, List.set_cons_succ]
            refine wpAnyH_ready (rs := [7]) (by kernel_rfl) (by simp) ?_
            refine (AllReadyH.cons (o := { dst := some 63, op := Go.Op.buildSlice 41 1 #[(0, Go.Operand.tmp 62)], type := 41, pos := "outright.go:117", after := #[{ on := 6, ground := Go.Ground.data }], guard := none }) rfl (fun K hK => ?br35_7) AllReadyH.nil)
            case br35_7 =>
              have hb := (Below.refl D3.heap.size D3).alloc (Nat.le_refl _) (.cells #[.int .i64 n] 2)
              have hs : D3.heap.size + 1 ≤ (D3.alloc (.cells #[.int .i64 n] 2)).heap.size := by simp
              replace HP4 := Lib.hid (HP4.out.below hb)
              replace HB := Lib.hid (below_step HB.out hb)
              replace HLS := Lib.hid (HLS.out.below hb)
              replace HG := Lib.hid (below_step HG.out hb)
              replace HPm := Lib.hid (HPm.out.below hb)
              replace HFm := Lib.hid (HFm.out.below hb)
              replace HKm := Lib.hid (HKm.out.below hb)
              replace H1N := Lib.hid (H1N.out.below hb)
              have HO2 := Lib.hid (And.intro HORD.out hs)
              clear HORD
              have HORD := HO2
              clear HO2
              have HE1 := Lib.hid (vat_new D3 (.int .i64 n) 2)
              go_simp
              refine hK.out _ _ (HKS.out _ HG.out) (fun hHeld => ?_)
              clear hK K
              clear hb hs
              generalize hWs : D3.heap.size = q0 at HP4 HB HLS HG HPm HFm HKm H1N HE1 HORD ⊢
              clear hWs
              generalize D3.alloc (.cells #[.int .i64 n] 2) = D4 at HP4 HB HLS HG HPm HFm HKm H1N HE1 HORD hHeld ⊢
              try simp only [Act.put, List.setIfInBounds_toArray, List.set_cons_zero, List.set_cons_succ]
              refine wpAnyH_ready (rs := [8]) (by kernel_rfl) (by simp) ?_
              refine (AllReadyH.cons (o := { dst := some 64, op := Go.Op.call { callee := Go.Callee.builtin Go.Builtin.append, args := #[Go.Operand.tmp 61, Go.Operand.tmp 63], argTypes := #[41, 41] }, type := 41, pos := "outright.go:117", after := #[{ on := 5, ground := Go.Ground.data }, { on := 7, ground := Go.Ground.data }, { on := 5, ground := Go.Ground.chain }], guard := none }) rfl (fun K hK => ?br36_8) AllReadyH.nil)
              case br36_8 =>
                refine step_append_one 41 2 (.int .i64 0) 8 Tryd.underlying41 infoN rfl (by decide) rfl (.tmp 61) (.tmp 63) rfl D2.heap.size q0 _ (nums e0.ns) rfl H1N.out (some ⟨q0, 0, none⟩) 1 (.int .i64 n) rfl HE1.out rfl (by have := HL0.out; simp only [nums_len]; omega) (by have hord := HORD.out; omega) ?_
                intro v2 D5 hO ht
                obtain ⟨A2, c2, rfl, -⟩ := hO.own.vat
                clear H1N
                clear HE1
                have hq : (nums e0.ns ++ [Value.int .i64 n]).length = e0.ns.length + 1 := by simp [nums_len]
                rw [hq] at hO ⊢
                clear hq
                replace HP4 := Lib.hid (HP4.out.touch ht (by have hord := HORD.out; omega))
                replace HB := Lib.hid (Touch.step HB.out ht (by have hord := HORD.out; omega))
                replace HLS := Lib.hid (HLS.out.touch ht (by have hord := HORD.out; omega))
                replace HG := Lib.hid (Touch.step HG.out ht (by have hord := HORD.out; omega))
                replace HPm := Lib.hid (HPm.out.touch ht (by have hord := HORD.out; omega))
                replace HFm := Lib.hid (HFm.out.touch ht (by have hord := HORD.out; omega))
                replace HKm := Lib.hid (HKm.out.touch ht (by have hord := HORD.out; omega))
                have HO2 := Lib.hid (And.intro HORD.out ht.size)
                clear HORD
                have HORD := HO2
                clear HO2
                have H2N := Lib.hid hO
                clear hO ht
                refine hK.out _ _ (HKS.out _ HG.out) (fun hHeld => ?_)
                clear hK K
                try simp only [Act.put, List.setIfInBounds_toArray, List.set_cons_zero, List.set_cons_succ]
                refine wpAnyH_take (i := 11) (oi := { dst := some 67, op := Go.Op.build 51 #[(0, Go.Operand.tmp 57), (1, Go.Operand.tmp 64), (2, Go.Operand.tmp 66)], type := 51, pos := "outright.go:117", after := #[{ on := 1, ground := Go.Ground.data }, { on := 8, ground := Go.Ground.data }, { on := 10, ground := Go.Ground.data }], guard := none }) (v := ?v37) rfl (by kernel_rfl) (by kernel_rfl) (by kernel_rfl) (fun _ _ _ h => h) (Or.inl ⟨by rfl, ?hy37⟩) (by assumption) ?rest37
                case hy37 => (intro w hSw; obtain ⟨s0, s1, s2, s3⟩ := hSw; go_simp; try with_reducible rfl)
                try simp only [Act.put, List.setIfInBounds_toArray, List.set_cons_zero, List.set_cons_succ]
                refine wpAnyH_ready (rs := [13]) (by kernel_rfl) (by simp) ?_
                refine (AllReadyH.cons (o := { dst := none, op := Go.Op.store 51 (Go.Operand.tmp 10) (Go.Operand.tmp 67), type := 0, pos := "outright.go:117", after := #[{ on := 12, ground := Go.Ground.data }, { on := 11, ground := Go.Ground.data }, { on := 8, ground := Go.Ground.chain }, { on := 0, ground := Go.Ground.phase }, { on := 1, ground := Go.Ground.phase }, { on := 2, ground := Go.Ground.phase }, { on := 3, ground := Go.Ground.phase }, { on := 4, ground := Go.Ground.phase }, { on := 5, ground := Go.Ground.phase }, { on := 6, ground := Go.Ground.phase }, { on := 7, ground := Go.Ground.phase }, { on := 8, ground := Go.Ground.phase }, { on := 9, ground := Go.Ground.phase }, { on := 10, ground := Go.Ground.phase }, { on := 11, ground := Go.Ground.phase }, { on := 12, ground := Go.Ground.phase }], guard := none }) rfl (fun K hK => ?br38_13) AllReadyH.nil)
                case br38_13 =>
                  obtain ⟨hpm_0, hpm_1, hpm_2⟩ := HPm.out
                  have f0 := HFm.out.2 0
                  have f1 := HFm.out.2 1
                  have f2 := HFm.out.2 2
                  go_simp
                  clear hpm_0 hpm_1 hpm_2
                  clear f0 f1 f2
                  have hp := (((HPm.out.set0 (.int .u8 e0.k)).set1 (.slice A2 (e0.ns.length + 1) c2)).set2 (.string e0.t))
                  have ht := Touch.set D5 b0 0 (.int .u8 e0.k)
                  have hf := HFm.out.set b0 0 (.int .u8 e0.k)
                  have sp_H2N := H2N.out.boxT HKm.out (by decide) 0 (.int .u8 e0.k)
                  replace HKm := Lib.hid (HKm.out.set 0 (.int .u8 e0.k))
                  replace HP4 := Lib.hid (HP4.out.touch ht (by have hord := HORD.out; omega))
                  replace HB := Lib.hid (Touch.step HB.out ht (by have hord := HORD.out; omega))
                  replace HLS := Lib.hid (HLS.out.touch ht (by have hord := HORD.out; omega))
                  replace HG := Lib.hid (Touch.step HG.out ht (by have hord := HORD.out; omega))
                  replace HFm := Lib.hid hf
                  clear ht hf
                  replace H2N := Lib.hid sp_H2N
                  clear sp_H2N
                  have ht := Touch.set (D5.setCell ⟨b0, 0, none⟩ (.int .u8 e0.k)) b0 1 (.slice A2 (e0.ns.length + 1) c2)
                  have hf := HFm.out.set b0 1 (.slice A2 (e0.ns.length + 1) c2)
                  have sp_H2N := H2N.out.boxT HKm.out (by decide) 1 (.slice A2 (e0.ns.length + 1) c2)
                  replace HKm := Lib.hid (HKm.out.set 1 (.slice A2 (e0.ns.length + 1) c2))
                  replace HP4 := Lib.hid (HP4.out.touch ht (by have hord := HORD.out; omega))
                  replace HB := Lib.hid (Touch.step HB.out ht (by have hord := HORD.out; omega))
                  replace HLS := Lib.hid (HLS.out.touch ht (by have hord := HORD.out; omega))
                  replace HG := Lib.hid (Touch.step HG.out ht (by have hord := HORD.out; omega))
                  replace HFm := Lib.hid hf
                  clear ht hf
                  replace H2N := Lib.hid sp_H2N
                  clear sp_H2N
                  have ht := Touch.set ((D5.setCell ⟨b0, 0, none⟩ (.int .u8 e0.k)).setCell ⟨b0, 1, none⟩ (.slice A2 (e0.ns.length + 1) c2)) b0 2 (.string e0.t)
                  have hf := HFm.out.set b0 2 (.string e0.t)
                  have sp_H2N := H2N.out.boxT HKm.out (by decide) 2 (.string e0.t)
                  replace HKm := Lib.hid (HKm.out.set 2 (.string e0.t))
                  replace HP4 := Lib.hid (HP4.out.touch ht (by have hord := HORD.out; omega))
                  replace HB := Lib.hid (Touch.step HB.out ht (by have hord := HORD.out; omega))
                  replace HLS := Lib.hid (HLS.out.touch ht (by have hord := HORD.out; omega))
                  replace HG := Lib.hid (Touch.step HG.out ht (by have hord := HORD.out; omega))
                  replace HFm := Lib.hid hf
                  clear ht hf
                  replace H2N := Lib.hid sp_H2N
                  clear sp_H2N
                  have hs : D5.heap.size ≤ (((D5.setCell ⟨b0, 0, none⟩ (.int .u8 e0.k)).setCell ⟨b0, 1, none⟩ (.slice A2 (e0.ns.length + 1) c2)).setCell ⟨b0, 2, none⟩ (.string e0.t)).heap.size := by simp
                  have HO2 := Lib.hid (And.intro HORD.out hs)
                  clear HORD
                  have HORD := HO2
                  clear HO2
                  replace HPm := Lib.hid hp
                  clear hp hs
                  refine hK.out _ _ (HKS.out _ HG.out) (fun hHeld => ?_)
                  clear hK K
                  generalize (((D5.setCell ⟨b0, 0, none⟩ (.int .u8 e0.k)).setCell ⟨b0, 1, none⟩ (.slice A2 (e0.ns.length + 1) c2)).setCell ⟨b0, 2, none⟩ (.string e0.t)) = D6 at HP4 HB HLS HG HPm HFm HKm H2N HORD hHeld ⊢
                  try simp only [Act.put, List.setIfInBounds_toArray, List.set_cons_zero, List.set_cons_succ]
                  refine wpAnyH_done (by kernel_rfl) ?_ _
                  go_wp2_with fail
                  go_meet
                  refine ⟨A2, c2, b0, rfl, Lib.hid ⟨HPm.out, cm_of (c := cMoreN e0 n) HY0.out.k (fun x hx => ?_) HY0.out.txt (by have h := H2N.out; simpa [cMoreN, nums] using h), HG.out⟩⟩
                  rcases List.mem_append.1 hx with h | h
                  · exact HY0.out.fit x h
                  · rw [List.mem_singleton.1 h]; exact HNW.out
          case br34_7 =>
            have hb := (Below.refl D2.heap.size D2).alloc (Nat.le_refl _) (.cells #[.int .i64 n] 2)
            have hs : D2.heap.size + 1 ≤ (D2.alloc (.cells #[.int .i64 n] 2)).heap.size := by simp
            replace HP4 := Lib.hid (HP4.out.below hb)
            replace HB := Lib.hid (below_step HB.out hb)
            replace HLS := Lib.hid (HLS.out.below hb)
            replace HG := Lib.hid (below_step HG.out hb)
            replace HPm := Lib.hid (HPm.out.below hb)
            replace HFm := Lib.hid (HFm.out.below hb)
            replace HKm := Lib.hid (HKm.out.below hb)
            have HO2 := Lib.hid (And.intro HORD.out hs)
            clear HORD
            have HORD := HO2
            clear HO2
            have HE1 := Lib.hid (vat_new D2 (.int .i64 n) 2)
            go_simp
            refine hK.out _ _ (HKS.out _ HG.out) (fun hHeld => ?_)
            clear hK K
            clear hb hs
            generalize hWs : D2.heap.size = q0 at HP4 HB HLS HG HPm HFm HKm HE1 HORD ⊢
            clear hWs
            generalize D2.alloc (.cells #[.int .i64 n] 2) = D3 at HP4 HB HLS HG HPm HFm HKm HE1 HORD hHeld ⊢
            try simp only [Act.put, List.setIfInBounds_toArray, List.set_cons_zero, List.set_cons_succ]
            refine wpAnyH_ready (rs := [5]) (by kernel_rfl) (by simp) ?_
            refine (AllReadyH.cons (o := { dst := some 61, op := Go.Op.call { callee := Go.Callee.builtin Go.Builtin.append, args := #[Go.Operand.tmp 58, Go.Operand.tmp 60], argTypes := #[41, 41] }, type := 41, pos := "outright.go:117", after := #[{ on := 2, ground := Go.Ground.data }, { on := 4, ground := Go.Ground.data }], guard := none }) rfl (fun K hK => ?br39_5) AllReadyH.nil)
            case br39_5 =>
              refine step_append_new 41 2 (.int .i64 0) 8 Tryd.underlying41 infoN rfl (by decide) rfl (.tmp 58) (.tmp 60) rfl z0 rfl A0 e0.ns.length c0 (nums e0.ns) rfl (nums_len _).symm (HY0.out.below HB.out).ns (nums_cell _) HY0.out.nA (by have := HL0.out; simp only [nums_len]; omega) ?_
              intro v1 D4 hO hb
              obtain ⟨A1, c1, rfl, -⟩ := hO.vat
              have hO1 := hO.b
              rw [nums_len] at hO1 ⊢
              clear hO
              replace HP4 := Lib.hid (HP4.out.below hb)
              replace HB := Lib.hid (below_step HB.out hb)
              replace HLS := Lib.hid (HLS.out.below hb)
              replace HG := Lib.hid (below_step HG.out hb)
              replace HPm := Lib.hid (HPm.out.below hb)
              replace HFm := Lib.hid (HFm.out.below hb)
              replace HKm := Lib.hid (HKm.out.below hb)
              replace HE1 := Lib.hid (HE1.out.below hb)
              have HO2 := Lib.hid (And.intro HORD.out hb.size)
              clear HORD
              have HORD := HO2
              clear HO2
              have H1N := Lib.hid hO1
              clear hO1 hb
              refine hK.out _ _ (HKS.out _ HG.out) (fun hHeld => ?_)
              clear hK K
              try simp only [Act.put, List.setIfInBounds_toArray, List.set_cons_zero, List.set_cons_succ]
              refine wpAnyH_ready (rs := [8]) (by kernel_rfl) (by simp) ?_
              refine (AllReadyH.cons (o := { dst := some 64, op := Go.Op.call { callee := Go.Callee.builtin Go.Builtin.append, args := #[Go.Operand.tmp 61, Go.Operand.tmp 63], argTypes := #[41, 41] }, type := 41, pos := "outright.go:117", after := #[{ on := 5, ground := Go.Ground.data }, { on := 7, ground := Go.Ground.data }, { on := 5, ground := Go.Ground.chain }], guard := none }) rfl (fun K hK => ?br40_8) AllReadyH.nil)
              case br40_8 =>
                refine step_append_one 41 2 (.int .i64 0) 8 Tryd.underlying41 infoN rfl (by decide) rfl (.tmp 61) (.tmp 63) rfl D3.heap.size D4.heap.size _ (nums e0.ns) rfl H1N.out (some ⟨q0, 0, none⟩) 1 (.int .i64 n) rfl HE1.out rfl (by have := HL0.out; simp only [nums_len]; omega) (by have hord := HORD.out; omega) ?_
                intro v2 D5 hO ht
                obtain ⟨A2, c2, rfl, -⟩ := hO.own.vat
                clear H1N
                clear HE1
                have hq : (nums e0.ns ++ [Value.int .i64 n]).length = e0.ns.length + 1 := by simp [nums_len]
                rw [hq] at hO ⊢
                clear hq
                replace HP4 := Lib.hid (HP4.out.touch ht (by have hord := HORD.out; omega))
                replace HB := Lib.hid (Touch.step HB.out ht (by have hord := HORD.out; omega))
                replace HLS := Lib.hid (HLS.out.touch ht (by have hord := HORD.out; omega))
                replace HG := Lib.hid (Touch.step HG.out ht (by have hord := HORD.out; omega))
                replace HPm := Lib.hid (HPm.out.touch ht (by have hord := HORD.out; omega))
                replace HFm := Lib.hid (HFm.out.touch ht (by have hord := HORD.out; omega))
                replace HKm := Lib.hid (HKm.out.touch ht (by have hord := HORD.out; omega))
                have HO2 := Lib.hid (And.intro HORD.out ht.size)
                clear HORD
                have HORD := HO2
                clear HO2
                have H2N := Lib.hid hO
                clear hO ht
                refine hK.out _ _ (HKS.out _ HG.out) (fun hHeld => ?_)
                clear hK K
                try simp only [Act.put, List.setIfInBounds_toArray, List.set_cons_zero, List.set_cons_succ]
                refine wpAnyH_take (i := 11) (oi := { dst := some 67, op := Go.Op.build 51 #[(0, Go.Operand.tmp 57), (1, Go.Operand.tmp 64), (2, Go.Operand.tmp 66)], type := 51, pos := "outright.go:117", after := #[{ on := 1, ground := Go.Ground.data }, { on := 8, ground := Go.Ground.data }, { on := 10, ground := Go.Ground.data }], guard := none }) (v := ?v41) rfl (by kernel_rfl) (by kernel_rfl) (by kernel_rfl) (fun _ _ _ h => h) (Or.inl ⟨by rfl, ?hy41⟩) (by assumption) ?rest41
                case hy41 => (intro w hSw; obtain ⟨s0, s1, s2, s3⟩ := hSw; go_simp; try with_reducible rfl)
                try simp only [Act.put, List.setIfInBounds_toArray, List.set_cons_zero, List.set_cons_succ]
                refine wpAnyH_ready (rs := [13]) (by kernel_rfl) (by simp) ?_
                refine (AllReadyH.cons (o := { dst := none, op := Go.Op.store 51 (Go.Operand.tmp 10) (Go.Operand.tmp 67), type := 0, pos := "outright.go:117", after := #[{ on := 12, ground := Go.Ground.data }, { on := 11, ground := Go.Ground.data }, { on := 8, ground := Go.Ground.chain }, { on := 0, ground := Go.Ground.phase }, { on := 1, ground := Go.Ground.phase }, { on := 2, ground := Go.Ground.phase }, { on := 3, ground := Go.Ground.phase }, { on := 4, ground := Go.Ground.phase }, { on := 5, ground := Go.Ground.phase }, { on := 6, ground := Go.Ground.phase }, { on := 7, ground := Go.Ground.phase }, { on := 8, ground := Go.Ground.phase }, { on := 9, ground := Go.Ground.phase }, { on := 10, ground := Go.Ground.phase }, { on := 11, ground := Go.Ground.phase }, { on := 12, ground := Go.Ground.phase }], guard := none }) rfl (fun K hK => ?br42_13) AllReadyH.nil)
                case br42_13 =>
                  obtain ⟨hpm_0, hpm_1, hpm_2⟩ := HPm.out
                  have f0 := HFm.out.2 0
                  have f1 := HFm.out.2 1
                  have f2 := HFm.out.2 2
                  go_simp
                  clear hpm_0 hpm_1 hpm_2
                  clear f0 f1 f2
                  have hp := (((HPm.out.set0 (.int .u8 e0.k)).set1 (.slice A2 (e0.ns.length + 1) c2)).set2 (.string e0.t))
                  have ht := Touch.set D5 b0 0 (.int .u8 e0.k)
                  have hf := HFm.out.set b0 0 (.int .u8 e0.k)
                  have sp_H2N := H2N.out.boxT HKm.out (by decide) 0 (.int .u8 e0.k)
                  replace HKm := Lib.hid (HKm.out.set 0 (.int .u8 e0.k))
                  replace HP4 := Lib.hid (HP4.out.touch ht (by have hord := HORD.out; omega))
                  replace HB := Lib.hid (Touch.step HB.out ht (by have hord := HORD.out; omega))
                  replace HLS := Lib.hid (HLS.out.touch ht (by have hord := HORD.out; omega))
                  replace HG := Lib.hid (Touch.step HG.out ht (by have hord := HORD.out; omega))
                  replace HFm := Lib.hid hf
                  clear ht hf
                  replace H2N := Lib.hid sp_H2N
                  clear sp_H2N
                  have ht := Touch.set (D5.setCell ⟨b0, 0, none⟩ (.int .u8 e0.k)) b0 1 (.slice A2 (e0.ns.length + 1) c2)
                  have hf := HFm.out.set b0 1 (.slice A2 (e0.ns.length + 1) c2)
                  have sp_H2N := H2N.out.boxT HKm.out (by decide) 1 (.slice A2 (e0.ns.length + 1) c2)
                  replace HKm := Lib.hid (HKm.out.set 1 (.slice A2 (e0.ns.length + 1) c2))
                  replace HP4 := Lib.hid (HP4.out.touch ht (by have hord := HORD.out; omega))
                  replace HB := Lib.hid (Touch.step HB.out ht (by have hord := HORD.out; omega))
                  replace HLS := Lib.hid (HLS.out.touch ht (by have hord := HORD.out; omega))
                  replace HG := Lib.hid (Touch.step HG.out ht (by have hord := HORD.out; omega))
                  replace HFm := Lib.hid hf
                  clear ht hf
                  replace H2N := Lib.hid sp_H2N
                  clear sp_H2N
                  have ht := Touch.set ((D5.setCell ⟨b0, 0, none⟩ (.int .u8 e0.k)).setCell ⟨b0, 1, none⟩ (.slice A2 (e0.ns.length + 1) c2)) b0 2 (.string e0.t)
                  have hf := HFm.out.set b0 2 (.string e0.t)
                  have sp_H2N := H2N.out.boxT HKm.out (by decide) 2 (.string e0.t)
                  replace HKm := Lib.hid (HKm.out.set 2 (.string e0.t))
                  replace HP4 := Lib.hid (HP4.out.touch ht (by have hord := HORD.out; omega))
                  replace HB := Lib.hid (Touch.step HB.out ht (by have hord := HORD.out; omega))
                  replace HLS := Lib.hid (HLS.out.touch ht (by have hord := HORD.out; omega))
                  replace HG := Lib.hid (Touch.step HG.out ht (by have hord := HORD.out; omega))
                  replace HFm := Lib.hid hf
                  clear ht hf
                  replace H2N := Lib.hid sp_H2N
                  clear sp_H2N
                  have hs : D5.heap.size ≤ (((D5.setCell ⟨b0, 0, none⟩ (.int .u8 e0.k)).setCell ⟨b0, 1, none⟩ (.slice A2 (e0.ns.length + 1) c2)).setCell ⟨b0, 2, none⟩ (.string e0.t)).heap.size := by simp
                  have HO2 := Lib.hid (And.intro HORD.out hs)
                  clear HORD
                  have HORD := HO2
                  clear HO2
                  replace HPm := Lib.hid hp
                  clear hp hs
                  refine hK.out _ _ (HKS.out _ HG.out) (fun hHeld => ?_)
                  clear hK K
                  generalize (((D5.setCell ⟨b0, 0, none⟩ (.int .u8 e0.k)).setCell ⟨b0, 1, none⟩ (.slice A2 (e0.ns.length + 1) c2)).setCell ⟨b0, 2, none⟩ (.string e0.t)) = D6 at HP4 HB HLS HG HPm HFm HKm H2N HORD hHeld ⊢
                  try simp only [Act.put, List.setIfInBounds_toArray, List.set_cons_zero, List.set_cons_succ]
                  refine wpAnyH_done (by kernel_rfl) ?_ _
                  go_wp2_with fail
                  go_meet
                  refine ⟨A2, c2, b0, rfl, Lib.hid ⟨HPm.out, cm_of (c := cMoreN e0 n) HY0.out.k (fun x hx => ?_) HY0.out.txt (by have h := H2N.out; simpa [cMoreN, nums] using h), HG.out⟩⟩
                  rcases List.mem_append.1 hx with h | h
                  · exact HY0.out.fit x h
                  · rw [List.mem_singleton.1 h]; exact HNW.out
      case br8_7 =>
        have hb := (Below.refl D0.heap.size D0).alloc (Nat.le_refl _) (.cells #[.int .i64 n] 2)
        have hs : D0.heap.size + 1 ≤ (D0.alloc (.cells #[.int .i64 n] 2)).heap.size := by simp
        replace HP4 := Lib.hid (HP4.out.below hb)
        replace HB := Lib.hid (below_step HB.out hb)
        replace HLS := Lib.hid (HLS.out.below hb)
        replace HG := Lib.hid (below_step HG.out hb)
        have HO2 := Lib.hid (And.intro HORD.out hs)
        clear HORD
        have HORD := HO2
        clear HO2
        have HE1 := Lib.hid (vat_new D0 (.int .i64 n) 2)
        go_simp
        refine hK.out _ _ (HKS.out _ HG.out) (fun hHeld => ?_)
        clear hK K
        clear hb hs
        generalize hWs : D0.heap.size = q0 at HP4 HB HLS HG HE1 HORD ⊢
        clear hWs
        generalize D0.alloc (.cells #[.int .i64 n] 2) = D1 at HP4 HB HLS HG HE1 HORD hHeld ⊢
        try simp only [Act.put, List.setIfInBounds_toArray, List.set_cons_zero, List.set_cons_succ]
        refine wpAnyH_ready (rs := [2, 12]) (by kernel_rfl) (by simp) ?_
        refine (AllReadyH.cons (o := { dst := some 58, op := Go.Op.buildSlice 41 0 #[], type := 41, pos := "outright.go:117", after := #[], guard := none }) rfl (fun K hK => ?br43_2) (AllReadyH.cons (o := { dst := some 10, op := Go.Op.alloc 51, type := 0, pos := "outright.go:117", after := #[], guard := none }) rfl (fun K hK => ?br43_12) AllReadyH.nil))
        case br43_2 =>
          have hb := (Below.refl D1.heap.size D1).alloc (Nat.le_refl _) (.cells #[] 2)
          have hs : D1.heap.size + 1 ≤ (D1.alloc (.cells #[] 2)).heap.size := by simp
          replace HP4 := Lib.hid (HP4.out.below hb)
          replace HB := Lib.hid (below_step HB.out hb)
          replace HLS := Lib.hid (HLS.out.below hb)
          replace HG := Lib.hid (below_step HG.out hb)
          replace HE1 := Lib.hid (HE1.out.below hb)
          have HO2 := Lib.hid (And.intro HORD.out hs)
          clear HORD
          have HORD := HO2
          clear HO2
          go_simp
          refine hK.out _ _ (HKS.out _ HG.out) (fun hHeld => ?_)
          clear hK K
          clear hb hs
          generalize hWs : D1.heap.size = z0 at HP4 HB HLS HG HE1 HORD ⊢
          clear hWs
          generalize D1.alloc (.cells #[] 2) = D2 at HP4 HB HLS HG HE1 HORD hHeld ⊢
          try simp only [Act.put, List.setIfInBounds_toArray, List.set_cons_zero, List.set_cons_succ]
          refine wpAnyH_ready (rs := [5, 12]) (by kernel_rfl) (by simp) ?_
          refine (AllReadyH.cons (o := { dst := some 61, op := Go.Op.call { callee := Go.Callee.builtin Go.Builtin.append, args := #[Go.Operand.tmp 58, Go.Operand.tmp 60], argTypes := #[41, 41] }, type := 41, pos := "outright.go:117", after := #[{ on := 2, ground := Go.Ground.data }, { on := 4, ground := Go.Ground.data }], guard := none }) rfl (fun K hK => ?br44_5) (AllReadyH.cons (o := { dst := some 10, op := Go.Op.alloc 51, type := 0, pos := "outright.go:117", after := #[], guard := none }) rfl (fun K hK => ?br44_12) AllReadyH.nil))
          case br44_5 =>
            refine step_append_new 41 2 (.int .i64 0) 8 Tryd.underlying41 infoN rfl (by decide) rfl (.tmp 58) (.tmp 60) rfl z0 rfl A0 e0.ns.length c0 (nums e0.ns) rfl (nums_len _).symm (HY0.out.below HB.out).ns (nums_cell _) HY0.out.nA (by have := HL0.out; simp only [nums_len]; omega) ?_
            intro v1 D3 hO hb
            obtain ⟨A1, c1, rfl, -⟩ := hO.vat
            have hO1 := hO.b
            rw [nums_len] at hO1 ⊢
            clear hO
            replace HP4 := Lib.hid (HP4.out.below hb)
            replace HB := Lib.hid (below_step HB.out hb)
            replace HLS := Lib.hid (HLS.out.below hb)
            replace HG := Lib.hid (below_step HG.out hb)
            replace HE1 := Lib.hid (HE1.out.below hb)
            have HO2 := Lib.hid (And.intro HORD.out hb.size)
            clear HORD
            have HORD := HO2
            clear HO2
            have H1N := Lib.hid hO1
            clear hO1 hb
            refine hK.out _ _ (HKS.out _ HG.out) (fun hHeld => ?_)
            clear hK K
            try simp only [Act.put, List.setIfInBounds_toArray, List.set_cons_zero, List.set_cons_succ]
            refine wpAnyH_ready (rs := [8, 12]) (by kernel_rfl) (by simp) ?_
            refine (AllReadyH.cons (o := { dst := some 64, op := Go.Op.call { callee := Go.Callee.builtin Go.Builtin.append, args := #[Go.Operand.tmp 61, Go.Operand.tmp 63], argTypes := #[41, 41] }, type := 41, pos := "outright.go:117", after := #[{ on := 5, ground := Go.Ground.data }, { on := 7, ground := Go.Ground.data }, { on := 5, ground := Go.Ground.chain }], guard := none }) rfl (fun K hK => ?br45_8) (AllReadyH.cons (o := { dst := some 10, op := Go.Op.alloc 51, type := 0, pos := "outright.go:117", after := #[], guard := none }) rfl (fun K hK => ?br45_12) AllReadyH.nil))
            case br45_8 =>
              refine step_append_one 41 2 (.int .i64 0) 8 Tryd.underlying41 infoN rfl (by decide) rfl (.tmp 61) (.tmp 63) rfl D2.heap.size D3.heap.size _ (nums e0.ns) rfl H1N.out (some ⟨q0, 0, none⟩) 1 (.int .i64 n) rfl HE1.out rfl (by have := HL0.out; simp only [nums_len]; omega) (by have hord := HORD.out; omega) ?_
              intro v2 D4 hO ht
              obtain ⟨A2, c2, rfl, -⟩ := hO.own.vat
              clear H1N
              clear HE1
              have hq : (nums e0.ns ++ [Value.int .i64 n]).length = e0.ns.length + 1 := by simp [nums_len]
              rw [hq] at hO ⊢
              clear hq
              replace HP4 := Lib.hid (HP4.out.touch ht (by have hord := HORD.out; omega))
              replace HB := Lib.hid (Touch.step HB.out ht (by have hord := HORD.out; omega))
              replace HLS := Lib.hid (HLS.out.touch ht (by have hord := HORD.out; omega))
              replace HG := Lib.hid (Touch.step HG.out ht (by have hord := HORD.out; omega))
              have HO2 := Lib.hid (And.intro HORD.out ht.size)
              clear HORD
              have HORD := HO2
              clear HO2
              have H2N := Lib.hid hO
              clear hO ht
              refine hK.out _ _ (HKS.out _ HG.out) (fun hHeld => ?_)
              clear hK K
              try simp only [Act.put, List.setIfInBounds_toArray, List.set_cons_zero, List.set_cons_succ]
              refine wpAnyH_take (i := 11) (oi := { dst := some 67, op := Go.Op.build 51 #[(0, Go.Operand.tmp 57), (1, Go.Operand.tmp 64), (2, Go.Operand.tmp 66)], type := 51, pos := "outright.go:117", after := #[{ on := 1, ground := Go.Ground.data }, { on := 8, ground := Go.Ground.data }, { on := 10, ground := Go.Ground.data }], guard := none }) (v := ?v46) rfl (by kernel_rfl) (by kernel_rfl) (by kernel_rfl) (fun _ _ _ h => h) (Or.inl ⟨by rfl, ?hy46⟩) (by assumption) ?rest46
              case hy46 => (intro w hSw; obtain ⟨s0, s1, s2, s3⟩ := hSw; go_simp; try with_reducible rfl)
              try simp only [Act.put, List.setIfInBounds_toArray, List.set_cons_zero, List.set_cons_succ]
              refine wpAnyH_ready (rs := [12]) (by kernel_rfl) (by simp) ?_
              refine (AllReadyH.cons (o := { dst := some 10, op := Go.Op.alloc 51, type := 0, pos := "outright.go:117", after := #[], guard := none }) rfl (fun K hK => ?br47_12) AllReadyH.nil)
              case br47_12 =>
                have hb := (Below.refl D4.heap.size D4).alloc (Nat.le_refl _) (.cells #[.int .u8 0, .slice none 0 0, .string ⟨#[]⟩] 51)
                have hs : D4.heap.size + 1 ≤ (D4.alloc (.cells #[.int .u8 0, .slice none 0 0, .string ⟨#[]⟩] 51)).heap.size := by simp
                replace HP4 := Lib.hid (HP4.out.below hb)
                replace HB := Lib.hid (below_step HB.out hb)
                replace HLS := Lib.hid (HLS.out.below hb)
                replace HG := Lib.hid (below_step HG.out hb)
                replace H2N := Lib.hid (H2N.out.below hb)
                have HO2 := Lib.hid (And.intro HORD.out hs)
                clear HORD
                have HORD := HO2
                clear HO2
                have HPm := Lib.hid (show Three _ D4.heap.size _ _ _ from box3 D4 (.int .u8 0) (.slice none 0 0) (.string ⟨#[]⟩) 51)
                have HFm := Lib.hid (free_new D4 #[.int .u8 0, .slice none 0 0, .string ⟨#[]⟩] 51)
                have HKm := Lib.hid (boxT_new D4 #[.int .u8 0, .slice none 0 0, .string ⟨#[]⟩] 51)
                go_simp
                refine hK.out _ _ (HKS.out _ HG.out) (fun hHeld => ?_)
                clear hK K
                clear hb hs
                generalize hWs : D4.heap.size = b0 at HP4 HB HLS HG H2N HPm HFm HKm HORD ⊢
                clear hWs
                generalize D4.alloc (.cells #[.int .u8 0, .slice none 0 0, .string ⟨#[]⟩] 51) = D5 at HP4 HB HLS HG H2N HPm HFm HKm HORD hHeld ⊢
                try simp only [Act.put, List.setIfInBounds_toArray, List.set_cons_zero, List.set_cons_succ]
                refine wpAnyH_ready (rs := [13]) (by kernel_rfl) (by simp) ?_
                refine (AllReadyH.cons (o := { dst := none, op := Go.Op.store 51 (Go.Operand.tmp 10) (Go.Operand.tmp 67), type := 0, pos := "outright.go:117", after := #[{ on := 12, ground := Go.Ground.data }, { on := 11, ground := Go.Ground.data }, { on := 8, ground := Go.Ground.chain }, { on := 0, ground := Go.Ground.phase }, { on := 1, ground := Go.Ground.phase }, { on := 2, ground := Go.Ground.phase }, { on := 3, ground := Go.Ground.phase }, { on := 4, ground := Go.Ground.phase }, { on := 5, ground := Go.Ground.phase }, { on := 6, ground := Go.Ground.phase }, { on := 7, ground := Go.Ground.phase }, { on := 8, ground := Go.Ground.phase }, { on := 9, ground := Go.Ground.phase }, { on := 10, ground := Go.Ground.phase }, { on := 11, ground := Go.Ground.phase }, { on := 12, ground := Go.Ground.phase }], guard := none }) rfl (fun K hK => ?br48_13) AllReadyH.nil)
                case br48_13 =>
                  obtain ⟨hpm_0, hpm_1, hpm_2⟩ := HPm.out
                  have f0 := HFm.out.2 0
                  have f1 := HFm.out.2 1
                  have f2 := HFm.out.2 2
                  go_simp
                  clear hpm_0 hpm_1 hpm_2
                  clear f0 f1 f2
                  have hp := (((HPm.out.set0 (.int .u8 e0.k)).set1 (.slice A2 (e0.ns.length + 1) c2)).set2 (.string e0.t))
                  have ht := Touch.set D5 b0 0 (.int .u8 e0.k)
                  have hf := HFm.out.set b0 0 (.int .u8 e0.k)
                  have sp_H2N := H2N.out.boxT HKm.out (by decide) 0 (.int .u8 e0.k)
                  replace HKm := Lib.hid (HKm.out.set 0 (.int .u8 e0.k))
                  replace HP4 := Lib.hid (HP4.out.touch ht (by have hord := HORD.out; omega))
                  replace HB := Lib.hid (Touch.step HB.out ht (by have hord := HORD.out; omega))
                  replace HLS := Lib.hid (HLS.out.touch ht (by have hord := HORD.out; omega))
                  replace HG := Lib.hid (Touch.step HG.out ht (by have hord := HORD.out; omega))
                  replace HFm := Lib.hid hf
                  clear ht hf
                  replace H2N := Lib.hid sp_H2N
                  clear sp_H2N
                  have ht := Touch.set (D5.setCell ⟨b0, 0, none⟩ (.int .u8 e0.k)) b0 1 (.slice A2 (e0.ns.length + 1) c2)
                  have hf := HFm.out.set b0 1 (.slice A2 (e0.ns.length + 1) c2)
                  have sp_H2N := H2N.out.boxT HKm.out (by decide) 1 (.slice A2 (e0.ns.length + 1) c2)
                  replace HKm := Lib.hid (HKm.out.set 1 (.slice A2 (e0.ns.length + 1) c2))
                  replace HP4 := Lib.hid (HP4.out.touch ht (by have hord := HORD.out; omega))
                  replace HB := Lib.hid (Touch.step HB.out ht (by have hord := HORD.out; omega))
                  replace HLS := Lib.hid (HLS.out.touch ht (by have hord := HORD.out; omega))
                  replace HG := Lib.hid (Touch.step HG.out ht (by have hord := HORD.out; omega))
                  replace HFm := Lib.hid hf
                  clear ht hf
                  replace H2N := Lib.hid sp_H2N
                  clear sp_H2N
                  have ht := Touch.set ((D5.setCell ⟨b0, 0, none⟩ (.int .u8 e0.k)).setCell ⟨b0, 1, none⟩ (.slice A2 (e0.ns.length + 1) c2)) b0 2 (.string e0.t)
                  have hf := HFm.out.set b0 2 (.string e0.t)
                  have sp_H2N := H2N.out.boxT HKm.out (by decide) 2 (.string e0.t)
                  replace HKm := Lib.hid (HKm.out.set 2 (.string e0.t))
                  replace HP4 := Lib.hid (HP4.out.touch ht (by have hord := HORD.out; omega))
                  replace HB := Lib.hid (Touch.step HB.out ht (by have hord := HORD.out; omega))
                  replace HLS := Lib.hid (HLS.out.touch ht (by have hord := HORD.out; omega))
                  replace HG := Lib.hid (Touch.step HG.out ht (by have hord := HORD.out; omega))
                  replace HFm := Lib.hid hf
                  clear ht hf
                  replace H2N := Lib.hid sp_H2N
                  clear sp_H2N
                  have hs : D5.heap.size ≤ (((D5.setCell ⟨b0, 0, none⟩ (.int .u8 e0.k)).setCell ⟨b0, 1, none⟩ (.slice A2 (e0.ns.length + 1) c2)).setCell ⟨b0, 2, none⟩ (.string e0.t)).heap.size := by simp
                  have HO2 := Lib.hid (And.intro HORD.out hs)
                  clear HORD
                  have HORD := HO2
                  clear HO2
                  replace HPm := Lib.hid hp
                  clear hp hs
                  refine hK.out _ _ (HKS.out _ HG.out) (fun hHeld => ?_)
                  clear hK K
                  generalize (((D5.setCell ⟨b0, 0, none⟩ (.int .u8 e0.k)).setCell ⟨b0, 1, none⟩ (.slice A2 (e0.ns.length + 1) c2)).setCell ⟨b0, 2, none⟩ (.string e0.t)) = D6 at HP4 HB HLS HG H2N HPm HFm HKm HORD hHeld ⊢
                  try simp only [Act.put, List.setIfInBounds_toArray, List.set_cons_zero, List.set_cons_succ]
                  refine wpAnyH_done (by kernel_rfl) ?_ _
                  go_wp2_with fail
                  go_meet
                  refine ⟨A2, c2, b0, rfl, Lib.hid ⟨HPm.out, cm_of (c := cMoreN e0 n) HY0.out.k (fun x hx => ?_) HY0.out.txt (by have h := H2N.out; simpa [cMoreN, nums] using h), HG.out⟩⟩
                  rcases List.mem_append.1 hx with h | h
                  · exact HY0.out.fit x h
                  · rw [List.mem_singleton.1 h]; exact HNW.out
            case br45_12 =>
              have hb := (Below.refl D3.heap.size D3).alloc (Nat.le_refl _) (.cells #[.int .u8 0, .slice none 0 0, .string ⟨#[]⟩] 51)
              have hs : D3.heap.size + 1 ≤ (D3.alloc (.cells #[.int .u8 0, .slice none 0 0, .string ⟨#[]⟩] 51)).heap.size := by simp
              replace HP4 := Lib.hid (HP4.out.below hb)
              replace HB := Lib.hid (below_step HB.out hb)
              replace HLS := Lib.hid (HLS.out.below hb)
              replace HG := Lib.hid (below_step HG.out hb)
              replace HE1 := Lib.hid (HE1.out.below hb)
              replace H1N := Lib.hid (H1N.out.below hb)
              have HO2 := Lib.hid (And.intro HORD.out hs)
              clear HORD
              have HORD := HO2
              clear HO2
              have HPm := Lib.hid (show Three _ D3.heap.size _ _ _ from box3 D3 (.int .u8 0) (.slice none 0 0) (.string ⟨#[]⟩) 51)
              have HFm := Lib.hid (free_new D3 #[.int .u8 0, .slice none 0 0, .string ⟨#[]⟩] 51)
              have HKm := Lib.hid (boxT_new D3 #[.int .u8 0, .slice none 0 0, .string ⟨#[]⟩] 51)
              go_simp
              refine hK.out _ _ (HKS.out _ HG.out) (fun hHeld => ?_)
              clear hK K
              clear hb hs
              generalize hWs : D3.heap.size = b0 at HP4 HB HLS HG HE1 H1N HPm HFm HKm HORD ⊢
              clear hWs
              generalize D3.alloc (.cells #[.int .u8 0, .slice none 0 0, .string ⟨#[]⟩] 51) = D4 at HP4 HB HLS HG HE1 H1N HPm HFm HKm HORD hHeld ⊢
              try simp only [Act.put, List.setIfInBounds_toArray, List.set_cons_zero, List.set_cons_succ]
              refine wpAnyH_ready (rs := [8]) (by kernel_rfl) (by simp) ?_
              refine (AllReadyH.cons (o := { dst := some 64, op := Go.Op.call { callee := Go.Callee.builtin Go.Builtin.append, args := #[Go.Operand.tmp 61, Go.Operand.tmp 63], argTypes := #[41, 41] }, type := 41, pos := "outright.go:117", after := #[{ on := 5, ground := Go.Ground.data }, { on := 7, ground := Go.Ground.data }, { on := 5, ground := Go.Ground.chain }], guard := none }) rfl (fun K hK => ?br49_8) AllReadyH.nil)
              case br49_8 =>
                refine step_append_one 41 2 (.int .i64 0) 8 Tryd.underlying41 infoN rfl (by decide) rfl (.tmp 61) (.tmp 63) rfl D2.heap.size b0 _ (nums e0.ns) rfl H1N.out (some ⟨q0, 0, none⟩) 1 (.int .i64 n) rfl HE1.out rfl (by have := HL0.out; simp only [nums_len]; omega) (by have hord := HORD.out; omega) ?_
                intro v2 D5 hO ht
                obtain ⟨A2, c2, rfl, -⟩ := hO.own.vat
                clear H1N
                clear HE1
                have hq : (nums e0.ns ++ [Value.int .i64 n]).length = e0.ns.length + 1 := by simp [nums_len]
                rw [hq] at hO ⊢
                clear hq
                replace HP4 := Lib.hid (HP4.out.touch ht (by have hord := HORD.out; omega))
                replace HB := Lib.hid (Touch.step HB.out ht (by have hord := HORD.out; omega))
                replace HLS := Lib.hid (HLS.out.touch ht (by have hord := HORD.out; omega))
                replace HG := Lib.hid (Touch.step HG.out ht (by have hord := HORD.out; omega))
                replace HPm := Lib.hid (HPm.out.touch ht (by have hord := HORD.out; omega))
                replace HFm := Lib.hid (HFm.out.touch ht (by have hord := HORD.out; omega))
                replace HKm := Lib.hid (HKm.out.touch ht (by have hord := HORD.out; omega))
                have HO2 := Lib.hid (And.intro HORD.out ht.size)
                clear HORD
                have HORD := HO2
                clear HO2
                have H2N := Lib.hid hO
                clear hO ht
                refine hK.out _ _ (HKS.out _ HG.out) (fun hHeld => ?_)
                clear hK K
                try simp only [Act.put, List.setIfInBounds_toArray, List.set_cons_zero, List.set_cons_succ]
                refine wpAnyH_take (i := 11) (oi := { dst := some 67, op := Go.Op.build 51 #[(0, Go.Operand.tmp 57), (1, Go.Operand.tmp 64), (2, Go.Operand.tmp 66)], type := 51, pos := "outright.go:117", after := #[{ on := 1, ground := Go.Ground.data }, { on := 8, ground := Go.Ground.data }, { on := 10, ground := Go.Ground.data }], guard := none }) (v := ?v50) rfl (by kernel_rfl) (by kernel_rfl) (by kernel_rfl) (fun _ _ _ h => h) (Or.inl ⟨by rfl, ?hy50⟩) (by assumption) ?rest50
                case hy50 => (intro w hSw; obtain ⟨s0, s1, s2, s3⟩ := hSw; go_simp; try with_reducible rfl)
                try simp only [Act.put, List.setIfInBounds_toArray, List.set_cons_zero, List.set_cons_succ]
                refine wpAnyH_ready (rs := [13]) (by kernel_rfl) (by simp) ?_
                refine (AllReadyH.cons (o := { dst := none, op := Go.Op.store 51 (Go.Operand.tmp 10) (Go.Operand.tmp 67), type := 0, pos := "outright.go:117", after := #[{ on := 12, ground := Go.Ground.data }, { on := 11, ground := Go.Ground.data }, { on := 8, ground := Go.Ground.chain }, { on := 0, ground := Go.Ground.phase }, { on := 1, ground := Go.Ground.phase }, { on := 2, ground := Go.Ground.phase }, { on := 3, ground := Go.Ground.phase }, { on := 4, ground := Go.Ground.phase }, { on := 5, ground := Go.Ground.phase }, { on := 6, ground := Go.Ground.phase }, { on := 7, ground := Go.Ground.phase }, { on := 8, ground := Go.Ground.phase }, { on := 9, ground := Go.Ground.phase }, { on := 10, ground := Go.Ground.phase }, { on := 11, ground := Go.Ground.phase }, { on := 12, ground := Go.Ground.phase }], guard := none }) rfl (fun K hK => ?br51_13) AllReadyH.nil)
                case br51_13 =>
                  obtain ⟨hpm_0, hpm_1, hpm_2⟩ := HPm.out
                  have f0 := HFm.out.2 0
                  have f1 := HFm.out.2 1
                  have f2 := HFm.out.2 2
                  go_simp
                  clear hpm_0 hpm_1 hpm_2
                  clear f0 f1 f2
                  have hp := (((HPm.out.set0 (.int .u8 e0.k)).set1 (.slice A2 (e0.ns.length + 1) c2)).set2 (.string e0.t))
                  have ht := Touch.set D5 b0 0 (.int .u8 e0.k)
                  have hf := HFm.out.set b0 0 (.int .u8 e0.k)
                  have sp_H2N := H2N.out.boxT HKm.out (by decide) 0 (.int .u8 e0.k)
                  replace HKm := Lib.hid (HKm.out.set 0 (.int .u8 e0.k))
                  replace HP4 := Lib.hid (HP4.out.touch ht (by have hord := HORD.out; omega))
                  replace HB := Lib.hid (Touch.step HB.out ht (by have hord := HORD.out; omega))
                  replace HLS := Lib.hid (HLS.out.touch ht (by have hord := HORD.out; omega))
                  replace HG := Lib.hid (Touch.step HG.out ht (by have hord := HORD.out; omega))
                  replace HFm := Lib.hid hf
                  clear ht hf
                  replace H2N := Lib.hid sp_H2N
                  clear sp_H2N
                  have ht := Touch.set (D5.setCell ⟨b0, 0, none⟩ (.int .u8 e0.k)) b0 1 (.slice A2 (e0.ns.length + 1) c2)
                  have hf := HFm.out.set b0 1 (.slice A2 (e0.ns.length + 1) c2)
                  have sp_H2N := H2N.out.boxT HKm.out (by decide) 1 (.slice A2 (e0.ns.length + 1) c2)
                  replace HKm := Lib.hid (HKm.out.set 1 (.slice A2 (e0.ns.length + 1) c2))
                  replace HP4 := Lib.hid (HP4.out.touch ht (by have hord := HORD.out; omega))
                  replace HB := Lib.hid (Touch.step HB.out ht (by have hord := HORD.out; omega))
                  replace HLS := Lib.hid (HLS.out.touch ht (by have hord := HORD.out; omega))
                  replace HG := Lib.hid (Touch.step HG.out ht (by have hord := HORD.out; omega))
                  replace HFm := Lib.hid hf
                  clear ht hf
                  replace H2N := Lib.hid sp_H2N
                  clear sp_H2N
                  have ht := Touch.set ((D5.setCell ⟨b0, 0, none⟩ (.int .u8 e0.k)).setCell ⟨b0, 1, none⟩ (.slice A2 (e0.ns.length + 1) c2)) b0 2 (.string e0.t)
                  have hf := HFm.out.set b0 2 (.string e0.t)
                  have sp_H2N := H2N.out.boxT HKm.out (by decide) 2 (.string e0.t)
                  replace HKm := Lib.hid (HKm.out.set 2 (.string e0.t))
                  replace HP4 := Lib.hid (HP4.out.touch ht (by have hord := HORD.out; omega))
                  replace HB := Lib.hid (Touch.step HB.out ht (by have hord := HORD.out; omega))
                  replace HLS := Lib.hid (HLS.out.touch ht (by have hord := HORD.out; omega))
                  replace HG := Lib.hid (Touch.step HG.out ht (by have hord := HORD.out; omega))
                  replace HFm := Lib.hid hf
                  clear ht hf
                  replace H2N := Lib.hid sp_H2N
                  clear sp_H2N
                  have hs : D5.heap.size ≤ (((D5.setCell ⟨b0, 0, none⟩ (.int .u8 e0.k)).setCell ⟨b0, 1, none⟩ (.slice A2 (e0.ns.length + 1) c2)).setCell ⟨b0, 2, none⟩ (.string e0.t)).heap.size := by simp
                  have HO2 := Lib.hid (And.intro HORD.out hs)
                  clear HORD
                  have HORD := HO2
                  clear HO2
                  replace HPm := Lib.hid hp
                  clear hp hs
                  refine hK.out _ _ (HKS.out _ HG.out) (fun hHeld => ?_)
                  clear hK K
                  generalize (((D5.setCell ⟨b0, 0, none⟩ (.int .u8 e0.k)).setCell ⟨b0, 1, none⟩ (.slice A2 (e0.ns.length + 1) c2)).setCell ⟨b0, 2, none⟩ (.string e0.t)) = D6 at HP4 HB HLS HG HPm HFm HKm H2N HORD hHeld ⊢
                  try simp only [Act.put, List.setIfInBounds_toArray, List.set_cons_zero, List.set_cons_succ]
                  refine wpAnyH_done (by kernel_rfl) ?_ _
                  go_wp2_with fail
                  go_meet
                  refine ⟨A2, c2, b0, rfl, Lib.hid ⟨HPm.out, cm_of (c := cMoreN e0 n) HY0.out.k (fun x hx => ?_) HY0.out.txt (by have h := H2N.out; simpa [cMoreN, nums] using h), HG.out⟩⟩
                  rcases List.mem_append.1 hx with h | h
                  · exact HY0.out.fit x h
                  · rw [List.mem_singleton.1 h]; exact HNW.out
          case br44_12 =>
            have hb := (Below.refl D2.heap.size D2).alloc (Nat.le_refl _) (.cells #[.int .u8 0, .slice none 0 0, .string ⟨#[]⟩] 51)
            have hs : D2.heap.size + 1 ≤ (D2.alloc (.cells #[.int .u8 0, .slice none 0 0, .string ⟨#[]⟩] 51)).heap.size := by simp
            replace HP4 := Lib.hid (HP4.out.below hb)
            replace HB := Lib.hid (below_step HB.out hb)
            replace HLS := Lib.hid (HLS.out.below hb)
            replace HG := Lib.hid (below_step HG.out hb)
            replace HE1 := Lib.hid (HE1.out.below hb)
            have HO2 := Lib.hid (And.intro HORD.out hs)
            clear HORD
            have HORD := HO2
            clear HO2
            have HPm := Lib.hid (show Three _ D2.heap.size _ _ _ from box3 D2 (.int .u8 0) (.slice none 0 0) (.string ⟨#[]⟩) 51)
            have HFm := Lib.hid (free_new D2 #[.int .u8 0, .slice none 0 0, .string ⟨#[]⟩] 51)
            have HKm := Lib.hid (boxT_new D2 #[.int .u8 0, .slice none 0 0, .string ⟨#[]⟩] 51)
            go_simp
            refine hK.out _ _ (HKS.out _ HG.out) (fun hHeld => ?_)
            clear hK K
            clear hb hs
            generalize hWs : D2.heap.size = b0 at HP4 HB HLS HG HE1 HPm HFm HKm HORD ⊢
            clear hWs
            generalize D2.alloc (.cells #[.int .u8 0, .slice none 0 0, .string ⟨#[]⟩] 51) = D3 at HP4 HB HLS HG HE1 HPm HFm HKm HORD hHeld ⊢
            try simp only [Act.put, List.setIfInBounds_toArray, List.set_cons_zero, List.set_cons_succ]
            refine wpAnyH_ready (rs := [5]) (by kernel_rfl) (by simp) ?_
            refine (AllReadyH.cons (o := { dst := some 61, op := Go.Op.call { callee := Go.Callee.builtin Go.Builtin.append, args := #[Go.Operand.tmp 58, Go.Operand.tmp 60], argTypes := #[41, 41] }, type := 41, pos := "outright.go:117", after := #[{ on := 2, ground := Go.Ground.data }, { on := 4, ground := Go.Ground.data }], guard := none }) rfl (fun K hK => ?br52_5) AllReadyH.nil)
            case br52_5 =>
              refine step_append_new 41 2 (.int .i64 0) 8 Tryd.underlying41 infoN rfl (by decide) rfl (.tmp 58) (.tmp 60) rfl z0 rfl A0 e0.ns.length c0 (nums e0.ns) rfl (nums_len _).symm (HY0.out.below HB.out).ns (nums_cell _) HY0.out.nA (by have := HL0.out; simp only [nums_len]; omega) ?_
              intro v1 D4 hO hb
              obtain ⟨A1, c1, rfl, -⟩ := hO.vat
              have hO1 := hO.b
              rw [nums_len] at hO1 ⊢
              clear hO
              replace HP4 := Lib.hid (HP4.out.below hb)
              replace HB := Lib.hid (below_step HB.out hb)
              replace HLS := Lib.hid (HLS.out.below hb)
              replace HG := Lib.hid (below_step HG.out hb)
              replace HE1 := Lib.hid (HE1.out.below hb)
              replace HPm := Lib.hid (HPm.out.below hb)
              replace HFm := Lib.hid (HFm.out.below hb)
              replace HKm := Lib.hid (HKm.out.below hb)
              have HO2 := Lib.hid (And.intro HORD.out hb.size)
              clear HORD
              have HORD := HO2
              clear HO2
              have H1N := Lib.hid hO1
              clear hO1 hb
              refine hK.out _ _ (HKS.out _ HG.out) (fun hHeld => ?_)
              clear hK K
              try simp only [Act.put, List.setIfInBounds_toArray, List.set_cons_zero, List.set_cons_succ]
              refine wpAnyH_ready (rs := [8]) (by kernel_rfl) (by simp) ?_
              refine (AllReadyH.cons (o := { dst := some 64, op := Go.Op.call { callee := Go.Callee.builtin Go.Builtin.append, args := #[Go.Operand.tmp 61, Go.Operand.tmp 63], argTypes := #[41, 41] }, type := 41, pos := "outright.go:117", after := #[{ on := 5, ground := Go.Ground.data }, { on := 7, ground := Go.Ground.data }, { on := 5, ground := Go.Ground.chain }], guard := none }) rfl (fun K hK => ?br53_8) AllReadyH.nil)
              case br53_8 =>
                refine step_append_one 41 2 (.int .i64 0) 8 Tryd.underlying41 infoN rfl (by decide) rfl (.tmp 61) (.tmp 63) rfl D3.heap.size D4.heap.size _ (nums e0.ns) rfl H1N.out (some ⟨q0, 0, none⟩) 1 (.int .i64 n) rfl HE1.out rfl (by have := HL0.out; simp only [nums_len]; omega) (by have hord := HORD.out; omega) ?_
                intro v2 D5 hO ht
                obtain ⟨A2, c2, rfl, -⟩ := hO.own.vat
                clear H1N
                clear HE1
                have hq : (nums e0.ns ++ [Value.int .i64 n]).length = e0.ns.length + 1 := by simp [nums_len]
                rw [hq] at hO ⊢
                clear hq
                replace HP4 := Lib.hid (HP4.out.touch ht (by have hord := HORD.out; omega))
                replace HB := Lib.hid (Touch.step HB.out ht (by have hord := HORD.out; omega))
                replace HLS := Lib.hid (HLS.out.touch ht (by have hord := HORD.out; omega))
                replace HG := Lib.hid (Touch.step HG.out ht (by have hord := HORD.out; omega))
                replace HPm := Lib.hid (HPm.out.touch ht (by have hord := HORD.out; omega))
                replace HFm := Lib.hid (HFm.out.touch ht (by have hord := HORD.out; omega))
                replace HKm := Lib.hid (HKm.out.touch ht (by have hord := HORD.out; omega))
                have HO2 := Lib.hid (And.intro HORD.out ht.size)
                clear HORD
                have HORD := HO2
                clear HO2
                have H2N := Lib.hid hO
                clear hO ht
                refine hK.out _ _ (HKS.out _ HG.out) (fun hHeld => ?_)
                clear hK K
                try simp only [Act.put, List.setIfInBounds_toArray, List.set_cons_zero, List.set_cons_succ]
                refine wpAnyH_take (i := 11) (oi := { dst := some 67, op := Go.Op.build 51 #[(0, Go.Operand.tmp 57), (1, Go.Operand.tmp 64), (2, Go.Operand.tmp 66)], type := 51, pos := "outright.go:117", after := #[{ on := 1, ground := Go.Ground.data }, { on := 8, ground := Go.Ground.data }, { on := 10, ground := Go.Ground.data }], guard := none }) (v := ?v54) rfl (by kernel_rfl) (by kernel_rfl) (by kernel_rfl) (fun _ _ _ h => h) (Or.inl ⟨by rfl, ?hy54⟩) (by assumption) ?rest54
                case hy54 => (intro w hSw; obtain ⟨s0, s1, s2, s3⟩ := hSw; go_simp; try with_reducible rfl)
                try simp only [Act.put, List.setIfInBounds_toArray, List.set_cons_zero, List.set_cons_succ]
                refine wpAnyH_ready (rs := [13]) (by kernel_rfl) (by simp) ?_
                refine (AllReadyH.cons (o := { dst := none, op := Go.Op.store 51 (Go.Operand.tmp 10) (Go.Operand.tmp 67), type := 0, pos := "outright.go:117", after := #[{ on := 12, ground := Go.Ground.data }, { on := 11, ground := Go.Ground.data }, { on := 8, ground := Go.Ground.chain }, { on := 0, ground := Go.Ground.phase }, { on := 1, ground := Go.Ground.phase }, { on := 2, ground := Go.Ground.phase }, { on := 3, ground := Go.Ground.phase }, { on := 4, ground := Go.Ground.phase }, { on := 5, ground := Go.Ground.phase }, { on := 6, ground := Go.Ground.phase }, { on := 7, ground := Go.Ground.phase }, { on := 8, ground := Go.Ground.phase }, { on := 9, ground := Go.Ground.phase }, { on := 10, ground := Go.Ground.phase }, { on := 11, ground := Go.Ground.phase }, { on := 12, ground := Go.Ground.phase }], guard := none }) rfl (fun K hK => ?br55_13) AllReadyH.nil)
                case br55_13 =>
                  obtain ⟨hpm_0, hpm_1, hpm_2⟩ := HPm.out
                  have f0 := HFm.out.2 0
                  have f1 := HFm.out.2 1
                  have f2 := HFm.out.2 2
                  go_simp
                  clear hpm_0 hpm_1 hpm_2
                  clear f0 f1 f2
                  have hp := (((HPm.out.set0 (.int .u8 e0.k)).set1 (.slice A2 (e0.ns.length + 1) c2)).set2 (.string e0.t))
                  have ht := Touch.set D5 b0 0 (.int .u8 e0.k)
                  have hf := HFm.out.set b0 0 (.int .u8 e0.k)
                  have sp_H2N := H2N.out.boxT HKm.out (by decide) 0 (.int .u8 e0.k)
                  replace HKm := Lib.hid (HKm.out.set 0 (.int .u8 e0.k))
                  replace HP4 := Lib.hid (HP4.out.touch ht (by have hord := HORD.out; omega))
                  replace HB := Lib.hid (Touch.step HB.out ht (by have hord := HORD.out; omega))
                  replace HLS := Lib.hid (HLS.out.touch ht (by have hord := HORD.out; omega))
                  replace HG := Lib.hid (Touch.step HG.out ht (by have hord := HORD.out; omega))
                  replace HFm := Lib.hid hf
                  clear ht hf
                  replace H2N := Lib.hid sp_H2N
                  clear sp_H2N
                  have ht := Touch.set (D5.setCell ⟨b0, 0, none⟩ (.int .u8 e0.k)) b0 1 (.slice A2 (e0.ns.length + 1) c2)
                  have hf := HFm.out.set b0 1 (.slice A2 (e0.ns.length + 1) c2)
                  have sp_H2N := H2N.out.boxT HKm.out (by decide) 1 (.slice A2 (e0.ns.length + 1) c2)
                  replace HKm := Lib.hid (HKm.out.set 1 (.slice A2 (e0.ns.length + 1) c2))
                  replace HP4 := Lib.hid (HP4.out.touch ht (by have hord := HORD.out; omega))
                  replace HB := Lib.hid (Touch.step HB.out ht (by have hord := HORD.out; omega))
                  replace HLS := Lib.hid (HLS.out.touch ht (by have hord := HORD.out; omega))
                  replace HG := Lib.hid (Touch.step HG.out ht (by have hord := HORD.out; omega))
                  replace HFm := Lib.hid hf
                  clear ht hf
                  replace H2N := Lib.hid sp_H2N
                  clear sp_H2N
                  have ht := Touch.set ((D5.setCell ⟨b0, 0, none⟩ (.int .u8 e0.k)).setCell ⟨b0, 1, none⟩ (.slice A2 (e0.ns.length + 1) c2)) b0 2 (.string e0.t)
                  have hf := HFm.out.set b0 2 (.string e0.t)
                  have sp_H2N := H2N.out.boxT HKm.out (by decide) 2 (.string e0.t)
                  replace HKm := Lib.hid (HKm.out.set 2 (.string e0.t))
                  replace HP4 := Lib.hid (HP4.out.touch ht (by have hord := HORD.out; omega))
                  replace HB := Lib.hid (Touch.step HB.out ht (by have hord := HORD.out; omega))
                  replace HLS := Lib.hid (HLS.out.touch ht (by have hord := HORD.out; omega))
                  replace HG := Lib.hid (Touch.step HG.out ht (by have hord := HORD.out; omega))
                  replace HFm := Lib.hid hf
                  clear ht hf
                  replace H2N := Lib.hid sp_H2N
                  clear sp_H2N
                  have hs : D5.heap.size ≤ (((D5.setCell ⟨b0, 0, none⟩ (.int .u8 e0.k)).setCell ⟨b0, 1, none⟩ (.slice A2 (e0.ns.length + 1) c2)).setCell ⟨b0, 2, none⟩ (.string e0.t)).heap.size := by simp
                  have HO2 := Lib.hid (And.intro HORD.out hs)
                  clear HORD
                  have HORD := HO2
                  clear HO2
                  replace HPm := Lib.hid hp
                  clear hp hs
                  refine hK.out _ _ (HKS.out _ HG.out) (fun hHeld => ?_)
                  clear hK K
                  generalize (((D5.setCell ⟨b0, 0, none⟩ (.int .u8 e0.k)).setCell ⟨b0, 1, none⟩ (.slice A2 (e0.ns.length + 1) c2)).setCell ⟨b0, 2, none⟩ (.string e0.t)) = D6 at HP4 HB HLS HG HPm HFm HKm H2N HORD hHeld ⊢
                  try simp only [Act.put, List.setIfInBounds_toArray, List.set_cons_zero, List.set_cons_succ]
                  refine wpAnyH_done (by kernel_rfl) ?_ _
                  go_wp2_with fail
                  go_meet
                  refine ⟨A2, c2, b0, rfl, Lib.hid ⟨HPm.out, cm_of (c := cMoreN e0 n) HY0.out.k (fun x hx => ?_) HY0.out.txt (by have h := H2N.out; simpa [cMoreN, nums] using h), HG.out⟩⟩
                  rcases List.mem_append.1 hx with h | h
                  · exact HY0.out.fit x h
                  · rw [List.mem_singleton.1 h]; exact HNW.out
        case br43_12 =>
          have hb := (Below.refl D1.heap.size D1).alloc (Nat.le_refl _) (.cells #[.int .u8 0, .slice none 0 0, .string ⟨#[]⟩] 51)
          have hs : D1.heap.size + 1 ≤ (D1.alloc (.cells #[.int .u8 0, .slice none 0 0, .string ⟨#[]⟩] 51)).heap.size := by simp
          replace HP4 := Lib.hid (HP4.out.below hb)
          replace HB := Lib.hid (below_step HB.out hb)
          replace HLS := Lib.hid (HLS.out.below hb)
          replace HG := Lib.hid (below_step HG.out hb)
          replace HE1 := Lib.hid (HE1.out.below hb)
          have HO2 := Lib.hid (And.intro HORD.out hs)
          clear HORD
          have HORD := HO2
          clear HO2
          have HPm := Lib.hid (show Three _ D1.heap.size _ _ _ from box3 D1 (.int .u8 0) (.slice none 0 0) (.string ⟨#[]⟩) 51)
          have HFm := Lib.hid (free_new D1 #[.int .u8 0, .slice none 0 0, .string ⟨#[]⟩] 51)
          have HKm := Lib.hid (boxT_new D1 #[.int .u8 0, .slice none 0 0, .string ⟨#[]⟩] 51)
          go_simp
          refine hK.out _ _ (HKS.out _ HG.out) (fun hHeld => ?_)
          clear hK K
          clear hb hs
          generalize hWs : D1.heap.size = b0 at HP4 HB HLS HG HE1 HPm HFm HKm HORD ⊢
          clear hWs
          generalize D1.alloc (.cells #[.int .u8 0, .slice none 0 0, .string ⟨#[]⟩] 51) = D2 at HP4 HB HLS HG HE1 HPm HFm HKm HORD hHeld ⊢
          try simp only [Act.put, List.setIfInBounds_toArray, List.set_cons_zero, List.set_cons_succ]
          refine wpAnyH_ready (rs := [2]) (by kernel_rfl) (by simp) ?_
          refine (AllReadyH.cons (o := { dst := some 58, op := Go.Op.buildSlice 41 0 #[], type := 41, pos := "outright.go:117", after := #[], guard := none }) rfl (fun K hK => ?br56_2) AllReadyH.nil)
          case br56_2 =>
            have hb := (Below.refl D2.heap.size D2).alloc (Nat.le_refl _) (.cells #[] 2)
            have hs : D2.heap.size + 1 ≤ (D2.alloc (.cells #[] 2)).heap.size := by simp
            replace HP4 := Lib.hid (HP4.out.below hb)
            replace HB := Lib.hid (below_step HB.out hb)
            replace HLS := Lib.hid (HLS.out.below hb)
            replace HG := Lib.hid (below_step HG.out hb)
            replace HE1 := Lib.hid (HE1.out.below hb)
            replace HPm := Lib.hid (HPm.out.below hb)
            replace HFm := Lib.hid (HFm.out.below hb)
            replace HKm := Lib.hid (HKm.out.below hb)
            have HO2 := Lib.hid (And.intro HORD.out hs)
            clear HORD
            have HORD := HO2
            clear HO2
            go_simp
            refine hK.out _ _ (HKS.out _ HG.out) (fun hHeld => ?_)
            clear hK K
            clear hb hs
            generalize hWs : D2.heap.size = z0 at HP4 HB HLS HG HE1 HPm HFm HKm HORD ⊢
            clear hWs
            generalize D2.alloc (.cells #[] 2) = D3 at HP4 HB HLS HG HE1 HPm HFm HKm HORD hHeld ⊢
            try simp only [Act.put, List.setIfInBounds_toArray, List.set_cons_zero, List.set_cons_succ]
            refine wpAnyH_ready (rs := [5]) (by kernel_rfl) (by simp) ?_
            refine (AllReadyH.cons (o := { dst := some 61, op := Go.Op.call { callee := Go.Callee.builtin Go.Builtin.append, args := #[Go.Operand.tmp 58, Go.Operand.tmp 60], argTypes := #[41, 41] }, type := 41, pos := "outright.go:117", after := #[{ on := 2, ground := Go.Ground.data }, { on := 4, ground := Go.Ground.data }], guard := none }) rfl (fun K hK => ?br57_5) AllReadyH.nil)
            case br57_5 =>
              refine step_append_new 41 2 (.int .i64 0) 8 Tryd.underlying41 infoN rfl (by decide) rfl (.tmp 58) (.tmp 60) rfl z0 rfl A0 e0.ns.length c0 (nums e0.ns) rfl (nums_len _).symm (HY0.out.below HB.out).ns (nums_cell _) HY0.out.nA (by have := HL0.out; simp only [nums_len]; omega) ?_
              intro v1 D4 hO hb
              obtain ⟨A1, c1, rfl, -⟩ := hO.vat
              have hO1 := hO.b
              rw [nums_len] at hO1 ⊢
              clear hO
              replace HP4 := Lib.hid (HP4.out.below hb)
              replace HB := Lib.hid (below_step HB.out hb)
              replace HLS := Lib.hid (HLS.out.below hb)
              replace HG := Lib.hid (below_step HG.out hb)
              replace HE1 := Lib.hid (HE1.out.below hb)
              replace HPm := Lib.hid (HPm.out.below hb)
              replace HFm := Lib.hid (HFm.out.below hb)
              replace HKm := Lib.hid (HKm.out.below hb)
              have HO2 := Lib.hid (And.intro HORD.out hb.size)
              clear HORD
              have HORD := HO2
              clear HO2
              have H1N := Lib.hid hO1
              clear hO1 hb
              refine hK.out _ _ (HKS.out _ HG.out) (fun hHeld => ?_)
              clear hK K
              try simp only [Act.put, List.setIfInBounds_toArray, List.set_cons_zero, List.set_cons_succ]
              refine wpAnyH_ready (rs := [8]) (by kernel_rfl) (by simp) ?_
              refine (AllReadyH.cons (o := { dst := some 64, op := Go.Op.call { callee := Go.Callee.builtin Go.Builtin.append, args := #[Go.Operand.tmp 61, Go.Operand.tmp 63], argTypes := #[41, 41] }, type := 41, pos := "outright.go:117", after := #[{ on := 5, ground := Go.Ground.data }, { on := 7, ground := Go.Ground.data }, { on := 5, ground := Go.Ground.chain }], guard := none }) rfl (fun K hK => ?br58_8) AllReadyH.nil)
              case br58_8 =>
                refine step_append_one 41 2 (.int .i64 0) 8 Tryd.underlying41 infoN rfl (by decide) rfl (.tmp 61) (.tmp 63) rfl D3.heap.size D4.heap.size _ (nums e0.ns) rfl H1N.out (some ⟨q0, 0, none⟩) 1 (.int .i64 n) rfl HE1.out rfl (by have := HL0.out; simp only [nums_len]; omega) (by have hord := HORD.out; omega) ?_
                intro v2 D5 hO ht
                obtain ⟨A2, c2, rfl, -⟩ := hO.own.vat
                clear H1N
                clear HE1
                have hq : (nums e0.ns ++ [Value.int .i64 n]).length = e0.ns.length + 1 := by simp [nums_len]
                rw [hq] at hO ⊢
                clear hq
                replace HP4 := Lib.hid (HP4.out.touch ht (by have hord := HORD.out; omega))
                replace HB := Lib.hid (Touch.step HB.out ht (by have hord := HORD.out; omega))
                replace HLS := Lib.hid (HLS.out.touch ht (by have hord := HORD.out; omega))
                replace HG := Lib.hid (Touch.step HG.out ht (by have hord := HORD.out; omega))
                replace HPm := Lib.hid (HPm.out.touch ht (by have hord := HORD.out; omega))
                replace HFm := Lib.hid (HFm.out.touch ht (by have hord := HORD.out; omega))
                replace HKm := Lib.hid (HKm.out.touch ht (by have hord := HORD.out; omega))
                have HO2 := Lib.hid (And.intro HORD.out ht.size)
                clear HORD
                have HORD := HO2
                clear HO2
                have H2N := Lib.hid hO
                clear hO ht
                refine hK.out _ _ (HKS.out _ HG.out) (fun hHeld => ?_)
                clear hK K
                try simp only [Act.put, List.setIfInBounds_toArray, List.set_cons_zero, List.set_cons_succ]
                refine wpAnyH_take (i := 11) (oi := { dst := some 67, op := Go.Op.build 51 #[(0, Go.Operand.tmp 57), (1, Go.Operand.tmp 64), (2, Go.Operand.tmp 66)], type := 51, pos := "outright.go:117", after := #[{ on := 1, ground := Go.Ground.data }, { on := 8, ground := Go.Ground.data }, { on := 10, ground := Go.Ground.data }], guard := none }) (v := ?v59) rfl (by kernel_rfl) (by kernel_rfl) (by kernel_rfl) (fun _ _ _ h => h) (Or.inl ⟨by rfl, ?hy59⟩) (by assumption) ?rest59
                case hy59 => (intro w hSw; obtain ⟨s0, s1, s2, s3⟩ := hSw; go_simp; try with_reducible rfl)
                try simp only [Act.put, List.setIfInBounds_toArray, List.set_cons_zero, List.set_cons_succ]
                refine wpAnyH_ready (rs := [13]) (by kernel_rfl) (by simp) ?_
                refine (AllReadyH.cons (o := { dst := none, op := Go.Op.store 51 (Go.Operand.tmp 10) (Go.Operand.tmp 67), type := 0, pos := "outright.go:117", after := #[{ on := 12, ground := Go.Ground.data }, { on := 11, ground := Go.Ground.data }, { on := 8, ground := Go.Ground.chain }, { on := 0, ground := Go.Ground.phase }, { on := 1, ground := Go.Ground.phase }, { on := 2, ground := Go.Ground.phase }, { on := 3, ground := Go.Ground.phase }, { on := 4, ground := Go.Ground.phase }, { on := 5, ground := Go.Ground.phase }, { on := 6, ground := Go.Ground.phase }, { on := 7, ground := Go.Ground.phase }, { on := 8, ground := Go.Ground.phase }, { on := 9, ground := Go.Ground.phase }, { on := 10, ground := Go.Ground.phase }, { on := 11, ground := Go.Ground.phase }, { on := 12, ground := Go.Ground.phase }], guard := none }) rfl (fun K hK => ?br60_13) AllReadyH.nil)
                case br60_13 =>
                  obtain ⟨hpm_0, hpm_1, hpm_2⟩ := HPm.out
                  have f0 := HFm.out.2 0
                  have f1 := HFm.out.2 1
                  have f2 := HFm.out.2 2
                  go_simp
                  clear hpm_0 hpm_1 hpm_2
                  clear f0 f1 f2
                  have hp := (((HPm.out.set0 (.int .u8 e0.k)).set1 (.slice A2 (e0.ns.length + 1) c2)).set2 (.string e0.t))
                  have ht := Touch.set D5 b0 0 (.int .u8 e0.k)
                  have hf := HFm.out.set b0 0 (.int .u8 e0.k)
                  have sp_H2N := H2N.out.boxT HKm.out (by decide) 0 (.int .u8 e0.k)
                  replace HKm := Lib.hid (HKm.out.set 0 (.int .u8 e0.k))
                  replace HP4 := Lib.hid (HP4.out.touch ht (by have hord := HORD.out; omega))
                  replace HB := Lib.hid (Touch.step HB.out ht (by have hord := HORD.out; omega))
                  replace HLS := Lib.hid (HLS.out.touch ht (by have hord := HORD.out; omega))
                  replace HG := Lib.hid (Touch.step HG.out ht (by have hord := HORD.out; omega))
                  replace HFm := Lib.hid hf
                  clear ht hf
                  replace H2N := Lib.hid sp_H2N
                  clear sp_H2N
                  have ht := Touch.set (D5.setCell ⟨b0, 0, none⟩ (.int .u8 e0.k)) b0 1 (.slice A2 (e0.ns.length + 1) c2)
                  have hf := HFm.out.set b0 1 (.slice A2 (e0.ns.length + 1) c2)
                  have sp_H2N := H2N.out.boxT HKm.out (by decide) 1 (.slice A2 (e0.ns.length + 1) c2)
                  replace HKm := Lib.hid (HKm.out.set 1 (.slice A2 (e0.ns.length + 1) c2))
                  replace HP4 := Lib.hid (HP4.out.touch ht (by have hord := HORD.out; omega))
                  replace HB := Lib.hid (Touch.step HB.out ht (by have hord := HORD.out; omega))
                  replace HLS := Lib.hid (HLS.out.touch ht (by have hord := HORD.out; omega))
                  replace HG := Lib.hid (Touch.step HG.out ht (by have hord := HORD.out; omega))
                  replace HFm := Lib.hid hf
                  clear ht hf
                  replace H2N := Lib.hid sp_H2N
                  clear sp_H2N
                  have ht := Touch.set ((D5.setCell ⟨b0, 0, none⟩ (.int .u8 e0.k)).setCell ⟨b0, 1, none⟩ (.slice A2 (e0.ns.length + 1) c2)) b0 2 (.string e0.t)
                  have hf := HFm.out.set b0 2 (.string e0.t)
                  have sp_H2N := H2N.out.boxT HKm.out (by decide) 2 (.string e0.t)
                  replace HKm := Lib.hid (HKm.out.set 2 (.string e0.t))
                  replace HP4 := Lib.hid (HP4.out.touch ht (by have hord := HORD.out; omega))
                  replace HB := Lib.hid (Touch.step HB.out ht (by have hord := HORD.out; omega))
                  replace HLS := Lib.hid (HLS.out.touch ht (by have hord := HORD.out; omega))
                  replace HG := Lib.hid (Touch.step HG.out ht (by have hord := HORD.out; omega))
                  replace HFm := Lib.hid hf
                  clear ht hf
                  replace H2N := Lib.hid sp_H2N
                  clear sp_H2N
                  have hs : D5.heap.size ≤ (((D5.setCell ⟨b0, 0, none⟩ (.int .u8 e0.k)).setCell ⟨b0, 1, none⟩ (.slice A2 (e0.ns.length + 1) c2)).setCell ⟨b0, 2, none⟩ (.string e0.t)).heap.size := by simp
                  have HO2 := Lib.hid (And.intro HORD.out hs)
                  clear HORD
                  have HORD := HO2
                  clear HO2
                  replace HPm := Lib.hid hp
                  clear hp hs
                  refine hK.out _ _ (HKS.out _ HG.out) (fun hHeld => ?_)
                  clear hK K
                  generalize (((D5.setCell ⟨b0, 0, none⟩ (.int .u8 e0.k)).setCell ⟨b0, 1, none⟩ (.slice A2 (e0.ns.length + 1) c2)).setCell ⟨b0, 2, none⟩ (.string e0.t)) = D6 at HP4 HB HLS HG HPm HFm HKm H2N HORD hHeld ⊢
                  try simp only [Act.put, List.setIfInBounds_toArray, List.set_cons_zero, List.set_cons_succ]
                  refine wpAnyH_done (by kernel_rfl) ?_ _
                  go_wp2_with fail
                  go_meet
                  refine ⟨A2, c2, b0, rfl, Lib.hid ⟨HPm.out, cm_of (c := cMoreN e0 n) HY0.out.k (fun x hx => ?_) HY0.out.txt (by have h := H2N.out; simpa [cMoreN, nums] using h), HG.out⟩⟩
                  rcases List.mem_append.1 hx with h | h
                  · exact HY0.out.fit x h
                  · rw [List.mem_singleton.1 h]; exact HNW.out
      case br8_12 =>
        have hb := (Below.refl D0.heap.size D0).alloc (Nat.le_refl _) (.cells #[.int .u8 0, .slice none 0 0, .string ⟨#[]⟩] 51)
        have hs : D0.heap.size + 1 ≤ (D0.alloc (.cells #[.int .u8 0, .slice none 0 0, .string ⟨#[]⟩] 51)).heap.size := by simp
        replace HP4 := Lib.hid (HP4.out.below hb)
        replace HB := Lib.hid (below_step HB.out hb)
        replace HLS := Lib.hid (HLS.out.below hb)
        replace HG := Lib.hid (below_step HG.out hb)
        have HO2 := Lib.hid (And.intro HORD.out hs)
        clear HORD
        have HORD := HO2
        clear HO2
        have HPm := Lib.hid (show Three _ D0.heap.size _ _ _ from box3 D0 (.int .u8 0) (.slice none 0 0) (.string ⟨#[]⟩) 51)
        have HFm := Lib.hid (free_new D0 #[.int .u8 0, .slice none 0 0, .string ⟨#[]⟩] 51)
        have HKm := Lib.hid (boxT_new D0 #[.int .u8 0, .slice none 0 0, .string ⟨#[]⟩] 51)
        go_simp
        refine hK.out _ _ (HKS.out _ HG.out) (fun hHeld => ?_)
        clear hK K
        clear hb hs
        generalize hWs : D0.heap.size = b0 at HP4 HB HLS HG HPm HFm HKm HORD ⊢
        clear hWs
        generalize D0.alloc (.cells #[.int .u8 0, .slice none 0 0, .string ⟨#[]⟩] 51) = D1 at HP4 HB HLS HG HPm HFm HKm HORD hHeld ⊢
        try simp only [Act.put, List.setIfInBounds_toArray, List.set_cons_zero, List.set_cons_succ]
        refine wpAnyH_ready (rs := [2, 7]) (by kernel_rfl) (by simp) ?_
        refine (AllReadyH.cons (o := { dst := some 58, op := Go.Op.buildSlice 41 0 #[], type := 41, pos := "outright.go:117", after := #[], guard := none }) rfl (fun K hK => ?br61_2) (AllReadyH.cons (o := { dst := some 63, op := Go.Op.buildSlice 41 1 #[(0, Go.Operand.tmp 62)], type := 41, pos := "outright.go:117", after := #[{ on := 6, ground := Go.Ground.data }], guard := none }) rfl (fun K hK => ?br61_7) AllReadyH.nil))
        case br61_2 =>
          have hb := (Below.refl D1.heap.size D1).alloc (Nat.le_refl _) (.cells #[] 2)
          have hs : D1.heap.size + 1 ≤ (D1.alloc (.cells #[] 2)).heap.size := by simp
          replace HP4 := Lib.hid (HP4.out.below hb)
          replace HB := Lib.hid (below_step HB.out hb)
          replace HLS := Lib.hid (HLS.out.below hb)
          replace HG := Lib.hid (below_step HG.out hb)
          replace HPm := Lib.hid (HPm.out.below hb)
          replace HFm := Lib.hid (HFm.out.below hb)
          replace HKm := Lib.hid (HKm.out.below hb)
          have HO2 := Lib.hid (And.intro HORD.out hs)
          clear HORD
          have HORD := HO2
          clear HO2
          go_simp
          refine hK.out _ _ (HKS.out _ HG.out) (fun hHeld => ?_)
          clear hK K
          clear hb hs
          generalize hWs : D1.heap.size = z0 at HP4 HB HLS HG HPm HFm HKm HORD ⊢
          clear hWs
          generalize D1.alloc (.cells #[] 2) = D2 at HP4 HB HLS HG HPm HFm HKm HORD hHeld ⊢
          try simp only [Act.put, List.setIfInBounds_toArray, List.set_cons_zero, List.set_cons_succ]
          refine wpAnyH_ready (rs := [5, 7]) (by kernel_rfl) (by simp) ?_
          refine (AllReadyH.cons (o := { dst := some 61, op := Go.Op.call { callee := Go.Callee.builtin Go.Builtin.append, args := #[Go.Operand.tmp 58, Go.Operand.tmp 60], argTypes := #[41, 41] }, type := 41, pos := "outright.go:117", after := #[{ on := 2, ground := Go.Ground.data }, { on := 4, ground := Go.Ground.data }], guard := none }) rfl (fun K hK => ?br62_5) (AllReadyH.cons (o := { dst := some 63, op := Go.Op.buildSlice 41 1 #[(0, Go.Operand.tmp 62)], type := 41, pos := "outright.go:117", after := #[{ on := 6, ground := Go.Ground.data }], guard := none }) rfl (fun K hK => ?br62_7) AllReadyH.nil))
          case br62_5 =>
            refine step_append_new 41 2 (.int .i64 0) 8 Tryd.underlying41 infoN rfl (by decide) rfl (.tmp 58) (.tmp 60) rfl z0 rfl A0 e0.ns.length c0 (nums e0.ns) rfl (nums_len _).symm (HY0.out.below HB.out).ns (nums_cell _) HY0.out.nA (by have := HL0.out; simp only [nums_len]; omega) ?_
            intro v1 D3 hO hb
            obtain ⟨A1, c1, rfl, -⟩ := hO.vat
            have hO1 := hO.b
            rw [nums_len] at hO1 ⊢
            clear hO
            replace HP4 := Lib.hid (HP4.out.below hb)
            replace HB := Lib.hid (below_step HB.out hb)
            replace HLS := Lib.hid (HLS.out.below hb)
            replace HG := Lib.hid (below_step HG.out hb)
            replace HPm := Lib.hid (HPm.out.below hb)
            replace HFm := Lib.hid (HFm.out.below hb)
            replace HKm := Lib.hid (HKm.out.below hb)
            have HO2 := Lib.hid (And.intro HORD.out hb.size)
            clear HORD
            have HORD := HO2
            clear HO2
            have H1N := Lib.hid hO1
            clear hO1 hb
            refine hK.out _ _ (HKS.out _ HG.out) (fun hHeld => ?_)
            clear hK K
            try simp only [Act.put, List.setIfInBounds_toArray, List.set_cons_zero, List.set_cons_succ]
            refine wpAnyH_ready (rs := [7]) (by kernel_rfl) (by simp) ?_
            refine (AllReadyH.cons (o := { dst := some 63, op := Go.Op.buildSlice 41 1 #[(0, Go.Operand.tmp 62)], type := 41, pos := "outright.go:117", after := #[{ on := 6, ground := Go.Ground.data }], guard := none }) rfl (fun K hK => ?br63_7) AllReadyH.nil)
            case br63_7 =>
              have hb := (Below.refl D3.heap.size D3).alloc (Nat.le_refl _) (.cells #[.int .i64 n] 2)
              have hs : D3.heap.size + 1 ≤ (D3.alloc (.cells #[.int .i64 n] 2)).heap.size := by simp
              replace HP4 := Lib.hid (HP4.out.below hb)
              replace HB := Lib.hid (below_step HB.out hb)
              replace HLS := Lib.hid (HLS.out.below hb)
              replace HG := Lib.hid (below_step HG.out hb)
              replace HPm := Lib.hid (HPm.out.below hb)
              replace HFm := Lib.hid (HFm.out.below hb)
              replace HKm := Lib.hid (HKm.out.below hb)
              replace H1N := Lib.hid (H1N.out.below hb)
              have HO2 := Lib.hid (And.intro HORD.out hs)
              clear HORD
              have HORD := HO2
              clear HO2
              have HE1 := Lib.hid (vat_new D3 (.int .i64 n) 2)
              go_simp
              refine hK.out _ _ (HKS.out _ HG.out) (fun hHeld => ?_)
              clear hK K
              clear hb hs
              generalize hWs : D3.heap.size = q0 at HP4 HB HLS HG HPm HFm HKm H1N HE1 HORD ⊢
              clear hWs
              generalize D3.alloc (.cells #[.int .i64 n] 2) = D4 at HP4 HB HLS HG HPm HFm HKm H1N HE1 HORD hHeld ⊢
              try simp only [Act.put, List.setIfInBounds_toArray, List.set_cons_zero, List.set_cons_succ]
              refine wpAnyH_ready (rs := [8]) (by kernel_rfl) (by simp) ?_
              refine (AllReadyH.cons (o := { dst := some 64, op := Go.Op.call { callee := Go.Callee.builtin Go.Builtin.append, args := #[Go.Operand.tmp 61, Go.Operand.tmp 63], argTypes := #[41, 41] }, type := 41, pos := "outright.go:117", after := #[{ on := 5, ground := Go.Ground.data }, { on := 7, ground := Go.Ground.data }, { on := 5, ground := Go.Ground.chain }], guard := none }) rfl (fun K hK => ?br64_8) AllReadyH.nil)
              case br64_8 =>
                refine step_append_one 41 2 (.int .i64 0) 8 Tryd.underlying41 infoN rfl (by decide) rfl (.tmp 61) (.tmp 63) rfl D2.heap.size q0 _ (nums e0.ns) rfl H1N.out (some ⟨q0, 0, none⟩) 1 (.int .i64 n) rfl HE1.out rfl (by have := HL0.out; simp only [nums_len]; omega) (by have hord := HORD.out; omega) ?_
                intro v2 D5 hO ht
                obtain ⟨A2, c2, rfl, -⟩ := hO.own.vat
                clear H1N
                clear HE1
                have hq : (nums e0.ns ++ [Value.int .i64 n]).length = e0.ns.length + 1 := by simp [nums_len]
                rw [hq] at hO ⊢
                clear hq
                replace HP4 := Lib.hid (HP4.out.touch ht (by have hord := HORD.out; omega))
                replace HB := Lib.hid (Touch.step HB.out ht (by have hord := HORD.out; omega))
                replace HLS := Lib.hid (HLS.out.touch ht (by have hord := HORD.out; omega))
                replace HG := Lib.hid (Touch.step HG.out ht (by have hord := HORD.out; omega))
                replace HPm := Lib.hid (HPm.out.touch ht (by have hord := HORD.out; omega))
                replace HFm := Lib.hid (HFm.out.touch ht (by have hord := HORD.out; omega))
                replace HKm := Lib.hid (HKm.out.touch ht (by have hord := HORD.out; omega))
                have HO2 := Lib.hid (And.intro HORD.out ht.size)
                clear HORD
                have HORD := HO2
                clear HO2
                have H2N := Lib.hid hO
                clear hO ht
                refine hK.out _ _ (HKS.out _ HG.out) (fun hHeld => ?_)
                clear hK K
                try simp only [Act.put, List.setIfInBounds_toArray, List.set_cons_zero, List.set_cons_succ]
                refine wpAnyH_take (i := 11) (oi := { dst := some 67, op := Go.Op.build 51 #[(0, Go.Operand.tmp 57), (1, Go.Operand.tmp 64), (2, Go.Operand.tmp 66)], type := 51, pos := "outright.go:117", after := #[{ on := 1, ground := Go.Ground.data }, { on := 8, ground := Go.Ground.data }, { on := 10, ground := Go.Ground.data }], guard := none }) (v := ?v65) rfl (by kernel_rfl) (by kernel_rfl) (by kernel_rfl) (fun _ _ _ h => h) (Or.inl ⟨by rfl, ?hy65⟩) (by assumption) ?rest65
                case hy65 => (intro w hSw; obtain ⟨s0, s1, s2, s3⟩ := hSw; go_simp; try with_reducible rfl)
                try simp only [Act.put, List.setIfInBounds_toArray, List.set_cons_zero, List.set_cons_succ]
                refine wpAnyH_ready (rs := [13]) (by kernel_rfl) (by simp) ?_
                refine (AllReadyH.cons (o := { dst := none, op := Go.Op.store 51 (Go.Operand.tmp 10) (Go.Operand.tmp 67), type := 0, pos := "outright.go:117", after := #[{ on := 12, ground := Go.Ground.data }, { on := 11, ground := Go.Ground.data }, { on := 8, ground := Go.Ground.chain }, { on := 0, ground := Go.Ground.phase }, { on := 1, ground := Go.Ground.phase }, { on := 2, ground := Go.Ground.phase }, { on := 3, ground := Go.Ground.phase }, { on := 4, ground := Go.Ground.phase }, { on := 5, ground := Go.Ground.phase }, { on := 6, ground := Go.Ground.phase }, { on := 7, ground := Go.Ground.phase }, { on := 8, ground := Go.Ground.phase }, { on := 9, ground := Go.Ground.phase }, { on := 10, ground := Go.Ground.phase }, { on := 11, ground := Go.Ground.phase }, { on := 12, ground := Go.Ground.phase }], guard := none }) rfl (fun K hK => ?br66_13) AllReadyH.nil)
                case br66_13 =>
                  obtain ⟨hpm_0, hpm_1, hpm_2⟩ := HPm.out
                  have f0 := HFm.out.2 0
                  have f1 := HFm.out.2 1
                  have f2 := HFm.out.2 2
                  go_simp
                  clear hpm_0 hpm_1 hpm_2
                  clear f0 f1 f2
                  have hp := (((HPm.out.set0 (.int .u8 e0.k)).set1 (.slice A2 (e0.ns.length + 1) c2)).set2 (.string e0.t))
                  have ht := Touch.set D5 b0 0 (.int .u8 e0.k)
                  have hf := HFm.out.set b0 0 (.int .u8 e0.k)
                  have sp_H2N := H2N.out.boxT HKm.out (by decide) 0 (.int .u8 e0.k)
                  replace HKm := Lib.hid (HKm.out.set 0 (.int .u8 e0.k))
                  replace HP4 := Lib.hid (HP4.out.touch ht (by have hord := HORD.out; omega))
                  replace HB := Lib.hid (Touch.step HB.out ht (by have hord := HORD.out; omega))
                  replace HLS := Lib.hid (HLS.out.touch ht (by have hord := HORD.out; omega))
                  replace HG := Lib.hid (Touch.step HG.out ht (by have hord := HORD.out; omega))
                  replace HFm := Lib.hid hf
                  clear ht hf
                  replace H2N := Lib.hid sp_H2N
                  clear sp_H2N
                  have ht := Touch.set (D5.setCell ⟨b0, 0, none⟩ (.int .u8 e0.k)) b0 1 (.slice A2 (e0.ns.length + 1) c2)
                  have hf := HFm.out.set b0 1 (.slice A2 (e0.ns.length + 1) c2)
                  have sp_H2N := H2N.out.boxT HKm.out (by decide) 1 (.slice A2 (e0.ns.length + 1) c2)
                  replace HKm := Lib.hid (HKm.out.set 1 (.slice A2 (e0.ns.length + 1) c2))
                  replace HP4 := Lib.hid (HP4.out.touch ht (by have hord := HORD.out; omega))
                  replace HB := Lib.hid (Touch.step HB.out ht (by have hord := HORD.out; omega))
                  replace HLS := Lib.hid (HLS.out.touch ht (by have hord := HORD.out; omega))
                  replace HG := Lib.hid (Touch.step HG.out ht (by have hord := HORD.out; omega))
                  replace HFm := Lib.hid hf
                  clear ht hf
                  replace H2N := Lib.hid sp_H2N
                  clear sp_H2N
                  have ht := Touch.set ((D5.setCell ⟨b0, 0, none⟩ (.int .u8 e0.k)).setCell ⟨b0, 1, none⟩ (.slice A2 (e0.ns.length + 1) c2)) b0 2 (.string e0.t)
                  have hf := HFm.out.set b0 2 (.string e0.t)
                  have sp_H2N := H2N.out.boxT HKm.out (by decide) 2 (.string e0.t)
                  replace HKm := Lib.hid (HKm.out.set 2 (.string e0.t))
                  replace HP4 := Lib.hid (HP4.out.touch ht (by have hord := HORD.out; omega))
                  replace HB := Lib.hid (Touch.step HB.out ht (by have hord := HORD.out; omega))
                  replace HLS := Lib.hid (HLS.out.touch ht (by have hord := HORD.out; omega))
                  replace HG := Lib.hid (Touch.step HG.out ht (by have hord := HORD.out; omega))
                  replace HFm := Lib.hid hf
                  clear ht hf
                  replace H2N := Lib.hid sp_H2N
                  clear sp_H2N
                  have hs : D5.heap.size ≤ (((D5.setCell ⟨b0, 0, none⟩ (.int .u8 e0.k)).setCell ⟨b0, 1, none⟩ (.slice A2 (e0.ns.length + 1) c2)).setCell ⟨b0, 2, none⟩ (.string e0.t)).heap.size := by simp
                  have HO2 := Lib.hid (And.intro HORD.out hs)
                  clear HORD
                  have HORD := HO2
                  clear HO2
                  replace HPm := Lib.hid hp
                  clear hp hs
                  refine hK.out _ _ (HKS.out _ HG.out) (fun hHeld => ?_)
                  clear hK K
                  generalize (((D5.setCell ⟨b0, 0, none⟩ (.int .u8 e0.k)).setCell ⟨b0, 1, none⟩ (.slice A2 (e0.ns.length + 1) c2)).setCell ⟨b0, 2, none⟩ (.string e0.t)) = D6 at HP4 HB HLS HG HPm HFm HKm H2N HORD hHeld ⊢
                  try simp only [Act.put, List.setIfInBounds_toArray, List.set_cons_zero, List.set_cons_succ]
                  refine wpAnyH_done (by kernel_rfl) ?_ _
                  go_wp2_with fail
                  go_meet
                  refine ⟨A2, c2, b0, rfl, Lib.hid ⟨HPm.out, cm_of (c := cMoreN e0 n) HY0.out.k (fun x hx => ?_) HY0.out.txt (by have h := H2N.out; simpa [cMoreN, nums] using h), HG.out⟩⟩
                  rcases List.mem_append.1 hx with h | h
                  · exact HY0.out.fit x h
                  · rw [List.mem_singleton.1 h]; exact HNW.out
          case br62_7 =>
            have hb := (Below.refl D2.heap.size D2).alloc (Nat.le_refl _) (.cells #[.int .i64 n] 2)
            have hs : D2.heap.size + 1 ≤ (D2.alloc (.cells #[.int .i64 n] 2)).heap.size := by simp
            replace HP4 := Lib.hid (HP4.out.below hb)
            replace HB := Lib.hid (below_step HB.out hb)
            replace HLS := Lib.hid (HLS.out.below hb)
            replace HG := Lib.hid (below_step HG.out hb)
            replace HPm := Lib.hid (HPm.out.below hb)
            replace HFm := Lib.hid (HFm.out.below hb)
            replace HKm := Lib.hid (HKm.out.below hb)
            have HO2 := Lib.hid (And.intro HORD.out hs)
            clear HORD
            have HORD := HO2
            clear HO2
            have HE1 := Lib.hid (vat_new D2 (.int .i64 n) 2)
            go_simp
            refine hK.out _ _ (HKS.out _ HG.out) (fun hHeld => ?_)
            clear hK K
            clear hb hs
            generalize hWs : D2.heap.size = q0 at HP4 HB HLS HG HPm HFm HKm HE1 HORD ⊢
            clear hWs
            generalize D2.alloc (.cells #[.int .i64 n] 2) = D3 at HP4 HB HLS HG HPm HFm HKm HE1 HORD hHeld ⊢
            try simp only [Act.put, List.setIfInBounds_toArray, List.set_cons_zero, List.set_cons_succ]
            refine wpAnyH_ready (rs := [5]) (by kernel_rfl) (by simp) ?_
            refine (AllReadyH.cons (o := { dst := some 61, op := Go.Op.call { callee := Go.Callee.builtin Go.Builtin.append, args := #[Go.Operand.tmp 58, Go.Operand.tmp 60], argTypes := #[41, 41] }, type := 41, pos := "outright.go:117", after := #[{ on := 2, ground := Go.Ground.data }, { on := 4, ground := Go.Ground.data }], guard := none }) rfl (fun K hK => ?br67_5) AllReadyH.nil)
            case br67_5 =>
              refine step_append_new 41 2 (.int .i64 0) 8 Tryd.underlying41 infoN rfl (by decide) rfl (.tmp 58) (.tmp 60) rfl z0 rfl A0 e0.ns.length c0 (nums e0.ns) rfl (nums_len _).symm (HY0.out.below HB.out).ns (nums_cell _) HY0.out.nA (by have := HL0.out; simp only [nums_len]; omega) ?_
              intro v1 D4 hO hb
              obtain ⟨A1, c1, rfl, -⟩ := hO.vat
              have hO1 := hO.b
              rw [nums_len] at hO1 ⊢
              clear hO
              replace HP4 := Lib.hid (HP4.out.below hb)
              replace HB := Lib.hid (below_step HB.out hb)
              replace HLS := Lib.hid (HLS.out.below hb)
              replace HG := Lib.hid (below_step HG.out hb)
              replace HPm := Lib.hid (HPm.out.below hb)
              replace HFm := Lib.hid (HFm.out.below hb)
              replace HKm := Lib.hid (HKm.out.below hb)
              replace HE1 := Lib.hid (HE1.out.below hb)
              have HO2 := Lib.hid (And.intro HORD.out hb.size)
              clear HORD
              have HORD := HO2
              clear HO2
              have H1N := Lib.hid hO1
              clear hO1 hb
              refine hK.out _ _ (HKS.out _ HG.out) (fun hHeld => ?_)
              clear hK K
              try simp only [Act.put, List.setIfInBounds_toArray, List.set_cons_zero, List.set_cons_succ]
              refine wpAnyH_ready (rs := [8]) (by kernel_rfl) (by simp) ?_
              refine (AllReadyH.cons (o := { dst := some 64, op := Go.Op.call { callee := Go.Callee.builtin Go.Builtin.append, args := #[Go.Operand.tmp 61, Go.Operand.tmp 63], argTypes := #[41, 41] }, type := 41, pos := "outright.go:117", after := #[{ on := 5, ground := Go.Ground.data }, { on := 7, ground := Go.Ground.data }, { on := 5, ground := Go.Ground.chain }], guard := none }) rfl (fun K hK => ?br68_8) AllReadyH.nil)
              case br68_8 =>
                refine step_append_one 41 2 (.int .i64 0) 8 Tryd.underlying41 infoN rfl (by decide) rfl (.tmp 61) (.tmp 63) rfl D3.heap.size D4.heap.size _ (nums e0.ns) rfl H1N.out (some ⟨q0, 0, none⟩) 1 (.int .i64 n) rfl HE1.out rfl (by have := HL0.out; simp only [nums_len]; omega) (by have hord := HORD.out; omega) ?_
                intro v2 D5 hO ht
                obtain ⟨A2, c2, rfl, -⟩ := hO.own.vat
                clear H1N
                clear HE1
                have hq : (nums e0.ns ++ [Value.int .i64 n]).length = e0.ns.length + 1 := by simp [nums_len]
                rw [hq] at hO ⊢
                clear hq
                replace HP4 := Lib.hid (HP4.out.touch ht (by have hord := HORD.out; omega))
                replace HB := Lib.hid (Touch.step HB.out ht (by have hord := HORD.out; omega))
                replace HLS := Lib.hid (HLS.out.touch ht (by have hord := HORD.out; omega))
                replace HG := Lib.hid (Touch.step HG.out ht (by have hord := HORD.out; omega))
                replace HPm := Lib.hid (HPm.out.touch ht (by have hord := HORD.out; omega))
                replace HFm := Lib.hid (HFm.out.touch ht (by have hord := HORD.out; omega))
                replace HKm := Lib.hid (HKm.out.touch ht (by have hord := HORD.out; omega))
                have HO2 := Lib.hid (And.intro HORD.out ht.size)
                clear HORD
                have HORD := HO2
                clear HO2
                have H2N := Lib.hid hO
                clear hO ht
                refine hK.out _ _ (HKS.out _ HG.out) (fun hHeld => ?_)
                clear hK K
                try simp only [Act.put, List.setIfInBounds_toArray, List.set_cons_zero, List.set_cons_succ]
                refine wpAnyH_take (i := 11) (oi := { dst := some 67, op := Go.Op.build 51 #[(0, Go.Operand.tmp 57), (1, Go.Operand.tmp 64), (2, Go.Operand.tmp 66)], type := 51, pos := "outright.go:117", after := #[{ on := 1, ground := Go.Ground.data }, { on := 8, ground := Go.Ground.data }, { on := 10, ground := Go.Ground.data }], guard := none }) (v := ?v69) rfl (by kernel_rfl) (by kernel_rfl) (by kernel_rfl) (fun _ _ _ h => h) (Or.inl ⟨by rfl, ?hy69⟩) (by assumption) ?rest69
                case hy69 => (intro w hSw; obtain ⟨s0, s1, s2, s3⟩ := hSw; go_simp; try with_reducible rfl)
                try simp only [Act.put, List.setIfInBounds_toArray, List.set_cons_zero, List.set_cons_succ]
                refine wpAnyH_ready (rs := [13]) (by kernel_rfl) (by simp) ?_
                refine (AllReadyH.cons (o := { dst := none, op := Go.Op.store 51 (Go.Operand.tmp 10) (Go.Operand.tmp 67), type := 0, pos := "outright.go:117", after := #[{ on := 12, ground := Go.Ground.data }, { on := 11, ground := Go.Ground.data }, { on := 8, ground := Go.Ground.chain }, { on := 0, ground := Go.Ground.phase }, { on := 1, ground := Go.Ground.phase }, { on := 2, ground := Go.Ground.phase }, { on := 3, ground := Go.Ground.phase }, { on := 4, ground := Go.Ground.phase }, { on := 5, ground := Go.Ground.phase }, { on := 6, ground := Go.Ground.phase }, { on := 7, ground := Go.Ground.phase }, { on := 8, ground := Go.Ground.phase }, { on := 9, ground := Go.Ground.phase }, { on := 10, ground := Go.Ground.phase }, { on := 11, ground := Go.Ground.phase }, { on := 12, ground := Go.Ground.phase }], guard := none }) rfl (fun K hK => ?br70_13) AllReadyH.nil)
                case br70_13 =>
                  obtain ⟨hpm_0, hpm_1, hpm_2⟩ := HPm.out
                  have f0 := HFm.out.2 0
                  have f1 := HFm.out.2 1
                  have f2 := HFm.out.2 2
                  go_simp
                  clear hpm_0 hpm_1 hpm_2
                  clear f0 f1 f2
                  have hp := (((HPm.out.set0 (.int .u8 e0.k)).set1 (.slice A2 (e0.ns.length + 1) c2)).set2 (.string e0.t))
                  have ht := Touch.set D5 b0 0 (.int .u8 e0.k)
                  have hf := HFm.out.set b0 0 (.int .u8 e0.k)
                  have sp_H2N := H2N.out.boxT HKm.out (by decide) 0 (.int .u8 e0.k)
                  replace HKm := Lib.hid (HKm.out.set 0 (.int .u8 e0.k))
                  replace HP4 := Lib.hid (HP4.out.touch ht (by have hord := HORD.out; omega))
                  replace HB := Lib.hid (Touch.step HB.out ht (by have hord := HORD.out; omega))
                  replace HLS := Lib.hid (HLS.out.touch ht (by have hord := HORD.out; omega))
                  replace HG := Lib.hid (Touch.step HG.out ht (by have hord := HORD.out; omega))
                  replace HFm := Lib.hid hf
                  clear ht hf
                  replace H2N := Lib.hid sp_H2N
                  clear sp_H2N
                  have ht := Touch.set (D5.setCell ⟨b0, 0, none⟩ (.int .u8 e0.k)) b0 1 (.slice A2 (e0.ns.length + 1) c2)
                  have hf := HFm.out.set b0 1 (.slice A2 (e0.ns.length + 1) c2)
                  have sp_H2N := H2N.out.boxT HKm.out (by decide) 1 (.slice A2 (e0.ns.length + 1) c2)
                  replace HKm := Lib.hid (HKm.out.set 1 (.slice A2 (e0.ns.length + 1) c2))
                  replace HP4 := Lib.hid (HP4.out.touch ht (by have hord := HORD.out; omega))
                  replace HB := Lib.hid (Touch.step HB.out ht (by have hord := HORD.out; omega))
                  replace HLS := Lib.hid (HLS.out.touch ht (by have hord := HORD.out; omega))
                  replace HG := Lib.hid (Touch.step HG.out ht (by have hord := HORD.out; omega))
                  replace HFm := Lib.hid hf
                  clear ht hf
                  replace H2N := Lib.hid sp_H2N
                  clear sp_H2N
                  have ht := Touch.set ((D5.setCell ⟨b0, 0, none⟩ (.int .u8 e0.k)).setCell ⟨b0, 1, none⟩ (.slice A2 (e0.ns.length + 1) c2)) b0 2 (.string e0.t)
                  have hf := HFm.out.set b0 2 (.string e0.t)
                  have sp_H2N := H2N.out.boxT HKm.out (by decide) 2 (.string e0.t)
                  replace HKm := Lib.hid (HKm.out.set 2 (.string e0.t))
                  replace HP4 := Lib.hid (HP4.out.touch ht (by have hord := HORD.out; omega))
                  replace HB := Lib.hid (Touch.step HB.out ht (by have hord := HORD.out; omega))
                  replace HLS := Lib.hid (HLS.out.touch ht (by have hord := HORD.out; omega))
                  replace HG := Lib.hid (Touch.step HG.out ht (by have hord := HORD.out; omega))
                  replace HFm := Lib.hid hf
                  clear ht hf
                  replace H2N := Lib.hid sp_H2N
                  clear sp_H2N
                  have hs : D5.heap.size ≤ (((D5.setCell ⟨b0, 0, none⟩ (.int .u8 e0.k)).setCell ⟨b0, 1, none⟩ (.slice A2 (e0.ns.length + 1) c2)).setCell ⟨b0, 2, none⟩ (.string e0.t)).heap.size := by simp
                  have HO2 := Lib.hid (And.intro HORD.out hs)
                  clear HORD
                  have HORD := HO2
                  clear HO2
                  replace HPm := Lib.hid hp
                  clear hp hs
                  refine hK.out _ _ (HKS.out _ HG.out) (fun hHeld => ?_)
                  clear hK K
                  generalize (((D5.setCell ⟨b0, 0, none⟩ (.int .u8 e0.k)).setCell ⟨b0, 1, none⟩ (.slice A2 (e0.ns.length + 1) c2)).setCell ⟨b0, 2, none⟩ (.string e0.t)) = D6 at HP4 HB HLS HG HPm HFm HKm H2N HORD hHeld ⊢
                  try simp only [Act.put, List.setIfInBounds_toArray, List.set_cons_zero, List.set_cons_succ]
                  refine wpAnyH_done (by kernel_rfl) ?_ _
                  go_wp2_with fail
                  go_meet
                  refine ⟨A2, c2, b0, rfl, Lib.hid ⟨HPm.out, cm_of (c := cMoreN e0 n) HY0.out.k (fun x hx => ?_) HY0.out.txt (by have h := H2N.out; simpa [cMoreN, nums] using h), HG.out⟩⟩
                  rcases List.mem_append.1 hx with h | h
                  · exact HY0.out.fit x h
                  · rw [List.mem_singleton.1 h]; exact HNW.out
        case br61_7 =>
          have hb := (Below.refl D1.heap.size D1).alloc (Nat.le_refl _) (.cells #[.int .i64 n] 2)
          have hs : D1.heap.size + 1 ≤ (D1.alloc (.cells #[.int .i64 n] 2)).heap.size := by simp
          replace HP4 := Lib.hid (HP4.out.below hb)
          replace HB := Lib.hid (below_step HB.out hb)
          replace HLS := Lib.hid (HLS.out.below hb)
          replace HG := Lib.hid (below_step HG.out hb)
          replace HPm := Lib.hid (HPm.out.below hb)
          replace HFm := Lib.hid (HFm.out.below hb)
          replace HKm := Lib.hid (HKm.out.below hb)
          have HO2 := Lib.hid (And.intro HORD.out hs)
          clear HORD
          have HORD := HO2
          clear HO2
          have HE1 := Lib.hid (vat_new D1 (.int .i64 n) 2)
          go_simp
          refine hK.out _ _ (HKS.out _ HG.out) (fun hHeld => ?_)
          clear hK K
          clear hb hs
          generalize hWs : D1.heap.size = q0 at HP4 HB HLS HG HPm HFm HKm HE1 HORD ⊢
          clear hWs
          generalize D1.alloc (.cells #[.int .i64 n] 2) = D2 at HP4 HB HLS HG HPm HFm HKm HE1 HORD hHeld ⊢
          try simp only [Act.put, List.setIfInBounds_toArray, List.set_cons_zero, List.set_cons_succ]
          refine wpAnyH_ready (rs := [2]) (by kernel_rfl) (by simp) ?_
          refine (AllReadyH.cons (o := { dst := some 58, op := Go.Op.buildSlice 41 0 #[], type := 41, pos := "outright.go:117", after := #[], guard := none }) rfl (fun K hK => ?br71_2) AllReadyH.nil)
          case br71_2 =>
            have hb := (Below.refl D2.heap.size D2).alloc (Nat.le_refl _) (.cells #[] 2)
            have hs : D2.heap.size + 1 ≤ (D2.alloc (.cells #[] 2)).heap.size := by simp
            replace HP4 := Lib.hid (HP4.out.below hb)
            replace HB := Lib.hid (below_step HB.out hb)
            replace HLS := Lib.hid (HLS.out.below hb)
            replace HG := Lib.hid (below_step HG.out hb)
            replace HPm := Lib.hid (HPm.out.below hb)
            replace HFm := Lib.hid (HFm.out.below hb)
            replace HKm := Lib.hid (HKm.out.below hb)
            replace HE1 := Lib.hid (HE1.out.below hb)
            have HO2 := Lib.hid (And.intro HORD.out hs)
            clear HORD
            have HORD := HO2
            clear HO2
            go_simp
            refine hK.out _ _ (HKS.out _ HG.out) (fun hHeld => ?_)
            clear hK K
            clear hb hs
            generalize hWs : D2.heap.size = z0 at HP4 HB HLS HG HPm HFm HKm HE1 HORD ⊢
            clear hWs
            generalize D2.alloc (.cells #[] 2) = D3 at HP4 HB HLS HG HPm HFm HKm HE1 HORD hHeld ⊢
            try simp only [Act.put, List.setIfInBounds_toArray, List.set_cons_zero, List.set_cons_succ]
            refine wpAnyH_ready (rs := [5]) (by kernel_rfl) (by simp) ?_
            refine (AllReadyH.cons (o := { dst := some 61, op := Go.Op.call { callee := Go.Callee.builtin Go.Builtin.append, args := #[Go.Operand.tmp 58, Go.Operand.tmp 60], argTypes := #[41, 41] }, type := 41, pos := "outright.go:117", after := #[{ on := 2, ground := Go.Ground.data }, { on := 4, ground := Go.Ground.data }], guard := none }) rfl (fun K hK => ?br72_5) AllReadyH.nil)
            case br72_5 =>
              refine step_append_new 41 2 (.int .i64 0) 8 Tryd.underlying41 infoN rfl (by decide) rfl (.tmp 58) (.tmp 60) rfl z0 rfl A0 e0.ns.length c0 (nums e0.ns) rfl (nums_len _).symm (HY0.out.below HB.out).ns (nums_cell _) HY0.out.nA (by have := HL0.out; simp only [nums_len]; omega) ?_
              intro v1 D4 hO hb
              obtain ⟨A1, c1, rfl, -⟩ := hO.vat
              have hO1 := hO.b
              rw [nums_len] at hO1 ⊢
              clear hO
              replace HP4 := Lib.hid (HP4.out.below hb)
              replace HB := Lib.hid (below_step HB.out hb)
              replace HLS := Lib.hid (HLS.out.below hb)
              replace HG := Lib.hid (below_step HG.out hb)
              replace HPm := Lib.hid (HPm.out.below hb)
              replace HFm := Lib.hid (HFm.out.below hb)
              replace HKm := Lib.hid (HKm.out.below hb)
              replace HE1 := Lib.hid (HE1.out.below hb)
              have HO2 := Lib.hid (And.intro HORD.out hb.size)
              clear HORD
              have HORD := HO2
              clear HO2
              have H1N := Lib.hid hO1
              clear hO1 hb
              refine hK.out _ _ (HKS.out _ HG.out) (fun hHeld => ?_)
              clear hK K
              try simp only [Act.put, List.setIfInBounds_toArray, List.set_cons_zero, List.set_cons_succ]
              refine wpAnyH_ready (rs := [8]) (by kernel_rfl) (by simp) ?_
              refine (AllReadyH.cons (o := { dst := some 64, op := Go.Op.call { callee := Go.Callee.builtin Go.Builtin.append, args := #[Go.Operand.tmp 61, Go.Operand.tmp 63], argTypes := #[41, 41] }, type := 41, pos := "outright.go:117", after := #[{ on := 5, ground := Go.Ground.data }, { on := 7, ground := Go.Ground.data }, { on := 5, ground := Go.Ground.chain }], guard := none }) rfl (fun K hK => ?br73_8) AllReadyH.nil)
              case br73_8 =>
                refine step_append_one 41 2 (.int .i64 0) 8 Tryd.underlying41 infoN rfl (by decide) rfl (.tmp 61) (.tmp 63) rfl D3.heap.size D4.heap.size _ (nums e0.ns) rfl H1N.out (some ⟨q0, 0, none⟩) 1 (.int .i64 n) rfl HE1.out rfl (by have := HL0.out; simp only [nums_len]; omega) (by have hord := HORD.out; omega) ?_
                intro v2 D5 hO ht
                obtain ⟨A2, c2, rfl, -⟩ := hO.own.vat
                clear H1N
                clear HE1
                have hq : (nums e0.ns ++ [Value.int .i64 n]).length = e0.ns.length + 1 := by simp [nums_len]
                rw [hq] at hO ⊢
                clear hq
                replace HP4 := Lib.hid (HP4.out.touch ht (by have hord := HORD.out; omega))
                replace HB := Lib.hid (Touch.step HB.out ht (by have hord := HORD.out; omega))
                replace HLS := Lib.hid (HLS.out.touch ht (by have hord := HORD.out; omega))
                replace HG := Lib.hid (Touch.step HG.out ht (by have hord := HORD.out; omega))
                replace HPm := Lib.hid (HPm.out.touch ht (by have hord := HORD.out; omega))
                replace HFm := Lib.hid (HFm.out.touch ht (by have hord := HORD.out; omega))
                replace HKm := Lib.hid (HKm.out.touch ht (by have hord := HORD.out; omega))
                have HO2 := Lib.hid (And.intro HORD.out ht.size)
                clear HORD
                have HORD := HO2
                clear HO2
                have H2N := Lib.hid hO
                clear hO ht
                refine hK.out _ _ (HKS.out _ HG.out) (fun hHeld => ?_)
                clear hK K
                try simp only [Act.put, List.setIfInBounds_toArray, List.set_cons_zero, List.set_cons_succ]
                refine wpAnyH_take (i := 11) (oi := { dst := some 67, op := Go.Op.build 51 #[(0, Go.Operand.tmp 57), (1, Go.Operand.tmp 64), (2, Go.Operand.tmp 66)], type := 51, pos := "outright.go:117", after := #[{ on := 1, ground := Go.Ground.data }, { on := 8, ground := Go.Ground.data }, { on := 10, ground := Go.Ground.data }], guard := none }) (v := ?v74) rfl (by kernel_rfl) (by kernel_rfl) (by kernel_rfl) (fun _ _ _ h => h) (Or.inl ⟨by rfl, ?hy74⟩) (by assumption) ?rest74
                case hy74 => (intro w hSw; obtain ⟨s0, s1, s2, s3⟩ := hSw; go_simp; try with_reducible rfl)
                try simp only [Act.put, List.setIfInBounds_toArray, List.set_cons_zero, List.set_cons_succ]
                refine wpAnyH_ready (rs := [13]) (by kernel_rfl) (by simp) ?_
                refine (AllReadyH.cons (o := { dst := none, op := Go.Op.store 51 (Go.Operand.tmp 10) (Go.Operand.tmp 67), type := 0, pos := "outright.go:117", after := #[{ on := 12, ground := Go.Ground.data }, { on := 11, ground := Go.Ground.data }, { on := 8, ground := Go.Ground.chain }, { on := 0, ground := Go.Ground.phase }, { on := 1, ground := Go.Ground.phase }, { on := 2, ground := Go.Ground.phase }, { on := 3, ground := Go.Ground.phase }, { on := 4, ground := Go.Ground.phase }, { on := 5, ground := Go.Ground.phase }, { on := 6, ground := Go.Ground.phase }, { on := 7, ground := Go.Ground.phase }, { on := 8, ground := Go.Ground.phase }, { on := 9, ground := Go.Ground.phase }, { on := 10, ground := Go.Ground.phase }, { on := 11, ground := Go.Ground.phase }, { on := 12, ground := Go.Ground.phase }], guard := none }) rfl (fun K hK => ?br75_13) AllReadyH.nil)
                case br75_13 =>
                  obtain ⟨hpm_0, hpm_1, hpm_2⟩ := HPm.out
                  have f0 := HFm.out.2 0
                  have f1 := HFm.out.2 1
                  have f2 := HFm.out.2 2
                  go_simp
                  clear hpm_0 hpm_1 hpm_2
                  clear f0 f1 f2
                  have hp := (((HPm.out.set0 (.int .u8 e0.k)).set1 (.slice A2 (e0.ns.length + 1) c2)).set2 (.string e0.t))
                  have ht := Touch.set D5 b0 0 (.int .u8 e0.k)
                  have hf := HFm.out.set b0 0 (.int .u8 e0.k)
                  have sp_H2N := H2N.out.boxT HKm.out (by decide) 0 (.int .u8 e0.k)
                  replace HKm := Lib.hid (HKm.out.set 0 (.int .u8 e0.k))
                  replace HP4 := Lib.hid (HP4.out.touch ht (by have hord := HORD.out; omega))
                  replace HB := Lib.hid (Touch.step HB.out ht (by have hord := HORD.out; omega))
                  replace HLS := Lib.hid (HLS.out.touch ht (by have hord := HORD.out; omega))
                  replace HG := Lib.hid (Touch.step HG.out ht (by have hord := HORD.out; omega))
                  replace HFm := Lib.hid hf
                  clear ht hf
                  replace H2N := Lib.hid sp_H2N
                  clear sp_H2N
                  have ht := Touch.set (D5.setCell ⟨b0, 0, none⟩ (.int .u8 e0.k)) b0 1 (.slice A2 (e0.ns.length + 1) c2)
                  have hf := HFm.out.set b0 1 (.slice A2 (e0.ns.length + 1) c2)
                  have sp_H2N := H2N.out.boxT HKm.out (by decide) 1 (.slice A2 (e0.ns.length + 1) c2)
                  replace HKm := Lib.hid (HKm.out.set 1 (.slice A2 (e0.ns.length + 1) c2))
                  replace HP4 := Lib.hid (HP4.out.touch ht (by have hord := HORD.out; omega))
                  replace HB := Lib.hid (Touch.step HB.out ht (by have hord := HORD.out; omega))
                  replace HLS := Lib.hid (HLS.out.touch ht (by have hord := HORD.out; omega))
                  replace HG := Lib.hid (Touch.step HG.out ht (by have hord := HORD.out; omega))
                  replace HFm := Lib.hid hf
                  clear ht hf
                  replace H2N := Lib.hid sp_H2N
                  clear sp_H2N
                  have ht := Touch.set ((D5.setCell ⟨b0, 0, none⟩ (.int .u8 e0.k)).setCell ⟨b0, 1, none⟩ (.slice A2 (e0.ns.length + 1) c2)) b0 2 (.string e0.t)
                  have hf := HFm.out.set b0 2 (.string e0.t)
                  have sp_H2N := H2N.out.boxT HKm.out (by decide) 2 (.string e0.t)
                  replace HKm := Lib.hid (HKm.out.set 2 (.string e0.t))
                  replace HP4 := Lib.hid (HP4.out.touch ht (by have hord := HORD.out; omega))
                  replace HB := Lib.hid (Touch.step HB.out ht (by have hord := HORD.out; omega))
                  replace HLS := Lib.hid (HLS.out.touch ht (by have hord := HORD.out; omega))
                  replace HG := Lib.hid (Touch.step HG.out ht (by have hord := HORD.out; omega))
                  replace HFm := Lib.hid hf
                  clear ht hf
                  replace H2N := Lib.hid sp_H2N
                  clear sp_H2N
                  have hs : D5.heap.size ≤ (((D5.setCell ⟨b0, 0, none⟩ (.int .u8 e0.k)).setCell ⟨b0, 1, none⟩ (.slice A2 (e0.ns.length + 1) c2)).setCell ⟨b0, 2, none⟩ (.string e0.t)).heap.size := by simp
                  have HO2 := Lib.hid (And.intro HORD.out hs)
                  clear HORD
                  have HORD := HO2
                  clear HO2
                  replace HPm := Lib.hid hp
                  clear hp hs
                  refine hK.out _ _ (HKS.out _ HG.out) (fun hHeld => ?_)
                  clear hK K
                  generalize (((D5.setCell ⟨b0, 0, none⟩ (.int .u8 e0.k)).setCell ⟨b0, 1, none⟩ (.slice A2 (e0.ns.length + 1) c2)).setCell ⟨b0, 2, none⟩ (.string e0.t)) = D6 at HP4 HB HLS HG HPm HFm HKm H2N HORD hHeld ⊢
                  try simp only [Act.put, List.setIfInBounds_toArray, List.set_cons_zero, List.set_cons_succ]
                  refine wpAnyH_done (by kernel_rfl) ?_ _
                  go_wp2_with fail
                  go_meet
                  refine ⟨A2, c2, b0, rfl, Lib.hid ⟨HPm.out, cm_of (c := cMoreN e0 n) HY0.out.k (fun x hx => ?_) HY0.out.txt (by have h := H2N.out; simpa [cMoreN, nums] using h), HG.out⟩⟩
                  rcases List.mem_append.1 hx with h | h
                  · exact HY0.out.fit x h
                  · rw [List.mem_singleton.1 h]; exact HNW.out
    case rest =>
      obtain ⟨A2, c2, bm, rfl, H8⟩ := hcut
      have h8 := H8.out.2.2
      replace HP4 := Lib.hid (HP4.out.below h8)
      replace HB := Lib.hid (below_step HB.out h8)
      replace HLS := Lib.hid (HLS.out.below h8)
      have HO2 := Lib.hid (And.intro HORD.out (And.intro h8.size (cell_lt H8.out.1.1)))
      clear HORD
      have HORD := HO2
      clear HO2
      have HPm := Lib.hid H8.out.1
      have HCm := Lib.hid H8.out.2.1
      clear h8 H8 HKS
      have HGc := Lib.hid (Below.refl wc.heap.size wc)
      obtain ⟨hp4_0, hp4_1, hp4_2⟩ := HP4.out
      go_upto_region 10 with (fail)
      clear hp4_0 hp4_1 hp4_2
      have hb := (Below.refl wc.heap.size wc).alloc (Nat.le_refl _) (.cells #[.int .u8 e0.k, .slice A0 e0.ns.length c0, .string ⟨#[]⟩] 51)
      have hs : wc.heap.size + 1 ≤ (wc.alloc (.cells #[.int .u8 e0.k, .slice A0 e0.ns.length c0, .string ⟨#[]⟩] 51)).heap.size := by simp
      replace HP4 := Lib.hid (HP4.out.below hb)
      replace HB := Lib.hid (below_step HB.out hb)
      replace HLS := Lib.hid (HLS.out.below hb)
      replace HPm := Lib.hid (HPm.out.below hb)
      replace HGc := Lib.hid (below_step HGc.out hb)
      have HO2 := Lib.hid (And.intro HORD.out hs)
      clear HORD
      have HORD := HO2
      clear HO2
      clear hb hs
      have HPo := Lib.hid (show Three _ wc.heap.size _ _ _ from box3 wc (.int .u8 e0.k) (.slice A0 e0.ns.length c0) (.string ⟨#[]⟩) 51)
      have HFo := Lib.hid (free_new wc #[.int .u8 e0.k, .slice A0 e0.ns.length c0, .string ⟨#[]⟩] 51)
      generalize hWs : wc.heap.size = bo at HPo HFo HORD ⊢
      have HBO := Lib.hid hWs
      clear hWs
      generalize wc.alloc (.cells #[.int .u8 e0.k, .slice A0 e0.ns.length c0, .string ⟨#[]⟩] 51) = Z0 at HP4 HB HLS HPm HGc HPo HFo HORD ⊢
      go_upto_if 74 with (fail)
      go_cut [75] (fun _ wx => Hid (Three wx w.heap.size (.int .u8 e0.k) (.slice A0 e0.ns.length c0) (.string e0.t) ∧ Below w.heap.size w wx ∧ OwnB wx W1.heap.size W2.heap.size 34 (.slice Al (asks e0.k).size cl) (clsV (asks e0.k)) ∧ Three wx bm (.int .u8 e0.k) (.slice A2 (e0.ns.length + 1) c2) (.string e0.t) ∧ Three wx bo (.int .u8 e0.k) (.slice A0 e0.ns.length c0) (.string (otherT tx)) ∧ Below wc.heap.size wc wx ∧ Z0.heap.size ≤ wx.heap.size))
      case first =>
        cases tx with
        | true =>
          go_wp2_with fail
          go_meet
          exact Lib.hid ⟨HP4.out, HB.out, HLS.out, HPm.out, HPo.out, HGc.out, Nat.le_refl _⟩
        | false =>
          obtain ⟨hpo_0, hpo_1, hpo_2⟩ := HPo.out
          have f2 := HFo.out.2 2
          go_wp2_with fail
          clear hpo_0 hpo_1 hpo_2
          clear f2
          have ht := Touch.set Z0 bo 2 (.string ⟨#[116, 101, 120, 116]⟩)
          have hp := HPo.out.set2 (.string ⟨#[116, 101, 120, 116]⟩)
          replace HP4 := Lib.hid (HP4.out.touch ht (by have hord := HORD.out; omega))
          replace HB := Lib.hid (Touch.step HB.out ht (by have hord := HORD.out; omega))
          replace HLS := Lib.hid (HLS.out.touch ht (by have hord := HORD.out; omega))
          replace HPm := Lib.hid (HPm.out.touch ht (by have hord := HORD.out; omega))
          have hgc := HGc.out.setCell (p := ⟨bo, 2, none⟩) (Nat.le_of_eq HBO.out) (.string ⟨#[116, 101, 120, 116]⟩)
          go_meet
          exact Lib.hid ⟨HP4.out, HB.out, HLS.out, HPm.out, hp, hgc, ht.size⟩
      case rest =>
        obtain ⟨h1, h2, h3, h4, h5, h6, h7⟩ := hcut.out
        clear hcut HFo
        replace HP4 := Lib.hid h1
        replace HB := Lib.hid h2
        replace HLS := Lib.hid h3
        replace HPm := Lib.hid h4
        replace HPo := Lib.hid h5
        replace HGc := Lib.hid h6
        have HO2 := Lib.hid (And.intro HORD.out h7)
        clear HORD
        have HORD := HO2
        clear HO2
        clear h1 h2 h3 h4 h5 h6 h7
        obtain ⟨hpm_0, hpm_1, hpm_2⟩ := HPm.out
        go_wp2_with fail
        clear hpm_0 hpm_1 hpm_2
        have hcall := mayC_any A2 c2 (cMoreN e0 n) (by have := HL0.out; simp only [cMoreN, List.length_append, List.length_cons, List.length_nil]; omega) _ (HE.out.below HB.out) (HCm.out.below HGc.out)
        rw [mayC_moreN HM.out n] at hcall
        simp only [cmV, cMoreN] at hcall
        try simp only [List.length_append, List.length_cons, List.length_nil, Nat.zero_add] at hcall
        refine hcall.mono ?_; rintro z V1 ⟨rfl, hb⟩; clear hcall
        have HO2 := Lib.hid (And.intro HORD.out hb.size)
        clear HORD
        have HORD := HO2
        clear HO2
        replace HP4 := Lib.hid (HP4.out.below hb)
        replace HB := Lib.hid (below_step HB.out hb)
        replace HLS := Lib.hid (HLS.out.below hb)
        replace HPm := Lib.hid (HPm.out.below hb)
        replace HGc := Lib.hid (below_step HGc.out hb)
        replace HPo := Lib.hid (HPo.out.below hb)
        clear hb
        have HCo := Lib.hid (show CmAt w A0 c0 ⟨e0.k, e0.ns, otherT tx⟩ from ⟨HY0.out.k, HY0.out.fit, (by show (otherT tx).size ≤ maxLen; cases tx <;> decide), HY0.out.ns, HY0.out.nA, HY0.out.lA⟩)
        obtain ⟨hpo_0, hpo_1, hpo_2⟩ := HPo.out
        go_wp2_with fail
        clear hpo_0 hpo_1 hpo_2
        have hcall := mayC_any A0 c0 (⟨e0.k, e0.ns, otherT tx⟩) (by have := HL0.out; simp only [List.length_nil, List.length_append, List.length_cons, List.length_nil]; omega) _ (HE.out.below HB.out) (HCo.out.below HB.out)
        rw [HMO.out] at hcall
        simp only [cmV] at hcall
        try simp only [List.length_append, List.length_cons, List.length_nil, Nat.zero_add] at hcall
        refine hcall.mono ?_; rintro z V2 ⟨rfl, hb⟩; clear hcall
        have HO2 := Lib.hid (And.intro HORD.out hb.size)
        clear HORD
        have HORD := HO2
        clear HO2
        replace HP4 := Lib.hid (HP4.out.below hb)
        replace HB := Lib.hid (below_step HB.out hb)
        replace HLS := Lib.hid (HLS.out.below hb)
        replace HPm := Lib.hid (HPm.out.below hb)
        replace HGc := Lib.hid (below_step HGc.out hb)
        replace HPo := Lib.hid (HPo.out.below hb)
        clear hb
        clear HPm
        clear HPo
        clear HGc
        clear HCm HCo
        by_cases h0 : (asks e0.k).size = 0
        · have hz0 : (((asks e0.k).size : Int) == 0) = true := by rw [h0]; rfl
          have hz1 : ((asks e0.k).size == 0) = true := by rw [h0]; rfl
          clear h0
          go_wp2_with fail
          go_ret
          exact ⟨rfl, HB.out⟩
        have hsz : 0 < (asks e0.k).size := by omega
        have hz0 : (((asks e0.k).size : Int) == 0) = false := beq_eq_false_iff_ne.2 (by omega)
        have hz1 : ((asks e0.k).size == 0) = false := beq_eq_false_iff_ne.2 (by omega)
        go_upto_region 16 with (fail)
        obtain ⟨k, hk, hk1, hk2⟩ := k_lt pl (asks e0.k).size hsz (by have := HSN.out; have := HL0.out; omega)
        have HKL := Lib.hid hk1
        have HKE := Lib.hid hk
        have hlen : (asks e0.k).size ≤ 300 := by have := HSN.out; have := HL0.out; omega
        clear hk hk1
        go_cut [12] (fun u wx => wx = V2 ∧ u = .int .i64 (k : Int))
        case first =>
          go_wp2_with fail
          go_meet
          exact ⟨rfl, by rw [HKE.out]⟩
        case rest =>
          obtain ⟨rfl, rfl⟩ := hcut
          clear hlen hk2 hz0 hz1 hsz HKE h0
          have hkn : k < e0.ns.length := by have := HKL.out; have := HSN.out; omega
          have HKN := Lib.hid hkn
          clear hkn
          have hb := (Below.refl wc.heap.size wc).alloc (Nat.le_refl _) (.cells #[] 2)
          have hs : wc.heap.size + 1 ≤ (wc.alloc (.cells #[] 2)).heap.size := by simp
          replace HP4 := Lib.hid (HP4.out.below hb)
          replace HB := Lib.hid (below_step HB.out hb)
          replace HLS := Lib.hid (HLS.out.below hb)
          have HO2 := Lib.hid (And.intro HORD.out hs)
          clear HORD
          have HORD := HO2
          clear HO2
          clear hb hs
          obtain ⟨hp4_0, hp4_1, hp4_2⟩ := HP4.out
          go_wp2_with (at_builtin; refine wpList_append_new 41 2 (.int .i64 0) 8 Tryd.underlying41 infoN rfl (by decide) rfl _ _ rfl wc.heap.size rfl A0 e0.ns.length c0 (nums e0.ns) rfl (nums_len _).symm (HY0.out.below HB.out).ns (nums_cell _) HY0.out.nA (by have := HL0.out; simp only [nums_len]; omega) ?_)
          clear hp4_0 hp4_1 hp4_2
          intro v1 V3 hO hb
          have hsz : (wc.alloc (.cells #[] 2)).heap.size = wc.heap.size + 1 := by simp
          rw [← hsz] at hO hb
          clear hsz
          obtain ⟨Av, cv, rfl, -⟩ := hO.vat
          have hO1 := hO.b
          rw [nums_len] at hO1 ⊢
          clear hO
          replace HP4 := Lib.hid (HP4.out.below hb)
          replace HB := Lib.hid (below_step HB.out hb)
          replace HLS := Lib.hid (HLS.out.below hb)
          have HO2 := Lib.hid (And.intro HORD.out hb.size)
          clear HORD
          have HORD := HO2
          clear HO2
          clear hb
          have HvN := Lib.hid hO1
          clear hO1
          generalize wc.alloc (.cells #[] 2) = Wa at HP4 HB HLS HvN HORD ⊢
          have hne : 0 < (nums e0.ns).length := by rw [nums_len]; have := HKN.out; omega
          obtain ⟨hown, hu⟩ := HvN.out.resolve_right (fun h => by rw [h.1] at hne; exact absurd hne (by decide))
          obtain ⟨g, cap, hs, hg1, hg2, _, hcs⟩ := hown.cells hne
          rw [nums_len] at hs
          injection hs with hs1 _ hs2
          subst hs1 hs2
          have hg3 := hu g rfl
          have hown' : Own V3 Wa.heap.size 2 (.slice (some ⟨g, 0, none⟩) (nums e0.ns).length cv) (nums e0.ns) := by rw [nums_len]; exact hown
          have hst := (World.ownsRow.stored hown' k (.int .i64 n)).1
          have hfz := World.ownsRow.frozenAt hown' k
          have hck := hcs k _ (nums_at e0.ns k HKN.out)
          have HST := Lib.hid hst
          clear hst hown hown' hcs hne hu
          have z0 : (0 : Int) ≤ (k : Int) := by omega
          have z1 : (k : Int) < (e0.ns.length : Int) := by have := HKN.out; omega
          go_upto_region 19 with (fail)
          clear z0 z1
          have ht := Touch.set V3 g k (.int .i64 n)
          have HO2 := Lib.hid (And.intro HORD.out (And.intro hg1 (And.intro hg2 (And.intro hg3 ht.size))))
          clear HORD
          have HORD := HO2
          clear HO2
          have HG3 := Lib.hid hg3
          clear hg1 hg2 hg3 hck hfz
          clear HvN
          replace HP4 := Lib.hid (HP4.out.touch ht (by have hord := HORD.out; omega))
          replace HB := Lib.hid (Touch.step HB.out ht (by have hord := HORD.out; omega))
          replace HLS := Lib.hid (HLS.out.touch ht (by have hord := HORD.out; omega))
          clear ht
          have hset : (nums e0.ns).set k (.int .i64 n) = nums (cPutN e0 k n).ns := by unfold nums cPutN; rw [List.map_set]
          have hvn : OwnB (V3.setCell ⟨g, k, none⟩ (.int .i64 n)) Wa.heap.size V3.heap.size 2 (.slice (some ⟨g, 0, none⟩) (cPutN e0 k n).ns.length cv) (nums (cPutN e0 k n).ns) := by
            refine Or.inl ⟨?_, fun b hb => by
              injection hb with hb; subst hb; exact HG3.out⟩
            unfold Own
            rw [← hset]
            simpa [cPutN, nums_len] using HST.out
          have HvN := Lib.hid hvn
          clear hset hvn HST HG3
          generalize V3.setCell ⟨g, k, none⟩ (.int .i64 n) = Y8 at HORD HP4 HB HLS HvN ⊢
          have hfx : Fits64 (cPutN e0 k n).ns := fun x hx => by
            rcases List.mem_or_eq_of_mem_set hx with h | h
            · exact HY0.out.fit x h
            · rw [h]; exact HNW.out
          have HXe := Lib.hid (cm_of (c := cPutN e0 k n) HY0.out.k hfx HY0.out.txt HvN.out)
          have hln : (cLastN e0 k n).ns.length = e0.ns.length - 1 := by simp [cLastN]
          have HYe := Lib.hid (show CmAt Y8 (cutA (some ⟨g, 0, none⟩) cv 0) cv (cLastN e0 k n) from ⟨HY0.out.k, fun x hx => hfx x (List.mem_of_mem_take hx), HY0.out.txt, (by have h := HXe.out.ns.head cv (e0.ns.length - 1) (by rw [nums_len]; exact HXe.out.lA); simpa [cLastN, cPutN, nums, List.map_take] using h), fun h => by have := cutA_none (k := 0) (cap := cv) (A := some ⟨g, 0, none⟩) (fun h => by cases h) h; omega, by have h2 := HXe.out.lA; rw [hln]; simp only [cPutN, List.length_set] at h2; omega⟩)
          clear HvN
          have hcv : e0.ns.length ≤ cv := by have h2 := HXe.out.lA; simpa [cPutN] using h2
          obtain ⟨Al', cl', e1, hvat, -, -⟩ := HLS.out.own.vat
          injection e1 with i1 i2 i3
          clear i2 i3
          subst i1
          obtain ⟨bl, ol, e2, hcell⟩ := hvat k _ (clsV_at (asks e0.k) k HKL.out)
          subst e2
          clear hvat
          have HC256 := Lib.hid (byteAt_lt (asks e0.k) k)
          have HMX := Lib.hid (mayC_putN HM.out k n HKN.out)
          have HMY := Lib.hid (mayC_lastN HM.out k n HKN.out)
          have HLC := Lib.hid hcell
          clear hcell hfx
          generalize byteAt (asks e0.k) k = c at HC256 HMX HLC
          obtain ⟨f, hf⟩ : ∃ f, fits 3 c n = f := ⟨_, rfl⟩
          have HF := Lib.hid hf
          clear hf
          have HCF := Lib.hid (fun W (hW : Below Y8.heap.size Y8 W) => show Calls Tryd.prog 20 #[.int .u8 3, .int .u8 c, .int .i64 n] W fun z w' => z = .returned (.bool f) ∧ Below W.heap.size W w' from by
            have h := fits_any 3 c n (by decide) HC256.out HNW.out W (HE.out.below (below_step HB.out hW))
            have hh := HF.out
            simp only [Int.cast_ofNat_Int] at h
            rw [hh] at h
            exact h)
          have HCX := Lib.hid (fun W (hW : Below Y8.heap.size Y8 W) => show Calls Tryd.prog 34 #[.agg #[.int .u8 e0.k, .slice (some ⟨g, 0, none⟩) e0.ns.length cv, .string e0.t]] W fun z w' => z = .returned (.bool f) ∧ Below W.heap.size W w' from by
            have h := mayC_any _ _ (cPutN e0 k n) (by have := HL0.out; simp only [cPutN, List.length_set]; omega) W (HE.out.below (below_step HB.out hW)) (HXe.out.below hW)
            rw [HMX.out, HF.out] at h
            simp only [cmV, cPutN, List.length_set] at h
            exact h)
          have HDL := Lib.hid hln
          have HCY := Lib.hid (fun W (hW : Below Y8.heap.size Y8 W) => show Calls Tryd.prog 34 #[.agg #[.int .u8 e0.k, .slice (cutA (some ⟨g, 0, none⟩) cv 0) (e0.ns.length - 1) cv, .string e0.t]] W fun z w' => z = .returned (.bool false) ∧ Below W.heap.size W w' from by
            have h := mayC_any _ _ (cLastN e0 k n) (by have := HL0.out; rw [HDL.out]; omega) W (HE.out.below (below_step HB.out hW)) (HYe.out.below hW)
            rw [HMY.out] at h
            simp only [cmV, HDL.out] at h
            exact h)
          clear hln HMX HMY HF
          have HKS := Lib.hid (fun W (hW : Below Y8.heap.size Y8 W) => show (fun w' => Below Y8.heap.size Y8 w' ∧ w'.cell? ⟨w.heap.size, 0, none⟩ = some (.int .u8 e0.k) ∧ w'.cell? ⟨w.heap.size, 2, none⟩ = some (.string e0.t) ∧ w'.cell? ⟨bl, ol + k, none⟩ = some (.int .u8 c)) W from ⟨hW, (HP4.out.below hW).1, (HP4.out.below hW).2.2, cell_kept HLC.out hW⟩)
          have z0 : (0 : Int) ≤ (k : Int) := by omega
          have z2 : (k : Int) < ((asks e0.k).size : Int) := by have := HKL.out; omega
          have hn1 : 1 ≤ e0.ns.length := by have := HKN.out; omega
          have hn3 : e0.ns.length ≤ 300 := HL0.out.1
          have hw0 : IntKind.i64.wrap ((e0.ns.length : Int) - 1) = (e0.ns.length : Int) - 1 := IntWalk.i64_in _ (by omega)
          have T1 := fun W => (show (Instr.slice 41 (.slice (some ⟨g, 0, none⟩) e0.ns.length cv) none (some (.int .i64 ((e0.ns.length : Int) - 1))) none).run Tryd.prog W = .ok (.slice (cutA (some ⟨g, 0, none⟩) cv 0) (e0.ns.length - 1) cv) W from by
            have h := run_head (some ⟨g, 0, none⟩) e0.ns.length cv (e0.ns.length - 1) (by omega) hcv W
            rw [show ((e0.ns.length - 1 : Nat) : Int) = (e0.ns.length : Int) - 1 from by omega] at h
            exact h)
          have hff : (f == f) = true := by cases f <;> rfl
          clear hcv hn1
          have gd := below_drew Y8.heap.size Y8
          refine wp_region_held_drew (S := (fun w' => Below Y8.heap.size Y8 w' ∧ w'.cell? ⟨w.heap.size, 0, none⟩ = some (.int .u8 e0.k) ∧ w'.cell? ⟨w.heap.size, 2, none⟩ = some (.string e0.t) ∧ w'.cell? ⟨bl, ol + k, none⟩ = some (.int .u8 c))) (by kernel_rfl) (HKS.out _ gd) (fun hHeld => ?_)
          refine wpAnyH_take (i := 0) (oi := { dst := some 100, op := Go.Op.fieldAddr 51 (Go.Operand.tmp 3) 0, type := 0, pos := "outright.go:131", after := #[], guard := none }) (v := ?v76) rfl (by kernel_rfl) (by kernel_rfl) (by kernel_rfl) (fun _ _ _ h => h) (Or.inl ⟨by rfl, ?hy76⟩) (by assumption) ?rest76
          case hy76 => (intro w hSw; obtain ⟨s0, s1, s2, s3⟩ := hSw; go_simp; try with_reducible rfl)
          try simp only [Act.put, List.setIfInBounds_toArray, List.set_cons_zero, List.set_cons_succ]
          refine wpAnyH_take (i := 1) (oi := { dst := some 101, op := Go.Op.load 5 (Go.Operand.tmp 100), type := 5, pos := "outright.go:131", after := #[{ on := 0, ground := Go.Ground.data }], guard := none }) (v := ?v77) rfl (by kernel_rfl) (by kernel_rfl) (by kernel_rfl) (fun _ _ _ h => h) (Or.inl ⟨by rfl, ?hy77⟩) (by assumption) ?rest77
          case hy77 => (intro w hSw; obtain ⟨s0, s1, s2, s3⟩ := hSw; go_simp; try with_reducible rfl)
          try simp only [Act.put, List.setIfInBounds_toArray, List.set_cons_zero, List.set_cons_succ]
          refine wpAnyH_take (i := 2) (oi := { dst := some 102, op := Go.Op.move (Go.Operand.tmp 13), type := 41, pos := "outright.go:131", after := #[], guard := none }) (v := ?v78) rfl (by kernel_rfl) (by kernel_rfl) (by kernel_rfl) (fun _ _ _ h => h) (Or.inl ⟨by rfl, ?hy78⟩) (by assumption) ?rest78
          case hy78 => (intro w hSw; obtain ⟨s0, s1, s2, s3⟩ := hSw; go_simp; try with_reducible rfl)
          try simp only [Act.put, List.setIfInBounds_toArray, List.set_cons_zero, List.set_cons_succ]
          refine wpAnyH_take (i := 3) (oi := { dst := some 103, op := Go.Op.fieldAddr 51 (Go.Operand.tmp 3) 2, type := 0, pos := "outright.go:131", after := #[], guard := none }) (v := ?v79) rfl (by kernel_rfl) (by kernel_rfl) (by kernel_rfl) (fun _ _ _ h => h) (Or.inl ⟨by rfl, ?hy79⟩) (by assumption) ?rest79
          case hy79 => (intro w hSw; obtain ⟨s0, s1, s2, s3⟩ := hSw; go_simp; try with_reducible rfl)
          try simp only [Act.put, List.setIfInBounds_toArray, List.set_cons_zero, List.set_cons_succ]
          refine wpAnyH_take (i := 4) (oi := { dst := some 104, op := Go.Op.load 9 (Go.Operand.tmp 103), type := 9, pos := "outright.go:131", after := #[{ on := 3, ground := Go.Ground.data }], guard := none }) (v := ?v80) rfl (by kernel_rfl) (by kernel_rfl) (by kernel_rfl) (fun _ _ _ h => h) (Or.inl ⟨by rfl, ?hy80⟩) (by assumption) ?rest80
          case hy80 => (intro w hSw; obtain ⟨s0, s1, s2, s3⟩ := hSw; go_simp; try with_reducible rfl)
          try simp only [Act.put, List.setIfInBounds_toArray, List.set_cons_zero, List.set_cons_succ]
          refine wpAnyH_take (i := 5) (oi := { dst := some 105, op := Go.Op.build 51 #[(0, Go.Operand.tmp 101), (1, Go.Operand.tmp 102), (2, Go.Operand.tmp 104)], type := 51, pos := "outright.go:131", after := #[{ on := 1, ground := Go.Ground.data }, { on := 2, ground := Go.Ground.data }, { on := 4, ground := Go.Ground.data }], guard := none }) (v := ?v81) rfl (by kernel_rfl) (by kernel_rfl) (by kernel_rfl) (fun _ _ _ h => h) (Or.inl ⟨by rfl, ?hy81⟩) (by assumption) ?rest81
          case hy81 => (intro w hSw; obtain ⟨s0, s1, s2, s3⟩ := hSw; go_simp; try with_reducible rfl)
          try simp only [Act.put, List.setIfInBounds_toArray, List.set_cons_zero, List.set_cons_succ]
          refine wpAnyH_take (i := 7) (oi := { dst := some 107, op := Go.Op.move (Go.Operand.tmp 7), type := 27, pos := "outright.go:131", after := #[], guard := none }) (v := ?v82) rfl (by kernel_rfl) (by kernel_rfl) (by kernel_rfl) (fun _ _ _ h => h) (Or.inl ⟨by rfl, ?hy82⟩) (by assumption) ?rest82
          case hy82 => (intro w hSw; obtain ⟨s0, s1, s2, s3⟩ := hSw; go_simp; try with_reducible rfl)
          try simp only [Act.put, List.setIfInBounds_toArray, List.set_cons_zero, List.set_cons_succ]
          refine wpAnyH_take (i := 8) (oi := { dst := some 108, op := Go.Op.move (Go.Operand.tmp 12), type := 3, pos := "outright.go:131", after := #[], guard := none }) (v := ?v83) rfl (by kernel_rfl) (by kernel_rfl) (by kernel_rfl) (fun _ _ _ h => h) (Or.inl ⟨by rfl, ?hy83⟩) (by assumption) ?rest83
          case hy83 => (intro w hSw; obtain ⟨s0, s1, s2, s3⟩ := hSw; go_simp; try with_reducible rfl)
          try simp only [Act.put, List.setIfInBounds_toArray, List.set_cons_zero, List.set_cons_succ]
          refine wpAnyH_take (i := 9) (oi := { dst := some 109, op := Go.Op.indexAddr 27 (Go.Operand.tmp 107) (Go.Operand.tmp 108), type := 0, pos := "outright.go:131", after := #[{ on := 7, ground := Go.Ground.data }, { on := 8, ground := Go.Ground.data }], guard := none }) (v := ?v84) rfl (by kernel_rfl) (by kernel_rfl) (by kernel_rfl) (fun _ _ _ h => h) (Or.inl ⟨by rfl, ?hy84⟩) (by assumption) ?rest84
          case hy84 => (intro w hSw; obtain ⟨s0, s1, s2, s3⟩ := hSw; go_simp; try with_reducible rfl)
          try simp only [Act.put, List.setIfInBounds_toArray, List.set_cons_zero, List.set_cons_succ]
          refine wpAnyH_take (i := 10) (oi := { dst := some 110, op := Go.Op.load 34 (Go.Operand.tmp 109), type := 34, pos := "outright.go:131", after := #[{ on := 9, ground := Go.Ground.data }], guard := none }) (v := ?v85) rfl (by kernel_rfl) (by kernel_rfl) (by kernel_rfl) (fun _ _ _ h => h) (Or.inl ⟨by rfl, ?hy85⟩) (by assumption) ?rest85
          case hy85 => (intro w hSw; obtain ⟨s0, s1, s2, s3⟩ := hSw; go_simp; try with_reducible rfl)
          try simp only [Act.put, List.setIfInBounds_toArray, List.set_cons_zero, List.set_cons_succ]
          refine wpAnyH_take (i := 11) (oi := { dst := some 111, op := Go.Op.move (Go.Operand.tmp 2), type := 2, pos := "outright.go:131", after := #[], guard := none }) (v := ?v86) rfl (by kernel_rfl) (by kernel_rfl) (by kernel_rfl) (fun _ _ _ h => h) (Or.inl ⟨by rfl, ?hy86⟩) (by assumption) ?rest86
          case hy86 => (intro w hSw; obtain ⟨s0, s1, s2, s3⟩ := hSw; go_simp; try with_reducible rfl)
          try simp only [Act.put, List.setIfInBounds_toArray, List.set_cons_zero, List.set_cons_succ]
          refine wpAnyH_ready (rs := [6]) (by kernel_rfl) (by simp) ?_
          refine AllReadyH.cons (o := { dst := some 106, op := Go.Op.call { callee := Go.Callee.value (Go.Operand.func 34), args := #[Go.Operand.tmp 105], argTypes := #[51] }, type := 4, pos := "outright.go:131", after := #[{ on := 5, ground := Go.Ground.data }], guard := none }) rfl (fun K hK => ?_) AllReadyH.nil
          go_simp
          go_at_call 34
          refine (HCX.out _ gd).mono ?_
          rintro z V5 ⟨rfl, hb⟩
          have g5 := below_step gd hb
          refine hK.out _ _ (HKS.out _ g5) (fun hHeld5 => ?_)
          clear hK K hb
          try simp only [Act.put, List.setIfInBounds_toArray, List.set_cons_zero, List.set_cons_succ]
          refine wpAnyH_ready (rs := [12]) (by kernel_rfl) (by simp) ?_
          refine AllReadyH.cons (o := { dst := some 112, op := Go.Op.call { callee := Go.Callee.value (Go.Operand.func 20), args := #[Go.Operand.const (Go.Value.int Go.IntKind.u8 3), Go.Operand.tmp 110, Go.Operand.tmp 111], argTypes := #[5, 34, 2] }, type := 4, pos := "outright.go:131", after := #[{ on := 10, ground := Go.Ground.data }, { on := 11, ground := Go.Ground.data }, { on := 6, ground := Go.Ground.chain }], guard := none }) rfl (fun K hK => ?_) AllReadyH.nil
          go_simp
          go_at_call 20
          refine (HCF.out _ g5).mono ?_
          rintro z V6 ⟨rfl, hb⟩
          have g6 := below_step g5 hb
          refine hK.out _ _ (HKS.out _ g6) (fun hHeld6 => ?_)
          clear hK K hb
          try simp only [Act.put, List.setIfInBounds_toArray, List.set_cons_zero, List.set_cons_succ]
          refine wpAnyH_take (i := 13) (oi := { dst := some 113, op := Go.Op.binOp Go.BinOp.eql 4 (Go.Operand.tmp 106) (Go.Operand.tmp 112) 4, type := 4, pos := "outright.go:131", after := #[{ on := 6, ground := Go.Ground.data }, { on := 12, ground := Go.Ground.data }], guard := none }) (v := ?v87) rfl (by kernel_rfl) (by kernel_rfl) (by kernel_rfl) (fun _ _ _ h => h) (Or.inl ⟨by rfl, ?hy87⟩) (by assumption) ?rest87
          case hy87 => (intro w hSw; obtain ⟨s0, s1, s2, s3⟩ := hSw; go_simp; try with_reducible rfl)
          try simp only [Act.put, List.setIfInBounds_toArray, List.set_cons_zero, List.set_cons_succ]
          refine wpAnyH_take (i := 14) (oi := { dst := some 114, op := Go.Op.move (Go.Operand.tmp 113), type := 4, pos := "outright.go:131", after := #[{ on := 13, ground := Go.Ground.data }, { on := 12, ground := Go.Ground.chain }], guard := none }) (v := ?v88) rfl (by kernel_rfl) (by kernel_rfl) (by kernel_rfl) (fun _ _ _ h => h) (Or.inl ⟨by rfl, ?hy88⟩) (by assumption) ?rest88
          case hy88 => (intro w hSw; obtain ⟨s0, s1, s2, s3⟩ := hSw; go_simp; try with_reducible rfl)
          try simp only [Act.put, List.setIfInBounds_toArray, List.set_cons_zero, List.set_cons_succ]
          refine wpAnyH_take (i := 15) (oi := { dst := some 115, op := Go.Op.fieldAddr 51 (Go.Operand.tmp 3) 0, type := 0, pos := "outright.go:131", after := #[{ on := 14, ground := Go.Ground.guard }], guard := some (14, true) }) (v := ?v89) rfl (by kernel_rfl) (by kernel_rfl) (by kernel_rfl) (fun _ _ _ h => h) (Or.inl ⟨by rfl, ?hy89⟩) (by assumption) ?rest89
          case hy89 => (intro w hSw; obtain ⟨s0, s1, s2, s3⟩ := hSw; go_simp; try with_reducible rfl)
          try simp only [Act.put, List.setIfInBounds_toArray, List.set_cons_zero, List.set_cons_succ]
          refine wpAnyH_take (i := 16) (oi := { dst := some 116, op := Go.Op.load 5 (Go.Operand.tmp 115), type := 5, pos := "outright.go:131", after := #[{ on := 15, ground := Go.Ground.data }, { on := 14, ground := Go.Ground.guard }], guard := some (14, true) }) (v := ?v90) rfl (by kernel_rfl) (by kernel_rfl) (by kernel_rfl) (fun _ _ _ h => h) (Or.inl ⟨by rfl, ?hy90⟩) (by assumption) ?rest90
          case hy90 => (intro w hSw; obtain ⟨s0, s1, s2, s3⟩ := hSw; go_simp; try with_reducible rfl)
          try simp only [Act.put, List.setIfInBounds_toArray, List.set_cons_zero, List.set_cons_succ]
          refine wpAnyH_take (i := 17) (oi := { dst := some 117, op := Go.Op.move (Go.Operand.tmp 13), type := 41, pos := "outright.go:131", after := #[{ on := 14, ground := Go.Ground.guard }], guard := some (14, true) }) (v := ?v91) rfl (by kernel_rfl) (by kernel_rfl) (by kernel_rfl) (fun _ _ _ h => h) (Or.inl ⟨by rfl, ?hy91⟩) (by assumption) ?rest91
          case hy91 => (intro w hSw; obtain ⟨s0, s1, s2, s3⟩ := hSw; go_simp; try with_reducible rfl)
          try simp only [Act.put, List.setIfInBounds_toArray, List.set_cons_zero, List.set_cons_succ]
          refine wpAnyH_take (i := 18) (oi := { dst := some 118, op := Go.Op.move (Go.Operand.tmp 13), type := 41, pos := "outright.go:131", after := #[{ on := 14, ground := Go.Ground.guard }], guard := some (14, true) }) (v := ?v92) rfl (by kernel_rfl) (by kernel_rfl) (by kernel_rfl) (fun _ _ _ h => h) (Or.inl ⟨by rfl, ?hy92⟩) (by assumption) ?rest92
          case hy92 => (intro w hSw; obtain ⟨s0, s1, s2, s3⟩ := hSw; go_simp; try with_reducible rfl)
          try simp only [Act.put, List.setIfInBounds_toArray, List.set_cons_zero, List.set_cons_succ]
          refine wpAnyH_take (i := 19) (oi := { dst := some 119, op := Go.Op.call { callee := Go.Callee.builtin Go.Builtin.len, args := #[Go.Operand.tmp 118], argTypes := #[41] }, type := 3, pos := "outright.go:131", after := #[{ on := 18, ground := Go.Ground.data }, { on := 14, ground := Go.Ground.guard }], guard := some (14, true) }) (v := ?v93) rfl (by kernel_rfl) (by kernel_rfl) (by kernel_rfl) (fun _ _ _ h => h) (Or.inl ⟨by rfl, ?hy93⟩) (by assumption) ?rest93
          case hy93 => (intro w hSw; obtain ⟨s0, s1, s2, s3⟩ := hSw; go_simp; try with_reducible rfl)
          try simp only [Act.put, List.setIfInBounds_toArray, List.set_cons_zero, List.set_cons_succ]
          refine wpAnyH_take (i := 20) (oi := { dst := some 120, op := Go.Op.binOp Go.BinOp.sub 3 (Go.Operand.tmp 119) (Go.Operand.const (Go.Value.int Go.IntKind.i64 1)) 3, type := 3, pos := "outright.go:131", after := #[{ on := 19, ground := Go.Ground.data }, { on := 14, ground := Go.Ground.guard }], guard := some (14, true) }) (v := ?v94) rfl (by kernel_rfl) (by kernel_rfl) (by kernel_rfl) (fun _ _ _ h => h) (Or.inl ⟨by rfl, ?hy94⟩) (by assumption) ?rest94
          case hy94 => (intro w hSw; obtain ⟨s0, s1, s2, s3⟩ := hSw; go_simp; try with_reducible rfl)
          try simp only [Act.put, List.setIfInBounds_toArray, List.set_cons_zero, List.set_cons_succ]
          refine wpAnyH_take (i := 21) (oi := { dst := some 121, op := Go.Op.slice 41 (Go.Operand.tmp 117) none (some (Go.Operand.tmp 120)) none, type := 41, pos := "outright.go:131", after := #[{ on := 17, ground := Go.Ground.data }, { on := 20, ground := Go.Ground.data }, { on := 14, ground := Go.Ground.guard }], guard := some (14, true) }) (v := ?v95) rfl (by kernel_rfl) (by kernel_rfl) (by kernel_rfl) (fun _ _ _ h => h) (Or.inl ⟨by rfl, ?hy95⟩) (by assumption) ?rest95
          case hy95 => (intro w hSw; obtain ⟨s0, s1, s2, s3⟩ := hSw; go_simp; try with_reducible rfl)
          try simp only [Act.put, List.setIfInBounds_toArray, List.set_cons_zero, List.set_cons_succ]
          refine wpAnyH_take (i := 22) (oi := { dst := some 122, op := Go.Op.fieldAddr 51 (Go.Operand.tmp 3) 2, type := 0, pos := "outright.go:131", after := #[{ on := 14, ground := Go.Ground.guard }], guard := some (14, true) }) (v := ?v96) rfl (by kernel_rfl) (by kernel_rfl) (by kernel_rfl) (fun _ _ _ h => h) (Or.inl ⟨by rfl, ?hy96⟩) (by assumption) ?rest96
          case hy96 => (intro w hSw; obtain ⟨s0, s1, s2, s3⟩ := hSw; go_simp; try with_reducible rfl)
          try simp only [Act.put, List.setIfInBounds_toArray, List.set_cons_zero, List.set_cons_succ]
          refine wpAnyH_take (i := 23) (oi := { dst := some 123, op := Go.Op.load 9 (Go.Operand.tmp 122), type := 9, pos := "outright.go:131", after := #[{ on := 22, ground := Go.Ground.data }, { on := 14, ground := Go.Ground.guard }], guard := some (14, true) }) (v := ?v97) rfl (by kernel_rfl) (by kernel_rfl) (by kernel_rfl) (fun _ _ _ h => h) (Or.inl ⟨by rfl, ?hy97⟩) (by assumption) ?rest97
          case hy97 => (intro w hSw; obtain ⟨s0, s1, s2, s3⟩ := hSw; go_simp; try with_reducible rfl)
          try simp only [Act.put, List.setIfInBounds_toArray, List.set_cons_zero, List.set_cons_succ]
          refine wpAnyH_take (i := 24) (oi := { dst := some 124, op := Go.Op.build 51 #[(0, Go.Operand.tmp 116), (1, Go.Operand.tmp 121), (2, Go.Operand.tmp 123)], type := 51, pos := "outright.go:131", after := #[{ on := 16, ground := Go.Ground.data }, { on := 21, ground := Go.Ground.data }, { on := 23, ground := Go.Ground.data }, { on := 14, ground := Go.Ground.guard }], guard := some (14, true) }) (v := ?v98) rfl (by kernel_rfl) (by kernel_rfl) (by kernel_rfl) (fun _ _ _ h => h) (Or.inl ⟨by rfl, ?hy98⟩) (by assumption) ?rest98
          case hy98 => (intro w hSw; obtain ⟨s0, s1, s2, s3⟩ := hSw; go_simp; try with_reducible rfl)
          try simp only [Act.put, List.setIfInBounds_toArray, List.set_cons_zero, List.set_cons_succ]
          refine wpAnyH_ready (rs := [25]) (by kernel_rfl) (by simp) ?_
          refine AllReadyH.cons (o := { dst := some 125, op := Go.Op.call { callee := Go.Callee.value (Go.Operand.func 34), args := #[Go.Operand.tmp 124], argTypes := #[51] }, type := 4, pos := "outright.go:131", after := #[{ on := 24, ground := Go.Ground.data }, { on := 14, ground := Go.Ground.chain }, { on := 14, ground := Go.Ground.guard }], guard := some (14, true) }) rfl (fun K hK => ?_) AllReadyH.nil
          go_simp
          go_at_call 34
          refine (HCY.out _ g6).mono ?_
          rintro z V7 ⟨rfl, hb⟩
          have g7 := below_step g6 hb
          refine hK.out _ _ (HKS.out _ g7) (fun hHeld7 => ?_)
          clear hK K hb
          try simp only [Act.put, List.setIfInBounds_toArray, List.set_cons_zero, List.set_cons_succ]
          refine wpAnyH_take (i := 26) (oi := { dst := some 126, op := Go.Op.unOp Go.UnOp.not 4 (Go.Operand.tmp 125), type := 4, pos := "outright.go:131", after := #[{ on := 25, ground := Go.Ground.data }, { on := 14, ground := Go.Ground.guard }], guard := some (14, true) }) (v := ?v99) rfl (by kernel_rfl) (by kernel_rfl) (by kernel_rfl) (fun _ _ _ h => h) (Or.inl ⟨by rfl, ?hy99⟩) (by assumption) ?rest99
          case hy99 => (intro w hSw; obtain ⟨s0, s1, s2, s3⟩ := hSw; go_simp; try with_reducible rfl)
          try simp only [Act.put, List.setIfInBounds_toArray, List.set_cons_zero, List.set_cons_succ]
          refine wpAnyH_take (i := 27) (oi := { dst := some 127, op := Go.Op.pick (Go.Operand.tmp 114) (Go.Operand.tmp 126) (Go.Operand.const (Go.Value.bool false)), type := 4, pos := "outright.go:131", after := #[{ on := 14, ground := Go.Ground.data }, { on := 26, ground := Go.Ground.data }], guard := none }) (v := ?v100) rfl (by kernel_rfl) (by kernel_rfl) (by kernel_rfl) (fun _ _ _ h => h) (Or.inl ⟨by rfl, ?hy100⟩) (by assumption) ?rest100
          case hy100 => (intro w hSw; obtain ⟨s0, s1, s2, s3⟩ := hSw; go_simp; try with_reducible rfl)
          try simp only [Act.put, List.setIfInBounds_toArray, List.set_cons_zero, List.set_cons_succ]
          refine wpAnyH_take (i := 28) (oi := { dst := some 6, op := Go.Op.assign (Go.Operand.tmp 127), type := 4, pos := "outright.go:131", after := #[{ on := 27, ground := Go.Ground.data }, { on := 25, ground := Go.Ground.chain }, { on := 0, ground := Go.Ground.phase }, { on := 1, ground := Go.Ground.phase }, { on := 2, ground := Go.Ground.phase }, { on := 3, ground := Go.Ground.phase }, { on := 4, ground := Go.Ground.phase }, { on := 5, ground := Go.Ground.phase }, { on := 6, ground := Go.Ground.phase }, { on := 7, ground := Go.Ground.phase }, { on := 8, ground := Go.Ground.phase }, { on := 9, ground := Go.Ground.phase }, { on := 10, ground := Go.Ground.phase }, { on := 11, ground := Go.Ground.phase }, { on := 12, ground := Go.Ground.phase }, { on := 13, ground := Go.Ground.phase }, { on := 14, ground := Go.Ground.phase }, { on := 15, ground := Go.Ground.phase }, { on := 16, ground := Go.Ground.phase }, { on := 17, ground := Go.Ground.phase }, { on := 18, ground := Go.Ground.phase }, { on := 19, ground := Go.Ground.phase }, { on := 20, ground := Go.Ground.phase }, { on := 21, ground := Go.Ground.phase }, { on := 22, ground := Go.Ground.phase }, { on := 23, ground := Go.Ground.phase }, { on := 24, ground := Go.Ground.phase }, { on := 25, ground := Go.Ground.phase }, { on := 26, ground := Go.Ground.phase }, { on := 27, ground := Go.Ground.phase }], guard := none }) (v := ?v101) rfl (by kernel_rfl) (by kernel_rfl) (by kernel_rfl) (fun _ _ _ h => h) (Or.inl ⟨by rfl, ?hy101⟩) (by assumption) ?rest101
          case hy101 => (intro w hSw; obtain ⟨s0, s1, s2, s3⟩ := hSw; go_simp; try with_reducible rfl)
          try simp only [Act.put, List.setIfInBounds_toArray, List.set_cons_zero, List.set_cons_succ]
          refine wpAnyH_done (by kernel_rfl) ?_ _
          have HFIN := Lib.hid (below_step HB.out g7)
          go_wp2_with fail
          go_ret
          exact ⟨by simp, HFIN.out⟩

end Go.Proofs.YtfklkainbkffnaaDoor.Schema
