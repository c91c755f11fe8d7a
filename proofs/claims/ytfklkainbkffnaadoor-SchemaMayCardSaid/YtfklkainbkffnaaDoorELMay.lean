/-
  The walk of the statement SchemaMay.
-/
import Derived.Test.YtfklkainbkffnaaDoorELSame
import Derived.Test.YtfklkainbkffnaaDoorE26
namespace Go.Proofs.YtfklkainbkffnaaDoor.Schema
open Go Go.RowKit

theorem hh {p : Prop} (h : p) : Hid p := Lib.hid h

set_option maxRecDepth 100000 in
set_option maxHeartbeats 8000000 in
theorem schemaMay_walk (A0 : Option Addr) (c0 : Nat) (B0 : Option Addr) (g0 : Nat) (e0 : Ev) (A1 : Option Addr) (c1 : Nat) (B1 : Option Addr) (g1 : Nat) (e1 : Ev) (s : ByteArray) (w : World)
    (y0 : EvAt w A0 c0 B0 g0 e0) (r0 : e0.ns.length ≤ 140737488355328 ∧ e0.ts.length ≤ 140737488355328)
    (y1 : EvAt w A1 c1 B1 g1 e1) (r1 : e1.ns.length ≤ 140737488355328 ∧ e1.ts.length ≤ 140737488355328)
    (ws : s.size ≤ maxLen) (E : Env w) :
    Calls Tryd.prog 4 #[evV A0 c0 B0 g0 e0, evV A1 c1 B1 g1 e1, .string s] w fun z w' => z = .returned (.bool true) ∧ Below w.heap.size w w' := by
  have HY0 := Lib.hid y0
  have HY1 := Lib.hid y1
  have HE := Lib.hid E
  have HR0 := Lib.hid r0
  have HR1 := Lib.hid r1
  have HWS := Lib.hid ws
  clear y0 y1 E r0 r1 ws
  unfold evV
  have ha := (Below.refl w.heap.size w).alloc (Nat.le_refl _) (.cells #[.int .u8 e0.v, .int .u8 e0.k, .slice A0 e0.ns.length c0, .slice B0 e0.ts.length g0] 44)
  have hb := (Below.refl (w.alloc (.cells #[.int .u8 e0.v, .int .u8 e0.k, .slice A0 e0.ns.length c0, .slice B0 e0.ts.length g0] 44)).heap.size (w.alloc (.cells #[.int .u8 e0.v, .int .u8 e0.k, .slice A0 e0.ns.length c0, .slice B0 e0.ts.length g0] 44))).alloc (Nat.le_refl _) (.cells #[.int .u8 e1.v, .int .u8 e1.k, .slice A1 e1.ns.length c1, .slice B1 e1.ts.length g1] 44)
  have hs : (w.alloc (.cells #[.int .u8 e0.v, .int .u8 e0.k, .slice A0 e0.ns.length c0, .slice B0 e0.ts.length g0] 44)).heap.size = w.heap.size + 1 := by simp
  have HP4 := hh ((show Four _ w.heap.size _ _ _ _ from box4 w (.int .u8 e0.v) (.int .u8 e0.k) (.slice A0 e0.ns.length c0) (.slice B0 e0.ts.length g0) 44).below hb)
  have hp5 := (show Four _ (w.alloc (.cells #[.int .u8 e0.v, .int .u8 e0.k, .slice A0 e0.ns.length c0, .slice B0 e0.ts.length g0] 44)).heap.size _ _ _ _ from box4 (w.alloc (.cells #[.int .u8 e0.v, .int .u8 e0.k, .slice A0 e0.ns.length c0, .slice B0 e0.ts.length g0] 44)) (.int .u8 e1.v) (.int .u8 e1.k) (.slice A1 e1.ns.length c1) (.slice B1 e1.ts.length g1) 44)
  rw [hs] at hp5
  have HP5 := Lib.hid hp5
  have HB := hh (below_step ha hb)
  have HORD := hh (show w.heap.size + 2 ≤ ((w.alloc (.cells #[.int .u8 e0.v, .int .u8 e0.k, .slice A0 e0.ns.length c0, .slice B0 e0.ts.length g0] 44)).alloc (.cells #[.int .u8 e1.v, .int .u8 e1.k, .slice A1 e1.ns.length c1, .slice B1 e1.ts.length g1] 44)).heap.size from by simp)
  clear ha hb hs hp5
  go_enter Tryd.func4, Tryd.ntmps4
  go_upto_region 1 with (fail)
  generalize ((w.alloc (.cells #[.int .u8 e0.v, .int .u8 e0.k, .slice A0 e0.ns.length c0, .slice B0 e0.ts.length g0] 44)).alloc (.cells #[.int .u8 e1.v, .int .u8 e1.k, .slice A1 e1.ns.length c1, .slice B1 e1.ts.length g1] 44)) = W0 at HP4 HP5 HB HORD ⊢
  obtain ⟨hp4_0, hp4_1, hp4_2, hp4_3⟩ := HP4.out
  obtain ⟨hp5_0, hp5_1, hp5_2, hp5_3⟩ := HP5.out
  go_wp2_with fail
  clear hp4_0 hp4_1 hp4_2 hp4_3
  clear hp5_0 hp5_1 hp5_2 hp5_3
  refine (long_any A0 c0 B0 g0 e0 HR0.out.1 HR0.out.2 W0 (HY0.out.below HB.out)).mono ?_; rintro z W1 ⟨b1, rfl, hl1, hb⟩
  replace HORD := hh (And.intro HORD.out hb.size)
  replace HP4 := hh (HP4.out.below hb)
  replace HP5 := hh (HP5.out.below hb)
  replace HB := hh (below_step HB.out hb)
  clear hb
  cases b1 with
  | true =>
    clear hl1
    go_wp2_with (go_at_call 11; refine (awake_any _ (HE.out.below HB.out)).mono ?_; rintro z Wz ⟨rfl, hb⟩; have HZ := hh (below_step HB.out hb); clear hb)
    go_ret
    exact ⟨rfl, HZ.out⟩
  | false =>
    have HL0 := hh (hl1 rfl)
    clear hl1
    obtain ⟨hp4_0, hp4_1, hp4_2, hp4_3⟩ := HP4.out
    obtain ⟨hp5_0, hp5_1, hp5_2, hp5_3⟩ := HP5.out
    go_wp2_with fail
    clear hp4_0 hp4_1 hp4_2 hp4_3
    clear hp5_0 hp5_1 hp5_2 hp5_3
    refine (long_any A1 c1 B1 g1 e1 HR1.out.1 HR1.out.2 W1 (HY1.out.below HB.out)).mono ?_; rintro z W2 ⟨b1, rfl, hl1, hb⟩
    replace HORD := hh (And.intro HORD.out hb.size)
    replace HP4 := hh (HP4.out.below hb)
    replace HP5 := hh (HP5.out.below hb)
    replace HB := hh (below_step HB.out hb)
    clear hb
    cases b1 with
    | true =>
      clear hl1
      go_wp2_with (go_at_call 11; refine (awake_any _ (HE.out.below HB.out)).mono ?_; rintro z Wz ⟨rfl, hb⟩; have HZ := hh (below_step HB.out hb); clear hb)
      go_ret
      exact ⟨rfl, HZ.out⟩
    | false =>
      have HL1 := hh (hl1 rfl)
      clear hl1
      by_cases h1 : 300 < s.size
      · have d1 : decide ((300 : Int) < (s.size : Int)) = true := decide_eq_true (by omega)
        clear h1
        go_wp2_with (go_at_call 11; refine (awake_any _ (HE.out.below HB.out)).mono ?_; rintro z Wz ⟨rfl, hb⟩; have HZ := hh (below_step HB.out hb); clear hb)
        go_ret
        exact ⟨rfl, HZ.out⟩
      have d1 : decide ((300 : Int) < (s.size : Int)) = false := decide_eq_false (by omega)
      clear h1
      go_upto_region 3 with (fail)
      clear d1
      have HKS := hh (fun W (hW : Below W2.heap.size W2 W) => show (fun w' => (Below W2.heap.size W2 w' ∧ W2.heap.size ≤ w'.heap.size) ∧ w'.cell? ⟨w.heap.size, 0, none⟩ = some (.int .u8 e0.v) ∧ w'.cell? ⟨w.heap.size, 1, none⟩ = some (.int .u8 e0.k) ∧ w'.cell? ⟨w.heap.size, 2, none⟩ = some (.slice A0 e0.ns.length c0) ∧ w'.cell? ⟨w.heap.size, 3, none⟩ = some (.slice B0 e0.ts.length g0) ∧ w'.cell? ⟨(w.heap.size + 1), 0, none⟩ = some (.int .u8 e1.v) ∧ w'.cell? ⟨(w.heap.size + 1), 1, none⟩ = some (.int .u8 e1.k) ∧ w'.cell? ⟨(w.heap.size + 1), 2, none⟩ = some (.slice A1 e1.ns.length c1) ∧ w'.cell? ⟨(w.heap.size + 1), 3, none⟩ = some (.slice B1 e1.ts.length g1)) W from by
        obtain ⟨p0, p1, p2, p3⟩ := HP4.out.below hW
        obtain ⟨q0, q1, q2, q3⟩ := HP5.out.below hW
        exact ⟨⟨hW, hW.size⟩, p0, p1, p2, p3, q0, q1, q2, q3⟩)
      go_cut [7, 8] (fun u v wx => ∃ bx bY Ax cx Bx dx Ay cy By dy, u = .pointer (some ⟨bx, 0, none⟩) ∧ v = .pointer (some ⟨bY, 0, none⟩) ∧ Hid (Four wx bx (.int .u8 e0.v) (.int .u8 e0.k) (.slice Ax e0.ns.length cx) (.slice Bx e0.ts.length dx) ∧ Four wx bY (.int .u8 e1.v) (.int .u8 e1.k) (.slice Ay e1.ns.length cy) (.slice By e1.ts.length dy) ∧ EvAt wx Ax cx Bx dx e0 ∧ EvAt wx Ay cy By dy e1 ∧ Below W2.heap.size W2 wx))
      case first =>
        have gd := below_drew W2.heap.size W2
        have HG := Lib.hid gd
        refine wp_region_held_drew (S := (fun w' => (Below W2.heap.size W2 w' ∧ W2.heap.size ≤ w'.heap.size) ∧ w'.cell? ⟨w.heap.size, 0, none⟩ = some (.int .u8 e0.v) ∧ w'.cell? ⟨w.heap.size, 1, none⟩ = some (.int .u8 e0.k) ∧ w'.cell? ⟨w.heap.size, 2, none⟩ = some (.slice A0 e0.ns.length c0) ∧ w'.cell? ⟨w.heap.size, 3, none⟩ = some (.slice B0 e0.ts.length g0) ∧ w'.cell? ⟨(w.heap.size + 1), 0, none⟩ = some (.int .u8 e1.v) ∧ w'.cell? ⟨(w.heap.size + 1), 1, none⟩ = some (.int .u8 e1.k) ∧ w'.cell? ⟨(w.heap.size + 1), 2, none⟩ = some (.slice A1 e1.ns.length c1) ∧ w'.cell? ⟨(w.heap.size + 1), 3, none⟩ = some (.slice B1 e1.ts.length g1))) (by kernel_rfl) (HKS.out _ gd) (fun hHeld => ?_)
        replace HORD := hh (And.intro HORD.out gd.size)
        replace HP4 := hh (HP4.out.below gd)
        replace HP5 := hh (HP5.out.below gd)
        replace HB := hh (below_step HB.out gd)
        clear gd
        generalize W2.drew = D0 at HP4 HP5 HB HG HORD hHeld ⊢
        refine wpAnyH_take (i := 0) (oi := { dst := some 21, op := Go.Op.load 44 (Go.Operand.tmp 3), type := 44, pos := "law.go:78", after := #[], guard := none }) (v := ?v1) rfl (by kernel_rfl) (by kernel_rfl) (by kernel_rfl) (fun _ _ _ h => h) (Or.inl ⟨by rfl, ?hy1⟩) (by assumption) ?rest1
        case hy1 => (intro w hSw; obtain ⟨s0, s1, s2, s3, s4, s5, s6, s7, s8⟩ := hSw; go_simp; try with_reducible rfl)
        try simp only [Act.put, List.setIfInBounds_toArray, List.set_cons_zero, List.set_cons_succ]
        refine wpAnyH_take (i := 2) (oi := { dst := some 23, op := Go.Op.load 44 (Go.Operand.tmp 4), type := 44, pos := "law.go:78", after := #[], guard := none }) (v := ?v2) rfl (by kernel_rfl) (by kernel_rfl) (by kernel_rfl) (fun _ _ _ h => h) (Or.inl ⟨by rfl, ?hy2⟩) (by assumption) ?rest2
        case hy2 => (intro w hSw; obtain ⟨s0, s1, s2, s3, s4, s5, s6, s7, s8⟩ := hSw; go_simp; try with_reducible rfl)
        try simp only [Act.put, List.setIfInBounds_toArray, List.set_cons_zero, List.set_cons_succ]
        refine wpAnyH_ready (rs := [1, 4, 5]) (by kernel_rfl) (by simp) ?_
        refine (AllReadyH.cons (o := { dst := some 22, op := Go.Op.call { callee := Go.Callee.value (Go.Operand.func 24), args := #[Go.Operand.tmp 21], argTypes := #[44] }, type := 44, pos := "law.go:78", after := #[{ on := 0, ground := Go.Ground.data }], guard := none }) rfl (fun K hK => ?br3_1) (AllReadyH.cons (o := { dst := some 7, op := Go.Op.alloc 44, type := 0, pos := "law.go:78", after := #[], guard := none }) rfl (fun K hK => ?br3_4) (AllReadyH.cons (o := { dst := some 8, op := Go.Op.alloc 44, type := 0, pos := "law.go:78", after := #[], guard := none }) rfl (fun K hK => ?br3_5) AllReadyH.nil)))
        case br3_1 =>
         go_simp
         go_at_call 24
         refine (own_x A0 c0 B0 g0 e0 (by have := HL0.out; omega) (by have := HL0.out; omega) _ (HY0.out.below HB.out)).mono ?_; rintro z D1 ⟨Ax, cx, Bx, dx, mx, rfl, hm1, hm2, hn, ht, hb⟩
         simp only [evV]
         replace HP4 := hh (HP4.out.below hb)
         replace HP5 := hh (HP5.out.below hb)
         replace HB := hh (below_step HB.out hb)
         replace HG := hh (below_step HG.out hb)
         replace HORD := hh (And.intro HORD.out (And.intro hm1 (And.intro hm2 hb.size)))
         have HxN := Lib.hid hn
         have HxT := Lib.hid ht
         clear hn ht hm1 hm2 hb
         refine hK.out _ _ (HKS.out _ HG.out) (fun hHeld => ?_)
         clear hK K
         try simp only [Act.put, List.setIfInBounds_toArray, List.set_cons_zero, List.set_cons_succ]
         refine wpAnyH_ready (rs := [3, 4, 5]) (by kernel_rfl) (by simp) ?_
         refine (AllReadyH.cons (o := { dst := some 24, op := Go.Op.call { callee := Go.Callee.value (Go.Operand.func 24), args := #[Go.Operand.tmp 23], argTypes := #[44] }, type := 44, pos := "law.go:78", after := #[{ on := 2, ground := Go.Ground.data }, { on := 1, ground := Go.Ground.chain }], guard := none }) rfl (fun K hK => ?br4_3) (AllReadyH.cons (o := { dst := some 7, op := Go.Op.alloc 44, type := 0, pos := "law.go:78", after := #[], guard := none }) rfl (fun K hK => ?br4_4) (AllReadyH.cons (o := { dst := some 8, op := Go.Op.alloc 44, type := 0, pos := "law.go:78", after := #[], guard := none }) rfl (fun K hK => ?br4_5) AllReadyH.nil)))
         case br4_3 =>
          go_simp
          go_at_call 24
          refine (own_x A1 c1 B1 g1 e1 (by have := HL1.out; omega) (by have := HL1.out; omega) _ (HY1.out.below HB.out)).mono ?_; rintro z D2 ⟨Ay, cy, By, dy, my, rfl, hm1, hm2, hn, ht, hb⟩
          simp only [evV]
          replace HP4 := hh (HP4.out.below hb)
          replace HP5 := hh (HP5.out.below hb)
          replace HB := hh (below_step HB.out hb)
          replace HG := hh (below_step HG.out hb)
          replace HxN := hh (HxN.out.below hb)
          replace HxT := hh (HxT.out.below hb)
          replace HORD := hh (And.intro HORD.out (And.intro hm1 (And.intro hm2 hb.size)))
          have HyN := Lib.hid hn
          have HyT := Lib.hid ht
          clear hn ht hm1 hm2 hb
          refine hK.out _ _ (HKS.out _ HG.out) (fun hHeld => ?_)
          clear hK K
          try simp only [Act.put, List.setIfInBounds_toArray, List.set_cons_zero, List.set_cons_succ]
          refine wpAnyH_ready (rs := [4, 5]) (by kernel_rfl) (by simp) ?_
          refine (AllReadyH.cons (o := { dst := some 7, op := Go.Op.alloc 44, type := 0, pos := "law.go:78", after := #[], guard := none }) rfl (fun K hK => ?br5_4) (AllReadyH.cons (o := { dst := some 8, op := Go.Op.alloc 44, type := 0, pos := "law.go:78", after := #[], guard := none }) rfl (fun K hK => ?br5_5) AllReadyH.nil))
          case br5_4 =>
           have hb := (Below.refl D2.heap.size D2).alloc (Nat.le_refl _) (.cells #[.int .u8 0, .int .u8 0, .slice none 0 0, .slice none 0 0] 44)
           have hs : D2.heap.size + 1 ≤ (D2.alloc (.cells #[.int .u8 0, .int .u8 0, .slice none 0 0, .slice none 0 0] 44)).heap.size := by simp
           replace HP4 := hh (HP4.out.below hb)
           replace HP5 := hh (HP5.out.below hb)
           replace HB := hh (below_step HB.out hb)
           replace HG := hh (below_step HG.out hb)
           replace HxN := hh (HxN.out.below hb)
           replace HxT := hh (HxT.out.below hb)
           replace HyN := hh (HyN.out.below hb)
           replace HyT := hh (HyT.out.below hb)
           replace HORD := hh (And.intro HORD.out hs)
           have HPx := hh (show Four _ D2.heap.size _ _ _ _ from box4 D2 (.int .u8 0) (.int .u8 0) (.slice none 0 0) (.slice none 0 0) 44)
           have HFx := hh (free_new D2 #[.int .u8 0, .int .u8 0, .slice none 0 0, .slice none 0 0] 44)
           have HKx := hh (boxT_new D2 #[.int .u8 0, .int .u8 0, .slice none 0 0, .slice none 0 0] 44)
           go_simp
           refine hK.out _ _ (HKS.out _ HG.out) (fun hHeld => ?_)
           clear hK K
           clear hb hs
           generalize hWs : D2.heap.size = bx at HP4 HP5 HB HG HxN HxT HyN HyT HPx HFx HKx HORD ⊢
           clear hWs
           generalize D2.alloc (.cells #[.int .u8 0, .int .u8 0, .slice none 0 0, .slice none 0 0] 44) = D3 at HP4 HP5 HB HG HxN HxT HyN HyT HPx HFx HKx HORD hHeld ⊢
           try simp only [Act.put, List.setIfInBounds_toArray, List.set_cons_zero, List.set_cons_succ]
           refine wpAnyH_ready (rs := [5]) (by kernel_rfl) (by simp) ?_
           refine (AllReadyH.cons (o := { dst := some 8, op := Go.Op.alloc 44, type := 0, pos := "law.go:78", after := #[], guard := none }) rfl (fun K hK => ?br6_5) AllReadyH.nil)
           case br6_5 =>
            have hb := (Below.refl D3.heap.size D3).alloc (Nat.le_refl _) (.cells #[.int .u8 0, .int .u8 0, .slice none 0 0, .slice none 0 0] 44)
            have hs : D3.heap.size + 1 ≤ (D3.alloc (.cells #[.int .u8 0, .int .u8 0, .slice none 0 0, .slice none 0 0] 44)).heap.size := by simp
            replace HP4 := hh (HP4.out.below hb)
            replace HP5 := hh (HP5.out.below hb)
            replace HB := hh (below_step HB.out hb)
            replace HG := hh (below_step HG.out hb)
            replace HxN := hh (HxN.out.below hb)
            replace HxT := hh (HxT.out.below hb)
            replace HyN := hh (HyN.out.below hb)
            replace HyT := hh (HyT.out.below hb)
            replace HPx := hh (HPx.out.below hb)
            replace HFx := hh (HFx.out.below hb)
            replace HKx := hh (HKx.out.below hb)
            replace HORD := hh (And.intro HORD.out hs)
            have HPy := hh (show Four _ D3.heap.size _ _ _ _ from box4 D3 (.int .u8 0) (.int .u8 0) (.slice none 0 0) (.slice none 0 0) 44)
            have HFy := hh (free_new D3 #[.int .u8 0, .int .u8 0, .slice none 0 0, .slice none 0 0] 44)
            have HKy := hh (boxT_new D3 #[.int .u8 0, .int .u8 0, .slice none 0 0, .slice none 0 0] 44)
            go_simp
            refine hK.out _ _ (HKS.out _ HG.out) (fun hHeld => ?_)
            clear hK K
            clear hb hs
            generalize hWs : D3.heap.size = bY at HP4 HP5 HB HG HxN HxT HyN HyT HPx HFx HKx HPy HFy HKy HORD ⊢
            clear hWs
            generalize D3.alloc (.cells #[.int .u8 0, .int .u8 0, .slice none 0 0, .slice none 0 0] 44) = D4 at HP4 HP5 HB HG HxN HxT HyN HyT HPx HFx HKx HPy HFy HKy HORD hHeld ⊢
            try simp only [Act.put, List.setIfInBounds_toArray, List.set_cons_zero, List.set_cons_succ]
            refine wpAnyH_ready (rs := [6]) (by kernel_rfl) (by simp) ?_
            refine (AllReadyH.cons (o := { dst := none, op := Go.Op.store 44 (Go.Operand.tmp 7) (Go.Operand.tmp 22), type := 0, pos := "law.go:78", after := #[{ on := 4, ground := Go.Ground.data }, { on := 1, ground := Go.Ground.data }, { on := 3, ground := Go.Ground.chain }, { on := 0, ground := Go.Ground.phase }, { on := 1, ground := Go.Ground.phase }, { on := 2, ground := Go.Ground.textOnly Go.Departure.lateStores }, { on := 3, ground := Go.Ground.textOnly Go.Departure.lateStoresUnsure }, { on := 4, ground := Go.Ground.phase }, { on := 5, ground := Go.Ground.phase }], guard := none }) rfl (fun K hK => ?br7_6) AllReadyH.nil)
            case br7_6 =>
             obtain ⟨hpx_0, hpx_1, hpx_2, hpx_3⟩ := HPx.out
             have f0 := HFx.out.2 0
             have f1 := HFx.out.2 1
             have f2 := HFx.out.2 2
             have f3 := HFx.out.2 3
             go_simp
             clear hpx_0 hpx_1 hpx_2 hpx_3
             clear f0 f1 f2 f3
             have hp := ((((HPx.out.set0 (.int .u8 e0.v)).set1 (.int .u8 e0.k)).set2 (.slice Ax e0.ns.length cx)).set3 (.slice Bx e0.ts.length dx))
             have ht := Touch.set D4 bx 0 (.int .u8 e0.v)
             have hf := HFx.out.set bx 0 (.int .u8 e0.v)
             have sp_HxN := HxN.out.boxT HKx.out (by decide) 0 (.int .u8 e0.v)
             have sp_HxT := HxT.out.boxT HKx.out (by decide) 0 (.int .u8 e0.v)
             have sp_HyN := HyN.out.boxT HKx.out (by decide) 0 (.int .u8 e0.v)
             have sp_HyT := HyT.out.boxT HKx.out (by decide) 0 (.int .u8 e0.v)
             replace HKx := hh (HKx.out.set 0 (.int .u8 e0.v))
             have hord := HORD.out
             replace HP4 := hh (HP4.out.touch ht (by omega))
             replace HP5 := hh (HP5.out.touch ht (by omega))
             replace HB := hh (Touch.step HB.out ht (by omega))
             replace HG := hh (Touch.step HG.out ht (by omega))
             replace HPy := hh (HPy.out.touch ht (by omega))
             replace HFy := hh (HFy.out.touch ht (by omega))
             replace HKy := hh (HKy.out.touch ht (by omega))
             clear hord
             replace HFx := Lib.hid hf
             clear ht hf
             replace HxN := Lib.hid sp_HxN
             clear sp_HxN
             replace HxT := Lib.hid sp_HxT
             clear sp_HxT
             replace HyN := Lib.hid sp_HyN
             clear sp_HyN
             replace HyT := Lib.hid sp_HyT
             clear sp_HyT
             have ht := Touch.set (D4.setCell ⟨bx, 0, none⟩ (.int .u8 e0.v)) bx 1 (.int .u8 e0.k)
             have hf := HFx.out.set bx 1 (.int .u8 e0.k)
             have sp_HxN := HxN.out.boxT HKx.out (by decide) 1 (.int .u8 e0.k)
             have sp_HxT := HxT.out.boxT HKx.out (by decide) 1 (.int .u8 e0.k)
             have sp_HyN := HyN.out.boxT HKx.out (by decide) 1 (.int .u8 e0.k)
             have sp_HyT := HyT.out.boxT HKx.out (by decide) 1 (.int .u8 e0.k)
             replace HKx := hh (HKx.out.set 1 (.int .u8 e0.k))
             have hord := HORD.out
             replace HP4 := hh (HP4.out.touch ht (by omega))
             replace HP5 := hh (HP5.out.touch ht (by omega))
             replace HB := hh (Touch.step HB.out ht (by omega))
             replace HG := hh (Touch.step HG.out ht (by omega))
             replace HPy := hh (HPy.out.touch ht (by omega))
             replace HFy := hh (HFy.out.touch ht (by omega))
             replace HKy := hh (HKy.out.touch ht (by omega))
             clear hord
             replace HFx := Lib.hid hf
             clear ht hf
             replace HxN := Lib.hid sp_HxN
             clear sp_HxN
             replace HxT := Lib.hid sp_HxT
             clear sp_HxT
             replace HyN := Lib.hid sp_HyN
             clear sp_HyN
             replace HyT := Lib.hid sp_HyT
             clear sp_HyT
             have ht := Touch.set ((D4.setCell ⟨bx, 0, none⟩ (.int .u8 e0.v)).setCell ⟨bx, 1, none⟩ (.int .u8 e0.k)) bx 2 (.slice Ax e0.ns.length cx)
             have hf := HFx.out.set bx 2 (.slice Ax e0.ns.length cx)
             have sp_HxN := HxN.out.boxT HKx.out (by decide) 2 (.slice Ax e0.ns.length cx)
             have sp_HxT := HxT.out.boxT HKx.out (by decide) 2 (.slice Ax e0.ns.length cx)
             have sp_HyN := HyN.out.boxT HKx.out (by decide) 2 (.slice Ax e0.ns.length cx)
             have sp_HyT := HyT.out.boxT HKx.out (by decide) 2 (.slice Ax e0.ns.length cx)
             replace HKx := hh (HKx.out.set 2 (.slice Ax e0.ns.length cx))
             have hord := HORD.out
             replace HP4 := hh (HP4.out.touch ht (by omega))
             replace HP5 := hh (HP5.out.touch ht (by omega))
             replace HB := hh (Touch.step HB.out ht (by omega))
             replace HG := hh (Touch.step HG.out ht (by omega))
             replace HPy := hh (HPy.out.touch ht (by omega))
             replace HFy := hh (HFy.out.touch ht (by omega))
             replace HKy := hh (HKy.out.touch ht (by omega))
             clear hord
             replace HFx := Lib.hid hf
             clear ht hf
             replace HxN := Lib.hid sp_HxN
             clear sp_HxN
             replace HxT := Lib.hid sp_HxT
             clear sp_HxT
             replace HyN := Lib.hid sp_HyN
             clear sp_HyN
             replace HyT := Lib.hid sp_HyT
             clear sp_HyT
             have ht := Touch.set (((D4.setCell ⟨bx, 0, none⟩ (.int .u8 e0.v)).setCell ⟨bx, 1, none⟩ (.int .u8 e0.k)).setCell ⟨bx, 2, none⟩ (.slice Ax e0.ns.length cx)) bx 3 (.slice Bx e0.ts.length dx)
             have hf := HFx.out.set bx 3 (.slice Bx e0.ts.length dx)
             have sp_HxN := HxN.out.boxT HKx.out (by decide) 3 (.slice Bx e0.ts.length dx)
             have sp_HxT := HxT.out.boxT HKx.out (by decide) 3 (.slice Bx e0.ts.length dx)
             have sp_HyN := HyN.out.boxT HKx.out (by decide) 3 (.slice Bx e0.ts.length dx)
             have sp_HyT := HyT.out.boxT HKx.out (by decide) 3 (.slice Bx e0.ts.length dx)
             replace HKx := hh (HKx.out.set 3 (.slice Bx e0.ts.length dx))
             have hord := HORD.out
             replace HP4 := hh (HP4.out.touch ht (by omega))
             replace HP5 := hh (HP5.out.touch ht (by omega))
             replace HB := hh (Touch.step HB.out ht (by omega))
             replace HG := hh (Touch.step HG.out ht (by omega))
             replace HPy := hh (HPy.out.touch ht (by omega))
             replace HFy := hh (HFy.out.touch ht (by omega))
             replace HKy := hh (HKy.out.touch ht (by omega))
             clear hord
             replace HFx := Lib.hid hf
             clear ht hf
             replace HxN := Lib.hid sp_HxN
             clear sp_HxN
             replace HxT := Lib.hid sp_HxT
             clear sp_HxT
             replace HyN := Lib.hid sp_HyN
             clear sp_HyN
             replace HyT := Lib.hid sp_HyT
             clear sp_HyT
             have hs : D4.heap.size ≤ ((((D4.setCell ⟨bx, 0, none⟩ (.int .u8 e0.v)).setCell ⟨bx, 1, none⟩ (.int .u8 e0.k)).setCell ⟨bx, 2, none⟩ (.slice Ax e0.ns.length cx)).setCell ⟨bx, 3, none⟩ (.slice Bx e0.ts.length dx)).heap.size := by simp
             replace HORD := hh (And.intro HORD.out hs)
             replace HPx := Lib.hid hp
             clear hp hs
             refine hK.out _ _ (HKS.out _ HG.out) (fun hHeld => ?_)
             clear hK K
             generalize ((((D4.setCell ⟨bx, 0, none⟩ (.int .u8 e0.v)).setCell ⟨bx, 1, none⟩ (.int .u8 e0.k)).setCell ⟨bx, 2, none⟩ (.slice Ax e0.ns.length cx)).setCell ⟨bx, 3, none⟩ (.slice Bx e0.ts.length dx)) = D5 at HP4 HP5 HB HG HxN HxT HyN HyT HPx HFx HKx HPy HFy HKy HORD hHeld ⊢
             try simp only [Act.put, List.setIfInBounds_toArray, List.set_cons_zero, List.set_cons_succ]
             refine wpAnyH_ready (rs := [7]) (by kernel_rfl) (by simp) ?_
             refine (AllReadyH.cons (o := { dst := none, op := Go.Op.store 44 (Go.Operand.tmp 8) (Go.Operand.tmp 24), type := 0, pos := "law.go:78", after := #[{ on := 5, ground := Go.Ground.data }, { on := 3, ground := Go.Ground.data }, { on := 6, ground := Go.Ground.chain }, { on := 0, ground := Go.Ground.phase }, { on := 1, ground := Go.Ground.phase }, { on := 2, ground := Go.Ground.phase }, { on := 3, ground := Go.Ground.phase }, { on := 4, ground := Go.Ground.phase }, { on := 5, ground := Go.Ground.phase }, { on := 6, ground := Go.Ground.phase }], guard := none }) rfl (fun K hK => ?br8_7) AllReadyH.nil)
             case br8_7 =>
              obtain ⟨hpy_0, hpy_1, hpy_2, hpy_3⟩ := HPy.out
              have f0 := HFy.out.2 0
              have f1 := HFy.out.2 1
              have f2 := HFy.out.2 2
              have f3 := HFy.out.2 3
              go_simp
              clear hpy_0 hpy_1 hpy_2 hpy_3
              clear f0 f1 f2 f3
              have hp := ((((HPy.out.set0 (.int .u8 e1.v)).set1 (.int .u8 e1.k)).set2 (.slice Ay e1.ns.length cy)).set3 (.slice By e1.ts.length dy))
              have ht := Touch.set D5 bY 0 (.int .u8 e1.v)
              have hf := HFy.out.set bY 0 (.int .u8 e1.v)
              have sp_HxN := HxN.out.boxT HKy.out (by decide) 0 (.int .u8 e1.v)
              have sp_HxT := HxT.out.boxT HKy.out (by decide) 0 (.int .u8 e1.v)
              have sp_HyN := HyN.out.boxT HKy.out (by decide) 0 (.int .u8 e1.v)
              have sp_HyT := HyT.out.boxT HKy.out (by decide) 0 (.int .u8 e1.v)
              replace HKy := hh (HKy.out.set 0 (.int .u8 e1.v))
              have hord := HORD.out
              replace HP4 := hh (HP4.out.touch ht (by omega))
              replace HP5 := hh (HP5.out.touch ht (by omega))
              replace HB := hh (Touch.step HB.out ht (by omega))
              replace HG := hh (Touch.step HG.out ht (by omega))
              replace HPx := hh (HPx.out.touch ht (by omega))
              replace HFx := hh (HFx.out.touch ht (by omega))
              replace HKx := hh (HKx.out.touch ht (by omega))
              clear hord
              replace HFy := Lib.hid hf
              clear ht hf
              replace HxN := Lib.hid sp_HxN
              clear sp_HxN
              replace HxT := Lib.hid sp_HxT
              clear sp_HxT
              replace HyN := Lib.hid sp_HyN
              clear sp_HyN
              replace HyT := Lib.hid sp_HyT
              clear sp_HyT
              have ht := Touch.set (D5.setCell ⟨bY, 0, none⟩ (.int .u8 e1.v)) bY 1 (.int .u8 e1.k)
              have hf := HFy.out.set bY 1 (.int .u8 e1.k)
              have sp_HxN := HxN.out.boxT HKy.out (by decide) 1 (.int .u8 e1.k)
              have sp_HxT := HxT.out.boxT HKy.out (by decide) 1 (.int .u8 e1.k)
              have sp_HyN := HyN.out.boxT HKy.out (by decide) 1 (.int .u8 e1.k)
              have sp_HyT := HyT.out.boxT HKy.out (by decide) 1 (.int .u8 e1.k)
              replace HKy := hh (HKy.out.set 1 (.int .u8 e1.k))
              have hord := HORD.out
              replace HP4 := hh (HP4.out.touch ht (by omega))
              replace HP5 := hh (HP5.out.touch ht (by omega))
              replace HB := hh (Touch.step HB.out ht (by omega))
              replace HG := hh (Touch.step HG.out ht (by omega))
              replace HPx := hh (HPx.out.touch ht (by omega))
              replace HFx := hh (HFx.out.touch ht (by omega))
              replace HKx := hh (HKx.out.touch ht (by omega))
              clear hord
              replace HFy := Lib.hid hf
              clear ht hf
              replace HxN := Lib.hid sp_HxN
              clear sp_HxN
              replace HxT := Lib.hid sp_HxT
              clear sp_HxT
              replace HyN := Lib.hid sp_HyN
              clear sp_HyN
              replace HyT := Lib.hid sp_HyT
              clear sp_HyT
              have ht := Touch.set ((D5.setCell ⟨bY, 0, none⟩ (.int .u8 e1.v)).setCell ⟨bY, 1, none⟩ (.int .u8 e1.k)) bY 2 (.slice Ay e1.ns.length cy)
              have hf := HFy.out.set bY 2 (.slice Ay e1.ns.length cy)
              have sp_HxN := HxN.out.boxT HKy.out (by decide) 2 (.slice Ay e1.ns.length cy)
              have sp_HxT := HxT.out.boxT HKy.out (by decide) 2 (.slice Ay e1.ns.length cy)
              have sp_HyN := HyN.out.boxT HKy.out (by decide) 2 (.slice Ay e1.ns.length cy)
              have sp_HyT := HyT.out.boxT HKy.out (by decide) 2 (.slice Ay e1.ns.length cy)
              replace HKy := hh (HKy.out.set 2 (.slice Ay e1.ns.length cy))
              have hord := HORD.out
              replace HP4 := hh (HP4.out.touch ht (by omega))
              replace HP5 := hh (HP5.out.touch ht (by omega))
              replace HB := hh (Touch.step HB.out ht (by omega))
              replace HG := hh (Touch.step HG.out ht (by omega))
              replace HPx := hh (HPx.out.touch ht (by omega))
              replace HFx := hh (HFx.out.touch ht (by omega))
              replace HKx := hh (HKx.out.touch ht (by omega))
              clear hord
              replace HFy := Lib.hid hf
              clear ht hf
              replace HxN := Lib.hid sp_HxN
              clear sp_HxN
              replace HxT := Lib.hid sp_HxT
              clear sp_HxT
              replace HyN := Lib.hid sp_HyN
              clear sp_HyN
              replace HyT := Lib.hid sp_HyT
              clear sp_HyT
              have ht := Touch.set (((D5.setCell ⟨bY, 0, none⟩ (.int .u8 e1.v)).setCell ⟨bY, 1, none⟩ (.int .u8 e1.k)).setCell ⟨bY, 2, none⟩ (.slice Ay e1.ns.length cy)) bY 3 (.slice By e1.ts.length dy)
              have hf := HFy.out.set bY 3 (.slice By e1.ts.length dy)
              have sp_HxN := HxN.out.boxT HKy.out (by decide) 3 (.slice By e1.ts.length dy)
              have sp_HxT := HxT.out.boxT HKy.out (by decide) 3 (.slice By e1.ts.length dy)
              have sp_HyN := HyN.out.boxT HKy.out (by decide) 3 (.slice By e1.ts.length dy)
              have sp_HyT := HyT.out.boxT HKy.out (by decide) 3 (.slice By e1.ts.length dy)
              replace HKy := hh (HKy.out.set 3 (.slice By e1.ts.length dy))
              have hord := HORD.out
              replace HP4 := hh (HP4.out.touch ht (by omega))
              replace HP5 := hh (HP5.out.touch ht (by omega))
              replace HB := hh (Touch.step HB.out ht (by omega))
              replace HG := hh (Touch.step HG.out ht (by omega))
              replace HPx := hh (HPx.out.touch ht (by omega))
              replace HFx := hh (HFx.out.touch ht (by omega))
              replace HKx := hh (HKx.out.touch ht (by omega))
              clear hord
              replace HFy := Lib.hid hf
              clear ht hf
              replace HxN := Lib.hid sp_HxN
              clear sp_HxN
              replace HxT := Lib.hid sp_HxT
              clear sp_HxT
              replace HyN := Lib.hid sp_HyN
              clear sp_HyN
              replace HyT := Lib.hid sp_HyT
              clear sp_HyT
              have hs : D5.heap.size ≤ ((((D5.setCell ⟨bY, 0, none⟩ (.int .u8 e1.v)).setCell ⟨bY, 1, none⟩ (.int .u8 e1.k)).setCell ⟨bY, 2, none⟩ (.slice Ay e1.ns.length cy)).setCell ⟨bY, 3, none⟩ (.slice By e1.ts.length dy)).heap.size := by simp
              replace HORD := hh (And.intro HORD.out hs)
              replace HPy := Lib.hid hp
              clear hp hs
              refine hK.out _ _ (HKS.out _ HG.out) (fun hHeld => ?_)
              clear hK K
              generalize ((((D5.setCell ⟨bY, 0, none⟩ (.int .u8 e1.v)).setCell ⟨bY, 1, none⟩ (.int .u8 e1.k)).setCell ⟨bY, 2, none⟩ (.slice Ay e1.ns.length cy)).setCell ⟨bY, 3, none⟩ (.slice By e1.ts.length dy)) = D6 at HP4 HP5 HB HG HxN HxT HyN HyT HPx HFx HKx HPy HFy HKy HORD hHeld ⊢
              try simp only [Act.put, List.setIfInBounds_toArray, List.set_cons_zero, List.set_cons_succ]
              refine wpAnyH_done (by kernel_rfl) ?_ _
              go_wp2_with fail
              go_meet
              exact ⟨bx, bY, Ax, cx, Bx, dx, Ay, cy, By, dy, rfl, rfl, Lib.hid ⟨HPx.out, HPy.out, ev_of HY0.out.v HY0.out.k HY0.out.fit HY0.out.txt HxN.out HxT.out, ev_of HY1.out.v HY1.out.k HY1.out.fit HY1.out.txt HyN.out HyT.out, HG.out⟩⟩
          case br5_5 =>
           have hb := (Below.refl D2.heap.size D2).alloc (Nat.le_refl _) (.cells #[.int .u8 0, .int .u8 0, .slice none 0 0, .slice none 0 0] 44)
           have hs : D2.heap.size + 1 ≤ (D2.alloc (.cells #[.int .u8 0, .int .u8 0, .slice none 0 0, .slice none 0 0] 44)).heap.size := by simp
           replace HP4 := hh (HP4.out.below hb)
           replace HP5 := hh (HP5.out.below hb)
           replace HB := hh (below_step HB.out hb)
           replace HG := hh (below_step HG.out hb)
           replace HxN := hh (HxN.out.below hb)
           replace HxT := hh (HxT.out.below hb)
           replace HyN := hh (HyN.out.below hb)
           replace HyT := hh (HyT.out.below hb)
           replace HORD := hh (And.intro HORD.out hs)
           have HPy := hh (show Four _ D2.heap.size _ _ _ _ from box4 D2 (.int .u8 0) (.int .u8 0) (.slice none 0 0) (.slice none 0 0) 44)
           have HFy := hh (free_new D2 #[.int .u8 0, .int .u8 0, .slice none 0 0, .slice none 0 0] 44)
           have HKy := hh (boxT_new D2 #[.int .u8 0, .int .u8 0, .slice none 0 0, .slice none 0 0] 44)
           go_simp
           refine hK.out _ _ (HKS.out _ HG.out) (fun hHeld => ?_)
           clear hK K
           clear hb hs
           generalize hWs : D2.heap.size = bY at HP4 HP5 HB HG HxN HxT HyN HyT HPy HFy HKy HORD ⊢
           clear hWs
           generalize D2.alloc (.cells #[.int .u8 0, .int .u8 0, .slice none 0 0, .slice none 0 0] 44) = D3 at HP4 HP5 HB HG HxN HxT HyN HyT HPy HFy HKy HORD hHeld ⊢
           try simp only [Act.put, List.setIfInBounds_toArray, List.set_cons_zero, List.set_cons_succ]
           refine wpAnyH_ready (rs := [4]) (by kernel_rfl) (by simp) ?_
           refine (AllReadyH.cons (o := { dst := some 7, op := Go.Op.alloc 44, type := 0, pos := "law.go:78", after := #[], guard := none }) rfl (fun K hK => ?br9_4) AllReadyH.nil)
           case br9_4 =>
            have hb := (Below.refl D3.heap.size D3).alloc (Nat.le_refl _) (.cells #[.int .u8 0, .int .u8 0, .slice none 0 0, .slice none 0 0] 44)
            have hs : D3.heap.size + 1 ≤ (D3.alloc (.cells #[.int .u8 0, .int .u8 0, .slice none 0 0, .slice none 0 0] 44)).heap.size := by simp
            replace HP4 := hh (HP4.out.below hb)
            replace HP5 := hh (HP5.out.below hb)
            replace HB := hh (below_step HB.out hb)
            replace HG := hh (below_step HG.out hb)
            replace HxN := hh (HxN.out.below hb)
            replace HxT := hh (HxT.out.below hb)
            replace HyN := hh (HyN.out.below hb)
            replace HyT := hh (HyT.out.below hb)
            replace HPy := hh (HPy.out.below hb)
            replace HFy := hh (HFy.out.below hb)
            replace HKy := hh (HKy.out.below hb)
            replace HORD := hh (And.intro HORD.out hs)
            have HPx := hh (show Four _ D3.heap.size _ _ _ _ from box4 D3 (.int .u8 0) (.int .u8 0) (.slice none 0 0) (.slice none 0 0) 44)
            have HFx := hh (free_new D3 #[.int .u8 0, .int .u8 0, .slice none 0 0, .slice none 0 0] 44)
            have HKx := hh (boxT_new D3 #[.int .u8 0, .int .u8 0, .slice none 0 0, .slice none 0 0] 44)
            go_simp
            refine hK.out _ _ (HKS.out _ HG.out) (fun hHeld => ?_)
            clear hK K
            clear hb hs
            generalize hWs : D3.heap.size = bx at HP4 HP5 HB HG HxN HxT HyN HyT HPy HFy HKy HPx HFx HKx HORD ⊢
            clear hWs
            generalize D3.alloc (.cells #[.int .u8 0, .int .u8 0, .slice none 0 0, .slice none 0 0] 44) = D4 at HP4 HP5 HB HG HxN HxT HyN HyT HPy HFy HKy HPx HFx HKx HORD hHeld ⊢
            try simp only [Act.put, List.setIfInBounds_toArray, List.set_cons_zero, List.set_cons_succ]
            refine wpAnyH_ready (rs := [6]) (by kernel_rfl) (by simp) ?_
            refine (AllReadyH.cons (o := { dst := none, op := Go.Op.store 44 (Go.Operand.tmp 7) (Go.Operand.tmp 22), type := 0, pos := "law.go:78", after := #[{ on := 4, ground := Go.Ground.data }, { on := 1, ground := Go.Ground.data }, { on := 3, ground := Go.Ground.chain }, { on := 0, ground := Go.Ground.phase }, { on := 1, ground := Go.Ground.phase }, { on := 2, ground := Go.Ground.textOnly Go.Departure.lateStores }, { on := 3, ground := Go.Ground.textOnly Go.Departure.lateStoresUnsure }, { on := 4, ground := Go.Ground.phase }, { on := 5, ground := Go.Ground.phase }], guard := none }) rfl (fun K hK => ?br10_6) AllReadyH.nil)
            case br10_6 =>
             obtain ⟨hpx_0, hpx_1, hpx_2, hpx_3⟩ := HPx.out
             have f0 := HFx.out.2 0
             have f1 := HFx.out.2 1
             have f2 := HFx.out.2 2
             have f3 := HFx.out.2 3
             go_simp
             clear hpx_0 hpx_1 hpx_2 hpx_3
             clear f0 f1 f2 f3
             have hp := ((((HPx.out.set0 (.int .u8 e0.v)).set1 (.int .u8 e0.k)).set2 (.slice Ax e0.ns.length cx)).set3 (.slice Bx e0.ts.length dx))
             have ht := Touch.set D4 bx 0 (.int .u8 e0.v)
             have hf := HFx.out.set bx 0 (.int .u8 e0.v)
             have sp_HxN := HxN.out.boxT HKx.out (by decide) 0 (.int .u8 e0.v)
             have sp_HxT := HxT.out.boxT HKx.out (by decide) 0 (.int .u8 e0.v)
             have sp_HyN := HyN.out.boxT HKx.out (by decide) 0 (.int .u8 e0.v)
             have sp_HyT := HyT.out.boxT HKx.out (by decide) 0 (.int .u8 e0.v)
             replace HKx := hh (HKx.out.set 0 (.int .u8 e0.v))
             have hord := HORD.out
             replace HP4 := hh (HP4.out.touch ht (by omega))
             replace HP5 := hh (HP5.out.touch ht (by omega))
             replace HB := hh (Touch.step HB.out ht (by omega))
             replace HG := hh (Touch.step HG.out ht (by omega))
             replace HPy := hh (HPy.out.touch ht (by omega))
             replace HFy := hh (HFy.out.touch ht (by omega))
             replace HKy := hh (HKy.out.touch ht (by omega))
             clear hord
             replace HFx := Lib.hid hf
             clear ht hf
             replace HxN := Lib.hid sp_HxN
             clear sp_HxN
             replace HxT := Lib.hid sp_HxT
             clear sp_HxT
             replace HyN := Lib.hid sp_HyN
             clear sp_HyN
             replace HyT := Lib.hid sp_HyT
             clear sp_HyT
             have ht := Touch.set (D4.setCell ⟨bx, 0, none⟩ (.int .u8 e0.v)) bx 1 (.int .u8 e0.k)
             have hf := HFx.out.set bx 1 (.int .u8 e0.k)
             have sp_HxN := HxN.out.boxT HKx.out (by decide) 1 (.int .u8 e0.k)
             have sp_HxT := HxT.out.boxT HKx.out (by decide) 1 (.int .u8 e0.k)
             have sp_HyN := HyN.out.boxT HKx.out (by decide) 1 (.int .u8 e0.k)
             have sp_HyT := HyT.out.boxT HKx.out (by decide) 1 (.int .u8 e0.k)
             replace HKx := hh (HKx.out.set 1 (.int .u8 e0.k))
             have hord := HORD.out
             replace HP4 := hh (HP4.out.touch ht (by omega))
             replace HP5 := hh (HP5.out.touch ht (by omega))
             replace HB := hh (Touch.step HB.out ht (by omega))
             replace HG := hh (Touch.step HG.out ht (by omega))
             replace HPy := hh (HPy.out.touch ht (by omega))
             replace HFy := hh (HFy.out.touch ht (by omega))
             replace HKy := hh (HKy.out.touch ht (by omega))
             clear hord
             replace HFx := Lib.hid hf
             clear ht hf
             replace HxN := Lib.hid sp_HxN
             clear sp_HxN
             replace HxT := Lib.hid sp_HxT
             clear sp_HxT
             replace HyN := Lib.hid sp_HyN
             clear sp_HyN
             replace HyT := Lib.hid sp_HyT
             clear sp_HyT
             have ht := Touch.set ((D4.setCell ⟨bx, 0, none⟩ (.int .u8 e0.v)).setCell ⟨bx, 1, none⟩ (.int .u8 e0.k)) bx 2 (.slice Ax e0.ns.length cx)
             have hf := HFx.out.set bx 2 (.slice Ax e0.ns.length cx)
             have sp_HxN := HxN.out.boxT HKx.out (by decide) 2 (.slice Ax e0.ns.length cx)
             have sp_HxT := HxT.out.boxT HKx.out (by decide) 2 (.slice Ax e0.ns.length cx)
             have sp_HyN := HyN.out.boxT HKx.out (by decide) 2 (.slice Ax e0.ns.length cx)
             have sp_HyT := HyT.out.boxT HKx.out (by decide) 2 (.slice Ax e0.ns.length cx)
             replace HKx := hh (HKx.out.set 2 (.slice Ax e0.ns.length cx))
             have hord := HORD.out
             replace HP4 := hh (HP4.out.touch ht (by omega))
             replace HP5 := hh (HP5.out.touch ht (by omega))
             replace HB := hh (Touch.step HB.out ht (by omega))
             replace HG := hh (Touch.step HG.out ht (by omega))
             replace HPy := hh (HPy.out.touch ht (by omega))
             replace HFy := hh (HFy.out.touch ht (by omega))
             replace HKy := hh (HKy.out.touch ht (by omega))
             clear hord
             replace HFx := Lib.hid hf
             clear ht hf
             replace HxN := Lib.hid sp_HxN
             clear sp_HxN
             replace HxT := Lib.hid sp_HxT
             clear sp_HxT
             replace HyN := Lib.hid sp_HyN
             clear sp_HyN
             replace HyT := Lib.hid sp_HyT
             clear sp_HyT
             have ht := Touch.set (((D4.setCell ⟨bx, 0, none⟩ (.int .u8 e0.v)).setCell ⟨bx, 1, none⟩ (.int .u8 e0.k)).setCell ⟨bx, 2, none⟩ (.slice Ax e0.ns.length cx)) bx 3 (.slice Bx e0.ts.length dx)
             have hf := HFx.out.set bx 3 (.slice Bx e0.ts.length dx)
             have sp_HxN := HxN.out.boxT HKx.out (by decide) 3 (.slice Bx e0.ts.length dx)
             have sp_HxT := HxT.out.boxT HKx.out (by decide) 3 (.slice Bx e0.ts.length dx)
             have sp_HyN := HyN.out.boxT HKx.out (by decide) 3 (.slice Bx e0.ts.length dx)
             have sp_HyT := HyT.out.boxT HKx.out (by decide) 3 (.slice Bx e0.ts.length dx)
             replace HKx := hh (HKx.out.set 3 (.slice Bx e0.ts.length dx))
             have hord := HORD.out
             replace HP4 := hh (HP4.out.touch ht (by omega))
             replace HP5 := hh (HP5.out.touch ht (by omega))
             replace HB := hh (Touch.step HB.out ht (by omega))
             replace HG := hh (Touch.step HG.out ht (by omega))
             replace HPy := hh (HPy.out.touch ht (by omega))
             replace HFy := hh (HFy.out.touch ht (by omega))
             replace HKy := hh (HKy.out.touch ht (by omega))
             clear hord
             replace HFx := Lib.hid hf
             clear ht hf
             replace HxN := Lib.hid sp_HxN
             clear sp_HxN
             replace HxT := Lib.hid sp_HxT
             clear sp_HxT
             replace HyN := Lib.hid sp_HyN
             clear sp_HyN
             replace HyT := Lib.hid sp_HyT
             clear sp_HyT
             have hs : D4.heap.size ≤ ((((D4.setCell ⟨bx, 0, none⟩ (.int .u8 e0.v)).setCell ⟨bx, 1, none⟩ (.int .u8 e0.k)).setCell ⟨bx, 2, none⟩ (.slice Ax e0.ns.length cx)).setCell ⟨bx, 3, none⟩ (.slice Bx e0.ts.length dx)).heap.size := by simp
             replace HORD := hh (And.intro HORD.out hs)
             replace HPx := Lib.hid hp
             clear hp hs
             refine hK.out _ _ (HKS.out _ HG.out) (fun hHeld => ?_)
             clear hK K
             generalize ((((D4.setCell ⟨bx, 0, none⟩ (.int .u8 e0.v)).setCell ⟨bx, 1, none⟩ (.int .u8 e0.k)).setCell ⟨bx, 2, none⟩ (.slice Ax e0.ns.length cx)).setCell ⟨bx, 3, none⟩ (.slice Bx e0.ts.length dx)) = D5 at HP4 HP5 HB HG HxN HxT HyN HyT HPy HFy HKy HPx HFx HKx HORD hHeld ⊢
             try simp only [Act.put, List.setIfInBounds_toArray, List.set_cons_zero, List.set_cons_succ]
             refine wpAnyH_ready (rs := [7]) (by kernel_rfl) (by simp) ?_
             refine (AllReadyH.cons (o := { dst := none, op := Go.Op.store 44 (Go.Operand.tmp 8) (Go.Operand.tmp 24), type := 0, pos := "law.go:78", after := #[{ on := 5, ground := Go.Ground.data }, { on := 3, ground := Go.Ground.data }, { on := 6, ground := Go.Ground.chain }, { on := 0, ground := Go.Ground.phase }, { on := 1, ground := Go.Ground.phase }, { on := 2, ground := Go.Ground.phase }, { on := 3, ground := Go.Ground.phase }, { on := 4, ground := Go.Ground.phase }, { on := 5, ground := Go.Ground.phase }, { on := 6, ground := Go.Ground.phase }], guard := none }) rfl (fun K hK => ?br11_7) AllReadyH.nil)
             case br11_7 =>
              obtain ⟨hpy_0, hpy_1, hpy_2, hpy_3⟩ := HPy.out
              have f0 := HFy.out.2 0
              have f1 := HFy.out.2 1
              have f2 := HFy.out.2 2
              have f3 := HFy.out.2 3
              go_simp
              clear hpy_0 hpy_1 hpy_2 hpy_3
              clear f0 f1 f2 f3
              have hp := ((((HPy.out.set0 (.int .u8 e1.v)).set1 (.int .u8 e1.k)).set2 (.slice Ay e1.ns.length cy)).set3 (.slice By e1.ts.length dy))
              have ht := Touch.set D5 bY 0 (.int .u8 e1.v)
              have hf := HFy.out.set bY 0 (.int .u8 e1.v)
              have sp_HxN := HxN.out.boxT HKy.out (by decide) 0 (.int .u8 e1.v)
              have sp_HxT := HxT.out.boxT HKy.out (by decide) 0 (.int .u8 e1.v)
              have sp_HyN := HyN.out.boxT HKy.out (by decide) 0 (.int .u8 e1.v)
              have sp_HyT := HyT.out.boxT HKy.out (by decide) 0 (.int .u8 e1.v)
              replace HKy := hh (HKy.out.set 0 (.int .u8 e1.v))
              have hord := HORD.out
              replace HP4 := hh (HP4.out.touch ht (by omega))
              replace HP5 := hh (HP5.out.touch ht (by omega))
              replace HB := hh (Touch.step HB.out ht (by omega))
              replace HG := hh (Touch.step HG.out ht (by omega))
              replace HPx := hh (HPx.out.touch ht (by omega))
              replace HFx := hh (HFx.out.touch ht (by omega))
              replace HKx := hh (HKx.out.touch ht (by omega))
              clear hord
              replace HFy := Lib.hid hf
              clear ht hf
              replace HxN := Lib.hid sp_HxN
              clear sp_HxN
              replace HxT := Lib.hid sp_HxT
              clear sp_HxT
              replace HyN := Lib.hid sp_HyN
              clear sp_HyN
              replace HyT := Lib.hid sp_HyT
              clear sp_HyT
              have ht := Touch.set (D5.setCell ⟨bY, 0, none⟩ (.int .u8 e1.v)) bY 1 (.int .u8 e1.k)
              have hf := HFy.out.set bY 1 (.int .u8 e1.k)
              have sp_HxN := HxN.out.boxT HKy.out (by decide) 1 (.int .u8 e1.k)
              have sp_HxT := HxT.out.boxT HKy.out (by decide) 1 (.int .u8 e1.k)
              have sp_HyN := HyN.out.boxT HKy.out (by decide) 1 (.int .u8 e1.k)
              have sp_HyT := HyT.out.boxT HKy.out (by decide) 1 (.int .u8 e1.k)
              replace HKy := hh (HKy.out.set 1 (.int .u8 e1.k))
              have hord := HORD.out
              replace HP4 := hh (HP4.out.touch ht (by omega))
              replace HP5 := hh (HP5.out.touch ht (by omega))
              replace HB := hh (Touch.step HB.out ht (by omega))
              replace HG := hh (Touch.step HG.out ht (by omega))
              replace HPx := hh (HPx.out.touch ht (by omega))
              replace HFx := hh (HFx.out.touch ht (by omega))
              replace HKx := hh (HKx.out.touch ht (by omega))
              clear hord
              replace HFy := Lib.hid hf
              clear ht hf
              replace HxN := Lib.hid sp_HxN
              clear sp_HxN
              replace HxT := Lib.hid sp_HxT
              clear sp_HxT
              replace HyN := Lib.hid sp_HyN
              clear sp_HyN
              replace HyT := Lib.hid sp_HyT
              clear sp_HyT
              have ht := Touch.set ((D5.setCell ⟨bY, 0, none⟩ (.int .u8 e1.v)).setCell ⟨bY, 1, none⟩ (.int .u8 e1.k)) bY 2 (.slice Ay e1.ns.length cy)
              have hf := HFy.out.set bY 2 (.slice Ay e1.ns.length cy)
              have sp_HxN := HxN.out.boxT HKy.out (by decide) 2 (.slice Ay e1.ns.length cy)
              have sp_HxT := HxT.out.boxT HKy.out (by decide) 2 (.slice Ay e1.ns.length cy)
              have sp_HyN := HyN.out.boxT HKy.out (by decide) 2 (.slice Ay e1.ns.length cy)
              have sp_HyT := HyT.out.boxT HKy.out (by decide) 2 (.slice Ay e1.ns.length cy)
              replace HKy := hh (HKy.out.set 2 (.slice Ay e1.ns.length cy))
              have hord := HORD.out
              replace HP4 := hh (HP4.out.touch ht (by omega))
              replace HP5 := hh (HP5.out.touch ht (by omega))
              replace HB := hh (Touch.step HB.out ht (by omega))
              replace HG := hh (Touch.step HG.out ht (by omega))
              replace HPx := hh (HPx.out.touch ht (by omega))
              replace HFx := hh (HFx.out.touch ht (by omega))
              replace HKx := hh (HKx.out.touch ht (by omega))
              clear hord
              replace HFy := Lib.hid hf
              clear ht hf
              replace HxN := Lib.hid sp_HxN
              clear sp_HxN
              replace HxT := Lib.hid sp_HxT
              clear sp_HxT
              replace HyN := Lib.hid sp_HyN
              clear sp_HyN
              replace HyT := Lib.hid sp_HyT
              clear sp_HyT
              have ht := Touch.set (((D5.setCell ⟨bY, 0, none⟩ (.int .u8 e1.v)).setCell ⟨bY, 1, none⟩ (.int .u8 e1.k)).setCell ⟨bY, 2, none⟩ (.slice Ay e1.ns.length cy)) bY 3 (.slice By e1.ts.length dy)
              have hf := HFy.out.set bY 3 (.slice By e1.ts.length dy)
              have sp_HxN := HxN.out.boxT HKy.out (by decide) 3 (.slice By e1.ts.length dy)
              have sp_HxT := HxT.out.boxT HKy.out (by decide) 3 (.slice By e1.ts.length dy)
              have sp_HyN := HyN.out.boxT HKy.out (by decide) 3 (.slice By e1.ts.length dy)
              have sp_HyT := HyT.out.boxT HKy.out (by decide) 3 (.slice By e1.ts.length dy)
              replace HKy := hh (HKy.out.set 3 (.slice By e1.ts.length dy))
              have hord := HORD.out
              replace HP4 := hh (HP4.out.touch ht (by omega))
              replace HP5 := hh (HP5.out.touch ht (by omega))
              replace HB := hh (Touch.step HB.out ht (by omega))
              replace HG := hh (Touch.step HG.out ht (by omega))
              replace HPx := hh (HPx.out.touch ht (by omega))
              replace HFx := hh (HFx.out.touch ht (by omega))
              replace HKx := hh (HKx.out.touch ht (by omega))
              clear hord
              replace HFy := Lib.hid hf
              clear ht hf
              replace HxN := Lib.hid sp_HxN
              clear sp_HxN
              replace HxT := Lib.hid sp_HxT
              clear sp_HxT
              replace HyN := Lib.hid sp_HyN
              clear sp_HyN
              replace HyT := Lib.hid sp_HyT
              clear sp_HyT
              have hs : D5.heap.size ≤ ((((D5.setCell ⟨bY, 0, none⟩ (.int .u8 e1.v)).setCell ⟨bY, 1, none⟩ (.int .u8 e1.k)).setCell ⟨bY, 2, none⟩ (.slice Ay e1.ns.length cy)).setCell ⟨bY, 3, none⟩ (.slice By e1.ts.length dy)).heap.size := by simp
              replace HORD := hh (And.intro HORD.out hs)
              replace HPy := Lib.hid hp
              clear hp hs
              refine hK.out _ _ (HKS.out _ HG.out) (fun hHeld => ?_)
              clear hK K
              generalize ((((D5.setCell ⟨bY, 0, none⟩ (.int .u8 e1.v)).setCell ⟨bY, 1, none⟩ (.int .u8 e1.k)).setCell ⟨bY, 2, none⟩ (.slice Ay e1.ns.length cy)).setCell ⟨bY, 3, none⟩ (.slice By e1.ts.length dy)) = D6 at HP4 HP5 HB HG HxN HxT HyN HyT HPy HFy HKy HPx HFx HKx HORD hHeld ⊢
              try simp only [Act.put, List.setIfInBounds_toArray, List.set_cons_zero, List.set_cons_succ]
              refine wpAnyH_done (by kernel_rfl) ?_ _
              go_wp2_with fail
              go_meet
              exact ⟨bx, bY, Ax, cx, Bx, dx, Ay, cy, By, dy, rfl, rfl, Lib.hid ⟨HPx.out, HPy.out, ev_of HY0.out.v HY0.out.k HY0.out.fit HY0.out.txt HxN.out HxT.out, ev_of HY1.out.v HY1.out.k HY1.out.fit HY1.out.txt HyN.out HyT.out, HG.out⟩⟩
         case br4_4 =>
          have hb := (Below.refl D1.heap.size D1).alloc (Nat.le_refl _) (.cells #[.int .u8 0, .int .u8 0, .slice none 0 0, .slice none 0 0] 44)
          have hs : D1.heap.size + 1 ≤ (D1.alloc (.cells #[.int .u8 0, .int .u8 0, .slice none 0 0, .slice none 0 0] 44)).heap.size := by simp
          replace HP4 := hh (HP4.out.below hb)
          replace HP5 := hh (HP5.out.below hb)
          replace HB := hh (below_step HB.out hb)
          replace HG := hh (below_step HG.out hb)
          replace HxN := hh (HxN.out.below hb)
          replace HxT := hh (HxT.out.below hb)
          replace HORD := hh (And.intro HORD.out hs)
          have HPx := hh (show Four _ D1.heap.size _ _ _ _ from box4 D1 (.int .u8 0) (.int .u8 0) (.slice none 0 0) (.slice none 0 0) 44)
          have HFx := hh (free_new D1 #[.int .u8 0, .int .u8 0, .slice none 0 0, .slice none 0 0] 44)
          have HKx := hh (boxT_new D1 #[.int .u8 0, .int .u8 0, .slice none 0 0, .slice none 0 0] 44)
          go_simp
          refine hK.out _ _ (HKS.out _ HG.out) (fun hHeld => ?_)
          clear hK K
          clear hb hs
          generalize hWs : D1.heap.size = bx at HP4 HP5 HB HG HxN HxT HPx HFx HKx HORD ⊢
          clear hWs
          generalize D1.alloc (.cells #[.int .u8 0, .int .u8 0, .slice none 0 0, .slice none 0 0] 44) = D2 at HP4 HP5 HB HG HxN HxT HPx HFx HKx HORD hHeld ⊢
          try simp only [Act.put, List.setIfInBounds_toArray, List.set_cons_zero, List.set_cons_succ]
          refine wpAnyH_ready (rs := [3, 5]) (by kernel_rfl) (by simp) ?_
          refine (AllReadyH.cons (o := { dst := some 24, op := Go.Op.call { callee := Go.Callee.value (Go.Operand.func 24), args := #[Go.Operand.tmp 23], argTypes := #[44] }, type := 44, pos := "law.go:78", after := #[{ on := 2, ground := Go.Ground.data }, { on := 1, ground := Go.Ground.chain }], guard := none }) rfl (fun K hK => ?br12_3) (AllReadyH.cons (o := { dst := some 8, op := Go.Op.alloc 44, type := 0, pos := "law.go:78", after := #[], guard := none }) rfl (fun K hK => ?br12_5) AllReadyH.nil))
          case br12_3 =>
           go_simp
           go_at_call 24
           refine (own_x A1 c1 B1 g1 e1 (by have := HL1.out; omega) (by have := HL1.out; omega) _ (HY1.out.below HB.out)).mono ?_; rintro z D3 ⟨Ay, cy, By, dy, my, rfl, hm1, hm2, hn, ht, hb⟩
           simp only [evV]
           replace HP4 := hh (HP4.out.below hb)
           replace HP5 := hh (HP5.out.below hb)
           replace HB := hh (below_step HB.out hb)
           replace HG := hh (below_step HG.out hb)
           replace HxN := hh (HxN.out.below hb)
           replace HxT := hh (HxT.out.below hb)
           replace HPx := hh (HPx.out.below hb)
           replace HFx := hh (HFx.out.below hb)
           replace HKx := hh (HKx.out.below hb)
           replace HORD := hh (And.intro HORD.out (And.intro hm1 (And.intro hm2 hb.size)))
           have HyN := Lib.hid hn
           have HyT := Lib.hid ht
           clear hn ht hm1 hm2 hb
           refine hK.out _ _ (HKS.out _ HG.out) (fun hHeld => ?_)
           clear hK K
           try simp only [Act.put, List.setIfInBounds_toArray, List.set_cons_zero, List.set_cons_succ]
           refine wpAnyH_ready (rs := [5]) (by kernel_rfl) (by simp) ?_
           refine (AllReadyH.cons (o := { dst := some 8, op := Go.Op.alloc 44, type := 0, pos := "law.go:78", after := #[], guard := none }) rfl (fun K hK => ?br13_5) AllReadyH.nil)
           case br13_5 =>
            have hb := (Below.refl D3.heap.size D3).alloc (Nat.le_refl _) (.cells #[.int .u8 0, .int .u8 0, .slice none 0 0, .slice none 0 0] 44)
            have hs : D3.heap.size + 1 ≤ (D3.alloc (.cells #[.int .u8 0, .int .u8 0, .slice none 0 0, .slice none 0 0] 44)).heap.size := by simp
            replace HP4 := hh (HP4.out.below hb)
            replace HP5 := hh (HP5.out.below hb)
            replace HB := hh (below_step HB.out hb)
            replace HG := hh (below_step HG.out hb)
            replace HxN := hh (HxN.out.below hb)
            replace HxT := hh (HxT.out.below hb)
            replace HPx := hh (HPx.out.below hb)
            replace HFx := hh (HFx.out.below hb)
            replace HKx := hh (HKx.out.below hb)
            replace HyN := hh (HyN.out.below hb)
            replace HyT := hh (HyT.out.below hb)
            replace HORD := hh (And.intro HORD.out hs)
            have HPy := hh (show Four _ D3.heap.size _ _ _ _ from box4 D3 (.int .u8 0) (.int .u8 0) (.slice none 0 0) (.slice none 0 0) 44)
            have HFy := hh (free_new D3 #[.int .u8 0, .int .u8 0, .slice none 0 0, .slice none 0 0] 44)
            have HKy := hh (boxT_new D3 #[.int .u8 0, .int .u8 0, .slice none 0 0, .slice none 0 0] 44)
            go_simp
            refine hK.out _ _ (HKS.out _ HG.out) (fun hHeld => ?_)
            clear hK K
            clear hb hs
            generalize hWs : D3.heap.size = bY at HP4 HP5 HB HG HxN HxT HPx HFx HKx HyN HyT HPy HFy HKy HORD ⊢
            clear hWs
            generalize D3.alloc (.cells #[.int .u8 0, .int .u8 0, .slice none 0 0, .slice none 0 0] 44) = D4 at HP4 HP5 HB HG HxN HxT HPx HFx HKx HyN HyT HPy HFy HKy HORD hHeld ⊢
            try simp only [Act.put, List.setIfInBounds_toArray, List.set_cons_zero, List.set_cons_succ]
            refine wpAnyH_ready (rs := [6]) (by kernel_rfl) (by simp) ?_
            refine (AllReadyH.cons (o := { dst := none, op := Go.Op.store 44 (Go.Operand.tmp 7) (Go.Operand.tmp 22), type := 0, pos := "law.go:78", after := #[{ on := 4, ground := Go.Ground.data }, { on := 1, ground := Go.Ground.data }, { on := 3, ground := Go.Ground.chain }, { on := 0, ground := Go.Ground.phase }, { on := 1, ground := Go.Ground.phase }, { on := 2, ground := Go.Ground.textOnly Go.Departure.lateStores }, { on := 3, ground := Go.Ground.textOnly Go.Departure.lateStoresUnsure }, { on := 4, ground := Go.Ground.phase }, { on := 5, ground := Go.Ground.phase }], guard := none }) rfl (fun K hK => ?br14_6) AllReadyH.nil)
            case br14_6 =>
             obtain ⟨hpx_0, hpx_1, hpx_2, hpx_3⟩ := HPx.out
             have f0 := HFx.out.2 0
             have f1 := HFx.out.2 1
             have f2 := HFx.out.2 2
             have f3 := HFx.out.2 3
             go_simp
             clear hpx_0 hpx_1 hpx_2 hpx_3
             clear f0 f1 f2 f3
             have hp := ((((HPx.out.set0 (.int .u8 e0.v)).set1 (.int .u8 e0.k)).set2 (.slice Ax e0.ns.length cx)).set3 (.slice Bx e0.ts.length dx))
             have ht := Touch.set D4 bx 0 (.int .u8 e0.v)
             have hf := HFx.out.set bx 0 (.int .u8 e0.v)
             have sp_HxN := HxN.out.boxT HKx.out (by decide) 0 (.int .u8 e0.v)
             have sp_HxT := HxT.out.boxT HKx.out (by decide) 0 (.int .u8 e0.v)
             have sp_HyN := HyN.out.boxT HKx.out (by decide) 0 (.int .u8 e0.v)
             have sp_HyT := HyT.out.boxT HKx.out (by decide) 0 (.int .u8 e0.v)
             replace HKx := hh (HKx.out.set 0 (.int .u8 e0.v))
             have hord := HORD.out
             replace HP4 := hh (HP4.out.touch ht (by omega))
             replace HP5 := hh (HP5.out.touch ht (by omega))
             replace HB := hh (Touch.step HB.out ht (by omega))
             replace HG := hh (Touch.step HG.out ht (by omega))
             replace HPy := hh (HPy.out.touch ht (by omega))
             replace HFy := hh (HFy.out.touch ht (by omega))
             replace HKy := hh (HKy.out.touch ht (by omega))
             clear hord
             replace HFx := Lib.hid hf
             clear ht hf
             replace HxN := Lib.hid sp_HxN
             clear sp_HxN
             replace HxT := Lib.hid sp_HxT
             clear sp_HxT
             replace HyN := Lib.hid sp_HyN
             clear sp_HyN
             replace HyT := Lib.hid sp_HyT
             clear sp_HyT
             have ht := Touch.set (D4.setCell ⟨bx, 0, none⟩ (.int .u8 e0.v)) bx 1 (.int .u8 e0.k)
             have hf := HFx.out.set bx 1 (.int .u8 e0.k)
             have sp_HxN := HxN.out.boxT HKx.out (by decide) 1 (.int .u8 e0.k)
             have sp_HxT := HxT.out.boxT HKx.out (by decide) 1 (.int .u8 e0.k)
             have sp_HyN := HyN.out.boxT HKx.out (by decide) 1 (.int .u8 e0.k)
             have sp_HyT := HyT.out.boxT HKx.out (by decide) 1 (.int .u8 e0.k)
             replace HKx := hh (HKx.out.set 1 (.int .u8 e0.k))
             have hord := HORD.out
             replace HP4 := hh (HP4.out.touch ht (by omega))
             replace HP5 := hh (HP5.out.touch ht (by omega))
             replace HB := hh (Touch.step HB.out ht (by omega))
             replace HG := hh (Touch.step HG.out ht (by omega))
             replace HPy := hh (HPy.out.touch ht (by omega))
             replace HFy := hh (HFy.out.touch ht (by omega))
             replace HKy := hh (HKy.out.touch ht (by omega))
             clear hord
             replace HFx := Lib.hid hf
             clear ht hf
             replace HxN := Lib.hid sp_HxN
             clear sp_HxN
             replace HxT := Lib.hid sp_HxT
             clear sp_HxT
             replace HyN := Lib.hid sp_HyN
             clear sp_HyN
             replace HyT := Lib.hid sp_HyT
             clear sp_HyT
             have ht := Touch.set ((D4.setCell ⟨bx, 0, none⟩ (.int .u8 e0.v)).setCell ⟨bx, 1, none⟩ (.int .u8 e0.k)) bx 2 (.slice Ax e0.ns.length cx)
             have hf := HFx.out.set bx 2 (.slice Ax e0.ns.length cx)
             have sp_HxN := HxN.out.boxT HKx.out (by decide) 2 (.slice Ax e0.ns.length cx)
             have sp_HxT := HxT.out.boxT HKx.out (by decide) 2 (.slice Ax e0.ns.length cx)
             have sp_HyN := HyN.out.boxT HKx.out (by decide) 2 (.slice Ax e0.ns.length cx)
             have sp_HyT := HyT.out.boxT HKx.out (by decide) 2 (.slice Ax e0.ns.length cx)
             replace HKx := hh (HKx.out.set 2 (.slice Ax e0.ns.length cx))
             have hord := HORD.out
             replace HP4 := hh (HP4.out.touch ht (by omega))
             replace HP5 := hh (HP5.out.touch ht (by omega))
             replace HB := hh (Touch.step HB.out ht (by omega))
             replace HG := hh (Touch.step HG.out ht (by omega))
             replace HPy := hh (HPy.out.touch ht (by omega))
             replace HFy := hh (HFy.out.touch ht (by omega))
             replace HKy := hh (HKy.out.touch ht (by omega))
             clear hord
             replace HFx := Lib.hid hf
             clear ht hf
             replace HxN := Lib.hid sp_HxN
             clear sp_HxN
             replace HxT := Lib.hid sp_HxT
             clear sp_HxT
             replace HyN := Lib.hid sp_HyN
             clear sp_HyN
             replace HyT := Lib.hid sp_HyT
             clear sp_HyT
             have ht := Touch.set (((D4.setCell ⟨bx, 0, none⟩ (.int .u8 e0.v)).setCell ⟨bx, 1, none⟩ (.int .u8 e0.k)).setCell ⟨bx, 2, none⟩ (.slice Ax e0.ns.length cx)) bx 3 (.slice Bx e0.ts.length dx)
             have hf := HFx.out.set bx 3 (.slice Bx e0.ts.length dx)
             have sp_HxN := HxN.out.boxT HKx.out (by decide) 3 (.slice Bx e0.ts.length dx)
             have sp_HxT := HxT.out.boxT HKx.out (by decide) 3 (.slice Bx e0.ts.length dx)
             have sp_HyN := HyN.out.boxT HKx.out (by decide) 3 (.slice Bx e0.ts.length dx)
             have sp_HyT := HyT.out.boxT HKx.out (by decide) 3 (.slice Bx e0.ts.length dx)
             replace HKx := hh (HKx.out.set 3 (.slice Bx e0.ts.length dx))
             have hord := HORD.out
             replace HP4 := hh (HP4.out.touch ht (by omega))
             replace HP5 := hh (HP5.out.touch ht (by omega))
             replace HB := hh (Touch.step HB.out ht (by omega))
             replace HG := hh (Touch.step HG.out ht (by omega))
             replace HPy := hh (HPy.out.touch ht (by omega))
             replace HFy := hh (HFy.out.touch ht (by omega))
             replace HKy := hh (HKy.out.touch ht (by omega))
             clear hord
             replace HFx := Lib.hid hf
             clear ht hf
             replace HxN := Lib.hid sp_HxN
             clear sp_HxN
             replace HxT := Lib.hid sp_HxT
             clear sp_HxT
             replace HyN := Lib.hid sp_HyN
             clear sp_HyN
             replace HyT := Lib.hid sp_HyT
             clear sp_HyT
             have hs : D4.heap.size ≤ ((((D4.setCell ⟨bx, 0, none⟩ (.int .u8 e0.v)).setCell ⟨bx, 1, none⟩ (.int .u8 e0.k)).setCell ⟨bx, 2, none⟩ (.slice Ax e0.ns.length cx)).setCell ⟨bx, 3, none⟩ (.slice Bx e0.ts.length dx)).heap.size := by simp
             replace HORD := hh (And.intro HORD.out hs)
             replace HPx := Lib.hid hp
             clear hp hs
             refine hK.out _ _ (HKS.out _ HG.out) (fun hHeld => ?_)
             clear hK K
             generalize ((((D4.setCell ⟨bx, 0, none⟩ (.int .u8 e0.v)).setCell ⟨bx, 1, none⟩ (.int .u8 e0.k)).setCell ⟨bx, 2, none⟩ (.slice Ax e0.ns.length cx)).setCell ⟨bx, 3, none⟩ (.slice Bx e0.ts.length dx)) = D5 at HP4 HP5 HB HG HxN HxT HPx HFx HKx HyN HyT HPy HFy HKy HORD hHeld ⊢
             try simp only [Act.put, List.setIfInBounds_toArray, List.set_cons_zero, List.set_cons_succ]
             refine wpAnyH_ready (rs := [7]) (by kernel_rfl) (by simp) ?_
             refine (AllReadyH.cons (o := { dst := none, op := Go.Op.store 44 (Go.Operand.tmp 8) (Go.Operand.tmp 24), type := 0, pos := "law.go:78", after := #[{ on := 5, ground := Go.Ground.data }, { on := 3, ground := Go.Ground.data }, { on := 6, ground := Go.Ground.chain }, { on := 0, ground := Go.Ground.phase }, { on := 1, ground := Go.Ground.phase }, { on := 2, ground := Go.Ground.phase }, { on := 3, ground := Go.Ground.phase }, { on := 4, ground := Go.Ground.phase }, { on := 5, ground := Go.Ground.phase }, { on := 6, ground := Go.Ground.phase }], guard := none }) rfl (fun K hK => ?br15_7) AllReadyH.nil)
             case br15_7 =>
              obtain ⟨hpy_0, hpy_1, hpy_2, hpy_3⟩ := HPy.out
              have f0 := HFy.out.2 0
              have f1 := HFy.out.2 1
              have f2 := HFy.out.2 2
              have f3 := HFy.out.2 3
              go_simp
              clear hpy_0 hpy_1 hpy_2 hpy_3
              clear f0 f1 f2 f3
              have hp := ((((HPy.out.set0 (.int .u8 e1.v)).set1 (.int .u8 e1.k)).set2 (.slice Ay e1.ns.length cy)).set3 (.slice By e1.ts.length dy))
              have ht := Touch.set D5 bY 0 (.int .u8 e1.v)
              have hf := HFy.out.set bY 0 (.int .u8 e1.v)
              have sp_HxN := HxN.out.boxT HKy.out (by decide) 0 (.int .u8 e1.v)
              have sp_HxT := HxT.out.boxT HKy.out (by decide) 0 (.int .u8 e1.v)
              have sp_HyN := HyN.out.boxT HKy.out (by decide) 0 (.int .u8 e1.v)
              have sp_HyT := HyT.out.boxT HKy.out (by decide) 0 (.int .u8 e1.v)
              replace HKy := hh (HKy.out.set 0 (.int .u8 e1.v))
              have hord := HORD.out
              replace HP4 := hh (HP4.out.touch ht (by omega))
              replace HP5 := hh (HP5.out.touch ht (by omega))
              replace HB := hh (Touch.step HB.out ht (by omega))
              replace HG := hh (Touch.step HG.out ht (by omega))
              replace HPx := hh (HPx.out.touch ht (by omega))
              replace HFx := hh (HFx.out.touch ht (by omega))
              replace HKx := hh (HKx.out.touch ht (by omega))
              clear hord
              replace HFy := Lib.hid hf
              clear ht hf
              replace HxN := Lib.hid sp_HxN
              clear sp_HxN
              replace HxT := Lib.hid sp_HxT
              clear sp_HxT
              replace HyN := Lib.hid sp_HyN
              clear sp_HyN
              replace HyT := Lib.hid sp_HyT
              clear sp_HyT
              have ht := Touch.set (D5.setCell ⟨bY, 0, none⟩ (.int .u8 e1.v)) bY 1 (.int .u8 e1.k)
              have hf := HFy.out.set bY 1 (.int .u8 e1.k)
              have sp_HxN := HxN.out.boxT HKy.out (by decide) 1 (.int .u8 e1.k)
              have sp_HxT := HxT.out.boxT HKy.out (by decide) 1 (.int .u8 e1.k)
              have sp_HyN := HyN.out.boxT HKy.out (by decide) 1 (.int .u8 e1.k)
              have sp_HyT := HyT.out.boxT HKy.out (by decide) 1 (.int .u8 e1.k)
              replace HKy := hh (HKy.out.set 1 (.int .u8 e1.k))
              have hord := HORD.out
              replace HP4 := hh (HP4.out.touch ht (by omega))
              replace HP5 := hh (HP5.out.touch ht (by omega))
              replace HB := hh (Touch.step HB.out ht (by omega))
              replace HG := hh (Touch.step HG.out ht (by omega))
              replace HPx := hh (HPx.out.touch ht (by omega))
              replace HFx := hh (HFx.out.touch ht (by omega))
              replace HKx := hh (HKx.out.touch ht (by omega))
              clear hord
              replace HFy := Lib.hid hf
              clear ht hf
              replace HxN := Lib.hid sp_HxN
              clear sp_HxN
              replace HxT := Lib.hid sp_HxT
              clear sp_HxT
              replace HyN := Lib.hid sp_HyN
              clear sp_HyN
              replace HyT := Lib.hid sp_HyT
              clear sp_HyT
              have ht := Touch.set ((D5.setCell ⟨bY, 0, none⟩ (.int .u8 e1.v)).setCell ⟨bY, 1, none⟩ (.int .u8 e1.k)) bY 2 (.slice Ay e1.ns.length cy)
              have hf := HFy.out.set bY 2 (.slice Ay e1.ns.length cy)
              have sp_HxN := HxN.out.boxT HKy.out (by decide) 2 (.slice Ay e1.ns.length cy)
              have sp_HxT := HxT.out.boxT HKy.out (by decide) 2 (.slice Ay e1.ns.length cy)
              have sp_HyN := HyN.out.boxT HKy.out (by decide) 2 (.slice Ay e1.ns.length cy)
              have sp_HyT := HyT.out.boxT HKy.out (by decide) 2 (.slice Ay e1.ns.length cy)
              replace HKy := hh (HKy.out.set 2 (.slice Ay e1.ns.length cy))
              have hord := HORD.out
              replace HP4 := hh (HP4.out.touch ht (by omega))
              replace HP5 := hh (HP5.out.touch ht (by omega))
              replace HB := hh (Touch.step HB.out ht (by omega))
              replace HG := hh (Touch.step HG.out ht (by omega))
              replace HPx := hh (HPx.out.touch ht (by omega))
              replace HFx := hh (HFx.out.touch ht (by omega))
              replace HKx := hh (HKx.out.touch ht (by omega))
              clear hord
              replace HFy := Lib.hid hf
              clear ht hf
              replace HxN := Lib.hid sp_HxN
              clear sp_HxN
              replace HxT := Lib.hid sp_HxT
              clear sp_HxT
              replace HyN := Lib.hid sp_HyN
              clear sp_HyN
              replace HyT := Lib.hid sp_HyT
              clear sp_HyT
              have ht := Touch.set (((D5.setCell ⟨bY, 0, none⟩ (.int .u8 e1.v)).setCell ⟨bY, 1, none⟩ (.int .u8 e1.k)).setCell ⟨bY, 2, none⟩ (.slice Ay e1.ns.length cy)) bY 3 (.slice By e1.ts.length dy)
              have hf := HFy.out.set bY 3 (.slice By e1.ts.length dy)
              have sp_HxN := HxN.out.boxT HKy.out (by decide) 3 (.slice By e1.ts.length dy)
              have sp_HxT := HxT.out.boxT HKy.out (by decide) 3 (.slice By e1.ts.length dy)
              have sp_HyN := HyN.out.boxT HKy.out (by decide) 3 (.slice By e1.ts.length dy)
              have sp_HyT := HyT.out.boxT HKy.out (by decide) 3 (.slice By e1.ts.length dy)
              replace HKy := hh (HKy.out.set 3 (.slice By e1.ts.length dy))
              have hord := HORD.out
              replace HP4 := hh (HP4.out.touch ht (by omega))
              replace HP5 := hh (HP5.out.touch ht (by omega))
              replace HB := hh (Touch.step HB.out ht (by omega))
              replace HG := hh (Touch.step HG.out ht (by omega))
              replace HPx := hh (HPx.out.touch ht (by omega))
              replace HFx := hh (HFx.out.touch ht (by omega))
              replace HKx := hh (HKx.out.touch ht (by omega))
              clear hord
              replace HFy := Lib.hid hf
              clear ht hf
              replace HxN := Lib.hid sp_HxN
              clear sp_HxN
              replace HxT := Lib.hid sp_HxT
              clear sp_HxT
              replace HyN := Lib.hid sp_HyN
              clear sp_HyN
              replace HyT := Lib.hid sp_HyT
              clear sp_HyT
              have hs : D5.heap.size ≤ ((((D5.setCell ⟨bY, 0, none⟩ (.int .u8 e1.v)).setCell ⟨bY, 1, none⟩ (.int .u8 e1.k)).setCell ⟨bY, 2, none⟩ (.slice Ay e1.ns.length cy)).setCell ⟨bY, 3, none⟩ (.slice By e1.ts.length dy)).heap.size := by simp
              replace HORD := hh (And.intro HORD.out hs)
              replace HPy := Lib.hid hp
              clear hp hs
              refine hK.out _ _ (HKS.out _ HG.out) (fun hHeld => ?_)
              clear hK K
              generalize ((((D5.setCell ⟨bY, 0, none⟩ (.int .u8 e1.v)).setCell ⟨bY, 1, none⟩ (.int .u8 e1.k)).setCell ⟨bY, 2, none⟩ (.slice Ay e1.ns.length cy)).setCell ⟨bY, 3, none⟩ (.slice By e1.ts.length dy)) = D6 at HP4 HP5 HB HG HxN HxT HPx HFx HKx HyN HyT HPy HFy HKy HORD hHeld ⊢
              try simp only [Act.put, List.setIfInBounds_toArray, List.set_cons_zero, List.set_cons_succ]
              refine wpAnyH_done (by kernel_rfl) ?_ _
              go_wp2_with fail
              go_meet
              exact ⟨bx, bY, Ax, cx, Bx, dx, Ay, cy, By, dy, rfl, rfl, Lib.hid ⟨HPx.out, HPy.out, ev_of HY0.out.v HY0.out.k HY0.out.fit HY0.out.txt HxN.out HxT.out, ev_of HY1.out.v HY1.out.k HY1.out.fit HY1.out.txt HyN.out HyT.out, HG.out⟩⟩
          case br12_5 =>
           have hb := (Below.refl D2.heap.size D2).alloc (Nat.le_refl _) (.cells #[.int .u8 0, .int .u8 0, .slice none 0 0, .slice none 0 0] 44)
           have hs : D2.heap.size + 1 ≤ (D2.alloc (.cells #[.int .u8 0, .int .u8 0, .slice none 0 0, .slice none 0 0] 44)).heap.size := by simp
           replace HP4 := hh (HP4.out.below hb)
           replace HP5 := hh (HP5.out.below hb)
           replace HB := hh (below_step HB.out hb)
           replace HG := hh (below_step HG.out hb)
           replace HxN := hh (HxN.out.below hb)
           replace HxT := hh (HxT.out.below hb)
           replace HPx := hh (HPx.out.below hb)
           replace HFx := hh (HFx.out.below hb)
           replace HKx := hh (HKx.out.below hb)
           replace HORD := hh (And.intro HORD.out hs)
           have HPy := hh (show Four _ D2.heap.size _ _ _ _ from box4 D2 (.int .u8 0) (.int .u8 0) (.slice none 0 0) (.slice none 0 0) 44)
           have HFy := hh (free_new D2 #[.int .u8 0, .int .u8 0, .slice none 0 0, .slice none 0 0] 44)
           have HKy := hh (boxT_new D2 #[.int .u8 0, .int .u8 0, .slice none 0 0, .slice none 0 0] 44)
           go_simp
           refine hK.out _ _ (HKS.out _ HG.out) (fun hHeld => ?_)
           clear hK K
           clear hb hs
           generalize hWs : D2.heap.size = bY at HP4 HP5 HB HG HxN HxT HPx HFx HKx HPy HFy HKy HORD ⊢
           clear hWs
           generalize D2.alloc (.cells #[.int .u8 0, .int .u8 0, .slice none 0 0, .slice none 0 0] 44) = D3 at HP4 HP5 HB HG HxN HxT HPx HFx HKx HPy HFy HKy HORD hHeld ⊢
           try simp only [Act.put, List.setIfInBounds_toArray, List.set_cons_zero, List.set_cons_succ]
           refine wpAnyH_ready (rs := [3]) (by kernel_rfl) (by simp) ?_
           refine (AllReadyH.cons (o := { dst := some 24, op := Go.Op.call { callee := Go.Callee.value (Go.Operand.func 24), args := #[Go.Operand.tmp 23], argTypes := #[44] }, type := 44, pos := "law.go:78", after := #[{ on := 2, ground := Go.Ground.data }, { on := 1, ground := Go.Ground.chain }], guard := none }) rfl (fun K hK => ?br16_3) AllReadyH.nil)
           case br16_3 =>
            go_simp
            go_at_call 24
            refine (own_x A1 c1 B1 g1 e1 (by have := HL1.out; omega) (by have := HL1.out; omega) _ (HY1.out.below HB.out)).mono ?_; rintro z D4 ⟨Ay, cy, By, dy, my, rfl, hm1, hm2, hn, ht, hb⟩
            simp only [evV]
            replace HP4 := hh (HP4.out.below hb)
            replace HP5 := hh (HP5.out.below hb)
            replace HB := hh (below_step HB.out hb)
            replace HG := hh (below_step HG.out hb)
            replace HxN := hh (HxN.out.below hb)
            replace HxT := hh (HxT.out.below hb)
            replace HPx := hh (HPx.out.below hb)
            replace HFx := hh (HFx.out.below hb)
            replace HKx := hh (HKx.out.below hb)
            replace HPy := hh (HPy.out.below hb)
            replace HFy := hh (HFy.out.below hb)
            replace HKy := hh (HKy.out.below hb)
            replace HORD := hh (And.intro HORD.out (And.intro hm1 (And.intro hm2 hb.size)))
            have HyN := Lib.hid hn
            have HyT := Lib.hid ht
            clear hn ht hm1 hm2 hb
            refine hK.out _ _ (HKS.out _ HG.out) (fun hHeld => ?_)
            clear hK K
            try simp only [Act.put, List.setIfInBounds_toArray, List.set_cons_zero, List.set_cons_succ]
            refine wpAnyH_ready (rs := [6]) (by kernel_rfl) (by simp) ?_
            refine (AllReadyH.cons (o := { dst := none, op := Go.Op.store 44 (Go.Operand.tmp 7) (Go.Operand.tmp 22), type := 0, pos := "law.go:78", after := #[{ on := 4, ground := Go.Ground.data }, { on := 1, ground := Go.Ground.data }, { on := 3, ground := Go.Ground.chain }, { on := 0, ground := Go.Ground.phase }, { on := 1, ground := Go.Ground.phase }, { on := 2, ground := Go.Ground.textOnly Go.Departure.lateStores }, { on := 3, ground := Go.Ground.textOnly Go.Departure.lateStoresUnsure }, { on := 4, ground := Go.Ground.phase }, { on := 5, ground := Go.Ground.phase }], guard := none }) rfl (fun K hK => ?br17_6) AllReadyH.nil)
            case br17_6 =>
             obtain ⟨hpx_0, hpx_1, hpx_2, hpx_3⟩ := HPx.out
             have f0 := HFx.out.2 0
             have f1 := HFx.out.2 1
             have f2 := HFx.out.2 2
             have f3 := HFx.out.2 3
             go_simp
             clear hpx_0 hpx_1 hpx_2 hpx_3
             clear f0 f1 f2 f3
             have hp := ((((HPx.out.set0 (.int .u8 e0.v)).set1 (.int .u8 e0.k)).set2 (.slice Ax e0.ns.length cx)).set3 (.slice Bx e0.ts.length dx))
             have ht := Touch.set D4 bx 0 (.int .u8 e0.v)
             have hf := HFx.out.set bx 0 (.int .u8 e0.v)
             have sp_HxN := HxN.out.boxT HKx.out (by decide) 0 (.int .u8 e0.v)
             have sp_HxT := HxT.out.boxT HKx.out (by decide) 0 (.int .u8 e0.v)
             have sp_HyN := HyN.out.boxT HKx.out (by decide) 0 (.int .u8 e0.v)
             have sp_HyT := HyT.out.boxT HKx.out (by decide) 0 (.int .u8 e0.v)
             replace HKx := hh (HKx.out.set 0 (.int .u8 e0.v))
             have hord := HORD.out
             replace HP4 := hh (HP4.out.touch ht (by omega))
             replace HP5 := hh (HP5.out.touch ht (by omega))
             replace HB := hh (Touch.step HB.out ht (by omega))
             replace HG := hh (Touch.step HG.out ht (by omega))
             replace HPy := hh (HPy.out.touch ht (by omega))
             replace HFy := hh (HFy.out.touch ht (by omega))
             replace HKy := hh (HKy.out.touch ht (by omega))
             clear hord
             replace HFx := Lib.hid hf
             clear ht hf
             replace HxN := Lib.hid sp_HxN
             clear sp_HxN
             replace HxT := Lib.hid sp_HxT
             clear sp_HxT
             replace HyN := Lib.hid sp_HyN
             clear sp_HyN
             replace HyT := Lib.hid sp_HyT
             clear sp_HyT
             have ht := Touch.set (D4.setCell ⟨bx, 0, none⟩ (.int .u8 e0.v)) bx 1 (.int .u8 e0.k)
             have hf := HFx.out.set bx 1 (.int .u8 e0.k)
             have sp_HxN := HxN.out.boxT HKx.out (by decide) 1 (.int .u8 e0.k)
             have sp_HxT := HxT.out.boxT HKx.out (by decide) 1 (.int .u8 e0.k)
             have sp_HyN := HyN.out.boxT HKx.out (by decide) 1 (.int .u8 e0.k)
             have sp_HyT := HyT.out.boxT HKx.out (by decide) 1 (.int .u8 e0.k)
             replace HKx := hh (HKx.out.set 1 (.int .u8 e0.k))
             have hord := HORD.out
             replace HP4 := hh (HP4.out.touch ht (by omega))
             replace HP5 := hh (HP5.out.touch ht (by omega))
             replace HB := hh (Touch.step HB.out ht (by omega))
             replace HG := hh (Touch.step HG.out ht (by omega))
             replace HPy := hh (HPy.out.touch ht (by omega))
             replace HFy := hh (HFy.out.touch ht (by omega))
             replace HKy := hh (HKy.out.touch ht (by omega))
             clear hord
             replace HFx := Lib.hid hf
             clear ht hf
             replace HxN := Lib.hid sp_HxN
             clear sp_HxN
             replace HxT := Lib.hid sp_HxT
             clear sp_HxT
             replace HyN := Lib.hid sp_HyN
             clear sp_HyN
             replace HyT := Lib.hid sp_HyT
             clear sp_HyT
             have ht := Touch.set ((D4.setCell ⟨bx, 0, none⟩ (.int .u8 e0.v)).setCell ⟨bx, 1, none⟩ (.int .u8 e0.k)) bx 2 (.slice Ax e0.ns.length cx)
             have hf := HFx.out.set bx 2 (.slice Ax e0.ns.length cx)
             have sp_HxN := HxN.out.boxT HKx.out (by decide) 2 (.slice Ax e0.ns.length cx)
             have sp_HxT := HxT.out.boxT HKx.out (by decide) 2 (.slice Ax e0.ns.length cx)
             have sp_HyN := HyN.out.boxT HKx.out (by decide) 2 (.slice Ax e0.ns.length cx)
             have sp_HyT := HyT.out.boxT HKx.out (by decide) 2 (.slice Ax e0.ns.length cx)
             replace HKx := hh (HKx.out.set 2 (.slice Ax e0.ns.length cx))
             have hord := HORD.out
             replace HP4 := hh (HP4.out.touch ht (by omega))
             replace HP5 := hh (HP5.out.touch ht (by omega))
             replace HB := hh (Touch.step HB.out ht (by omega))
             replace HG := hh (Touch.step HG.out ht (by omega))
             replace HPy := hh (HPy.out.touch ht (by omega))
             replace HFy := hh (HFy.out.touch ht (by omega))
             replace HKy := hh (HKy.out.touch ht (by omega))
             clear hord
             replace HFx := Lib.hid hf
             clear ht hf
             replace HxN := Lib.hid sp_HxN
             clear sp_HxN
             replace HxT := Lib.hid sp_HxT
             clear sp_HxT
             replace HyN := Lib.hid sp_HyN
             clear sp_HyN
             replace HyT := Lib.hid sp_HyT
             clear sp_HyT
             have ht := Touch.set (((D4.setCell ⟨bx, 0, none⟩ (.int .u8 e0.v)).setCell ⟨bx, 1, none⟩ (.int .u8 e0.k)).setCell ⟨bx, 2, none⟩ (.slice Ax e0.ns.length cx)) bx 3 (.slice Bx e0.ts.length dx)
             have hf := HFx.out.set bx 3 (.slice Bx e0.ts.length dx)
             have sp_HxN := HxN.out.boxT HKx.out (by decide) 3 (.slice Bx e0.ts.length dx)
             have sp_HxT := HxT.out.boxT HKx.out (by decide) 3 (.slice Bx e0.ts.length dx)
             have sp_HyN := HyN.out.boxT HKx.out (by decide) 3 (.slice Bx e0.ts.length dx)
             have sp_HyT := HyT.out.boxT HKx.out (by decide) 3 (.slice Bx e0.ts.length dx)
             replace HKx := hh (HKx.out.set 3 (.slice Bx e0.ts.length dx))
             have hord := HORD.out
             replace HP4 := hh (HP4.out.touch ht (by omega))
             replace HP5 := hh (HP5.out.touch ht (by omega))
             replace HB := hh (Touch.step HB.out ht (by omega))
             replace HG := hh (Touch.step HG.out ht (by omega))
             replace HPy := hh (HPy.out.touch ht (by omega))
             replace HFy := hh (HFy.out.touch ht (by omega))
             replace HKy := hh (HKy.out.touch ht (by omega))
             clear hord
             replace HFx := Lib.hid hf
             clear ht hf
             replace HxN := Lib.hid sp_HxN
             clear sp_HxN
             replace HxT := Lib.hid sp_HxT
             clear sp_HxT
             replace HyN := Lib.hid sp_HyN
             clear sp_HyN
             replace HyT := Lib.hid sp_HyT
             clear sp_HyT
             have hs : D4.heap.size ≤ ((((D4.setCell ⟨bx, 0, none⟩ (.int .u8 e0.v)).setCell ⟨bx, 1, none⟩ (.int .u8 e0.k)).setCell ⟨bx, 2, none⟩ (.slice Ax e0.ns.length cx)).setCell ⟨bx, 3, none⟩ (.slice Bx e0.ts.length dx)).heap.size := by simp
             replace HORD := hh (And.intro HORD.out hs)
             replace HPx := Lib.hid hp
             clear hp hs
             refine hK.out _ _ (HKS.out _ HG.out) (fun hHeld => ?_)
             clear hK K
             generalize ((((D4.setCell ⟨bx, 0, none⟩ (.int .u8 e0.v)).setCell ⟨bx, 1, none⟩ (.int .u8 e0.k)).setCell ⟨bx, 2, none⟩ (.slice Ax e0.ns.length cx)).setCell ⟨bx, 3, none⟩ (.slice Bx e0.ts.length dx)) = D5 at HP4 HP5 HB HG HxN HxT HPx HFx HKx HPy HFy HKy HyN HyT HORD hHeld ⊢
             try simp only [Act.put, List.setIfInBounds_toArray, List.set_cons_zero, List.set_cons_succ]
             refine wpAnyH_ready (rs := [7]) (by kernel_rfl) (by simp) ?_
             refine (AllReadyH.cons (o := { dst := none, op := Go.Op.store 44 (Go.Operand.tmp 8) (Go.Operand.tmp 24), type := 0, pos := "law.go:78", after := #[{ on := 5, ground := Go.Ground.data }, { on := 3, ground := Go.Ground.data }, { on := 6, ground := Go.Ground.chain }, { on := 0, ground := Go.Ground.phase }, { on := 1, ground := Go.Ground.phase }, { on := 2, ground := Go.Ground.phase }, { on := 3, ground := Go.Ground.phase }, { on := 4, ground := Go.Ground.phase }, { on := 5, ground := Go.Ground.phase }, { on := 6, ground := Go.Ground.phase }], guard := none }) rfl (fun K hK => ?br18_7) AllReadyH.nil)
             case br18_7 =>
              obtain ⟨hpy_0, hpy_1, hpy_2, hpy_3⟩ := HPy.out
              have f0 := HFy.out.2 0
              have f1 := HFy.out.2 1
              have f2 := HFy.out.2 2
              have f3 := HFy.out.2 3
              go_simp
              clear hpy_0 hpy_1 hpy_2 hpy_3
              clear f0 f1 f2 f3
              have hp := ((((HPy.out.set0 (.int .u8 e1.v)).set1 (.int .u8 e1.k)).set2 (.slice Ay e1.ns.length cy)).set3 (.slice By e1.ts.length dy))
              have ht := Touch.set D5 bY 0 (.int .u8 e1.v)
              have hf := HFy.out.set bY 0 (.int .u8 e1.v)
              have sp_HxN := HxN.out.boxT HKy.out (by decide) 0 (.int .u8 e1.v)
              have sp_HxT := HxT.out.boxT HKy.out (by decide) 0 (.int .u8 e1.v)
              have sp_HyN := HyN.out.boxT HKy.out (by decide) 0 (.int .u8 e1.v)
              have sp_HyT := HyT.out.boxT HKy.out (by decide) 0 (.int .u8 e1.v)
              replace HKy := hh (HKy.out.set 0 (.int .u8 e1.v))
              have hord := HORD.out
              replace HP4 := hh (HP4.out.touch ht (by omega))
              replace HP5 := hh (HP5.out.touch ht (by omega))
              replace HB := hh (Touch.step HB.out ht (by omega))
              replace HG := hh (Touch.step HG.out ht (by omega))
              replace HPx := hh (HPx.out.touch ht (by omega))
              replace HFx := hh (HFx.out.touch ht (by omega))
              replace HKx := hh (HKx.out.touch ht (by omega))
              clear hord
              replace HFy := Lib.hid hf
              clear ht hf
              replace HxN := Lib.hid sp_HxN
              clear sp_HxN
              replace HxT := Lib.hid sp_HxT
              clear sp_HxT
              replace HyN := Lib.hid sp_HyN
              clear sp_HyN
              replace HyT := Lib.hid sp_HyT
              clear sp_HyT
              have ht := Touch.set (D5.setCell ⟨bY, 0, none⟩ (.int .u8 e1.v)) bY 1 (.int .u8 e1.k)
              have hf := HFy.out.set bY 1 (.int .u8 e1.k)
              have sp_HxN := HxN.out.boxT HKy.out (by decide) 1 (.int .u8 e1.k)
              have sp_HxT := HxT.out.boxT HKy.out (by decide) 1 (.int .u8 e1.k)
              have sp_HyN := HyN.out.boxT HKy.out (by decide) 1 (.int .u8 e1.k)
              have sp_HyT := HyT.out.boxT HKy.out (by decide) 1 (.int .u8 e1.k)
              replace HKy := hh (HKy.out.set 1 (.int .u8 e1.k))
              have hord := HORD.out
              replace HP4 := hh (HP4.out.touch ht (by omega))
              replace HP5 := hh (HP5.out.touch ht (by omega))
              replace HB := hh (Touch.step HB.out ht (by omega))
              replace HG := hh (Touch.step HG.out ht (by omega))
              replace HPx := hh (HPx.out.touch ht (by omega))
              replace HFx := hh (HFx.out.touch ht (by omega))
              replace HKx := hh (HKx.out.touch ht (by omega))
              clear hord
              replace HFy := Lib.hid hf
              clear ht hf
              replace HxN := Lib.hid sp_HxN
              clear sp_HxN
              replace HxT := Lib.hid sp_HxT
              clear sp_HxT
              replace HyN := Lib.hid sp_HyN
              clear sp_HyN
              replace HyT := Lib.hid sp_HyT
              clear sp_HyT
              have ht := Touch.set ((D5.setCell ⟨bY, 0, none⟩ (.int .u8 e1.v)).setCell ⟨bY, 1, none⟩ (.int .u8 e1.k)) bY 2 (.slice Ay e1.ns.length cy)
              have hf := HFy.out.set bY 2 (.slice Ay e1.ns.length cy)
              have sp_HxN := HxN.out.boxT HKy.out (by decide) 2 (.slice Ay e1.ns.length cy)
              have sp_HxT := HxT.out.boxT HKy.out (by decide) 2 (.slice Ay e1.ns.length cy)
              have sp_HyN := HyN.out.boxT HKy.out (by decide) 2 (.slice Ay e1.ns.length cy)
              have sp_HyT := HyT.out.boxT HKy.out (by decide) 2 (.slice Ay e1.ns.length cy)
              replace HKy := hh (HKy.out.set 2 (.slice Ay e1.ns.length cy))
              have hord := HORD.out
              replace HP4 := hh (HP4.out.touch ht (by omega))
              replace HP5 := hh (HP5.out.touch ht (by omega))
              replace HB := hh (Touch.step HB.out ht (by omega))
              replace HG := hh (Touch.step HG.out ht (by omega))
              replace HPx := hh (HPx.out.touch ht (by omega))
              replace HFx := hh (HFx.out.touch ht (by omega))
              replace HKx := hh (HKx.out.touch ht (by omega))
              clear hord
              replace HFy := Lib.hid hf
              clear ht hf
              replace HxN := Lib.hid sp_HxN
              clear sp_HxN
              replace HxT := Lib.hid sp_HxT
              clear sp_HxT
              replace HyN := Lib.hid sp_HyN
              clear sp_HyN
              replace HyT := Lib.hid sp_HyT
              clear sp_HyT
              have ht := Touch.set (((D5.setCell ⟨bY, 0, none⟩ (.int .u8 e1.v)).setCell ⟨bY, 1, none⟩ (.int .u8 e1.k)).setCell ⟨bY, 2, none⟩ (.slice Ay e1.ns.length cy)) bY 3 (.slice By e1.ts.length dy)
              have hf := HFy.out.set bY 3 (.slice By e1.ts.length dy)
              have sp_HxN := HxN.out.boxT HKy.out (by decide) 3 (.slice By e1.ts.length dy)
              have sp_HxT := HxT.out.boxT HKy.out (by decide) 3 (.slice By e1.ts.length dy)
              have sp_HyN := HyN.out.boxT HKy.out (by decide) 3 (.slice By e1.ts.length dy)
              have sp_HyT := HyT.out.boxT HKy.out (by decide) 3 (.slice By e1.ts.length dy)
              replace HKy := hh (HKy.out.set 3 (.slice By e1.ts.length dy))
              have hord := HORD.out
              replace HP4 := hh (HP4.out.touch ht (by omega))
              replace HP5 := hh (HP5.out.touch ht (by omega))
              replace HB := hh (Touch.step HB.out ht (by omega))
              replace HG := hh (Touch.step HG.out ht (by omega))
              replace HPx := hh (HPx.out.touch ht (by omega))
              replace HFx := hh (HFx.out.touch ht (by omega))
              replace HKx := hh (HKx.out.touch ht (by omega))
              clear hord
              replace HFy := Lib.hid hf
              clear ht hf
              replace HxN := Lib.hid sp_HxN
              clear sp_HxN
              replace HxT := Lib.hid sp_HxT
              clear sp_HxT
              replace HyN := Lib.hid sp_HyN
              clear sp_HyN
              replace HyT := Lib.hid sp_HyT
              clear sp_HyT
              have hs : D5.heap.size ≤ ((((D5.setCell ⟨bY, 0, none⟩ (.int .u8 e1.v)).setCell ⟨bY, 1, none⟩ (.int .u8 e1.k)).setCell ⟨bY, 2, none⟩ (.slice Ay e1.ns.length cy)).setCell ⟨bY, 3, none⟩ (.slice By e1.ts.length dy)).heap.size := by simp
              replace HORD := hh (And.intro HORD.out hs)
              replace HPy := Lib.hid hp
              clear hp hs
              refine hK.out _ _ (HKS.out _ HG.out) (fun hHeld => ?_)
              clear hK K
              generalize ((((D5.setCell ⟨bY, 0, none⟩ (.int .u8 e1.v)).setCell ⟨bY, 1, none⟩ (.int .u8 e1.k)).setCell ⟨bY, 2, none⟩ (.slice Ay e1.ns.length cy)).setCell ⟨bY, 3, none⟩ (.slice By e1.ts.length dy)) = D6 at HP4 HP5 HB HG HxN HxT HPx HFx HKx HPy HFy HKy HyN HyT HORD hHeld ⊢
              try simp only [Act.put, List.setIfInBounds_toArray, List.set_cons_zero, List.set_cons_succ]
              refine wpAnyH_done (by kernel_rfl) ?_ _
              go_wp2_with fail
              go_meet
              exact ⟨bx, bY, Ax, cx, Bx, dx, Ay, cy, By, dy, rfl, rfl, Lib.hid ⟨HPx.out, HPy.out, ev_of HY0.out.v HY0.out.k HY0.out.fit HY0.out.txt HxN.out HxT.out, ev_of HY1.out.v HY1.out.k HY1.out.fit HY1.out.txt HyN.out HyT.out, HG.out⟩⟩
         case br4_5 =>
          have hb := (Below.refl D1.heap.size D1).alloc (Nat.le_refl _) (.cells #[.int .u8 0, .int .u8 0, .slice none 0 0, .slice none 0 0] 44)
          have hs : D1.heap.size + 1 ≤ (D1.alloc (.cells #[.int .u8 0, .int .u8 0, .slice none 0 0, .slice none 0 0] 44)).heap.size := by simp
          replace HP4 := hh (HP4.out.below hb)
          replace HP5 := hh (HP5.out.below hb)
          replace HB := hh (below_step HB.out hb)
          replace HG := hh (below_step HG.out hb)
          replace HxN := hh (HxN.out.below hb)
          replace HxT := hh (HxT.out.below hb)
          replace HORD := hh (And.intro HORD.out hs)
          have HPy := hh (show Four _ D1.heap.size _ _ _ _ from box4 D1 (.int .u8 0) (.int .u8 0) (.slice none 0 0) (.slice none 0 0) 44)
          have HFy := hh (free_new D1 #[.int .u8 0, .int .u8 0, .slice none 0 0, .slice none 0 0] 44)
          have HKy := hh (boxT_new D1 #[.int .u8 0, .int .u8 0, .slice none 0 0, .slice none 0 0] 44)
          go_simp
          refine hK.out _ _ (HKS.out _ HG.out) (fun hHeld => ?_)
          clear hK K
          clear hb hs
          generalize hWs : D1.heap.size = bY at HP4 HP5 HB HG HxN HxT HPy HFy HKy HORD ⊢
          clear hWs
          generalize D1.alloc (.cells #[.int .u8 0, .int .u8 0, .slice none 0 0, .slice none 0 0] 44) = D2 at HP4 HP5 HB HG HxN HxT HPy HFy HKy HORD hHeld ⊢
          try simp only [Act.put, List.setIfInBounds_toArray, List.set_cons_zero, List.set_cons_succ]
          refine wpAnyH_ready (rs := [3, 4]) (by kernel_rfl) (by simp) ?_
          refine (AllReadyH.cons (o := { dst := some 24, op := Go.Op.call { callee := Go.Callee.value (Go.Operand.func 24), args := #[Go.Operand.tmp 23], argTypes := #[44] }, type := 44, pos := "law.go:78", after := #[{ on := 2, ground := Go.Ground.data }, { on := 1, ground := Go.Ground.chain }], guard := none }) rfl (fun K hK => ?br19_3) (AllReadyH.cons (o := { dst := some 7, op := Go.Op.alloc 44, type := 0, pos := "law.go:78", after := #[], guard := none }) rfl (fun K hK => ?br19_4) AllReadyH.nil))
          case br19_3 =>
           go_simp
           go_at_call 24
           refine (own_x A1 c1 B1 g1 e1 (by have := HL1.out; omega) (by have := HL1.out; omega) _ (HY1.out.below HB.out)).mono ?_; rintro z D3 ⟨Ay, cy, By, dy, my, rfl, hm1, hm2, hn, ht, hb⟩
           simp only [evV]
           replace HP4 := hh (HP4.out.below hb)
           replace HP5 := hh (HP5.out.below hb)
           replace HB := hh (below_step HB.out hb)
           replace HG := hh (below_step HG.out hb)
           replace HxN := hh (HxN.out.below hb)
           replace HxT := hh (HxT.out.below hb)
           replace HPy := hh (HPy.out.below hb)
           replace HFy := hh (HFy.out.below hb)
           replace HKy := hh (HKy.out.below hb)
           replace HORD := hh (And.intro HORD.out (And.intro hm1 (And.intro hm2 hb.size)))
           have HyN := Lib.hid hn
           have HyT := Lib.hid ht
           clear hn ht hm1 hm2 hb
           refine hK.out _ _ (HKS.out _ HG.out) (fun hHeld => ?_)
           clear hK K
           try simp only [Act.put, List.setIfInBounds_toArray, List.set_cons_zero, List.set_cons_succ]
           refine wpAnyH_ready (rs := [4]) (by kernel_rfl) (by simp) ?_
           refine (AllReadyH.cons (o := { dst := some 7, op := Go.Op.alloc 44, type := 0, pos := "law.go:78", after := #[], guard := none }) rfl (fun K hK => ?br20_4) AllReadyH.nil)
           case br20_4 =>
            have hb := (Below.refl D3.heap.size D3).alloc (Nat.le_refl _) (.cells #[.int .u8 0, .int .u8 0, .slice none 0 0, .slice none 0 0] 44)
            have hs : D3.heap.size + 1 ≤ (D3.alloc (.cells #[.int .u8 0, .int .u8 0, .slice none 0 0, .slice none 0 0] 44)).heap.size := by simp
            replace HP4 := hh (HP4.out.below hb)
            replace HP5 := hh (HP5.out.below hb)
            replace HB := hh (below_step HB.out hb)
            replace HG := hh (below_step HG.out hb)
            replace HxN := hh (HxN.out.below hb)
            replace HxT := hh (HxT.out.below hb)
            replace HPy := hh (HPy.out.below hb)
            replace HFy := hh (HFy.out.below hb)
            replace HKy := hh (HKy.out.below hb)
            replace HyN := hh (HyN.out.below hb)
            replace HyT := hh (HyT.out.below hb)
            replace HORD := hh (And.intro HORD.out hs)
            have HPx := hh (show Four _ D3.heap.size _ _ _ _ from box4 D3 (.int .u8 0) (.int .u8 0) (.slice none 0 0) (.slice none 0 0) 44)
            have HFx := hh (free_new D3 #[.int .u8 0, .int .u8 0, .slice none 0 0, .slice none 0 0] 44)
            have HKx := hh (boxT_new D3 #[.int .u8 0, .int .u8 0, .slice none 0 0, .slice none 0 0] 44)
            go_simp
            refine hK.out _ _ (HKS.out _ HG.out) (fun hHeld => ?_)
            clear hK K
            clear hb hs
            generalize hWs : D3.heap.size = bx at HP4 HP5 HB HG HxN HxT HPy HFy HKy HyN HyT HPx HFx HKx HORD ⊢
            clear hWs
            generalize D3.alloc (.cells #[.int .u8 0, .int .u8 0, .slice none 0 0, .slice none 0 0] 44) = D4 at HP4 HP5 HB HG HxN HxT HPy HFy HKy HyN HyT HPx HFx HKx HORD hHeld ⊢
            try simp only [Act.put, List.setIfInBounds_toArray, List.set_cons_zero, List.set_cons_succ]
            refine wpAnyH_ready (rs := [6]) (by kernel_rfl) (by simp) ?_
            refine (AllReadyH.cons (o := { dst := none, op := Go.Op.store 44 (Go.Operand.tmp 7) (Go.Operand.tmp 22), type := 0, pos := "law.go:78", after := #[{ on := 4, ground := Go.Ground.data }, { on := 1, ground := Go.Ground.data }, { on := 3, ground := Go.Ground.chain }, { on := 0, ground := Go.Ground.phase }, { on := 1, ground := Go.Ground.phase }, { on := 2, ground := Go.Ground.textOnly Go.Departure.lateStores }, { on := 3, ground := Go.Ground.textOnly Go.Departure.lateStoresUnsure }, { on := 4, ground := Go.Ground.phase }, { on := 5, ground := Go.Ground.phase }], guard := none }) rfl (fun K hK => ?br21_6) AllReadyH.nil)
            case br21_6 =>
             obtain ⟨hpx_0, hpx_1, hpx_2, hpx_3⟩ := HPx.out
             have f0 := HFx.out.2 0
             have f1 := HFx.out.2 1
             have f2 := HFx.out.2 2
             have f3 := HFx.out.2 3
             go_simp
             clear hpx_0 hpx_1 hpx_2 hpx_3
             clear f0 f1 f2 f3
             have hp := ((((HPx.out.set0 (.int .u8 e0.v)).set1 (.int .u8 e0.k)).set2 (.slice Ax e0.ns.length cx)).set3 (.slice Bx e0.ts.length dx))
             have ht := Touch.set D4 bx 0 (.int .u8 e0.v)
             have hf := HFx.out.set bx 0 (.int .u8 e0.v)
             have sp_HxN := HxN.out.boxT HKx.out (by decide) 0 (.int .u8 e0.v)
             have sp_HxT := HxT.out.boxT HKx.out (by decide) 0 (.int .u8 e0.v)
             have sp_HyN := HyN.out.boxT HKx.out (by decide) 0 (.int .u8 e0.v)
             have sp_HyT := HyT.out.boxT HKx.out (by decide) 0 (.int .u8 e0.v)
             replace HKx := hh (HKx.out.set 0 (.int .u8 e0.v))
             have hord := HORD.out
             replace HP4 := hh (HP4.out.touch ht (by omega))
             replace HP5 := hh (HP5.out.touch ht (by omega))
             replace HB := hh (Touch.step HB.out ht (by omega))
             replace HG := hh (Touch.step HG.out ht (by omega))
             replace HPy := hh (HPy.out.touch ht (by omega))
             replace HFy := hh (HFy.out.touch ht (by omega))
             replace HKy := hh (HKy.out.touch ht (by omega))
             clear hord
             replace HFx := Lib.hid hf
             clear ht hf
             replace HxN := Lib.hid sp_HxN
             clear sp_HxN
             replace HxT := Lib.hid sp_HxT
             clear sp_HxT
             replace HyN := Lib.hid sp_HyN
             clear sp_HyN
             replace HyT := Lib.hid sp_HyT
             clear sp_HyT
             have ht := Touch.set (D4.setCell ⟨bx, 0, none⟩ (.int .u8 e0.v)) bx 1 (.int .u8 e0.k)
             have hf := HFx.out.set bx 1 (.int .u8 e0.k)
             have sp_HxN := HxN.out.boxT HKx.out (by decide) 1 (.int .u8 e0.k)
             have sp_HxT := HxT.out.boxT HKx.out (by decide) 1 (.int .u8 e0.k)
             have sp_HyN := HyN.out.boxT HKx.out (by decide) 1 (.int .u8 e0.k)
             have sp_HyT := HyT.out.boxT HKx.out (by decide) 1 (.int .u8 e0.k)
             replace HKx := hh (HKx.out.set 1 (.int .u8 e0.k))
             have hord := HORD.out
             replace HP4 := hh (HP4.out.touch ht (by omega))
             replace HP5 := hh (HP5.out.touch ht (by omega))
             replace HB := hh (Touch.step HB.out ht (by omega))
             replace HG := hh (Touch.step HG.out ht (by omega))
             replace HPy := hh (HPy.out.touch ht (by omega))
             replace HFy := hh (HFy.out.touch ht (by omega))
             replace HKy := hh (HKy.out.touch ht (by omega))
             clear hord
             replace HFx := Lib.hid hf
             clear ht hf
             replace HxN := Lib.hid sp_HxN
             clear sp_HxN
             replace HxT := Lib.hid sp_HxT
             clear sp_HxT
             replace HyN := Lib.hid sp_HyN
             clear sp_HyN
             replace HyT := Lib.hid sp_HyT
             clear sp_HyT
             have ht := Touch.set ((D4.setCell ⟨bx, 0, none⟩ (.int .u8 e0.v)).setCell ⟨bx, 1, none⟩ (.int .u8 e0.k)) bx 2 (.slice Ax e0.ns.length cx)
             have hf := HFx.out.set bx 2 (.slice Ax e0.ns.length cx)
             have sp_HxN := HxN.out.boxT HKx.out (by decide) 2 (.slice Ax e0.ns.length cx)
             have sp_HxT := HxT.out.boxT HKx.out (by decide) 2 (.slice Ax e0.ns.length cx)
             have sp_HyN := HyN.out.boxT HKx.out (by decide) 2 (.slice Ax e0.ns.length cx)
             have sp_HyT := HyT.out.boxT HKx.out (by decide) 2 (.slice Ax e0.ns.length cx)
             replace HKx := hh (HKx.out.set 2 (.slice Ax e0.ns.length cx))
             have hord := HORD.out
             replace HP4 := hh (HP4.out.touch ht (by omega))
             replace HP5 := hh (HP5.out.touch ht (by omega))
             replace HB := hh (Touch.step HB.out ht (by omega))
             replace HG := hh (Touch.step HG.out ht (by omega))
             replace HPy := hh (HPy.out.touch ht (by omega))
             replace HFy := hh (HFy.out.touch ht (by omega))
             replace HKy := hh (HKy.out.touch ht (by omega))
             clear hord
             replace HFx := Lib.hid hf
             clear ht hf
             replace HxN := Lib.hid sp_HxN
             clear sp_HxN
             replace HxT := Lib.hid sp_HxT
             clear sp_HxT
             replace HyN := Lib.hid sp_HyN
             clear sp_HyN
             replace HyT := Lib.hid sp_HyT
             clear sp_HyT
             have ht := Touch.set (((D4.setCell ⟨bx, 0, none⟩ (.int .u8 e0.v)).setCell ⟨bx, 1, none⟩ (.int .u8 e0.k)).setCell ⟨bx, 2, none⟩ (.slice Ax e0.ns.length cx)) bx 3 (.slice Bx e0.ts.length dx)
             have hf := HFx.out.set bx 3 (.slice Bx e0.ts.length dx)
             have sp_HxN := HxN.out.boxT HKx.out (by decide) 3 (.slice Bx e0.ts.length dx)
             have sp_HxT := HxT.out.boxT HKx.out (by decide) 3 (.slice Bx e0.ts.length dx)
             have sp_HyN := HyN.out.boxT HKx.out (by decide) 3 (.slice Bx e0.ts.length dx)
             have sp_HyT := HyT.out.boxT HKx.out (by decide) 3 (.slice Bx e0.ts.length dx)
             replace HKx := hh (HKx.out.set 3 (.slice Bx e0.ts.length dx))
             have hord := HORD.out
             replace HP4 := hh (HP4.out.touch ht (by omega))
             replace HP5 := hh (HP5.out.touch ht (by omega))
             replace HB := hh (Touch.step HB.out ht (by omega))
             replace HG := hh (Touch.step HG.out ht (by omega))
             replace HPy := hh (HPy.out.touch ht (by omega))
             replace HFy := hh (HFy.out.touch ht (by omega))
             replace HKy := hh (HKy.out.touch ht (by omega))
             clear hord
             replace HFx := Lib.hid hf
             clear ht hf
             replace HxN := Lib.hid sp_HxN
             clear sp_HxN
             replace HxT := Lib.hid sp_HxT
             clear sp_HxT
             replace HyN := Lib.hid sp_HyN
             clear sp_HyN
             replace HyT := Lib.hid sp_HyT
             clear sp_HyT
             have hs : D4.heap.size ≤ ((((D4.setCell ⟨bx, 0, none⟩ (.int .u8 e0.v)).setCell ⟨bx, 1, none⟩ (.int .u8 e0.k)).setCell ⟨bx, 2, none⟩ (.slice Ax e0.ns.length cx)).setCell ⟨bx, 3, none⟩ (.slice Bx e0.ts.length dx)).heap.size := by simp
             replace HORD := hh (And.intro HORD.out hs)
             replace HPx := Lib.hid hp
             clear hp hs
             refine hK.out _ _ (HKS.out _ HG.out) (fun hHeld => ?_)
             clear hK K
             generalize ((((D4.setCell ⟨bx, 0, none⟩ (.int .u8 e0.v)).setCell ⟨bx, 1, none⟩ (.int .u8 e0.k)).setCell ⟨bx, 2, none⟩ (.slice Ax e0.ns.length cx)).setCell ⟨bx, 3, none⟩ (.slice Bx e0.ts.length dx)) = D5 at HP4 HP5 HB HG HxN HxT HPy HFy HKy HyN HyT HPx HFx HKx HORD hHeld ⊢
             try simp only [Act.put, List.setIfInBounds_toArray, List.set_cons_zero, List.set_cons_succ]
             refine wpAnyH_ready (rs := [7]) (by kernel_rfl) (by simp) ?_
             refine (AllReadyH.cons (o := { dst := none, op := Go.Op.store 44 (Go.Operand.tmp 8) (Go.Operand.tmp 24), type := 0, pos := "law.go:78", after := #[{ on := 5, ground := Go.Ground.data }, { on := 3, ground := Go.Ground.data }, { on := 6, ground := Go.Ground.chain }, { on := 0, ground := Go.Ground.phase }, { on := 1, ground := Go.Ground.phase }, { on := 2, ground := Go.Ground.phase }, { on := 3, ground := Go.Ground.phase }, { on := 4, ground := Go.Ground.phase }, { on := 5, ground := Go.Ground.phase }, { on := 6, ground := Go.Ground.phase }], guard := none }) rfl (fun K hK => ?br22_7) AllReadyH.nil)
             case br22_7 =>
              obtain ⟨hpy_0, hpy_1, hpy_2, hpy_3⟩ := HPy.out
              have f0 := HFy.out.2 0
              have f1 := HFy.out.2 1
              have f2 := HFy.out.2 2
              have f3 := HFy.out.2 3
              go_simp
              clear hpy_0 hpy_1 hpy_2 hpy_3
              clear f0 f1 f2 f3
              have hp := ((((HPy.out.set0 (.int .u8 e1.v)).set1 (.int .u8 e1.k)).set2 (.slice Ay e1.ns.length cy)).set3 (.slice By e1.ts.length dy))
              have ht := Touch.set D5 bY 0 (.int .u8 e1.v)
              have hf := HFy.out.set bY 0 (.int .u8 e1.v)
              have sp_HxN := HxN.out.boxT HKy.out (by decide) 0 (.int .u8 e1.v)
              have sp_HxT := HxT.out.boxT HKy.out (by decide) 0 (.int .u8 e1.v)
              have sp_HyN := HyN.out.boxT HKy.out (by decide) 0 (.int .u8 e1.v)
              have sp_HyT := HyT.out.boxT HKy.out (by decide) 0 (.int .u8 e1.v)
              replace HKy := hh (HKy.out.set 0 (.int .u8 e1.v))
              have hord := HORD.out
              replace HP4 := hh (HP4.out.touch ht (by omega))
              replace HP5 := hh (HP5.out.touch ht (by omega))
              replace HB := hh (Touch.step HB.out ht (by omega))
              replace HG := hh (Touch.step HG.out ht (by omega))
              replace HPx := hh (HPx.out.touch ht (by omega))
              replace HFx := hh (HFx.out.touch ht (by omega))
              replace HKx := hh (HKx.out.touch ht (by omega))
              clear hord
              replace HFy := Lib.hid hf
              clear ht hf
              replace HxN := Lib.hid sp_HxN
              clear sp_HxN
              replace HxT := Lib.hid sp_HxT
              clear sp_HxT
              replace HyN := Lib.hid sp_HyN
              clear sp_HyN
              replace HyT := Lib.hid sp_HyT
              clear sp_HyT
              have ht := Touch.set (D5.setCell ⟨bY, 0, none⟩ (.int .u8 e1.v)) bY 1 (.int .u8 e1.k)
              have hf := HFy.out.set bY 1 (.int .u8 e1.k)
              have sp_HxN := HxN.out.boxT HKy.out (by decide) 1 (.int .u8 e1.k)
              have sp_HxT := HxT.out.boxT HKy.out (by decide) 1 (.int .u8 e1.k)
              have sp_HyN := HyN.out.boxT HKy.out (by decide) 1 (.int .u8 e1.k)
              have sp_HyT := HyT.out.boxT HKy.out (by decide) 1 (.int .u8 e1.k)
              replace HKy := hh (HKy.out.set 1 (.int .u8 e1.k))
              have hord := HORD.out
              replace HP4 := hh (HP4.out.touch ht (by omega))
              replace HP5 := hh (HP5.out.touch ht (by omega))
              replace HB := hh (Touch.step HB.out ht (by omega))
              replace HG := hh (Touch.step HG.out ht (by omega))
              replace HPx := hh (HPx.out.touch ht (by omega))
              replace HFx := hh (HFx.out.touch ht (by omega))
              replace HKx := hh (HKx.out.touch ht (by omega))
              clear hord
              replace HFy := Lib.hid hf
              clear ht hf
              replace HxN := Lib.hid sp_HxN
              clear sp_HxN
              replace HxT := Lib.hid sp_HxT
              clear sp_HxT
              replace HyN := Lib.hid sp_HyN
              clear sp_HyN
              replace HyT := Lib.hid sp_HyT
              clear sp_HyT
              have ht := Touch.set ((D5.setCell ⟨bY, 0, none⟩ (.int .u8 e1.v)).setCell ⟨bY, 1, none⟩ (.int .u8 e1.k)) bY 2 (.slice Ay e1.ns.length cy)
              have hf := HFy.out.set bY 2 (.slice Ay e1.ns.length cy)
              have sp_HxN := HxN.out.boxT HKy.out (by decide) 2 (.slice Ay e1.ns.length cy)
              have sp_HxT := HxT.out.boxT HKy.out (by decide) 2 (.slice Ay e1.ns.length cy)
              have sp_HyN := HyN.out.boxT HKy.out (by decide) 2 (.slice Ay e1.ns.length cy)
              have sp_HyT := HyT.out.boxT HKy.out (by decide) 2 (.slice Ay e1.ns.length cy)
              replace HKy := hh (HKy.out.set 2 (.slice Ay e1.ns.length cy))
              have hord := HORD.out
              replace HP4 := hh (HP4.out.touch ht (by omega))
              replace HP5 := hh (HP5.out.touch ht (by omega))
              replace HB := hh (Touch.step HB.out ht (by omega))
              replace HG := hh (Touch.step HG.out ht (by omega))
              replace HPx := hh (HPx.out.touch ht (by omega))
              replace HFx := hh (HFx.out.touch ht (by omega))
              replace HKx := hh (HKx.out.touch ht (by omega))
              clear hord
              replace HFy := Lib.hid hf
              clear ht hf
              replace HxN := Lib.hid sp_HxN
              clear sp_HxN
              replace HxT := Lib.hid sp_HxT
              clear sp_HxT
              replace HyN := Lib.hid sp_HyN
              clear sp_HyN
              replace HyT := Lib.hid sp_HyT
              clear sp_HyT
              have ht := Touch.set (((D5.setCell ⟨bY, 0, none⟩ (.int .u8 e1.v)).setCell ⟨bY, 1, none⟩ (.int .u8 e1.k)).setCell ⟨bY, 2, none⟩ (.slice Ay e1.ns.length cy)) bY 3 (.slice By e1.ts.length dy)
              have hf := HFy.out.set bY 3 (.slice By e1.ts.length dy)
              have sp_HxN := HxN.out.boxT HKy.out (by decide) 3 (.slice By e1.ts.length dy)
              have sp_HxT := HxT.out.boxT HKy.out (by decide) 3 (.slice By e1.ts.length dy)
              have sp_HyN := HyN.out.boxT HKy.out (by decide) 3 (.slice By e1.ts.length dy)
              have sp_HyT := HyT.out.boxT HKy.out (by decide) 3 (.slice By e1.ts.length dy)
              replace HKy := hh (HKy.out.set 3 (.slice By e1.ts.length dy))
              have hord := HORD.out
              replace HP4 := hh (HP4.out.touch ht (by omega))
              replace HP5 := hh (HP5.out.touch ht (by omega))
              replace HB := hh (Touch.step HB.out ht (by omega))
              replace HG := hh (Touch.step HG.out ht (by omega))
              replace HPx := hh (HPx.out.touch ht (by omega))
              replace HFx := hh (HFx.out.touch ht (by omega))
              replace HKx := hh (HKx.out.touch ht (by omega))
              clear hord
              replace HFy := Lib.hid hf
              clear ht hf
              replace HxN := Lib.hid sp_HxN
              clear sp_HxN
              replace HxT := Lib.hid sp_HxT
              clear sp_HxT
              replace HyN := Lib.hid sp_HyN
              clear sp_HyN
              replace HyT := Lib.hid sp_HyT
              clear sp_HyT
              have hs : D5.heap.size ≤ ((((D5.setCell ⟨bY, 0, none⟩ (.int .u8 e1.v)).setCell ⟨bY, 1, none⟩ (.int .u8 e1.k)).setCell ⟨bY, 2, none⟩ (.slice Ay e1.ns.length cy)).setCell ⟨bY, 3, none⟩ (.slice By e1.ts.length dy)).heap.size := by simp
              replace HORD := hh (And.intro HORD.out hs)
              replace HPy := Lib.hid hp
              clear hp hs
              refine hK.out _ _ (HKS.out _ HG.out) (fun hHeld => ?_)
              clear hK K
              generalize ((((D5.setCell ⟨bY, 0, none⟩ (.int .u8 e1.v)).setCell ⟨bY, 1, none⟩ (.int .u8 e1.k)).setCell ⟨bY, 2, none⟩ (.slice Ay e1.ns.length cy)).setCell ⟨bY, 3, none⟩ (.slice By e1.ts.length dy)) = D6 at HP4 HP5 HB HG HxN HxT HPy HFy HKy HyN HyT HPx HFx HKx HORD hHeld ⊢
              try simp only [Act.put, List.setIfInBounds_toArray, List.set_cons_zero, List.set_cons_succ]
              refine wpAnyH_done (by kernel_rfl) ?_ _
              go_wp2_with fail
              go_meet
              exact ⟨bx, bY, Ax, cx, Bx, dx, Ay, cy, By, dy, rfl, rfl, Lib.hid ⟨HPx.out, HPy.out, ev_of HY0.out.v HY0.out.k HY0.out.fit HY0.out.txt HxN.out HxT.out, ev_of HY1.out.v HY1.out.k HY1.out.fit HY1.out.txt HyN.out HyT.out, HG.out⟩⟩
          case br19_4 =>
           have hb := (Below.refl D2.heap.size D2).alloc (Nat.le_refl _) (.cells #[.int .u8 0, .int .u8 0, .slice none 0 0, .slice none 0 0] 44)
           have hs : D2.heap.size + 1 ≤ (D2.alloc (.cells #[.int .u8 0, .int .u8 0, .slice none 0 0, .slice none 0 0] 44)).heap.size := by simp
           replace HP4 := hh (HP4.out.below hb)
           replace HP5 := hh (HP5.out.below hb)
           replace HB := hh (below_step HB.out hb)
           replace HG := hh (below_step HG.out hb)
           replace HxN := hh (HxN.out.below hb)
           replace HxT := hh (HxT.out.below hb)
           replace HPy := hh (HPy.out.below hb)
           replace HFy := hh (HFy.out.below hb)
           replace HKy := hh (HKy.out.below hb)
           replace HORD := hh (And.intro HORD.out hs)
           have HPx := hh (show Four _ D2.heap.size _ _ _ _ from box4 D2 (.int .u8 0) (.int .u8 0) (.slice none 0 0) (.slice none 0 0) 44)
           have HFx := hh (free_new D2 #[.int .u8 0, .int .u8 0, .slice none 0 0, .slice none 0 0] 44)
           have HKx := hh (boxT_new D2 #[.int .u8 0, .int .u8 0, .slice none 0 0, .slice none 0 0] 44)
           go_simp
           refine hK.out _ _ (HKS.out _ HG.out) (fun hHeld => ?_)
           clear hK K
           clear hb hs
           generalize hWs : D2.heap.size = bx at HP4 HP5 HB HG HxN HxT HPy HFy HKy HPx HFx HKx HORD ⊢
           clear hWs
           generalize D2.alloc (.cells #[.int .u8 0, .int .u8 0, .slice none 0 0, .slice none 0 0] 44) = D3 at HP4 HP5 HB HG HxN HxT HPy HFy HKy HPx HFx HKx HORD hHeld ⊢
           try simp only [Act.put, List.setIfInBounds_toArray, List.set_cons_zero, List.set_cons_succ]
           refine wpAnyH_ready (rs := [3]) (by kernel_rfl) (by simp) ?_
           refine (AllReadyH.cons (o := { dst := some 24, op := Go.Op.call { callee := Go.Callee.value (Go.Operand.func 24), args := #[Go.Operand.tmp 23], argTypes := #[44] }, type := 44, pos := "law.go:78", after := #[{ on := 2, ground := Go.Ground.data }, { on := 1, ground := Go.Ground.chain }], guard := none }) rfl (fun K hK => ?br23_3) AllReadyH.nil)
           case br23_3 =>
            go_simp
            go_at_call 24
            refine (own_x A1 c1 B1 g1 e1 (by have := HL1.out; omega) (by have := HL1.out; omega) _ (HY1.out.below HB.out)).mono ?_; rintro z D4 ⟨Ay, cy, By, dy, my, rfl, hm1, hm2, hn, ht, hb⟩
            simp only [evV]
            replace HP4 := hh (HP4.out.below hb)
            replace HP5 := hh (HP5.out.below hb)
            replace HB := hh (below_step HB.out hb)
            replace HG := hh (below_step HG.out hb)
            replace HxN := hh (HxN.out.below hb)
            replace HxT := hh (HxT.out.below hb)
            replace HPy := hh (HPy.out.below hb)
            replace HFy := hh (HFy.out.below hb)
            replace HKy := hh (HKy.out.below hb)
            replace HPx := hh (HPx.out.below hb)
            replace HFx := hh (HFx.out.below hb)
            replace HKx := hh (HKx.out.below hb)
            replace HORD := hh (And.intro HORD.out (And.intro hm1 (And.intro hm2 hb.size)))
            have HyN := Lib.hid hn
            have HyT := Lib.hid ht
            clear hn ht hm1 hm2 hb
            refine hK.out _ _ (HKS.out _ HG.out) (fun hHeld => ?_)
            clear hK K
            try simp only [Act.put, List.setIfInBounds_toArray, List.set_cons_zero, List.set_cons_succ]
            refine wpAnyH_ready (rs := [6]) (by kernel_rfl) (by simp) ?_
            refine (AllReadyH.cons (o := { dst := none, op := Go.Op.store 44 (Go.Operand.tmp 7) (Go.Operand.tmp 22), type := 0, pos := "law.go:78", after := #[{ on := 4, ground := Go.Ground.data }, { on := 1, ground := Go.Ground.data }, { on := 3, ground := Go.Ground.chain }, { on := 0, ground := Go.Ground.phase }, { on := 1, ground := Go.Ground.phase }, { on := 2, ground := Go.Ground.textOnly Go.Departure.lateStores }, { on := 3, ground := Go.Ground.textOnly Go.Departure.lateStoresUnsure }, { on := 4, ground := Go.Ground.phase }, { on := 5, ground := Go.Ground.phase }], guard := none }) rfl (fun K hK => ?br24_6) AllReadyH.nil)
            case br24_6 =>
             obtain ⟨hpx_0, hpx_1, hpx_2, hpx_3⟩ := HPx.out
             have f0 := HFx.out.2 0
             have f1 := HFx.out.2 1
             have f2 := HFx.out.2 2
             have f3 := HFx.out.2 3
             go_simp
             clear hpx_0 hpx_1 hpx_2 hpx_3
             clear f0 f1 f2 f3
             have hp := ((((HPx.out.set0 (.int .u8 e0.v)).set1 (.int .u8 e0.k)).set2 (.slice Ax e0.ns.length cx)).set3 (.slice Bx e0.ts.length dx))
             have ht := Touch.set D4 bx 0 (.int .u8 e0.v)
             have hf := HFx.out.set bx 0 (.int .u8 e0.v)
             have sp_HxN := HxN.out.boxT HKx.out (by decide) 0 (.int .u8 e0.v)
             have sp_HxT := HxT.out.boxT HKx.out (by decide) 0 (.int .u8 e0.v)
             have sp_HyN := HyN.out.boxT HKx.out (by decide) 0 (.int .u8 e0.v)
             have sp_HyT := HyT.out.boxT HKx.out (by decide) 0 (.int .u8 e0.v)
             replace HKx := hh (HKx.out.set 0 (.int .u8 e0.v))
             have hord := HORD.out
             replace HP4 := hh (HP4.out.touch ht (by omega))
             replace HP5 := hh (HP5.out.touch ht (by omega))
             replace HB := hh (Touch.step HB.out ht (by omega))
             replace HG := hh (Touch.step HG.out ht (by omega))
             replace HPy := hh (HPy.out.touch ht (by omega))
             replace HFy := hh (HFy.out.touch ht (by omega))
             replace HKy := hh (HKy.out.touch ht (by omega))
             clear hord
             replace HFx := Lib.hid hf
             clear ht hf
             replace HxN := Lib.hid sp_HxN
             clear sp_HxN
             replace HxT := Lib.hid sp_HxT
             clear sp_HxT
             replace HyN := Lib.hid sp_HyN
             clear sp_HyN
             replace HyT := Lib.hid sp_HyT
             clear sp_HyT
             have ht := Touch.set (D4.setCell ⟨bx, 0, none⟩ (.int .u8 e0.v)) bx 1 (.int .u8 e0.k)
             have hf := HFx.out.set bx 1 (.int .u8 e0.k)
             have sp_HxN := HxN.out.boxT HKx.out (by decide) 1 (.int .u8 e0.k)
             have sp_HxT := HxT.out.boxT HKx.out (by decide) 1 (.int .u8 e0.k)
             have sp_HyN := HyN.out.boxT HKx.out (by decide) 1 (.int .u8 e0.k)
             have sp_HyT := HyT.out.boxT HKx.out (by decide) 1 (.int .u8 e0.k)
             replace HKx := hh (HKx.out.set 1 (.int .u8 e0.k))
             have hord := HORD.out
             replace HP4 := hh (HP4.out.touch ht (by omega))
             replace HP5 := hh (HP5.out.touch ht (by omega))
             replace HB := hh (Touch.step HB.out ht (by omega))
             replace HG := hh (Touch.step HG.out ht (by omega))
             replace HPy := hh (HPy.out.touch ht (by omega))
             replace HFy := hh (HFy.out.touch ht (by omega))
             replace HKy := hh (HKy.out.touch ht (by omega))
             clear hord
             replace HFx := Lib.hid hf
             clear ht hf
             replace HxN := Lib.hid sp_HxN
             clear sp_HxN
             replace HxT := Lib.hid sp_HxT
             clear sp_HxT
             replace HyN := Lib.hid sp_HyN
             clear sp_HyN
             replace HyT := Lib.hid sp_HyT
             clear sp_HyT
             have ht := Touch.set ((D4.setCell ⟨bx, 0, none⟩ (.int .u8 e0.v)).setCell ⟨bx, 1, none⟩ (.int .u8 e0.k)) bx 2 (.slice Ax e0.ns.length cx)
             have hf := HFx.out.set bx 2 (.slice Ax e0.ns.length cx)
             have sp_HxN := HxN.out.boxT HKx.out (by decide) 2 (.slice Ax e0.ns.length cx)
             have sp_HxT := HxT.out.boxT HKx.out (by decide) 2 (.slice Ax e0.ns.length cx)
             have sp_HyN := HyN.out.boxT HKx.out (by decide) 2 (.slice Ax e0.ns.length cx)
             have sp_HyT := HyT.out.boxT HKx.out (by decide) 2 (.slice Ax e0.ns.length cx)
             replace HKx := hh (HKx.out.set 2 (.slice Ax e0.ns.length cx))
             have hord := HORD.out
             replace HP4 := hh (HP4.out.touch ht (by omega))
             replace HP5 := hh (HP5.out.touch ht (by omega))
             replace HB := hh (Touch.step HB.out ht (by omega))
             replace HG := hh (Touch.step HG.out ht (by omega))
             replace HPy := hh (HPy.out.touch ht (by omega))
             replace HFy := hh (HFy.out.touch ht (by omega))
             replace HKy := hh (HKy.out.touch ht (by omega))
             clear hord
             replace HFx := Lib.hid hf
             clear ht hf
             replace HxN := Lib.hid sp_HxN
             clear sp_HxN
             replace HxT := Lib.hid sp_HxT
             clear sp_HxT
             replace HyN := Lib.hid sp_HyN
             clear sp_HyN
             replace HyT := Lib.hid sp_HyT
             clear sp_HyT
             have ht := Touch.set (((D4.setCell ⟨bx, 0, none⟩ (.int .u8 e0.v)).setCell ⟨bx, 1, none⟩ (.int .u8 e0.k)).setCell ⟨bx, 2, none⟩ (.slice Ax e0.ns.length cx)) bx 3 (.slice Bx e0.ts.length dx)
             have hf := HFx.out.set bx 3 (.slice Bx e0.ts.length dx)
             have sp_HxN := HxN.out.boxT HKx.out (by decide) 3 (.slice Bx e0.ts.length dx)
             have sp_HxT := HxT.out.boxT HKx.out (by decide) 3 (.slice Bx e0.ts.length dx)
             have sp_HyN := HyN.out.boxT HKx.out (by decide) 3 (.slice Bx e0.ts.length dx)
             have sp_HyT := HyT.out.boxT HKx.out (by decide) 3 (.slice Bx e0.ts.length dx)
             replace HKx := hh (HKx.out.set 3 (.slice Bx e0.ts.length dx))
             have hord := HORD.out
             replace HP4 := hh (HP4.out.touch ht (by omega))
             replace HP5 := hh (HP5.out.touch ht (by omega))
             replace HB := hh (Touch.step HB.out ht (by omega))
             replace HG := hh (Touch.step HG.out ht (by omega))
             replace HPy := hh (HPy.out.touch ht (by omega))
             replace HFy := hh (HFy.out.touch ht (by omega))
             replace HKy := hh (HKy.out.touch ht (by omega))
             clear hord
             replace HFx := Lib.hid hf
             clear ht hf
             replace HxN := Lib.hid sp_HxN
             clear sp_HxN
             replace HxT := Lib.hid sp_HxT
             clear sp_HxT
             replace HyN := Lib.hid sp_HyN
             clear sp_HyN
             replace HyT := Lib.hid sp_HyT
             clear sp_HyT
             have hs : D4.heap.size ≤ ((((D4.setCell ⟨bx, 0, none⟩ (.int .u8 e0.v)).setCell ⟨bx, 1, none⟩ (.int .u8 e0.k)).setCell ⟨bx, 2, none⟩ (.slice Ax e0.ns.length cx)).setCell ⟨bx, 3, none⟩ (.slice Bx e0.ts.length dx)).heap.size := by simp
             replace HORD := hh (And.intro HORD.out hs)
             replace HPx := Lib.hid hp
             clear hp hs
             refine hK.out _ _ (HKS.out _ HG.out) (fun hHeld => ?_)
             clear hK K
             generalize ((((D4.setCell ⟨bx, 0, none⟩ (.int .u8 e0.v)).setCell ⟨bx, 1, none⟩ (.int .u8 e0.k)).setCell ⟨bx, 2, none⟩ (.slice Ax e0.ns.length cx)).setCell ⟨bx, 3, none⟩ (.slice Bx e0.ts.length dx)) = D5 at HP4 HP5 HB HG HxN HxT HPy HFy HKy HPx HFx HKx HyN HyT HORD hHeld ⊢
             try simp only [Act.put, List.setIfInBounds_toArray, List.set_cons_zero, List.set_cons_succ]
             refine wpAnyH_ready (rs := [7]) (by kernel_rfl) (by simp) ?_
             refine (AllReadyH.cons (o := { dst := none, op := Go.Op.store 44 (Go.Operand.tmp 8) (Go.Operand.tmp 24), type := 0, pos := "law.go:78", after := #[{ on := 5, ground := Go.Ground.data }, { on := 3, ground := Go.Ground.data }, { on := 6, ground := Go.Ground.chain }, { on := 0, ground := Go.Ground.phase }, { on := 1, ground := Go.Ground.phase }, { on := 2, ground := Go.Ground.phase }, { on := 3, ground := Go.Ground.phase }, { on := 4, ground := Go.Ground.phase }, { on := 5, ground := Go.Ground.phase }, { on := 6, ground := Go.Ground.phase }], guard := none }) rfl (fun K hK => ?br25_7) AllReadyH.nil)
             case br25_7 =>
              obtain ⟨hpy_0, hpy_1, hpy_2, hpy_3⟩ := HPy.out
              have f0 := HFy.out.2 0
              have f1 := HFy.out.2 1
              have f2 := HFy.out.2 2
              have f3 := HFy.out.2 3
              go_simp
              clear hpy_0 hpy_1 hpy_2 hpy_3
              clear f0 f1 f2 f3
              have hp := ((((HPy.out.set0 (.int .u8 e1.v)).set1 (.int .u8 e1.k)).set2 (.slice Ay e1.ns.length cy)).set3 (.slice By e1.ts.length dy))
              have ht := Touch.set D5 bY 0 (.int .u8 e1.v)
              have hf := HFy.out.set bY 0 (.int .u8 e1.v)
              have sp_HxN := HxN.out.boxT HKy.out (by decide) 0 (.int .u8 e1.v)
              have sp_HxT := HxT.out.boxT HKy.out (by decide) 0 (.int .u8 e1.v)
              have sp_HyN := HyN.out.boxT HKy.out (by decide) 0 (.int .u8 e1.v)
              have sp_HyT := HyT.out.boxT HKy.out (by decide) 0 (.int .u8 e1.v)
              replace HKy := hh (HKy.out.set 0 (.int .u8 e1.v))
              have hord := HORD.out
              replace HP4 := hh (HP4.out.touch ht (by omega))
              replace HP5 := hh (HP5.out.touch ht (by omega))
              replace HB := hh (Touch.step HB.out ht (by omega))
              replace HG := hh (Touch.step HG.out ht (by omega))
              replace HPx := hh (HPx.out.touch ht (by omega))
              replace HFx := hh (HFx.out.touch ht (by omega))
              replace HKx := hh (HKx.out.touch ht (by omega))
              clear hord
              replace HFy := Lib.hid hf
              clear ht hf
              replace HxN := Lib.hid sp_HxN
              clear sp_HxN
              replace HxT := Lib.hid sp_HxT
              clear sp_HxT
              replace HyN := Lib.hid sp_HyN
              clear sp_HyN
              replace HyT := Lib.hid sp_HyT
              clear sp_HyT
              have ht := Touch.set (D5.setCell ⟨bY, 0, none⟩ (.int .u8 e1.v)) bY 1 (.int .u8 e1.k)
              have hf := HFy.out.set bY 1 (.int .u8 e1.k)
              have sp_HxN := HxN.out.boxT HKy.out (by decide) 1 (.int .u8 e1.k)
              have sp_HxT := HxT.out.boxT HKy.out (by decide) 1 (.int .u8 e1.k)
              have sp_HyN := HyN.out.boxT HKy.out (by decide) 1 (.int .u8 e1.k)
              have sp_HyT := HyT.out.boxT HKy.out (by decide) 1 (.int .u8 e1.k)
              replace HKy := hh (HKy.out.set 1 (.int .u8 e1.k))
              have hord := HORD.out
              replace HP4 := hh (HP4.out.touch ht (by omega))
              replace HP5 := hh (HP5.out.touch ht (by omega))
              replace HB := hh (Touch.step HB.out ht (by omega))
              replace HG := hh (Touch.step HG.out ht (by omega))
              replace HPx := hh (HPx.out.touch ht (by omega))
              replace HFx := hh (HFx.out.touch ht (by omega))
              replace HKx := hh (HKx.out.touch ht (by omega))
              clear hord
              replace HFy := Lib.hid hf
              clear ht hf
              replace HxN := Lib.hid sp_HxN
              clear sp_HxN
              replace HxT := Lib.hid sp_HxT
              clear sp_HxT
              replace HyN := Lib.hid sp_HyN
              clear sp_HyN
              replace HyT := Lib.hid sp_HyT
              clear sp_HyT
              have ht := Touch.set ((D5.setCell ⟨bY, 0, none⟩ (.int .u8 e1.v)).setCell ⟨bY, 1, none⟩ (.int .u8 e1.k)) bY 2 (.slice Ay e1.ns.length cy)
              have hf := HFy.out.set bY 2 (.slice Ay e1.ns.length cy)
              have sp_HxN := HxN.out.boxT HKy.out (by decide) 2 (.slice Ay e1.ns.length cy)
              have sp_HxT := HxT.out.boxT HKy.out (by decide) 2 (.slice Ay e1.ns.length cy)
              have sp_HyN := HyN.out.boxT HKy.out (by decide) 2 (.slice Ay e1.ns.length cy)
              have sp_HyT := HyT.out.boxT HKy.out (by decide) 2 (.slice Ay e1.ns.length cy)
              replace HKy := hh (HKy.out.set 2 (.slice Ay e1.ns.length cy))
              have hord := HORD.out
              replace HP4 := hh (HP4.out.touch ht (by omega))
              replace HP5 := hh (HP5.out.touch ht (by omega))
              replace HB := hh (Touch.step HB.out ht (by omega))
              replace HG := hh (Touch.step HG.out ht (by omega))
              replace HPx := hh (HPx.out.touch ht (by omega))
              replace HFx := hh (HFx.out.touch ht (by omega))
              replace HKx := hh (HKx.out.touch ht (by omega))
              clear hord
              replace HFy := Lib.hid hf
              clear ht hf
              replace HxN := Lib.hid sp_HxN
              clear sp_HxN
              replace HxT := Lib.hid sp_HxT
              clear sp_HxT
              replace HyN := Lib.hid sp_HyN
              clear sp_HyN
              replace HyT := Lib.hid sp_HyT
              clear sp_HyT
              have ht := Touch.set (((D5.setCell ⟨bY, 0, none⟩ (.int .u8 e1.v)).setCell ⟨bY, 1, none⟩ (.int .u8 e1.k)).setCell ⟨bY, 2, none⟩ (.slice Ay e1.ns.length cy)) bY 3 (.slice By e1.ts.length dy)
              have hf := HFy.out.set bY 3 (.slice By e1.ts.length dy)
              have sp_HxN := HxN.out.boxT HKy.out (by decide) 3 (.slice By e1.ts.length dy)
              have sp_HxT := HxT.out.boxT HKy.out (by decide) 3 (.slice By e1.ts.length dy)
              have sp_HyN := HyN.out.boxT HKy.out (by decide) 3 (.slice By e1.ts.length dy)
              have sp_HyT := HyT.out.boxT HKy.out (by decide) 3 (.slice By e1.ts.length dy)
              replace HKy := hh (HKy.out.set 3 (.slice By e1.ts.length dy))
              have hord := HORD.out
              replace HP4 := hh (HP4.out.touch ht (by omega))
              replace HP5 := hh (HP5.out.touch ht (by omega))
              replace HB := hh (Touch.step HB.out ht (by omega))
              replace HG := hh (Touch.step HG.out ht (by omega))
              replace HPx := hh (HPx.out.touch ht (by omega))
              replace HFx := hh (HFx.out.touch ht (by omega))
              replace HKx := hh (HKx.out.touch ht (by omega))
              clear hord
              replace HFy := Lib.hid hf
              clear ht hf
              replace HxN := Lib.hid sp_HxN
              clear sp_HxN
              replace HxT := Lib.hid sp_HxT
              clear sp_HxT
              replace HyN := Lib.hid sp_HyN
              clear sp_HyN
              replace HyT := Lib.hid sp_HyT
              clear sp_HyT
              have hs : D5.heap.size ≤ ((((D5.setCell ⟨bY, 0, none⟩ (.int .u8 e1.v)).setCell ⟨bY, 1, none⟩ (.int .u8 e1.k)).setCell ⟨bY, 2, none⟩ (.slice Ay e1.ns.length cy)).setCell ⟨bY, 3, none⟩ (.slice By e1.ts.length dy)).heap.size := by simp
              replace HORD := hh (And.intro HORD.out hs)
              replace HPy := Lib.hid hp
              clear hp hs
              refine hK.out _ _ (HKS.out _ HG.out) (fun hHeld => ?_)
              clear hK K
              generalize ((((D5.setCell ⟨bY, 0, none⟩ (.int .u8 e1.v)).setCell ⟨bY, 1, none⟩ (.int .u8 e1.k)).setCell ⟨bY, 2, none⟩ (.slice Ay e1.ns.length cy)).setCell ⟨bY, 3, none⟩ (.slice By e1.ts.length dy)) = D6 at HP4 HP5 HB HG HxN HxT HPy HFy HKy HPx HFx HKx HyN HyT HORD hHeld ⊢
              try simp only [Act.put, List.setIfInBounds_toArray, List.set_cons_zero, List.set_cons_succ]
              refine wpAnyH_done (by kernel_rfl) ?_ _
              go_wp2_with fail
              go_meet
              exact ⟨bx, bY, Ax, cx, Bx, dx, Ay, cy, By, dy, rfl, rfl, Lib.hid ⟨HPx.out, HPy.out, ev_of HY0.out.v HY0.out.k HY0.out.fit HY0.out.txt HxN.out HxT.out, ev_of HY1.out.v HY1.out.k HY1.out.fit HY1.out.txt HyN.out HyT.out, HG.out⟩⟩
        case br3_4 =>
         have hb := (Below.refl D0.heap.size D0).alloc (Nat.le_refl _) (.cells #[.int .u8 0, .int .u8 0, .slice none 0 0, .slice none 0 0] 44)
         have hs : D0.heap.size + 1 ≤ (D0.alloc (.cells #[.int .u8 0, .int .u8 0, .slice none 0 0, .slice none 0 0] 44)).heap.size := by simp
         replace HP4 := hh (HP4.out.below hb)
         replace HP5 := hh (HP5.out.below hb)
         replace HB := hh (below_step HB.out hb)
         replace HG := hh (below_step HG.out hb)
         replace HORD := hh (And.intro HORD.out hs)
         have HPx := hh (show Four _ D0.heap.size _ _ _ _ from box4 D0 (.int .u8 0) (.int .u8 0) (.slice none 0 0) (.slice none 0 0) 44)
         have HFx := hh (free_new D0 #[.int .u8 0, .int .u8 0, .slice none 0 0, .slice none 0 0] 44)
         have HKx := hh (boxT_new D0 #[.int .u8 0, .int .u8 0, .slice none 0 0, .slice none 0 0] 44)
         go_simp
         refine hK.out _ _ (HKS.out _ HG.out) (fun hHeld => ?_)
         clear hK K
         clear hb hs
         generalize hWs : D0.heap.size = bx at HP4 HP5 HB HG HPx HFx HKx HORD ⊢
         clear hWs
         generalize D0.alloc (.cells #[.int .u8 0, .int .u8 0, .slice none 0 0, .slice none 0 0] 44) = D1 at HP4 HP5 HB HG HPx HFx HKx HORD hHeld ⊢
         try simp only [Act.put, List.setIfInBounds_toArray, List.set_cons_zero, List.set_cons_succ]
         refine wpAnyH_ready (rs := [1, 5]) (by kernel_rfl) (by simp) ?_
         refine (AllReadyH.cons (o := { dst := some 22, op := Go.Op.call { callee := Go.Callee.value (Go.Operand.func 24), args := #[Go.Operand.tmp 21], argTypes := #[44] }, type := 44, pos := "law.go:78", after := #[{ on := 0, ground := Go.Ground.data }], guard := none }) rfl (fun K hK => ?br26_1) (AllReadyH.cons (o := { dst := some 8, op := Go.Op.alloc 44, type := 0, pos := "law.go:78", after := #[], guard := none }) rfl (fun K hK => ?br26_5) AllReadyH.nil))
         case br26_1 =>
          go_simp
          go_at_call 24
          refine (own_x A0 c0 B0 g0 e0 (by have := HL0.out; omega) (by have := HL0.out; omega) _ (HY0.out.below HB.out)).mono ?_; rintro z D2 ⟨Ax, cx, Bx, dx, mx, rfl, hm1, hm2, hn, ht, hb⟩
          simp only [evV]
          replace HP4 := hh (HP4.out.below hb)
          replace HP5 := hh (HP5.out.below hb)
          replace HB := hh (below_step HB.out hb)
          replace HG := hh (below_step HG.out hb)
          replace HPx := hh (HPx.out.below hb)
          replace HFx := hh (HFx.out.below hb)
          replace HKx := hh (HKx.out.below hb)
          replace HORD := hh (And.intro HORD.out (And.intro hm1 (And.intro hm2 hb.size)))
          have HxN := Lib.hid hn
          have HxT := Lib.hid ht
          clear hn ht hm1 hm2 hb
          refine hK.out _ _ (HKS.out _ HG.out) (fun hHeld => ?_)
          clear hK K
          try simp only [Act.put, List.setIfInBounds_toArray, List.set_cons_zero, List.set_cons_succ]
          refine wpAnyH_ready (rs := [3, 5]) (by kernel_rfl) (by simp) ?_
          refine (AllReadyH.cons (o := { dst := some 24, op := Go.Op.call { callee := Go.Callee.value (Go.Operand.func 24), args := #[Go.Operand.tmp 23], argTypes := #[44] }, type := 44, pos := "law.go:78", after := #[{ on := 2, ground := Go.Ground.data }, { on := 1, ground := Go.Ground.chain }], guard := none }) rfl (fun K hK => ?br27_3) (AllReadyH.cons (o := { dst := some 8, op := Go.Op.alloc 44, type := 0, pos := "law.go:78", after := #[], guard := none }) rfl (fun K hK => ?br27_5) AllReadyH.nil))
          case br27_3 =>
           go_simp
           go_at_call 24
           refine (own_x A1 c1 B1 g1 e1 (by have := HL1.out; omega) (by have := HL1.out; omega) _ (HY1.out.below HB.out)).mono ?_; rintro z D3 ⟨Ay, cy, By, dy, my, rfl, hm1, hm2, hn, ht, hb⟩
           simp only [evV]
           replace HP4 := hh (HP4.out.below hb)
           replace HP5 := hh (HP5.out.below hb)
           replace HB := hh (below_step HB.out hb)
           replace HG := hh (below_step HG.out hb)
           replace HPx := hh (HPx.out.below hb)
           replace HFx := hh (HFx.out.below hb)
           replace HKx := hh (HKx.out.below hb)
           replace HxN := hh (HxN.out.below hb)
           replace HxT := hh (HxT.out.below hb)
           replace HORD := hh (And.intro HORD.out (And.intro hm1 (And.intro hm2 hb.size)))
           have HyN := Lib.hid hn
           have HyT := Lib.hid ht
           clear hn ht hm1 hm2 hb
           refine hK.out _ _ (HKS.out _ HG.out) (fun hHeld => ?_)
           clear hK K
           try simp only [Act.put, List.setIfInBounds_toArray, List.set_cons_zero, List.set_cons_succ]
           refine wpAnyH_ready (rs := [5]) (by kernel_rfl) (by simp) ?_
           refine (AllReadyH.cons (o := { dst := some 8, op := Go.Op.alloc 44, type := 0, pos := "law.go:78", after := #[], guard := none }) rfl (fun K hK => ?br28_5) AllReadyH.nil)
           case br28_5 =>
            have hb := (Below.refl D3.heap.size D3).alloc (Nat.le_refl _) (.cells #[.int .u8 0, .int .u8 0, .slice none 0 0, .slice none 0 0] 44)
            have hs : D3.heap.size + 1 ≤ (D3.alloc (.cells #[.int .u8 0, .int .u8 0, .slice none 0 0, .slice none 0 0] 44)).heap.size := by simp
            replace HP4 := hh (HP4.out.below hb)
            replace HP5 := hh (HP5.out.below hb)
            replace HB := hh (below_step HB.out hb)
            replace HG := hh (below_step HG.out hb)
            replace HPx := hh (HPx.out.below hb)
            replace HFx := hh (HFx.out.below hb)
            replace HKx := hh (HKx.out.below hb)
            replace HxN := hh (HxN.out.below hb)
            replace HxT := hh (HxT.out.below hb)
            replace HyN := hh (HyN.out.below hb)
            replace HyT := hh (HyT.out.below hb)
            replace HORD := hh (And.intro HORD.out hs)
            have HPy := hh (show Four _ D3.heap.size _ _ _ _ from box4 D3 (.int .u8 0) (.int .u8 0) (.slice none 0 0) (.slice none 0 0) 44)
            have HFy := hh (free_new D3 #[.int .u8 0, .int .u8 0, .slice none 0 0, .slice none 0 0] 44)
            have HKy := hh (boxT_new D3 #[.int .u8 0, .int .u8 0, .slice none 0 0, .slice none 0 0] 44)
            go_simp
            refine hK.out _ _ (HKS.out _ HG.out) (fun hHeld => ?_)
            clear hK K
            clear hb hs
            generalize hWs : D3.heap.size = bY at HP4 HP5 HB HG HPx HFx HKx HxN HxT HyN HyT HPy HFy HKy HORD ⊢
            clear hWs
            generalize D3.alloc (.cells #[.int .u8 0, .int .u8 0, .slice none 0 0, .slice none 0 0] 44) = D4 at HP4 HP5 HB HG HPx HFx HKx HxN HxT HyN HyT HPy HFy HKy HORD hHeld ⊢
            try simp only [Act.put, List.setIfInBounds_toArray, List.set_cons_zero, List.set_cons_succ]
            refine wpAnyH_ready (rs := [6]) (by kernel_rfl) (by simp) ?_
            refine (AllReadyH.cons (o := { dst := none, op := Go.Op.store 44 (Go.Operand.tmp 7) (Go.Operand.tmp 22), type := 0, pos := "law.go:78", after := #[{ on := 4, ground := Go.Ground.data }, { on := 1, ground := Go.Ground.data }, { on := 3, ground := Go.Ground.chain }, { on := 0, ground := Go.Ground.phase }, { on := 1, ground := Go.Ground.phase }, { on := 2, ground := Go.Ground.textOnly Go.Departure.lateStores }, { on := 3, ground := Go.Ground.textOnly Go.Departure.lateStoresUnsure }, { on := 4, ground := Go.Ground.phase }, { on := 5, ground := Go.Ground.phase }], guard := none }) rfl (fun K hK => ?br29_6) AllReadyH.nil)
            case br29_6 =>
             obtain ⟨hpx_0, hpx_1, hpx_2, hpx_3⟩ := HPx.out
             have f0 := HFx.out.2 0
             have f1 := HFx.out.2 1
             have f2 := HFx.out.2 2
             have f3 := HFx.out.2 3
             go_simp
             clear hpx_0 hpx_1 hpx_2 hpx_3
             clear f0 f1 f2 f3
             have hp := ((((HPx.out.set0 (.int .u8 e0.v)).set1 (.int .u8 e0.k)).set2 (.slice Ax e0.ns.length cx)).set3 (.slice Bx e0.ts.length dx))
             have ht := Touch.set D4 bx 0 (.int .u8 e0.v)
             have hf := HFx.out.set bx 0 (.int .u8 e0.v)
             have sp_HxN := HxN.out.boxT HKx.out (by decide) 0 (.int .u8 e0.v)
             have sp_HxT := HxT.out.boxT HKx.out (by decide) 0 (.int .u8 e0.v)
             have sp_HyN := HyN.out.boxT HKx.out (by decide) 0 (.int .u8 e0.v)
             have sp_HyT := HyT.out.boxT HKx.out (by decide) 0 (.int .u8 e0.v)
             replace HKx := hh (HKx.out.set 0 (.int .u8 e0.v))
             have hord := HORD.out
             replace HP4 := hh (HP4.out.touch ht (by omega))
             replace HP5 := hh (HP5.out.touch ht (by omega))
             replace HB := hh (Touch.step HB.out ht (by omega))
             replace HG := hh (Touch.step HG.out ht (by omega))
             replace HPy := hh (HPy.out.touch ht (by omega))
             replace HFy := hh (HFy.out.touch ht (by omega))
             replace HKy := hh (HKy.out.touch ht (by omega))
             clear hord
             replace HFx := Lib.hid hf
             clear ht hf
             replace HxN := Lib.hid sp_HxN
             clear sp_HxN
             replace HxT := Lib.hid sp_HxT
             clear sp_HxT
             replace HyN := Lib.hid sp_HyN
             clear sp_HyN
             replace HyT := Lib.hid sp_HyT
             clear sp_HyT
             have ht := Touch.set (D4.setCell ⟨bx, 0, none⟩ (.int .u8 e0.v)) bx 1 (.int .u8 e0.k)
             have hf := HFx.out.set bx 1 (.int .u8 e0.k)
             have sp_HxN := HxN.out.boxT HKx.out (by decide) 1 (.int .u8 e0.k)
             have sp_HxT := HxT.out.boxT HKx.out (by decide) 1 (.int .u8 e0.k)
             have sp_HyN := HyN.out.boxT HKx.out (by decide) 1 (.int .u8 e0.k)
             have sp_HyT := HyT.out.boxT HKx.out (by decide) 1 (.int .u8 e0.k)
             replace HKx := hh (HKx.out.set 1 (.int .u8 e0.k))
             have hord := HORD.out
             replace HP4 := hh (HP4.out.touch ht (by omega))
             replace HP5 := hh (HP5.out.touch ht (by omega))
             replace HB := hh (Touch.step HB.out ht (by omega))
             replace HG := hh (Touch.step HG.out ht (by omega))
             replace HPy := hh (HPy.out.touch ht (by omega))
             replace HFy := hh (HFy.out.touch ht (by omega))
             replace HKy := hh (HKy.out.touch ht (by omega))
             clear hord
             replace HFx := Lib.hid hf
             clear ht hf
             replace HxN := Lib.hid sp_HxN
             clear sp_HxN
             replace HxT := Lib.hid sp_HxT
             clear sp_HxT
             replace HyN := Lib.hid sp_HyN
             clear sp_HyN
             replace HyT := Lib.hid sp_HyT
             clear sp_HyT
             have ht := Touch.set ((D4.setCell ⟨bx, 0, none⟩ (.int .u8 e0.v)).setCell ⟨bx, 1, none⟩ (.int .u8 e0.k)) bx 2 (.slice Ax e0.ns.length cx)
             have hf := HFx.out.set bx 2 (.slice Ax e0.ns.length cx)
             have sp_HxN := HxN.out.boxT HKx.out (by decide) 2 (.slice Ax e0.ns.length cx)
             have sp_HxT := HxT.out.boxT HKx.out (by decide) 2 (.slice Ax e0.ns.length cx)
             have sp_HyN := HyN.out.boxT HKx.out (by decide) 2 (.slice Ax e0.ns.length cx)
             have sp_HyT := HyT.out.boxT HKx.out (by decide) 2 (.slice Ax e0.ns.length cx)
             replace HKx := hh (HKx.out.set 2 (.slice Ax e0.ns.length cx))
             have hord := HORD.out
             replace HP4 := hh (HP4.out.touch ht (by omega))
             replace HP5 := hh (HP5.out.touch ht (by omega))
             replace HB := hh (Touch.step HB.out ht (by omega))
             replace HG := hh (Touch.step HG.out ht (by omega))
             replace HPy := hh (HPy.out.touch ht (by omega))
             replace HFy := hh (HFy.out.touch ht (by omega))
             replace HKy := hh (HKy.out.touch ht (by omega))
             clear hord
             replace HFx := Lib.hid hf
             clear ht hf
             replace HxN := Lib.hid sp_HxN
             clear sp_HxN
             replace HxT := Lib.hid sp_HxT
             clear sp_HxT
             replace HyN := Lib.hid sp_HyN
             clear sp_HyN
             replace HyT := Lib.hid sp_HyT
             clear sp_HyT
             have ht := Touch.set (((D4.setCell ⟨bx, 0, none⟩ (.int .u8 e0.v)).setCell ⟨bx, 1, none⟩ (.int .u8 e0.k)).setCell ⟨bx, 2, none⟩ (.slice Ax e0.ns.length cx)) bx 3 (.slice Bx e0.ts.length dx)
             have hf := HFx.out.set bx 3 (.slice Bx e0.ts.length dx)
             have sp_HxN := HxN.out.boxT HKx.out (by decide) 3 (.slice Bx e0.ts.length dx)
             have sp_HxT := HxT.out.boxT HKx.out (by decide) 3 (.slice Bx e0.ts.length dx)
             have sp_HyN := HyN.out.boxT HKx.out (by decide) 3 (.slice Bx e0.ts.length dx)
             have sp_HyT := HyT.out.boxT HKx.out (by decide) 3 (.slice Bx e0.ts.length dx)
             replace HKx := hh (HKx.out.set 3 (.slice Bx e0.ts.length dx))
             have hord := HORD.out
             replace HP4 := hh (HP4.out.touch ht (by omega))
             replace HP5 := hh (HP5.out.touch ht (by omega))
             replace HB := hh (Touch.step HB.out ht (by omega))
             replace HG := hh (Touch.step HG.out ht (by omega))
             replace HPy := hh (HPy.out.touch ht (by omega))
             replace HFy := hh (HFy.out.touch ht (by omega))
             replace HKy := hh (HKy.out.touch ht (by omega))
             clear hord
             replace HFx := Lib.hid hf
             clear ht hf
             replace HxN := Lib.hid sp_HxN
             clear sp_HxN
             replace HxT := Lib.hid sp_HxT
             clear sp_HxT
             replace HyN := Lib.hid sp_HyN
             clear sp_HyN
             replace HyT := Lib.hid sp_HyT
             clear sp_HyT
             have hs : D4.heap.size ≤ ((((D4.setCell ⟨bx, 0, none⟩ (.int .u8 e0.v)).setCell ⟨bx, 1, none⟩ (.int .u8 e0.k)).setCell ⟨bx, 2, none⟩ (.slice Ax e0.ns.length cx)).setCell ⟨bx, 3, none⟩ (.slice Bx e0.ts.length dx)).heap.size := by simp
             replace HORD := hh (And.intro HORD.out hs)
             replace HPx := Lib.hid hp
             clear hp hs
             refine hK.out _ _ (HKS.out _ HG.out) (fun hHeld => ?_)
             clear hK K
             generalize ((((D4.setCell ⟨bx, 0, none⟩ (.int .u8 e0.v)).setCell ⟨bx, 1, none⟩ (.int .u8 e0.k)).setCell ⟨bx, 2, none⟩ (.slice Ax e0.ns.length cx)).setCell ⟨bx, 3, none⟩ (.slice Bx e0.ts.length dx)) = D5 at HP4 HP5 HB HG HPx HFx HKx HxN HxT HyN HyT HPy HFy HKy HORD hHeld ⊢
             try simp only [Act.put, List.setIfInBounds_toArray, List.set_cons_zero, List.set_cons_succ]
             refine wpAnyH_ready (rs := [7]) (by kernel_rfl) (by simp) ?_
             refine (AllReadyH.cons (o := { dst := none, op := Go.Op.store 44 (Go.Operand.tmp 8) (Go.Operand.tmp 24), type := 0, pos := "law.go:78", after := #[{ on := 5, ground := Go.Ground.data }, { on := 3, ground := Go.Ground.data }, { on := 6, ground := Go.Ground.chain }, { on := 0, ground := Go.Ground.phase }, { on := 1, ground := Go.Ground.phase }, { on := 2, ground := Go.Ground.phase }, { on := 3, ground := Go.Ground.phase }, { on := 4, ground := Go.Ground.phase }, { on := 5, ground := Go.Ground.phase }, { on := 6, ground := Go.Ground.phase }], guard := none }) rfl (fun K hK => ?br30_7) AllReadyH.nil)
             case br30_7 =>
              obtain ⟨hpy_0, hpy_1, hpy_2, hpy_3⟩ := HPy.out
              have f0 := HFy.out.2 0
              have f1 := HFy.out.2 1
              have f2 := HFy.out.2 2
              have f3 := HFy.out.2 3
              go_simp
              clear hpy_0 hpy_1 hpy_2 hpy_3
              clear f0 f1 f2 f3
              have hp := ((((HPy.out.set0 (.int .u8 e1.v)).set1 (.int .u8 e1.k)).set2 (.slice Ay e1.ns.length cy)).set3 (.slice By e1.ts.length dy))
              have ht := Touch.set D5 bY 0 (.int .u8 e1.v)
              have hf := HFy.out.set bY 0 (.int .u8 e1.v)
              have sp_HxN := HxN.out.boxT HKy.out (by decide) 0 (.int .u8 e1.v)
              have sp_HxT := HxT.out.boxT HKy.out (by decide) 0 (.int .u8 e1.v)
              have sp_HyN := HyN.out.boxT HKy.out (by decide) 0 (.int .u8 e1.v)
              have sp_HyT := HyT.out.boxT HKy.out (by decide) 0 (.int .u8 e1.v)
              replace HKy := hh (HKy.out.set 0 (.int .u8 e1.v))
              have hord := HORD.out
              replace HP4 := hh (HP4.out.touch ht (by omega))
              replace HP5 := hh (HP5.out.touch ht (by omega))
              replace HB := hh (Touch.step HB.out ht (by omega))
              replace HG := hh (Touch.step HG.out ht (by omega))
              replace HPx := hh (HPx.out.touch ht (by omega))
              replace HFx := hh (HFx.out.touch ht (by omega))
              replace HKx := hh (HKx.out.touch ht (by omega))
              clear hord
              replace HFy := Lib.hid hf
              clear ht hf
              replace HxN := Lib.hid sp_HxN
              clear sp_HxN
              replace HxT := Lib.hid sp_HxT
              clear sp_HxT
              replace HyN := Lib.hid sp_HyN
              clear sp_HyN
              replace HyT := Lib.hid sp_HyT
              clear sp_HyT
              have ht := Touch.set (D5.setCell ⟨bY, 0, none⟩ (.int .u8 e1.v)) bY 1 (.int .u8 e1.k)
              have hf := HFy.out.set bY 1 (.int .u8 e1.k)
              have sp_HxN := HxN.out.boxT HKy.out (by decide) 1 (.int .u8 e1.k)
              have sp_HxT := HxT.out.boxT HKy.out (by decide) 1 (.int .u8 e1.k)
              have sp_HyN := HyN.out.boxT HKy.out (by decide) 1 (.int .u8 e1.k)
              have sp_HyT := HyT.out.boxT HKy.out (by decide) 1 (.int .u8 e1.k)
              replace HKy := hh (HKy.out.set 1 (.int .u8 e1.k))
              have hord := HORD.out
              replace HP4 := hh (HP4.out.touch ht (by omega))
              replace HP5 := hh (HP5.out.touch ht (by omega))
              replace HB := hh (Touch.step HB.out ht (by omega))
              replace HG := hh (Touch.step HG.out ht (by omega))
              replace HPx := hh (HPx.out.touch ht (by omega))
              replace HFx := hh (HFx.out.touch ht (by omega))
              replace HKx := hh (HKx.out.touch ht (by omega))
              clear hord
              replace HFy := Lib.hid hf
              clear ht hf
              replace HxN := Lib.hid sp_HxN
              clear sp_HxN
              replace HxT := Lib.hid sp_HxT
              clear sp_HxT
              replace HyN := Lib.hid sp_HyN
              clear sp_HyN
              replace HyT := Lib.hid sp_HyT
              clear sp_HyT
              have ht := Touch.set ((D5.setCell ⟨bY, 0, none⟩ (.int .u8 e1.v)).setCell ⟨bY, 1, none⟩ (.int .u8 e1.k)) bY 2 (.slice Ay e1.ns.length cy)
              have hf := HFy.out.set bY 2 (.slice Ay e1.ns.length cy)
              have sp_HxN := HxN.out.boxT HKy.out (by decide) 2 (.slice Ay e1.ns.length cy)
              have sp_HxT := HxT.out.boxT HKy.out (by decide) 2 (.slice Ay e1.ns.length cy)
              have sp_HyN := HyN.out.boxT HKy.out (by decide) 2 (.slice Ay e1.ns.length cy)
              have sp_HyT := HyT.out.boxT HKy.out (by decide) 2 (.slice Ay e1.ns.length cy)
              replace HKy := hh (HKy.out.set 2 (.slice Ay e1.ns.length cy))
              have hord := HORD.out
              replace HP4 := hh (HP4.out.touch ht (by omega))
              replace HP5 := hh (HP5.out.touch ht (by omega))
              replace HB := hh (Touch.step HB.out ht (by omega))
              replace HG := hh (Touch.step HG.out ht (by omega))
              replace HPx := hh (HPx.out.touch ht (by omega))
              replace HFx := hh (HFx.out.touch ht (by omega))
              replace HKx := hh (HKx.out.touch ht (by omega))
              clear hord
              replace HFy := Lib.hid hf
              clear ht hf
              replace HxN := Lib.hid sp_HxN
              clear sp_HxN
              replace HxT := Lib.hid sp_HxT
              clear sp_HxT
              replace HyN := Lib.hid sp_HyN
              clear sp_HyN
              replace HyT := Lib.hid sp_HyT
              clear sp_HyT
              have ht := Touch.set (((D5.setCell ⟨bY, 0, none⟩ (.int .u8 e1.v)).setCell ⟨bY, 1, none⟩ (.int .u8 e1.k)).setCell ⟨bY, 2, none⟩ (.slice Ay e1.ns.length cy)) bY 3 (.slice By e1.ts.length dy)
              have hf := HFy.out.set bY 3 (.slice By e1.ts.length dy)
              have sp_HxN := HxN.out.boxT HKy.out (by decide) 3 (.slice By e1.ts.length dy)
              have sp_HxT := HxT.out.boxT HKy.out (by decide) 3 (.slice By e1.ts.length dy)
              have sp_HyN := HyN.out.boxT HKy.out (by decide) 3 (.slice By e1.ts.length dy)
              have sp_HyT := HyT.out.boxT HKy.out (by decide) 3 (.slice By e1.ts.length dy)
              replace HKy := hh (HKy.out.set 3 (.slice By e1.ts.length dy))
              have hord := HORD.out
              replace HP4 := hh (HP4.out.touch ht (by omega))
              replace HP5 := hh (HP5.out.touch ht (by omega))
              replace HB := hh (Touch.step HB.out ht (by omega))
              replace HG := hh (Touch.step HG.out ht (by omega))
              replace HPx := hh (HPx.out.touch ht (by omega))
              replace HFx := hh (HFx.out.touch ht (by omega))
              replace HKx := hh (HKx.out.touch ht (by omega))
              clear hord
              replace HFy := Lib.hid hf
              clear ht hf
              replace HxN := Lib.hid sp_HxN
              clear sp_HxN
              replace HxT := Lib.hid sp_HxT
              clear sp_HxT
              replace HyN := Lib.hid sp_HyN
              clear sp_HyN
              replace HyT := Lib.hid sp_HyT
              clear sp_HyT
              have hs : D5.heap.size ≤ ((((D5.setCell ⟨bY, 0, none⟩ (.int .u8 e1.v)).setCell ⟨bY, 1, none⟩ (.int .u8 e1.k)).setCell ⟨bY, 2, none⟩ (.slice Ay e1.ns.length cy)).setCell ⟨bY, 3, none⟩ (.slice By e1.ts.length dy)).heap.size := by simp
              replace HORD := hh (And.intro HORD.out hs)
              replace HPy := Lib.hid hp
              clear hp hs
              refine hK.out _ _ (HKS.out _ HG.out) (fun hHeld => ?_)
              clear hK K
              generalize ((((D5.setCell ⟨bY, 0, none⟩ (.int .u8 e1.v)).setCell ⟨bY, 1, none⟩ (.int .u8 e1.k)).setCell ⟨bY, 2, none⟩ (.slice Ay e1.ns.length cy)).setCell ⟨bY, 3, none⟩ (.slice By e1.ts.length dy)) = D6 at HP4 HP5 HB HG HPx HFx HKx HxN HxT HyN HyT HPy HFy HKy HORD hHeld ⊢
              try simp only [Act.put, List.setIfInBounds_toArray, List.set_cons_zero, List.set_cons_succ]
              refine wpAnyH_done (by kernel_rfl) ?_ _
              go_wp2_with fail
              go_meet
              exact ⟨bx, bY, Ax, cx, Bx, dx, Ay, cy, By, dy, rfl, rfl, Lib.hid ⟨HPx.out, HPy.out, ev_of HY0.out.v HY0.out.k HY0.out.fit HY0.out.txt HxN.out HxT.out, ev_of HY1.out.v HY1.out.k HY1.out.fit HY1.out.txt HyN.out HyT.out, HG.out⟩⟩
          case br27_5 =>
           have hb := (Below.refl D2.heap.size D2).alloc (Nat.le_refl _) (.cells #[.int .u8 0, .int .u8 0, .slice none 0 0, .slice none 0 0] 44)
           have hs : D2.heap.size + 1 ≤ (D2.alloc (.cells #[.int .u8 0, .int .u8 0, .slice none 0 0, .slice none 0 0] 44)).heap.size := by simp
           replace HP4 := hh (HP4.out.below hb)
           replace HP5 := hh (HP5.out.below hb)
           replace HB := hh (below_step HB.out hb)
           replace HG := hh (below_step HG.out hb)
           replace HPx := hh (HPx.out.below hb)
           replace HFx := hh (HFx.out.below hb)
           replace HKx := hh (HKx.out.below hb)
           replace HxN := hh (HxN.out.below hb)
           replace HxT := hh (HxT.out.below hb)
           replace HORD := hh (And.intro HORD.out hs)
           have HPy := hh (show Four _ D2.heap.size _ _ _ _ from box4 D2 (.int .u8 0) (.int .u8 0) (.slice none 0 0) (.slice none 0 0) 44)
           have HFy := hh (free_new D2 #[.int .u8 0, .int .u8 0, .slice none 0 0, .slice none 0 0] 44)
           have HKy := hh (boxT_new D2 #[.int .u8 0, .int .u8 0, .slice none 0 0, .slice none 0 0] 44)
           go_simp
           refine hK.out _ _ (HKS.out _ HG.out) (fun hHeld => ?_)
           clear hK K
           clear hb hs
           generalize hWs : D2.heap.size = bY at HP4 HP5 HB HG HPx HFx HKx HxN HxT HPy HFy HKy HORD ⊢
           clear hWs
           generalize D2.alloc (.cells #[.int .u8 0, .int .u8 0, .slice none 0 0, .slice none 0 0] 44) = D3 at HP4 HP5 HB HG HPx HFx HKx HxN HxT HPy HFy HKy HORD hHeld ⊢
           try simp only [Act.put, List.setIfInBounds_toArray, List.set_cons_zero, List.set_cons_succ]
           refine wpAnyH_ready (rs := [3]) (by kernel_rfl) (by simp) ?_
           refine (AllReadyH.cons (o := { dst := some 24, op := Go.Op.call { callee := Go.Callee.value (Go.Operand.func 24), args := #[Go.Operand.tmp 23], argTypes := #[44] }, type := 44, pos := "law.go:78", after := #[{ on := 2, ground := Go.Ground.data }, { on := 1, ground := Go.Ground.chain }], guard := none }) rfl (fun K hK => ?br31_3) AllReadyH.nil)
           case br31_3 =>
            go_simp
            go_at_call 24
            refine (own_x A1 c1 B1 g1 e1 (by have := HL1.out; omega) (by have := HL1.out; omega) _ (HY1.out.below HB.out)).mono ?_; rintro z D4 ⟨Ay, cy, By, dy, my, rfl, hm1, hm2, hn, ht, hb⟩
            simp only [evV]
            replace HP4 := hh (HP4.out.below hb)
            replace HP5 := hh (HP5.out.below hb)
            replace HB := hh (below_step HB.out hb)
            replace HG := hh (below_step HG.out hb)
            replace HPx := hh (HPx.out.below hb)
            replace HFx := hh (HFx.out.below hb)
            replace HKx := hh (HKx.out.below hb)
            replace HxN := hh (HxN.out.below hb)
            replace HxT := hh (HxT.out.below hb)
            replace HPy := hh (HPy.out.below hb)
            replace HFy := hh (HFy.out.below hb)
            replace HKy := hh (HKy.out.below hb)
            replace HORD := hh (And.intro HORD.out (And.intro hm1 (And.intro hm2 hb.size)))
            have HyN := Lib.hid hn
            have HyT := Lib.hid ht
            clear hn ht hm1 hm2 hb
            refine hK.out _ _ (HKS.out _ HG.out) (fun hHeld => ?_)
            clear hK K
            try simp only [Act.put, List.setIfInBounds_toArray, List.set_cons_zero, List.set_cons_succ]
            refine wpAnyH_ready (rs := [6]) (by kernel_rfl) (by simp) ?_
            refine (AllReadyH.cons (o := { dst := none, op := Go.Op.store 44 (Go.Operand.tmp 7) (Go.Operand.tmp 22), type := 0, pos := "law.go:78", after := #[{ on := 4, ground := Go.Ground.data }, { on := 1, ground := Go.Ground.data }, { on := 3, ground := Go.Ground.chain }, { on := 0, ground := Go.Ground.phase }, { on := 1, ground := Go.Ground.phase }, { on := 2, ground := Go.Ground.textOnly Go.Departure.lateStores }, { on := 3, ground := Go.Ground.textOnly Go.Departure.lateStoresUnsure }, { on := 4, ground := Go.Ground.phase }, { on := 5, ground := Go.Ground.phase }], guard := none }) rfl (fun K hK => ?br32_6) AllReadyH.nil)
            case br32_6 =>
             obtain ⟨hpx_0, hpx_1, hpx_2, hpx_3⟩ := HPx.out
             have f0 := HFx.out.2 0
             have f1 := HFx.out.2 1
             have f2 := HFx.out.2 2
             have f3 := HFx.out.2 3
             go_simp
             clear hpx_0 hpx_1 hpx_2 hpx_3
             clear f0 f1 f2 f3
             have hp := ((((HPx.out.set0 (.int .u8 e0.v)).set1 (.int .u8 e0.k)).set2 (.slice Ax e0.ns.length cx)).set3 (.slice Bx e0.ts.length dx))
             have ht := Touch.set D4 bx 0 (.int .u8 e0.v)
             have hf := HFx.out.set bx 0 (.int .u8 e0.v)
             have sp_HxN := HxN.out.boxT HKx.out (by decide) 0 (.int .u8 e0.v)
             have sp_HxT := HxT.out.boxT HKx.out (by decide) 0 (.int .u8 e0.v)
             have sp_HyN := HyN.out.boxT HKx.out (by decide) 0 (.int .u8 e0.v)
             have sp_HyT := HyT.out.boxT HKx.out (by decide) 0 (.int .u8 e0.v)
             replace HKx := hh (HKx.out.set 0 (.int .u8 e0.v))
             have hord := HORD.out
             replace HP4 := hh (HP4.out.touch ht (by omega))
             replace HP5 := hh (HP5.out.touch ht (by omega))
             replace HB := hh (Touch.step HB.out ht (by omega))
             replace HG := hh (Touch.step HG.out ht (by omega))
             replace HPy := hh (HPy.out.touch ht (by omega))
             replace HFy := hh (HFy.out.touch ht (by omega))
             replace HKy := hh (HKy.out.touch ht (by omega))
             clear hord
             replace HFx := Lib.hid hf
             clear ht hf
             replace HxN := Lib.hid sp_HxN
             clear sp_HxN
             replace HxT := Lib.hid sp_HxT
             clear sp_HxT
             replace HyN := Lib.hid sp_HyN
             clear sp_HyN
             replace HyT := Lib.hid sp_HyT
             clear sp_HyT
             have ht := Touch.set (D4.setCell ⟨bx, 0, none⟩ (.int .u8 e0.v)) bx 1 (.int .u8 e0.k)
             have hf := HFx.out.set bx 1 (.int .u8 e0.k)
             have sp_HxN := HxN.out.boxT HKx.out (by decide) 1 (.int .u8 e0.k)
             have sp_HxT := HxT.out.boxT HKx.out (by decide) 1 (.int .u8 e0.k)
             have sp_HyN := HyN.out.boxT HKx.out (by decide) 1 (.int .u8 e0.k)
             have sp_HyT := HyT.out.boxT HKx.out (by decide) 1 (.int .u8 e0.k)
             replace HKx := hh (HKx.out.set 1 (.int .u8 e0.k))
             have hord := HORD.out
             replace HP4 := hh (HP4.out.touch ht (by omega))
             replace HP5 := hh (HP5.out.touch ht (by omega))
             replace HB := hh (Touch.step HB.out ht (by omega))
             replace HG := hh (Touch.step HG.out ht (by omega))
             replace HPy := hh (HPy.out.touch ht (by omega))
             replace HFy := hh (HFy.out.touch ht (by omega))
             replace HKy := hh (HKy.out.touch ht (by omega))
             clear hord
             replace HFx := Lib.hid hf
             clear ht hf
             replace HxN := Lib.hid sp_HxN
             clear sp_HxN
             replace HxT := Lib.hid sp_HxT
             clear sp_HxT
             replace HyN := Lib.hid sp_HyN
             clear sp_HyN
             replace HyT := Lib.hid sp_HyT
             clear sp_HyT
             have ht := Touch.set ((D4.setCell ⟨bx, 0, none⟩ (.int .u8 e0.v)).setCell ⟨bx, 1, none⟩ (.int .u8 e0.k)) bx 2 (.slice Ax e0.ns.length cx)
             have hf := HFx.out.set bx 2 (.slice Ax e0.ns.length cx)
             have sp_HxN := HxN.out.boxT HKx.out (by decide) 2 (.slice Ax e0.ns.length cx)
             have sp_HxT := HxT.out.boxT HKx.out (by decide) 2 (.slice Ax e0.ns.length cx)
             have sp_HyN := HyN.out.boxT HKx.out (by decide) 2 (.slice Ax e0.ns.length cx)
             have sp_HyT := HyT.out.boxT HKx.out (by decide) 2 (.slice Ax e0.ns.length cx)
             replace HKx := hh (HKx.out.set 2 (.slice Ax e0.ns.length cx))
             have hord := HORD.out
             replace HP4 := hh (HP4.out.touch ht (by omega))
             replace HP5 := hh (HP5.out.touch ht (by omega))
             replace HB := hh (Touch.step HB.out ht (by omega))
             replace HG := hh (Touch.step HG.out ht (by omega))
             replace HPy := hh (HPy.out.touch ht (by omega))
             replace HFy := hh (HFy.out.touch ht (by omega))
             replace HKy := hh (HKy.out.touch ht (by omega))
             clear hord
             replace HFx := Lib.hid hf
             clear ht hf
             replace HxN := Lib.hid sp_HxN
             clear sp_HxN
             replace HxT := Lib.hid sp_HxT
             clear sp_HxT
             replace HyN := Lib.hid sp_HyN
             clear sp_HyN
             replace HyT := Lib.hid sp_HyT
             clear sp_HyT
             have ht := Touch.set (((D4.setCell ⟨bx, 0, none⟩ (.int .u8 e0.v)).setCell ⟨bx, 1, none⟩ (.int .u8 e0.k)).setCell ⟨bx, 2, none⟩ (.slice Ax e0.ns.length cx)) bx 3 (.slice Bx e0.ts.length dx)
             have hf := HFx.out.set bx 3 (.slice Bx e0.ts.length dx)
             have sp_HxN := HxN.out.boxT HKx.out (by decide) 3 (.slice Bx e0.ts.length dx)
             have sp_HxT := HxT.out.boxT HKx.out (by decide) 3 (.slice Bx e0.ts.length dx)
             have sp_HyN := HyN.out.boxT HKx.out (by decide) 3 (.slice Bx e0.ts.length dx)
             have sp_HyT := HyT.out.boxT HKx.out (by decide) 3 (.slice Bx e0.ts.length dx)
             replace HKx := hh (HKx.out.set 3 (.slice Bx e0.ts.length dx))
             have hord := HORD.out
             replace HP4 := hh (HP4.out.touch ht (by omega))
             replace HP5 := hh (HP5.out.touch ht (by omega))
             replace HB := hh (Touch.step HB.out ht (by omega))
             replace HG := hh (Touch.step HG.out ht (by omega))
             replace HPy := hh (HPy.out.touch ht (by omega))
             replace HFy := hh (HFy.out.touch ht (by omega))
             replace HKy := hh (HKy.out.touch ht (by omega))
             clear hord
             replace HFx := Lib.hid hf
             clear ht hf
             replace HxN := Lib.hid sp_HxN
             clear sp_HxN
             replace HxT := Lib.hid sp_HxT
             clear sp_HxT
             replace HyN := Lib.hid sp_HyN
             clear sp_HyN
             replace HyT := Lib.hid sp_HyT
             clear sp_HyT
             have hs : D4.heap.size ≤ ((((D4.setCell ⟨bx, 0, none⟩ (.int .u8 e0.v)).setCell ⟨bx, 1, none⟩ (.int .u8 e0.k)).setCell ⟨bx, 2, none⟩ (.slice Ax e0.ns.length cx)).setCell ⟨bx, 3, none⟩ (.slice Bx e0.ts.length dx)).heap.size := by simp
             replace HORD := hh (And.intro HORD.out hs)
             replace HPx := Lib.hid hp
             clear hp hs
             refine hK.out _ _ (HKS.out _ HG.out) (fun hHeld => ?_)
             clear hK K
             generalize ((((D4.setCell ⟨bx, 0, none⟩ (.int .u8 e0.v)).setCell ⟨bx, 1, none⟩ (.int .u8 e0.k)).setCell ⟨bx, 2, none⟩ (.slice Ax e0.ns.length cx)).setCell ⟨bx, 3, none⟩ (.slice Bx e0.ts.length dx)) = D5 at HP4 HP5 HB HG HPx HFx HKx HxN HxT HPy HFy HKy HyN HyT HORD hHeld ⊢
             try simp only [Act.put, List.setIfInBounds_toArray, List.set_cons_zero, List.set_cons_succ]
             refine wpAnyH_ready (rs := [7]) (by kernel_rfl) (by simp) ?_
             refine (AllReadyH.cons (o := { dst := none, op := Go.Op.store 44 (Go.Operand.tmp 8) (Go.Operand.tmp 24), type := 0, pos := "law.go:78", after := #[{ on := 5, ground := Go.Ground.data }, { on := 3, ground := Go.Ground.data }, { on := 6, ground := Go.Ground.chain }, { on := 0, ground := Go.Ground.phase }, { on := 1, ground := Go.Ground.phase }, { on := 2, ground := Go.Ground.phase }, { on := 3, ground := Go.Ground.phase }, { on := 4, ground := Go.Ground.phase }, { on := 5, ground := Go.Ground.phase }, { on := 6, ground := Go.Ground.phase }], guard := none }) rfl (fun K hK => ?br33_7) AllReadyH.nil)
             case br33_7 =>
              obtain ⟨hpy_0, hpy_1, hpy_2, hpy_3⟩ := HPy.out
              have f0 := HFy.out.2 0
              have f1 := HFy.out.2 1
              have f2 := HFy.out.2 2
              have f3 := HFy.out.2 3
              go_simp
              clear hpy_0 hpy_1 hpy_2 hpy_3
              clear f0 f1 f2 f3
              have hp := ((((HPy.out.set0 (.int .u8 e1.v)).set1 (.int .u8 e1.k)).set2 (.slice Ay e1.ns.length cy)).set3 (.slice By e1.ts.length dy))
              have ht := Touch.set D5 bY 0 (.int .u8 e1.v)
              have hf := HFy.out.set bY 0 (.int .u8 e1.v)
              have sp_HxN := HxN.out.boxT HKy.out (by decide) 0 (.int .u8 e1.v)
              have sp_HxT := HxT.out.boxT HKy.out (by decide) 0 (.int .u8 e1.v)
              have sp_HyN := HyN.out.boxT HKy.out (by decide) 0 (.int .u8 e1.v)
              have sp_HyT := HyT.out.boxT HKy.out (by decide) 0 (.int .u8 e1.v)
              replace HKy := hh (HKy.out.set 0 (.int .u8 e1.v))
              have hord := HORD.out
              replace HP4 := hh (HP4.out.touch ht (by omega))
              replace HP5 := hh (HP5.out.touch ht (by omega))
              replace HB := hh (Touch.step HB.out ht (by omega))
              replace HG := hh (Touch.step HG.out ht (by omega))
              replace HPx := hh (HPx.out.touch ht (by omega))
              replace HFx := hh (HFx.out.touch ht (by omega))
              replace HKx := hh (HKx.out.touch ht (by omega))
              clear hord
              replace HFy := Lib.hid hf
              clear ht hf
              replace HxN := Lib.hid sp_HxN
              clear sp_HxN
              replace HxT := Lib.hid sp_HxT
              clear sp_HxT
              replace HyN := Lib.hid sp_HyN
              clear sp_HyN
              replace HyT := Lib.hid sp_HyT
              clear sp_HyT
              have ht := Touch.set (D5.setCell ⟨bY, 0, none⟩ (.int .u8 e1.v)) bY 1 (.int .u8 e1.k)
              have hf := HFy.out.set bY 1 (.int .u8 e1.k)
              have sp_HxN := HxN.out.boxT HKy.out (by decide) 1 (.int .u8 e1.k)
              have sp_HxT := HxT.out.boxT HKy.out (by decide) 1 (.int .u8 e1.k)
              have sp_HyN := HyN.out.boxT HKy.out (by decide) 1 (.int .u8 e1.k)
              have sp_HyT := HyT.out.boxT HKy.out (by decide) 1 (.int .u8 e1.k)
              replace HKy := hh (HKy.out.set 1 (.int .u8 e1.k))
              have hord := HORD.out
              replace HP4 := hh (HP4.out.touch ht (by omega))
              replace HP5 := hh (HP5.out.touch ht (by omega))
              replace HB := hh (Touch.step HB.out ht (by omega))
              replace HG := hh (Touch.step HG.out ht (by omega))
              replace HPx := hh (HPx.out.touch ht (by omega))
              replace HFx := hh (HFx.out.touch ht (by omega))
              replace HKx := hh (HKx.out.touch ht (by omega))
              clear hord
              replace HFy := Lib.hid hf
              clear ht hf
              replace HxN := Lib.hid sp_HxN
              clear sp_HxN
              replace HxT := Lib.hid sp_HxT
              clear sp_HxT
              replace HyN := Lib.hid sp_HyN
              clear sp_HyN
              replace HyT := Lib.hid sp_HyT
              clear sp_HyT
              have ht := Touch.set ((D5.setCell ⟨bY, 0, none⟩ (.int .u8 e1.v)).setCell ⟨bY, 1, none⟩ (.int .u8 e1.k)) bY 2 (.slice Ay e1.ns.length cy)
              have hf := HFy.out.set bY 2 (.slice Ay e1.ns.length cy)
              have sp_HxN := HxN.out.boxT HKy.out (by decide) 2 (.slice Ay e1.ns.length cy)
              have sp_HxT := HxT.out.boxT HKy.out (by decide) 2 (.slice Ay e1.ns.length cy)
              have sp_HyN := HyN.out.boxT HKy.out (by decide) 2 (.slice Ay e1.ns.length cy)
              have sp_HyT := HyT.out.boxT HKy.out (by decide) 2 (.slice Ay e1.ns.length cy)
              replace HKy := hh (HKy.out.set 2 (.slice Ay e1.ns.length cy))
              have hord := HORD.out
              replace HP4 := hh (HP4.out.touch ht (by omega))
              replace HP5 := hh (HP5.out.touch ht (by omega))
              replace HB := hh (Touch.step HB.out ht (by omega))
              replace HG := hh (Touch.step HG.out ht (by omega))
              replace HPx := hh (HPx.out.touch ht (by omega))
              replace HFx := hh (HFx.out.touch ht (by omega))
              replace HKx := hh (HKx.out.touch ht (by omega))
              clear hord
              replace HFy := Lib.hid hf
              clear ht hf
              replace HxN := Lib.hid sp_HxN
              clear sp_HxN
              replace HxT := Lib.hid sp_HxT
              clear sp_HxT
              replace HyN := Lib.hid sp_HyN
              clear sp_HyN
              replace HyT := Lib.hid sp_HyT
              clear sp_HyT
              have ht := Touch.set (((D5.setCell ⟨bY, 0, none⟩ (.int .u8 e1.v)).setCell ⟨bY, 1, none⟩ (.int .u8 e1.k)).setCell ⟨bY, 2, none⟩ (.slice Ay e1.ns.length cy)) bY 3 (.slice By e1.ts.length dy)
              have hf := HFy.out.set bY 3 (.slice By e1.ts.length dy)
              have sp_HxN := HxN.out.boxT HKy.out (by decide) 3 (.slice By e1.ts.length dy)
              have sp_HxT := HxT.out.boxT HKy.out (by decide) 3 (.slice By e1.ts.length dy)
              have sp_HyN := HyN.out.boxT HKy.out (by decide) 3 (.slice By e1.ts.length dy)
              have sp_HyT := HyT.out.boxT HKy.out (by decide) 3 (.slice By e1.ts.length dy)
              replace HKy := hh (HKy.out.set 3 (.slice By e1.ts.length dy))
              have hord := HORD.out
              replace HP4 := hh (HP4.out.touch ht (by omega))
              replace HP5 := hh (HP5.out.touch ht (by omega))
              replace HB := hh (Touch.step HB.out ht (by omega))
              replace HG := hh (Touch.step HG.out ht (by omega))
              replace HPx := hh (HPx.out.touch ht (by omega))
              replace HFx := hh (HFx.out.touch ht (by omega))
              replace HKx := hh (HKx.out.touch ht (by omega))
              clear hord
              replace HFy := Lib.hid hf
              clear ht hf
              replace HxN := Lib.hid sp_HxN
              clear sp_HxN
              replace HxT := Lib.hid sp_HxT
              clear sp_HxT
              replace HyN := Lib.hid sp_HyN
              clear sp_HyN
              replace HyT := Lib.hid sp_HyT
              clear sp_HyT
              have hs : D5.heap.size ≤ ((((D5.setCell ⟨bY, 0, none⟩ (.int .u8 e1.v)).setCell ⟨bY, 1, none⟩ (.int .u8 e1.k)).setCell ⟨bY, 2, none⟩ (.slice Ay e1.ns.length cy)).setCell ⟨bY, 3, none⟩ (.slice By e1.ts.length dy)).heap.size := by simp
              replace HORD := hh (And.intro HORD.out hs)
              replace HPy := Lib.hid hp
              clear hp hs
              refine hK.out _ _ (HKS.out _ HG.out) (fun hHeld => ?_)
              clear hK K
              generalize ((((D5.setCell ⟨bY, 0, none⟩ (.int .u8 e1.v)).setCell ⟨bY, 1, none⟩ (.int .u8 e1.k)).setCell ⟨bY, 2, none⟩ (.slice Ay e1.ns.length cy)).setCell ⟨bY, 3, none⟩ (.slice By e1.ts.length dy)) = D6 at HP4 HP5 HB HG HPx HFx HKx HxN HxT HPy HFy HKy HyN HyT HORD hHeld ⊢
              try simp only [Act.put, List.setIfInBounds_toArray, List.set_cons_zero, List.set_cons_succ]
              refine wpAnyH_done (by kernel_rfl) ?_ _
              go_wp2_with fail
              go_meet
              exact ⟨bx, bY, Ax, cx, Bx, dx, Ay, cy, By, dy, rfl, rfl, Lib.hid ⟨HPx.out, HPy.out, ev_of HY0.out.v HY0.out.k HY0.out.fit HY0.out.txt HxN.out HxT.out, ev_of HY1.out.v HY1.out.k HY1.out.fit HY1.out.txt HyN.out HyT.out, HG.out⟩⟩
         case br26_5 =>
          have hb := (Below.refl D1.heap.size D1).alloc (Nat.le_refl _) (.cells #[.int .u8 0, .int .u8 0, .slice none 0 0, .slice none 0 0] 44)
          have hs : D1.heap.size + 1 ≤ (D1.alloc (.cells #[.int .u8 0, .int .u8 0, .slice none 0 0, .slice none 0 0] 44)).heap.size := by simp
          replace HP4 := hh (HP4.out.below hb)
          replace HP5 := hh (HP5.out.below hb)
          replace HB := hh (below_step HB.out hb)
          replace HG := hh (below_step HG.out hb)
          replace HPx := hh (HPx.out.below hb)
          replace HFx := hh (HFx.out.below hb)
          replace HKx := hh (HKx.out.below hb)
          replace HORD := hh (And.intro HORD.out hs)
          have HPy := hh (show Four _ D1.heap.size _ _ _ _ from box4 D1 (.int .u8 0) (.int .u8 0) (.slice none 0 0) (.slice none 0 0) 44)
          have HFy := hh (free_new D1 #[.int .u8 0, .int .u8 0, .slice none 0 0, .slice none 0 0] 44)
          have HKy := hh (boxT_new D1 #[.int .u8 0, .int .u8 0, .slice none 0 0, .slice none 0 0] 44)
          go_simp
          refine hK.out _ _ (HKS.out _ HG.out) (fun hHeld => ?_)
          clear hK K
          clear hb hs
          generalize hWs : D1.heap.size = bY at HP4 HP5 HB HG HPx HFx HKx HPy HFy HKy HORD ⊢
          clear hWs
          generalize D1.alloc (.cells #[.int .u8 0, .int .u8 0, .slice none 0 0, .slice none 0 0] 44) = D2 at HP4 HP5 HB HG HPx HFx HKx HPy HFy HKy HORD hHeld ⊢
          try simp only [Act.put, List.setIfInBounds_toArray, List.set_cons_zero, List.set_cons_succ]
          refine wpAnyH_ready (rs := [1]) (by kernel_rfl) (by simp) ?_
          refine (AllReadyH.cons (o := { dst := some 22, op := Go.Op.call { callee := Go.Callee.value (Go.Operand.func 24), args := #[Go.Operand.tmp 21], argTypes := #[44] }, type := 44, pos := "law.go:78", after := #[{ on := 0, ground := Go.Ground.data }], guard := none }) rfl (fun K hK => ?br34_1) AllReadyH.nil)
          case br34_1 =>
           go_simp
           go_at_call 24
           refine (own_x A0 c0 B0 g0 e0 (by have := HL0.out; omega) (by have := HL0.out; omega) _ (HY0.out.below HB.out)).mono ?_; rintro z D3 ⟨Ax, cx, Bx, dx, mx, rfl, hm1, hm2, hn, ht, hb⟩
           simp only [evV]
           replace HP4 := hh (HP4.out.below hb)
           replace HP5 := hh (HP5.out.below hb)
           replace HB := hh (below_step HB.out hb)
           replace HG := hh (below_step HG.out hb)
           replace HPx := hh (HPx.out.below hb)
           replace HFx := hh (HFx.out.below hb)
           replace HKx := hh (HKx.out.below hb)
           replace HPy := hh (HPy.out.below hb)
           replace HFy := hh (HFy.out.below hb)
           replace HKy := hh (HKy.out.below hb)
           replace HORD := hh (And.intro HORD.out (And.intro hm1 (And.intro hm2 hb.size)))
           have HxN := Lib.hid hn
           have HxT := Lib.hid ht
           clear hn ht hm1 hm2 hb
           refine hK.out _ _ (HKS.out _ HG.out) (fun hHeld => ?_)
           clear hK K
           try simp only [Act.put, List.setIfInBounds_toArray, List.set_cons_zero, List.set_cons_succ]
           refine wpAnyH_ready (rs := [3]) (by kernel_rfl) (by simp) ?_
           refine (AllReadyH.cons (o := { dst := some 24, op := Go.Op.call { callee := Go.Callee.value (Go.Operand.func 24), args := #[Go.Operand.tmp 23], argTypes := #[44] }, type := 44, pos := "law.go:78", after := #[{ on := 2, ground := Go.Ground.data }, { on := 1, ground := Go.Ground.chain }], guard := none }) rfl (fun K hK => ?br35_3) AllReadyH.nil)
           case br35_3 =>
            go_simp
            go_at_call 24
            refine (own_x A1 c1 B1 g1 e1 (by have := HL1.out; omega) (by have := HL1.out; omega) _ (HY1.out.below HB.out)).mono ?_; rintro z D4 ⟨Ay, cy, By, dy, my, rfl, hm1, hm2, hn, ht, hb⟩
            simp only [evV]
            replace HP4 := hh (HP4.out.below hb)
            replace HP5 := hh (HP5.out.below hb)
            replace HB := hh (below_step HB.out hb)
            replace HG := hh (below_step HG.out hb)
            replace HPx := hh (HPx.out.below hb)
            replace HFx := hh (HFx.out.below hb)
            replace HKx := hh (HKx.out.below hb)
            replace HPy := hh (HPy.out.below hb)
            replace HFy := hh (HFy.out.below hb)
            replace HKy := hh (HKy.out.below hb)
            replace HxN := hh (HxN.out.below hb)
            replace HxT := hh (HxT.out.below hb)
            replace HORD := hh (And.intro HORD.out (And.intro hm1 (And.intro hm2 hb.size)))
            have HyN := Lib.hid hn
            have HyT := Lib.hid ht
            clear hn ht hm1 hm2 hb
            refine hK.out _ _ (HKS.out _ HG.out) (fun hHeld => ?_)
            clear hK K
            try simp only [Act.put, List.setIfInBounds_toArray, List.set_cons_zero, List.set_cons_succ]
            refine wpAnyH_ready (rs := [6]) (by kernel_rfl) (by simp) ?_
            refine (AllReadyH.cons (o := { dst := none, op := Go.Op.store 44 (Go.Operand.tmp 7) (Go.Operand.tmp 22), type := 0, pos := "law.go:78", after := #[{ on := 4, ground := Go.Ground.data }, { on := 1, ground := Go.Ground.data }, { on := 3, ground := Go.Ground.chain }, { on := 0, ground := Go.Ground.phase }, { on := 1, ground := Go.Ground.phase }, { on := 2, ground := Go.Ground.textOnly Go.Departure.lateStores }, { on := 3, ground := Go.Ground.textOnly Go.Departure.lateStoresUnsure }, { on := 4, ground := Go.Ground.phase }, { on := 5, ground := Go.Ground.phase }], guard := none }) rfl (fun K hK => ?br36_6) AllReadyH.nil)
            case br36_6 =>
             obtain ⟨hpx_0, hpx_1, hpx_2, hpx_3⟩ := HPx.out
             have f0 := HFx.out.2 0
             have f1 := HFx.out.2 1
             have f2 := HFx.out.2 2
             have f3 := HFx.out.2 3
             go_simp
             clear hpx_0 hpx_1 hpx_2 hpx_3
             clear f0 f1 f2 f3
             have hp := ((((HPx.out.set0 (.int .u8 e0.v)).set1 (.int .u8 e0.k)).set2 (.slice Ax e0.ns.length cx)).set3 (.slice Bx e0.ts.length dx))
             have ht := Touch.set D4 bx 0 (.int .u8 e0.v)
             have hf := HFx.out.set bx 0 (.int .u8 e0.v)
             have sp_HxN := HxN.out.boxT HKx.out (by decide) 0 (.int .u8 e0.v)
             have sp_HxT := HxT.out.boxT HKx.out (by decide) 0 (.int .u8 e0.v)
             have sp_HyN := HyN.out.boxT HKx.out (by decide) 0 (.int .u8 e0.v)
             have sp_HyT := HyT.out.boxT HKx.out (by decide) 0 (.int .u8 e0.v)
             replace HKx := hh (HKx.out.set 0 (.int .u8 e0.v))
             have hord := HORD.out
             replace HP4 := hh (HP4.out.touch ht (by omega))
             replace HP5 := hh (HP5.out.touch ht (by omega))
             replace HB := hh (Touch.step HB.out ht (by omega))
             replace HG := hh (Touch.step HG.out ht (by omega))
             replace HPy := hh (HPy.out.touch ht (by omega))
             replace HFy := hh (HFy.out.touch ht (by omega))
             replace HKy := hh (HKy.out.touch ht (by omega))
             clear hord
             replace HFx := Lib.hid hf
             clear ht hf
             replace HxN := Lib.hid sp_HxN
             clear sp_HxN
             replace HxT := Lib.hid sp_HxT
             clear sp_HxT
             replace HyN := Lib.hid sp_HyN
             clear sp_HyN
             replace HyT := Lib.hid sp_HyT
             clear sp_HyT
             have ht := Touch.set (D4.setCell ⟨bx, 0, none⟩ (.int .u8 e0.v)) bx 1 (.int .u8 e0.k)
             have hf := HFx.out.set bx 1 (.int .u8 e0.k)
             have sp_HxN := HxN.out.boxT HKx.out (by decide) 1 (.int .u8 e0.k)
             have sp_HxT := HxT.out.boxT HKx.out (by decide) 1 (.int .u8 e0.k)
             have sp_HyN := HyN.out.boxT HKx.out (by decide) 1 (.int .u8 e0.k)
             have sp_HyT := HyT.out.boxT HKx.out (by decide) 1 (.int .u8 e0.k)
             replace HKx := hh (HKx.out.set 1 (.int .u8 e0.k))
             have hord := HORD.out
             replace HP4 := hh (HP4.out.touch ht (by omega))
             replace HP5 := hh (HP5.out.touch ht (by omega))
             replace HB := hh (Touch.step HB.out ht (by omega))
             replace HG := hh (Touch.step HG.out ht (by omega))
             replace HPy := hh (HPy.out.touch ht (by omega))
             replace HFy := hh (HFy.out.touch ht (by omega))
             replace HKy := hh (HKy.out.touch ht (by omega))
             clear hord
             replace HFx := Lib.hid hf
             clear ht hf
             replace HxN := Lib.hid sp_HxN
             clear sp_HxN
             replace HxT := Lib.hid sp_HxT
             clear sp_HxT
             replace HyN := Lib.hid sp_HyN
             clear sp_HyN
             replace HyT := Lib.hid sp_HyT
             clear sp_HyT
             have ht := Touch.set ((D4.setCell ⟨bx, 0, none⟩ (.int .u8 e0.v)).setCell ⟨bx, 1, none⟩ (.int .u8 e0.k)) bx 2 (.slice Ax e0.ns.length cx)
             have hf := HFx.out.set bx 2 (.slice Ax e0.ns.length cx)
             have sp_HxN := HxN.out.boxT HKx.out (by decide) 2 (.slice Ax e0.ns.length cx)
             have sp_HxT := HxT.out.boxT HKx.out (by decide) 2 (.slice Ax e0.ns.length cx)
             have sp_HyN := HyN.out.boxT HKx.out (by decide) 2 (.slice Ax e0.ns.length cx)
             have sp_HyT := HyT.out.boxT HKx.out (by decide) 2 (.slice Ax e0.ns.length cx)
             replace HKx := hh (HKx.out.set 2 (.slice Ax e0.ns.length cx))
             have hord := HORD.out
             replace HP4 := hh (HP4.out.touch ht (by omega))
             replace HP5 := hh (HP5.out.touch ht (by omega))
             replace HB := hh (Touch.step HB.out ht (by omega))
             replace HG := hh (Touch.step HG.out ht (by omega))
             replace HPy := hh (HPy.out.touch ht (by omega))
             replace HFy := hh (HFy.out.touch ht (by omega))
             replace HKy := hh (HKy.out.touch ht (by omega))
             clear hord
             replace HFx := Lib.hid hf
             clear ht hf
             replace HxN := Lib.hid sp_HxN
             clear sp_HxN
             replace HxT := Lib.hid sp_HxT
             clear sp_HxT
             replace HyN := Lib.hid sp_HyN
             clear sp_HyN
             replace HyT := Lib.hid sp_HyT
             clear sp_HyT
             have ht := Touch.set (((D4.setCell ⟨bx, 0, none⟩ (.int .u8 e0.v)).setCell ⟨bx, 1, none⟩ (.int .u8 e0.k)).setCell ⟨bx, 2, none⟩ (.slice Ax e0.ns.length cx)) bx 3 (.slice Bx e0.ts.length dx)
             have hf := HFx.out.set bx 3 (.slice Bx e0.ts.length dx)
             have sp_HxN := HxN.out.boxT HKx.out (by decide) 3 (.slice Bx e0.ts.length dx)
             have sp_HxT := HxT.out.boxT HKx.out (by decide) 3 (.slice Bx e0.ts.length dx)
             have sp_HyN := HyN.out.boxT HKx.out (by decide) 3 (.slice Bx e0.ts.length dx)
             have sp_HyT := HyT.out.boxT HKx.out (by decide) 3 (.slice Bx e0.ts.length dx)
             replace HKx := hh (HKx.out.set 3 (.slice Bx e0.ts.length dx))
             have hord := HORD.out
             replace HP4 := hh (HP4.out.touch ht (by omega))
             replace HP5 := hh (HP5.out.touch ht (by omega))
             replace HB := hh (Touch.step HB.out ht (by omega))
             replace HG := hh (Touch.step HG.out ht (by omega))
             replace HPy := hh (HPy.out.touch ht (by omega))
             replace HFy := hh (HFy.out.touch ht (by omega))
             replace HKy := hh (HKy.out.touch ht (by omega))
             clear hord
             replace HFx := Lib.hid hf
             clear ht hf
             replace HxN := Lib.hid sp_HxN
             clear sp_HxN
             replace HxT := Lib.hid sp_HxT
             clear sp_HxT
             replace HyN := Lib.hid sp_HyN
             clear sp_HyN
             replace HyT := Lib.hid sp_HyT
             clear sp_HyT
             have hs : D4.heap.size ≤ ((((D4.setCell ⟨bx, 0, none⟩ (.int .u8 e0.v)).setCell ⟨bx, 1, none⟩ (.int .u8 e0.k)).setCell ⟨bx, 2, none⟩ (.slice Ax e0.ns.length cx)).setCell ⟨bx, 3, none⟩ (.slice Bx e0.ts.length dx)).heap.size := by simp
             replace HORD := hh (And.intro HORD.out hs)
             replace HPx := Lib.hid hp
             clear hp hs
             refine hK.out _ _ (HKS.out _ HG.out) (fun hHeld => ?_)
             clear hK K
             generalize ((((D4.setCell ⟨bx, 0, none⟩ (.int .u8 e0.v)).setCell ⟨bx, 1, none⟩ (.int .u8 e0.k)).setCell ⟨bx, 2, none⟩ (.slice Ax e0.ns.length cx)).setCell ⟨bx, 3, none⟩ (.slice Bx e0.ts.length dx)) = D5 at HP4 HP5 HB HG HPx HFx HKx HPy HFy HKy HxN HxT HyN HyT HORD hHeld ⊢
             try simp only [Act.put, List.setIfInBounds_toArray, List.set_cons_zero, List.set_cons_succ]
             refine wpAnyH_ready (rs := [7]) (by kernel_rfl) (by simp) ?_
             refine (AllReadyH.cons (o := { dst := none, op := Go.Op.store 44 (Go.Operand.tmp 8) (Go.Operand.tmp 24), type := 0, pos := "law.go:78", after := #[{ on := 5, ground := Go.Ground.data }, { on := 3, ground := Go.Ground.data }, { on := 6, ground := Go.Ground.chain }, { on := 0, ground := Go.Ground.phase }, { on := 1, ground := Go.Ground.phase }, { on := 2, ground := Go.Ground.phase }, { on := 3, ground := Go.Ground.phase }, { on := 4, ground := Go.Ground.phase }, { on := 5, ground := Go.Ground.phase }, { on := 6, ground := Go.Ground.phase }], guard := none }) rfl (fun K hK => ?br37_7) AllReadyH.nil)
             case br37_7 =>
              obtain ⟨hpy_0, hpy_1, hpy_2, hpy_3⟩ := HPy.out
              have f0 := HFy.out.2 0
              have f1 := HFy.out.2 1
              have f2 := HFy.out.2 2
              have f3 := HFy.out.2 3
              go_simp
              clear hpy_0 hpy_1 hpy_2 hpy_3
              clear f0 f1 f2 f3
              have hp := ((((HPy.out.set0 (.int .u8 e1.v)).set1 (.int .u8 e1.k)).set2 (.slice Ay e1.ns.length cy)).set3 (.slice By e1.ts.length dy))
              have ht := Touch.set D5 bY 0 (.int .u8 e1.v)
              have hf := HFy.out.set bY 0 (.int .u8 e1.v)
              have sp_HxN := HxN.out.boxT HKy.out (by decide) 0 (.int .u8 e1.v)
              have sp_HxT := HxT.out.boxT HKy.out (by decide) 0 (.int .u8 e1.v)
              have sp_HyN := HyN.out.boxT HKy.out (by decide) 0 (.int .u8 e1.v)
              have sp_HyT := HyT.out.boxT HKy.out (by decide) 0 (.int .u8 e1.v)
              replace HKy := hh (HKy.out.set 0 (.int .u8 e1.v))
              have hord := HORD.out
              replace HP4 := hh (HP4.out.touch ht (by omega))
              replace HP5 := hh (HP5.out.touch ht (by omega))
              replace HB := hh (Touch.step HB.out ht (by omega))
              replace HG := hh (Touch.step HG.out ht (by omega))
              replace HPx := hh (HPx.out.touch ht (by omega))
              replace HFx := hh (HFx.out.touch ht (by omega))
              replace HKx := hh (HKx.out.touch ht (by omega))
              clear hord
              replace HFy := Lib.hid hf
              clear ht hf
              replace HxN := Lib.hid sp_HxN
              clear sp_HxN
              replace HxT := Lib.hid sp_HxT
              clear sp_HxT
              replace HyN := Lib.hid sp_HyN
              clear sp_HyN
              replace HyT := Lib.hid sp_HyT
              clear sp_HyT
              have ht := Touch.set (D5.setCell ⟨bY, 0, none⟩ (.int .u8 e1.v)) bY 1 (.int .u8 e1.k)
              have hf := HFy.out.set bY 1 (.int .u8 e1.k)
              have sp_HxN := HxN.out.boxT HKy.out (by decide) 1 (.int .u8 e1.k)
              have sp_HxT := HxT.out.boxT HKy.out (by decide) 1 (.int .u8 e1.k)
              have sp_HyN := HyN.out.boxT HKy.out (by decide) 1 (.int .u8 e1.k)
              have sp_HyT := HyT.out.boxT HKy.out (by decide) 1 (.int .u8 e1.k)
              replace HKy := hh (HKy.out.set 1 (.int .u8 e1.k))
              have hord := HORD.out
              replace HP4 := hh (HP4.out.touch ht (by omega))
              replace HP5 := hh (HP5.out.touch ht (by omega))
              replace HB := hh (Touch.step HB.out ht (by omega))
              replace HG := hh (Touch.step HG.out ht (by omega))
              replace HPx := hh (HPx.out.touch ht (by omega))
              replace HFx := hh (HFx.out.touch ht (by omega))
              replace HKx := hh (HKx.out.touch ht (by omega))
              clear hord
              replace HFy := Lib.hid hf
              clear ht hf
              replace HxN := Lib.hid sp_HxN
              clear sp_HxN
              replace HxT := Lib.hid sp_HxT
              clear sp_HxT
              replace HyN := Lib.hid sp_HyN
              clear sp_HyN
              replace HyT := Lib.hid sp_HyT
              clear sp_HyT
              have ht := Touch.set ((D5.setCell ⟨bY, 0, none⟩ (.int .u8 e1.v)).setCell ⟨bY, 1, none⟩ (.int .u8 e1.k)) bY 2 (.slice Ay e1.ns.length cy)
              have hf := HFy.out.set bY 2 (.slice Ay e1.ns.length cy)
              have sp_HxN := HxN.out.boxT HKy.out (by decide) 2 (.slice Ay e1.ns.length cy)
              have sp_HxT := HxT.out.boxT HKy.out (by decide) 2 (.slice Ay e1.ns.length cy)
              have sp_HyN := HyN.out.boxT HKy.out (by decide) 2 (.slice Ay e1.ns.length cy)
              have sp_HyT := HyT.out.boxT HKy.out (by decide) 2 (.slice Ay e1.ns.length cy)
              replace HKy := hh (HKy.out.set 2 (.slice Ay e1.ns.length cy))
              have hord := HORD.out
              replace HP4 := hh (HP4.out.touch ht (by omega))
              replace HP5 := hh (HP5.out.touch ht (by omega))
              replace HB := hh (Touch.step HB.out ht (by omega))
              replace HG := hh (Touch.step HG.out ht (by omega))
              replace HPx := hh (HPx.out.touch ht (by omega))
              replace HFx := hh (HFx.out.touch ht (by omega))
              replace HKx := hh (HKx.out.touch ht (by omega))
              clear hord
              replace HFy := Lib.hid hf
              clear ht hf
              replace HxN := Lib.hid sp_HxN
              clear sp_HxN
              replace HxT := Lib.hid sp_HxT
              clear sp_HxT
              replace HyN := Lib.hid sp_HyN
              clear sp_HyN
              replace HyT := Lib.hid sp_HyT
              clear sp_HyT
              have ht := Touch.set (((D5.setCell ⟨bY, 0, none⟩ (.int .u8 e1.v)).setCell ⟨bY, 1, none⟩ (.int .u8 e1.k)).setCell ⟨bY, 2, none⟩ (.slice Ay e1.ns.length cy)) bY 3 (.slice By e1.ts.length dy)
              have hf := HFy.out.set bY 3 (.slice By e1.ts.length dy)
              have sp_HxN := HxN.out.boxT HKy.out (by decide) 3 (.slice By e1.ts.length dy)
              have sp_HxT := HxT.out.boxT HKy.out (by decide) 3 (.slice By e1.ts.length dy)
              have sp_HyN := HyN.out.boxT HKy.out (by decide) 3 (.slice By e1.ts.length dy)
              have sp_HyT := HyT.out.boxT HKy.out (by decide) 3 (.slice By e1.ts.length dy)
              replace HKy := hh (HKy.out.set 3 (.slice By e1.ts.length dy))
              have hord := HORD.out
              replace HP4 := hh (HP4.out.touch ht (by omega))
              replace HP5 := hh (HP5.out.touch ht (by omega))
              replace HB := hh (Touch.step HB.out ht (by omega))
              replace HG := hh (Touch.step HG.out ht (by omega))
              replace HPx := hh (HPx.out.touch ht (by omega))
              replace HFx := hh (HFx.out.touch ht (by omega))
              replace HKx := hh (HKx.out.touch ht (by omega))
              clear hord
              replace HFy := Lib.hid hf
              clear ht hf
              replace HxN := Lib.hid sp_HxN
              clear sp_HxN
              replace HxT := Lib.hid sp_HxT
              clear sp_HxT
              replace HyN := Lib.hid sp_HyN
              clear sp_HyN
              replace HyT := Lib.hid sp_HyT
              clear sp_HyT
              have hs : D5.heap.size ≤ ((((D5.setCell ⟨bY, 0, none⟩ (.int .u8 e1.v)).setCell ⟨bY, 1, none⟩ (.int .u8 e1.k)).setCell ⟨bY, 2, none⟩ (.slice Ay e1.ns.length cy)).setCell ⟨bY, 3, none⟩ (.slice By e1.ts.length dy)).heap.size := by simp
              replace HORD := hh (And.intro HORD.out hs)
              replace HPy := Lib.hid hp
              clear hp hs
              refine hK.out _ _ (HKS.out _ HG.out) (fun hHeld => ?_)
              clear hK K
              generalize ((((D5.setCell ⟨bY, 0, none⟩ (.int .u8 e1.v)).setCell ⟨bY, 1, none⟩ (.int .u8 e1.k)).setCell ⟨bY, 2, none⟩ (.slice Ay e1.ns.length cy)).setCell ⟨bY, 3, none⟩ (.slice By e1.ts.length dy)) = D6 at HP4 HP5 HB HG HPx HFx HKx HPy HFy HKy HxN HxT HyN HyT HORD hHeld ⊢
              try simp only [Act.put, List.setIfInBounds_toArray, List.set_cons_zero, List.set_cons_succ]
              refine wpAnyH_done (by kernel_rfl) ?_ _
              go_wp2_with fail
              go_meet
              exact ⟨bx, bY, Ax, cx, Bx, dx, Ay, cy, By, dy, rfl, rfl, Lib.hid ⟨HPx.out, HPy.out, ev_of HY0.out.v HY0.out.k HY0.out.fit HY0.out.txt HxN.out HxT.out, ev_of HY1.out.v HY1.out.k HY1.out.fit HY1.out.txt HyN.out HyT.out, HG.out⟩⟩
        case br3_5 =>
         have hb := (Below.refl D0.heap.size D0).alloc (Nat.le_refl _) (.cells #[.int .u8 0, .int .u8 0, .slice none 0 0, .slice none 0 0] 44)
         have hs : D0.heap.size + 1 ≤ (D0.alloc (.cells #[.int .u8 0, .int .u8 0, .slice none 0 0, .slice none 0 0] 44)).heap.size := by simp
         replace HP4 := hh (HP4.out.below hb)
         replace HP5 := hh (HP5.out.below hb)
         replace HB := hh (below_step HB.out hb)
         replace HG := hh (below_step HG.out hb)
         replace HORD := hh (And.intro HORD.out hs)
         have HPy := hh (show Four _ D0.heap.size _ _ _ _ from box4 D0 (.int .u8 0) (.int .u8 0) (.slice none 0 0) (.slice none 0 0) 44)
         have HFy := hh (free_new D0 #[.int .u8 0, .int .u8 0, .slice none 0 0, .slice none 0 0] 44)
         have HKy := hh (boxT_new D0 #[.int .u8 0, .int .u8 0, .slice none 0 0, .slice none 0 0] 44)
         go_simp
         refine hK.out _ _ (HKS.out _ HG.out) (fun hHeld => ?_)
         clear hK K
         clear hb hs
         generalize hWs : D0.heap.size = bY at HP4 HP5 HB HG HPy HFy HKy HORD ⊢
         clear hWs
         generalize D0.alloc (.cells #[.int .u8 0, .int .u8 0, .slice none 0 0, .slice none 0 0] 44) = D1 at HP4 HP5 HB HG HPy HFy HKy HORD hHeld ⊢
         try simp only [Act.put, List.setIfInBounds_toArray, List.set_cons_zero, List.set_cons_succ]
         refine wpAnyH_ready (rs := [1, 4]) (by kernel_rfl) (by simp) ?_
         refine (AllReadyH.cons (o := { dst := some 22, op := Go.Op.call { callee := Go.Callee.value (Go.Operand.func 24), args := #[Go.Operand.tmp 21], argTypes := #[44] }, type := 44, pos := "law.go:78", after := #[{ on := 0, ground := Go.Ground.data }], guard := none }) rfl (fun K hK => ?br38_1) (AllReadyH.cons (o := { dst := some 7, op := Go.Op.alloc 44, type := 0, pos := "law.go:78", after := #[], guard := none }) rfl (fun K hK => ?br38_4) AllReadyH.nil))
         case br38_1 =>
          go_simp
          go_at_call 24
          refine (own_x A0 c0 B0 g0 e0 (by have := HL0.out; omega) (by have := HL0.out; omega) _ (HY0.out.below HB.out)).mono ?_; rintro z D2 ⟨Ax, cx, Bx, dx, mx, rfl, hm1, hm2, hn, ht, hb⟩
          simp only [evV]
          replace HP4 := hh (HP4.out.below hb)
          replace HP5 := hh (HP5.out.below hb)
          replace HB := hh (below_step HB.out hb)
          replace HG := hh (below_step HG.out hb)
          replace HPy := hh (HPy.out.below hb)
          replace HFy := hh (HFy.out.below hb)
          replace HKy := hh (HKy.out.below hb)
          replace HORD := hh (And.intro HORD.out (And.intro hm1 (And.intro hm2 hb.size)))
          have HxN := Lib.hid hn
          have HxT := Lib.hid ht
          clear hn ht hm1 hm2 hb
          refine hK.out _ _ (HKS.out _ HG.out) (fun hHeld => ?_)
          clear hK K
          try simp only [Act.put, List.setIfInBounds_toArray, List.set_cons_zero, List.set_cons_succ]
          refine wpAnyH_ready (rs := [3, 4]) (by kernel_rfl) (by simp) ?_
          refine (AllReadyH.cons (o := { dst := some 24, op := Go.Op.call { callee := Go.Callee.value (Go.Operand.func 24), args := #[Go.Operand.tmp 23], argTypes := #[44] }, type := 44, pos := "law.go:78", after := #[{ on := 2, ground := Go.Ground.data }, { on := 1, ground := Go.Ground.chain }], guard := none }) rfl (fun K hK => ?br39_3) (AllReadyH.cons (o := { dst := some 7, op := Go.Op.alloc 44, type := 0, pos := "law.go:78", after := #[], guard := none }) rfl (fun K hK => ?br39_4) AllReadyH.nil))
          case br39_3 =>
           go_simp
           go_at_call 24
           refine (own_x A1 c1 B1 g1 e1 (by have := HL1.out; omega) (by have := HL1.out; omega) _ (HY1.out.below HB.out)).mono ?_; rintro z D3 ⟨Ay, cy, By, dy, my, rfl, hm1, hm2, hn, ht, hb⟩
           simp only [evV]
           replace HP4 := hh (HP4.out.below hb)
           replace HP5 := hh (HP5.out.below hb)
           replace HB := hh (below_step HB.out hb)
           replace HG := hh (below_step HG.out hb)
           replace HPy := hh (HPy.out.below hb)
           replace HFy := hh (HFy.out.below hb)
           replace HKy := hh (HKy.out.below hb)
           replace HxN := hh (HxN.out.below hb)
           replace HxT := hh (HxT.out.below hb)
           replace HORD := hh (And.intro HORD.out (And.intro hm1 (And.intro hm2 hb.size)))
           have HyN := Lib.hid hn
           have HyT := Lib.hid ht
           clear hn ht hm1 hm2 hb
           refine hK.out _ _ (HKS.out _ HG.out) (fun hHeld => ?_)
           clear hK K
           try simp only [Act.put, List.setIfInBounds_toArray, List.set_cons_zero, List.set_cons_succ]
           refine wpAnyH_ready (rs := [4]) (by kernel_rfl) (by simp) ?_
           refine (AllReadyH.cons (o := { dst := some 7, op := Go.Op.alloc 44, type := 0, pos := "law.go:78", after := #[], guard := none }) rfl (fun K hK => ?br40_4) AllReadyH.nil)
           case br40_4 =>
            have hb := (Below.refl D3.heap.size D3).alloc (Nat.le_refl _) (.cells #[.int .u8 0, .int .u8 0, .slice none 0 0, .slice none 0 0] 44)
            have hs : D3.heap.size + 1 ≤ (D3.alloc (.cells #[.int .u8 0, .int .u8 0, .slice none 0 0, .slice none 0 0] 44)).heap.size := by simp
            replace HP4 := hh (HP4.out.below hb)
            replace HP5 := hh (HP5.out.below hb)
            replace HB := hh (below_step HB.out hb)
            replace HG := hh (below_step HG.out hb)
            replace HPy := hh (HPy.out.below hb)
            replace HFy := hh (HFy.out.below hb)
            replace HKy := hh (HKy.out.below hb)
            replace HxN := hh (HxN.out.below hb)
            replace HxT := hh (HxT.out.below hb)
            replace HyN := hh (HyN.out.below hb)
            replace HyT := hh (HyT.out.below hb)
            replace HORD := hh (And.intro HORD.out hs)
            have HPx := hh (show Four _ D3.heap.size _ _ _ _ from box4 D3 (.int .u8 0) (.int .u8 0) (.slice none 0 0) (.slice none 0 0) 44)
            have HFx := hh (free_new D3 #[.int .u8 0, .int .u8 0, .slice none 0 0, .slice none 0 0] 44)
            have HKx := hh (boxT_new D3 #[.int .u8 0, .int .u8 0, .slice none 0 0, .slice none 0 0] 44)
            go_simp
            refine hK.out _ _ (HKS.out _ HG.out) (fun hHeld => ?_)
            clear hK K
            clear hb hs
            generalize hWs : D3.heap.size = bx at HP4 HP5 HB HG HPy HFy HKy HxN HxT HyN HyT HPx HFx HKx HORD ⊢
            clear hWs
            generalize D3.alloc (.cells #[.int .u8 0, .int .u8 0, .slice none 0 0, .slice none 0 0] 44) = D4 at HP4 HP5 HB HG HPy HFy HKy HxN HxT HyN HyT HPx HFx HKx HORD hHeld ⊢
            try simp only [Act.put, List.setIfInBounds_toArray, List.set_cons_zero, List.set_cons_succ]
            refine wpAnyH_ready (rs := [6]) (by kernel_rfl) (by simp) ?_
            refine (AllReadyH.cons (o := { dst := none, op := Go.Op.store 44 (Go.Operand.tmp 7) (Go.Operand.tmp 22), type := 0, pos := "law.go:78", after := #[{ on := 4, ground := Go.Ground.data }, { on := 1, ground := Go.Ground.data }, { on := 3, ground := Go.Ground.chain }, { on := 0, ground := Go.Ground.phase }, { on := 1, ground := Go.Ground.phase }, { on := 2, ground := Go.Ground.textOnly Go.Departure.lateStores }, { on := 3, ground := Go.Ground.textOnly Go.Departure.lateStoresUnsure }, { on := 4, ground := Go.Ground.phase }, { on := 5, ground := Go.Ground.phase }], guard := none }) rfl (fun K hK => ?br41_6) AllReadyH.nil)
            case br41_6 =>
             obtain ⟨hpx_0, hpx_1, hpx_2, hpx_3⟩ := HPx.out
             have f0 := HFx.out.2 0
             have f1 := HFx.out.2 1
             have f2 := HFx.out.2 2
             have f3 := HFx.out.2 3
             go_simp
             clear hpx_0 hpx_1 hpx_2 hpx_3
             clear f0 f1 f2 f3
             have hp := ((((HPx.out.set0 (.int .u8 e0.v)).set1 (.int .u8 e0.k)).set2 (.slice Ax e0.ns.length cx)).set3 (.slice Bx e0.ts.length dx))
             have ht := Touch.set D4 bx 0 (.int .u8 e0.v)
             have hf := HFx.out.set bx 0 (.int .u8 e0.v)
             have sp_HxN := HxN.out.boxT HKx.out (by decide) 0 (.int .u8 e0.v)
             have sp_HxT := HxT.out.boxT HKx.out (by decide) 0 (.int .u8 e0.v)
             have sp_HyN := HyN.out.boxT HKx.out (by decide) 0 (.int .u8 e0.v)
             have sp_HyT := HyT.out.boxT HKx.out (by decide) 0 (.int .u8 e0.v)
             replace HKx := hh (HKx.out.set 0 (.int .u8 e0.v))
             have hord := HORD.out
             replace HP4 := hh (HP4.out.touch ht (by omega))
             replace HP5 := hh (HP5.out.touch ht (by omega))
             replace HB := hh (Touch.step HB.out ht (by omega))
             replace HG := hh (Touch.step HG.out ht (by omega))
             replace HPy := hh (HPy.out.touch ht (by omega))
             replace HFy := hh (HFy.out.touch ht (by omega))
             replace HKy := hh (HKy.out.touch ht (by omega))
             clear hord
             replace HFx := Lib.hid hf
             clear ht hf
             replace HxN := Lib.hid sp_HxN
             clear sp_HxN
             replace HxT := Lib.hid sp_HxT
             clear sp_HxT
             replace HyN := Lib.hid sp_HyN
             clear sp_HyN
             replace HyT := Lib.hid sp_HyT
             clear sp_HyT
             have ht := Touch.set (D4.setCell ⟨bx, 0, none⟩ (.int .u8 e0.v)) bx 1 (.int .u8 e0.k)
             have hf := HFx.out.set bx 1 (.int .u8 e0.k)
             have sp_HxN := HxN.out.boxT HKx.out (by decide) 1 (.int .u8 e0.k)
             have sp_HxT := HxT.out.boxT HKx.out (by decide) 1 (.int .u8 e0.k)
             have sp_HyN := HyN.out.boxT HKx.out (by decide) 1 (.int .u8 e0.k)
             have sp_HyT := HyT.out.boxT HKx.out (by decide) 1 (.int .u8 e0.k)
             replace HKx := hh (HKx.out.set 1 (.int .u8 e0.k))
             have hord := HORD.out
             replace HP4 := hh (HP4.out.touch ht (by omega))
             replace HP5 := hh (HP5.out.touch ht (by omega))
             replace HB := hh (Touch.step HB.out ht (by omega))
             replace HG := hh (Touch.step HG.out ht (by omega))
             replace HPy := hh (HPy.out.touch ht (by omega))
             replace HFy := hh (HFy.out.touch ht (by omega))
             replace HKy := hh (HKy.out.touch ht (by omega))
             clear hord
             replace HFx := Lib.hid hf
             clear ht hf
             replace HxN := Lib.hid sp_HxN
             clear sp_HxN
             replace HxT := Lib.hid sp_HxT
             clear sp_HxT
             replace HyN := Lib.hid sp_HyN
             clear sp_HyN
             replace HyT := Lib.hid sp_HyT
             clear sp_HyT
             have ht := Touch.set ((D4.setCell ⟨bx, 0, none⟩ (.int .u8 e0.v)).setCell ⟨bx, 1, none⟩ (.int .u8 e0.k)) bx 2 (.slice Ax e0.ns.length cx)
             have hf := HFx.out.set bx 2 (.slice Ax e0.ns.length cx)
             have sp_HxN := HxN.out.boxT HKx.out (by decide) 2 (.slice Ax e0.ns.length cx)
             have sp_HxT := HxT.out.boxT HKx.out (by decide) 2 (.slice Ax e0.ns.length cx)
             have sp_HyN := HyN.out.boxT HKx.out (by decide) 2 (.slice Ax e0.ns.length cx)
             have sp_HyT := HyT.out.boxT HKx.out (by decide) 2 (.slice Ax e0.ns.length cx)
             replace HKx := hh (HKx.out.set 2 (.slice Ax e0.ns.length cx))
             have hord := HORD.out
             replace HP4 := hh (HP4.out.touch ht (by omega))
             replace HP5 := hh (HP5.out.touch ht (by omega))
             replace HB := hh (Touch.step HB.out ht (by omega))
             replace HG := hh (Touch.step HG.out ht (by omega))
             replace HPy := hh (HPy.out.touch ht (by omega))
             replace HFy := hh (HFy.out.touch ht (by omega))
             replace HKy := hh (HKy.out.touch ht (by omega))
             clear hord
             replace HFx := Lib.hid hf
             clear ht hf
             replace HxN := Lib.hid sp_HxN
             clear sp_HxN
             replace HxT := Lib.hid sp_HxT
             clear sp_HxT
             replace HyN := Lib.hid sp_HyN
             clear sp_HyN
             replace HyT := Lib.hid sp_HyT
             clear sp_HyT
             have ht := Touch.set (((D4.setCell ⟨bx, 0, none⟩ (.int .u8 e0.v)).setCell ⟨bx, 1, none⟩ (.int .u8 e0.k)).setCell ⟨bx, 2, none⟩ (.slice Ax e0.ns.length cx)) bx 3 (.slice Bx e0.ts.length dx)
             have hf := HFx.out.set bx 3 (.slice Bx e0.ts.length dx)
             have sp_HxN := HxN.out.boxT HKx.out (by decide) 3 (.slice Bx e0.ts.length dx)
             have sp_HxT := HxT.out.boxT HKx.out (by decide) 3 (.slice Bx e0.ts.length dx)
             have sp_HyN := HyN.out.boxT HKx.out (by decide) 3 (.slice Bx e0.ts.length dx)
             have sp_HyT := HyT.out.boxT HKx.out (by decide) 3 (.slice Bx e0.ts.length dx)
             replace HKx := hh (HKx.out.set 3 (.slice Bx e0.ts.length dx))
             have hord := HORD.out
             replace HP4 := hh (HP4.out.touch ht (by omega))
             replace HP5 := hh (HP5.out.touch ht (by omega))
             replace HB := hh (Touch.step HB.out ht (by omega))
             replace HG := hh (Touch.step HG.out ht (by omega))
             replace HPy := hh (HPy.out.touch ht (by omega))
             replace HFy := hh (HFy.out.touch ht (by omega))
             replace HKy := hh (HKy.out.touch ht (by omega))
             clear hord
             replace HFx := Lib.hid hf
             clear ht hf
             replace HxN := Lib.hid sp_HxN
             clear sp_HxN
             replace HxT := Lib.hid sp_HxT
             clear sp_HxT
             replace HyN := Lib.hid sp_HyN
             clear sp_HyN
             replace HyT := Lib.hid sp_HyT
             clear sp_HyT
             have hs : D4.heap.size ≤ ((((D4.setCell ⟨bx, 0, none⟩ (.int .u8 e0.v)).setCell ⟨bx, 1, none⟩ (.int .u8 e0.k)).setCell ⟨bx, 2, none⟩ (.slice Ax e0.ns.length cx)).setCell ⟨bx, 3, none⟩ (.slice Bx e0.ts.length dx)).heap.size := by simp
             replace HORD := hh (And.intro HORD.out hs)
             replace HPx := Lib.hid hp
             clear hp hs
             refine hK.out _ _ (HKS.out _ HG.out) (fun hHeld => ?_)
             clear hK K
             generalize ((((D4.setCell ⟨bx, 0, none⟩ (.int .u8 e0.v)).setCell ⟨bx, 1, none⟩ (.int .u8 e0.k)).setCell ⟨bx, 2, none⟩ (.slice Ax e0.ns.length cx)).setCell ⟨bx, 3, none⟩ (.slice Bx e0.ts.length dx)) = D5 at HP4 HP5 HB HG HPy HFy HKy HxN HxT HyN HyT HPx HFx HKx HORD hHeld ⊢
             try simp only [Act.put, List.setIfInBounds_toArray, List.set_cons_zero, List.set_cons_succ]
             refine wpAnyH_ready (rs := [7]) (by kernel_rfl) (by simp) ?_
             refine (AllReadyH.cons (o := { dst := none, op := Go.Op.store 44 (Go.Operand.tmp 8) (Go.Operand.tmp 24), type := 0, pos := "law.go:78", after := #[{ on := 5, ground := Go.Ground.data }, { on := 3, ground := Go.Ground.data }, { on := 6, ground := Go.Ground.chain }, { on := 0, ground := Go.Ground.phase }, { on := 1, ground := Go.Ground.phase }, { on := 2, ground := Go.Ground.phase }, { on := 3, ground := Go.Ground.phase }, { on := 4, ground := Go.Ground.phase }, { on := 5, ground := Go.Ground.phase }, { on := 6, ground := Go.Ground.phase }], guard := none }) rfl (fun K hK => ?br42_7) AllReadyH.nil)
             case br42_7 =>
              obtain ⟨hpy_0, hpy_1, hpy_2, hpy_3⟩ := HPy.out
              have f0 := HFy.out.2 0
              have f1 := HFy.out.2 1
              have f2 := HFy.out.2 2
              have f3 := HFy.out.2 3
              go_simp
              clear hpy_0 hpy_1 hpy_2 hpy_3
              clear f0 f1 f2 f3
              have hp := ((((HPy.out.set0 (.int .u8 e1.v)).set1 (.int .u8 e1.k)).set2 (.slice Ay e1.ns.length cy)).set3 (.slice By e1.ts.length dy))
              have ht := Touch.set D5 bY 0 (.int .u8 e1.v)
              have hf := HFy.out.set bY 0 (.int .u8 e1.v)
              have sp_HxN := HxN.out.boxT HKy.out (by decide) 0 (.int .u8 e1.v)
              have sp_HxT := HxT.out.boxT HKy.out (by decide) 0 (.int .u8 e1.v)
              have sp_HyN := HyN.out.boxT HKy.out (by decide) 0 (.int .u8 e1.v)
              have sp_HyT := HyT.out.boxT HKy.out (by decide) 0 (.int .u8 e1.v)
              replace HKy := hh (HKy.out.set 0 (.int .u8 e1.v))
              have hord := HORD.out
              replace HP4 := hh (HP4.out.touch ht (by omega))
              replace HP5 := hh (HP5.out.touch ht (by omega))
              replace HB := hh (Touch.step HB.out ht (by omega))
              replace HG := hh (Touch.step HG.out ht (by omega))
              replace HPx := hh (HPx.out.touch ht (by omega))
              replace HFx := hh (HFx.out.touch ht (by omega))
              replace HKx := hh (HKx.out.touch ht (by omega))
              clear hord
              replace HFy := Lib.hid hf
              clear ht hf
              replace HxN := Lib.hid sp_HxN
              clear sp_HxN
              replace HxT := Lib.hid sp_HxT
              clear sp_HxT
              replace HyN := Lib.hid sp_HyN
              clear sp_HyN
              replace HyT := Lib.hid sp_HyT
              clear sp_HyT
              have ht := Touch.set (D5.setCell ⟨bY, 0, none⟩ (.int .u8 e1.v)) bY 1 (.int .u8 e1.k)
              have hf := HFy.out.set bY 1 (.int .u8 e1.k)
              have sp_HxN := HxN.out.boxT HKy.out (by decide) 1 (.int .u8 e1.k)
              have sp_HxT := HxT.out.boxT HKy.out (by decide) 1 (.int .u8 e1.k)
              have sp_HyN := HyN.out.boxT HKy.out (by decide) 1 (.int .u8 e1.k)
              have sp_HyT := HyT.out.boxT HKy.out (by decide) 1 (.int .u8 e1.k)
              replace HKy := hh (HKy.out.set 1 (.int .u8 e1.k))
              have hord := HORD.out
              replace HP4 := hh (HP4.out.touch ht (by omega))
              replace HP5 := hh (HP5.out.touch ht (by omega))
              replace HB := hh (Touch.step HB.out ht (by omega))
              replace HG := hh (Touch.step HG.out ht (by omega))
              replace HPx := hh (HPx.out.touch ht (by omega))
              replace HFx := hh (HFx.out.touch ht (by omega))
              replace HKx := hh (HKx.out.touch ht (by omega))
              clear hord
              replace HFy := Lib.hid hf
              clear ht hf
              replace HxN := Lib.hid sp_HxN
              clear sp_HxN
              replace HxT := Lib.hid sp_HxT
              clear sp_HxT
              replace HyN := Lib.hid sp_HyN
              clear sp_HyN
              replace HyT := Lib.hid sp_HyT
              clear sp_HyT
              have ht := Touch.set ((D5.setCell ⟨bY, 0, none⟩ (.int .u8 e1.v)).setCell ⟨bY, 1, none⟩ (.int .u8 e1.k)) bY 2 (.slice Ay e1.ns.length cy)
              have hf := HFy.out.set bY 2 (.slice Ay e1.ns.length cy)
              have sp_HxN := HxN.out.boxT HKy.out (by decide) 2 (.slice Ay e1.ns.length cy)
              have sp_HxT := HxT.out.boxT HKy.out (by decide) 2 (.slice Ay e1.ns.length cy)
              have sp_HyN := HyN.out.boxT HKy.out (by decide) 2 (.slice Ay e1.ns.length cy)
              have sp_HyT := HyT.out.boxT HKy.out (by decide) 2 (.slice Ay e1.ns.length cy)
              replace HKy := hh (HKy.out.set 2 (.slice Ay e1.ns.length cy))
              have hord := HORD.out
              replace HP4 := hh (HP4.out.touch ht (by omega))
              replace HP5 := hh (HP5.out.touch ht (by omega))
              replace HB := hh (Touch.step HB.out ht (by omega))
              replace HG := hh (Touch.step HG.out ht (by omega))
              replace HPx := hh (HPx.out.touch ht (by omega))
              replace HFx := hh (HFx.out.touch ht (by omega))
              replace HKx := hh (HKx.out.touch ht (by omega))
              clear hord
              replace HFy := Lib.hid hf
              clear ht hf
              replace HxN := Lib.hid sp_HxN
              clear sp_HxN
              replace HxT := Lib.hid sp_HxT
              clear sp_HxT
              replace HyN := Lib.hid sp_HyN
              clear sp_HyN
              replace HyT := Lib.hid sp_HyT
              clear sp_HyT
              have ht := Touch.set (((D5.setCell ⟨bY, 0, none⟩ (.int .u8 e1.v)).setCell ⟨bY, 1, none⟩ (.int .u8 e1.k)).setCell ⟨bY, 2, none⟩ (.slice Ay e1.ns.length cy)) bY 3 (.slice By e1.ts.length dy)
              have hf := HFy.out.set bY 3 (.slice By e1.ts.length dy)
              have sp_HxN := HxN.out.boxT HKy.out (by decide) 3 (.slice By e1.ts.length dy)
              have sp_HxT := HxT.out.boxT HKy.out (by decide) 3 (.slice By e1.ts.length dy)
              have sp_HyN := HyN.out.boxT HKy.out (by decide) 3 (.slice By e1.ts.length dy)
              have sp_HyT := HyT.out.boxT HKy.out (by decide) 3 (.slice By e1.ts.length dy)
              replace HKy := hh (HKy.out.set 3 (.slice By e1.ts.length dy))
              have hord := HORD.out
              replace HP4 := hh (HP4.out.touch ht (by omega))
              replace HP5 := hh (HP5.out.touch ht (by omega))
              replace HB := hh (Touch.step HB.out ht (by omega))
              replace HG := hh (Touch.step HG.out ht (by omega))
              replace HPx := hh (HPx.out.touch ht (by omega))
              replace HFx := hh (HFx.out.touch ht (by omega))
              replace HKx := hh (HKx.out.touch ht (by omega))
              clear hord
              replace HFy := Lib.hid hf
              clear ht hf
              replace HxN := Lib.hid sp_HxN
              clear sp_HxN
              replace HxT := Lib.hid sp_HxT
              clear sp_HxT
              replace HyN := Lib.hid sp_HyN
              clear sp_HyN
              replace HyT := Lib.hid sp_HyT
              clear sp_HyT
              have hs : D5.heap.size ≤ ((((D5.setCell ⟨bY, 0, none⟩ (.int .u8 e1.v)).setCell ⟨bY, 1, none⟩ (.int .u8 e1.k)).setCell ⟨bY, 2, none⟩ (.slice Ay e1.ns.length cy)).setCell ⟨bY, 3, none⟩ (.slice By e1.ts.length dy)).heap.size := by simp
              replace HORD := hh (And.intro HORD.out hs)
              replace HPy := Lib.hid hp
              clear hp hs
              refine hK.out _ _ (HKS.out _ HG.out) (fun hHeld => ?_)
              clear hK K
              generalize ((((D5.setCell ⟨bY, 0, none⟩ (.int .u8 e1.v)).setCell ⟨bY, 1, none⟩ (.int .u8 e1.k)).setCell ⟨bY, 2, none⟩ (.slice Ay e1.ns.length cy)).setCell ⟨bY, 3, none⟩ (.slice By e1.ts.length dy)) = D6 at HP4 HP5 HB HG HPy HFy HKy HxN HxT HyN HyT HPx HFx HKx HORD hHeld ⊢
              try simp only [Act.put, List.setIfInBounds_toArray, List.set_cons_zero, List.set_cons_succ]
              refine wpAnyH_done (by kernel_rfl) ?_ _
              go_wp2_with fail
              go_meet
              exact ⟨bx, bY, Ax, cx, Bx, dx, Ay, cy, By, dy, rfl, rfl, Lib.hid ⟨HPx.out, HPy.out, ev_of HY0.out.v HY0.out.k HY0.out.fit HY0.out.txt HxN.out HxT.out, ev_of HY1.out.v HY1.out.k HY1.out.fit HY1.out.txt HyN.out HyT.out, HG.out⟩⟩
          case br39_4 =>
           have hb := (Below.refl D2.heap.size D2).alloc (Nat.le_refl _) (.cells #[.int .u8 0, .int .u8 0, .slice none 0 0, .slice none 0 0] 44)
           have hs : D2.heap.size + 1 ≤ (D2.alloc (.cells #[.int .u8 0, .int .u8 0, .slice none 0 0, .slice none 0 0] 44)).heap.size := by simp
           replace HP4 := hh (HP4.out.below hb)
           replace HP5 := hh (HP5.out.below hb)
           replace HB := hh (below_step HB.out hb)
           replace HG := hh (below_step HG.out hb)
           replace HPy := hh (HPy.out.below hb)
           replace HFy := hh (HFy.out.below hb)
           replace HKy := hh (HKy.out.below hb)
           replace HxN := hh (HxN.out.below hb)
           replace HxT := hh (HxT.out.below hb)
           replace HORD := hh (And.intro HORD.out hs)
           have HPx := hh (show Four _ D2.heap.size _ _ _ _ from box4 D2 (.int .u8 0) (.int .u8 0) (.slice none 0 0) (.slice none 0 0) 44)
           have HFx := hh (free_new D2 #[.int .u8 0, .int .u8 0, .slice none 0 0, .slice none 0 0] 44)
           have HKx := hh (boxT_new D2 #[.int .u8 0, .int .u8 0, .slice none 0 0, .slice none 0 0] 44)
           go_simp
           refine hK.out _ _ (HKS.out _ HG.out) (fun hHeld => ?_)
           clear hK K
           clear hb hs
           generalize hWs : D2.heap.size = bx at HP4 HP5 HB HG HPy HFy HKy HxN HxT HPx HFx HKx HORD ⊢
           clear hWs
           generalize D2.alloc (.cells #[.int .u8 0, .int .u8 0, .slice none 0 0, .slice none 0 0] 44) = D3 at HP4 HP5 HB HG HPy HFy HKy HxN HxT HPx HFx HKx HORD hHeld ⊢
           try simp only [Act.put, List.setIfInBounds_toArray, List.set_cons_zero, List.set_cons_succ]
           refine wpAnyH_ready (rs := [3]) (by kernel_rfl) (by simp) ?_
           refine (AllReadyH.cons (o := { dst := some 24, op := Go.Op.call { callee := Go.Callee.value (Go.Operand.func 24), args := #[Go.Operand.tmp 23], argTypes := #[44] }, type := 44, pos := "law.go:78", after := #[{ on := 2, ground := Go.Ground.data }, { on := 1, ground := Go.Ground.chain }], guard := none }) rfl (fun K hK => ?br43_3) AllReadyH.nil)
           case br43_3 =>
            go_simp
            go_at_call 24
            refine (own_x A1 c1 B1 g1 e1 (by have := HL1.out; omega) (by have := HL1.out; omega) _ (HY1.out.below HB.out)).mono ?_; rintro z D4 ⟨Ay, cy, By, dy, my, rfl, hm1, hm2, hn, ht, hb⟩
            simp only [evV]
            replace HP4 := hh (HP4.out.below hb)
            replace HP5 := hh (HP5.out.below hb)
            replace HB := hh (below_step HB.out hb)
            replace HG := hh (below_step HG.out hb)
            replace HPy := hh (HPy.out.below hb)
            replace HFy := hh (HFy.out.below hb)
            replace HKy := hh (HKy.out.below hb)
            replace HxN := hh (HxN.out.below hb)
            replace HxT := hh (HxT.out.below hb)
            replace HPx := hh (HPx.out.below hb)
            replace HFx := hh (HFx.out.below hb)
            replace HKx := hh (HKx.out.below hb)
            replace HORD := hh (And.intro HORD.out (And.intro hm1 (And.intro hm2 hb.size)))
            have HyN := Lib.hid hn
            have HyT := Lib.hid ht
            clear hn ht hm1 hm2 hb
            refine hK.out _ _ (HKS.out _ HG.out) (fun hHeld => ?_)
            clear hK K
            try simp only [Act.put, List.setIfInBounds_toArray, List.set_cons_zero, List.set_cons_succ]
            refine wpAnyH_ready (rs := [6]) (by kernel_rfl) (by simp) ?_
            refine (AllReadyH.cons (o := { dst := none, op := Go.Op.store 44 (Go.Operand.tmp 7) (Go.Operand.tmp 22), type := 0, pos := "law.go:78", after := #[{ on := 4, ground := Go.Ground.data }, { on := 1, ground := Go.Ground.data }, { on := 3, ground := Go.Ground.chain }, { on := 0, ground := Go.Ground.phase }, { on := 1, ground := Go.Ground.phase }, { on := 2, ground := Go.Ground.textOnly Go.Departure.lateStores }, { on := 3, ground := Go.Ground.textOnly Go.Departure.lateStoresUnsure }, { on := 4, ground := Go.Ground.phase }, { on := 5, ground := Go.Ground.phase }], guard := none }) rfl (fun K hK => ?br44_6) AllReadyH.nil)
            case br44_6 =>
             obtain ⟨hpx_0, hpx_1, hpx_2, hpx_3⟩ := HPx.out
             have f0 := HFx.out.2 0
             have f1 := HFx.out.2 1
             have f2 := HFx.out.2 2
             have f3 := HFx.out.2 3
             go_simp
             clear hpx_0 hpx_1 hpx_2 hpx_3
             clear f0 f1 f2 f3
             have hp := ((((HPx.out.set0 (.int .u8 e0.v)).set1 (.int .u8 e0.k)).set2 (.slice Ax e0.ns.length cx)).set3 (.slice Bx e0.ts.length dx))
             have ht := Touch.set D4 bx 0 (.int .u8 e0.v)
             have hf := HFx.out.set bx 0 (.int .u8 e0.v)
             have sp_HxN := HxN.out.boxT HKx.out (by decide) 0 (.int .u8 e0.v)
             have sp_HxT := HxT.out.boxT HKx.out (by decide) 0 (.int .u8 e0.v)
             have sp_HyN := HyN.out.boxT HKx.out (by decide) 0 (.int .u8 e0.v)
             have sp_HyT := HyT.out.boxT HKx.out (by decide) 0 (.int .u8 e0.v)
             replace HKx := hh (HKx.out.set 0 (.int .u8 e0.v))
             have hord := HORD.out
             replace HP4 := hh (HP4.out.touch ht (by omega))
             replace HP5 := hh (HP5.out.touch ht (by omega))
             replace HB := hh (Touch.step HB.out ht (by omega))
             replace HG := hh (Touch.step HG.out ht (by omega))
             replace HPy := hh (HPy.out.touch ht (by omega))
             replace HFy := hh (HFy.out.touch ht (by omega))
             replace HKy := hh (HKy.out.touch ht (by omega))
             clear hord
             replace HFx := Lib.hid hf
             clear ht hf
             replace HxN := Lib.hid sp_HxN
             clear sp_HxN
             replace HxT := Lib.hid sp_HxT
             clear sp_HxT
             replace HyN := Lib.hid sp_HyN
             clear sp_HyN
             replace HyT := Lib.hid sp_HyT
             clear sp_HyT
             have ht := Touch.set (D4.setCell ⟨bx, 0, none⟩ (.int .u8 e0.v)) bx 1 (.int .u8 e0.k)
             have hf := HFx.out.set bx 1 (.int .u8 e0.k)
             have sp_HxN := HxN.out.boxT HKx.out (by decide) 1 (.int .u8 e0.k)
             have sp_HxT := HxT.out.boxT HKx.out (by decide) 1 (.int .u8 e0.k)
             have sp_HyN := HyN.out.boxT HKx.out (by decide) 1 (.int .u8 e0.k)
             have sp_HyT := HyT.out.boxT HKx.out (by decide) 1 (.int .u8 e0.k)
             replace HKx := hh (HKx.out.set 1 (.int .u8 e0.k))
             have hord := HORD.out
             replace HP4 := hh (HP4.out.touch ht (by omega))
             replace HP5 := hh (HP5.out.touch ht (by omega))
             replace HB := hh (Touch.step HB.out ht (by omega))
             replace HG := hh (Touch.step HG.out ht (by omega))
             replace HPy := hh (HPy.out.touch ht (by omega))
             replace HFy := hh (HFy.out.touch ht (by omega))
             replace HKy := hh (HKy.out.touch ht (by omega))
             clear hord
             replace HFx := Lib.hid hf
             clear ht hf
             replace HxN := Lib.hid sp_HxN
             clear sp_HxN
             replace HxT := Lib.hid sp_HxT
             clear sp_HxT
             replace HyN := Lib.hid sp_HyN
             clear sp_HyN
             replace HyT := Lib.hid sp_HyT
             clear sp_HyT
             have ht := Touch.set ((D4.setCell ⟨bx, 0, none⟩ (.int .u8 e0.v)).setCell ⟨bx, 1, none⟩ (.int .u8 e0.k)) bx 2 (.slice Ax e0.ns.length cx)
             have hf := HFx.out.set bx 2 (.slice Ax e0.ns.length cx)
             have sp_HxN := HxN.out.boxT HKx.out (by decide) 2 (.slice Ax e0.ns.length cx)
             have sp_HxT := HxT.out.boxT HKx.out (by decide) 2 (.slice Ax e0.ns.length cx)
             have sp_HyN := HyN.out.boxT HKx.out (by decide) 2 (.slice Ax e0.ns.length cx)
             have sp_HyT := HyT.out.boxT HKx.out (by decide) 2 (.slice Ax e0.ns.length cx)
             replace HKx := hh (HKx.out.set 2 (.slice Ax e0.ns.length cx))
             have hord := HORD.out
             replace HP4 := hh (HP4.out.touch ht (by omega))
             replace HP5 := hh (HP5.out.touch ht (by omega))
             replace HB := hh (Touch.step HB.out ht (by omega))
             replace HG := hh (Touch.step HG.out ht (by omega))
             replace HPy := hh (HPy.out.touch ht (by omega))
             replace HFy := hh (HFy.out.touch ht (by omega))
             replace HKy := hh (HKy.out.touch ht (by omega))
             clear hord
             replace HFx := Lib.hid hf
             clear ht hf
             replace HxN := Lib.hid sp_HxN
             clear sp_HxN
             replace HxT := Lib.hid sp_HxT
             clear sp_HxT
             replace HyN := Lib.hid sp_HyN
             clear sp_HyN
             replace HyT := Lib.hid sp_HyT
             clear sp_HyT
             have ht := Touch.set (((D4.setCell ⟨bx, 0, none⟩ (.int .u8 e0.v)).setCell ⟨bx, 1, none⟩ (.int .u8 e0.k)).setCell ⟨bx, 2, none⟩ (.slice Ax e0.ns.length cx)) bx 3 (.slice Bx e0.ts.length dx)
             have hf := HFx.out.set bx 3 (.slice Bx e0.ts.length dx)
             have sp_HxN := HxN.out.boxT HKx.out (by decide) 3 (.slice Bx e0.ts.length dx)
             have sp_HxT := HxT.out.boxT HKx.out (by decide) 3 (.slice Bx e0.ts.length dx)
             have sp_HyN := HyN.out.boxT HKx.out (by decide) 3 (.slice Bx e0.ts.length dx)
             have sp_HyT := HyT.out.boxT HKx.out (by decide) 3 (.slice Bx e0.ts.length dx)
             replace HKx := hh (HKx.out.set 3 (.slice Bx e0.ts.length dx))
             have hord := HORD.out
             replace HP4 := hh (HP4.out.touch ht (by omega))
             replace HP5 := hh (HP5.out.touch ht (by omega))
             replace HB := hh (Touch.step HB.out ht (by omega))
             replace HG := hh (Touch.step HG.out ht (by omega))
             replace HPy := hh (HPy.out.touch ht (by omega))
             replace HFy := hh (HFy.out.touch ht (by omega))
             replace HKy := hh (HKy.out.touch ht (by omega))
             clear hord
             replace HFx := Lib.hid hf
             clear ht hf
             replace HxN := Lib.hid sp_HxN
             clear sp_HxN
             replace HxT := Lib.hid sp_HxT
             clear sp_HxT
             replace HyN := Lib.hid sp_HyN
             clear sp_HyN
             replace HyT := Lib.hid sp_HyT
             clear sp_HyT
             have hs : D4.heap.size ≤ ((((D4.setCell ⟨bx, 0, none⟩ (.int .u8 e0.v)).setCell ⟨bx, 1, none⟩ (.int .u8 e0.k)).setCell ⟨bx, 2, none⟩ (.slice Ax e0.ns.length cx)).setCell ⟨bx, 3, none⟩ (.slice Bx e0.ts.length dx)).heap.size := by simp
             replace HORD := hh (And.intro HORD.out hs)
             replace HPx := Lib.hid hp
             clear hp hs
             refine hK.out _ _ (HKS.out _ HG.out) (fun hHeld => ?_)
             clear hK K
             generalize ((((D4.setCell ⟨bx, 0, none⟩ (.int .u8 e0.v)).setCell ⟨bx, 1, none⟩ (.int .u8 e0.k)).setCell ⟨bx, 2, none⟩ (.slice Ax e0.ns.length cx)).setCell ⟨bx, 3, none⟩ (.slice Bx e0.ts.length dx)) = D5 at HP4 HP5 HB HG HPy HFy HKy HxN HxT HPx HFx HKx HyN HyT HORD hHeld ⊢
             try simp only [Act.put, List.setIfInBounds_toArray, List.set_cons_zero, List.set_cons_succ]
             refine wpAnyH_ready (rs := [7]) (by kernel_rfl) (by simp) ?_
             refine (AllReadyH.cons (o := { dst := none, op := Go.Op.store 44 (Go.Operand.tmp 8) (Go.Operand.tmp 24), type := 0, pos := "law.go:78", after := #[{ on := 5, ground := Go.Ground.data }, { on := 3, ground := Go.Ground.data }, { on := 6, ground := Go.Ground.chain }, { on := 0, ground := Go.Ground.phase }, { on := 1, ground := Go.Ground.phase }, { on := 2, ground := Go.Ground.phase }, { on := 3, ground := Go.Ground.phase }, { on := 4, ground := Go.Ground.phase }, { on := 5, ground := Go.Ground.phase }, { on := 6, ground := Go.Ground.phase }], guard := none }) rfl (fun K hK => ?br45_7) AllReadyH.nil)
             case br45_7 =>
              obtain ⟨hpy_0, hpy_1, hpy_2, hpy_3⟩ := HPy.out
              have f0 := HFy.out.2 0
              have f1 := HFy.out.2 1
              have f2 := HFy.out.2 2
              have f3 := HFy.out.2 3
              go_simp
              clear hpy_0 hpy_1 hpy_2 hpy_3
              clear f0 f1 f2 f3
              have hp := ((((HPy.out.set0 (.int .u8 e1.v)).set1 (.int .u8 e1.k)).set2 (.slice Ay e1.ns.length cy)).set3 (.slice By e1.ts.length dy))
              have ht := Touch.set D5 bY 0 (.int .u8 e1.v)
              have hf := HFy.out.set bY 0 (.int .u8 e1.v)
              have sp_HxN := HxN.out.boxT HKy.out (by decide) 0 (.int .u8 e1.v)
              have sp_HxT := HxT.out.boxT HKy.out (by decide) 0 (.int .u8 e1.v)
              have sp_HyN := HyN.out.boxT HKy.out (by decide) 0 (.int .u8 e1.v)
              have sp_HyT := HyT.out.boxT HKy.out (by decide) 0 (.int .u8 e1.v)
              replace HKy := hh (HKy.out.set 0 (.int .u8 e1.v))
              have hord := HORD.out
              replace HP4 := hh (HP4.out.touch ht (by omega))
              replace HP5 := hh (HP5.out.touch ht (by omega))
              replace HB := hh (Touch.step HB.out ht (by omega))
              replace HG := hh (Touch.step HG.out ht (by omega))
              replace HPx := hh (HPx.out.touch ht (by omega))
              replace HFx := hh (HFx.out.touch ht (by omega))
              replace HKx := hh (HKx.out.touch ht (by omega))
              clear hord
              replace HFy := Lib.hid hf
              clear ht hf
              replace HxN := Lib.hid sp_HxN
              clear sp_HxN
              replace HxT := Lib.hid sp_HxT
              clear sp_HxT
              replace HyN := Lib.hid sp_HyN
              clear sp_HyN
              replace HyT := Lib.hid sp_HyT
              clear sp_HyT
              have ht := Touch.set (D5.setCell ⟨bY, 0, none⟩ (.int .u8 e1.v)) bY 1 (.int .u8 e1.k)
              have hf := HFy.out.set bY 1 (.int .u8 e1.k)
              have sp_HxN := HxN.out.boxT HKy.out (by decide) 1 (.int .u8 e1.k)
              have sp_HxT := HxT.out.boxT HKy.out (by decide) 1 (.int .u8 e1.k)
              have sp_HyN := HyN.out.boxT HKy.out (by decide) 1 (.int .u8 e1.k)
              have sp_HyT := HyT.out.boxT HKy.out (by decide) 1 (.int .u8 e1.k)
              replace HKy := hh (HKy.out.set 1 (.int .u8 e1.k))
              have hord := HORD.out
              replace HP4 := hh (HP4.out.touch ht (by omega))
              replace HP5 := hh (HP5.out.touch ht (by omega))
              replace HB := hh (Touch.step HB.out ht (by omega))
              replace HG := hh (Touch.step HG.out ht (by omega))
              replace HPx := hh (HPx.out.touch ht (by omega))
              replace HFx := hh (HFx.out.touch ht (by omega))
              replace HKx := hh (HKx.out.touch ht (by omega))
              clear hord
              replace HFy := Lib.hid hf
              clear ht hf
              replace HxN := Lib.hid sp_HxN
              clear sp_HxN
              replace HxT := Lib.hid sp_HxT
              clear sp_HxT
              replace HyN := Lib.hid sp_HyN
              clear sp_HyN
              replace HyT := Lib.hid sp_HyT
              clear sp_HyT
              have ht := Touch.set ((D5.setCell ⟨bY, 0, none⟩ (.int .u8 e1.v)).setCell ⟨bY, 1, none⟩ (.int .u8 e1.k)) bY 2 (.slice Ay e1.ns.length cy)
              have hf := HFy.out.set bY 2 (.slice Ay e1.ns.length cy)
              have sp_HxN := HxN.out.boxT HKy.out (by decide) 2 (.slice Ay e1.ns.length cy)
              have sp_HxT := HxT.out.boxT HKy.out (by decide) 2 (.slice Ay e1.ns.length cy)
              have sp_HyN := HyN.out.boxT HKy.out (by decide) 2 (.slice Ay e1.ns.length cy)
              have sp_HyT := HyT.out.boxT HKy.out (by decide) 2 (.slice Ay e1.ns.length cy)
              replace HKy := hh (HKy.out.set 2 (.slice Ay e1.ns.length cy))
              have hord := HORD.out
              replace HP4 := hh (HP4.out.touch ht (by omega))
              replace HP5 := hh (HP5.out.touch ht (by omega))
              replace HB := hh (Touch.step HB.out ht (by omega))
              replace HG := hh (Touch.step HG.out ht (by omega))
              replace HPx := hh (HPx.out.touch ht (by omega))
              replace HFx := hh (HFx.out.touch ht (by omega))
              replace HKx := hh (HKx.out.touch ht (by omega))
              clear hord
              replace HFy := Lib.hid hf
              clear ht hf
              replace HxN := Lib.hid sp_HxN
              clear sp_HxN
              replace HxT := Lib.hid sp_HxT
              clear sp_HxT
              replace HyN := Lib.hid sp_HyN
              clear sp_HyN
              replace HyT := Lib.hid sp_HyT
              clear sp_HyT
              have ht := Touch.set (((D5.setCell ⟨bY, 0, none⟩ (.int .u8 e1.v)).setCell ⟨bY, 1, none⟩ (.int .u8 e1.k)).setCell ⟨bY, 2, none⟩ (.slice Ay e1.ns.length cy)) bY 3 (.slice By e1.ts.length dy)
              have hf := HFy.out.set bY 3 (.slice By e1.ts.length dy)
              have sp_HxN := HxN.out.boxT HKy.out (by decide) 3 (.slice By e1.ts.length dy)
              have sp_HxT := HxT.out.boxT HKy.out (by decide) 3 (.slice By e1.ts.length dy)
              have sp_HyN := HyN.out.boxT HKy.out (by decide) 3 (.slice By e1.ts.length dy)
              have sp_HyT := HyT.out.boxT HKy.out (by decide) 3 (.slice By e1.ts.length dy)
              replace HKy := hh (HKy.out.set 3 (.slice By e1.ts.length dy))
              have hord := HORD.out
              replace HP4 := hh (HP4.out.touch ht (by omega))
              replace HP5 := hh (HP5.out.touch ht (by omega))
              replace HB := hh (Touch.step HB.out ht (by omega))
              replace HG := hh (Touch.step HG.out ht (by omega))
              replace HPx := hh (HPx.out.touch ht (by omega))
              replace HFx := hh (HFx.out.touch ht (by omega))
              replace HKx := hh (HKx.out.touch ht (by omega))
              clear hord
              replace HFy := Lib.hid hf
              clear ht hf
              replace HxN := Lib.hid sp_HxN
              clear sp_HxN
              replace HxT := Lib.hid sp_HxT
              clear sp_HxT
              replace HyN := Lib.hid sp_HyN
              clear sp_HyN
              replace HyT := Lib.hid sp_HyT
              clear sp_HyT
              have hs : D5.heap.size ≤ ((((D5.setCell ⟨bY, 0, none⟩ (.int .u8 e1.v)).setCell ⟨bY, 1, none⟩ (.int .u8 e1.k)).setCell ⟨bY, 2, none⟩ (.slice Ay e1.ns.length cy)).setCell ⟨bY, 3, none⟩ (.slice By e1.ts.length dy)).heap.size := by simp
              replace HORD := hh (And.intro HORD.out hs)
              replace HPy := Lib.hid hp
              clear hp hs
              refine hK.out _ _ (HKS.out _ HG.out) (fun hHeld => ?_)
              clear hK K
              generalize ((((D5.setCell ⟨bY, 0, none⟩ (.int .u8 e1.v)).setCell ⟨bY, 1, none⟩ (.int .u8 e1.k)).setCell ⟨bY, 2, none⟩ (.slice Ay e1.ns.length cy)).setCell ⟨bY, 3, none⟩ (.slice By e1.ts.length dy)) = D6 at HP4 HP5 HB HG HPy HFy HKy HxN HxT HPx HFx HKx HyN HyT HORD hHeld ⊢
              try simp only [Act.put, List.setIfInBounds_toArray, List.set_cons_zero, List.set_cons_succ]
              refine wpAnyH_done (by kernel_rfl) ?_ _
              go_wp2_with fail
              go_meet
              exact ⟨bx, bY, Ax, cx, Bx, dx, Ay, cy, By, dy, rfl, rfl, Lib.hid ⟨HPx.out, HPy.out, ev_of HY0.out.v HY0.out.k HY0.out.fit HY0.out.txt HxN.out HxT.out, ev_of HY1.out.v HY1.out.k HY1.out.fit HY1.out.txt HyN.out HyT.out, HG.out⟩⟩
         case br38_4 =>
          have hb := (Below.refl D1.heap.size D1).alloc (Nat.le_refl _) (.cells #[.int .u8 0, .int .u8 0, .slice none 0 0, .slice none 0 0] 44)
          have hs : D1.heap.size + 1 ≤ (D1.alloc (.cells #[.int .u8 0, .int .u8 0, .slice none 0 0, .slice none 0 0] 44)).heap.size := by simp
          replace HP4 := hh (HP4.out.below hb)
          replace HP5 := hh (HP5.out.below hb)
          replace HB := hh (below_step HB.out hb)
          replace HG := hh (below_step HG.out hb)
          replace HPy := hh (HPy.out.below hb)
          replace HFy := hh (HFy.out.below hb)
          replace HKy := hh (HKy.out.below hb)
          replace HORD := hh (And.intro HORD.out hs)
          have HPx := hh (show Four _ D1.heap.size _ _ _ _ from box4 D1 (.int .u8 0) (.int .u8 0) (.slice none 0 0) (.slice none 0 0) 44)
          have HFx := hh (free_new D1 #[.int .u8 0, .int .u8 0, .slice none 0 0, .slice none 0 0] 44)
          have HKx := hh (boxT_new D1 #[.int .u8 0, .int .u8 0, .slice none 0 0, .slice none 0 0] 44)
          go_simp
          refine hK.out _ _ (HKS.out _ HG.out) (fun hHeld => ?_)
          clear hK K
          clear hb hs
          generalize hWs : D1.heap.size = bx at HP4 HP5 HB HG HPy HFy HKy HPx HFx HKx HORD ⊢
          clear hWs
          generalize D1.alloc (.cells #[.int .u8 0, .int .u8 0, .slice none 0 0, .slice none 0 0] 44) = D2 at HP4 HP5 HB HG HPy HFy HKy HPx HFx HKx HORD hHeld ⊢
          try simp only [Act.put, List.setIfInBounds_toArray, List.set_cons_zero, List.set_cons_succ]
          refine wpAnyH_ready (rs := [1]) (by kernel_rfl) (by simp) ?_
          refine (AllReadyH.cons (o := { dst := some 22, op := Go.Op.call { callee := Go.Callee.value (Go.Operand.func 24), args := #[Go.Operand.tmp 21], argTypes := #[44] }, type := 44, pos := "law.go:78", after := #[{ on := 0, ground := Go.Ground.data }], guard := none }) rfl (fun K hK => ?br46_1) AllReadyH.nil)
          case br46_1 =>
           go_simp
           go_at_call 24
           refine (own_x A0 c0 B0 g0 e0 (by have := HL0.out; omega) (by have := HL0.out; omega) _ (HY0.out.below HB.out)).mono ?_; rintro z D3 ⟨Ax, cx, Bx, dx, mx, rfl, hm1, hm2, hn, ht, hb⟩
           simp only [evV]
           replace HP4 := hh (HP4.out.below hb)
           replace HP5 := hh (HP5.out.below hb)
           replace HB := hh (below_step HB.out hb)
           replace HG := hh (below_step HG.out hb)
           replace HPy := hh (HPy.out.below hb)
           replace HFy := hh (HFy.out.below hb)
           replace HKy := hh (HKy.out.below hb)
           replace HPx := hh (HPx.out.below hb)
           replace HFx := hh (HFx.out.below hb)
           replace HKx := hh (HKx.out.below hb)
           replace HORD := hh (And.intro HORD.out (And.intro hm1 (And.intro hm2 hb.size)))
           have HxN := Lib.hid hn
           have HxT := Lib.hid ht
           clear hn ht hm1 hm2 hb
           refine hK.out _ _ (HKS.out _ HG.out) (fun hHeld => ?_)
           clear hK K
           try simp only [Act.put, List.setIfInBounds_toArray, List.set_cons_zero, List.set_cons_succ]
           refine wpAnyH_ready (rs := [3]) (by kernel_rfl) (by simp) ?_
           refine (AllReadyH.cons (o := { dst := some 24, op := Go.Op.call { callee := Go.Callee.value (Go.Operand.func 24), args := #[Go.Operand.tmp 23], argTypes := #[44] }, type := 44, pos := "law.go:78", after := #[{ on := 2, ground := Go.Ground.data }, { on := 1, ground := Go.Ground.chain }], guard := none }) rfl (fun K hK => ?br47_3) AllReadyH.nil)
           case br47_3 =>
            go_simp
            go_at_call 24
            refine (own_x A1 c1 B1 g1 e1 (by have := HL1.out; omega) (by have := HL1.out; omega) _ (HY1.out.below HB.out)).mono ?_; rintro z D4 ⟨Ay, cy, By, dy, my, rfl, hm1, hm2, hn, ht, hb⟩
            simp only [evV]
            replace HP4 := hh (HP4.out.below hb)
            replace HP5 := hh (HP5.out.below hb)
            replace HB := hh (below_step HB.out hb)
            replace HG := hh (below_step HG.out hb)
            replace HPy := hh (HPy.out.below hb)
            replace HFy := hh (HFy.out.below hb)
            replace HKy := hh (HKy.out.below hb)
            replace HPx := hh (HPx.out.below hb)
            replace HFx := hh (HFx.out.below hb)
            replace HKx := hh (HKx.out.below hb)
            replace HxN := hh (HxN.out.below hb)
            replace HxT := hh (HxT.out.below hb)
            replace HORD := hh (And.intro HORD.out (And.intro hm1 (And.intro hm2 hb.size)))
            have HyN := Lib.hid hn
            have HyT := Lib.hid ht
            clear hn ht hm1 hm2 hb
            refine hK.out _ _ (HKS.out _ HG.out) (fun hHeld => ?_)
            clear hK K
            try simp only [Act.put, List.setIfInBounds_toArray, List.set_cons_zero, List.set_cons_succ]
            refine wpAnyH_ready (rs := [6]) (by kernel_rfl) (by simp) ?_
            refine (AllReadyH.cons (o := { dst := none, op := Go.Op.store 44 (Go.Operand.tmp 7) (Go.Operand.tmp 22), type := 0, pos := "law.go:78", after := #[{ on := 4, ground := Go.Ground.data }, { on := 1, ground := Go.Ground.data }, { on := 3, ground := Go.Ground.chain }, { on := 0, ground := Go.Ground.phase }, { on := 1, ground := Go.Ground.phase }, { on := 2, ground := Go.Ground.textOnly Go.Departure.lateStores }, { on := 3, ground := Go.Ground.textOnly Go.Departure.lateStoresUnsure }, { on := 4, ground := Go.Ground.phase }, { on := 5, ground := Go.Ground.phase }], guard := none }) rfl (fun K hK => ?br48_6) AllReadyH.nil)
            case br48_6 =>
             obtain ⟨hpx_0, hpx_1, hpx_2, hpx_3⟩ := HPx.out
             have f0 := HFx.out.2 0
             have f1 := HFx.out.2 1
             have f2 := HFx.out.2 2
             have f3 := HFx.out.2 3
             go_simp
             clear hpx_0 hpx_1 hpx_2 hpx_3
             clear f0 f1 f2 f3
             have hp := ((((HPx.out.set0 (.int .u8 e0.v)).set1 (.int .u8 e0.k)).set2 (.slice Ax e0.ns.length cx)).set3 (.slice Bx e0.ts.length dx))
             have ht := Touch.set D4 bx 0 (.int .u8 e0.v)
             have hf := HFx.out.set bx 0 (.int .u8 e0.v)
             have sp_HxN := HxN.out.boxT HKx.out (by decide) 0 (.int .u8 e0.v)
             have sp_HxT := HxT.out.boxT HKx.out (by decide) 0 (.int .u8 e0.v)
             have sp_HyN := HyN.out.boxT HKx.out (by decide) 0 (.int .u8 e0.v)
             have sp_HyT := HyT.out.boxT HKx.out (by decide) 0 (.int .u8 e0.v)
             replace HKx := hh (HKx.out.set 0 (.int .u8 e0.v))
             have hord := HORD.out
             replace HP4 := hh (HP4.out.touch ht (by omega))
             replace HP5 := hh (HP5.out.touch ht (by omega))
             replace HB := hh (Touch.step HB.out ht (by omega))
             replace HG := hh (Touch.step HG.out ht (by omega))
             replace HPy := hh (HPy.out.touch ht (by omega))
             replace HFy := hh (HFy.out.touch ht (by omega))
             replace HKy := hh (HKy.out.touch ht (by omega))
             clear hord
             replace HFx := Lib.hid hf
             clear ht hf
             replace HxN := Lib.hid sp_HxN
             clear sp_HxN
             replace HxT := Lib.hid sp_HxT
             clear sp_HxT
             replace HyN := Lib.hid sp_HyN
             clear sp_HyN
             replace HyT := Lib.hid sp_HyT
             clear sp_HyT
             have ht := Touch.set (D4.setCell ⟨bx, 0, none⟩ (.int .u8 e0.v)) bx 1 (.int .u8 e0.k)
             have hf := HFx.out.set bx 1 (.int .u8 e0.k)
             have sp_HxN := HxN.out.boxT HKx.out (by decide) 1 (.int .u8 e0.k)
             have sp_HxT := HxT.out.boxT HKx.out (by decide) 1 (.int .u8 e0.k)
             have sp_HyN := HyN.out.boxT HKx.out (by decide) 1 (.int .u8 e0.k)
             have sp_HyT := HyT.out.boxT HKx.out (by decide) 1 (.int .u8 e0.k)
             replace HKx := hh (HKx.out.set 1 (.int .u8 e0.k))
             have hord := HORD.out
             replace HP4 := hh (HP4.out.touch ht (by omega))
             replace HP5 := hh (HP5.out.touch ht (by omega))
             replace HB := hh (Touch.step HB.out ht (by omega))
             replace HG := hh (Touch.step HG.out ht (by omega))
             replace HPy := hh (HPy.out.touch ht (by omega))
             replace HFy := hh (HFy.out.touch ht (by omega))
             replace HKy := hh (HKy.out.touch ht (by omega))
             clear hord
             replace HFx := Lib.hid hf
             clear ht hf
             replace HxN := Lib.hid sp_HxN
             clear sp_HxN
             replace HxT := Lib.hid sp_HxT
             clear sp_HxT
             replace HyN := Lib.hid sp_HyN
             clear sp_HyN
             replace HyT := Lib.hid sp_HyT
             clear sp_HyT
             have ht := Touch.set ((D4.setCell ⟨bx, 0, none⟩ (.int .u8 e0.v)).setCell ⟨bx, 1, none⟩ (.int .u8 e0.k)) bx 2 (.slice Ax e0.ns.length cx)
             have hf := HFx.out.set bx 2 (.slice Ax e0.ns.length cx)
             have sp_HxN := HxN.out.boxT HKx.out (by decide) 2 (.slice Ax e0.ns.length cx)
             have sp_HxT := HxT.out.boxT HKx.out (by decide) 2 (.slice Ax e0.ns.length cx)
             have sp_HyN := HyN.out.boxT HKx.out (by decide) 2 (.slice Ax e0.ns.length cx)
             have sp_HyT := HyT.out.boxT HKx.out (by decide) 2 (.slice Ax e0.ns.length cx)
             replace HKx := hh (HKx.out.set 2 (.slice Ax e0.ns.length cx))
             have hord := HORD.out
             replace HP4 := hh (HP4.out.touch ht (by omega))
             replace HP5 := hh (HP5.out.touch ht (by omega))
             replace HB := hh (Touch.step HB.out ht (by omega))
             replace HG := hh (Touch.step HG.out ht (by omega))
             replace HPy := hh (HPy.out.touch ht (by omega))
             replace HFy := hh (HFy.out.touch ht (by omega))
             replace HKy := hh (HKy.out.touch ht (by omega))
             clear hord
             replace HFx := Lib.hid hf
             clear ht hf
             replace HxN := Lib.hid sp_HxN
             clear sp_HxN
             replace HxT := Lib.hid sp_HxT
             clear sp_HxT
             replace HyN := Lib.hid sp_HyN
             clear sp_HyN
             replace HyT := Lib.hid sp_HyT
             clear sp_HyT
             have ht := Touch.set (((D4.setCell ⟨bx, 0, none⟩ (.int .u8 e0.v)).setCell ⟨bx, 1, none⟩ (.int .u8 e0.k)).setCell ⟨bx, 2, none⟩ (.slice Ax e0.ns.length cx)) bx 3 (.slice Bx e0.ts.length dx)
             have hf := HFx.out.set bx 3 (.slice Bx e0.ts.length dx)
             have sp_HxN := HxN.out.boxT HKx.out (by decide) 3 (.slice Bx e0.ts.length dx)
             have sp_HxT := HxT.out.boxT HKx.out (by decide) 3 (.slice Bx e0.ts.length dx)
             have sp_HyN := HyN.out.boxT HKx.out (by decide) 3 (.slice Bx e0.ts.length dx)
             have sp_HyT := HyT.out.boxT HKx.out (by decide) 3 (.slice Bx e0.ts.length dx)
             replace HKx := hh (HKx.out.set 3 (.slice Bx e0.ts.length dx))
             have hord := HORD.out
             replace HP4 := hh (HP4.out.touch ht (by omega))
             replace HP5 := hh (HP5.out.touch ht (by omega))
             replace HB := hh (Touch.step HB.out ht (by omega))
             replace HG := hh (Touch.step HG.out ht (by omega))
             replace HPy := hh (HPy.out.touch ht (by omega))
             replace HFy := hh (HFy.out.touch ht (by omega))
             replace HKy := hh (HKy.out.touch ht (by omega))
             clear hord
             replace HFx := Lib.hid hf
             clear ht hf
             replace HxN := Lib.hid sp_HxN
             clear sp_HxN
             replace HxT := Lib.hid sp_HxT
             clear sp_HxT
             replace HyN := Lib.hid sp_HyN
             clear sp_HyN
             replace HyT := Lib.hid sp_HyT
             clear sp_HyT
             have hs : D4.heap.size ≤ ((((D4.setCell ⟨bx, 0, none⟩ (.int .u8 e0.v)).setCell ⟨bx, 1, none⟩ (.int .u8 e0.k)).setCell ⟨bx, 2, none⟩ (.slice Ax e0.ns.length cx)).setCell ⟨bx, 3, none⟩ (.slice Bx e0.ts.length dx)).heap.size := by simp
             replace HORD := hh (And.intro HORD.out hs)
             replace HPx := Lib.hid hp
             clear hp hs
             refine hK.out _ _ (HKS.out _ HG.out) (fun hHeld => ?_)
             clear hK K
             generalize ((((D4.setCell ⟨bx, 0, none⟩ (.int .u8 e0.v)).setCell ⟨bx, 1, none⟩ (.int .u8 e0.k)).setCell ⟨bx, 2, none⟩ (.slice Ax e0.ns.length cx)).setCell ⟨bx, 3, none⟩ (.slice Bx e0.ts.length dx)) = D5 at HP4 HP5 HB HG HPy HFy HKy HPx HFx HKx HxN HxT HyN HyT HORD hHeld ⊢
             try simp only [Act.put, List.setIfInBounds_toArray, List.set_cons_zero, List.set_cons_succ]
             refine wpAnyH_ready (rs := [7]) (by kernel_rfl) (by simp) ?_
             refine (AllReadyH.cons (o := { dst := none, op := Go.Op.store 44 (Go.Operand.tmp 8) (Go.Operand.tmp 24), type := 0, pos := "law.go:78", after := #[{ on := 5, ground := Go.Ground.data }, { on := 3, ground := Go.Ground.data }, { on := 6, ground := Go.Ground.chain }, { on := 0, ground := Go.Ground.phase }, { on := 1, ground := Go.Ground.phase }, { on := 2, ground := Go.Ground.phase }, { on := 3, ground := Go.Ground.phase }, { on := 4, ground := Go.Ground.phase }, { on := 5, ground := Go.Ground.phase }, { on := 6, ground := Go.Ground.phase }], guard := none }) rfl (fun K hK => ?br49_7) AllReadyH.nil)
             case br49_7 =>
              obtain ⟨hpy_0, hpy_1, hpy_2, hpy_3⟩ := HPy.out
              have f0 := HFy.out.2 0
              have f1 := HFy.out.2 1
              have f2 := HFy.out.2 2
              have f3 := HFy.out.2 3
              go_simp
              clear hpy_0 hpy_1 hpy_2 hpy_3
              clear f0 f1 f2 f3
              have hp := ((((HPy.out.set0 (.int .u8 e1.v)).set1 (.int .u8 e1.k)).set2 (.slice Ay e1.ns.length cy)).set3 (.slice By e1.ts.length dy))
              have ht := Touch.set D5 bY 0 (.int .u8 e1.v)
              have hf := HFy.out.set bY 0 (.int .u8 e1.v)
              have sp_HxN := HxN.out.boxT HKy.out (by decide) 0 (.int .u8 e1.v)
              have sp_HxT := HxT.out.boxT HKy.out (by decide) 0 (.int .u8 e1.v)
              have sp_HyN := HyN.out.boxT HKy.out (by decide) 0 (.int .u8 e1.v)
              have sp_HyT := HyT.out.boxT HKy.out (by decide) 0 (.int .u8 e1.v)
              replace HKy := hh (HKy.out.set 0 (.int .u8 e1.v))
              have hord := HORD.out
              replace HP4 := hh (HP4.out.touch ht (by omega))
              replace HP5 := hh (HP5.out.touch ht (by omega))
              replace HB := hh (Touch.step HB.out ht (by omega))
              replace HG := hh (Touch.step HG.out ht (by omega))
              replace HPx := hh (HPx.out.touch ht (by omega))
              replace HFx := hh (HFx.out.touch ht (by omega))
              replace HKx := hh (HKx.out.touch ht (by omega))
              clear hord
              replace HFy := Lib.hid hf
              clear ht hf
              replace HxN := Lib.hid sp_HxN
              clear sp_HxN
              replace HxT := Lib.hid sp_HxT
              clear sp_HxT
              replace HyN := Lib.hid sp_HyN
              clear sp_HyN
              replace HyT := Lib.hid sp_HyT
              clear sp_HyT
              have ht := Touch.set (D5.setCell ⟨bY, 0, none⟩ (.int .u8 e1.v)) bY 1 (.int .u8 e1.k)
              have hf := HFy.out.set bY 1 (.int .u8 e1.k)
              have sp_HxN := HxN.out.boxT HKy.out (by decide) 1 (.int .u8 e1.k)
              have sp_HxT := HxT.out.boxT HKy.out (by decide) 1 (.int .u8 e1.k)
              have sp_HyN := HyN.out.boxT HKy.out (by decide) 1 (.int .u8 e1.k)
              have sp_HyT := HyT.out.boxT HKy.out (by decide) 1 (.int .u8 e1.k)
              replace HKy := hh (HKy.out.set 1 (.int .u8 e1.k))
              have hord := HORD.out
              replace HP4 := hh (HP4.out.touch ht (by omega))
              replace HP5 := hh (HP5.out.touch ht (by omega))
              replace HB := hh (Touch.step HB.out ht (by omega))
              replace HG := hh (Touch.step HG.out ht (by omega))
              replace HPx := hh (HPx.out.touch ht (by omega))
              replace HFx := hh (HFx.out.touch ht (by omega))
              replace HKx := hh (HKx.out.touch ht (by omega))
              clear hord
              replace HFy := Lib.hid hf
              clear ht hf
              replace HxN := Lib.hid sp_HxN
              clear sp_HxN
              replace HxT := Lib.hid sp_HxT
              clear sp_HxT
              replace HyN := Lib.hid sp_HyN
              clear sp_HyN
              replace HyT := Lib.hid sp_HyT
              clear sp_HyT
              have ht := Touch.set ((D5.setCell ⟨bY, 0, none⟩ (.int .u8 e1.v)).setCell ⟨bY, 1, none⟩ (.int .u8 e1.k)) bY 2 (.slice Ay e1.ns.length cy)
              have hf := HFy.out.set bY 2 (.slice Ay e1.ns.length cy)
              have sp_HxN := HxN.out.boxT HKy.out (by decide) 2 (.slice Ay e1.ns.length cy)
              have sp_HxT := HxT.out.boxT HKy.out (by decide) 2 (.slice Ay e1.ns.length cy)
              have sp_HyN := HyN.out.boxT HKy.out (by decide) 2 (.slice Ay e1.ns.length cy)
              have sp_HyT := HyT.out.boxT HKy.out (by decide) 2 (.slice Ay e1.ns.length cy)
              replace HKy := hh (HKy.out.set 2 (.slice Ay e1.ns.length cy))
              have hord := HORD.out
              replace HP4 := hh (HP4.out.touch ht (by omega))
              replace HP5 := hh (HP5.out.touch ht (by omega))
              replace HB := hh (Touch.step HB.out ht (by omega))
              replace HG := hh (Touch.step HG.out ht (by omega))
              replace HPx := hh (HPx.out.touch ht (by omega))
              replace HFx := hh (HFx.out.touch ht (by omega))
              replace HKx := hh (HKx.out.touch ht (by omega))
              clear hord
              replace HFy := Lib.hid hf
              clear ht hf
              replace HxN := Lib.hid sp_HxN
              clear sp_HxN
              replace HxT := Lib.hid sp_HxT
              clear sp_HxT
              replace HyN := Lib.hid sp_HyN
              clear sp_HyN
              replace HyT := Lib.hid sp_HyT
              clear sp_HyT
              have ht := Touch.set (((D5.setCell ⟨bY, 0, none⟩ (.int .u8 e1.v)).setCell ⟨bY, 1, none⟩ (.int .u8 e1.k)).setCell ⟨bY, 2, none⟩ (.slice Ay e1.ns.length cy)) bY 3 (.slice By e1.ts.length dy)
              have hf := HFy.out.set bY 3 (.slice By e1.ts.length dy)
              have sp_HxN := HxN.out.boxT HKy.out (by decide) 3 (.slice By e1.ts.length dy)
              have sp_HxT := HxT.out.boxT HKy.out (by decide) 3 (.slice By e1.ts.length dy)
              have sp_HyN := HyN.out.boxT HKy.out (by decide) 3 (.slice By e1.ts.length dy)
              have sp_HyT := HyT.out.boxT HKy.out (by decide) 3 (.slice By e1.ts.length dy)
              replace HKy := hh (HKy.out.set 3 (.slice By e1.ts.length dy))
              have hord := HORD.out
              replace HP4 := hh (HP4.out.touch ht (by omega))
              replace HP5 := hh (HP5.out.touch ht (by omega))
              replace HB := hh (Touch.step HB.out ht (by omega))
              replace HG := hh (Touch.step HG.out ht (by omega))
              replace HPx := hh (HPx.out.touch ht (by omega))
              replace HFx := hh (HFx.out.touch ht (by omega))
              replace HKx := hh (HKx.out.touch ht (by omega))
              clear hord
              replace HFy := Lib.hid hf
              clear ht hf
              replace HxN := Lib.hid sp_HxN
              clear sp_HxN
              replace HxT := Lib.hid sp_HxT
              clear sp_HxT
              replace HyN := Lib.hid sp_HyN
              clear sp_HyN
              replace HyT := Lib.hid sp_HyT
              clear sp_HyT
              have hs : D5.heap.size ≤ ((((D5.setCell ⟨bY, 0, none⟩ (.int .u8 e1.v)).setCell ⟨bY, 1, none⟩ (.int .u8 e1.k)).setCell ⟨bY, 2, none⟩ (.slice Ay e1.ns.length cy)).setCell ⟨bY, 3, none⟩ (.slice By e1.ts.length dy)).heap.size := by simp
              replace HORD := hh (And.intro HORD.out hs)
              replace HPy := Lib.hid hp
              clear hp hs
              refine hK.out _ _ (HKS.out _ HG.out) (fun hHeld => ?_)
              clear hK K
              generalize ((((D5.setCell ⟨bY, 0, none⟩ (.int .u8 e1.v)).setCell ⟨bY, 1, none⟩ (.int .u8 e1.k)).setCell ⟨bY, 2, none⟩ (.slice Ay e1.ns.length cy)).setCell ⟨bY, 3, none⟩ (.slice By e1.ts.length dy)) = D6 at HP4 HP5 HB HG HPy HFy HKy HPx HFx HKx HxN HxT HyN HyT HORD hHeld ⊢
              try simp only [Act.put, List.setIfInBounds_toArray, List.set_cons_zero, List.set_cons_succ]
              refine wpAnyH_done (by kernel_rfl) ?_ _
              go_wp2_with fail
              go_meet
              exact ⟨bx, bY, Ax, cx, Bx, dx, Ay, cy, By, dy, rfl, rfl, Lib.hid ⟨HPx.out, HPy.out, ev_of HY0.out.v HY0.out.k HY0.out.fit HY0.out.txt HxN.out HxT.out, ev_of HY1.out.v HY1.out.k HY1.out.fit HY1.out.txt HyN.out HyT.out, HG.out⟩⟩
      case rest =>
        obtain ⟨bx, bY, Ax, cx, Bx, dx, Ay, cy, By, dy, rfl, rfl, H3⟩ := hcut
        have h3 := H3.out.2.2.2.2
        replace HP4 := hh (HP4.out.below h3)
        replace HP5 := hh (HP5.out.below h3)
        replace HB := hh (below_step HB.out h3)
        have HPx := Lib.hid H3.out.1
        have HPy := Lib.hid H3.out.2.1
        have HXe := Lib.hid H3.out.2.2.1
        have HYe := Lib.hid H3.out.2.2.2.1
        clear h3 H3 HKS
        have HKS := hh (fun W (hW : Below wc.heap.size wc W) => show (fun w' => Below wc.heap.size wc w' ∧ w'.cell? ⟨w.heap.size, 0, none⟩ = some (.int .u8 e0.v) ∧ w'.cell? ⟨w.heap.size, 1, none⟩ = some (.int .u8 e0.k) ∧ w'.cell? ⟨w.heap.size, 2, none⟩ = some (.slice A0 e0.ns.length c0) ∧ w'.cell? ⟨w.heap.size, 3, none⟩ = some (.slice B0 e0.ts.length g0) ∧ w'.cell? ⟨(w.heap.size + 1), 0, none⟩ = some (.int .u8 e1.v) ∧ w'.cell? ⟨(w.heap.size + 1), 1, none⟩ = some (.int .u8 e1.k) ∧ w'.cell? ⟨(w.heap.size + 1), 2, none⟩ = some (.slice A1 e1.ns.length c1) ∧ w'.cell? ⟨(w.heap.size + 1), 3, none⟩ = some (.slice B1 e1.ts.length g1) ∧ w'.cell? ⟨bx, 0, none⟩ = some (.int .u8 e0.v) ∧ w'.cell? ⟨bx, 1, none⟩ = some (.int .u8 e0.k) ∧ w'.cell? ⟨bx, 2, none⟩ = some (.slice Ax e0.ns.length cx) ∧ w'.cell? ⟨bx, 3, none⟩ = some (.slice Bx e0.ts.length dx) ∧ w'.cell? ⟨bY, 0, none⟩ = some (.int .u8 e1.v) ∧ w'.cell? ⟨bY, 1, none⟩ = some (.int .u8 e1.k) ∧ w'.cell? ⟨bY, 2, none⟩ = some (.slice Ay e1.ns.length cy) ∧ w'.cell? ⟨bY, 3, none⟩ = some (.slice By e1.ts.length dy)) W from by
          obtain ⟨p0, p1, p2, p3⟩ := HP4.out.below hW
          obtain ⟨q0, q1, q2, q3⟩ := HP5.out.below hW
          obtain ⟨t0, t1, t2, t3⟩ := HPx.out.below hW
          obtain ⟨v0, v1, v2, v3⟩ := HPy.out.below hW
          exact ⟨hW, p0, p1, p2, p3, q0, q1, q2, q3, t0, t1, t2, t3, v0, v1, v2, v3⟩)
        have HC0 := hh (fun W (hW : Below wc.heap.size wc W) => show Calls Tryd.prog 25 #[.agg #[.int .u8 e0.v, .int .u8 e0.k, .slice Ax e0.ns.length cx, .slice Bx e0.ts.length dx]] W fun z w' => z = .returned (.bool (may e0)) ∧ Below W.heap.size W w' from may_any _ _ _ _ e0 (by have := HL0.out; have := HL1.out; omega) W (HE.out.below (below_step HB.out hW)) (HXe.out.below hW))
        have HC1 := hh (fun W (hW : Below wc.heap.size wc W) => show Calls Tryd.prog 26 #[.agg #[.int .u8 e0.v, .int .u8 e0.k, .slice A0 e0.ns.length c0, .slice B0 e0.ts.length g0]] W fun z w' => z = .returned (.bool (may e0)) ∧ Below W.heap.size W w' from rMay_any _ _ _ _ e0 W (HY0.out.below (below_step HB.out hW)))
        have HC2 := hh (fun W (hW : Below wc.heap.size wc W) => show Calls Tryd.prog 25 #[.agg #[.int .u8 e1.v, .int .u8 e1.k, .slice Ay e1.ns.length cy, .slice By e1.ts.length dy]] W fun z w' => z = .returned (.bool (may e1)) ∧ Below W.heap.size W w' from may_any _ _ _ _ e1 (by have := HL0.out; have := HL1.out; omega) W (HE.out.below (below_step HB.out hW)) (HYe.out.below hW))
        have HC3 := hh (fun W (hW : Below wc.heap.size wc W) => show Calls Tryd.prog 26 #[.agg #[.int .u8 e1.v, .int .u8 e1.k, .slice A1 e1.ns.length c1, .slice B1 e1.ts.length g1]] W fun z w' => z = .returned (.bool (may e1)) ∧ Below W.heap.size W w' from rMay_any _ _ _ _ e1 W (HY1.out.below (below_step HB.out hW)))
        have HC4 := hh (fun W (hW : Below wc.heap.size wc W) => show Calls Tryd.prog 27 #[.string s] W fun z w' => z = .returned (.bool (mayName s)) ∧ Below W.heap.size W w' from mayName_any s HWS.out W)
        have HC5 := hh (fun W (hW : Below wc.heap.size wc W) => show Calls Tryd.prog 28 #[.string s] W fun z w' => z = .returned (.bool (mayName s)) ∧ Below W.heap.size W w' from (rMayName_any s HWS.out W).mono fun z w' h => ⟨h.1, h.2 ▸ Below.refl _ _⟩)
        have HC6 := hh (fun W (hW : Below wc.heap.size wc W) => show Calls Tryd.prog 29 #[.agg #[.int .u8 e0.v, .int .u8 e0.k, .slice Ax e0.ns.length cx, .slice Bx e0.ts.length dx], .agg #[.int .u8 e1.v, .int .u8 e1.k, .slice Ay e1.ns.length cy, .slice By e1.ts.length dy]] W fun z w' => z = .returned (.bool (same e0 e1)) ∧ Below W.heap.size W w' from same_any _ _ _ _ e0 _ _ _ _ e1 (by have := HL0.out; have := HL1.out; omega) (by have := HL0.out; have := HL1.out; omega) (by have := HL0.out; have := HL1.out; omega) (by have := HL0.out; have := HL1.out; omega) W (HXe.out.below hW) (HYe.out.below hW))
        have HC7 := hh (fun W (hW : Below wc.heap.size wc W) => show Calls Tryd.prog 30 #[.agg #[.int .u8 e0.v, .int .u8 e0.k, .slice A0 e0.ns.length c0, .slice B0 e0.ts.length g0], .agg #[.int .u8 e1.v, .int .u8 e1.k, .slice A1 e1.ns.length c1, .slice B1 e1.ts.length g1]] W fun z w' => z = .returned (.bool (same e0 e1)) ∧ Below W.heap.size W w' from rSame_any _ _ _ _ e0 _ _ _ _ e1 (by have := HL0.out; have := HL1.out; omega) (by have := HL0.out; have := HL1.out; omega) W (HY0.out.below (below_step HB.out hW)) (HY1.out.below (below_step HB.out hW)))
        have HC8 := hh (fun W (hW : Below wc.heap.size wc W) => show Calls Tryd.prog 30 #[.agg #[.int .u8 e0.v, .int .u8 e0.k, .slice Ax e0.ns.length cx, .slice Bx e0.ts.length dx], .agg #[.int .u8 e0.v, .int .u8 e0.k, .slice A0 e0.ns.length c0, .slice B0 e0.ts.length g0]] W fun z w' => z = .returned (.bool true) ∧ Below W.heap.size W w' from by
          have h := rSame_any _ _ _ _ e0 _ _ _ _ e0 (by have := HL0.out; have := HL1.out; omega) (by have := HL0.out; have := HL1.out; omega) W (HXe.out.below hW) (HY0.out.below (below_step HB.out hW))
          rw [same_self] at h
          exact h)
        have HC9 := hh (fun W (hW : Below wc.heap.size wc W) => show Calls Tryd.prog 11 #[] W fun z w' => z = .returned (.bool true) ∧ Below W.heap.size W w' from awake_any W (HE.out.below (below_step HB.out hW)))
        generalize may e0 = f0 at HC0 HC1
        generalize may e1 = f1 at HC2 HC3
        generalize mayName s = f2 at HC4 HC5
        generalize same e0 e1 = f3 at HC6 HC7
        have hf0 : (f0 == f0) = true := by cases f0 <;> rfl
        have hf1 : (f1 == f1) = true := by cases f1 <;> rfl
        have hf2 : (f2 == f2) = true := by cases f2 <;> rfl
        have hf3 : (f3 == f3) = true := by cases f3 <;> rfl
        go_wp2_with fail
        have gd := below_drew wc.heap.size wc
        refine wp_region_held_drew (S := (fun w' => Below wc.heap.size wc w' ∧ w'.cell? ⟨w.heap.size, 0, none⟩ = some (.int .u8 e0.v) ∧ w'.cell? ⟨w.heap.size, 1, none⟩ = some (.int .u8 e0.k) ∧ w'.cell? ⟨w.heap.size, 2, none⟩ = some (.slice A0 e0.ns.length c0) ∧ w'.cell? ⟨w.heap.size, 3, none⟩ = some (.slice B0 e0.ts.length g0) ∧ w'.cell? ⟨(w.heap.size + 1), 0, none⟩ = some (.int .u8 e1.v) ∧ w'.cell? ⟨(w.heap.size + 1), 1, none⟩ = some (.int .u8 e1.k) ∧ w'.cell? ⟨(w.heap.size + 1), 2, none⟩ = some (.slice A1 e1.ns.length c1) ∧ w'.cell? ⟨(w.heap.size + 1), 3, none⟩ = some (.slice B1 e1.ts.length g1) ∧ w'.cell? ⟨bx, 0, none⟩ = some (.int .u8 e0.v) ∧ w'.cell? ⟨bx, 1, none⟩ = some (.int .u8 e0.k) ∧ w'.cell? ⟨bx, 2, none⟩ = some (.slice Ax e0.ns.length cx) ∧ w'.cell? ⟨bx, 3, none⟩ = some (.slice Bx e0.ts.length dx) ∧ w'.cell? ⟨bY, 0, none⟩ = some (.int .u8 e1.v) ∧ w'.cell? ⟨bY, 1, none⟩ = some (.int .u8 e1.k) ∧ w'.cell? ⟨bY, 2, none⟩ = some (.slice Ay e1.ns.length cy) ∧ w'.cell? ⟨bY, 3, none⟩ = some (.slice By e1.ts.length dy))) (by kernel_rfl) (HKS.out _ gd) (fun hHeld => ?_)
        refine wpAnyH_take (i := 0) (oi := { dst := some 25, op := Go.Op.load 44 (Go.Operand.tmp 7), type := 44, pos := "law.go:79", after := #[], guard := none }) (v := ?v50) rfl (by kernel_rfl) (by kernel_rfl) (by kernel_rfl) (fun _ _ _ h => h) (Or.inl ⟨by rfl, ?hy50⟩) (by assumption) ?rest50
        case hy50 => (intro w hSw; obtain ⟨s0, s1, s2, s3, s4, s5, s6, s7, s8, s9, s10, s11, s12, s13, s14, s15, s16⟩ := hSw; go_simp; try with_reducible rfl)
        try simp only [Act.put, List.setIfInBounds_toArray, List.set_cons_zero, List.set_cons_succ]
        refine wpAnyH_take (i := 2) (oi := { dst := some 27, op := Go.Op.load 44 (Go.Operand.tmp 3), type := 44, pos := "law.go:79", after := #[], guard := none }) (v := ?v51) rfl (by kernel_rfl) (by kernel_rfl) (by kernel_rfl) (fun _ _ _ h => h) (Or.inl ⟨by rfl, ?hy51⟩) (by assumption) ?rest51
        case hy51 => (intro w hSw; obtain ⟨s0, s1, s2, s3, s4, s5, s6, s7, s8, s9, s10, s11, s12, s13, s14, s15, s16⟩ := hSw; go_simp; try with_reducible rfl)
        try simp only [Act.put, List.setIfInBounds_toArray, List.set_cons_zero, List.set_cons_succ]
        refine wpAnyH_ready (rs := [1]) (by kernel_rfl) (by simp) ?_
        refine AllReadyH.cons (o := { dst := some 26, op := Go.Op.call { callee := Go.Callee.value (Go.Operand.func 25), args := #[Go.Operand.tmp 25], argTypes := #[44] }, type := 4, pos := "law.go:79", after := #[{ on := 0, ground := Go.Ground.data }], guard := none }) rfl (fun K hK => ?_) AllReadyH.nil
        go_simp
        go_at_call 25
        refine (HC0.out _ gd).mono ?_
        rintro z V0 ⟨rfl, hb⟩
        have g0 := below_step gd hb
        refine hK.out _ _ (HKS.out _ g0) (fun hHeld0 => ?_)
        clear hK K hb
        try simp only [Act.put, List.setIfInBounds_toArray, List.set_cons_zero, List.set_cons_succ]
        refine wpAnyH_ready (rs := [3]) (by kernel_rfl) (by simp) ?_
        refine AllReadyH.cons (o := { dst := some 28, op := Go.Op.call { callee := Go.Callee.value (Go.Operand.func 26), args := #[Go.Operand.tmp 27], argTypes := #[44] }, type := 4, pos := "law.go:79", after := #[{ on := 2, ground := Go.Ground.data }, { on := 1, ground := Go.Ground.chain }], guard := none }) rfl (fun K hK => ?_) AllReadyH.nil
        go_simp
        go_at_call 26
        refine (HC1.out _ g0).mono ?_
        rintro z V1 ⟨rfl, hb⟩
        have g1 := below_step g0 hb
        refine hK.out _ _ (HKS.out _ g1) (fun hHeld1 => ?_)
        clear hK K hb
        try simp only [Act.put, List.setIfInBounds_toArray, List.set_cons_zero, List.set_cons_succ]
        refine wpAnyH_take (i := 4) (oi := { dst := some 29, op := Go.Op.binOp Go.BinOp.eql 4 (Go.Operand.tmp 26) (Go.Operand.tmp 28) 4, type := 4, pos := "law.go:79", after := #[{ on := 1, ground := Go.Ground.data }, { on := 3, ground := Go.Ground.data }], guard := none }) (v := ?v52) rfl (by kernel_rfl) (by kernel_rfl) (by kernel_rfl) (fun _ _ _ h => h) (Or.inl ⟨by rfl, ?hy52⟩) (by assumption) ?rest52
        case hy52 => (intro w hSw; obtain ⟨s0, s1, s2, s3, s4, s5, s6, s7, s8, s9, s10, s11, s12, s13, s14, s15, s16⟩ := hSw; go_simp; try with_reducible rfl)
        try simp only [Act.put, List.setIfInBounds_toArray, List.set_cons_zero, List.set_cons_succ]
        refine wpAnyH_take (i := 5) (oi := { dst := some 30, op := Go.Op.move (Go.Operand.tmp 29), type := 4, pos := "law.go:79", after := #[{ on := 4, ground := Go.Ground.data }, { on := 3, ground := Go.Ground.chain }], guard := none }) (v := ?v53) rfl (by kernel_rfl) (by kernel_rfl) (by kernel_rfl) (fun _ _ _ h => h) (Or.inl ⟨by rfl, ?hy53⟩) (by assumption) ?rest53
        case hy53 => (intro w hSw; obtain ⟨s0, s1, s2, s3, s4, s5, s6, s7, s8, s9, s10, s11, s12, s13, s14, s15, s16⟩ := hSw; go_simp; try with_reducible rfl)
        try simp only [Act.put, List.setIfInBounds_toArray, List.set_cons_zero, List.set_cons_succ]
        refine wpAnyH_take (i := 6) (oi := { dst := some 31, op := Go.Op.load 44 (Go.Operand.tmp 8), type := 44, pos := "law.go:79", after := #[{ on := 5, ground := Go.Ground.guard }], guard := some (5, true) }) (v := ?v54) rfl (by kernel_rfl) (by kernel_rfl) (by kernel_rfl) (fun _ _ _ h => h) (Or.inl ⟨by rfl, ?hy54⟩) (by assumption) ?rest54
        case hy54 => (intro w hSw; obtain ⟨s0, s1, s2, s3, s4, s5, s6, s7, s8, s9, s10, s11, s12, s13, s14, s15, s16⟩ := hSw; go_simp; try with_reducible rfl)
        try simp only [Act.put, List.setIfInBounds_toArray, List.set_cons_zero, List.set_cons_succ]
        refine wpAnyH_take (i := 8) (oi := { dst := some 33, op := Go.Op.load 44 (Go.Operand.tmp 4), type := 44, pos := "law.go:79", after := #[{ on := 5, ground := Go.Ground.guard }], guard := some (5, true) }) (v := ?v55) rfl (by kernel_rfl) (by kernel_rfl) (by kernel_rfl) (fun _ _ _ h => h) (Or.inl ⟨by rfl, ?hy55⟩) (by assumption) ?rest55
        case hy55 => (intro w hSw; obtain ⟨s0, s1, s2, s3, s4, s5, s6, s7, s8, s9, s10, s11, s12, s13, s14, s15, s16⟩ := hSw; go_simp; try with_reducible rfl)
        try simp only [Act.put, List.setIfInBounds_toArray, List.set_cons_zero, List.set_cons_succ]
        refine wpAnyH_ready (rs := [7]) (by kernel_rfl) (by simp) ?_
        refine AllReadyH.cons (o := { dst := some 32, op := Go.Op.call { callee := Go.Callee.value (Go.Operand.func 25), args := #[Go.Operand.tmp 31], argTypes := #[44] }, type := 4, pos := "law.go:79", after := #[{ on := 6, ground := Go.Ground.data }, { on := 5, ground := Go.Ground.chain }, { on := 5, ground := Go.Ground.guard }], guard := some (5, true) }) rfl (fun K hK => ?_) AllReadyH.nil
        go_simp
        go_at_call 25
        refine (HC2.out _ g1).mono ?_
        rintro z V2 ⟨rfl, hb⟩
        have g2 := below_step g1 hb
        refine hK.out _ _ (HKS.out _ g2) (fun hHeld2 => ?_)
        clear hK K hb
        try simp only [Act.put, List.setIfInBounds_toArray, List.set_cons_zero, List.set_cons_succ]
        refine wpAnyH_ready (rs := [9]) (by kernel_rfl) (by simp) ?_
        refine AllReadyH.cons (o := { dst := some 34, op := Go.Op.call { callee := Go.Callee.value (Go.Operand.func 26), args := #[Go.Operand.tmp 33], argTypes := #[44] }, type := 4, pos := "law.go:79", after := #[{ on := 8, ground := Go.Ground.data }, { on := 7, ground := Go.Ground.chain }, { on := 5, ground := Go.Ground.guard }], guard := some (5, true) }) rfl (fun K hK => ?_) AllReadyH.nil
        go_simp
        go_at_call 26
        refine (HC3.out _ g2).mono ?_
        rintro z V3 ⟨rfl, hb⟩
        have g3 := below_step g2 hb
        refine hK.out _ _ (HKS.out _ g3) (fun hHeld3 => ?_)
        clear hK K hb
        try simp only [Act.put, List.setIfInBounds_toArray, List.set_cons_zero, List.set_cons_succ]
        refine wpAnyH_take (i := 10) (oi := { dst := some 35, op := Go.Op.binOp Go.BinOp.eql 4 (Go.Operand.tmp 32) (Go.Operand.tmp 34) 4, type := 4, pos := "law.go:79", after := #[{ on := 7, ground := Go.Ground.data }, { on := 9, ground := Go.Ground.data }, { on := 5, ground := Go.Ground.guard }], guard := some (5, true) }) (v := ?v56) rfl (by kernel_rfl) (by kernel_rfl) (by kernel_rfl) (fun _ _ _ h => h) (Or.inl ⟨by rfl, ?hy56⟩) (by assumption) ?rest56
        case hy56 => (intro w hSw; obtain ⟨s0, s1, s2, s3, s4, s5, s6, s7, s8, s9, s10, s11, s12, s13, s14, s15, s16⟩ := hSw; go_simp; try with_reducible rfl)
        try simp only [Act.put, List.setIfInBounds_toArray, List.set_cons_zero, List.set_cons_succ]
        refine wpAnyH_take (i := 11) (oi := { dst := some 36, op := Go.Op.pick (Go.Operand.tmp 30) (Go.Operand.tmp 35) (Go.Operand.const (Go.Value.bool false)), type := 4, pos := "law.go:79", after := #[{ on := 5, ground := Go.Ground.data }, { on := 10, ground := Go.Ground.data }], guard := none }) (v := ?v57) rfl (by kernel_rfl) (by kernel_rfl) (by kernel_rfl) (fun _ _ _ h => h) (Or.inl ⟨by rfl, ?hy57⟩) (by assumption) ?rest57
        case hy57 => (intro w hSw; obtain ⟨s0, s1, s2, s3, s4, s5, s6, s7, s8, s9, s10, s11, s12, s13, s14, s15, s16⟩ := hSw; go_simp; try with_reducible rfl)
        try simp only [Act.put, List.setIfInBounds_toArray, List.set_cons_zero, List.set_cons_succ]
        refine wpAnyH_take (i := 12) (oi := { dst := some 37, op := Go.Op.move (Go.Operand.tmp 36), type := 4, pos := "law.go:79", after := #[{ on := 11, ground := Go.Ground.data }, { on := 9, ground := Go.Ground.chain }], guard := none }) (v := ?v58) rfl (by kernel_rfl) (by kernel_rfl) (by kernel_rfl) (fun _ _ _ h => h) (Or.inl ⟨by rfl, ?hy58⟩) (by assumption) ?rest58
        case hy58 => (intro w hSw; obtain ⟨s0, s1, s2, s3, s4, s5, s6, s7, s8, s9, s10, s11, s12, s13, s14, s15, s16⟩ := hSw; go_simp; try with_reducible rfl)
        try simp only [Act.put, List.setIfInBounds_toArray, List.set_cons_zero, List.set_cons_succ]
        refine wpAnyH_take (i := 13) (oi := { dst := some 38, op := Go.Op.move (Go.Operand.tmp 2), type := 9, pos := "law.go:79", after := #[{ on := 12, ground := Go.Ground.guard }], guard := some (12, true) }) (v := ?v59) rfl (by kernel_rfl) (by kernel_rfl) (by kernel_rfl) (fun _ _ _ h => h) (Or.inl ⟨by rfl, ?hy59⟩) (by assumption) ?rest59
        case hy59 => (intro w hSw; obtain ⟨s0, s1, s2, s3, s4, s5, s6, s7, s8, s9, s10, s11, s12, s13, s14, s15, s16⟩ := hSw; go_simp; try with_reducible rfl)
        try simp only [Act.put, List.setIfInBounds_toArray, List.set_cons_zero, List.set_cons_succ]
        refine wpAnyH_take (i := 15) (oi := { dst := some 40, op := Go.Op.move (Go.Operand.tmp 2), type := 9, pos := "law.go:79", after := #[{ on := 12, ground := Go.Ground.guard }], guard := some (12, true) }) (v := ?v60) rfl (by kernel_rfl) (by kernel_rfl) (by kernel_rfl) (fun _ _ _ h => h) (Or.inl ⟨by rfl, ?hy60⟩) (by assumption) ?rest60
        case hy60 => (intro w hSw; obtain ⟨s0, s1, s2, s3, s4, s5, s6, s7, s8, s9, s10, s11, s12, s13, s14, s15, s16⟩ := hSw; go_simp; try with_reducible rfl)
        try simp only [Act.put, List.setIfInBounds_toArray, List.set_cons_zero, List.set_cons_succ]
        refine wpAnyH_ready (rs := [14]) (by kernel_rfl) (by simp) ?_
        refine AllReadyH.cons (o := { dst := some 39, op := Go.Op.call { callee := Go.Callee.value (Go.Operand.func 27), args := #[Go.Operand.tmp 38], argTypes := #[9] }, type := 4, pos := "law.go:79", after := #[{ on := 13, ground := Go.Ground.data }, { on := 12, ground := Go.Ground.chain }, { on := 12, ground := Go.Ground.guard }], guard := some (12, true) }) rfl (fun K hK => ?_) AllReadyH.nil
        go_simp
        go_at_call 27
        refine (HC4.out _ g3).mono ?_
        rintro z V4 ⟨rfl, hb⟩
        have g4 := below_step g3 hb
        refine hK.out _ _ (HKS.out _ g4) (fun hHeld4 => ?_)
        clear hK K hb
        try simp only [Act.put, List.setIfInBounds_toArray, List.set_cons_zero, List.set_cons_succ]
        refine wpAnyH_ready (rs := [16]) (by kernel_rfl) (by simp) ?_
        refine AllReadyH.cons (o := { dst := some 41, op := Go.Op.call { callee := Go.Callee.value (Go.Operand.func 28), args := #[Go.Operand.tmp 40], argTypes := #[9] }, type := 4, pos := "law.go:79", after := #[{ on := 15, ground := Go.Ground.data }, { on := 14, ground := Go.Ground.chain }, { on := 12, ground := Go.Ground.guard }], guard := some (12, true) }) rfl (fun K hK => ?_) AllReadyH.nil
        go_simp
        go_at_call 28
        refine (HC5.out _ g4).mono ?_
        rintro z V5 ⟨rfl, hb⟩
        have g5 := below_step g4 hb
        refine hK.out _ _ (HKS.out _ g5) (fun hHeld5 => ?_)
        clear hK K hb
        try simp only [Act.put, List.setIfInBounds_toArray, List.set_cons_zero, List.set_cons_succ]
        refine wpAnyH_take (i := 17) (oi := { dst := some 42, op := Go.Op.binOp Go.BinOp.eql 4 (Go.Operand.tmp 39) (Go.Operand.tmp 41) 4, type := 4, pos := "law.go:79", after := #[{ on := 14, ground := Go.Ground.data }, { on := 16, ground := Go.Ground.data }, { on := 12, ground := Go.Ground.guard }], guard := some (12, true) }) (v := ?v61) rfl (by kernel_rfl) (by kernel_rfl) (by kernel_rfl) (fun _ _ _ h => h) (Or.inl ⟨by rfl, ?hy61⟩) (by assumption) ?rest61
        case hy61 => (intro w hSw; obtain ⟨s0, s1, s2, s3, s4, s5, s6, s7, s8, s9, s10, s11, s12, s13, s14, s15, s16⟩ := hSw; go_simp; try with_reducible rfl)
        try simp only [Act.put, List.setIfInBounds_toArray, List.set_cons_zero, List.set_cons_succ]
        refine wpAnyH_take (i := 18) (oi := { dst := some 43, op := Go.Op.pick (Go.Operand.tmp 37) (Go.Operand.tmp 42) (Go.Operand.const (Go.Value.bool false)), type := 4, pos := "law.go:79", after := #[{ on := 12, ground := Go.Ground.data }, { on := 17, ground := Go.Ground.data }], guard := none }) (v := ?v62) rfl (by kernel_rfl) (by kernel_rfl) (by kernel_rfl) (fun _ _ _ h => h) (Or.inl ⟨by rfl, ?hy62⟩) (by assumption) ?rest62
        case hy62 => (intro w hSw; obtain ⟨s0, s1, s2, s3, s4, s5, s6, s7, s8, s9, s10, s11, s12, s13, s14, s15, s16⟩ := hSw; go_simp; try with_reducible rfl)
        try simp only [Act.put, List.setIfInBounds_toArray, List.set_cons_zero, List.set_cons_succ]
        refine wpAnyH_take (i := 19) (oi := { dst := some 44, op := Go.Op.move (Go.Operand.tmp 43), type := 4, pos := "law.go:79", after := #[{ on := 18, ground := Go.Ground.data }, { on := 16, ground := Go.Ground.chain }], guard := none }) (v := ?v63) rfl (by kernel_rfl) (by kernel_rfl) (by kernel_rfl) (fun _ _ _ h => h) (Or.inl ⟨by rfl, ?hy63⟩) (by assumption) ?rest63
        case hy63 => (intro w hSw; obtain ⟨s0, s1, s2, s3, s4, s5, s6, s7, s8, s9, s10, s11, s12, s13, s14, s15, s16⟩ := hSw; go_simp; try with_reducible rfl)
        try simp only [Act.put, List.setIfInBounds_toArray, List.set_cons_zero, List.set_cons_succ]
        refine wpAnyH_take (i := 20) (oi := { dst := some 45, op := Go.Op.load 44 (Go.Operand.tmp 7), type := 44, pos := "law.go:79", after := #[{ on := 19, ground := Go.Ground.guard }], guard := some (19, true) }) (v := ?v64) rfl (by kernel_rfl) (by kernel_rfl) (by kernel_rfl) (fun _ _ _ h => h) (Or.inl ⟨by rfl, ?hy64⟩) (by assumption) ?rest64
        case hy64 => (intro w hSw; obtain ⟨s0, s1, s2, s3, s4, s5, s6, s7, s8, s9, s10, s11, s12, s13, s14, s15, s16⟩ := hSw; go_simp; try with_reducible rfl)
        try simp only [Act.put, List.setIfInBounds_toArray, List.set_cons_zero, List.set_cons_succ]
        refine wpAnyH_take (i := 21) (oi := { dst := some 46, op := Go.Op.load 44 (Go.Operand.tmp 8), type := 44, pos := "law.go:79", after := #[{ on := 19, ground := Go.Ground.guard }], guard := some (19, true) }) (v := ?v65) rfl (by kernel_rfl) (by kernel_rfl) (by kernel_rfl) (fun _ _ _ h => h) (Or.inl ⟨by rfl, ?hy65⟩) (by assumption) ?rest65
        case hy65 => (intro w hSw; obtain ⟨s0, s1, s2, s3, s4, s5, s6, s7, s8, s9, s10, s11, s12, s13, s14, s15, s16⟩ := hSw; go_simp; try with_reducible rfl)
        try simp only [Act.put, List.setIfInBounds_toArray, List.set_cons_zero, List.set_cons_succ]
        refine wpAnyH_take (i := 23) (oi := { dst := some 48, op := Go.Op.load 44 (Go.Operand.tmp 3), type := 44, pos := "law.go:79", after := #[{ on := 19, ground := Go.Ground.guard }], guard := some (19, true) }) (v := ?v66) rfl (by kernel_rfl) (by kernel_rfl) (by kernel_rfl) (fun _ _ _ h => h) (Or.inl ⟨by rfl, ?hy66⟩) (by assumption) ?rest66
        case hy66 => (intro w hSw; obtain ⟨s0, s1, s2, s3, s4, s5, s6, s7, s8, s9, s10, s11, s12, s13, s14, s15, s16⟩ := hSw; go_simp; try with_reducible rfl)
        try simp only [Act.put, List.setIfInBounds_toArray, List.set_cons_zero, List.set_cons_succ]
        refine wpAnyH_take (i := 24) (oi := { dst := some 49, op := Go.Op.load 44 (Go.Operand.tmp 4), type := 44, pos := "law.go:79", after := #[{ on := 19, ground := Go.Ground.guard }], guard := some (19, true) }) (v := ?v67) rfl (by kernel_rfl) (by kernel_rfl) (by kernel_rfl) (fun _ _ _ h => h) (Or.inl ⟨by rfl, ?hy67⟩) (by assumption) ?rest67
        case hy67 => (intro w hSw; obtain ⟨s0, s1, s2, s3, s4, s5, s6, s7, s8, s9, s10, s11, s12, s13, s14, s15, s16⟩ := hSw; go_simp; try with_reducible rfl)
        try simp only [Act.put, List.setIfInBounds_toArray, List.set_cons_zero, List.set_cons_succ]
        refine wpAnyH_ready (rs := [22]) (by kernel_rfl) (by simp) ?_
        refine AllReadyH.cons (o := { dst := some 47, op := Go.Op.call { callee := Go.Callee.value (Go.Operand.func 29), args := #[Go.Operand.tmp 45, Go.Operand.tmp 46], argTypes := #[44, 44] }, type := 4, pos := "law.go:79", after := #[{ on := 20, ground := Go.Ground.data }, { on := 21, ground := Go.Ground.data }, { on := 19, ground := Go.Ground.chain }, { on := 19, ground := Go.Ground.guard }], guard := some (19, true) }) rfl (fun K hK => ?_) AllReadyH.nil
        go_simp
        go_at_call 29
        refine (HC6.out _ g5).mono ?_
        rintro z V6 ⟨rfl, hb⟩
        have g6 := below_step g5 hb
        refine hK.out _ _ (HKS.out _ g6) (fun hHeld6 => ?_)
        clear hK K hb
        try simp only [Act.put, List.setIfInBounds_toArray, List.set_cons_zero, List.set_cons_succ]
        refine wpAnyH_ready (rs := [25]) (by kernel_rfl) (by simp) ?_
        refine AllReadyH.cons (o := { dst := some 50, op := Go.Op.call { callee := Go.Callee.value (Go.Operand.func 30), args := #[Go.Operand.tmp 48, Go.Operand.tmp 49], argTypes := #[44, 44] }, type := 4, pos := "law.go:79", after := #[{ on := 23, ground := Go.Ground.data }, { on := 24, ground := Go.Ground.data }, { on := 22, ground := Go.Ground.chain }, { on := 19, ground := Go.Ground.guard }], guard := some (19, true) }) rfl (fun K hK => ?_) AllReadyH.nil
        go_simp
        go_at_call 30
        refine (HC7.out _ g6).mono ?_
        rintro z V7 ⟨rfl, hb⟩
        have g7 := below_step g6 hb
        refine hK.out _ _ (HKS.out _ g7) (fun hHeld7 => ?_)
        clear hK K hb
        try simp only [Act.put, List.setIfInBounds_toArray, List.set_cons_zero, List.set_cons_succ]
        refine wpAnyH_take (i := 26) (oi := { dst := some 51, op := Go.Op.binOp Go.BinOp.eql 4 (Go.Operand.tmp 47) (Go.Operand.tmp 50) 4, type := 4, pos := "law.go:79", after := #[{ on := 22, ground := Go.Ground.data }, { on := 25, ground := Go.Ground.data }, { on := 19, ground := Go.Ground.guard }], guard := some (19, true) }) (v := ?v68) rfl (by kernel_rfl) (by kernel_rfl) (by kernel_rfl) (fun _ _ _ h => h) (Or.inl ⟨by rfl, ?hy68⟩) (by assumption) ?rest68
        case hy68 => (intro w hSw; obtain ⟨s0, s1, s2, s3, s4, s5, s6, s7, s8, s9, s10, s11, s12, s13, s14, s15, s16⟩ := hSw; go_simp; try with_reducible rfl)
        try simp only [Act.put, List.setIfInBounds_toArray, List.set_cons_zero, List.set_cons_succ]
        refine wpAnyH_take (i := 27) (oi := { dst := some 52, op := Go.Op.pick (Go.Operand.tmp 44) (Go.Operand.tmp 51) (Go.Operand.const (Go.Value.bool false)), type := 4, pos := "law.go:79", after := #[{ on := 19, ground := Go.Ground.data }, { on := 26, ground := Go.Ground.data }], guard := none }) (v := ?v69) rfl (by kernel_rfl) (by kernel_rfl) (by kernel_rfl) (fun _ _ _ h => h) (Or.inl ⟨by rfl, ?hy69⟩) (by assumption) ?rest69
        case hy69 => (intro w hSw; obtain ⟨s0, s1, s2, s3, s4, s5, s6, s7, s8, s9, s10, s11, s12, s13, s14, s15, s16⟩ := hSw; go_simp; try with_reducible rfl)
        try simp only [Act.put, List.setIfInBounds_toArray, List.set_cons_zero, List.set_cons_succ]
        refine wpAnyH_take (i := 28) (oi := { dst := some 53, op := Go.Op.move (Go.Operand.tmp 52), type := 4, pos := "law.go:79", after := #[{ on := 27, ground := Go.Ground.data }, { on := 25, ground := Go.Ground.chain }], guard := none }) (v := ?v70) rfl (by kernel_rfl) (by kernel_rfl) (by kernel_rfl) (fun _ _ _ h => h) (Or.inl ⟨by rfl, ?hy70⟩) (by assumption) ?rest70
        case hy70 => (intro w hSw; obtain ⟨s0, s1, s2, s3, s4, s5, s6, s7, s8, s9, s10, s11, s12, s13, s14, s15, s16⟩ := hSw; go_simp; try with_reducible rfl)
        try simp only [Act.put, List.setIfInBounds_toArray, List.set_cons_zero, List.set_cons_succ]
        refine wpAnyH_take (i := 29) (oi := { dst := some 54, op := Go.Op.load 44 (Go.Operand.tmp 7), type := 44, pos := "law.go:79", after := #[{ on := 28, ground := Go.Ground.guard }], guard := some (28, true) }) (v := ?v71) rfl (by kernel_rfl) (by kernel_rfl) (by kernel_rfl) (fun _ _ _ h => h) (Or.inl ⟨by rfl, ?hy71⟩) (by assumption) ?rest71
        case hy71 => (intro w hSw; obtain ⟨s0, s1, s2, s3, s4, s5, s6, s7, s8, s9, s10, s11, s12, s13, s14, s15, s16⟩ := hSw; go_simp; try with_reducible rfl)
        try simp only [Act.put, List.setIfInBounds_toArray, List.set_cons_zero, List.set_cons_succ]
        refine wpAnyH_take (i := 30) (oi := { dst := some 55, op := Go.Op.load 44 (Go.Operand.tmp 3), type := 44, pos := "law.go:79", after := #[{ on := 28, ground := Go.Ground.guard }], guard := some (28, true) }) (v := ?v72) rfl (by kernel_rfl) (by kernel_rfl) (by kernel_rfl) (fun _ _ _ h => h) (Or.inl ⟨by rfl, ?hy72⟩) (by assumption) ?rest72
        case hy72 => (intro w hSw; obtain ⟨s0, s1, s2, s3, s4, s5, s6, s7, s8, s9, s10, s11, s12, s13, s14, s15, s16⟩ := hSw; go_simp; try with_reducible rfl)
        try simp only [Act.put, List.setIfInBounds_toArray, List.set_cons_zero, List.set_cons_succ]
        refine wpAnyH_ready (rs := [31]) (by kernel_rfl) (by simp) ?_
        refine AllReadyH.cons (o := { dst := some 56, op := Go.Op.call { callee := Go.Callee.value (Go.Operand.func 30), args := #[Go.Operand.tmp 54, Go.Operand.tmp 55], argTypes := #[44, 44] }, type := 4, pos := "law.go:79", after := #[{ on := 29, ground := Go.Ground.data }, { on := 30, ground := Go.Ground.data }, { on := 28, ground := Go.Ground.chain }, { on := 28, ground := Go.Ground.guard }], guard := some (28, true) }) rfl (fun K hK => ?_) AllReadyH.nil
        go_simp
        go_at_call 30
        refine (HC8.out _ g7).mono ?_
        rintro z V8 ⟨rfl, hb⟩
        have g8 := below_step g7 hb
        refine hK.out _ _ (HKS.out _ g8) (fun hHeld8 => ?_)
        clear hK K hb
        try simp only [Act.put, List.setIfInBounds_toArray, List.set_cons_zero, List.set_cons_succ]
        refine wpAnyH_take (i := 32) (oi := { dst := some 57, op := Go.Op.pick (Go.Operand.tmp 53) (Go.Operand.tmp 56) (Go.Operand.const (Go.Value.bool false)), type := 4, pos := "law.go:79", after := #[{ on := 28, ground := Go.Ground.data }, { on := 31, ground := Go.Ground.data }], guard := none }) (v := ?v73) rfl (by kernel_rfl) (by kernel_rfl) (by kernel_rfl) (fun _ _ _ h => h) (Or.inl ⟨by rfl, ?hy73⟩) (by assumption) ?rest73
        case hy73 => (intro w hSw; obtain ⟨s0, s1, s2, s3, s4, s5, s6, s7, s8, s9, s10, s11, s12, s13, s14, s15, s16⟩ := hSw; go_simp; try with_reducible rfl)
        try simp only [Act.put, List.setIfInBounds_toArray, List.set_cons_zero, List.set_cons_succ]
        refine wpAnyH_take (i := 33) (oi := { dst := some 58, op := Go.Op.move (Go.Operand.tmp 57), type := 4, pos := "law.go:79", after := #[{ on := 32, ground := Go.Ground.data }, { on := 31, ground := Go.Ground.chain }], guard := none }) (v := ?v74) rfl (by kernel_rfl) (by kernel_rfl) (by kernel_rfl) (fun _ _ _ h => h) (Or.inl ⟨by rfl, ?hy74⟩) (by assumption) ?rest74
        case hy74 => (intro w hSw; obtain ⟨s0, s1, s2, s3, s4, s5, s6, s7, s8, s9, s10, s11, s12, s13, s14, s15, s16⟩ := hSw; go_simp; try with_reducible rfl)
        try simp only [Act.put, List.setIfInBounds_toArray, List.set_cons_zero, List.set_cons_succ]
        refine wpAnyH_ready (rs := [34]) (by kernel_rfl) (by simp) ?_
        refine AllReadyH.cons (o := { dst := some 59, op := Go.Op.call { callee := Go.Callee.value (Go.Operand.func 11), args := #[], argTypes := #[] }, type := 4, pos := "law.go:79", after := #[{ on := 33, ground := Go.Ground.chain }, { on := 33, ground := Go.Ground.guard }], guard := some (33, true) }) rfl (fun K hK => ?_) AllReadyH.nil
        go_simp
        go_at_call 11
        refine (HC9.out _ g8).mono ?_
        rintro z V9 ⟨rfl, hb⟩
        have g9 := below_step g8 hb
        refine hK.out _ _ (HKS.out _ g9) (fun hHeld9 => ?_)
        clear hK K hb
        try simp only [Act.put, List.setIfInBounds_toArray, List.set_cons_zero, List.set_cons_succ]
        refine wpAnyH_take (i := 35) (oi := { dst := some 60, op := Go.Op.pick (Go.Operand.tmp 58) (Go.Operand.tmp 59) (Go.Operand.const (Go.Value.bool false)), type := 4, pos := "law.go:79", after := #[{ on := 33, ground := Go.Ground.data }, { on := 34, ground := Go.Ground.data }], guard := none }) (v := ?v75) rfl (by kernel_rfl) (by kernel_rfl) (by kernel_rfl) (fun _ _ _ h => h) (Or.inl ⟨by rfl, ?hy75⟩) (by assumption) ?rest75
        case hy75 => (intro w hSw; obtain ⟨s0, s1, s2, s3, s4, s5, s6, s7, s8, s9, s10, s11, s12, s13, s14, s15, s16⟩ := hSw; go_simp; try with_reducible rfl)
        try simp only [Act.put, List.setIfInBounds_toArray, List.set_cons_zero, List.set_cons_succ]
        refine wpAnyH_take (i := 36) (oi := { dst := some 6, op := Go.Op.assign (Go.Operand.tmp 60), type := 4, pos := "law.go:79", after := #[{ on := 35, ground := Go.Ground.data }, { on := 34, ground := Go.Ground.chain }, { on := 0, ground := Go.Ground.phase }, { on := 1, ground := Go.Ground.phase }, { on := 2, ground := Go.Ground.phase }, { on := 3, ground := Go.Ground.phase }, { on := 4, ground := Go.Ground.phase }, { on := 5, ground := Go.Ground.phase }, { on := 6, ground := Go.Ground.phase }, { on := 7, ground := Go.Ground.phase }, { on := 8, ground := Go.Ground.phase }, { on := 9, ground := Go.Ground.phase }, { on := 10, ground := Go.Ground.phase }, { on := 11, ground := Go.Ground.phase }, { on := 12, ground := Go.Ground.phase }, { on := 13, ground := Go.Ground.phase }, { on := 14, ground := Go.Ground.phase }, { on := 15, ground := Go.Ground.phase }, { on := 16, ground := Go.Ground.phase }, { on := 17, ground := Go.Ground.phase }, { on := 18, ground := Go.Ground.phase }, { on := 19, ground := Go.Ground.phase }, { on := 20, ground := Go.Ground.phase }, { on := 21, ground := Go.Ground.phase }, { on := 22, ground := Go.Ground.phase }, { on := 23, ground := Go.Ground.phase }, { on := 24, ground := Go.Ground.phase }, { on := 25, ground := Go.Ground.phase }, { on := 26, ground := Go.Ground.phase }, { on := 27, ground := Go.Ground.phase }, { on := 28, ground := Go.Ground.phase }, { on := 29, ground := Go.Ground.phase }, { on := 30, ground := Go.Ground.phase }, { on := 31, ground := Go.Ground.phase }, { on := 32, ground := Go.Ground.phase }, { on := 33, ground := Go.Ground.phase }, { on := 34, ground := Go.Ground.phase }, { on := 35, ground := Go.Ground.phase }], guard := none }) (v := ?v76) rfl (by kernel_rfl) (by kernel_rfl) (by kernel_rfl) (fun _ _ _ h => h) (Or.inl ⟨by rfl, ?hy76⟩) (by assumption) ?rest76
        case hy76 => (intro w hSw; obtain ⟨s0, s1, s2, s3, s4, s5, s6, s7, s8, s9, s10, s11, s12, s13, s14, s15, s16⟩ := hSw; go_simp; try with_reducible rfl)
        try simp only [Act.put, List.setIfInBounds_toArray, List.set_cons_zero, List.set_cons_succ]
        refine wpAnyH_done (by kernel_rfl) ?_ _
        have HFIN := hh (below_step HB.out g9)
        go_wp2_with fail
        go_ret
        exact ⟨by simp, HFIN.out⟩

end Go.Proofs.YtfklkainbkffnaaDoor.Schema
