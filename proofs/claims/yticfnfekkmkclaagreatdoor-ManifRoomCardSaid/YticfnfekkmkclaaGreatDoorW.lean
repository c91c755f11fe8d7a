import Derived.Test.YticfnfekkmkclaaGreatDoorS
import Derived.Deep.RegionHeld3
/-
  Disks that are the same: maps.Equal, Same; rows of files that are the same.
-/
namespace Go.Proofs.YticfnfekkmkclaaGreatDoor.Disk
open Go Go.RowKit Go.Maps Go.Shelf Go.Proofs

theorem sub_len {l m : List (Nm × F)} (hl : Up l) (hm : Up m) (h : ∀ p ∈ l, p ∈ m) : l.length ≤ m.length := by
  induction m generalizing l with
  | nil =>
    cases l with
    | nil => exact Nat.le_refl _
    | cons p r => exact absurd (h p (List.mem_cons_self ..)) (by simp)
  | cons q s ih =>
    obtain ⟨_, hs⟩ := List.pairwise_cons.1 hm
    have h1 := ih (hl.del q.1) hs (fun p hp => by
      obtain ⟨h2, h3⟩ := (mem_del _ _ _).1 hp
      rcases List.mem_cons.1 (h p h2) with rfl | h4
      · exact absurd rfl h3
      · exact h4)
    cases hg : get l q.1 with
    | none => rw [del_none hg] at h1; exact Nat.le_succ_of_le h1
    | some v => have := del_len_some hl hg; simp only [List.length_cons]; omega
theorem sub_eq {l m : List (Nm × F)} (hl : Up l) (hm : Up m) (h : ∀ p ∈ l, p ∈ m) (hn : l.length = m.length) : l = m := by
  refine up_ext hl hm fun x => ⟨h x, fun hx => ?_⟩
  cases hg : get l x.1 with
  | some v =>
    have h1 := h _ (get_mem hg)
    have h2 := (get_some hm).2 h1
    have h3 := (get_some hm (n := x.1) (f := x.2)).2 hx
    rw [h2] at h3
    injection h3 with h3
    have := get_mem hg
    rw [h3] at this
    exact this
  | none =>
    have h1 := sub_len hl (hm.del x.1) (fun p hp => (mem_del _ _ _).2 ⟨h p hp, get_none.1 hg p hp⟩)
    have h2 := del_len_some hm ((get_some hm (n := x.1) (f := x.2)).2 hx)
    omega

set_option maxRecDepth 100000 in
set_option maxHeartbeats 2000000 in
theorem equal_any (b1 b2 : Nat) (l m : List (Nm × F)) (hl : Up l) (hm : Up m) (hn : ∀ p ∈ l, p.1.length ≤ maxLen) (w : World) (h1 : w.ownsMap Tryz.prog 9 fileR b1 l.length (toD fD l)) (h2 : w.ownsMap Tryz.prog 9 fileR b2 m.length (toD fD m)) :
    Calls Tryz.prog 88 #[.map (some b1), .map (some b2)] w fun z w' => z = .returned (.bool (decide (l = m))) ∧ Below w.heap.size w w' := by
  have hL1 := fun ty => len_run h1 ty
  have hL2 := fun ty => len_run h2 ty
  have HM1 := Lib.hid h1
  have HM2 := Lib.hid h2
  have HL := Lib.hid hl
  have HM := Lib.hid hm
  have HN := Lib.hid hn
  clear h1 h2 hl hm hn
  by_cases hlen : l.length = m.length
  case neg =>
    have z : (((l.length : Nat) : Int) != ((m.length : Nat) : Int)) = true := by simp; omega
    have z2 : ¬ ((l.length : Nat) : Int) = ((m.length : Nat) : Int) := by omega
    have z3 : (((l.length : Nat) : Int) == ((m.length : Nat) : Int)) = false := by simp; omega
    have HR := Lib.hid (show decide (l = m) = false from decide_eq_false (fun e => hlen (by rw [e])))
    clear hlen
    generalize ((l.length : Nat) : Int) = i1 at *
    generalize ((m.length : Nat) : Int) = i2 at *
    go_enter Tryz.func88, Tryz.ntmps88
    go_wp2_with fail
    go_ret
    exact ⟨by rw [HR.out]; rfl, Below.refl _ _⟩
  case pos =>
    have HLE := Lib.hid hlen
    have hL3 : ∀ ty, (Builtin.len_ #[113] ty #[.map (some b2)]).run Tryz.prog w = .ok (.int .i64 (l.length : Int)) w := fun ty => by rw [hlen]; exact hL2 ty
    clear hlen hL2
    go_enter Tryz.func88, Tryz.ntmps88
    go_wp2_with (first
      | (at_range; refine wpList_range_own _ rfl _ 113 rfl 9 119 tkeyed tmap fileR b1 _ (toD fD l) rfl HM1.out ?_; intro w0 hrg0 hg0 hs0)
      | go_in)
    have HB0 := Lib.hid ((Below.refl w.heap.size w).grown hg0 (Nat.le_refl _) (fun j hj => by cases hj))
    clear hg0 hs0 hL1 hL3
    go_frame
    go_loopw [5] (fun _ wr => ∃ (left : Lit → Bool) (cnt : Nat), Hid (∀ p ∈ l, left (.string p.1) = false → p ∈ m) ∧ wr.ranges Tryz.prog 9 fileR b1 w.heap.size l.length (toD fD l) left cnt ∧ Below w.heap.size w wr)
      (fun _ wr => wr.rangeLeft b1 w.heap.size)
    case atStart => exact ⟨_, _, (fun p hp hf => by
      rw [toD_has, (get_some HL.out).2 hp] at hf; cases hf), hrg0, HB0.out⟩
    case round =>
      obtain ⟨left, cnt, HY, hrg, hB⟩ := hrel
      have HB := Lib.hid hB
      clear hB HB0 hrg0
      go_wp2_with (first
        | (at_next; refine wpList_next_ranges _ rfl _ rfl 9 tkeyed fileR (fun n => .string (S n)) fV keyS valF b1 w.heap.size _ _ _ _ rfl hrg ?_ ?_)
        | go_in)
      · intro _ hl0
        have HR := Lib.hid (show decide (l = m) = true from decide_eq_true (sub_eq HL.out HM.out (fun p hp => HY.out p hp (hl0 _)) HLE.out))
        clear hl0 hrg
        go_wp2
        go_ret
        exact ⟨by rw [HR.out]; rfl, HB.out⟩
      · intro x f kl yd yp w1 cnt1 hkey hlx hv hat hrg1 hlt hg1 hs1 hen
        obtain rfl := keyS_lit hkey
        have hgt := valF_get hv hat
        have hxl := HN.out _ (get_mem hgt)
        have HG := Lib.hid hgt
        have HB1 := Lib.hid (HB.out.grown hg1 HB.out.size (fun j hj => by cases hj; exact Nat.le_refl _))
        have HM2w := Lib.hid (owns_block HM2.out (HB1.out.block b2 HM2.out.lt))
        have hl := (look_run ((owns_block HM2w.out (Below.heap_alloc w1 (.cells #[.string (S f.b), .int .i64 (f.g : Int)] 119) _ HM2w.out.lt))) x hxl).1
        have HLT := Lib.hid hlt
        have HR := Lib.hid hrg
        have HR1 := Lib.hid hrg1
        have hnext : Hid (∀ p ∈ l, (p = (x, f) → p ∈ m) → left (.string p.1) = false ∨ p.1 = x ∨ True) := fun _ _ _ => Or.inr (Or.inr trivial)
        clear hkey hlx hv hat hrg1 hlt hg1 hs1 hgt hxl hrg hnext
        cases hq : get m x with
        | none =>
          rw [hq] at hl
          have HF := Lib.hid (show decide (l = m) = false from decide_eq_false (fun e => by have := HG.out; rw [e, hq] at this; cases this))
          obtain ⟨fb, fg⟩ := f
          replace hen : (Instr.entry (.pointer (some ⟨w.heap.size, 0, none⟩))).run Tryz.prog w1 = .ok (.tuple #[.string (S x), .agg #[.string (S fb), .int .i64 fg]]) w1 := hen
          replace hl : (Instr.lookup 113 (.map (some b2)) (.string (S x)) true).run Tryz.prog (w1.alloc (.cells #[.string (S fb), .int .i64 (fg : Int)] 119)) = .ok (.tuple #[.agg #[.string ⟨#[]⟩, .int .i64 0], .bool false]) (w1.alloc (.cells #[.string (S fb), .int .i64 (fg : Int)] 119)) := hl
          clear hq
          go_wp2_with fail
          go_ret
          exact ⟨by rw [HF.out]; rfl, below_new (below_new HB1.out _) _⟩
        | some g =>
          rw [hq] at hl
          have HQ := Lib.hid hq
          have he := eqn_f f g
          have hgd := fun op a b => guard_f op a b f g
          by_cases hfg : f = g
          · have hd : decide (f = g) = true := decide_eq_true hfg
            rw [hd] at he
            have HSTEP : Hid (∀ p ∈ l, (fun z : Lit => left z && !z.sameKey (.string x)) (.string p.1) = false → p ∈ m) := fun p hp hf => by
              simp only [Bool.and_eq_false_iff, Bool.not_eq_false'] at hf
              rcases hf with hf | hf
              · exact HY.out p hp hf
              · have e : p.1 = x := by simpa [Lit.sameKey] using hf
                have h3 := (get_some HL.out (n := p.1) (f := p.2)).2 hp
                rw [e, HG.out] at h3
                injection h3 with h3
                have h4 := get_mem HQ.out
                rw [← hfg, h3, ← e] at h4
                exact h4
            clear hfg hd hq
            obtain ⟨fb, fg⟩ := f
            obtain ⟨gb, gg⟩ := g
            unfold fV at he hgd
            replace hen : (Instr.entry (.pointer (some ⟨w.heap.size, 0, none⟩))).run Tryz.prog w1 = .ok (.tuple #[.string (S x), .agg #[.string (S fb), .int .i64 fg]]) w1 := hen
            replace hl : (Instr.lookup 113 (.map (some b2)) (.string (S x)) true).run Tryz.prog (w1.alloc (.cells #[.string (S fb), .int .i64 (fg : Int)] 119)) = .ok (.tuple #[.agg #[.string (S gb), .int .i64 (gg : Int)], .bool true]) (w1.alloc (.cells #[.string (S fb), .int .i64 (fg : Int)] 119)) := hl
            go_wp2_with fail
            have hrg2 := (HR1.out.alloc (.cells #[.string (S fb), .int .i64 (fg : Int)] 119)).alloc (.cells #[.string (S gb), .int .i64 (gg : Int)] 119)
            go_roundw
            case rel => exact ⟨_, cnt1, HSTEP, hrg2, below_new (below_new HB1.out _) _⟩
            case measure => rw [hrg2.left_eq, HR.out.left_eq]; exact HLT.out
          · have hd : decide (f = g) = false := decide_eq_false hfg
            rw [hd] at he
            have HF := Lib.hid (show decide (l = m) = false from decide_eq_false (fun e => by
              have h3 := HG.out
              rw [e, HQ.out] at h3
              injection h3 with h3
              exact hfg h3.symm))
            clear hfg hd hq
            obtain ⟨fb, fg⟩ := f
            obtain ⟨gb, gg⟩ := g
            unfold fV at he hgd
            replace hen : (Instr.entry (.pointer (some ⟨w.heap.size, 0, none⟩))).run Tryz.prog w1 = .ok (.tuple #[.string (S x), .agg #[.string (S fb), .int .i64 fg]]) w1 := hen
            replace hl : (Instr.lookup 113 (.map (some b2)) (.string (S x)) true).run Tryz.prog (w1.alloc (.cells #[.string (S fb), .int .i64 (fg : Int)] 119)) = .ok (.tuple #[.agg #[.string (S gb), .int .i64 (gg : Int)], .bool true]) (w1.alloc (.cells #[.string (S fb), .int .i64 (fg : Int)] 119)) := hl
            go_wp2_with fail
            go_ret
            exact ⟨by rw [HF.out]; rfl, below_new (below_new HB1.out _) _⟩
end Go.Proofs.YticfnfekkmkclaaGreatDoor.Disk
