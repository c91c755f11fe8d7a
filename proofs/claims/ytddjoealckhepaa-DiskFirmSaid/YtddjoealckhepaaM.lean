import Derived.Test.YtddjoealckhepaaL
import Derived.Test.YtddjoealckhepaaN
/-
  Files that are handed in: whether they may be a disk's; Load, New.
-/
namespace Go.Proofs.Ytddjoealckhepaa.Disk
open Go Go.RowKit Go.Maps Go.Shelf Go.Proofs

def fiOk (l : List Fi) (i : Nat) : Bool :=
  (decide (i = 0) || bytesBefore (l.getD (i - 1) ⟨[], [], []⟩).n (l.getD i ⟨[], [], []⟩).n) && mayN (l.getD i ⟨[], [], []⟩).n && decide ((l.getD i ⟨[], [], []⟩).d.length + (l.getD i ⟨[], [], []⟩).p.length ≤ 1048576)
def mayFi (l : List Fi) : Bool := decide (l.length ≤ 64) && (List.range l.length).all (fiOk l)
def Short (l : List Fi) : Prop := ∀ x ∈ l, x.n.length ≤ 1000000000000000 ∧ x.d.length ≤ 1000000000000000 ∧ x.p.length ≤ 1000000000000000
theorem getD_at (l : List Fi) (i : Nat) (h : i < l.length) : l.getD i ⟨[], [], []⟩ = l[i] := by rw [List.getD_eq_getElem?_getD, List.getElem?_eq_getElem h]; rfl
theorem mayFi_yes {l : List Fi} (h1 : l.length ≤ 64) (h : ∀ i, i < l.length → fiOk l i = true) : mayFi l = true := by
  unfold mayFi
  rw [decide_eq_true h1, Bool.true_and, List.all_eq_true]
  exact fun j hj => h j (List.mem_range.1 hj)
theorem mayFi_no {l : List Fi} {i : Nat} (hi : i < l.length) (h : fiOk l i = false) : mayFi l = false := by
  unfold mayFi
  rw [show ((List.range l.length).all (fiOk l)) = false from List.all_eq_false.2 ⟨i, List.mem_range.2 hi, by rw [h]; simp⟩, Bool.and_false]
theorem yes_more {p : Nat → Bool} {k : Nat} (h : Hid (∀ j, j < k → p j = true)) (hk : p k = true) : Hid (∀ j, j < k + 1 → p j = true) := fun j hj => by
  by_cases e : j = k
  · exact e ▸ hk
  · exact h j (by omega)
theorem less_S (x y : Nm) : Op.bytesLess (S x).toList (S y).toList = bytesBefore x y := by rw [S_list, S_list, less_eq]

set_option maxRecDepth 100000 in
set_option maxHeartbeats 2000000 in
theorem mayBe_any (A : Option Addr) (cap : Nat) (l : List Fi) (hl : l.length ≤ 1000000000) (hsh : Short l) (w : World) (h : RowF w A l) :
    Calls Try.prog 70 #[.slice A l.length cap] w fun z w' => z = .returned (.bool (mayFi l)) ∧ Below w.heap.size w w' := by
  have hmx : Try.prog.follows .mixedOrders = true := by kernel_rfl
  have HR := Lib.hid h
  have HSH := Lib.hid hsh
  have HLL := Lib.hid hl
  clear h hsh hl
  by_cases hbig : 64 < l.length
  · have HM := Lib.hid (show mayFi l = false by unfold mayFi; rw [decide_eq_false (by omega)]; rfl)
    have z : (64 : Int) < (l.length : Int) := by omega
    have zd : decide ((64 : Int) < (l.length : Int)) = true := decide_eq_true z
    clear hbig
    go_enter Try.func70, Try.ntmps70
    go_wp2_with fail
    go_ret
    exact ⟨by rw [HM.out]; rfl, Below.refl _ _⟩
  · have z : ¬ (64 : Int) < (l.length : Int) := by omega
    have zd : decide ((64 : Int) < (l.length : Int)) = false := decide_eq_false z
    have HL := Lib.hid (show l.length ≤ 64 by omega)
    clear hbig
    go_enter Try.func70, Try.ntmps70
    go_wp2_with fail
    go_loopw [11] (fun i wr => ∃ k : Nat, k ≤ l.length ∧ i = .int .i64 (k : Int) ∧ Hid (∀ j, j < k → fiOk l j = true) ∧ Below w.heap.size w wr) (fun i _ => l.length - (intOf i).toNat)
    case atStart => exact ⟨0, Nat.zero_le _, rfl, fun j hj => absurd hj (Nat.not_lt_zero _), Below.refl _ _⟩
    case round =>
      obtain ⟨k, hk, rfl, HY, hB⟩ := hrel
      have HB := Lib.hid hB
      clear hB
      by_cases hlt : k < l.length
      · obtain ⟨nb, no, rfl, hb1, c0, c1, c2⟩ := (HR.out.below HB.out) k hlt
        have HE := Lib.hid (getD_at l k hlt)
        obtain ⟨s1, s2, s3⟩ := HSH.out _ (List.getElem_mem hlt)
        have HS1 := Lib.hid (Nat.le_trans s1 (show 1000000000000000 ≤ maxLen by unfold maxLen; omega))
        have z0 : (0 : Int) ≤ (k : Int) := by omega
        have z1 : (k : Int) < (l.length : Int) := by omega
        have zk : IntKind.i64.wrap ((k : Int) + 1) = (k : Int) + 1 := by rw [IntKind.wrap_i64]; have := HL.out; omega
        have hok : fiOk l k = ((decide (k = 0) || bytesBefore (l.getD (k - 1) ⟨[], [], []⟩).n l[k].n) && mayN l[k].n && decide (l[k].d.length + l[k].p.length ≤ 1048576)) := by rw [← HE.out]; rfl
        have HLT := Lib.hid hlt
        have hprev : ∀ q, k = q + 1 → ∃ pn : Nm, (l.getD (k - 1) ⟨[], [], []⟩).n = pn ∧ wr.cell? ⟨nb, no + q * 3, none⟩ = some (.string (S pn)) := fun q hq => by
          obtain ⟨nb', no', e, -, d0, -, -⟩ := (HR.out.below HB.out) q (by omega)
          injection e with e; injection e with e1 e2; subst e1; subst e2
          have e : k - 1 = q := by omega
          exact ⟨_, by rw [e, getD_at l q (by omega)], d0⟩
        generalize l[k] = x at c0 c1 c2 hok s1 s2 s3 HS1 HE
        obtain ⟨xn, xd, xp⟩ := x
        simp only at c0 c1 c2 hok s1 s2 s3 HS1
        have zs : IntKind.i64.wrap (((S xd).size : Int) + ((S xp).size : Int)) = ((S xd).size : Int) + ((S xp).size : Int) := by rw [IntKind.wrap_i64]; have := S_size xd; have := S_size xp; omega
        have HBN := Lib.hid (HB.out.alloc HB.out.size (.cells #[.string (S xn), .string (S xd), .string (S xp)] 59))
        have HMN := Lib.hid (fun W : World => mayN_any xn HS1.out W)
        have HNB := Lib.hid hb1
        clear hb1
        by_cases hrise : k = 0 ∨ bytesBefore (l.getD (k - 1) ⟨[], [], []⟩).n xn = true
        case neg =>
          have hk0 : ¬ k = 0 := fun h => hrise (Or.inl h)
          obtain ⟨q, hq⟩ : ∃ q, k = q + 1 := ⟨k - 1, by omega⟩
          obtain ⟨pn, e1, d0⟩ := hprev q hq
          have hr : bytesBefore pn xn = false := by
            rw [e1] at hrise
            cases hq : bytesBefore pn xn with
            | false => rfl
            | true => exact absurd (Or.inr hq) hrise
          have HM := Lib.hid (mayFi_no HLT.out (by rw [hok, e1, hr, decide_eq_false hk0]; rfl))
          have zq : IntKind.i64.wrap ((k : Int) - 1) = (q : Int) := by rw [IntKind.wrap_i64]; have := HL.out; have := HLT.out; omega
          have zb : Op.bytesLess (S pn).toList (S xn).toList = false := by rw [less_S, hr]
          have zz : ((k : Int) == 0) = false := by simp; omega
          have zz3 : ¬ k = 0 := by omega
          have zz4 : (k == 0) = false := by simp; omega
          have z2 : (0 : Int) ≤ (q : Int) := by omega
          have z3 : (q : Int) < (l.length : Int) := by have := HLT.out; omega
          have d1 : (wr.alloc (.cells #[.string (S xn), .string (S xd), .string (S xp)] 59)).cell? ⟨nb, no + q * 3, none⟩ = some (.string (S pn)) := (Below.cell ((Below.refl wr.heap.size wr).alloc (Nat.le_refl _) _) (HNB.out)).trans d0
          have HQ := Lib.hid hq
          clear hrise hprev hok hr e1 hk0 hq
          go_wp2_with fail
          go_quiet (fail)
          go_wp2_with fail
          go_ret
          exact ⟨by rw [HM.out]; rfl, HBN.out.trans (below_dn _ _ _)⟩
        case pos =>
          by_cases hk0 : k = 0
          · subst hk0
            have hok2 : fiOk l 0 = (mayN xn && decide (xd.length + xp.length ≤ 1048576)) := by rw [hok]; simp
            have HRI := Lib.hid hrise
            clear hok hprev hrise
            simp only [Nat.zero_mul, Nat.add_zero] at c0 c1 c2
            cases hm : mayN xn with
            | false =>
              have HM := Lib.hid (mayFi_no HLT.out (by rw [hok2, hm]; rfl))
              clear hok2
              go_wp2_with fail
              go_quiet (fail)
              go_wp2_with fail
              refine (HMN.out _).mono ?_
              rintro z w2 ⟨rfl, hb⟩
              have HB2 := Lib.hid ((HBN.out.trans (below_dn _ _ _)).trans (hb.mono HBN.out.size))
              have HBX := Lib.hid (((bx_new wr #[.string (S xn), .string (S xd), .string (S xp)] 59).dn _).below hb)
              have f1 : w2.cell? ⟨wr.heap.size, 1, none⟩ = some (.string (S xd)) := HBX.out.cell 1
              have f2 : w2.cell? ⟨wr.heap.size, 2, none⟩ = some (.string (S xp)) := HBX.out.cell 2
              clear hb
              rw [hm]
              go_wp2_with fail
              go_ret
              exact ⟨by rw [HM.out]; rfl, HB2.out⟩
            | true =>
              by_cases hsz : 1048576 < xd.length + xp.length
              · have HM := Lib.hid (mayFi_no HLT.out (by rw [hok2, hm, decide_eq_false (by omega)]; rfl))
                have zx : decide ((1048576 : Int) < ((S xd).size : Int) + ((S xp).size : Int)) = true := decide_eq_true (by have := S_size xd; have := S_size xp; omega)
                have zx2 : (1048576 : Int) < ((S xd).size : Int) + ((S xp).size : Int) := by have := S_size xd; have := S_size xp; omega
                clear hok2 hsz
                go_wp2_with fail
                go_quiet (fail)
                go_wp2_with fail
                refine (HMN.out _).mono ?_
                rintro z w2 ⟨rfl, hb⟩
                have HB2 := Lib.hid ((HBN.out.trans (below_dn _ _ _)).trans (hb.mono HBN.out.size))
                have HBX := Lib.hid (((bx_new wr #[.string (S xn), .string (S xd), .string (S xp)] 59).dn _).below hb)
                have f1 : w2.cell? ⟨wr.heap.size, 1, none⟩ = some (.string (S xd)) := HBX.out.cell 1
                have f2 : w2.cell? ⟨wr.heap.size, 2, none⟩ = some (.string (S xp)) := HBX.out.cell 2
                clear hb
                rw [hm]
                go_wp2_with fail
                go_ret
                exact ⟨by rw [HM.out]; rfl, HB2.out⟩
              · have HK := Lib.hid (show fiOk l 0 = true by rw [hok2, hm, decide_eq_true (by omega)]; rfl)
                have zx : decide ((1048576 : Int) < ((S xd).size : Int) + ((S xp).size : Int)) = false := decide_eq_false (by have := S_size xd; have := S_size xp; omega)
                have zx2 : ¬ (1048576 : Int) < ((S xd).size : Int) + ((S xp).size : Int) := by have := S_size xd; have := S_size xp; omega
                clear hok2 hsz
                go_wp2_with fail
                go_quiet (fail)
                go_wp2_with fail
                refine (HMN.out _).mono ?_
                rintro z w2 ⟨rfl, hb⟩
                have HB2 := Lib.hid ((HBN.out.trans (below_dn _ _ _)).trans (hb.mono HBN.out.size))
                have HBX := Lib.hid (((bx_new wr #[.string (S xn), .string (S xd), .string (S xp)] 59).dn _).below hb)
                have f1 : w2.cell? ⟨wr.heap.size, 1, none⟩ = some (.string (S xd)) := HBX.out.cell 1
                have f2 : w2.cell? ⟨wr.heap.size, 2, none⟩ = some (.string (S xp)) := HBX.out.cell 2
                clear hb
                rw [hm]
                go_wp2_with fail
                go_roundw
                case rel => exact ⟨0 + 1, by have := HLT.out; omega, by go_num, yes_more HY HK.out, HB2.out⟩
                case measure => have := HLT.out; simp [intOf] <;> omega
          · obtain ⟨q, hq⟩ : ∃ q, k = q + 1 := ⟨k - 1, by omega⟩
            obtain ⟨pn, e1, d0⟩ := hprev q hq
            have hr : bytesBefore pn xn = true := by
              rw [e1] at hrise
              exact hrise.resolve_left hk0
            have hok2 : fiOk l k = (mayN xn && decide (xd.length + xp.length ≤ 1048576)) := by rw [hok, e1, hr]; simp
            have zq : IntKind.i64.wrap ((k : Int) - 1) = (q : Int) := by rw [IntKind.wrap_i64]; have := HL.out; have := HLT.out; omega
            have zb : Op.bytesLess (S pn).toList (S xn).toList = true := by rw [less_S, hr]
            have zz : ((k : Int) == 0) = false := by simp; omega
            have zz3 : ¬ k = 0 := by omega
            have zz4 : (k == 0) = false := by simp; omega
            have z2 : (0 : Int) ≤ (q : Int) := by omega
            have z3 : (q : Int) < (l.length : Int) := by have := HLT.out; omega
            have d1 : (wr.alloc (.cells #[.string (S xn), .string (S xd), .string (S xp)] 59)).cell? ⟨nb, no + q * 3, none⟩ = some (.string (S pn)) := (Below.cell ((Below.refl wr.heap.size wr).alloc (Nat.le_refl _) _) (HNB.out)).trans d0
            have HQ := Lib.hid hq
            clear hrise hprev hok hr e1 hk0 hq
            cases hm : mayN xn with
            | false =>
              have HM := Lib.hid (mayFi_no HLT.out (by rw [hok2, hm]; rfl))
              clear hok2
              go_wp2_with fail
              go_quiet (fail)
              go_wp2_with fail
              refine (HMN.out _).mono ?_
              rintro z w2 ⟨rfl, hb⟩
              have HB2 := Lib.hid ((HBN.out.trans (below_dn _ _ _)).trans (hb.mono HBN.out.size))
              have HBX := Lib.hid (((bx_new wr #[.string (S xn), .string (S xd), .string (S xp)] 59).dn _).below hb)
              have f1 : w2.cell? ⟨wr.heap.size, 1, none⟩ = some (.string (S xd)) := HBX.out.cell 1
              have f2 : w2.cell? ⟨wr.heap.size, 2, none⟩ = some (.string (S xp)) := HBX.out.cell 2
              clear hb
              rw [hm]
              go_wp2_with fail
              go_ret
              exact ⟨by rw [HM.out]; rfl, HB2.out⟩
            | true =>
              by_cases hsz : 1048576 < xd.length + xp.length
              · have HM := Lib.hid (mayFi_no HLT.out (by rw [hok2, hm, decide_eq_false (by omega)]; rfl))
                have zx : decide ((1048576 : Int) < ((S xd).size : Int) + ((S xp).size : Int)) = true := decide_eq_true (by have := S_size xd; have := S_size xp; omega)
                have zx2 : (1048576 : Int) < ((S xd).size : Int) + ((S xp).size : Int) := by have := S_size xd; have := S_size xp; omega
                clear hok2 hsz
                go_wp2_with fail
                go_quiet (fail)
                go_wp2_with fail
                refine (HMN.out _).mono ?_
                rintro z w2 ⟨rfl, hb⟩
                have HB2 := Lib.hid ((HBN.out.trans (below_dn _ _ _)).trans (hb.mono HBN.out.size))
                have HBX := Lib.hid (((bx_new wr #[.string (S xn), .string (S xd), .string (S xp)] 59).dn _).below hb)
                have f1 : w2.cell? ⟨wr.heap.size, 1, none⟩ = some (.string (S xd)) := HBX.out.cell 1
                have f2 : w2.cell? ⟨wr.heap.size, 2, none⟩ = some (.string (S xp)) := HBX.out.cell 2
                clear hb
                rw [hm]
                go_wp2_with fail
                go_ret
                exact ⟨by rw [HM.out]; rfl, HB2.out⟩
              · have HK := Lib.hid (show fiOk l k = true by rw [hok2, hm, decide_eq_true (by omega)]; rfl)
                have zx : decide ((1048576 : Int) < ((S xd).size : Int) + ((S xp).size : Int)) = false := decide_eq_false (by have := S_size xd; have := S_size xp; omega)
                have zx2 : ¬ (1048576 : Int) < ((S xd).size : Int) + ((S xp).size : Int) := by have := S_size xd; have := S_size xp; omega
                clear hok2 hsz
                go_wp2_with fail
                go_quiet (fail)
                go_wp2_with fail
                refine (HMN.out _).mono ?_
                rintro z w2 ⟨rfl, hb⟩
                have HB2 := Lib.hid ((HBN.out.trans (below_dn _ _ _)).trans (hb.mono HBN.out.size))
                have HBX := Lib.hid (((bx_new wr #[.string (S xn), .string (S xd), .string (S xp)] 59).dn _).below hb)
                have f1 : w2.cell? ⟨wr.heap.size, 1, none⟩ = some (.string (S xd)) := HBX.out.cell 1
                have f2 : w2.cell? ⟨wr.heap.size, 2, none⟩ = some (.string (S xp)) := HBX.out.cell 2
                clear hb
                rw [hm]
                go_wp2_with fail
                go_roundw
                case rel => exact ⟨k + 1, by have := HLT.out; omega, by go_num, yes_more HY HK.out, HB2.out⟩
                case measure => have := HLT.out; simp [intOf] <;> omega
      · obtain rfl : k = l.length := by omega
        have z1 : ¬ ((l.length : Nat) : Int) < (l.length : Int) := by omega
        have HM := Lib.hid (mayFi_yes HL.out HY.out)
        go_wp2_with fail
        go_ret
        exact ⟨by rw [HM.out]; rfl, HB.out⟩
end Go.Proofs.Ytddjoealckhepaa.Disk
