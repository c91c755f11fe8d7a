import Derived.Test.YticfnfekkmkclaaGreatDoorW
import Derived.BigQuiet
import Derived.Deep.RegionHeld3
/-
  Two disks are the same; how much room there is.
-/
namespace Go.Proofs.YticfnfekkmkclaaGreatDoor.Disk
open Go Go.RowKit Go.Maps Go.Shelf Go.Proofs

def powB (d e : Dk) : Bool := decide (d.gone = e.gone ∧ d.cut = e.cut ∧ d.left = e.left)
def sameD (d e : Dk) : Bool := decide (d.cap = e.cap) && powB d e && decide (d.l = e.l)
theorem sameD_self (d : Dk) : sameD d d = true := by simp [sameD, powB]
theorem sameD_iff {d e : Dk} : sameD d e = true ↔ d = e := by
  constructor
  · intro h
    simp only [sameD, powB, Bool.and_eq_true, decide_eq_true_eq] at h
    obtain ⟨⟨h1, h2, h3, h4⟩, h5⟩ := h
    cases d; cases e
    simp only at h1 h2 h3 h4 h5
    subst h1 h2 h3 h4 h5
    rfl
  · rintro rfl; exact sameD_self d
theorem eqn_p (g1 c1 g2 c2 : Bool) (l1 l2 : Nat) (w : World) : (Op.equalIn 10000 115 (.agg #[.bool g1, .bool c1, .int .i64 (l1 : Int)]) (.agg #[.bool g2, .bool c2, .int .i64 (l2 : Int)])).run Tryz.prog w = .ok (decide (g1 = g2 ∧ c1 = c2 ∧ l1 = l2)) w := by
  have u9 := Tryz.underlying4
  have a9 := Tryz.isAgg4
  have z9 := Tryz.sizeOf4
  have u3 := Tryz.underlying3
  have a3 := Tryz.isAgg3
  have z3 := Tryz.sizeOf3
  have hS : Tryz.prog.underlying 115 = some (.struct (Tryz.prog.fieldsOf 115)) := by kernel_rfl
  have hp : Tryz.prog.stoodInHeld 115 = false := by kernel_rfl
  rw [show (10000 : Nat) = 9999 + 1 from rfl, run_equalIn_struct w 9999 115 _ _ hS hp]
  simp only [Program.fieldsOf, Tryz.underlying115]
  go_simp
  by_cases h1 : g1 = g2 <;> by_cases h2 : c1 = c2 <;> by_cases h3 : l1 = l2 <;> simp [h1, h2, h3]
  all_goals omega
theorem guard_p (op : BinOp) (a b : Operand) (xs ys : Array Value) (w : World) : (eqGuard op 115 a b (.agg xs) (.agg ys)).run Tryz.prog w = .ok () w := run_eqGuard_agg w op 115 a b _ _ (by kernel_rfl)

set_option maxRecDepth 100000 in
set_option maxHeartbeats 2000000 in
theorem same_any (a1 b1 a2 b2 : Nat) (d e : Dk) (w : World) (h1 : DkAt w a1 b1 d) (h2 : DkAt w a2 b2 e) :
    Calls Tryz.prog 40 #[.pointer (some ⟨a1, 0, none⟩), .pointer (some ⟨a2, 0, none⟩)] w fun z w' => z = .returned (.bool (sameD d e)) ∧ Below w.heap.size w w' := by
  have hmx : Tryz.prog.follows .mixedOrders = true := by kernel_rfl
  obtain ⟨c0, c1, c2, c3, c4⟩ := h1.cell
  obtain ⟨e0, e1, e2, e3, e4⟩ := h2.cell
  have HE : Hid (∀ w' : World, DkAt w' a1 b1 d → DkAt w' a2 b2 e → Calls Tryz.prog 88 #[.map (some b1), .map (some b2)] w' fun z w'' => z = .returned (.bool (decide (d.l = e.l))) ∧ Below w'.heap.size w' w'') := fun w' h h' =>
    equal_any b1 b2 d.l e.l h.ok.up h'.ok.up (fun p hp => by have := h.ok.nm p hp; simp only [mayN, Bool.and_eq_true, decide_eq_true_eq] at this; unfold maxLen; omega) w' h.mp h'.mp
  by_cases hc : d.cap = e.cap
  case neg =>
    have HR := Lib.hid (show sameD d e = false by unfold sameD; rw [decide_eq_false hc]; rfl)
    have z1 : ((d.cap : Int) == (e.cap : Int)) = false := by simp; omega
    have z2 : ¬ (d.cap : Int) = (e.cap : Int) := by omega
    clear h1 h2 hc
    generalize (d.cap : Int) = i1 at *
    generalize (e.cap : Int) = i2 at *
    go_enter Tryz.func40, Tryz.ntmps40
    go_wp2_with fail
    go_quiet (fail)
    go_wp2_with fail
    go_ret
    exact ⟨by rw [HR.out]; rfl, below_dn _ _ _⟩
  case pos =>
    have heq := fun W => eqn_p d.gone d.cut e.gone e.cut d.left e.left W
    have hgd := fun op a b W => guard_p op a b #[.bool d.gone, .bool d.cut, .int .i64 (d.left : Int)] #[.bool e.gone, .bool e.cut, .int .i64 (e.left : Int)] W
    cases hp : powB d e with
    | false =>
      have HR := Lib.hid (show sameD d e = false by unfold sameD; rw [hp, Bool.and_false]; rfl)
      rw [show decide (d.gone = e.gone ∧ d.cut = e.cut ∧ d.left = e.left) = false from hp] at heq
      rw [hc] at c0
      clear h1 h2 hp
      go_enter Tryz.func40, Tryz.ntmps40
      go_wp2_with fail
      go_quiet (fail)
      go_wp2_with fail
      go_ret
      exact ⟨by rw [HR.out]; rfl, below_dn _ _ _⟩
    | true =>
      have HR := Lib.hid (show sameD d e = decide (d.l = e.l) by unfold sameD; rw [hp, decide_eq_true hc]; rfl)
      rw [show decide (d.gone = e.gone ∧ d.cut = e.cut ∧ d.left = e.left) = true from hp] at heq
      rw [hc] at c0
      have HS : Hid (∀ w' : World, Below w.heap.size w w' → Below w.heap.size w w' ∧ DkAt w' a1 b1 d ∧ DkAt w' a2 b2 e ∧ w'.cell? ⟨a1, 0, none⟩ = some (.int .i64 (e.cap : Int)) ∧ w'.cell? ⟨a1, 1, none⟩ = some (.map (some b1)) ∧ w'.cell? ⟨a1, 2, none⟩ = some (.bool d.gone) ∧ w'.cell? ⟨a1, 3, none⟩ = some (.bool d.cut) ∧ w'.cell? ⟨a1, 4, none⟩ = some (.int .i64 (d.left : Int)) ∧ w'.cell? ⟨a2, 0, none⟩ = some (.int .i64 (e.cap : Int)) ∧ w'.cell? ⟨a2, 1, none⟩ = some (.map (some b2)) ∧ w'.cell? ⟨a2, 2, none⟩ = some (.bool e.gone) ∧ w'.cell? ⟨a2, 3, none⟩ = some (.bool e.cut) ∧ w'.cell? ⟨a2, 4, none⟩ = some (.int .i64 (e.left : Int))) := fun w' hb =>
        have k := (h1.below hb).cell
        have k' := (h2.below hb).cell
        ⟨hb, h1.below hb, h2.below hb, hc ▸ k.1, k.2.1, k.2.2.1, k.2.2.2.1, k.2.2.2.2, k'.1, k'.2.1, k'.2.2.1, k'.2.2.2.1, k'.2.2.2.2⟩
      obtain ⟨r1, r2, r3, -⟩ := HS.out w.drew (Below.refl _ _).drew
      clear h1 h2 hp hc
      go_enter Tryz.func40, Tryz.ntmps40
      go_wp2_with fail
      go_region_held3 (fun w' => Below w.heap.size w w' ∧ DkAt w' a1 b1 d ∧ DkAt w' a2 b2 e ∧ w'.cell? ⟨a1, 0, none⟩ = some (.int .i64 (e.cap : Int)) ∧ w'.cell? ⟨a1, 1, none⟩ = some (.map (some b1)) ∧ w'.cell? ⟨a1, 2, none⟩ = some (.bool d.gone) ∧ w'.cell? ⟨a1, 3, none⟩ = some (.bool d.cut) ∧ w'.cell? ⟨a1, 4, none⟩ = some (.int .i64 (d.left : Int)) ∧ w'.cell? ⟨a2, 0, none⟩ = some (.int .i64 (e.cap : Int)) ∧ w'.cell? ⟨a2, 1, none⟩ = some (.map (some b2)) ∧ w'.cell? ⟨a2, 2, none⟩ = some (.bool e.gone) ∧ w'.cell? ⟨a2, 3, none⟩ = some (.bool e.cut) ∧ w'.cell? ⟨a2, 4, none⟩ = some (.int .i64 (e.left : Int)))
        (first | assumption | (refine ⟨?_, ?_, ?_, ?_, ?_, ?_, ?_, ?_, ?_, ?_, ?_, ?_, ?_⟩ <;> assumption) | go_keep)
        ((first | (go_at_call 88; refine (HE.out _ (by assumption) (by assumption)).mono ?_; rintro z w' ⟨rfl, hb4⟩; obtain ⟨p1, p2, p3, p4, p5, p6, p7, p8, p9, p10, p11, p12, p13⟩ := HS.out w' (below_step (by assumption) hb4); clear hb4)))
      all_goals
        clear r1 r2 r3
        have hB := (show Below w.heap.size w _ by assumption)
        have HB := Lib.hid hB
        clear hB
        go_wp2_with fail
        go_ret
        exact ⟨by rw [HR.out]; rfl, HB.out⟩
set_option maxRecDepth 100000 in
set_option maxHeartbeats 2000000 in
theorem room_any (a b : Nat) (d : Dk) (hg : d.gone = false) (w : World) (h : DkAt w a b d) :
    Calls Tryz.prog 39 #[.pointer (some ⟨a, 0, none⟩)] w fun z w' => z = .returned (.tuple #[.int .i64 ((d.cap : Int) - (used d.l : Int)), .int .i64 (64 - (d.l.length : Int)), .int .i64 0]) ∧ Below w.heap.size w w' := by
  have hmx : Tryz.prog.follows .mixedOrders = true := by kernel_rfl
  have HR := Lib.hid (refusal_any a b d w h)
  rw [show refus d = 0 by simp [refus, hg]] at HR
  have HU := Lib.hid h.ok.used
  have HCAP := Lib.hid h.ok.cap
  have HLEN := Lib.hid h.ok.len
  have HS : Hid (∀ w' : World, Below w.heap.size w w' → Below w.heap.size w w' ∧ DkAt w' a b d ∧ w'.cell? ⟨a, 0, none⟩ = some (.int .i64 (d.cap : Int)) ∧ w'.cell? ⟨a, 1, none⟩ = some (.map (some b))) := fun w' hb =>
    ⟨hb, h.below hb, (h.below hb).cell.1, (h.below hb).cell.2.1⟩
  have hln : ∀ (ty : TypeId) (w' : World), DkAt w' a b d → (Builtin.len_ #[113] ty #[.map (some b)]).run Tryz.prog w' = .ok (.int .i64 (d.l.length : Int)) w' := fun ty w' hd => len_run hd.mp ty
  have zs : IntKind.i64.wrap ((d.cap : Int) - (used d.l : Int)) = (d.cap : Int) - (used d.l : Int) := by rw [IntKind.wrap_i64]; have h1 := HU.out; have h2 := HCAP.out; omega
  have zt : IntKind.i64.wrap (64 - (d.l.length : Int)) = 64 - (d.l.length : Int) := by rw [IntKind.wrap_i64]; have h1 := HLEN.out; omega
  obtain ⟨r1, r2, r3, r4⟩ := HS.out w.drew (Below.refl _ _).drew
  clear h hg
  go_enter Tryz.func39, Tryz.ntmps39
  go_wp2_with fail
  refine HR.out.mono ?_
  rintro z w1 ⟨rfl, hb⟩
  rw [hb]
  clear hb
  go_wp2_with fail
  go_region_held3 (fun w' => Below w.heap.size w w' ∧ DkAt w' a b d ∧ w'.cell? ⟨a, 0, none⟩ = some (.int .i64 (d.cap : Int)) ∧ w'.cell? ⟨a, 1, none⟩ = some (.map (some b)))
    (first | assumption | (refine ⟨?_, ?_, ?_, ?_⟩ <;> assumption))
    ((first | (go_at_call 70; refine (used_any a b d _ (by assumption)).mono ?_; rintro z w' ⟨rfl, hb4⟩; obtain ⟨p1, p2, p3, p4⟩ := HS.out w' (below_step (by assumption) hb4))))
  all_goals
    have hB := Lib.hid (show Below w.heap.size w _ by assumption)
    go_wp2_with fail
    refine bodyPost_ret (v := .tuple #[.int .i64 ((d.cap : Int) - (used d.l : Int)), .int .i64 (64 - (d.l.length : Int)), .int .i64 0]) (by simp [results, Tryz.results39, go_sem]) rfl ?_
    exact ⟨rfl, hB.out⟩
end Go.Proofs.YticfnfekkmkclaaGreatDoor.Disk
