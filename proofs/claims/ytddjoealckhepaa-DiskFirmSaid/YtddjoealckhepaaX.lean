import Derived.Test.YtddjoealckhepaaW
import Derived.Test.YtddjoealckhepaaV
/-
  Disks that are the same: Same; files that are the same (soukref09.Files).
-/
namespace Go.Proofs.Ytddjoealckhepaa.Disk
open Go Go.RowKit Go.Maps Go.Shelf Go.Proofs

def powB (d e : Dk) : Bool := decide (d.gone = e.gone ∧ d.cut = e.cut ∧ d.left = e.left)
def sameD (d e : Dk) : Bool := decide (d.cap = e.cap) && powB d e && decide (d.l = e.l)
theorem sameD_self (d : Dk) : sameD d d = true := by simp [sameD, powB]
theorem sameD_iff {d e : Dk} : sameD d e = true ↔ d = e := by
  constructor
  · intro h
    simp only [sameD, powB, Bool.and_eq_true, decide_eq_true_eq] at h
    obtain ⟨⟨h1, h2, h3, h4⟩, h5⟩ := h
    cases d; cases e
    simp only at h1 h2 h3 h4 h5
    subst h1 h2 h3 h4 h5
    rfl
  · rintro rfl; exact sameD_self d
theorem eqn_p (g1 c1 g2 c2 : Bool) (l1 l2 : Nat) (w : World) : (Op.equalIn 10000 85 (.agg #[.bool g1, .bool c1, .int .i64 (l1 : Int)]) (.agg #[.bool g2, .bool c2, .int .i64 (l2 : Int)])).run Try.prog w = .ok (decide (g1 = g2 ∧ c1 = c2 ∧ l1 = l2)) w := by
  have u9 := Try.underlying4
  have a9 := Try.isAgg4
  have z9 := Try.sizeOf4
  have u3 := Try.underlying3
  have a3 := Try.isAgg3
  have z3 := Try.sizeOf3
  have hS : Try.prog.underlying 85 = some (.struct (Try.prog.fieldsOf 85)) := by kernel_rfl
  have hp : Try.prog.stoodInHeld 85 = false := by kernel_rfl
  rw [show (10000 : Nat) = 9999 + 1 from rfl, run_equalIn_struct w 9999 85 _ _ hS hp]
  simp only [Program.fieldsOf, Try.underlying85]
  go_simp
  by_cases h1 : g1 = g2 <;> by_cases h2 : c1 = c2 <;> by_cases h3 : l1 = l2 <;> simp [h1, h2, h3]
  all_goals omega
theorem guard_p (op : BinOp) (a b : Operand) (xs ys : Array Value) (w : World) : (eqGuard op 85 a b (.agg xs) (.agg ys)).run Try.prog w = .ok () w := run_eqGuard_agg w op 85 a b _ _ (by kernel_rfl)

set_option maxRecDepth 100000 in
set_option maxHeartbeats 2000000 in
theorem same_any (a1 b1 a2 b2 : Nat) (d e : Dk) (w : World) (h1 : DkAt w a1 b1 d) (h2 : DkAt w a2 b2 e) :
    Calls Try.prog 30 #[.pointer (some ⟨a1, 0, none⟩), .pointer (some ⟨a2, 0, none⟩)] w fun z w' => z = .returned (.bool (sameD d e)) ∧ Below w.heap.size w w' := by
  have hmx : Try.prog.follows .mixedOrders = true := by kernel_rfl
  obtain ⟨c0, c1, c2, c3, c4⟩ := h1.cell
  obtain ⟨e0, e1, e2, e3, e4⟩ := h2.cell
  have HE : Hid (∀ w' : World, DkAt w' a1 b1 d → DkAt w' a2 b2 e → Calls Try.prog 57 #[.map (some b1), .map (some b2)] w' fun z w'' => z = .returned (.bool (decide (d.l = e.l))) ∧ Below w'.heap.size w' w'') := fun w' h h' =>
    equal_any b1 b2 d.l e.l h.ok.up h'.ok.up (fun p hp => by have := h.ok.nm p hp; simp only [mayN, Bool.and_eq_true, decide_eq_true_eq] at this; unfold maxLen; omega) w' h.mp h'.mp
  by_cases hc : d.cap = e.cap
  case neg =>
    have HR := Lib.hid (show sameD d e = false by unfold sameD; rw [decide_eq_false hc]; rfl)
    have z1 : ((d.cap : Int) == (e.cap : Int)) = false := by simp; omega
    have z2 : ¬ (d.cap : Int) = (e.cap : Int) := by omega
    clear h1 h2 hc
    generalize (d.cap : Int) = i1 at *
    generalize (e.cap : Int) = i2 at *
    go_enter Try.func30, Try.ntmps30
    go_wp2_with fail
    go_quiet (fail)
    go_wp2_with fail
    go_ret
    exact ⟨by rw [HR.out]; rfl, below_dn _ _ _⟩
  case pos =>
    have heq := fun W => eqn_p d.gone d.cut e.gone e.cut d.left e.left W
    have hgd := fun op a b W => guard_p op a b #[.bool d.gone, .bool d.cut, .int .i64 (d.left : Int)] #[.bool e.gone, .bool e.cut, .int .i64 (e.left : Int)] W
    cases hp : powB d e with
    | false =>
      have HR := Lib.hid (show sameD d e = false by unfold sameD; rw [hp, Bool.and_false]; rfl)
      rw [show decide (d.gone = e.gone ∧ d.cut = e.cut ∧ d.left = e.left) = false from hp] at heq
      rw [hc] at c0
      clear h1 h2 hp
      go_enter Try.func30, Try.ntmps30
      go_wp2_with fail
      go_quiet (fail)
      go_wp2_with fail
      go_ret
      exact ⟨by rw [HR.out]; rfl, below_dn _ _ _⟩
    | true =>
      have HR := Lib.hid (show sameD d e = decide (d.l = e.l) by unfold sameD; rw [hp, decide_eq_true hc]; rfl)
      rw [show decide (d.gone = e.gone ∧ d.cut = e.cut ∧ d.left = e.left) = true from hp] at heq
      rw [hc] at c0
      have HS : Hid (∀ w' : World, Below w.heap.size w w' → Below w.heap.size w w' ∧ DkAt w' a1 b1 d ∧ DkAt w' a2 b2 e ∧ w'.cell? ⟨a1, 0, none⟩ = some (.int .i64 (e.cap : Int)) ∧ w'.cell? ⟨a1, 1, none⟩ = some (.map (some b1)) ∧ w'.cell? ⟨a1, 2, none⟩ = some (.bool d.gone) ∧ w'.cell? ⟨a1, 3, none⟩ = some (.bool d.cut) ∧ w'.cell? ⟨a1, 4, none⟩ = some (.int .i64 (d.left : Int)) ∧ w'.cell? ⟨a2, 0, none⟩ = some (.int .i64 (e.cap : Int)) ∧ w'.cell? ⟨a2, 1, none⟩ = some (.map (some b2)) ∧ w'.cell? ⟨a2, 2, none⟩ = some (.bool e.gone) ∧ w'.cell? ⟨a2, 3, none⟩ = some (.bool e.cut) ∧ w'.cell? ⟨a2, 4, none⟩ = some (.int .i64 (e.left : Int))) := fun w' hb =>
        have k := (h1.below hb).cell
        have k' := (h2.below hb).cell
        ⟨hb, h1.below hb, h2.below hb, hc ▸ k.1, k.2.1, k.2.2.1, k.2.2.2.1, k.2.2.2.2, k'.1, k'.2.1, k'.2.2.1, k'.2.2.2.1, k'.2.2.2.2⟩
      obtain ⟨r1, r2, r3, -⟩ := HS.out w.drew (Below.refl _ _).drew
      clear h1 h2 hp hc
      go_enter Try.func30, Try.ntmps30
      go_wp2_with fail
      go_region_held3 (fun w' => Below w.heap.size w w' ∧ DkAt w' a1 b1 d ∧ DkAt w' a2 b2 e ∧ w'.cell? ⟨a1, 0, none⟩ = some (.int .i64 (e.cap : Int)) ∧ w'.cell? ⟨a1, 1, none⟩ = some (.map (some b1)) ∧ w'.cell? ⟨a1, 2, none⟩ = some (.bool d.gone) ∧ w'.cell? ⟨a1, 3, none⟩ = some (.bool d.cut) ∧ w'.cell? ⟨a1, 4, none⟩ = some (.int .i64 (d.left : Int)) ∧ w'.cell? ⟨a2, 0, none⟩ = some (.int .i64 (e.cap : Int)) ∧ w'.cell? ⟨a2, 1, none⟩ = some (.map (some b2)) ∧ w'.cell? ⟨a2, 2, none⟩ = some (.bool e.gone) ∧ w'.cell? ⟨a2, 3, none⟩ = some (.bool e.cut) ∧ w'.cell? ⟨a2, 4, none⟩ = some (.int .i64 (e.left : Int)))
        (first | assumption | (refine ⟨?_, ?_, ?_, ?_, ?_, ?_, ?_, ?_, ?_, ?_, ?_, ?_, ?_⟩ <;> assumption) | go_keep)
        ((first | (go_at_call 57; refine (HE.out _ (by assumption) (by assumption)).mono ?_; rintro z w' ⟨rfl, hb4⟩; obtain ⟨p1, p2, p3, p4, p5, p6, p7, p8, p9, p10, p11, p12, p13⟩ := HS.out w' (below_step (by assumption) hb4); clear hb4)))
      all_goals
        clear r1 r2 r3
        have hB := (show Below w.heap.size w _ by assumption)
        have HB := Lib.hid hB
        clear hB
        go_wp2_with fail
        go_ret
        exact ⟨by rw [HR.out]; rfl, HB.out⟩

set_option maxRecDepth 100000 in
set_option maxHeartbeats 2000000 in
theorem rFiles_any (A B : Option Addr) (ca cb : Nat) (l m : List Fi) (hl : l.length ≤ 1000000000) (w : World) (h1 : RowF w A l) (h2 : RowF w B m) :
    Calls Try.prog 39 #[.slice A l.length ca, .slice B m.length cb] w fun z w' => z = .returned (.bool (decide (l = m))) ∧ ∃ n, w' = w.drewN n := by
  have hmx : Try.prog.follows .mixedOrders = true := by kernel_rfl
  by_cases hlen : l.length = m.length
  case neg =>
    have z : (((l.length : Nat) : Int) != ((m.length : Nat) : Int)) = true := by simp; omega
    have z2 : ¬ ((l.length : Nat) : Int) = ((m.length : Nat) : Int) := by omega
    have HR := Lib.hid (show decide (l = m) = false from decide_eq_false (fun e => hlen (by rw [e])))
    clear hlen h1 h2 hl
    generalize hi1 : l.length = i1 at *
    generalize hi2 : m.length = i2 at *
    clear hi1 hi2
    go_enter Try.func39, Try.ntmps39
    go_wp2_with fail
    go_ret
    exact ⟨by rw [HR.out]; rfl, 0, rfl⟩
  case pos =>
    have H1 := Lib.hid h1
    have H2 := Lib.hid h2
    have HLE := Lib.hid hlen
    have HL := Lib.hid hl
    rw [← hlen]
    clear h1 h2 hlen hl
    go_enter Try.func39, Try.ntmps39
    go_wp2_with fail
    go_loopw [5] (fun i wr => ∃ k : Nat, k ≤ l.length ∧ i = .int .i64 (k : Int) ∧ Hid (l.take k = m.take k) ∧ ∃ n, wr = w.drewN n) (fun i _ => l.length - (intOf i).toNat)
    case atStart => exact ⟨0, Nat.zero_le _, rfl, rfl, 0, rfl⟩
    case round =>
      obtain ⟨k, hk, rfl, HY, n, hw⟩ := hrel
      have HW := Lib.hid hw
      have hb1 : Below w.heap.size w wr := by rw [hw]; exact below_dn _ _ _
      by_cases hlt : k < l.length
      · have hlt2 : k < m.length := by have := HLE.out; omega
        obtain ⟨nb, no, rfl, -, c0, c1, c2⟩ := (H1.out.below hb1) k hlt
        obtain ⟨nb', no', rfl, -, d0, d1, d2⟩ := (H2.out.below hb1) k hlt2
        have HT : Hid (l[k] = m[k] → l.take (k + 1) = m.take (k + 1)) := fun e => by
          rw [List.take_add_one, List.take_add_one, HY.out, List.getElem?_eq_getElem hlt, List.getElem?_eq_getElem hlt2, e]
        have HF : Hid (l[k] ≠ m[k] → decide (l = m) = false) := fun hne => decide_eq_false fun e => hne (by subst e; rfl)
        have z0 : (0 : Int) ≤ (k : Int) := by omega
        have z1 : (k : Int) < (l.length : Int) := by omega
        have zk : IntKind.i64.wrap ((k : Int) + 1) = (k : Int) + 1 := by rw [IntKind.wrap_i64]; have := HL.out; omega
        have HLT := Lib.hid hlt
        generalize l[k] = x at c0 c1 c2 HT HF
        generalize m[k]'hlt2 = y at d0 d1 d2 HT HF
        clear hlt2 hb1 hw
        have he : ∀ W : World, (Op.equalIn 10000 59 (.agg #[.string (S x.n), .string (S x.d), .string (S x.p)]) (.agg #[.string (S y.n), .string (S y.d), .string (S y.p)])).run Try.prog W = .ok (decide (x = y)) W := fun W => eqn_fi x y W
        have hgd : ∀ (op : BinOp) (a b : Operand) (W : World), (eqGuard op 59 a b (.agg #[.string (S x.n), .string (S x.d), .string (S x.p)]) (.agg #[.string (S y.n), .string (S y.d), .string (S y.p)])).run Try.prog W = .ok () W := fun op a b W => guard_fi op a b x y W
        by_cases hxy : x = y
        · have hd : decide (x = y) = true := decide_eq_true hxy
          rw [hd] at he
          have HTK := Lib.hid (HT.out hxy)
          clear hxy hd HT HF
          go_wp2_with fail
          go_quiet (fail)
          go_wp2_with fail
          go_roundw
          case rel => exact ⟨k + 1, by have := HLT.out; omega, by go_num, HTK, n + nq, by rw [HW.out, World.drewN_drewN]⟩
          case measure => have := HLT.out; simp [intOf] <;> omega
        · have hd : decide (x = y) = false := decide_eq_false hxy
          rw [hd] at he
          have HR := Lib.hid (HF.out hxy)
          clear hxy hd HT HF
          go_wp2_with fail
          go_quiet (fail)
          go_wp2_with fail
          go_ret
          exact ⟨by rw [HR.out]; rfl, n + nq, by rw [HW.out, World.drewN_drewN]⟩
      · obtain rfl : k = l.length := by omega
        have z1 : ¬ ((l.length : Nat) : Int) < (l.length : Int) := by omega
        have HR := Lib.hid (show decide (l = m) = true from decide_eq_true (by have := HY.out; rwa [List.take_length, HLE.out, List.take_length] at this))
        clear hb1 hw
        go_wp2_with fail
        go_ret
        exact ⟨by rw [HR.out]; rfl, n, HW.out⟩
end Go.Proofs.Ytddjoealckhepaa.Disk
