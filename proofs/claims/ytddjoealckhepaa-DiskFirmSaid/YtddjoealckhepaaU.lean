import Derived.Test.YtddjoealckhepaaC
import Derived.Sort.KeysCollected
/-
  How many bytes all files have: Used; Capacity; Up.
-/
namespace Go.Proofs.Ytddjoealckhepaa.Disk
open Go Go.RowKit Go.Maps

def sumNot (left : Lit → Bool) (l : List (Nm × F)) : Nat := used (l.filter fun p => !left (.string p.1))
theorem sumNot_start (l : List (Nm × F)) : sumNot (Maps.has (toD fD l)) l = 0 := by
  unfold sumNot
  rw [List.filter_eq_nil_iff.2]
  · rfl
  · intro p hp
    rw [toD_has]
    have : get l p.1 ≠ none := fun h => get_none.1 h p hp rfl
    cases hg : get l p.1 with
    | none => exact absurd hg this
    | some v => simp
theorem sumNot_end {left : Lit → Bool} (h : ∀ kl, left kl = false) (l : List (Nm × F)) : sumNot left l = used l := by
  unfold sumNot
  rw [List.filter_eq_self.2 fun p _ => by rw [h]; rfl]
theorem used_app (l m : List (Nm × F)) : used (l ++ m) = used l + used m := by simp [used, tot, List.sum_append]
theorem sumNot_step {left : Lit → Bool} {l : List (Nm × F)} (h : Up l) {x : Nm} {f : F} (hg : get l x = some f) (hl : left (.string x) = true) :
    sumNot (fun z => left z && !z.sameKey (.string x)) l = sumNot left l + f.b.length := by
  obtain ⟨a, c, e, hd⟩ := del_some h hg
  have hx : ∀ p ∈ a ++ c, p.1 ≠ x := fun p hp => by rw [← hd] at hp; exact ((mem_del x p l).1 hp).2
  have key : ∀ m : List (Nm × F), (∀ p ∈ m, p.1 ≠ x) → m.filter (fun p => !(left (.string p.1) && !(Lit.string p.1).sameKey (.string x))) = m.filter (fun p => !left (.string p.1)) := fun m hm =>
    List.filter_congr fun p hp => by
      have : (p.1 == x) = false := by simpa using hm p hp
      simp [Lit.sameKey, this]
  subst e
  unfold sumNot
  rw [List.filter_append, List.filter_append, List.filter_cons, List.filter_cons, key a (fun p hp => hx p (List.mem_append_left _ hp)), key c (fun p hp => hx p (List.mem_append_right _ hp))]
  simp only [hl, Lit.sameKey, beq_self_eq_true, Bool.not_true, Bool.and_false, Bool.not_false, if_true, Bool.false_eq_true, if_false, used_app]
  have : ∀ (p : Nm × F) m, used (p :: m) = p.2.b.length + used m := fun p m => by simp [used, tot]
  rw [this]; simp only; omega
theorem sumNot_le (left : Lit → Bool) (l : List (Nm × F)) : sumNot left l ≤ used l := by
  unfold sumNot
  induction l with
  | nil => exact Nat.le_refl _
  | cons p r ih =>
    have : ∀ (p : Nm × F) m, used (p :: m) = p.2.b.length + used m := fun p m => by simp [used, tot]
    rw [List.filter_cons]
    split
    · rw [this, this]; omega
    · rw [this]; omega
theorem keyS (key : Value) (kl : Lit) (h : keyOf Try.prog 9 key = some kl) : ∃ x : Nm, key = .string (S x) := by
  obtain ⟨x, hx, _⟩ := Maps.keyOf_str Try.underlying9 h
  exact ⟨x, hx⟩
theorem keyS_lit {x : Nm} {kl : Lit} (h : keyOf Try.prog 9 (.string (S x)) = some kl) : kl = .string x := by
  obtain ⟨y, hy, hk, _⟩ := Maps.keyOf_str Try.underlying9 h
  have : S x = S y := by injection hy
  rw [hk, S_inj this]
theorem valF (v : Value) (y : DataW Unit × List MemPlace) (h : fileR v = some y) : ∃ f : F, v = fV f := by
  obtain ⟨f, _, e, _⟩ := fileR_inv h
  exact ⟨f, e⟩
theorem valF_get {l : List (Nm × F)} {x : Nm} {f : F} {y : DataW Unit × List MemPlace} (h : fileR (fV f) = some y) (hat : ∀ zd, (toD fD l).atKey (.string x) zd = y.1) : get l x = some f := by
  obtain ⟨g, _, e, rfl⟩ := fileR_inv h
  obtain rfl := fV_inj e
  have h1 := hat (fD f0)
  have h2 := hat (.lit (.bool true))
  rw [toD_at] at h1 h2
  cases hg : get l x with
  | none => rw [hg] at h2; simp [fD] at h2
  | some v => rw [hg] at h1; rw [fD_inj h1]

set_option maxRecDepth 100000 in
set_option maxHeartbeats 1000000 in
theorem used_raw (a b : Nat) (d : Dk) (w : World) (hblk : w.heap[a]? = some (.cells (dkV d b) 87 (0, 0))) (hmp : w.ownsMap Try.prog 9 fileR b d.l.length (toD fD d.l)) (hup : Up d.l) (hus : used d.l ≤ 9223372036854775807) :
    Calls Try.prog 26 #[.pointer (some ⟨a, 0, none⟩)] w fun z w' => z = .returned (.int .i64 (used d.l : Int)) ∧ Below w.heap.size w w' := by
  have c1 : w.cell? ⟨a, 1, none⟩ = some (.map (some b)) := cell_row hblk 1
  have HM := Lib.hid hmp
  have HP := Lib.hid hup
  have HU := Lib.hid hus
  clear hmp hup hus hblk
  go_enter Try.func26, Try.ntmps26
  go_wp2_with (first
    | (at_range; refine wpList_range_own _ rfl _ 83 rfl 9 78 tkeyed tmap fileR b _ (toD fD d.l) rfl HM.out ?_; intro w0 hrg0 hg0 hs0)
    | go_in)
  have HB0 := Lib.hid ((Below.refl w.heap.size w).grown hg0 (Nat.le_refl _) (fun j hj => by cases hj))
  clear hg0 hs0 c1
  go_frame
  go_loopw [3] (fun s wr => ∃ (left : Lit → Bool) (cnt : Nat), s = .int .i64 (sumNot left d.l : Int) ∧ wr.ranges Try.prog 9 fileR b w.heap.size d.l.length (toD fD d.l) left cnt ∧ Below w.heap.size w wr)
    (fun _ wr => wr.rangeLeft b w.heap.size)
  case atStart => exact ⟨_, _, by rw [sumNot_start]; rfl, hrg0, HB0.out⟩
  case round =>
    obtain ⟨left, cnt, rfl, hrg, hB⟩ := hrel
    have HB := Lib.hid hB
    clear hB HB0 hrg0
    go_wp2_with (first
      | (at_next; refine wpList_next_ranges _ rfl _ rfl 9 tkeyed fileR (fun n => .string (S n)) fV keyS valF b w.heap.size _ _ _ _ rfl hrg ?_ ?_)
      | go_in)
    · intro _ hl0
      have HE := Lib.hid (sumNot_end hl0 d.l)
      clear hl0 hrg
      go_wp2
      go_ret
      exact ⟨by rw [HE.out]; rfl, HB.out⟩
    · intro x f kl yd yp w1 cnt1 hkey hlx hv hat hrg1 hlt hg1 hs1 hen
      obtain rfl := keyS_lit hkey
      have hgt := valF_get hv hat
      have HS := Lib.hid (sumNot_step HP.out hgt hlx)
      have hle := sumNot_le (fun z => left z && !z.sameKey (.string x)) d.l
      have HU1 := HU.out
      obtain ⟨fb, fg⟩ := f
      replace hen : (Instr.entry (.pointer (some ⟨w.heap.size, 0, none⟩))).run Try.prog w1 = .ok (.tuple #[.string (S x), .agg #[.string (S fb), .int .i64 fg]]) w1 := hen
      have HB1 := Lib.hid (HB.out.grown hg1 HB.out.size (fun j hj => by cases hj; exact Nat.le_refl _))
      have z1 : IntKind.i64.wrap ((sumNot left d.l : Int) + ((S fb).size : Int)) = ((sumNot (fun z => left z && !z.sameKey (.string x)) d.l : Nat) : Int) := by
        rw [IntKind.wrap_i64, HS.out, S_size]; rw [HS.out] at hle; simp only at hle ⊢; omega
      have HL := Lib.hid hlt
      have HR := Lib.hid hrg
      have HR1 := Lib.hid hrg1
      clear hkey hlx hv hat hrg1 hlt hg1 hs1 hgt hle HU1 hrg
      go_wp2_with fail
      have hrg2 := HR1.out.alloc (.cells #[.string (S fb), .int .i64 fg] 78)
      go_roundw
      case rel => exact ⟨_, cnt1, rfl, hrg2, HB1.out.alloc HB1.out.size _⟩
      case measure => rw [hrg2.left_eq, HR.out.left_eq]; exact HL.out
theorem used_any (a b : Nat) (d : Dk) (w : World) (h : DkAt w a b d) :
    Calls Try.prog 26 #[.pointer (some ⟨a, 0, none⟩)] w fun z w' => z = .returned (.int .i64 (used d.l : Int)) ∧ Below w.heap.size w w' :=
  used_raw a b d w h.blk h.mp h.ok.up (Nat.le_trans h.ok.used h.ok.cap)
end Go.Proofs.Ytddjoealckhepaa.Disk
