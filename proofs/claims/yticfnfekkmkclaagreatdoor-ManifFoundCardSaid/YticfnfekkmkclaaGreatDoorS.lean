import Derived.Test.YticfnfekkmkclaaGreatDoorM
import Derived.Deep.RegionHeld3
import Derived.Laws.StructEq
/-
  A disk with files that are handed in: Load; New.
-/
namespace Go.Proofs.YticfnfekkmkclaaGreatDoor.Disk
open Go Go.RowKit Go.Maps Go.Shelf Go.Proofs

def fileOf (x : Fi) : Nm × F := (x.n, ⟨x.d ++ x.p, x.d.length⟩)
def fileL (l : List Fi) : List (Nm × F) := l.map fileOf
theorem fiOk_of {l : List Fi} (h : mayFi l = true) (i : Nat) (hi : i < l.length) : (0 < i → bytesBefore (l.getD (i - 1) ⟨[], [], []⟩).n l[i].n = true) ∧ mayN l[i].n = true ∧ l[i].d.length + l[i].p.length ≤ 1048576 := by
  unfold mayFi at h
  rw [Bool.and_eq_true, List.all_eq_true] at h
  have := h.2 i (List.mem_range.2 hi)
  simp only [fiOk, Bool.and_eq_true, Bool.or_eq_true, decide_eq_true_eq, getD_at l i hi] at this
  exact ⟨fun h0 => this.1.1.resolve_left (by omega), this.1.2, this.2⟩
theorem mayFi_len {l : List Fi} (h : mayFi l = true) : l.length ≤ 64 := by
  unfold mayFi at h
  rw [Bool.and_eq_true, decide_eq_true_eq] at h
  exact h.1
theorem rise {l : List Fi} (h : mayFi l = true) (i j : Nat) (hij : i < j) (hj : j < l.length) : bytesBefore l[i].n l[j].n = true := by
  induction j with
  | zero => omega
  | succ j ih =>
    have hs := (fiOk_of h (j + 1) hj).1 (by omega)
    rw [Nat.add_sub_cancel, getD_at l j (by omega)] at hs
    by_cases e : i = j
    · subst e; exact hs
    · exact WideShapes.bytes_trans _ _ _ (ih (by omega) (by omega)) hs
theorem fileL_up {l : List Fi} (h : mayFi l = true) : Up (fileL l) := by
  refine List.pairwise_map.2 (List.pairwise_iff_getElem.2 fun i j hi hj hij => rise h i j hij hj)
theorem up_take {α : Type} {l : List (Nm × α)} (h : Up l) (k : Nat) : Up (l.take k) := h.sublist (List.take_sublist k l)
theorem put_last {α : Type} {m : List (Nm × α)} {n : Nm} {f : α} (h : Up (m ++ [(n, f)])) : put n f m = m ++ [(n, f)] := by
  obtain ⟨h1, _, h3⟩ := List.pairwise_append.1 h
  refine up_ext (Up.put h1 n f) h fun x => ?_
  rw [mem_put, List.mem_append, List.mem_singleton]
  constructor
  · rintro (h | ⟨h, _⟩)
    · exact Or.inr h
    · exact Or.inl h
  · rintro (hm | h)
    · exact Or.inr ⟨hm, before_ne (h3 x hm _ (List.mem_singleton.2 rfl))⟩
    · exact Or.inl h
theorem fileL_take (l : List Fi) (k : Nat) (hk : k < l.length) : fileL (l.take (k + 1)) = fileL (l.take k) ++ [fileOf l[k]] := by
  unfold fileL; rw [List.take_add_one, List.getElem?_eq_getElem hk, List.map_append]; rfl
theorem fileL_put {l : List Fi} (h : mayFi l = true) (k : Nat) (hk : k < l.length) : put l[k].n ⟨l[k].d ++ l[k].p, l[k].d.length⟩ (fileL (l.take k)) = fileL (l.take (k + 1)) := by
  rw [fileL_take l k hk]
  refine put_last (n := l[k].n) (f := (⟨l[k].d ++ l[k].p, l[k].d.length⟩ : F)) ?_
  have := up_take (fileL_up h) (k + 1)
  rwa [show (fileL l).take (k + 1) = fileL (l.take (k + 1)) by unfold fileL; rw [List.map_take], fileL_take l k hk] at this
theorem ok_of_may {l : List Fi} (h : mayFi l = true) : ∀ p ∈ fileL l, p.2.ok := fun p hp => by
  obtain ⟨x, hx, rfl⟩ := List.mem_map.1 hp
  obtain ⟨i, hi, rfl⟩ := List.getElem_of_mem hx
  have := (fiOk_of h i hi).2.2
  exact ⟨by simp only [fileOf, List.length_append]; omega, by simp only [fileOf, List.length_append]; omega⟩
theorem fileL_ok {l : List Fi} (h : mayFi l = true) {cap : Nat} (hc : cap ≤ 9223372036854775807) (hu : used (fileL l) ≤ cap) : (Dk.mk cap (fileL l) false false 0).ok where
  up := fileL_up h
  fs := ok_of_may h
  nm := fun p hp => by
    obtain ⟨x, hx, rfl⟩ := List.mem_map.1 hp
    obtain ⟨i, hi, rfl⟩ := List.getElem_of_mem hx
    exact (fiOk_of h i hi).2.1
  len := by unfold fileL; rw [List.length_map]; exact mayFi_len h
  used := hu
  cap := hc
  left := Nat.zero_le _
  cut := fun _ => rfl
theorem used_le {l : List (Nm × F)} (h : ∀ p ∈ l, p.2.ok) : used l ≤ l.length * 1048576 := by
  induction l with
  | nil => simp [used, tot]
  | cons p r ih =>
    have h1 := ih fun q hq => h q (List.mem_cons_of_mem _ hq)
    have h2 := (h p (List.mem_cons_self ..)).2
    have : used (p :: r) = p.2.b.length + used r := by simp [used, tot]
    rw [this, List.length_cons, Nat.add_mul]; omega
def loadE (c : Int) (l : List Fi) : Nat := if c < 0 then 1 else if mayFi l = false then 4 else if c < (used (fileL l) : Int) then 44 else 0
def LoadRes (c : Int) (l : List Fi) (w : World) (z : Ending) (w' : World) : Prop :=
  (loadE c l ≠ 0 → z = .returned (.tuple #[.pointer none, .int .i64 (loadE c l : Int)])) ∧
  (loadE c l = 0 → ∃ a b, z = .returned (.tuple #[.pointer (some ⟨a, 0, none⟩), .int .i64 0]) ∧ DkAt w' a b ⟨c.toNat, fileL l, false, false, 0⟩ ∧ w.heap.size ≤ a ∧ w.heap.size ≤ b) ∧ Below w.heap.size w w'
theorem load_bad {c : Int} {l : List Fi} {e : Nat} (he : loadE c l = e) (h0 : e ≠ 0) {w w' : World} (h : Below w.heap.size w w') : LoadRes c l w (.returned (.tuple #[.pointer none, .int .i64 (e : Int)])) w' :=
  ⟨fun _ => by rw [he], fun h => absurd (he.symm.trans h) h0, h⟩

set_option maxRecDepth 100000 in
set_option maxHeartbeats 2000000 in
theorem load_any (c : Int) (hc : c ≤ 9223372036854775807) (A : Option Addr) (cap : Nat) (l : List Fi) (hl : l.length ≤ 1000000000) (hsh : Short l) (w : World) (h : RowF w A l) :
    Calls Tryz.prog 21 #[.int .i64 c, .slice A l.length cap] w (LoadRes c l w) := by
  have hmx : Tryz.prog.follows .mixedOrders = true := by kernel_rfl
  have HM := Lib.hid (mayBe_any A cap l hl hsh w h)
  have HR := Lib.hid h
  clear h hsh hl
  by_cases hlo : c < 0
  · have HE := Lib.hid (show loadE c l = 1 by simp [loadE, hlo])
    have z : decide (c < 0) = true := decide_eq_true hlo
    go_enter Tryz.func21, Tryz.ntmps21
    go_wp2_with fail
    go_ret2
    exact load_bad HE.out (by decide) (Below.refl _ _)
  · have z : decide (c < 0) = false := decide_eq_false hlo
    cases hm : mayFi l with
    | false =>
      have HE := Lib.hid (show loadE c l = 4 by simp [loadE, hlo, hm])
      rw [hm] at HM
      clear hm
      go_enter Tryz.func21, Tryz.ntmps21
      go_wp2_with fail
      refine HM.out.mono ?_
      rintro z w1 ⟨rfl, h1⟩
      have H1 := Lib.hid h1
      clear h1
      go_wp2_with fail
      go_ret2
      exact load_bad HE.out (by decide) H1.out
    | true =>
      rw [hm] at HM
      have HY := Lib.hid hm
      have HC := Lib.hid hc
      have HLO := Lib.hid hlo
      clear hm hc
      go_enter Tryz.func21, Tryz.ntmps21
      go_wp2_with fail
      refine HM.out.mono ?_
      rintro z w1 ⟨rfl, h1⟩
      have H1 := Lib.hid h1
      clear h1
      have hmm := @run_makeMap Tryz.prog
      go_wp2_with fail
      have hm0 : ((w1.alloc (.map #[] 0)).alloc (.cells #[.int .i64 c, .map (some w1.heap.size), .bool false, .bool false, .int .i64 0] 117)).ownsMap Tryz.prog 9 fileR w1.heap.size 0 (toD fD (fileL (l.take 0))) := (World.ownsMap_made w1 Tryz.prog 9 fileR).alloc _
      have hb0 : ((w1.alloc (.map #[] 0)).alloc (.cells #[.int .i64 c, .map (some w1.heap.size), .bool false, .bool false, .int .i64 0] 117)).heap[w1.heap.size + 1]? = some (.cells #[.int .i64 c, .map (some w1.heap.size), .bool false, .bool false, .int .i64 0] 117 (0, 0)) := by
        have := bx_own (w1.alloc (.map #[] 0)) #[.int .i64 c, .map (some w1.heap.size), .bool false, .bool false, .int .i64 0] 117
        simpa using this
      have h2 := below2 w1 (.map #[] 0) (.cells #[.int .i64 c, .map (some w1.heap.size), .bool false, .bool false, .int .i64 0] 117)
      have hsz : ((w1.alloc (.map #[] 0)).alloc (.cells #[.int .i64 c, .map (some w1.heap.size), .bool false, .bool false, .int .i64 0] 117)).heap.size = w1.heap.size + 2 := by simp
      generalize (w1.alloc (.map #[] 0)).alloc (.cells #[.int .i64 c, .map (some w1.heap.size), .bool false, .bool false, .int .i64 0] 117) = w2 at hm0 hb0 h2 hsz ⊢
      have HM0 := Lib.hid hm0
      have HB0 := Lib.hid hb0
      have H2 := Lib.hid h2
      have HZ := Lib.hid hsz
      clear hm0 hb0 h2 hsz hmm HM
      go_loopw [20] (fun i wr => ∃ k : Nat, k ≤ l.length ∧ i = .int .i64 (k : Int) ∧ wr.ownsMap Tryz.prog 9 fileR w1.heap.size k (toD fD (fileL (l.take k))) ∧ wr.heap[w1.heap.size + 1]? = some (.cells #[.int .i64 c, .map (some w1.heap.size), .bool false, .bool false, .int .i64 0] 117 (0, 0)) ∧ Below w1.heap.size w1 wr ∧ w1.heap.size + 2 ≤ wr.heap.size) (fun i _ => l.length - (intOf i).toNat)
      case atStart => exact ⟨0, Nat.zero_le _, rfl, HM0.out, HB0.out, H2.out, by rw [HZ.out]; exact Nat.le_refl _⟩
      case round =>
        obtain ⟨k, hk, rfl, hO, hX, hB, hz⟩ := hrel
        have HO := Lib.hid hO
        have HX := Lib.hid hX
        have HB := Lib.hid hB
        have HW := Lib.hid hz
        clear hO hX hB hz HM0 HB0
        by_cases hlt : k < l.length
        · obtain ⟨nb, no, rfl, hb1, c0, c1, c2⟩ := ((HR.out.below H1.out).below HB.out) k hlt
          have hmay := fiOk_of HY.out k hlt
          have HP := Lib.hid (fileL_put HY.out k hlt)
          have HL := Lib.hid (mayFi_len HY.out)
          have z0 : (0 : Int) ≤ (k : Int) := by omega
          have z1 : (k : Int) < (l.length : Int) := by omega
          have zk : IntKind.i64.wrap ((k : Int) + 1) = (k : Int) + 1 := by rw [IntKind.wrap_i64]; have := HL.out; omega
          generalize l[k] = x at c0 c1 c2 hmay HP
          obtain ⟨xn, xd, xp⟩ := x
          simp only at c0 c1 c2 hmay HP
          have hadd : ∀ w : World, (Op.stringOp .add (S xd) (S xp)).run Tryz.prog w = .ok (.string (S (xd ++ xp))) w := fun w => by
            have z3 := S_size xd
            have z4 := S_size xp
            rw [← S_app]
            have : ((S xd).size : Int) + ((S xp).size : Int) ≤ 9223372036854775807 := by omega
            simp [Op.stringOp, this, go_sem]
          have HF := Lib.hid (show (⟨xd ++ xp, xd.length⟩ : F).ok from ⟨by simp, by simp only [List.length_append]; omega⟩)
          have HK := Lib.hid (tkey xn (by have := hmay.2.1; simp only [mayN, Bool.and_eq_true, decide_eq_true_eq] at this; unfold maxLen; omega))
          have HLT := Lib.hid hlt
          clear hb1 hmay
          go_wp2_with fail
          have f0 : (wr.alloc (.cells #[.string (S xn), .string (S xd), .string (S xp)] 71)).cell? ⟨wr.heap.size, 0, none⟩ = some (.string (S xn)) := (bx_new wr _ _).cell 0
          have f1 : (wr.alloc (.cells #[.string (S xn), .string (S xd), .string (S xp)] 71)).cell? ⟨wr.heap.size, 1, none⟩ = some (.string (S xd)) := (bx_new wr _ _).cell 1
          have f2 : (wr.alloc (.cells #[.string (S xn), .string (S xd), .string (S xp)] 71)).cell? ⟨wr.heap.size, 2, none⟩ = some (.string (S xp)) := (bx_new wr _ _).cell 2
          have hO := HO.out.alloc (.cells #[.string (S xn), .string (S xd), .string (S xp)] 71)
          have hX := (Below.heap_alloc wr (.cells #[.string (S xn), .string (S xd), .string (S xp)] 71) _ (row_lt HX.out)).trans HX.out
          have hB := HB.out.alloc HB.out.size (.cells #[.string (S xn), .string (S xd), .string (S xp)] 71)
          have hW : w1.heap.size + 2 ≤ (wr.alloc (.cells #[.string (S xn), .string (S xd), .string (S xp)] 71)).heap.size := by have := HW.out; simp; omega
          have f3 : (wr.alloc (.cells #[.string (S xn), .string (S xd), .string (S xp)] 71)).cell? ⟨w1.heap.size + 1, 1, none⟩ = some (.map (some w1.heap.size)) := cell_row hX 1
          generalize wr.alloc (.cells #[.string (S xn), .string (S xd), .string (S xp)] 71) = W at f0 f1 f2 f3 hO hX hB hW ⊢
          go_still_tail 15, (by kernel_rfl)
          change wpList _ _ _ _ _ (W.drewN 1)
          have HO1 := Lib.hid (show (W.drewN 1).ownsMap Tryz.prog 9 fileR w1.heap.size k (toD fD (fileL (l.take k))) from owns_block hO rfl)
          have HX1 := Lib.hid (show (W.drewN 1).heap[w1.heap.size + 1]? = _ from hX)
          have HB1 := Lib.hid (hB.trans (below_dn _ W 1))
          have HW1 := Lib.hid (show w1.heap.size + 2 ≤ (W.drewN 1).heap.size from hW)
          clear hO hX hB hW f0 f1 f2 f3 c0 c1 c2 hadd
          generalize W.drewN 1 = W1 at *
          go_wp2_with (at_mapUpdate; refine wpList_mapUpdate_in _ rfl _ _ _ 113 rfl 9 119 tkeyed tmap fileR w1.heap.size k (toD fD (fileL (l.take k))) rfl HO1.out (by have := HL.out; unfold maxLen; omega) _ _ (.string xn) rfl rfl HK.out (fD ⟨xd ++ xp, xd.length⟩) [] (fileR_mk HF.out) ?_; intro w3 hown hturn)
          have HG := Lib.hid hturn.grown
          rw [toD_put, HP.out] at hown
          have HOW := Lib.hid hown
          clear hown hturn
          go_wp2_with fail
          go_roundw
          case rel => exact ⟨k + 1, by have := HLT.out; omega, by go_num, HOW.out, (HG.out.block _ (by have := HW1.out; omega) (fun e => by injection e with e; omega)).trans HX1.out, HB1.out.grown HG.out HB1.out.size (fun j hj => by injection hj with hj; omega), Nat.le_trans HW1.out HG.out.size⟩
          case measure => have := HLT.out; simp [intOf] <;> omega
        · obtain rfl : k = l.length := by omega
          have z1 : ¬ ((l.length : Nat) : Int) < (l.length : Int) := by omega
          obtain ⟨cn, rfl⟩ : ∃ n : Nat, c = (n : Int) := ⟨c.toNat, by have := HLO.out; omega⟩
          rw [List.take_length] at HO
          have hfs := ok_of_may HY.out
          have hul := used_le hfs
          have hlen : (fileL l).length = l.length := by unfold fileL; rw [List.length_map]
          have hll := mayFi_len HY.out
          have hO2 : wr.ownsMap Tryz.prog 9 fileR w1.heap.size (fileL l).length (toD fD (fileL l)) := by rw [hlen]; exact HO.out
          have HO2 := Lib.hid hO2
          have HU := Lib.hid (used_raw (w1.heap.size + 1) w1.heap.size ⟨cn, fileL l, false, false, 0⟩ wr HX.out hO2 (fileL_up HY.out) (by simp only; omega))
          clear hfs hul hlen hll hO2
          go_wp2_with fail
          refine HU.out.mono ?_
          rintro z w3 ⟨rfl, h3⟩
          have H3 := Lib.hid h3
          clear h3 HU
          by_cases hfull : cn < used (fileL l)
          · have HE := Lib.hid (show loadE (cn : Int) l = 44 by unfold loadE; rw [if_neg (by omega), HY.out]; simp [hfull])
            have z4 : (cn : Int) < (used (fileL l) : Int) := by omega
            have z5 : decide ((cn : Int) < (used (fileL l) : Int)) = true := decide_eq_true z4
            clear hfull
            go_wp2_with fail
            go_ret2
            exact load_bad HE.out (by decide) ((H1.out.trans (HB.out.mono H1.out.size)).trans (H3.out.mono (Nat.le_trans H1.out.size HB.out.size)))
          · have HE := Lib.hid (show loadE (cn : Int) l = 0 by unfold loadE; rw [if_neg (by omega), HY.out]; simp; omega)
            have z4 : ¬ (cn : Int) < (used (fileL l) : Int) := by omega
            have z5 : decide ((cn : Int) < (used (fileL l) : Int)) = false := decide_eq_false z4
            have HUS := Lib.hid (show used (fileL l) ≤ cn by omega)
            clear hfull
            go_wp2_with fail
            go_ret2
            refine ⟨fun h => absurd HE.out h, fun _ => ⟨w1.heap.size + 1, w1.heap.size, rfl, ?_, by have := H1.out.size; omega, H1.out.size⟩, (H1.out.trans (HB.out.mono H1.out.size)).trans (H3.out.mono (Nat.le_trans H1.out.size HB.out.size))⟩
            rw [Int.toNat_natCast]
            refine DkAt.below ⟨HX.out, HO2.out, fileL_ok HY.out (by have := HC.out; omega) HUS.out⟩ H3.out
theorem new_any (c : Int) (hc : c ≤ 9223372036854775807) (w : World) :
    Calls Tryz.prog 18 #[.int .i64 c] w (LoadRes c [] w) := by
  have HL := Lib.hid (load_any c hc none 0 [] (Nat.zero_le _) (fun x hx => by cases hx) w (fun i hi => absurd hi (Nat.not_lt_zero _)))
  go_enter Tryz.func18, Tryz.ntmps18
  go_wp2_with fail
  refine HL.out.mono ?_
  rintro z w1 ⟨h1, h2, h3⟩
  have H1 := Lib.hid h1
  have H2 := Lib.hid h2
  have H3 := Lib.hid h3
  clear h1 h2 h3
  by_cases h0 : loadE c [] = 0
  · obtain ⟨a, b, rfl, h5, h6, h7⟩ := H2.out h0
    have H5 := Lib.hid h5
    have HE := Lib.hid h0
    clear h5 h0
    go_wp2_with fail
    go_ret2
    exact ⟨fun h => absurd HE.out h, fun _ => ⟨a, b, rfl, H5.out, h6, h7⟩, H3.out⟩
  · obtain rfl := H1.out h0
    have HE := Lib.hid h0
    clear h0
    go_wp2_with fail
    go_ret2
    exact ⟨fun _ => rfl, fun h => absurd h HE.out, H3.out⟩
end Go.Proofs.YticfnfekkmkclaaGreatDoor.Disk

/-
  A copy of a disk.
-/
namespace Go.Proofs.YticfnfekkmkclaaGreatDoor.Disk
open Go Go.RowKit Go.Maps Go.Shelf Go.Proofs

theorem clone_call (a b : Nat) (d : Dk) (w : World) (h : DkAt w a b d) :
    Calls Tryz.prog 85 #[.map (some b)] w fun e w' => e = .returned (.map (some w.heap.size)) ∧ w'.ownsMap Tryz.prog 9 fileR w.heap.size d.l.length (toD fD d.l) ∧ Below w.heap.size w w' :=
  (AnyW.maps_Clone_owns Tryz.cloneA 9 fileR b d.l.length (toD fD d.l) w h.mp).mono fun e w' ⟨h1, h2, _, h4⟩ => ⟨h1, h2, h4⟩
theorem below_new {u w : World} (h : Below u.heap.size u w) (o : Obj) : Below u.heap.size u (w.alloc o) := h.alloc h.size o
def CopyRes (d : Dk) (w : World) (z : Ending) (w' : World) : Prop := ∃ a b, z = .returned (.pointer (some ⟨a, 0, none⟩)) ∧ DkAt w' a b d ∧ w.heap.size ≤ a ∧ w.heap.size ≤ b ∧ Below w.heap.size w w'

set_option maxRecDepth 100000 in
set_option maxHeartbeats 2000000 in
theorem copy_any (a b : Nat) (d : Dk) (w : World) (h : DkAt w a b d) :
    Calls Tryz.prog 37 #[.pointer (some ⟨a, 0, none⟩)] w (CopyRes d w) := by
  have hmx : Tryz.prog.follows .mixedOrders = true := by kernel_rfl
  have HS : Hid (∀ w' : World, Below w.heap.size w w' → Below w.heap.size w w' ∧ DkAt w' a b d ∧ w'.cell? ⟨a, 0, none⟩ = some (.int .i64 (d.cap : Int)) ∧ w'.cell? ⟨a, 1, none⟩ = some (.map (some b)) ∧ w'.cell? ⟨a, 2, none⟩ = some (.bool d.gone) ∧ w'.cell? ⟨a, 3, none⟩ = some (.bool d.cut) ∧ w'.cell? ⟨a, 4, none⟩ = some (.int .i64 (d.left : Int))) := fun w' hb =>
    ⟨hb, h.below hb, (h.below hb).cell⟩
  have HO := Lib.hid h.ok
  obtain ⟨-, -, q0, q1, q2, q3, q4⟩ := HS.out w (Below.refl _ _)
  obtain ⟨r1, r2, -⟩ := HS.out w.drew (Below.refl _ _).drew
  have HC : Hid (∀ w' : World, DkAt w' a b d → Calls Tryz.prog 85 #[.map (some b)] w' fun e w'' => e = .returned (.map (some w'.heap.size)) ∧ w''.ownsMap Tryz.prog 9 fileR w'.heap.size d.l.length (toD fD d.l) ∧ Below w'.heap.size w' w'') := fun w' h' => clone_call a b d w' h'
  clear h
  go_enter Tryz.func37, Tryz.ntmps37
  go_wp2_with fail
  go_region_held3 (fun w' => Below w.heap.size w w' ∧ DkAt w' a b d ∧ w'.cell? ⟨a, 0, none⟩ = some (.int .i64 (d.cap : Int)) ∧ w'.cell? ⟨a, 1, none⟩ = some (.map (some b)) ∧ w'.cell? ⟨a, 2, none⟩ = some (.bool d.gone) ∧ w'.cell? ⟨a, 3, none⟩ = some (.bool d.cut) ∧ w'.cell? ⟨a, 4, none⟩ = some (.int .i64 (d.left : Int)))
    (first | assumption | (refine ⟨?_, ?_, ?_, ?_, ?_, ?_, ?_⟩ <;> assumption) | exact HS.out _ (below_new (by assumption) _))
    ((first | (go_at_call 85; refine (HC.out _ (by assumption)).mono ?_; rintro z w' ⟨rfl, hown, hb4⟩; obtain ⟨p1, p2, p3, p4, p5, p6, p7⟩ := HS.out w' (below_step (by assumption) hb4))))
  all_goals
    clear r1 r2 q0 q1 q2 q3 q4
    have hO := (show World.ownsMap _ Tryz.prog 9 fileR w.heap.size d.l.length (toD fD d.l) by assumption)
    have hB := (show Below w.heap.size w _ by assumption)
    go_wp2_with fail
    go_ret
    exact ⟨_, w.heap.size, rfl, ⟨bx_own _ _ _, hO.alloc _, HO.out⟩, hB.size, Nat.le_refl _, below_new hB _⟩

/-! ### the power comes back -/
def crashF (f : F) (ks : List Int) : F × List Int :=
  if f.b.length = f.g then (f, ks) else
    match ks with
    | [] => (⟨f.b.take f.g, f.g⟩, [])
    | k :: r => (⟨f.b.take (f.g + (k % 18446744073709551616).toNat % (f.b.length - f.g + 1)), f.g + (k % 18446744073709551616).toNat % (f.b.length - f.g + 1)⟩, r)
def crashL : List (Nm × F) → List Int → List (Nm × F)
  | [], _ => []
  | p :: r, ks => (p.1, (crashF p.2 ks).1) :: crashL r (crashF p.2 ks).2
def crashK : List (Nm × F) → List Int → List Int
  | [], ks => ks
  | p :: r, ks => crashK r (crashF p.2 ks).2
theorem crashL_snoc (l : List (Nm × F)) (p : Nm × F) (ks : List Int) : crashL (l ++ [p]) ks = crashL l ks ++ [(p.1, (crashF p.2 (crashK l ks)).1)] := by
  induction l generalizing ks with
  | nil => rfl
  | cons q r ih => simp only [List.cons_append, crashL, crashK, ih]
theorem crashK_snoc (l : List (Nm × F)) (p : Nm × F) (ks : List Int) : crashK (l ++ [p]) ks = (crashF p.2 (crashK l ks)).2 := by
  induction l generalizing ks with
  | nil => rfl
  | cons q r ih => simp only [List.cons_append, crashK, ih]
theorem crashL_names (l : List (Nm × F)) (ks : List Int) : (crashL l ks).map (·.1) = l.map (·.1) := by
  induction l generalizing ks with
  | nil => rfl
  | cons q r ih => simp only [crashL, List.map_cons, ih]
theorem crashL_len (l : List (Nm × F)) (ks : List Int) : (crashL l ks).length = l.length := by
  have := congrArg List.length (crashL_names l ks)
  simpa using this
theorem crashK_sub (l : List (Nm × F)) (ks : List Int) : ∃ n, crashK l ks = ks.drop n := by
  induction l generalizing ks with
  | nil => exact ⟨0, rfl⟩
  | cons q r ih =>
    simp only [crashK, crashF]
    split
    · exact ih ks
    · cases ks with
      | nil => obtain ⟨n, h⟩ := ih []; exact ⟨n, h⟩
      | cons k t => obtain ⟨n, h⟩ := ih t; exact ⟨n + 1, h⟩
/-- the files when the first i names have had their turn -/
def crashAt (l : List (Nm × F)) (ks : List Int) (i : Nat) : List (Nm × F) := crashL (l.take i) ks ++ l.drop i
theorem up_names {l m : List (Nm × F)} (h : l.map (·.1) = m.map (·.1)) (hm : Up m) : Up l := by
  have h1 : (m.map (·.1)).Pairwise (fun a b => bytesBefore a b = true) := List.pairwise_map.2 hm
  rw [← h] at h1
  exact List.pairwise_map.1 h1
theorem crashAt_names (l : List (Nm × F)) (ks : List Int) (i : Nat) : (crashAt l ks i).map (·.1) = l.map (·.1) := by
  unfold crashAt
  rw [List.map_append, crashL_names, ← List.map_append, List.take_append_drop]
theorem crashAt_get {l : List (Nm × F)} (h : Up l) (ks : List Int) (i : Nat) (hi : i < l.length) : get (crashAt l ks i) l[i].1 = some l[i].2 := by
  refine (get_some (up_names (crashAt_names l ks i) h)).2 ?_
  unfold crashAt
  rw [List.drop_eq_getElem_cons hi]
  exact List.mem_append_right _ (List.mem_cons_self ..)
theorem put_mid {α : Type} {x y : List (Nm × α)} {n : Nm} {f g : α} (h : Up (x ++ (n, g) :: y)) : put n f (x ++ (n, g) :: y) = x ++ (n, f) :: y := by
  have hu : Up (x ++ (n, f) :: y) := by
    obtain ⟨h1, h2, h3⟩ := List.pairwise_append.1 h
    obtain ⟨h4, h5⟩ := List.pairwise_cons.1 h2
    refine List.pairwise_append.2 ⟨h1, List.pairwise_cons.2 ⟨h4, h5⟩, fun a ha b hb => ?_⟩
    rcases List.mem_cons.1 hb with rfl | hb
    · exact h3 a ha (n, g) (List.mem_cons_self ..)
    · exact h3 a ha b (List.mem_cons_of_mem _ hb)
  refine up_ext (Up.put h n f) hu fun p => ?_
  obtain ⟨h1, h2, h3⟩ := List.pairwise_append.1 h
  obtain ⟨h4, h5⟩ := List.pairwise_cons.1 h2
  rw [mem_put, List.mem_append, List.mem_cons, List.mem_append, List.mem_cons]
  constructor
  · rintro (e | ⟨h6 | h6 | h6, h7⟩)
    · exact Or.inr (Or.inl e)
    · exact Or.inl h6
    · exact absurd (by rw [h6]) h7
    · exact Or.inr (Or.inr h6)
  · rintro (h6 | h6 | h6)
    · exact Or.inr ⟨Or.inl h6, before_ne (h3 p h6 _ (List.mem_cons_self ..))⟩
    · exact Or.inl h6
    · exact Or.inr ⟨Or.inr (Or.inr h6), (before_ne (h4 p h6)).symm⟩
theorem crashAt_step {l : List (Nm × F)} (h : Up l) (ks : List Int) (i : Nat) (hi : i < l.length) : put l[i].1 (crashF l[i].2 (crashK (l.take i) ks)).1 (crashAt l ks i) = crashAt l ks (i + 1) ∧ crashK (l.take (i + 1)) ks = (crashF l[i].2 (crashK (l.take i) ks)).2 := by
  have e : l.take (i + 1) = l.take i ++ [l[i]] := by rw [List.take_add_one, List.getElem?_eq_getElem hi]; rfl
  refine ⟨?_, by rw [e, crashK_snoc]⟩
  have hu := up_names (crashAt_names l ks i) h
  unfold crashAt at hu ⊢
  rw [List.drop_eq_getElem_cons hi] at hu ⊢
  rw [e, crashL_snoc, put_mid (n := l[i].1) (g := l[i].2) hu]
  simp
theorem crashF_less (f : F) (h : f.ok) (ks : List Int) : (crashF f ks).1.ok ∧ (crashF f ks).1.b.length ≤ f.b.length := by
  have h1 := h.1
  have h2 := h.2
  unfold crashF
  split
  · exact ⟨h, Nat.le_refl _⟩
  · have key : ∀ n, n ≤ f.b.length → (⟨f.b.take n, n⟩ : F).ok ∧ (f.b.take n).length ≤ f.b.length := fun n hn => ⟨h.upTo hn, by simp only [List.length_take]; omega⟩
    cases ks with
    | nil => exact key _ h1
    | cons k r =>
      refine key _ ?_
      have := Nat.mod_lt (k % 18446744073709551616).toNat (show 0 < f.b.length - f.g + 1 by omega)
      omega
theorem crashAt_ok {d : Dk} (h : d.ok) (ks : List Int) (i : Nat) : ({ d with l := crashAt d.l ks i } : Dk).ok := by
  induction i with
  | zero =>
    have : crashAt d.l ks 0 = d.l := rfl
    rw [this]; exact h
  | succ i ih =>
    by_cases hi : i < d.l.length
    · have hs := (crashAt_step h.up ks i hi).1
      have hg := crashAt_get h.up ks i hi
      have hl := crashF_less d.l[i].2 (h.fs _ (List.getElem_mem hi)) (crashK (d.l.take i) ks)
      have h3 := put_le ih.up hg hl.2
      rw [← hs]
      exact ih.put (h.nm _ (List.getElem_mem hi)) hl.1 (by rw [h3.1]; exact ih.len) (Nat.le_trans h3.2 ih.used)
    · have e : crashAt d.l ks (i + 1) = crashAt d.l ks i := by unfold crashAt; rw [List.take_of_length_le (by omega), List.take_of_length_le (by omega), List.drop_eq_nil_of_le (by omega), List.drop_eq_nil_of_le (by omega)]
      rw [e]; exact ih
end Go.Proofs.YticfnfekkmkclaaGreatDoor.Disk

/-
  The power comes back: Crash.
-/
namespace Go.Proofs.YticfnfekkmkclaaGreatDoor.Disk
open Go Go.RowKit Go.Maps Go.Shelf Go.Proofs

/-- numbers that lie in a slice, not in block a -/
def KAt (w : World) (a : Nat) (K : Option Addr) (ks : List Int) : Prop := ∀ j (h : j < ks.length), ∃ b o, K = some ⟨b, o, none⟩ ∧ b < w.heap.size ∧ b ≠ a ∧ w.cell? ⟨b, o + j, none⟩ = some (.int .i64 ks[j])
theorem KAt.tail {w : World} {a b o : Nat} {k : Int} {ks : List Int} (h : KAt w a (some ⟨b, o, none⟩) (k :: ks)) : KAt w a (some ⟨b, o + 1, none⟩) ks := fun j hj => by
  obtain ⟨b', o', e, h1, h2, h3⟩ := h (j + 1) (by simpa using hj)
  injection e with e; injection e with e1 e2; subst e1; subst e2
  exact ⟨b, o + 1, rfl, h1, h2, by rw [Nat.add_assoc, Nat.add_comm 1 j]; simpa using h3⟩
theorem KAt.tn {w w' : World} {a b : Nat} {d : Dk} {K : Option Addr} {ks : List Int} (h : KAt w a K ks) (hd : DkAt w a b d) (ht : Tn a b w w') : KAt w' a K ks := fun j hj => by
  obtain ⟨kb, ko, e, h1, h2, h3⟩ := h j hj
  refine ⟨kb, ko, e, Nat.lt_of_lt_of_le h1 ht.size, h2, (World.cell?_of_block (w := w) (ht.block kb h1 h2 ?_)).trans h3⟩
  obtain ⟨es, clock, hb, _⟩ := hd.mp
  intro e2; subst e2
  simp [World.cell?, hb] at h3
theorem KAt.below {w w' : World} {a : Nat} {K : Option Addr} {ks : List Int} (h : KAt w a K ks) (hb : Below w.heap.size w w') : KAt w' a K ks := fun j hj => by
  obtain ⟨kb, ko, e, h1, h2, h3⟩ := h j hj
  exact ⟨kb, ko, e, Nat.lt_of_lt_of_le h1 hb.size, h2, (hb.cell (p := ⟨kb, ko + j, none⟩) h1).trans h3⟩
theorem KAt.rest {w : World} {a b o c : Nat} {k : Int} {ks : List Int} (h : KAt w a (some ⟨b, o, none⟩) (k :: ks)) (hc : ks.length + 1 ≤ c) : KAt w a (if c = 1 then some ⟨b, o, none⟩ else some ⟨b, o + 1, none⟩) ks := by
  by_cases e : c = 1
  · have : ks = [] := List.eq_nil_of_length_eq_zero (by omega)
    subst this
    exact fun j hj => absurd hj (Nat.not_lt_zero _)
  · rw [if_neg e]; exact h.tail
theorem keep_tail (kb ko m c : Nat) (h : m + 1 ≤ c) (W : World) : (Instr.slice 48 (.slice (some ⟨kb, ko, none⟩) (m + 1) c) (some (.int .i64 1)) none none).run Tryz.prog W = .ok (.slice (if c = 1 then some ⟨kb, ko, none⟩ else some ⟨kb, ko + 1, none⟩) m (c - 1)) W := by
  have y0 : (1 : Int) ≤ ((m + 1 : Nat) : Int) := by omega
  have y1 : ((m + 1 : Nat) : Int) ≤ (c : Int) := by omega
  have y2 : (1 : Int) ≤ (m : Int) + 1 := by omega
  go_simp
def crashD (d : Dk) (ks : List Int) : Dk := { d with l := crashL d.l ks, gone := false, cut := false, left := 0 }
theorem crashAt_all (l : List (Nm × F)) (ks : List Int) : crashAt l ks l.length = crashL l ks := by unfold crashAt; rw [List.take_length, List.drop_length, List.append_nil]
theorem crashAt_none (l : List (Nm × F)) (ks : List Int) : crashAt l ks 0 = l := rfl

set_option maxRecDepth 100000 in
set_option maxHeartbeats 2000000 in
theorem crash_any (a b : Nat) (d : Dk) (K : Option Addr) (c : Nat) (ks : List Int) (hk : ks.length ≤ c) (hc : c ≤ maxLen) (w : World) (h : DkAt w a b d) (hK : KAt w a K ks) :
    Calls Tryz.prog 32 #[.pointer (some ⟨a, 0, none⟩), .slice K ks.length c] w fun z w' => z = .returned (.int .i64 0) ∧ DkAt w' a b (crashD d ks) ∧ Tn a b w w' := by
  have hmx : Tryz.prog.follows .mixedOrders = true := by kernel_rfl
  have HD := Lib.hid h
  have HN := Lib.hid (names_any a b d w h)
  have HK := Lib.hid hK
  have HC := Lib.hid hc
  have HKC := Lib.hid hk
  clear h hK hc hk
  go_enter Tryz.func32, Tryz.ntmps32
  go_wp2_with fail
  refine HN.out.mono ?_
  rintro z W ⟨v, rfl, h1, h2⟩
  obtain ⟨A, cap, rfl, hat⟩ := names_at (List.length_map ..).symm h1
  have HAT := Lib.hid hat
  have HW := Lib.hid h2
  have HDW := Lib.hid (HD.out.below h2)
  have HKW := Lib.hid (HK.out.below h2)
  have HL := Lib.hid HD.out.ok.len
  clear h1 h2 hat HN
  go_wp2_with fail
  go_loopw [1, 15] (fun s i wr => ∃ (k : Nat) (K1 : Option Addr) (c1 : Nat), k ≤ d.l.length ∧ i = .int .i64 (k : Int) ∧ s = .slice K1 (crashK (d.l.take k) ks).length c1 ∧ (crashK (d.l.take k) ks).length ≤ c1 ∧ c1 ≤ c ∧ KAt wr a K1 (crashK (d.l.take k) ks) ∧ DkAt wr a b { d with l := crashAt d.l ks k } ∧ Tn a b W wr) (fun _ i _ => d.l.length - (intOf i).toNat)
  case atStart => exact ⟨0, K, c, Nat.zero_le _, rfl, rfl, HKC.out, Nat.le_refl _, HKW.out, HDW.out, Tn.refl _ _ _⟩
  case round =>
    obtain ⟨k, K1, c1, hk, rfl, rfl, hkc, hc1, hKA, hDA, hT⟩ := hrel
    have HKA := Lib.hid hKA
    have HDA := Lib.hid hDA
    have HT := Lib.hid hT
    have HKC1 := Lib.hid hkc
    have HC1 := Lib.hid hc1
    clear hKA hDA hT HK HKW hkc hc1
    by_cases hlt : k < d.l.length
    · obtain ⟨nb, rfl, hb1, hb2, hc, -⟩ := HAT.out k (by simpa using hlt)
      have hnb : nb ≠ a ∧ nb ≠ b := by have := HD.out.lt; omega
      have cn := (World.cell?_of_block (w := W) (HT.out.block nb hb1 hnb.1 hnb.2)).trans hc
      have hg := crashAt_get HD.out.ok.up ks k hlt
      have hmn := HD.out.ok.nm _ (List.getElem_mem hlt)
      have hln : d.l[k].1.length ≤ maxLen := by simp only [mayN, Bool.and_eq_true, decide_eq_true_eq] at hmn; unfold maxLen; omega
      have HFO := Lib.hid (HD.out.ok.fs _ (List.getElem_mem hlt))
      have hl := (look_run HDA.out.mp d.l[k].1 hln).2
      obtain ⟨c0, c1', c2, c3, c4⟩ := HDA.out.cell
      have HE := Lib.hid (crashAt_step HD.out.ok.up ks k hlt)
      have HOK := Lib.hid (crashAt_ok HD.out.ok ks (k + 1))
      have HLT := Lib.hid hlt
      simp only [List.getElem_map] at cn
      rw [hg] at hl
      have HLN := Lib.hid hln
      have HUP := Lib.hid HDA.out.ok.up
      have HGT := Lib.hid hg
      clear hln hmn hg
      generalize hp : d.l[k] = p at HFO hl HE cn HLN HGT
      obtain ⟨pn, fb, fg⟩ := p
      simp only at HE HFO HLN HGT
      replace hl : (Instr.lookup 113 (.map (some b)) (.string (S pn)) false).run Tryz.prog wr = .ok (.agg #[.string (S fb), .int .i64 fg]) wr := hl
      have z0 : (0 : Int) ≤ (k : Int) := by omega
      have z1 : (k : Int) < (d.l.length : Int) := by omega
      have zk : IntKind.i64.wrap ((k : Int) + 1) = (k : Int) + 1 := by rw [IntKind.wrap_i64]; have := HL.out; omega
      have zp : IntKind.i64.wrap (((S fb).size : Int) - (fg : Int)) = ((fb.length - fg : Nat) : Int) := by
        have h1 := HFO.out.1; have h2 := HFO.out.2; have h3 := S_size fb
        simp only at h1 h2
        rw [IntKind.wrap_i64]; omega
      clear hc hb1 hb2 hnb hp
      generalize hcur : crashK (d.l.take k) ks = cur at *
      by_cases hpe : fb.length = fg
      · have HE1 : Hid (crashAt d.l ks (k + 1) = crashAt d.l ks k ∧ crashK (d.l.take (k + 1)) ks = cur) := by
          have h1 := HE.out
          rw [show crashF ⟨fb, fg⟩ cur = (⟨fb, fg⟩, cur) from if_pos hpe] at h1
          exact ⟨h1.1.symm.trans (put_get HUP.out HGT.out), h1.2⟩
        have zp2 : (((fb.length - fg : Nat) : Int) == 0) = true := by simp; omega
        have zp3 : ((fb.length - fg : Nat) : Int) = 0 := by omega
        clear hpe
        rw [zp3] at zp
        clear zp2 zp3
        go_wp2_with fail
        go_roundw
        case rel => exact ⟨k + 1, K1, c1, by have := HLT.out; omega, by go_num, by rw [HE1.out.2], by rw [HE1.out.2]; exact HKC1.out, HC1.out, by rw [HE1.out.2]; exact (HKA.out.below ((Below.refl _ _).alloc (Nat.le_refl _) _)), by rw [HE1.out.1]; exact HDA.out.new _, HT.out.new _⟩
        case measure => have := HLT.out; simp [intOf] <;> omega
      · have hgt : fg < fb.length := by have := HFO.out.1; simp only at this; omega
        have HGTN := Lib.hid hgt
        have zp2 : (((fb.length - fg : Nat) : Int) == 0) = false := by simp; omega
        have zp3 : ¬ (((fb.length - fg : Nat) : Int)) = 0 := by omega
        have zq : IntKind.i64.wrap (((fb.length - fg : Nat) : Int) + 1) = ((fb.length - fg + 1 : Nat) : Int) := by have h2 := HFO.out.2; simp only at h2; rw [IntKind.wrap_i64]; omega
        have zu : IntKind.u64.wrap ((fb.length - fg + 1 : Nat) : Int) = ((fb.length - fg + 1 : Nat) : Int) := by have h2 := HFO.out.2; simp only at h2; rw [IntKind.wrap_u64]; omega
        clear hgt
        cases cur with
        | nil =>
          have HE1 : Hid (put pn ⟨fb.take fg, fg⟩ (crashAt d.l ks k) = crashAt d.l ks (k + 1) ∧ crashK (d.l.take (k + 1)) ks = []) := by
            have h1 := HE.out
            rw [show crashF ⟨fb, fg⟩ [] = (⟨fb.take fg, fg⟩, []) by unfold crashF; rw [if_neg hpe]] at h1
            exact h1
          have HNL := Lib.hid (show fg ≤ (⟨fb, fg⟩ : F).b.length from HFO.out.1)
          have HKA2 := HKA
          have zc : IntKind.i64.wrap ((fg : Int) + 0) = (fg : Int) := by have h2 := HFO.out.2; have h1 := HFO.out.1; simp only at h1 h2; rw [IntKind.wrap_i64]; omega
          have zc2 : IntKind.i64.wrap (fg : Int) = (fg : Int) := by have h2 := HFO.out.2; have h1 := HFO.out.1; simp only at h1 h2; rw [IntKind.wrap_i64]; omega
          have zw0 : IntKind.i64.wrap 0 = 0 := by rw [IntKind.wrap_i64]; rfl
          have zc3 : IntKind.i64.wrap ((fg : Int) + IntKind.i64.wrap 0) = (fg : Int) := by rw [zw0]; exact zc
          clear hpe
          go_wp2_with fail
          have f2 := bx_own wr #[.string (S fb), .int .i64 (fg : Int)] 119
          have hD1 := HDA.out.new (.cells #[.string (S fb), .int .i64 (fg : Int)] 119)
          have hT1 := HT.out.new (.cells #[.string (S fb), .int .i64 (fg : Int)] 119)
          have hqa : wr.heap.size ≠ a := by have := HDA.out.lt.1; omega
          have hK1 := HKA2.out.below ((Below.refl wr.heap.size wr).alloc (Nat.le_refl _) (.cells #[.string (S fb), .int .i64 (fg : Int)] 119))
          generalize wr.alloc (.cells #[.string (S fb), .int .i64 (fg : Int)] 119) = W1 at f2 hD1 hT1 hK1 ⊢
          have HT1 := Lib.hid hT1
          have HK1 := Lib.hid hK1
          have hbx : Bx W1 wr.heap.size #[.string (S fb), .int .i64 (fg : Int)] := ⟨_, f2⟩
          have HFN := Lib.hid (show (⟨fb.take (fg), fg⟩ : F).ok from HFO.out.upTo HNL.out)
          have hok1 : ({ ({ d with l := crashAt d.l ks k } : Dk) with l := put pn ⟨fb.take (fg), fg⟩ ({ d with l := crashAt d.l ks k } : Dk).l } : Dk).ok := by have := HOK.out; rw [← HE1.out.1] at this; exact this
          have HUT : Hid (∀ W : World, Calls Tryz.prog 82 #[.agg #[.string (S fb), .int .i64 (fg : Int)], .int .i64 ((fg : Nat) : Int)] W fun z w' => z = .returned (fV ⟨fb.take (fg), fg⟩) ∧ Below W.heap.size W w') := fun W => upTo_any ⟨fb, fg⟩ HFO.out (fg) HNL.out W
          have HFIN : Hid (∀ w', DkAt w' a b { ({ d with l := crashAt d.l ks k } : Dk) with l := put pn ⟨fb.take (fg), fg⟩ ({ d with l := crashAt d.l ks k } : Dk).l } → DkAt w' a b { d with l := crashAt d.l ks (k + 1) }) := fun w' h => by rw [← HE1.out.1]; exact h
          have hup1 : Up ({ d with l := crashAt d.l ks k } : Dk).l := HUP.out
          generalize (⟨fb.take (fg), fg⟩ : F) = f1 at HFN hok1 HUT HFIN
          generalize ({ d with l := crashAt d.l ks k } : Dk) = d1 at hok1 HFIN hD1 hup1
          have HD1 := Lib.hid hD1
          have HS0 : ∀ l1 : List (Nm × F), ∀ w' : World, Ph a b d1 l1 W1 w' → Ph a b d1 l1 W1 w' ∧ w'.cell? ⟨a, 1, none⟩ = some (.map (some b)) ∧ w'.cell? ⟨wr.heap.size, 0, none⟩ = some (.string (S fb)) ∧ w'.cell? ⟨wr.heap.size, 1, none⟩ = some (.int .i64 (fg : Int)) := fun l1 w' hp => by
            have ht := hp.tn
            exact ⟨hp, hp.map, by rw [(hbx.tn hD1 hqa ht).cell 0]; rfl, by rw [(hbx.tn hD1 hqa ht).cell 1]; rfl⟩
          have HS := Lib.hid (HS0 (put pn f1 d1.l))
          have hu0 : ∀ w' : World, Ph a b d1 (put pn f1 d1.l) W1 w' → Ph a b d1 (put pn f1 d1.l) W1 (upd b pn f1 w') ∧ DoneBy a b d1 (put pn f1 d1.l) W1 (.returned (.tuple #[])) (upd b pn f1 w') := fun w' hp => ph_put pn HLN.out _ HFN.out hup1 hok1 hp
          have HU := Lib.hid hu0
          have hmu : ∀ w' : World, Ph a b d1 (put pn f1 d1.l) W1 w' → (Instr.mapUpdate 113 (.map (some b)) (.string (S pn)) (fV f1)).run Tryz.prog w' = .ok () (upd b pn f1 w') := fun w' hp => hp.run pn HLN.out _ HFN.out
          obtain ⟨q1, q2, q3, q4⟩ := HS.out W1 (Or.inl ⟨Below.refl _ _, hD1⟩)
          have r1 := (HS.out W1.drew (Or.inl ⟨(Below.refl _ _).drew, hD1.same rfl rfl⟩)).1
          have HFIN2 : Hid (∀ w', DoneBy a b d1 (put pn f1 d1.l) W1 (.returned (.tuple #[])) w' → DkAt w' a b { d with l := crashAt d.l ks (k + 1) } ∧ Tn a b W1 w') := fun w' h => ⟨HFIN.out w' h.2.1, h.2.2⟩
          clear hD1 hT1 hK1 hbx f2 hqa hok1 hup1 HS0 hu0 HFIN HOK HGT HUP hcur HE c0 c1' c2 c3 c4 cn hl zp zp2 zp3 zq zu z0 z1
          generalize put pn f1 d1.l = l1 at *
          go_region_held3 (fun w' => Ph a b d1 l1 W1 w' ∧ w'.cell? ⟨a, 1, none⟩ = some (.map (some b)) ∧ w'.cell? ⟨wr.heap.size, 0, none⟩ = some (.string (S fb)) ∧ w'.cell? ⟨wr.heap.size, 1, none⟩ = some (.int .i64 (fg : Int)))
            (first | assumption | (refine ⟨?_, ?_, ?_, ?_⟩ <;> assumption) | exact HS.out _ (HU.out _ (by assumption)).1)
            ((first | (go_at_call 82; refine (HUT.out _).mono ?_; rintro z w' ⟨rfl, hb4⟩; obtain ⟨p1, p2, p3, p4⟩ := HS.out w' (Ph.step (by assumption) hb4); clear hb4)))
          all_goals
            have hdone := HFIN2.out _ (HU.out _ (by assumption)).2
            have HD5 := Lib.hid hdone.1
            have HT5 := Lib.hid hdone.2
            clear hmu hdone q1 q2 q3 q4 r1
            go_wp2_with fail
            go_roundw
            case rel => exact ⟨k + 1, K1, c1, by have := HLT.out; omega, by go_num, by rw [HE1.out.2]; rfl, by rw [HE1.out.2]; exact Nat.zero_le _, by have := HC1.out; omega, by rw [HE1.out.2]; exact HK1.out.tn HD1.out HT5.out, HD5.out, HT1.out.trans HT5.out⟩
            case measure => have := HLT.out; simp [intOf] <;> omega
        | cons kk rest =>
          obtain ⟨kb, ko, rfl, hkb1, hkb2, hkc⟩ := HKA.out 0 (Nat.zero_lt_succ _)
          have hkc' : wr.cell? ⟨kb, ko, none⟩ = some (.int .i64 kk) := hkc
          have hkc2 : (wr.alloc (.cells #[.string (S fb), .int .i64 (fg : Int)] 119)).cell? ⟨kb, ko, none⟩ = some (.int .i64 kk) := (Below.cell ((Below.refl wr.heap.size wr).alloc (Nat.le_refl _) _) hkb1).trans hkc'
          have hst : fg + (kk % 18446744073709551616).toNat % (fb.length - fg + 1) ≤ fb.length := by
            have := Nat.mod_lt (kk % 18446744073709551616).toNat (show 0 < fb.length - fg + 1 by omega)
            have h1 := HFO.out.1; simp only at h1
            omega
          have HE1 : Hid (put pn ⟨fb.take (fg + (kk % 18446744073709551616).toNat % (fb.length - fg + 1)), fg + (kk % 18446744073709551616).toNat % (fb.length - fg + 1)⟩ (crashAt d.l ks k) = crashAt d.l ks (k + 1) ∧ crashK (d.l.take (k + 1)) ks = rest) := by
            have h1 := HE.out
            rw [show crashF ⟨fb, fg⟩ (kk :: rest) = (⟨fb.take (fg + (kk % 18446744073709551616).toNat % (fb.length - fg + 1)), fg + (kk % 18446744073709551616).toNat % (fb.length - fg + 1)⟩, rest) by unfold crashF; rw [if_neg hpe]] at h1
            exact h1
          have zm : (kk % 18446744073709551616).tmod ((fb.length - fg + 1 : Nat) : Int) = (((kk % 18446744073709551616).toNat % (fb.length - fg + 1) : Nat) : Int) := by
            have h0 := Int.emod_nonneg kk (show (18446744073709551616 : Int) ≠ 0 by decide)
            obtain ⟨u, hu⟩ : ∃ u : Nat, kk % 18446744073709551616 = (u : Int) := ⟨(kk % 18446744073709551616).toNat, by omega⟩
            rw [hu, Int.toNat_natCast]
            exact (Int.ofNat_tmod u _)
          have zw : IntKind.u64.wrap kk = kk % 18446744073709551616 := by rw [IntKind.wrap_u64]
          have hls := keep_tail kb ko rest.length c1 HKC1.out
          have HKA2 := Lib.hid (HKA.out.rest HKC1.out)
          generalize (if c1 = 1 then some (Addr.mk kb ko none) else some (Addr.mk kb (ko + 1) none)) = KX at hls HKA2
          have HKC2 := Lib.hid (show rest.length ≤ c1 - 1 by have h1 := HKC1.out; simp only [List.length_cons] at h1; omega)
          have hfl := HFO.out.2
          simp only at hfl
          generalize hss : (kk % 18446744073709551616).toNat % (fb.length - fg + 1) = st at zm hst HE1
          have HNL := Lib.hid (show fg + st ≤ (⟨fb, fg⟩ : F).b.length from hst)
          have zs : IntKind.u64.wrap (st : Int) = (st : Int) := by rw [IntKind.wrap_u64]; omega
          have zs2 : IntKind.i64.wrap (st : Int) = (st : Int) := by rw [IntKind.wrap_i64]; omega
          have zc : IntKind.i64.wrap ((fg : Int) + (st : Int)) = ((fg + st : Nat) : Int) := by rw [IntKind.wrap_i64]; omega
          have zg : (0 : Int) < ((rest.length + 1 : Nat) : Int) := by omega
          have zd0 : (((fb.length - fg + 1 : Nat) : Int) == 0) = false := by simp; omega
          have zd1 : ¬ ((fb.length - fg + 1 : Nat) : Int) = 0 := by omega
          generalize hzP : ((fb.length - fg + 1 : Nat) : Int) = zP at zm zd0 zd1 zq zu
          generalize hzN : ((fb.length - fg : Nat) : Int) = zN at zp zp2 zp3 zq
          generalize hzM : kk % 18446744073709551616 = zM at zm zw
          clear hpe hkc hkc' hss hst hfl hzP hzN hzM
          go_wp2_with fail
          have f2 := bx_own wr #[.string (S fb), .int .i64 (fg : Int)] 119
          have hD1 := HDA.out.new (.cells #[.string (S fb), .int .i64 (fg : Int)] 119)
          have hT1 := HT.out.new (.cells #[.string (S fb), .int .i64 (fg : Int)] 119)
          have hqa : wr.heap.size ≠ a := by have := HDA.out.lt.1; omega
          have hK1 := HKA2.out.below ((Below.refl wr.heap.size wr).alloc (Nat.le_refl _) (.cells #[.string (S fb), .int .i64 (fg : Int)] 119))
          generalize wr.alloc (.cells #[.string (S fb), .int .i64 (fg : Int)] 119) = W1 at f2 hD1 hT1 hK1 ⊢
          have HT1 := Lib.hid hT1
          have HK1 := Lib.hid hK1
          have hbx : Bx W1 wr.heap.size #[.string (S fb), .int .i64 (fg : Int)] := ⟨_, f2⟩
          have HFN := Lib.hid (show (⟨fb.take (fg + st), fg + st⟩ : F).ok from HFO.out.upTo HNL.out)
          have hok1 : ({ ({ d with l := crashAt d.l ks k } : Dk) with l := put pn ⟨fb.take (fg + st), fg + st⟩ ({ d with l := crashAt d.l ks k } : Dk).l } : Dk).ok := by have := HOK.out; rw [← HE1.out.1] at this; exact this
          have HUT : Hid (∀ W : World, Calls Tryz.prog 82 #[.agg #[.string (S fb), .int .i64 (fg : Int)], .int .i64 ((fg + st : Nat) : Int)] W fun z w' => z = .returned (fV ⟨fb.take (fg + st), fg + st⟩) ∧ Below W.heap.size W w') := fun W => upTo_any ⟨fb, fg⟩ HFO.out (fg + st) HNL.out W
          have HFIN : Hid (∀ w', DkAt w' a b { ({ d with l := crashAt d.l ks k } : Dk) with l := put pn ⟨fb.take (fg + st), fg + st⟩ ({ d with l := crashAt d.l ks k } : Dk).l } → DkAt w' a b { d with l := crashAt d.l ks (k + 1) }) := fun w' h => by rw [← HE1.out.1]; exact h
          have hup1 : Up ({ d with l := crashAt d.l ks k } : Dk).l := HUP.out
          generalize (⟨fb.take (fg + st), fg + st⟩ : F) = f1 at HFN hok1 HUT HFIN
          generalize ({ d with l := crashAt d.l ks k } : Dk) = d1 at hok1 HFIN hD1 hup1
          have HD1 := Lib.hid hD1
          have HS0 : ∀ l1 : List (Nm × F), ∀ w' : World, Ph a b d1 l1 W1 w' → Ph a b d1 l1 W1 w' ∧ w'.cell? ⟨a, 1, none⟩ = some (.map (some b)) ∧ w'.cell? ⟨wr.heap.size, 0, none⟩ = some (.string (S fb)) ∧ w'.cell? ⟨wr.heap.size, 1, none⟩ = some (.int .i64 (fg : Int)) := fun l1 w' hp => by
            have ht := hp.tn
            exact ⟨hp, hp.map, by rw [(hbx.tn hD1 hqa ht).cell 0]; rfl, by rw [(hbx.tn hD1 hqa ht).cell 1]; rfl⟩
          have HS := Lib.hid (HS0 (put pn f1 d1.l))
          have hu0 : ∀ w' : World, Ph a b d1 (put pn f1 d1.l) W1 w' → Ph a b d1 (put pn f1 d1.l) W1 (upd b pn f1 w') ∧ DoneBy a b d1 (put pn f1 d1.l) W1 (.returned (.tuple #[])) (upd b pn f1 w') := fun w' hp => ph_put pn HLN.out _ HFN.out hup1 hok1 hp
          have HU := Lib.hid hu0
          have hmu : ∀ w' : World, Ph a b d1 (put pn f1 d1.l) W1 w' → (Instr.mapUpdate 113 (.map (some b)) (.string (S pn)) (fV f1)).run Tryz.prog w' = .ok () (upd b pn f1 w') := fun w' hp => hp.run pn HLN.out _ HFN.out
          obtain ⟨q1, q2, q3, q4⟩ := HS.out W1 (Or.inl ⟨Below.refl _ _, hD1⟩)
          have r1 := (HS.out W1.drew (Or.inl ⟨(Below.refl _ _).drew, hD1.same rfl rfl⟩)).1
          have HFIN2 : Hid (∀ w', DoneBy a b d1 (put pn f1 d1.l) W1 (.returned (.tuple #[])) w' → DkAt w' a b { d with l := crashAt d.l ks (k + 1) } ∧ Tn a b W1 w') := fun w' h => ⟨HFIN.out w' h.2.1, h.2.2⟩
          clear hD1 hT1 hK1 hbx f2 hqa hok1 hup1 HS0 hu0 HFIN HOK HGT HUP hcur HE c0 c1' c2 c3 c4 cn hl zp zp2 zp3 zq zu z0 z1
          generalize put pn f1 d1.l = l1 at *
          go_region_held3 (fun w' => Ph a b d1 l1 W1 w' ∧ w'.cell? ⟨a, 1, none⟩ = some (.map (some b)) ∧ w'.cell? ⟨wr.heap.size, 0, none⟩ = some (.string (S fb)) ∧ w'.cell? ⟨wr.heap.size, 1, none⟩ = some (.int .i64 (fg : Int)))
            (first | assumption | (refine ⟨?_, ?_, ?_, ?_⟩ <;> assumption) | exact HS.out _ (HU.out _ (by assumption)).1)
            ((first | (go_at_call 82; refine (HUT.out _).mono ?_; rintro z w' ⟨rfl, hb4⟩; obtain ⟨p1, p2, p3, p4⟩ := HS.out w' (Ph.step (by assumption) hb4); clear hb4)))
          all_goals
            have hdone := HFIN2.out _ (HU.out _ (by assumption)).2
            have HD5 := Lib.hid hdone.1
            have HT5 := Lib.hid hdone.2
            clear hmu hdone q1 q2 q3 q4 r1
            go_wp2_with fail
            go_roundw
            case rel => exact ⟨k + 1, KX, (c1 - 1), by have := HLT.out; omega, by go_num, by rw [HE1.out.2]; skip, by rw [HE1.out.2]; exact HKC2.out, by have := HC1.out; omega, by rw [HE1.out.2]; exact HK1.out.tn HD1.out HT5.out, HD5.out, HT1.out.trans HT5.out⟩
            case measure => have := HLT.out; simp [intOf] <;> omega
    · obtain rfl : k = d.l.length := by omega
      have z1 : ¬ ((d.l.length : Nat) : Int) < (d.l.length : Int) := by omega
      rw [crashAt_all] at HDA
      obtain ⟨c0, c1', c2, c3, c4⟩ := HDA.out.cell
      have fz := HDA.out.fz
      go_wp2_with fail
      go_ret
      exact ⟨rfl, set_power HDA.out false false 0 0 rfl (by omega) (fun _ => rfl), ((Tn.of HW.out).trans HT.out).trans (tn3 _ _ _ _ _ _)⟩
end Go.Proofs.YticfnfekkmkclaaGreatDoor.Disk

/-
  What the laws ask first: files that are the same; small, one, bytes, find.
-/
namespace Go.Proofs.YticfnfekkmkclaaGreatDoor.Disk
open Go Go.RowKit Go.Maps Go.Shelf Go.Proofs

theorem eqn_fi (x y : Fi) (w : World) : (Op.equalIn 10000 71 (fiV x) (fiV y)).run Tryz.prog w = .ok (decide (x = y)) w := by
  have u9 := Tryz.underlying9
  have a9 := Tryz.isAgg9
  have z9 := Tryz.sizeOf9
  have hS : Tryz.prog.underlying 71 = some (.struct (Tryz.prog.fieldsOf 71)) := by kernel_rfl
  have hp : Tryz.prog.stoodInHeld 71 = false := by kernel_rfl
  obtain ⟨xn, xd, xp⟩ := x
  obtain ⟨yn, yd, yp⟩ := y
  unfold fiV fiC
  rw [show (10000 : Nat) = 9999 + 1 from rfl, run_equalIn_struct w 9999 71 _ _ hS hp]
  simp only [Program.fieldsOf, Tryz.underlying71]
  go_simp
  simp only [S_list]
  by_cases h1 : xn = yn <;> by_cases h2 : xd = yd <;> by_cases h3 : xp = yp <;> simp [h1, h2, h3]
theorem guard_fi (op : BinOp) (a b : Operand) (x y : Fi) (w : World) : (eqGuard op 71 a b (fiV x) (fiV y)).run Tryz.prog w = .ok () w := run_eqGuard_agg w op 71 a b _ _ (by kernel_rfl)
theorem eqn_f (x y : F) (w : World) : (Op.equalIn 10000 119 (fV x) (fV y)).run Tryz.prog w = .ok (decide (x = y)) w := by
  have u9 := Tryz.underlying9
  have a9 := Tryz.isAgg9
  have z9 := Tryz.sizeOf9
  have u3 := Tryz.underlying3
  have a3 := Tryz.isAgg3
  have z3 := Tryz.sizeOf3
  have hS : Tryz.prog.underlying 119 = some (.struct (Tryz.prog.fieldsOf 119)) := by kernel_rfl
  have hp : Tryz.prog.stoodInHeld 119 = false := by kernel_rfl
  obtain ⟨xb, xg⟩ := x
  obtain ⟨yb, yg⟩ := y
  unfold fV
  rw [show (10000 : Nat) = 9999 + 1 from rfl, run_equalIn_struct w 9999 119 _ _ hS hp]
  simp only [Program.fieldsOf, Tryz.underlying119]
  go_simp
  simp only [S_list]
  by_cases h1 : xb = yb <;> by_cases h2 : xg = yg <;> simp [h1, h2]
  omega
theorem guard_f (op : BinOp) (a b : Operand) (x y : F) (w : World) : (eqGuard op 119 a b (fV x) (fV y)).run Tryz.prog w = .ok () w := run_eqGuard_agg w op 119 a b _ _ (by kernel_rfl)

end Go.Proofs.YticfnfekkmkclaaGreatDoor.Disk

/-
  The examples of layer 9: awake.
-/
namespace Go.Proofs.YticfnfekkmkclaaGreatDoor.Disk
open Go Go.RowKit Go.Maps Go.Shelf Go.Proofs

def Got (a b : Nat) (e : Nat) (d' : Dk) (w : World) (z : Ending) (w' : World) : Prop := z = .returned (.int .i64 (e : Int)) ∧ DkAt w' a b d' ∧ Tn a b w w'
theorem at_create {a b : Nat} {d d' : Dk} {n : Nm} {e : Nat} (hf : createD d n = (e, d')) (hn : n.length ≤ maxLen) (w : World) (h : DkAt w a b d) :
    Calls Tryz.prog 56 #[.pointer (some ⟨a, 0, none⟩), .string (S n)] w (Got a b e d' w) := by
  have := create_any a b d n hn w h
  rw [hf] at this; exact this
theorem at_append {a b : Nat} {d d' : Dk} {n : Nm} {s : List UInt8} {e : Nat} (hf : appendD d n s = (e, d')) (hn : n.length ≤ maxLen) (hs : s.length ≤ maxLen) (w : World) (h : DkAt w a b d) :
    Calls Tryz.prog 58 #[.pointer (some ⟨a, 0, none⟩), .string (S n), .string (S s)] w (Got a b e d' w) := by
  have := append_any a b d n hn s hs w h
  rw [hf] at this; exact this
theorem at_sync {a b : Nat} {d d' : Dk} {n : Nm} {e : Nat} (hf : syncD d n = (e, d')) (hn : n.length ≤ maxLen) (w : World) (h : DkAt w a b d) :
    Calls Tryz.prog 60 #[.pointer (some ⟨a, 0, none⟩), .string (S n)] w (Got a b e d' w) := by
  have := sync_any a b d n hn w h
  rw [hf] at this; exact this
theorem at_rename {a b : Nat} {d d' : Dk} {n m : Nm} {e : Nat} (hf : renameD d n m = (e, d')) (hn : n.length ≤ maxLen) (hm : m.length ≤ maxLen) (w : World) (h : DkAt w a b d) :
    Calls Tryz.prog 62 #[.pointer (some ⟨a, 0, none⟩), .string (S n), .string (S m)] w (Got a b e d' w) := by
  have := rename_any a b d n m hn hm w h
  rw [hf] at this; exact this
theorem at_cut {a b : Nat} {d d' : Dk} {m : Int} {e : Nat} (hf : cutD d m = (e, d')) (hm : m ≤ 9223372036854775807) (w : World) (h : DkAt w a b d) :
    Calls Tryz.prog 23 #[.pointer (some ⟨a, 0, none⟩), .int .i64 m] w (Got a b e d' w) := by
  have := cut_any a b d m hm w h
  rw [hf] at this; exact this
theorem kat_new (w : World) (k : Int) (a : Nat) (ha : a < w.heap.size) : KAt (w.alloc (.cells #[.int .i64 k] 3)) a (some ⟨w.heap.size, 0, none⟩) [k] := fun j hj => by
  obtain rfl : j = 0 := by simpa using hj
  exact ⟨w.heap.size, 0, rfl, by simp, by omega, (bx_new w #[.int .i64 k] 3).cell 0⟩
theorem at_crash {a b : Nat} {d d' : Dk} {k : Int} (hf : crashD d [k] = d') (w : World) (h : DkAt w a b d) :
    Calls Tryz.prog 32 #[.pointer (some ⟨a, 0, none⟩), .slice (some ⟨w.heap.size, 0, none⟩) 1 1] (w.alloc (.cells #[.int .i64 k] 3)) (Got a b 0 d' (w.alloc (.cells #[.int .i64 k] 3))) := by
  have := crash_any a b d (some ⟨w.heap.size, 0, none⟩) 1 [k] (Nat.le_refl _) (by decide) _ (h.new _) (kat_new w k a h.lt.1)
  rw [hf] at this; exact this
theorem Tn.base {a b B : Nat} {u w w' : World} (h : Tn a b w w') (hb : Below B u w) (hB : B ≤ u.heap.size) (ha : B ≤ a ∧ B ≤ b) : Below B u w' := hb.trans (h.low (Nat.le_trans hB hb.size) ha.1 ha.2)
theorem fx0 : createD ⟨9, [], false, false, 0⟩ [97] = (0, ⟨9, [([97], ⟨[], 0⟩)], false, false, 0⟩) := by kernel_rfl
theorem fx1 : appendD ⟨9, [([97], ⟨[], 0⟩)], false, false, 0⟩ [97] [120] = (0, ⟨9, [([97], ⟨[120], 0⟩)], false, false, 0⟩) := by kernel_rfl
theorem fx2 : syncD ⟨9, [([97], ⟨[120], 0⟩)], false, false, 0⟩ [97] = (0, ⟨9, [([97], ⟨[120], 1⟩)], false, false, 0⟩) := by kernel_rfl
theorem fx3 : appendD ⟨9, [([97], ⟨[120], 1⟩)], false, false, 0⟩ [97] [121, 122] = (0, ⟨9, [([97], ⟨[120, 121, 122], 1⟩)], false, false, 0⟩) := by kernel_rfl
theorem fx4 : appendD ⟨9, [([97], ⟨[120, 121, 122], 1⟩)], false, false, 0⟩ [97] [49, 50, 51, 52, 53, 54, 55] = (44, ⟨9, [([97], ⟨[120, 121, 122], 1⟩)], false, false, 0⟩) := by kernel_rfl
theorem fx5 : decide (told (Dk.l ⟨9, [([97], ⟨[120, 121, 122], 1⟩)], false, false, 0⟩) = [⟨[97], [120], [121, 122]⟩]) = true := by kernel_rfl
theorem fx6 : crashD ⟨9, [([97], ⟨[120, 121, 122], 1⟩)], false, false, 0⟩ [0] = ⟨9, [([97], ⟨[120], 1⟩)], false, false, 0⟩ := by kernel_rfl
theorem fx7 : decide (told (Dk.l ⟨9, [([97], ⟨[120], 1⟩)], false, false, 0⟩) = [⟨[97], [120], []⟩]) = true := by kernel_rfl
theorem fx8 : crashD ⟨9, [([97], ⟨[120, 121, 122], 1⟩)], false, false, 0⟩ [1] = ⟨9, [([97], ⟨[120, 121], 2⟩)], false, false, 0⟩ := by kernel_rfl
theorem fx9 : decide (told (Dk.l ⟨9, [([97], ⟨[120, 121], 2⟩)], false, false, 0⟩) = [⟨[97], [120, 121], []⟩]) = true := by kernel_rfl
theorem fx10 : crashD ⟨9, [([97], ⟨[120, 121, 122], 1⟩)], false, false, 0⟩ [2] = ⟨9, [([97], ⟨[120, 121, 122], 3⟩)], false, false, 0⟩ := by kernel_rfl
theorem fx11 : decide (told (Dk.l ⟨9, [([97], ⟨[120, 121, 122], 3⟩)], false, false, 0⟩) = [⟨[97], [120, 121, 122], []⟩]) = true := by kernel_rfl
theorem fx12 : crashD ⟨9, [([97], ⟨[120, 121, 122], 1⟩)], false, false, 0⟩ [3] = ⟨9, [([97], ⟨[120], 1⟩)], false, false, 0⟩ := by kernel_rfl
theorem fx13 : decide (told (Dk.l ⟨9, [([97], ⟨[120], 1⟩)], false, false, 0⟩) = [⟨[97], [120], []⟩]) = true := by kernel_rfl
theorem fx14 : cutD ⟨9, [], false, false, 0⟩ 1 = (0, ⟨9, [], false, true, 1⟩) := by kernel_rfl
theorem fx15 : createD ⟨9, [], false, true, 1⟩ [97] = (0, ⟨9, [([97], ⟨[], 0⟩)], false, true, 0⟩) := by kernel_rfl
theorem fx16 : appendD ⟨9, [([97], ⟨[], 0⟩)], false, true, 0⟩ [97] [120] = (45, ⟨9, [([97], ⟨[120], 0⟩)], true, true, 0⟩) := by kernel_rfl
theorem fx17 : (fndF ⟨9, [([97], ⟨[120], 0⟩)], true, true, 0⟩ [97]).b = [] := by kernel_rfl
theorem fx18 : fndE ⟨9, [([97], ⟨[120], 0⟩)], true, true, 0⟩ [97] = 45 := by kernel_rfl
theorem fx19 : crashD ⟨9, [([97], ⟨[120], 0⟩)], true, true, 0⟩ [1] = ⟨9, [([97], ⟨[120], 1⟩)], false, false, 0⟩ := by kernel_rfl
theorem fx20 : decide (told (Dk.l ⟨9, [([97], ⟨[120], 1⟩)], false, false, 0⟩) = [⟨[97], [120], []⟩]) = true := by kernel_rfl
theorem fx21 : createD ⟨9, [([97], ⟨[120, 121, 122], 1⟩)], false, false, 0⟩ [98] = (0, ⟨9, [([97], ⟨[120, 121, 122], 1⟩), ([98], ⟨[], 0⟩)], false, false, 0⟩) := by kernel_rfl
theorem fx22 : renameD ⟨9, [([97], ⟨[120, 121, 122], 1⟩), ([98], ⟨[], 0⟩)], false, false, 0⟩ [97] [98] = (0, ⟨9, [([98], ⟨[120, 121, 122], 1⟩)], false, false, 0⟩) := by kernel_rfl
theorem fx23 : decide (told (Dk.l ⟨9, [([98], ⟨[120, 121, 122], 1⟩)], false, false, 0⟩) = [⟨[98], [120], [121, 122]⟩]) = true := by kernel_rfl
theorem fx24 : trimD ⟨9, [([98], ⟨[120, 121, 122], 1⟩)], false, false, 0⟩ [98] 0 = (0, ⟨9, [([98], ⟨[], 0⟩)], false, false, 0⟩) := by kernel_rfl
theorem fx25 : decide (told (Dk.l ⟨9, [([98], ⟨[], 0⟩)], false, false, 0⟩) = [⟨[98], [], []⟩]) = true := by kernel_rfl
theorem fx26 : createD ⟨9, [([98], ⟨[], 0⟩)], false, false, 0⟩ [97, 47, 98] = (4, ⟨9, [([98], ⟨[], 0⟩)], false, false, 0⟩) := by kernel_rfl

end Go.Proofs.YticfnfekkmkclaaGreatDoor.Disk
