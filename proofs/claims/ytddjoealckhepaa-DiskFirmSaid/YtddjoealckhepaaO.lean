import Derived.Test.YtddjoealckhepaaM
/-
  A disk with files that are handed in: Load; New.
-/
namespace Go.Proofs.Ytddjoealckhepaa.Disk
open Go Go.RowKit Go.Maps Go.Shelf Go.Proofs

def fileOf (x : Fi) : Nm × F := (x.n, ⟨x.d ++ x.p, x.d.length⟩)
def fileL (l : List Fi) : List (Nm × F) := l.map fileOf
theorem fiOk_of {l : List Fi} (h : mayFi l = true) (i : Nat) (hi : i < l.length) : (0 < i → bytesBefore (l.getD (i - 1) ⟨[], [], []⟩).n l[i].n = true) ∧ mayN l[i].n = true ∧ l[i].d.length + l[i].p.length ≤ 1048576 := by
  unfold mayFi at h
  rw [Bool.and_eq_true, List.all_eq_true] at h
  have := h.2 i (List.mem_range.2 hi)
  simp only [fiOk, Bool.and_eq_true, Bool.or_eq_true, decide_eq_true_eq, getD_at l i hi] at this
  exact ⟨fun h0 => this.1.1.resolve_left (by omega), this.1.2, this.2⟩
theorem mayFi_len {l : List Fi} (h : mayFi l = true) : l.length ≤ 64 := by
  unfold mayFi at h
  rw [Bool.and_eq_true, decide_eq_true_eq] at h
  exact h.1
theorem rise {l : List Fi} (h : mayFi l = true) (i j : Nat) (hij : i < j) (hj : j < l.length) : bytesBefore l[i].n l[j].n = true := by
  induction j with
  | zero => omega
  | succ j ih =>
    have hs := (fiOk_of h (j + 1) hj).1 (by omega)
    rw [Nat.add_sub_cancel, getD_at l j (by omega)] at hs
    by_cases e : i = j
    · subst e; exact hs
    · exact WideShapes.bytes_trans _ _ _ (ih (by omega) (by omega)) hs
theorem fileL_up {l : List Fi} (h : mayFi l = true) : Up (fileL l) := by
  refine List.pairwise_map.2 (List.pairwise_iff_getElem.2 fun i j hi hj hij => rise h i j hij hj)
theorem up_take {α : Type} {l : List (Nm × α)} (h : Up l) (k : Nat) : Up (l.take k) := h.sublist (List.take_sublist k l)
theorem put_last {α : Type} {m : List (Nm × α)} {n : Nm} {f : α} (h : Up (m ++ [(n, f)])) : put n f m = m ++ [(n, f)] := by
  obtain ⟨h1, _, h3⟩ := List.pairwise_append.1 h
  refine up_ext (Up.put h1 n f) h fun x => ?_
  rw [mem_put, List.mem_append, List.mem_singleton]
  constructor
  · rintro (h | ⟨h, _⟩)
    · exact Or.inr h
    · exact Or.inl h
  · rintro (hm | h)
    · exact Or.inr ⟨hm, before_ne (h3 x hm _ (List.mem_singleton.2 rfl))⟩
    · exact Or.inl h
theorem fileL_take (l : List Fi) (k : Nat) (hk : k < l.length) : fileL (l.take (k + 1)) = fileL (l.take k) ++ [fileOf l[k]] := by
  unfold fileL; rw [List.take_add_one, List.getElem?_eq_getElem hk, List.map_append]; rfl
theorem fileL_put {l : List Fi} (h : mayFi l = true) (k : Nat) (hk : k < l.length) : put l[k].n ⟨l[k].d ++ l[k].p, l[k].d.length⟩ (fileL (l.take k)) = fileL (l.take (k + 1)) := by
  rw [fileL_take l k hk]
  refine put_last (n := l[k].n) (f := (⟨l[k].d ++ l[k].p, l[k].d.length⟩ : F)) ?_
  have := up_take (fileL_up h) (k + 1)
  rwa [show (fileL l).take (k + 1) = fileL (l.take (k + 1)) by unfold fileL; rw [List.map_take], fileL_take l k hk] at this
theorem ok_of_may {l : List Fi} (h : mayFi l = true) : ∀ p ∈ fileL l, p.2.ok := fun p hp => by
  obtain ⟨x, hx, rfl⟩ := List.mem_map.1 hp
  obtain ⟨i, hi, rfl⟩ := List.getElem_of_mem hx
  have := (fiOk_of h i hi).2.2
  exact ⟨by simp only [fileOf, List.length_append]; omega, by simp only [fileOf, List.length_append]; omega⟩
theorem fileL_ok {l : List Fi} (h : mayFi l = true) {cap : Nat} (hc : cap ≤ 9223372036854775807) (hu : used (fileL l) ≤ cap) : (Dk.mk cap (fileL l) false false 0).ok where
  up := fileL_up h
  fs := ok_of_may h
  nm := fun p hp => by
    obtain ⟨x, hx, rfl⟩ := List.mem_map.1 hp
    obtain ⟨i, hi, rfl⟩ := List.getElem_of_mem hx
    exact (fiOk_of h i hi).2.1
  len := by unfold fileL; rw [List.length_map]; exact mayFi_len h
  used := hu
  cap := hc
  left := Nat.zero_le _
  cut := fun _ => rfl
theorem used_le {l : List (Nm × F)} (h : ∀ p ∈ l, p.2.ok) : used l ≤ l.length * 1048576 := by
  induction l with
  | nil => simp [used, tot]
  | cons p r ih =>
    have h1 := ih fun q hq => h q (List.mem_cons_of_mem _ hq)
    have h2 := (h p (List.mem_cons_self ..)).2
    have : used (p :: r) = p.2.b.length + used r := by simp [used, tot]
    rw [this, List.length_cons, Nat.add_mul]; omega
def loadE (c : Int) (l : List Fi) : Nat := if c < 0 then 1 else if mayFi l = false then 4 else if c < (used (fileL l) : Int) then 44 else 0
def LoadRes (c : Int) (l : List Fi) (w : World) (z : Ending) (w' : World) : Prop :=
  (loadE c l ≠ 0 → z = .returned (.tuple #[.pointer none, .int .i64 (loadE c l : Int)])) ∧
  (loadE c l = 0 → ∃ a b, z = .returned (.tuple #[.pointer (some ⟨a, 0, none⟩), .int .i64 0]) ∧ DkAt w' a b ⟨c.toNat, fileL l, false, false, 0⟩ ∧ w.heap.size ≤ a ∧ w.heap.size ≤ b) ∧ Below w.heap.size w w'
theorem load_bad {c : Int} {l : List Fi} {e : Nat} (he : loadE c l = e) (h0 : e ≠ 0) {w w' : World} (h : Below w.heap.size w w') : LoadRes c l w (.returned (.tuple #[.pointer none, .int .i64 (e : Int)])) w' :=
  ⟨fun _ => by rw [he], fun h => absurd (he.symm.trans h) h0, h⟩

set_option maxRecDepth 100000 in
set_option maxHeartbeats 2000000 in
theorem load_any (c : Int) (hc : c ≤ 9223372036854775807) (A : Option Addr) (cap : Nat) (l : List Fi) (hl : l.length ≤ 1000000000) (hsh : Short l) (w : World) (h : RowF w A l) :
    Calls Try.prog 38 #[.int .i64 c, .slice A l.length cap] w (LoadRes c l w) := by
  have hmx : Try.prog.follows .mixedOrders = true := by kernel_rfl
  have HM := Lib.hid (mayBe_any A cap l hl hsh w h)
  have HR := Lib.hid h
  clear h hsh hl
  by_cases hlo : c < 0
  · have HE := Lib.hid (show loadE c l = 1 by simp [loadE, hlo])
    have z : decide (c < 0) = true := decide_eq_true hlo
    go_enter Try.func38, Try.ntmps38
    go_wp2_with fail
    go_ret2
    exact load_bad HE.out (by decide) (Below.refl _ _)
  · have z : decide (c < 0) = false := decide_eq_false hlo
    cases hm : mayFi l with
    | false =>
      have HE := Lib.hid (show loadE c l = 4 by simp [loadE, hlo, hm])
      rw [hm] at HM
      clear hm
      go_enter Try.func38, Try.ntmps38
      go_wp2_with fail
      refine HM.out.mono ?_
      rintro z w1 ⟨rfl, h1⟩
      have H1 := Lib.hid h1
      clear h1
      go_wp2_with fail
      go_ret2
      exact load_bad HE.out (by decide) H1.out
    | true =>
      rw [hm] at HM
      have HY := Lib.hid hm
      have HC := Lib.hid hc
      have HLO := Lib.hid hlo
      clear hm hc
      go_enter Try.func38, Try.ntmps38
      go_wp2_with fail
      refine HM.out.mono ?_
      rintro z w1 ⟨rfl, h1⟩
      have H1 := Lib.hid h1
      clear h1
      have hmm := @run_makeMap Try.prog
      go_wp2_with fail
      have hm0 : ((w1.alloc (.map #[] 0)).alloc (.cells #[.int .i64 c, .map (some w1.heap.size), .bool false, .bool false, .int .i64 0] 87)).ownsMap Try.prog 9 fileR w1.heap.size 0 (toD fD (fileL (l.take 0))) := (World.ownsMap_made w1 Try.prog 9 fileR).alloc _
      have hb0 : ((w1.alloc (.map #[] 0)).alloc (.cells #[.int .i64 c, .map (some w1.heap.size), .bool false, .bool false, .int .i64 0] 87)).heap[w1.heap.size + 1]? = some (.cells #[.int .i64 c, .map (some w1.heap.size), .bool false, .bool false, .int .i64 0] 87 (0, 0)) := by
        have := bx_own (w1.alloc (.map #[] 0)) #[.int .i64 c, .map (some w1.heap.size), .bool false, .bool false, .int .i64 0] 87
        simpa using this
      have h2 := below2 w1 (.map #[] 0) (.cells #[.int .i64 c, .map (some w1.heap.size), .bool false, .bool false, .int .i64 0] 87)
      have hsz : ((w1.alloc (.map #[] 0)).alloc (.cells #[.int .i64 c, .map (some w1.heap.size), .bool false, .bool false, .int .i64 0] 87)).heap.size = w1.heap.size + 2 := by simp
      generalize (w1.alloc (.map #[] 0)).alloc (.cells #[.int .i64 c, .map (some w1.heap.size), .bool false, .bool false, .int .i64 0] 87) = w2 at hm0 hb0 h2 hsz ⊢
      have HM0 := Lib.hid hm0
      have HB0 := Lib.hid hb0
      have H2 := Lib.hid h2
      have HZ := Lib.hid hsz
      clear hm0 hb0 h2 hsz hmm HM
      go_loopw [20] (fun i wr => ∃ k : Nat, k ≤ l.length ∧ i = .int .i64 (k : Int) ∧ wr.ownsMap Try.prog 9 fileR w1.heap.size k (toD fD (fileL (l.take k))) ∧ wr.heap[w1.heap.size + 1]? = some (.cells #[.int .i64 c, .map (some w1.heap.size), .bool false, .bool false, .int .i64 0] 87 (0, 0)) ∧ Below w1.heap.size w1 wr ∧ w1.heap.size + 2 ≤ wr.heap.size) (fun i _ => l.length - (intOf i).toNat)
      case atStart => exact ⟨0, Nat.zero_le _, rfl, HM0.out, HB0.out, H2.out, by rw [HZ.out]; exact Nat.le_refl _⟩
      case round =>
        obtain ⟨k, hk, rfl, hO, hX, hB, hz⟩ := hrel
        have HO := Lib.hid hO
        have HX := Lib.hid hX
        have HB := Lib.hid hB
        have HW := Lib.hid hz
        clear hO hX hB hz HM0 HB0
        by_cases hlt : k < l.length
        · obtain ⟨nb, no, rfl, hb1, c0, c1, c2⟩ := ((HR.out.below H1.out).below HB.out) k hlt
          have hmay := fiOk_of HY.out k hlt
          have HP := Lib.hid (fileL_put HY.out k hlt)
          have HL := Lib.hid (mayFi_len HY.out)
          have z0 : (0 : Int) ≤ (k : Int) := by omega
          have z1 : (k : Int) < (l.length : Int) := by omega
          have zk : IntKind.i64.wrap ((k : Int) + 1) = (k : Int) + 1 := by rw [IntKind.wrap_i64]; have := HL.out; omega
          generalize l[k] = x at c0 c1 c2 hmay HP
          obtain ⟨xn, xd, xp⟩ := x
          simp only at c0 c1 c2 hmay HP
          have hadd : ∀ w : World, (Op.stringOp .add (S xd) (S xp)).run Try.prog w = .ok (.string (S (xd ++ xp))) w := fun w => by
            have z3 := S_size xd
            have z4 := S_size xp
            rw [← S_app]
            have : ((S xd).size : Int) + ((S xp).size : Int) ≤ 9223372036854775807 := by omega
            simp [Op.stringOp, this, go_sem]
          have HF := Lib.hid (show (⟨xd ++ xp, xd.length⟩ : F).ok from ⟨by simp, by simp only [List.length_append]; omega⟩)
          have HK := Lib.hid (tkey xn (by have := hmay.2.1; simp only [mayN, Bool.and_eq_true, decide_eq_true_eq] at this; unfold maxLen; omega))
          have HLT := Lib.hid hlt
          clear hb1 hmay
          go_wp2_with fail
          have f0 : (wr.alloc (.cells #[.string (S xn), .string (S xd), .string (S xp)] 59)).cell? ⟨wr.heap.size, 0, none⟩ = some (.string (S xn)) := (bx_new wr _ _).cell 0
          have f1 : (wr.alloc (.cells #[.string (S xn), .string (S xd), .string (S xp)] 59)).cell? ⟨wr.heap.size, 1, none⟩ = some (.string (S xd)) := (bx_new wr _ _).cell 1
          have f2 : (wr.alloc (.cells #[.string (S xn), .string (S xd), .string (S xp)] 59)).cell? ⟨wr.heap.size, 2, none⟩ = some (.string (S xp)) := (bx_new wr _ _).cell 2
          have hO := HO.out.alloc (.cells #[.string (S xn), .string (S xd), .string (S xp)] 59)
          have hX := (Below.heap_alloc wr (.cells #[.string (S xn), .string (S xd), .string (S xp)] 59) _ (row_lt HX.out)).trans HX.out
          have hB := HB.out.alloc HB.out.size (.cells #[.string (S xn), .string (S xd), .string (S xp)] 59)
          have hW : w1.heap.size + 2 ≤ (wr.alloc (.cells #[.string (S xn), .string (S xd), .string (S xp)] 59)).heap.size := by have := HW.out; simp; omega
          have f3 : (wr.alloc (.cells #[.string (S xn), .string (S xd), .string (S xp)] 59)).cell? ⟨w1.heap.size + 1, 1, none⟩ = some (.map (some w1.heap.size)) := cell_row hX 1
          generalize wr.alloc (.cells #[.string (S xn), .string (S xd), .string (S xp)] 59) = W at f0 f1 f2 f3 hO hX hB hW ⊢
          go_still_tail 15, (by kernel_rfl)
          change wpList _ _ _ _ _ (W.drewN 1)
          have HO1 := Lib.hid (show (W.drewN 1).ownsMap Try.prog 9 fileR w1.heap.size k (toD fD (fileL (l.take k))) from owns_block hO rfl)
          have HX1 := Lib.hid (show (W.drewN 1).heap[w1.heap.size + 1]? = _ from hX)
          have HB1 := Lib.hid (hB.trans (below_dn _ W 1))
          have HW1 := Lib.hid (show w1.heap.size + 2 ≤ (W.drewN 1).heap.size from hW)
          clear hO hX hB hW f0 f1 f2 f3 c0 c1 c2 hadd
          generalize W.drewN 1 = W1 at *
          go_wp2_with (at_mapUpdate; refine wpList_mapUpdate_in _ rfl _ _ _ 83 rfl 9 78 tkeyed tmap fileR w1.heap.size k (toD fD (fileL (l.take k))) rfl HO1.out (by have := HL.out; unfold maxLen; omega) _ _ (.string xn) rfl rfl HK.out (fD ⟨xd ++ xp, xd.length⟩) [] (fileR_mk HF.out) ?_; intro w3 hown hturn)
          have HG := Lib.hid hturn.grown
          rw [toD_put, HP.out] at hown
          have HOW := Lib.hid hown
          clear hown hturn
          go_wp2_with fail
          go_roundw
          case rel => exact ⟨k + 1, by have := HLT.out; omega, by go_num, HOW.out, (HG.out.block _ (by have := HW1.out; omega) (fun e => by injection e with e; omega)).trans HX1.out, HB1.out.grown HG.out HB1.out.size (fun j hj => by injection hj with hj; omega), Nat.le_trans HW1.out HG.out.size⟩
          case measure => have := HLT.out; simp [intOf] <;> omega
        · obtain rfl : k = l.length := by omega
          have z1 : ¬ ((l.length : Nat) : Int) < (l.length : Int) := by omega
          obtain ⟨cn, rfl⟩ : ∃ n : Nat, c = (n : Int) := ⟨c.toNat, by have := HLO.out; omega⟩
          rw [List.take_length] at HO
          have hfs := ok_of_may HY.out
          have hul := used_le hfs
          have hlen : (fileL l).length = l.length := by unfold fileL; rw [List.length_map]
          have hll := mayFi_len HY.out
          have hO2 : wr.ownsMap Try.prog 9 fileR w1.heap.size (fileL l).length (toD fD (fileL l)) := by rw [hlen]; exact HO.out
          have HO2 := Lib.hid hO2
          have HU := Lib.hid (used_raw (w1.heap.size + 1) w1.heap.size ⟨cn, fileL l, false, false, 0⟩ wr HX.out hO2 (fileL_up HY.out) (by simp only; omega))
          clear hfs hul hlen hll hO2
          go_wp2_with fail
          refine HU.out.mono ?_
          rintro z w3 ⟨rfl, h3⟩
          have H3 := Lib.hid h3
          clear h3 HU
          by_cases hfull : cn < used (fileL l)
          · have HE := Lib.hid (show loadE (cn : Int) l = 44 by unfold loadE; rw [if_neg (by omega), HY.out]; simp [hfull])
            have z4 : (cn : Int) < (used (fileL l) : Int) := by omega
            have z5 : decide ((cn : Int) < (used (fileL l) : Int)) = true := decide_eq_true z4
            clear hfull
            go_wp2_with fail
            go_ret2
            exact load_bad HE.out (by decide) ((H1.out.trans (HB.out.mono H1.out.size)).trans (H3.out.mono (Nat.le_trans H1.out.size HB.out.size)))
          · have HE := Lib.hid (show loadE (cn : Int) l = 0 by unfold loadE; rw [if_neg (by omega), HY.out]; simp; omega)
            have z4 : ¬ (cn : Int) < (used (fileL l) : Int) := by omega
            have z5 : decide ((cn : Int) < (used (fileL l) : Int)) = false := decide_eq_false z4
            have HUS := Lib.hid (show used (fileL l) ≤ cn by omega)
            clear hfull
            go_wp2_with fail
            go_ret2
            refine ⟨fun h => absurd HE.out h, fun _ => ⟨w1.heap.size + 1, w1.heap.size, rfl, ?_, by have := H1.out.size; omega, H1.out.size⟩, (H1.out.trans (HB.out.mono H1.out.size)).trans (H3.out.mono (Nat.le_trans H1.out.size HB.out.size))⟩
            rw [Int.toNat_natCast]
            refine DkAt.below ⟨HX.out, HO2.out, fileL_ok HY.out (by have := HC.out; omega) HUS.out⟩ H3.out
theorem new_any (c : Int) (hc : c ≤ 9223372036854775807) (w : World) :
    Calls Try.prog 31 #[.int .i64 c] w (LoadRes c [] w) := by
  have HL := Lib.hid (load_any c hc none 0 [] (Nat.zero_le _) (fun x hx => by cases hx) w (fun i hi => absurd hi (Nat.not_lt_zero _)))
  go_enter Try.func31, Try.ntmps31
  go_wp2_with fail
  refine HL.out.mono ?_
  rintro z w1 ⟨h1, h2, h3⟩
  have H1 := Lib.hid h1
  have H2 := Lib.hid h2
  have H3 := Lib.hid h3
  clear h1 h2 h3
  by_cases h0 : loadE c [] = 0
  · obtain ⟨a, b, rfl, h5, h6, h7⟩ := H2.out h0
    have H5 := Lib.hid h5
    have HE := Lib.hid h0
    clear h5 h0
    go_wp2_with fail
    go_ret2
    exact ⟨fun h => absurd HE.out h, fun _ => ⟨a, b, rfl, H5.out, h6, h7⟩, H3.out⟩
  · obtain rfl := H1.out h0
    have HE := Lib.hid h0
    clear h0
    go_wp2_with fail
    go_ret2
    exact ⟨fun _ => rfl, fun h => absurd h HE.out, H3.out⟩
end Go.Proofs.Ytddjoealckhepaa.Disk
