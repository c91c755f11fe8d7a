import Derived.Test.YtddjoealckhepaaG
/-
  What is done to a disk: Sync, Delete, Trim, Rename.
-/
namespace Go.Proofs.Ytddjoealckhepaa.Disk
open Go Go.RowKit Go.Maps

theorem bx2_0 (w : World) (o o' : Array Value) (t t' : TypeId) : Bx ((w.alloc (.cells o t)).alloc (.cells o' t')) w.heap.size o := (bx_new w o t).new _
theorem bx2_1 (w : World) (o o' : Array Value) (t t' : TypeId) : Bx ((w.alloc (.cells o t)).alloc (.cells o' t')) (w.heap.size + 1) o' := by
  have := bx_new (w.alloc (.cells o t)) o' t'
  simpa using this
theorem bx3_0 (w : World) (o o' o2 : Array Value) (t t' t2 : TypeId) : Bx (((w.alloc (.cells o t)).alloc (.cells o' t')).alloc (.cells o2 t2)) w.heap.size o := (bx2_0 w o o' t t').new _
theorem bx3_1 (w : World) (o o' o2 : Array Value) (t t' t2 : TypeId) : Bx (((w.alloc (.cells o t)).alloc (.cells o' t')).alloc (.cells o2 t2)) (w.heap.size + 1) o' := (bx2_1 w o o' t t').new _
theorem bx3_2 (w : World) (o o' o2 : Array Value) (t t' t2 : TypeId) : Bx (((w.alloc (.cells o t)).alloc (.cells o' t')).alloc (.cells o2 t2)) (w.heap.size + 2) o2 := by
  have := bx_new ((w.alloc (.cells o t)).alloc (.cells o' t')) o2 t2
  simpa using this
theorem put_le {l : List (Nm × F)} {n : Nm} {f g : F} (h : Up l) (hg : get l n = some g) (hf : f.b.length ≤ g.b.length) : (put n f l).length = l.length ∧ used (put n f l) ≤ used l := by
  have h1 := put_len h n f
  have h2 := used_put h n f
  rw [hg] at h1 h2
  simp only [Option.isSome_some, if_true, Option.getD_some] at h1 h2
  exact ⟨h1, by omega⟩
theorem ok_less {d : Dk} (h : d.ok) {n : Nm} {f g : F} (hg : get d.l n = some g) (ho : f.ok) (hf : f.b.length ≤ g.b.length) : ({ d with left := d.left - 1, l := put n f d.l } : Dk).ok := by
  obtain ⟨h1, h2⟩ := put_le h.up hg hf
  exact h.step.put (h.nm _ (get_mem hg)) ho (by show (put n f d.l).length ≤ 64; rw [h1]; exact h.len) (Nat.le_trans h2 h.used)
theorem ok_named {d : Dk} (h : d.ok) {n m : Nm} {f : F} (hg : get d.l n = some f) (hm : mayN m = true) (hne : n ≠ m) : ({ d with left := d.left - 1, l := del n (put m f d.l) } : Dk).ok := by
  have hu := h.up.put m f
  have hg' : get (put m f d.l) n = some f := by rw [get_put h.up, if_neg hne]; exact hg
  have h1 := put_len h.up m f
  have h2 := used_put h.up m f
  have h3 := del_len_some hu hg'
  have h4 := tot_del hu (fun f => f.b.length) hg'
  have h5 := h.len
  have h6 := h.used
  exact { h.step with
    up := hu.del n
    fs := fun p hp => by
      rcases (mem_put ..).1 ((mem_del ..).1 hp).1 with rfl | ⟨h, _⟩
      · exact (‹Dk.ok d›).fs (n, f) (get_mem hg)
      · exact (‹Dk.ok d›).fs p h
    nm := fun p hp => by
      rcases (mem_put ..).1 ((mem_del ..).1 hp).1 with rfl | ⟨h, _⟩
      · exact hm
      · exact (‹Dk.ok d›).nm p h
    len := by
      show (del n (put m f d.l)).length ≤ 64
      split at h1 <;> omega
    used := by
      show used (del n (put m f d.l)) ≤ d.cap
      have : used (del n (put m f d.l)) + f.b.length = used (put m f d.l) := h4
      omega }

def syncD (d : Dk) (n : Nm) : Nat × Dk :=
  if d.gone then (45, d) else match get d.l n with
    | none => (5, d)
    | some f => (cntE d, cntD d (put n ⟨f.b, f.b.length⟩ d.l))

set_option maxRecDepth 100000 in
set_option maxHeartbeats 1000000 in
theorem sync_any (a b : Nat) (d : Dk) (n : Nm) (hn : n.length ≤ maxLen) (w : World) (h : DkAt w a b d) :
    Calls Try.prog 19 #[.pointer (some ⟨a, 0, none⟩), .string (S n)] w (Res a b (syncD d n) w) := by
  have hmx : Try.prog.follows .mixedOrders = true := by kernel_rfl
  have eg := enters_of Try.func51 (by kernel_rfl) rfl
  have HA := Lib.hid h.lt.1
  have HN := Lib.hid hn
  have HX : Hid (∀ W0, W0 = ((w.alloc (.cells #[.pointer (some ⟨a, 0, none⟩)] 25)).alloc (.cells #[.string (S n)] 9)) → DkAt W0 a b d ∧ Bx W0 (w.heap.size) #[.pointer (some ⟨a, 0, none⟩)] ∧ Bx W0 (w.heap.size + 1) #[.string (S n)] ∧ Tn a b w W0) := fun W0 e => by
    subst e
    exact ⟨((h.new _).new _), bx2_0 _ _ _ _ _, bx2_1 _ _ _ _ _, (((Tn.refl _ _ _).new _).new _)⟩
  clear h hn 
  go_enter Try.func19, Try.ntmps19
  go_wp2_with fail
  generalize hW : ((w.alloc (.cells #[.pointer (some ⟨a, 0, none⟩)] 25)).alloc (.cells #[.string (S n)] 9)) = W0
  obtain ⟨hd0, hb0, hb1, ht0⟩ := HX.out W0 hW.symm
  have HD := Lib.hid hd0
  have HB0 := Lib.hid hb0
  have HB1 := Lib.hid hb1
  have HT := Lib.hid ht0
  clear HX hW hd0 ht0 hb0 hb1
  refine (find_any a b d n HN.out W0 HD.out).mono ?_
  rintro z w2 ⟨rfl, hb⟩
  replace HD := Lib.hid (HD.out.below hb)
  replace HB0 := Lib.hid (HB0.out.below hb)
  replace HB1 := Lib.hid (HB1.out.below hb)
  replace HT := Lib.hid (HT.out.step hb)
  clear hb
  have e0 := HB0.out.cell 0
  have e1 := HB1.out.cell 0
  obtain ⟨c0, c1, c2, c3, c4⟩ := HD.out.cell
  simp only [List.getElem?_toArray, List.getElem?_cons_zero] at e0 e1
  cases hg : d.gone with
  | true =>
    have HR := Lib.hid (show syncD d n = (45, d) by simp [syncD, hg])
    rw [show fndF d n = ⟨[], 0⟩ by simp [fndF, hg, Disk.f0], show fndE d n = 45 by simp [fndE, hg]]
    unfold fV S
    clear hg 
    go_wp2_with fail
    go_ret
    exact res_stay HR.out (HD.out.new _) (HT.out.new _)
  | false =>
    cases hf : get d.l n with
    | none =>
      have HR := Lib.hid (show syncD d n = (5, d) by simp [syncD, hg, hf])
      rw [show fndF d n = ⟨[], 0⟩ by simp [fndF, hg, hf, Disk.f0], show fndE d n = 5 by simp [fndE, hg, hf]]
      unfold fV S
      clear hg hf
      go_wp2_with fail
      go_ret
      exact res_stay HR.out (HD.out.new _) (HT.out.new _)
    | some f =>
      have HF := Lib.hid hf
      have HG := Lib.hid hg
      have HFO := Lib.hid (HD.out.ok.fs _ (get_mem hf))
      rw [show fndF d n = f by simp [fndF, hg, hf], show fndE d n = 0 by simp [fndE, hg, hf]]
      obtain ⟨fb, fg⟩ := f
      unfold fV
      have g0 : ∀ o : Obj, (w2.alloc o).cell? ⟨w.heap.size, 0, none⟩ = some (.pointer (some ⟨a, 0, none⟩)) := fun o => (HB0.out.new o).cell 0
      have g1 : ∀ o : Obj, (w2.alloc o).cell? ⟨w.heap.size + 1, 0, none⟩ = some (.string (S n)) := fun o => (HB1.out.new o).cell 0
      clear hg hf
      have HD3 := Lib.hid (HD.out.new (.cells #[.string (S fb), .int .i64 (fg : Int)] 78))
      have HT3 := Lib.hid (HT.out.new (.cells #[.string (S fb), .int .i64 (fg : Int)] 78))
      have HBF := Lib.hid (bx_new w2 #[.string (S fb), .int .i64 (fg : Int)] 78)
      have HB30 := Lib.hid (HB0.out.new (.cells #[.string (S fb), .int .i64 (fg : Int)] 78))
      have HB31 := Lib.hid (HB1.out.new (.cells #[.string (S fb), .int .i64 (fg : Int)] 78))
      have HA2 := Lib.hid HD.out.lt.1
      have HO := Lib.hid (show ({ d with left := d.left - 1, l := put n ⟨fb, fb.length⟩ d.l } : Dk).ok from ok_less HD.out.ok HF.out ⟨Nat.le_refl _, HFO.out.2⟩ (Nat.le_refl _))
      have HR := Lib.hid (show syncD d n = (cntE d, cntD d (put n ⟨fb, fb.length⟩ d.l)) by simp [syncD, HG.out, HF.out])
      have HC := Lib.hid (count_any a b 51 #[.pointer (some ⟨w2.heap.size, 0, none⟩), .pointer (some ⟨w.heap.size, 0, none⟩), .pointer (some ⟨w.heap.size + 1, 0, none⟩)] d (put n ⟨fb, fb.length⟩ d.l) _ HD3.out eg (fun W hW ht =>
        sync1_any a b _ _ _ { d with left := d.left - 1 } n HN.out fb fg HFO.out W hW (HBF.out.tn HD3.out (by have := HA2.out; omega) ht) (HB30.out.tn HD3.out (by have := HA.out; omega) ht) (HB31.out.tn HD3.out (by have := HA.out; omega) ht) (by have := HA2.out; omega) (by have := HA.out; omega) (by have := HA.out; omega) HO.out))
      clear eg
      go_wp2_with fail
      refine HC.out.mono ?_
      rintro z w4 ⟨rfl, h5, h6⟩
      have H5 := Lib.hid h5
      have H6 := Lib.hid h6
      clear h5 h6
      go_wp2_with fail
      go_ret
      rw [HR.out]
      exact ⟨rfl, H5.out, HT3.out.trans H6.out⟩

def deleteD (d : Dk) (n : Nm) : Nat × Dk :=
  if d.gone then (45, d) else match get d.l n with
    | none => (5, d)
    | some _ => (cntE d, cntD d (del n d.l))

set_option maxRecDepth 100000 in
set_option maxHeartbeats 1000000 in
theorem delete_any (a b : Nat) (d : Dk) (n : Nm) (hn : n.length ≤ maxLen) (w : World) (h : DkAt w a b d) :
    Calls Try.prog 22 #[.pointer (some ⟨a, 0, none⟩), .string (S n)] w (Res a b (deleteD d n) w) := by
  have hmx : Try.prog.follows .mixedOrders = true := by kernel_rfl
  have eg := enters_of Try.func55 (by kernel_rfl) rfl
  have HA := Lib.hid h.lt.1
  have HN := Lib.hid hn
  have HX : Hid (∀ W0, W0 = ((w.alloc (.cells #[.pointer (some ⟨a, 0, none⟩)] 25)).alloc (.cells #[.string (S n)] 9)) → DkAt W0 a b d ∧ Bx W0 (w.heap.size) #[.pointer (some ⟨a, 0, none⟩)] ∧ Bx W0 (w.heap.size + 1) #[.string (S n)] ∧ Tn a b w W0) := fun W0 e => by
    subst e
    exact ⟨((h.new _).new _), bx2_0 _ _ _ _ _, bx2_1 _ _ _ _ _, (((Tn.refl _ _ _).new _).new _)⟩
  clear h hn 
  go_enter Try.func22, Try.ntmps22
  go_wp2_with fail
  generalize hW : ((w.alloc (.cells #[.pointer (some ⟨a, 0, none⟩)] 25)).alloc (.cells #[.string (S n)] 9)) = W0
  obtain ⟨hd0, hb0, hb1, ht0⟩ := HX.out W0 hW.symm
  have HD := Lib.hid hd0
  have HB0 := Lib.hid hb0
  have HB1 := Lib.hid hb1
  have HT := Lib.hid ht0
  clear HX hW hd0 ht0 hb0 hb1
  refine (find_any a b d n HN.out W0 HD.out).mono ?_
  rintro z w2 ⟨rfl, hb⟩
  replace HD := Lib.hid (HD.out.below hb)
  replace HB0 := Lib.hid (HB0.out.below hb)
  replace HB1 := Lib.hid (HB1.out.below hb)
  replace HT := Lib.hid (HT.out.step hb)
  clear hb
  have e0 := HB0.out.cell 0
  have e1 := HB1.out.cell 0
  obtain ⟨c0, c1, c2, c3, c4⟩ := HD.out.cell
  simp only [List.getElem?_toArray, List.getElem?_cons_zero] at e0 e1
  cases hg : d.gone with
  | true =>
    have HR := Lib.hid (show deleteD d n = (45, d) by simp [deleteD, hg])
    rw [show fndF d n = ⟨[], 0⟩ by simp [fndF, hg, Disk.f0], show fndE d n = 45 by simp [fndE, hg]]
    unfold fV S
    clear hg 
    go_wp2_with fail
    go_ret
    exact res_stay HR.out (HD.out.new _) (HT.out.new _)
  | false =>
    cases hf : get d.l n with
    | none =>
      have HR := Lib.hid (show deleteD d n = (5, d) by simp [deleteD, hg, hf])
      rw [show fndF d n = ⟨[], 0⟩ by simp [fndF, hg, hf, Disk.f0], show fndE d n = 5 by simp [fndE, hg, hf]]
      unfold fV S
      clear hg hf
      go_wp2_with fail
      go_ret
      exact res_stay HR.out (HD.out.new _) (HT.out.new _)
    | some f =>
      have HF := Lib.hid hf
      have HG := Lib.hid hg
      have HFO := Lib.hid (HD.out.ok.fs _ (get_mem hf))
      rw [show fndF d n = f by simp [fndF, hg, hf], show fndE d n = 0 by simp [fndE, hg, hf]]
      obtain ⟨fb, fg⟩ := f
      unfold fV
      have g0 : ∀ o : Obj, (w2.alloc o).cell? ⟨w.heap.size, 0, none⟩ = some (.pointer (some ⟨a, 0, none⟩)) := fun o => (HB0.out.new o).cell 0
      have g1 : ∀ o : Obj, (w2.alloc o).cell? ⟨w.heap.size + 1, 0, none⟩ = some (.string (S n)) := fun o => (HB1.out.new o).cell 0
      clear hg hf
      have HD3 := Lib.hid (HD.out.new (.cells #[.string (S fb), .int .i64 (fg : Int)] 78))
      have HT3 := Lib.hid (HT.out.new (.cells #[.string (S fb), .int .i64 (fg : Int)] 78))
      have HBF := Lib.hid (bx_new w2 #[.string (S fb), .int .i64 (fg : Int)] 78)
      have HB30 := Lib.hid (HB0.out.new (.cells #[.string (S fb), .int .i64 (fg : Int)] 78))
      have HB31 := Lib.hid (HB1.out.new (.cells #[.string (S fb), .int .i64 (fg : Int)] 78))
      have HA2 := Lib.hid HD.out.lt.1
      have HO := Lib.hid (show ({ d with left := d.left - 1, l := del n d.l } : Dk).ok from HD.out.ok.step.del n)
      have HR := Lib.hid (show deleteD d n = (cntE d, cntD d (del n d.l)) by simp [deleteD, HG.out, HF.out])
      have HC := Lib.hid (count_any a b 55 #[.pointer (some ⟨w.heap.size, 0, none⟩), .pointer (some ⟨w.heap.size + 1, 0, none⟩)] d (del n d.l) _ HD3.out eg (fun W hW ht =>
        delete1_any a b _ _ { d with left := d.left - 1 } n HN.out W hW (HB30.out.tn HD3.out (by have := HA.out; omega) ht) (HB31.out.tn HD3.out (by have := HA.out; omega) ht) HO.out))
      clear eg
      go_wp2_with fail
      refine HC.out.mono ?_
      rintro z w4 ⟨rfl, h5, h6⟩
      have H5 := Lib.hid h5
      have H6 := Lib.hid h6
      clear h5 h6
      go_wp2_with fail
      go_ret
      rw [HR.out]
      exact ⟨rfl, H5.out, HT3.out.trans H6.out⟩

def trimD (d : Dk) (n : Nm) (m : Int) : Nat × Dk :=
  if d.gone then (45, d) else match get d.l n with
    | none => (5, d)
    | some f => if m < 0 ∨ (f.b.length : Int) < m then (1, d) else (cntE d, cntD d (put n ⟨f.b.take m.toNat, m.toNat⟩ d.l))

set_option maxRecDepth 100000 in
set_option maxHeartbeats 1000000 in
theorem trim_any (a b : Nat) (d : Dk) (n : Nm) (hn : n.length ≤ maxLen) (m : Int) (w : World) (h : DkAt w a b d) :
    Calls Try.prog 20 #[.pointer (some ⟨a, 0, none⟩), .string (S n), .int .i64 m] w (Res a b (trimD d n m) w) := by
  have hmx : Try.prog.follows .mixedOrders = true := by kernel_rfl
  have eg := enters_of Try.func53 (by kernel_rfl) rfl
  have HA := Lib.hid h.lt.1
  have HN := Lib.hid hn
  have HX : Hid (∀ W0, W0 = (((w.alloc (.cells #[.pointer (some ⟨a, 0, none⟩)] 25)).alloc (.cells #[.string (S n)] 9)).alloc (.cells #[.int .i64 m] 3)) → DkAt W0 a b d ∧ Bx W0 (w.heap.size) #[.pointer (some ⟨a, 0, none⟩)] ∧ Bx W0 (w.heap.size + 1) #[.string (S n)] ∧ Bx W0 (w.heap.size + 2) #[.int .i64 m] ∧ Tn a b w W0) := fun W0 e => by
    subst e
    exact ⟨(((h.new _).new _).new _), bx3_0 _ _ _ _ _ _ _, bx3_1 _ _ _ _ _ _ _, bx3_2 _ _ _ _ _ _ _, ((((Tn.refl _ _ _).new _).new _).new _)⟩
  clear h hn 
  go_enter Try.func20, Try.ntmps20
  go_wp2_with fail
  generalize hW : (((w.alloc (.cells #[.pointer (some ⟨a, 0, none⟩)] 25)).alloc (.cells #[.string (S n)] 9)).alloc (.cells #[.int .i64 m] 3)) = W0
  obtain ⟨hd0, hb0, hb1, hb2, ht0⟩ := HX.out W0 hW.symm
  have HD := Lib.hid hd0
  have HB0 := Lib.hid hb0
  have HB1 := Lib.hid hb1
  have HB2 := Lib.hid hb2
  have HT := Lib.hid ht0
  clear HX hW hd0 ht0 hb0 hb1 hb2
  refine (find_any a b d n HN.out W0 HD.out).mono ?_
  rintro z w2 ⟨rfl, hb⟩
  replace HD := Lib.hid (HD.out.below hb)
  replace HB0 := Lib.hid (HB0.out.below hb)
  replace HB1 := Lib.hid (HB1.out.below hb)
  replace HB2 := Lib.hid (HB2.out.below hb)
  replace HT := Lib.hid (HT.out.step hb)
  clear hb
  have e0 := HB0.out.cell 0
  have e1 := HB1.out.cell 0
  have e2 := HB2.out.cell 0
  obtain ⟨c0, c1, c2, c3, c4⟩ := HD.out.cell
  simp only [List.getElem?_toArray, List.getElem?_cons_zero] at e0 e1 e2
  cases hg : d.gone with
  | true =>
    have HR := Lib.hid (show trimD d n m = (45, d) by simp [trimD, hg])
    rw [show fndF d n = ⟨[], 0⟩ by simp [fndF, hg, Disk.f0], show fndE d n = 45 by simp [fndE, hg]]
    unfold fV S
    clear hg 
    go_wp2_with fail
    go_ret
    exact res_stay HR.out (HD.out.new _) (HT.out.new _)
  | false =>
    cases hf : get d.l n with
    | none =>
      have HR := Lib.hid (show trimD d n m = (5, d) by simp [trimD, hg, hf])
      rw [show fndF d n = ⟨[], 0⟩ by simp [fndF, hg, hf, Disk.f0], show fndE d n = 5 by simp [fndE, hg, hf]]
      unfold fV S
      clear hg hf
      go_wp2_with fail
      go_ret
      exact res_stay HR.out (HD.out.new _) (HT.out.new _)
    | some f =>
      have HF := Lib.hid hf
      have HG := Lib.hid hg
      have HFO := Lib.hid (HD.out.ok.fs _ (get_mem hf))
      rw [show fndF d n = f by simp [fndF, hg, hf], show fndE d n = 0 by simp [fndE, hg, hf]]
      obtain ⟨fb, fg⟩ := f
      unfold fV
      have g0 : ∀ o : Obj, (w2.alloc o).cell? ⟨w.heap.size, 0, none⟩ = some (.pointer (some ⟨a, 0, none⟩)) := fun o => (HB0.out.new o).cell 0
      have g1 : ∀ o : Obj, (w2.alloc o).cell? ⟨w.heap.size + 1, 0, none⟩ = some (.string (S n)) := fun o => (HB1.out.new o).cell 0
      have g2 : ∀ o : Obj, (w2.alloc o).cell? ⟨w.heap.size + 2, 0, none⟩ = some (.int .i64 m) := fun o => (HB2.out.new o).cell 0
      clear hg hf
      by_cases hlo : m < 0
      · have HR := Lib.hid (show trimD d n m = (1, d) by simp [trimD, HG.out, HF.out, hlo])
        have z : decide (m < 0) = true := decide_eq_true hlo
        go_wp2_with fail
        go_ret
        exact res_stay HR.out (HD.out.new _) (HT.out.new _)
      · by_cases hhi : (fb.length : Int) < m
        · have HR := Lib.hid (show trimD d n m = (1, d) by simp [trimD, HG.out, HF.out, hhi])
          have z : decide (m < 0) = false := decide_eq_false hlo
          have z2 : ((S fb).size : Int) < m := hhi
          have z3 : ¬ m < 0 := hlo
          clear hlo hhi
          go_wp2_with fail
          go_ret
          exact res_stay HR.out (HD.out.new _) (HT.out.new _)
        · obtain ⟨k, rfl⟩ : ∃ k : Nat, m = (k : Int) := ⟨m.toNat, by omega⟩
          have HK := Lib.hid (show k ≤ (⟨fb, fg⟩ : F).b.length by simp only; omega)
          have z3 : ¬ (k : Int) < 0 := hlo
          have z2 : ¬ ((S fb).size : Int) < (k : Int) := hhi
          have HS1 := Lib.hid (show ¬ (k : Int) < 0 by omega)
          have HS2 := Lib.hid (show ¬ fb.length < k by omega)
          clear hlo hhi
          have HD3 := Lib.hid (HD.out.new (.cells #[.string (S fb), .int .i64 (fg : Int)] 78))
          have HT3 := Lib.hid (HT.out.new (.cells #[.string (S fb), .int .i64 (fg : Int)] 78))
          have HBF := Lib.hid (bx_new w2 #[.string (S fb), .int .i64 (fg : Int)] 78)
          have HB30 := Lib.hid (HB0.out.new (.cells #[.string (S fb), .int .i64 (fg : Int)] 78))
          have HB31 := Lib.hid (HB1.out.new (.cells #[.string (S fb), .int .i64 (fg : Int)] 78))
          have HB32 := Lib.hid (HB2.out.new (.cells #[.string (S fb), .int .i64 (fg : Int)] 78))
          have HA2 := Lib.hid HD.out.lt.1
          have HO := Lib.hid (show ({ d with left := d.left - 1, l := put n ⟨fb.take k, k⟩ d.l } : Dk).ok from ok_less HD.out.ok HF.out (HFO.out.upTo HK.out) (by simp only [List.length_take]; omega))
          have HR := Lib.hid (show trimD d n k = (cntE d, cntD d (put n ⟨fb.take k, k⟩ d.l)) by simp [trimD, HG.out, HF.out, HS1.out, HS2.out])
          have HC := Lib.hid (count_any a b 53 #[.pointer (some ⟨w2.heap.size, 0, none⟩), .pointer (some ⟨w.heap.size + 2, 0, none⟩), .pointer (some ⟨w.heap.size, 0, none⟩), .pointer (some ⟨w.heap.size + 1, 0, none⟩)] d (put n ⟨fb.take k, k⟩ d.l) _ HD3.out eg (fun W hW ht =>
            trim1_any a b _ _ _ _ { d with left := d.left - 1 } n HN.out fb fg k HFO.out HK.out W hW (HBF.out.tn HD3.out (by have := HA2.out; omega) ht) (HB32.out.tn HD3.out (by have := HA.out; omega) ht) (HB30.out.tn HD3.out (by have := HA.out; omega) ht) (HB31.out.tn HD3.out (by have := HA.out; omega) ht) (by have := HA2.out; omega) (by have := HA.out; omega) (by have := HA.out; omega) (by have := HA.out; omega) HO.out))
          clear eg
          go_wp2_with fail
          refine HC.out.mono ?_
          rintro z w4 ⟨rfl, h5, h6⟩
          have H5 := Lib.hid h5
          have H6 := Lib.hid h6
          clear h5 h6
          go_wp2_with fail
          go_ret
          rw [HR.out]
          exact ⟨rfl, H5.out, HT3.out.trans H6.out⟩

def renameD (d : Dk) (n m : Nm) : Nat × Dk :=
  if d.gone then (45, d) else match get d.l n with
    | none => (5, d)
    | some f => if mayN m = false then (4, d) else if n = m then (1, d) else (cntE d, cntD d (del n (put m f d.l)))

set_option maxRecDepth 100000 in
set_option maxHeartbeats 1000000 in
theorem rename_any (a b : Nat) (d : Dk) (n m : Nm) (hn : n.length ≤ maxLen) (hm : m.length ≤ maxLen) (w : World) (h : DkAt w a b d) :
    Calls Try.prog 21 #[.pointer (some ⟨a, 0, none⟩), .string (S n), .string (S m)] w (Res a b (renameD d n m) w) := by
  have hmx : Try.prog.follows .mixedOrders = true := by kernel_rfl
  have eg := enters_of Try.func54 (by kernel_rfl) rfl
  have HA := Lib.hid h.lt.1
  have HN := Lib.hid hn
  have HM := Lib.hid hm
  have HX : Hid (∀ W0, W0 = (((w.alloc (.cells #[.pointer (some ⟨a, 0, none⟩)] 25)).alloc (.cells #[.string (S n)] 9)).alloc (.cells #[.string (S m)] 9)) → DkAt W0 a b d ∧ Bx W0 (w.heap.size) #[.pointer (some ⟨a, 0, none⟩)] ∧ Bx W0 (w.heap.size + 1) #[.string (S n)] ∧ Bx W0 (w.heap.size + 2) #[.string (S m)] ∧ Tn a b w W0) := fun W0 e => by
    subst e
    exact ⟨(((h.new _).new _).new _), bx3_0 _ _ _ _ _ _ _, bx3_1 _ _ _ _ _ _ _, bx3_2 _ _ _ _ _ _ _, ((((Tn.refl _ _ _).new _).new _).new _)⟩
  clear h hn hm
  go_enter Try.func21, Try.ntmps21
  go_wp2_with fail
  generalize hW : (((w.alloc (.cells #[.pointer (some ⟨a, 0, none⟩)] 25)).alloc (.cells #[.string (S n)] 9)).alloc (.cells #[.string (S m)] 9)) = W0
  obtain ⟨hd0, hb0, hb1, hb2, ht0⟩ := HX.out W0 hW.symm
  have HD := Lib.hid hd0
  have HB0 := Lib.hid hb0
  have HB1 := Lib.hid hb1
  have HB2 := Lib.hid hb2
  have HT := Lib.hid ht0
  clear HX hW hd0 ht0 hb0 hb1 hb2
  refine (find_any a b d n HN.out W0 HD.out).mono ?_
  rintro z w2 ⟨rfl, hb⟩
  replace HD := Lib.hid (HD.out.below hb)
  replace HB0 := Lib.hid (HB0.out.below hb)
  replace HB1 := Lib.hid (HB1.out.below hb)
  replace HB2 := Lib.hid (HB2.out.below hb)
  replace HT := Lib.hid (HT.out.step hb)
  clear hb
  have e0 := HB0.out.cell 0
  have e1 := HB1.out.cell 0
  have e2 := HB2.out.cell 0
  obtain ⟨c0, c1, c2, c3, c4⟩ := HD.out.cell
  simp only [List.getElem?_toArray, List.getElem?_cons_zero] at e0 e1 e2
  cases hg : d.gone with
  | true =>
    have HR := Lib.hid (show renameD d n m = (45, d) by simp [renameD, hg])
    rw [show fndF d n = ⟨[], 0⟩ by simp [fndF, hg, Disk.f0], show fndE d n = 45 by simp [fndE, hg]]
    unfold fV S
    clear hg 
    go_wp2_with fail
    go_ret
    exact res_stay HR.out (HD.out.new _) (HT.out.new _)
  | false =>
    cases hf : get d.l n with
    | none =>
      have HR := Lib.hid (show renameD d n m = (5, d) by simp [renameD, hg, hf])
      rw [show fndF d n = ⟨[], 0⟩ by simp [fndF, hg, hf, Disk.f0], show fndE d n = 5 by simp [fndE, hg, hf]]
      unfold fV S
      clear hg hf
      go_wp2_with fail
      go_ret
      exact res_stay HR.out (HD.out.new _) (HT.out.new _)
    | some f =>
      have HF := Lib.hid hf
      have HG := Lib.hid hg
      have HFO := Lib.hid (HD.out.ok.fs _ (get_mem hf))
      rw [show fndF d n = f by simp [fndF, hg, hf], show fndE d n = 0 by simp [fndE, hg, hf]]
      obtain ⟨fb, fg⟩ := f
      unfold fV
      have g0 : ∀ o : Obj, (w2.alloc o).cell? ⟨w.heap.size, 0, none⟩ = some (.pointer (some ⟨a, 0, none⟩)) := fun o => (HB0.out.new o).cell 0
      have g1 : ∀ o : Obj, (w2.alloc o).cell? ⟨w.heap.size + 1, 0, none⟩ = some (.string (S n)) := fun o => (HB1.out.new o).cell 0
      have g2 : ∀ o : Obj, (w2.alloc o).cell? ⟨w.heap.size + 2, 0, none⟩ = some (.string (S m)) := fun o => (HB2.out.new o).cell 0
      clear hg hf
      go_wp2_with fail
      refine (mayN_any m HM.out _).mono ?_
      rintro z w3 ⟨rfl, hb⟩
      have HD3 := Lib.hid ((HD.out.new _).below hb)
      have HT3 := Lib.hid ((HT.out.new _).step hb)
      have HBF := Lib.hid ((bx_new w2 #[.string (S fb), .int .i64 (fg : Int)] 78).below hb)
      have HB30 := Lib.hid ((HB0.out.new _).below hb)
      have HB31 := Lib.hid ((HB1.out.new _).below hb)
      have HB32 := Lib.hid ((HB2.out.new _).below hb)
      have HA2 := Lib.hid HD.out.lt.1
      clear e0 e1 e2 c0 c1 c2 c3 c4 g0 g1 g2 hb
      have e0 := HB30.out.cell 0
      have e1 := HB31.out.cell 0
      have e2 := HB32.out.cell 0
      simp only [List.getElem?_toArray, List.getElem?_cons_zero] at e0 e1 e2
      cases hm : mayN m with
      | false =>
        have HR := Lib.hid (show renameD d n m = (4, d) by simp [renameD, HG.out, HF.out, hm])
        clear hm
        go_wp2_with fail
        go_ret
        exact res_stay HR.out HD3.out HT3.out
      | true =>
        by_cases hnm : n = m
        · have HR := Lib.hid (show renameD d n m = (1, d) by unfold renameD; rw [HG.out, HF.out]; simp [hm, hnm])
          have z : ((S n).toList == (S m).toList) = true := by rw [hnm]; simp
          have z2 : (S n).toList = (S m).toList := by rw [hnm]
          clear hm hnm
          go_wp2_with fail
          go_ret
          exact res_stay HR.out HD3.out HT3.out
        · have HMM := Lib.hid hm
          have HNE := Lib.hid hnm
          have z2 : ¬ (S n).toList = (S m).toList := by rw [S_list, S_list]; exact hnm
          have z : ((S n).toList == (S m).toList) = false := by simpa using z2
          clear hm hnm
          have HO := Lib.hid (show ({ d with left := d.left - 1, l := del n (put m ⟨fb, fg⟩ d.l) } : Dk).ok from ok_named HD.out.ok HF.out HMM.out HNE.out)
          have HR := Lib.hid (show renameD d n m = (cntE d, cntD d (del n (put m ⟨fb, fg⟩ d.l))) by simp [renameD, HG.out, HF.out, HMM.out, HNE.out])
          have HC := Lib.hid (count_any a b 54 #[.pointer (some ⟨w2.heap.size, 0, none⟩), .pointer (some ⟨w.heap.size, 0, none⟩), .pointer (some ⟨w.heap.size + 2, 0, none⟩), .pointer (some ⟨w.heap.size + 1, 0, none⟩)] d (del n (put m ⟨fb, fg⟩ d.l)) _ HD3.out eg (fun W hW ht =>
            rename1_any a b _ _ _ _ { d with left := d.left - 1 } n m HN.out HM.out fb fg HFO.out W hW (HBF.out.tn HD3.out (by have := HA2.out; omega) ht) (HB30.out.tn HD3.out (by have := HA.out; omega) ht) (HB32.out.tn HD3.out (by have := HA.out; omega) ht) (HB31.out.tn HD3.out (by have := HA.out; omega) ht) (by have := HA.out; omega) (by have := HA.out; omega) HO.out))
          clear eg
          go_wp2_with fail
          refine HC.out.mono ?_
          rintro z w4 ⟨rfl, h5, h6⟩
          have H5 := Lib.hid h5
          have H6 := Lib.hid h6
          clear h5 h6
          go_wp2_with fail
          go_ret
          rw [HR.out]
          exact ⟨rfl, H5.out, HT3.out.trans H6.out⟩
end Go.Proofs.Ytddjoealckhepaa.Disk
