import Derived.Test.YticfnfekkmkclaaGreatDoorE
import Derived.BigRegion
import Derived.Test.YticfnfekkmkclaaGreatDoorCS
/-
  What is done to a disk: Create, Sync, Delete.
-/
namespace Go.Proofs.YticfnfekkmkclaaGreatDoor.Disk
open Go Go.RowKit Go.Maps

theorem Dk.ok.put {d : Dk} (h : d.ok) {n : Nm} (hn : mayN n = true) {f : F} (hf : f.ok) (hl : (Disk.put n f d.l).length ≤ 64) (hu : Disk.used (Disk.put n f d.l) ≤ d.cap) : ({ d with l := Disk.put n f d.l } : Dk).ok :=
  { h with
    up := h.up.put n f
    fs := fun p hp => by rcases (mem_put ..).1 hp with rfl | ⟨h1, _⟩; exact hf; exact h.fs p h1
    nm := fun p hp => by rcases (mem_put ..).1 hp with rfl | ⟨h1, _⟩; exact hn; exact h.nm p h1
    len := hl
    used := hu }
theorem Dk.ok.del {d : Dk} (h : d.ok) (n : Nm) : ({ d with l := Disk.del n d.l } : Dk).ok :=
  { h with
    up := h.up.del n
    fs := fun p hp => h.fs p ((mem_del ..).1 hp).1
    nm := fun p hp => h.nm p ((mem_del ..).1 hp).1
    len := Nat.le_trans (del_len _ _) h.len
    used := by
      refine Nat.le_trans ?_ h.used
      cases hg : get d.l n with
      | none => exact Nat.le_of_eq (tot_del_none _ hg)
      | some f => exact Nat.le_trans (Nat.le_add_right _ _) (Nat.le_of_eq (tot_del h.up (fun f => f.b.length) hg)) }
theorem Dk.ok.step {d : Dk} (h : d.ok) : ({ d with left := d.left - 1 } : Dk).ok := { h with left := Nat.le_trans (Nat.sub_le _ _) h.left, cut := fun hc => by rw [show d.left = 0 from h.cut hc] }
theorem used_put {l : List (Nm × F)} (h : Up l) (n : Nm) (f : F) : used (put n f l) + ((get l n).getD f0).b.length = used l + f.b.length := by
  have := tot_put h (fun f => f.b.length) n f
  unfold used
  cases hg : get l n with
  | none => rw [hg] at this; simpa [f0] using this
  | some v => rw [hg] at this; simpa using this

def Res (a b : Nat) (r : Nat × Dk) (w : World) (z : Ending) (w' : World) : Prop := z = .returned (.int .i64 (r.1 : Int)) ∧ DkAt w' a b r.2 ∧ Tn a b w w'
def createD (d : Dk) (n : Nm) : Nat × Dk :=
  if d.gone then (45, d) else if mayN n = false then (4, d) else if (get d.l n).isSome then (6, d) else if 64 ≤ d.l.length then (44, d) else (cntE d, cntD d (put n f0 d.l))
theorem res_stay {a b : Nat} {d : Dk} {w w' : World} {k : Nat} {r : Nat × Dk} (hr : r = (k, d)) (h : DkAt w' a b d) (ht : Tn a b w w') : Res a b r w (.returned (.int .i64 (k : Int))) w' := by
  subst hr; exact ⟨rfl, h, ht⟩

set_option maxRecDepth 100000 in
set_option maxHeartbeats 1000000 in
theorem create_any (a b : Nat) (d : Dk) (n : Nm) (hn : n.length ≤ maxLen) (w : World) (h : DkAt w a b d) :
    Calls Tryz.prog 56 #[.pointer (some ⟨a, 0, none⟩), .string (S n)] w (Res a b (createD d n) w) := by
  have hmx : Tryz.prog.follows .mixedOrders = true := by kernel_rfl
  have eg := enters_of Tryz.func100 (by kernel_rfl) rfl
  have HA := Lib.hid h.lt.1
  have HN := Lib.hid hn
  have HX : Hid (∀ W0, W0 = (w.alloc (.cells #[.pointer (some ⟨a, 0, none⟩)] 40)).alloc (.cells #[.string (S n)] 9) → DkAt W0 a b d ∧ Bx W0 w.heap.size #[.pointer (some ⟨a, 0, none⟩)] ∧ Bx W0 (w.heap.size + 1) #[.string (S n)] ∧ Tn a b w W0) := fun W0 e => by
    subst e
    refine ⟨(h.new _).new _, (bx_new _ _ _).new _, ?_, ((Tn.refl _ _ _).new _).new _⟩
    have := bx_new (w.alloc (.cells #[.pointer (some ⟨a, 0, none⟩)] 40)) #[.string (S n)] 9
    simpa using this
  clear h hn
  go_enter Tryz.func56, Tryz.ntmps56
  go_wp2_with fail
  generalize hW : (w.alloc (.cells #[.pointer (some ⟨a, 0, none⟩)] 40)).alloc (.cells #[.string (S n)] 9) = W0
  obtain ⟨h1, h2, h3, h4⟩ := HX.out W0 hW.symm
  have HD := Lib.hid h1
  have HB0 := Lib.hid h2
  have HB1 := Lib.hid h3
  have HT := Lib.hid h4
  clear HX hW h1 h2 h3 h4
  refine (refusal_any a b d W0 HD.out).mono ?_
  rintro z w1 ⟨rfl, rfl⟩
  have e0 := HB0.out.cell 0
  have e1 := HB1.out.cell 0
  obtain ⟨c0, c1, c2, c3, c4⟩ := HD.out.cell
  simp only [List.getElem?_toArray, List.getElem?_cons_zero] at e0 e1
  cases hg : d.gone with
  | true =>
    rw [show refus d = 45 by simp [refus, hg]]
    have HR := Lib.hid (show createD d n = (45, d) by simp [createD, hg])
    clear hg c0 c1 c2 c3 c4
    go_wp2_with fail
    go_ret
    exact res_stay HR.out HD.out HT.out
  | false =>
    rw [show refus d = 0 by simp [refus, hg]]
    have HG := Lib.hid hg
    clear hg
    go_wp2_with fail
    refine (mayN_any n HN.out w1).mono ?_
    rintro z w2 ⟨rfl, hb⟩
    replace HD := Lib.hid (HD.out.below hb)
    replace HB0 := Lib.hid (HB0.out.below hb)
    replace HB1 := Lib.hid (HB1.out.below hb)
    replace HT := Lib.hid (HT.out.step hb)
    clear e0 e1 c0 c1 c2 c3 c4 hb
    have e0 := HB0.out.cell 0
    have e1 := HB1.out.cell 0
    obtain ⟨c0, c1, c2, c3, c4⟩ := HD.out.cell
    simp only [List.getElem?_toArray, List.getElem?_cons_zero] at e0 e1
    cases hm : mayN n with
    | false =>
      have HR := Lib.hid (show createD d n = (4, d) by simp [createD, HG.out, hm])
      clear hm
      go_wp2_with fail
      go_ret
      exact res_stay HR.out HD.out HT.out
    | true =>
      have HM := Lib.hid hm
      have f0 : ∀ o, (w2.alloc o).cell? ⟨w.heap.size, 0, none⟩ = some (.pointer (some ⟨a, 0, none⟩)) := fun o => (HB0.out.new o).cell 0
      have f1 : ∀ o, (w2.alloc o).cell? ⟨w.heap.size + 1, 0, none⟩ = some (.string (S n)) := fun o => (HB1.out.new o).cell 0
      have g1 : ∀ o, (w2.alloc o).cell? ⟨a, 1, none⟩ = some (.map (some b)) := fun o => (HD.out.new o).cell.2.1
      have hl1 := (look_run (HD.out.same (w' := w2.drew) rfl rfl).mp n HN.out).1
      have hl2 : ∀ o, _ := fun o => (look_run ((HD.out.new o).same (w' := (w2.alloc o).drew) rfl rfl).mp n HN.out).1
      cases hf : get d.l n with
      | some f =>
        have HR := Lib.hid (show createD d n = (6, d) by simp [createD, HG.out, hm, hf])
        obtain ⟨fb, fg⟩ := f
        rw [hf] at hl1 hl2
        simp only [Option.getD_some, Option.isSome_some, fV] at hl1 hl2
        clear hm hf
        go_wp2_with fail
        go_region
        all_goals
          go_wp2_with fail
          go_ret
          exact res_stay HR.out ((HD.out.new _).same rfl rfl) ((HT.out.new _).dn 1)
      | none =>
        rw [hf] at hl1 hl2
        simp only [Option.getD_none, Option.isSome_none, fV, Disk.f0, S] at hl1 hl2
        replace hl1 : (Instr.lookup 113 (.map (some b)) (.string (S n)) true).run Tryz.prog w2.drew = .ok (.tuple #[.agg #[.string ⟨#[]⟩, .int .i64 0], .bool false]) w2.drew := hl1
        replace hl2 : ∀ o, (Instr.lookup 113 (.map (some b)) (.string (S n)) true).run Tryz.prog (w2.alloc o).drew = .ok (.tuple #[.agg #[.string ⟨#[]⟩, .int .i64 0], .bool false]) (w2.alloc o).drew := hl2
        have HF := Lib.hid hf
        clear hm hf
        go_wp2_with fail
        go_region
        all_goals
          clear hl1 hl2 f0 f1 g1 e0 e1 c0 c1 c2 c3 c4
          generalize hW : (w2.alloc (.cells #[.string ⟨#[]⟩, .int .i64 0] 119)).drew = W3
          have HD3 := Lib.hid (show DkAt W3 a b d by rw [← hW]; exact (HD.out.new _).same rfl rfl)
          have HT3 := Lib.hid (show Tn a b w W3 by rw [← hW]; exact (HT.out.new _).dn 1)
          have HB03 := Lib.hid (show Bx W3 w.heap.size #[.pointer (some ⟨a, 0, none⟩)] by rw [← hW]; exact HB0.out.new _)
          have HB13 := Lib.hid (show Bx W3 (w.heap.size + 1) #[.string (S n)] by rw [← hW]; exact HB1.out.new _)
          clear hW
          have e0 := HB03.out.cell 0
          have e1 := HB13.out.cell 0
          obtain ⟨c0, c1, c2, c3, c4⟩ := HD3.out.cell
          simp only [List.getElem?_toArray, List.getElem?_cons_zero] at e0 e1
          have hln := fun ty => len_run HD3.out.mp ty
          by_cases h64 : 64 ≤ d.l.length
          · have HR := Lib.hid (show createD d n = (44, d) by simp [createD, HG.out, HM.out, HF.out, h64])
            have z : (64 : Int) ≤ (d.l.length : Int) := by omega
            clear h64
            go_wp2_with fail
            go_ret
            exact res_stay HR.out HD3.out HT3.out
          · have HR := Lib.hid (show createD d n = (cntE d, cntD d (put n Disk.f0 d.l)) by simp [createD, HG.out, HM.out, HF.out, h64])
            have z : ¬ (64 : Int) ≤ (d.l.length : Int) := by omega
            have HO := Lib.hid (show ({ d with left := d.left - 1, l := put n Disk.f0 d.l } : Dk).ok from by
              refine (HD3.out.ok.step).put HM.out f0_ok ?_ ?_
              · have := put_len HD3.out.ok.up n Disk.f0
                rw [HF.out] at this
                simp only [Option.isSome_none, Bool.false_eq_true, if_false] at this
                show (put n Disk.f0 d.l).length ≤ 64
                omega
              · have := used_put HD3.out.ok.up n Disk.f0
                rw [HF.out] at this
                have h2 := HD3.out.ok.used
                show used (put n Disk.f0 d.l) ≤ d.cap
                simp [Disk.f0] at this
                simp only [Disk.f0]
                omega)
            have HC := Lib.hid (count_any a b 100 #[.pointer (some ⟨w.heap.size, 0, none⟩), .pointer (some ⟨w.heap.size + 1, 0, none⟩)] d (put n Disk.f0 d.l) W3 HD3.out eg (fun W hW ht =>
              create1_any a b _ _ { d with left := d.left - 1 } n HN.out W hW (HB03.out.tn HD3.out (by have := HA.out; omega) ht) (HB13.out.tn HD3.out (by have := HA.out; omega) ht) HO.out))
            clear h64 eg
            go_wp2_with fail
            refine HC.out.mono ?_
            rintro z w4 ⟨rfl, h5, h6⟩
            have H5 := Lib.hid h5
            have H6 := Lib.hid h6
            clear h5 h6
            go_wp2_with fail
            go_ret
            rw [HR.out]
            exact ⟨rfl, H5.out, HT3.out.trans H6.out⟩
end Go.Proofs.YticfnfekkmkclaaGreatDoor.Disk

/-
  What is done to a disk: Sync, Delete, Trim, Rename.
-/
namespace Go.Proofs.YticfnfekkmkclaaGreatDoor.Disk
open Go Go.RowKit Go.Maps

theorem bx2_0 (w : World) (o o' : Array Value) (t t' : TypeId) : Bx ((w.alloc (.cells o t)).alloc (.cells o' t')) w.heap.size o := (bx_new w o t).new _
theorem bx2_1 (w : World) (o o' : Array Value) (t t' : TypeId) : Bx ((w.alloc (.cells o t)).alloc (.cells o' t')) (w.heap.size + 1) o' := by
  have := bx_new (w.alloc (.cells o t)) o' t'
  simpa using this
theorem bx3_0 (w : World) (o o' o2 : Array Value) (t t' t2 : TypeId) : Bx (((w.alloc (.cells o t)).alloc (.cells o' t')).alloc (.cells o2 t2)) w.heap.size o := (bx2_0 w o o' t t').new _
theorem bx3_1 (w : World) (o o' o2 : Array Value) (t t' t2 : TypeId) : Bx (((w.alloc (.cells o t)).alloc (.cells o' t')).alloc (.cells o2 t2)) (w.heap.size + 1) o' := (bx2_1 w o o' t t').new _
theorem bx3_2 (w : World) (o o' o2 : Array Value) (t t' t2 : TypeId) : Bx (((w.alloc (.cells o t)).alloc (.cells o' t')).alloc (.cells o2 t2)) (w.heap.size + 2) o2 := by
  have := bx_new ((w.alloc (.cells o t)).alloc (.cells o' t')) o2 t2
  simpa using this
theorem put_le {l : List (Nm × F)} {n : Nm} {f g : F} (h : Up l) (hg : get l n = some g) (hf : f.b.length ≤ g.b.length) : (put n f l).length = l.length ∧ used (put n f l) ≤ used l := by
  have h1 := put_len h n f
  have h2 := used_put h n f
  rw [hg] at h1 h2
  simp only [Option.isSome_some, if_true, Option.getD_some] at h1 h2
  exact ⟨h1, by omega⟩
theorem ok_less {d : Dk} (h : d.ok) {n : Nm} {f g : F} (hg : get d.l n = some g) (ho : f.ok) (hf : f.b.length ≤ g.b.length) : ({ d with left := d.left - 1, l := put n f d.l } : Dk).ok := by
  obtain ⟨h1, h2⟩ := put_le h.up hg hf
  exact h.step.put (h.nm _ (get_mem hg)) ho (by show (put n f d.l).length ≤ 64; rw [h1]; exact h.len) (Nat.le_trans h2 h.used)
theorem ok_named {d : Dk} (h : d.ok) {n m : Nm} {f : F} (hg : get d.l n = some f) (hm : mayN m = true) (hne : n ≠ m) : ({ d with left := d.left - 1, l := del n (put m f d.l) } : Dk).ok := by
  have hu := h.up.put m f
  have hg' : get (put m f d.l) n = some f := by rw [get_put h.up, if_neg hne]; exact hg
  have h1 := put_len h.up m f
  have h2 := used_put h.up m f
  have h3 := del_len_some hu hg'
  have h4 := tot_del hu (fun f => f.b.length) hg'
  have h5 := h.len
  have h6 := h.used
  exact { h.step with
    up := hu.del n
    fs := fun p hp => by
      rcases (mem_put ..).1 ((mem_del ..).1 hp).1 with rfl | ⟨h, _⟩
      · exact (‹Dk.ok d›).fs (n, f) (get_mem hg)
      · exact (‹Dk.ok d›).fs p h
    nm := fun p hp => by
      rcases (mem_put ..).1 ((mem_del ..).1 hp).1 with rfl | ⟨h, _⟩
      · exact hm
      · exact (‹Dk.ok d›).nm p h
    len := by
      show (del n (put m f d.l)).length ≤ 64
      split at h1 <;> omega
    used := by
      show used (del n (put m f d.l)) ≤ d.cap
      have : used (del n (put m f d.l)) + f.b.length = used (put m f d.l) := h4
      omega }

def syncD (d : Dk) (n : Nm) : Nat × Dk :=
  if d.gone then (45, d) else match get d.l n with
    | none => (5, d)
    | some f => (cntE d, cntD d (put n ⟨f.b, f.b.length⟩ d.l))

set_option maxRecDepth 100000 in
set_option maxHeartbeats 1000000 in
theorem sync_any (a b : Nat) (d : Dk) (n : Nm) (hn : n.length ≤ maxLen) (w : World) (h : DkAt w a b d) :
    Calls Tryz.prog 60 #[.pointer (some ⟨a, 0, none⟩), .string (S n)] w (Res a b (syncD d n) w) := by
  have hmx : Tryz.prog.follows .mixedOrders = true := by kernel_rfl
  have eg := enters_of Tryz.func102 (by kernel_rfl) rfl
  have HA := Lib.hid h.lt.1
  have HN := Lib.hid hn
  have HX : Hid (∀ W0, W0 = ((w.alloc (.cells #[.pointer (some ⟨a, 0, none⟩)] 40)).alloc (.cells #[.string (S n)] 9)) → DkAt W0 a b d ∧ Bx W0 (w.heap.size) #[.pointer (some ⟨a, 0, none⟩)] ∧ Bx W0 (w.heap.size + 1) #[.string (S n)] ∧ Tn a b w W0) := fun W0 e => by
    subst e
    exact ⟨((h.new _).new _), bx2_0 _ _ _ _ _, bx2_1 _ _ _ _ _, (((Tn.refl _ _ _).new _).new _)⟩
  clear h hn 
  go_enter Tryz.func60, Tryz.ntmps60
  go_wp2_with fail
  generalize hW : ((w.alloc (.cells #[.pointer (some ⟨a, 0, none⟩)] 40)).alloc (.cells #[.string (S n)] 9)) = W0
  obtain ⟨hd0, hb0, hb1, ht0⟩ := HX.out W0 hW.symm
  have HD := Lib.hid hd0
  have HB0 := Lib.hid hb0
  have HB1 := Lib.hid hb1
  have HT := Lib.hid ht0
  clear HX hW hd0 ht0 hb0 hb1
  refine (find_any a b d n HN.out W0 HD.out).mono ?_
  rintro z w2 ⟨rfl, hb⟩
  replace HD := Lib.hid (HD.out.below hb)
  replace HB0 := Lib.hid (HB0.out.below hb)
  replace HB1 := Lib.hid (HB1.out.below hb)
  replace HT := Lib.hid (HT.out.step hb)
  clear hb
  have e0 := HB0.out.cell 0
  have e1 := HB1.out.cell 0
  obtain ⟨c0, c1, c2, c3, c4⟩ := HD.out.cell
  simp only [List.getElem?_toArray, List.getElem?_cons_zero] at e0 e1
  cases hg : d.gone with
  | true =>
    have HR := Lib.hid (show syncD d n = (45, d) by simp [syncD, hg])
    rw [show fndF d n = ⟨[], 0⟩ by simp [fndF, hg, Disk.f0], show fndE d n = 45 by simp [fndE, hg]]
    unfold fV S
    clear hg 
    go_wp2_with fail
    go_ret
    exact res_stay HR.out (HD.out.new _) (HT.out.new _)
  | false =>
    cases hf : get d.l n with
    | none =>
      have HR := Lib.hid (show syncD d n = (5, d) by simp [syncD, hg, hf])
      rw [show fndF d n = ⟨[], 0⟩ by simp [fndF, hg, hf, Disk.f0], show fndE d n = 5 by simp [fndE, hg, hf]]
      unfold fV S
      clear hg hf
      go_wp2_with fail
      go_ret
      exact res_stay HR.out (HD.out.new _) (HT.out.new _)
    | some f =>
      have HF := Lib.hid hf
      have HG := Lib.hid hg
      have HFO := Lib.hid (HD.out.ok.fs _ (get_mem hf))
      rw [show fndF d n = f by simp [fndF, hg, hf], show fndE d n = 0 by simp [fndE, hg, hf]]
      obtain ⟨fb, fg⟩ := f
      unfold fV
      have g0 : ∀ o : Obj, (w2.alloc o).cell? ⟨w.heap.size, 0, none⟩ = some (.pointer (some ⟨a, 0, none⟩)) := fun o => (HB0.out.new o).cell 0
      have g1 : ∀ o : Obj, (w2.alloc o).cell? ⟨w.heap.size + 1, 0, none⟩ = some (.string (S n)) := fun o => (HB1.out.new o).cell 0
      clear hg hf
      have HD3 := Lib.hid (HD.out.new (.cells #[.string (S fb), .int .i64 (fg : Int)] 119))
      have HT3 := Lib.hid (HT.out.new (.cells #[.string (S fb), .int .i64 (fg : Int)] 119))
      have HBF := Lib.hid (bx_new w2 #[.string (S fb), .int .i64 (fg : Int)] 119)
      have HB30 := Lib.hid (HB0.out.new (.cells #[.string (S fb), .int .i64 (fg : Int)] 119))
      have HB31 := Lib.hid (HB1.out.new (.cells #[.string (S fb), .int .i64 (fg : Int)] 119))
      have HA2 := Lib.hid HD.out.lt.1
      have HO := Lib.hid (show ({ d with left := d.left - 1, l := put n ⟨fb, fb.length⟩ d.l } : Dk).ok from ok_less HD.out.ok HF.out ⟨Nat.le_refl _, HFO.out.2⟩ (Nat.le_refl _))
      have HR := Lib.hid (show syncD d n = (cntE d, cntD d (put n ⟨fb, fb.length⟩ d.l)) by simp [syncD, HG.out, HF.out])
      have HC := Lib.hid (count_any a b 102 #[.pointer (some ⟨w2.heap.size, 0, none⟩), .pointer (some ⟨w.heap.size, 0, none⟩), .pointer (some ⟨w.heap.size + 1, 0, none⟩)] d (put n ⟨fb, fb.length⟩ d.l) _ HD3.out eg (fun W hW ht =>
        sync1_any a b _ _ _ { d with left := d.left - 1 } n HN.out fb fg HFO.out W hW (HBF.out.tn HD3.out (by have := HA2.out; omega) ht) (HB30.out.tn HD3.out (by have := HA.out; omega) ht) (HB31.out.tn HD3.out (by have := HA.out; omega) ht) (by have := HA2.out; omega) (by have := HA.out; omega) (by have := HA.out; omega) HO.out))
      clear eg
      go_wp2_with fail
      refine HC.out.mono ?_
      rintro z w4 ⟨rfl, h5, h6⟩
      have H5 := Lib.hid h5
      have H6 := Lib.hid h6
      clear h5 h6
      go_wp2_with fail
      go_ret
      rw [HR.out]
      exact ⟨rfl, H5.out, HT3.out.trans H6.out⟩

def deleteD (d : Dk) (n : Nm) : Nat × Dk :=
  if d.gone then (45, d) else match get d.l n with
    | none => (5, d)
    | some _ => (cntE d, cntD d (del n d.l))

set_option maxRecDepth 100000 in
set_option maxHeartbeats 1000000 in
theorem delete_any (a b : Nat) (d : Dk) (n : Nm) (hn : n.length ≤ maxLen) (w : World) (h : DkAt w a b d) :
    Calls Tryz.prog 38 #[.pointer (some ⟨a, 0, none⟩), .string (S n)] w (Res a b (deleteD d n) w) := by
  have hmx : Tryz.prog.follows .mixedOrders = true := by kernel_rfl
  have eg := enters_of Tryz.func87 (by kernel_rfl) rfl
  have HA := Lib.hid h.lt.1
  have HN := Lib.hid hn
  have HX : Hid (∀ W0, W0 = ((w.alloc (.cells #[.pointer (some ⟨a, 0, none⟩)] 40)).alloc (.cells #[.string (S n)] 9)) → DkAt W0 a b d ∧ Bx W0 (w.heap.size) #[.pointer (some ⟨a, 0, none⟩)] ∧ Bx W0 (w.heap.size + 1) #[.string (S n)] ∧ Tn a b w W0) := fun W0 e => by
    subst e
    exact ⟨((h.new _).new _), bx2_0 _ _ _ _ _, bx2_1 _ _ _ _ _, (((Tn.refl _ _ _).new _).new _)⟩
  clear h hn 
  go_enter Tryz.func38, Tryz.ntmps38
  go_wp2_with fail
  generalize hW : ((w.alloc (.cells #[.pointer (some ⟨a, 0, none⟩)] 40)).alloc (.cells #[.string (S n)] 9)) = W0
  obtain ⟨hd0, hb0, hb1, ht0⟩ := HX.out W0 hW.symm
  have HD := Lib.hid hd0
  have HB0 := Lib.hid hb0
  have HB1 := Lib.hid hb1
  have HT := Lib.hid ht0
  clear HX hW hd0 ht0 hb0 hb1
  refine (find_any a b d n HN.out W0 HD.out).mono ?_
  rintro z w2 ⟨rfl, hb⟩
  replace HD := Lib.hid (HD.out.below hb)
  replace HB0 := Lib.hid (HB0.out.below hb)
  replace HB1 := Lib.hid (HB1.out.below hb)
  replace HT := Lib.hid (HT.out.step hb)
  clear hb
  have e0 := HB0.out.cell 0
  have e1 := HB1.out.cell 0
  obtain ⟨c0, c1, c2, c3, c4⟩ := HD.out.cell
  simp only [List.getElem?_toArray, List.getElem?_cons_zero] at e0 e1
  cases hg : d.gone with
  | true =>
    have HR := Lib.hid (show deleteD d n = (45, d) by simp [deleteD, hg])
    rw [show fndF d n = ⟨[], 0⟩ by simp [fndF, hg, Disk.f0], show fndE d n = 45 by simp [fndE, hg]]
    unfold fV S
    clear hg 
    go_wp2_with fail
    go_ret
    exact res_stay HR.out (HD.out.new _) (HT.out.new _)
  | false =>
    cases hf : get d.l n with
    | none =>
      have HR := Lib.hid (show deleteD d n = (5, d) by simp [deleteD, hg, hf])
      rw [show fndF d n = ⟨[], 0⟩ by simp [fndF, hg, hf, Disk.f0], show fndE d n = 5 by simp [fndE, hg, hf]]
      unfold fV S
      clear hg hf
      go_wp2_with fail
      go_ret
      exact res_stay HR.out (HD.out.new _) (HT.out.new _)
    | some f =>
      have HF := Lib.hid hf
      have HG := Lib.hid hg
      have HFO := Lib.hid (HD.out.ok.fs _ (get_mem hf))
      rw [show fndF d n = f by simp [fndF, hg, hf], show fndE d n = 0 by simp [fndE, hg, hf]]
      obtain ⟨fb, fg⟩ := f
      unfold fV
      have g0 : ∀ o : Obj, (w2.alloc o).cell? ⟨w.heap.size, 0, none⟩ = some (.pointer (some ⟨a, 0, none⟩)) := fun o => (HB0.out.new o).cell 0
      have g1 : ∀ o : Obj, (w2.alloc o).cell? ⟨w.heap.size + 1, 0, none⟩ = some (.string (S n)) := fun o => (HB1.out.new o).cell 0
      clear hg hf
      have HD3 := Lib.hid (HD.out.new (.cells #[.string (S fb), .int .i64 (fg : Int)] 119))
      have HT3 := Lib.hid (HT.out.new (.cells #[.string (S fb), .int .i64 (fg : Int)] 119))
      have HBF := Lib.hid (bx_new w2 #[.string (S fb), .int .i64 (fg : Int)] 119)
      have HB30 := Lib.hid (HB0.out.new (.cells #[.string (S fb), .int .i64 (fg : Int)] 119))
      have HB31 := Lib.hid (HB1.out.new (.cells #[.string (S fb), .int .i64 (fg : Int)] 119))
      have HA2 := Lib.hid HD.out.lt.1
      have HO := Lib.hid (show ({ d with left := d.left - 1, l := del n d.l } : Dk).ok from HD.out.ok.step.del n)
      have HR := Lib.hid (show deleteD d n = (cntE d, cntD d (del n d.l)) by simp [deleteD, HG.out, HF.out])
      have HC := Lib.hid (count_any a b 87 #[.pointer (some ⟨w.heap.size, 0, none⟩), .pointer (some ⟨w.heap.size + 1, 0, none⟩)] d (del n d.l) _ HD3.out eg (fun W hW ht =>
        delete1_any a b _ _ { d with left := d.left - 1 } n HN.out W hW (HB30.out.tn HD3.out (by have := HA.out; omega) ht) (HB31.out.tn HD3.out (by have := HA.out; omega) ht) HO.out))
      clear eg
      go_wp2_with fail
      refine HC.out.mono ?_
      rintro z w4 ⟨rfl, h5, h6⟩
      have H5 := Lib.hid h5
      have H6 := Lib.hid h6
      clear h5 h6
      go_wp2_with fail
      go_ret
      rw [HR.out]
      exact ⟨rfl, H5.out, HT3.out.trans H6.out⟩

def trimD (d : Dk) (n : Nm) (m : Int) : Nat × Dk :=
  if d.gone then (45, d) else match get d.l n with
    | none => (5, d)
    | some f => if m < 0 ∨ (f.b.length : Int) < m then (1, d) else (cntE d, cntD d (put n ⟨f.b.take m.toNat, m.toNat⟩ d.l))

def renameD (d : Dk) (n m : Nm) : Nat × Dk :=
  if d.gone then (45, d) else match get d.l n with
    | none => (5, d)
    | some f => if mayN m = false then (4, d) else if n = m then (1, d) else (cntE d, cntD d (del n (put m f d.l)))

set_option maxRecDepth 100000 in
set_option maxHeartbeats 1000000 in
theorem rename_any (a b : Nat) (d : Dk) (n m : Nm) (hn : n.length ≤ maxLen) (hm : m.length ≤ maxLen) (w : World) (h : DkAt w a b d) :
    Calls Tryz.prog 62 #[.pointer (some ⟨a, 0, none⟩), .string (S n), .string (S m)] w (Res a b (renameD d n m) w) := by
  have hmx : Tryz.prog.follows .mixedOrders = true := by kernel_rfl
  have eg := enters_of Tryz.func103 (by kernel_rfl) rfl
  have HA := Lib.hid h.lt.1
  have HN := Lib.hid hn
  have HM := Lib.hid hm
  have HX : Hid (∀ W0, W0 = (((w.alloc (.cells #[.pointer (some ⟨a, 0, none⟩)] 40)).alloc (.cells #[.string (S n)] 9)).alloc (.cells #[.string (S m)] 9)) → DkAt W0 a b d ∧ Bx W0 (w.heap.size) #[.pointer (some ⟨a, 0, none⟩)] ∧ Bx W0 (w.heap.size + 1) #[.string (S n)] ∧ Bx W0 (w.heap.size + 2) #[.string (S m)] ∧ Tn a b w W0) := fun W0 e => by
    subst e
    exact ⟨(((h.new _).new _).new _), bx3_0 _ _ _ _ _ _ _, bx3_1 _ _ _ _ _ _ _, bx3_2 _ _ _ _ _ _ _, ((((Tn.refl _ _ _).new _).new _).new _)⟩
  clear h hn hm
  go_enter Tryz.func62, Tryz.ntmps62
  go_wp2_with fail
  generalize hW : (((w.alloc (.cells #[.pointer (some ⟨a, 0, none⟩)] 40)).alloc (.cells #[.string (S n)] 9)).alloc (.cells #[.string (S m)] 9)) = W0
  obtain ⟨hd0, hb0, hb1, hb2, ht0⟩ := HX.out W0 hW.symm
  have HD := Lib.hid hd0
  have HB0 := Lib.hid hb0
  have HB1 := Lib.hid hb1
  have HB2 := Lib.hid hb2
  have HT := Lib.hid ht0
  clear HX hW hd0 ht0 hb0 hb1 hb2
  refine (find_any a b d n HN.out W0 HD.out).mono ?_
  rintro z w2 ⟨rfl, hb⟩
  replace HD := Lib.hid (HD.out.below hb)
  replace HB0 := Lib.hid (HB0.out.below hb)
  replace HB1 := Lib.hid (HB1.out.below hb)
  replace HB2 := Lib.hid (HB2.out.below hb)
  replace HT := Lib.hid (HT.out.step hb)
  clear hb
  have e0 := HB0.out.cell 0
  have e1 := HB1.out.cell 0
  have e2 := HB2.out.cell 0
  obtain ⟨c0, c1, c2, c3, c4⟩ := HD.out.cell
  simp only [List.getElem?_toArray, List.getElem?_cons_zero] at e0 e1 e2
  cases hg : d.gone with
  | true =>
    have HR := Lib.hid (show renameD d n m = (45, d) by simp [renameD, hg])
    rw [show fndF d n = ⟨[], 0⟩ by simp [fndF, hg, Disk.f0], show fndE d n = 45 by simp [fndE, hg]]
    unfold fV S
    clear hg 
    go_wp2_with fail
    go_ret
    exact res_stay HR.out (HD.out.new _) (HT.out.new _)
  | false =>
    cases hf : get d.l n with
    | none =>
      have HR := Lib.hid (show renameD d n m = (5, d) by simp [renameD, hg, hf])
      rw [show fndF d n = ⟨[], 0⟩ by simp [fndF, hg, hf, Disk.f0], show fndE d n = 5 by simp [fndE, hg, hf]]
      unfold fV S
      clear hg hf
      go_wp2_with fail
      go_ret
      exact res_stay HR.out (HD.out.new _) (HT.out.new _)
    | some f =>
      have HF := Lib.hid hf
      have HG := Lib.hid hg
      have HFO := Lib.hid (HD.out.ok.fs _ (get_mem hf))
      rw [show fndF d n = f by simp [fndF, hg, hf], show fndE d n = 0 by simp [fndE, hg, hf]]
      obtain ⟨fb, fg⟩ := f
      unfold fV
      have g0 : ∀ o : Obj, (w2.alloc o).cell? ⟨w.heap.size, 0, none⟩ = some (.pointer (some ⟨a, 0, none⟩)) := fun o => (HB0.out.new o).cell 0
      have g1 : ∀ o : Obj, (w2.alloc o).cell? ⟨w.heap.size + 1, 0, none⟩ = some (.string (S n)) := fun o => (HB1.out.new o).cell 0
      have g2 : ∀ o : Obj, (w2.alloc o).cell? ⟨w.heap.size + 2, 0, none⟩ = some (.string (S m)) := fun o => (HB2.out.new o).cell 0
      clear hg hf
      go_wp2_with fail
      refine (mayN_any m HM.out _).mono ?_
      rintro z w3 ⟨rfl, hb⟩
      have HD3 := Lib.hid ((HD.out.new _).below hb)
      have HT3 := Lib.hid ((HT.out.new _).step hb)
      have HBF := Lib.hid ((bx_new w2 #[.string (S fb), .int .i64 (fg : Int)] 119).below hb)
      have HB30 := Lib.hid ((HB0.out.new _).below hb)
      have HB31 := Lib.hid ((HB1.out.new _).below hb)
      have HB32 := Lib.hid ((HB2.out.new _).below hb)
      have HA2 := Lib.hid HD.out.lt.1
      clear e0 e1 e2 c0 c1 c2 c3 c4 g0 g1 g2 hb
      have e0 := HB30.out.cell 0
      have e1 := HB31.out.cell 0
      have e2 := HB32.out.cell 0
      simp only [List.getElem?_toArray, List.getElem?_cons_zero] at e0 e1 e2
      cases hm : mayN m with
      | false =>
        have HR := Lib.hid (show renameD d n m = (4, d) by simp [renameD, HG.out, HF.out, hm])
        clear hm
        go_wp2_with fail
        go_ret
        exact res_stay HR.out HD3.out HT3.out
      | true =>
        by_cases hnm : n = m
        · have HR := Lib.hid (show renameD d n m = (1, d) by unfold renameD; rw [HG.out, HF.out]; simp [hm, hnm])
          have z : ((S n).toList == (S m).toList) = true := by rw [hnm]; simp
          have z2 : (S n).toList = (S m).toList := by rw [hnm]
          clear hm hnm
          go_wp2_with fail
          go_ret
          exact res_stay HR.out HD3.out HT3.out
        · have HMM := Lib.hid hm
          have HNE := Lib.hid hnm
          have z2 : ¬ (S n).toList = (S m).toList := by rw [S_list, S_list]; exact hnm
          have z : ((S n).toList == (S m).toList) = false := by simpa using z2
          clear hm hnm
          have HO := Lib.hid (show ({ d with left := d.left - 1, l := del n (put m ⟨fb, fg⟩ d.l) } : Dk).ok from ok_named HD.out.ok HF.out HMM.out HNE.out)
          have HR := Lib.hid (show renameD d n m = (cntE d, cntD d (del n (put m ⟨fb, fg⟩ d.l))) by simp [renameD, HG.out, HF.out, HMM.out, HNE.out])
          have HC := Lib.hid (count_any a b 103 #[.pointer (some ⟨w2.heap.size, 0, none⟩), .pointer (some ⟨w.heap.size, 0, none⟩), .pointer (some ⟨w.heap.size + 2, 0, none⟩), .pointer (some ⟨w.heap.size + 1, 0, none⟩)] d (del n (put m ⟨fb, fg⟩ d.l)) _ HD3.out eg (fun W hW ht =>
            rename1_any a b _ _ _ _ { d with left := d.left - 1 } n m HN.out HM.out fb fg HFO.out W hW (HBF.out.tn HD3.out (by have := HA2.out; omega) ht) (HB30.out.tn HD3.out (by have := HA.out; omega) ht) (HB32.out.tn HD3.out (by have := HA.out; omega) ht) (HB31.out.tn HD3.out (by have := HA.out; omega) ht) (by have := HA.out; omega) (by have := HA.out; omega) HO.out))
          clear eg
          go_wp2_with fail
          refine HC.out.mono ?_
          rintro z w4 ⟨rfl, h5, h6⟩
          have H5 := Lib.hid h5
          have H6 := Lib.hid h6
          clear h5 h6
          go_wp2_with fail
          go_ret
          rw [HR.out]
          exact ⟨rfl, H5.out, HT3.out.trans H6.out⟩
end Go.Proofs.YticfnfekkmkclaaGreatDoor.Disk

/-
  What is done to a disk: Append.
-/
namespace Go.Proofs.YticfnfekkmkclaaGreatDoor.Disk
open Go Go.RowKit Go.Maps

def appendD (d : Dk) (n : Nm) (s : List UInt8) : Nat × Dk :=
  if d.gone then (45, d) else match get d.l n with
    | none => (5, d)
    | some f => if 1048576 < f.b.length + s.length ∨ d.cap < used d.l + s.length then (44, d) else (cntE d, { cntD d (put n ⟨f.b ++ s, f.g⟩ d.l) with l := put n ⟨f.b ++ s, f.g⟩ d.l })
theorem below_on {u v w : World} {k : Nat} (hs : u.heap.size = k) (h : Below k u v) (hb : Below v.heap.size v w) : Below k u w := h.trans (hb.mono (by have := h.size; omega))

set_option maxRecDepth 100000 in
set_option maxHeartbeats 1000000 in
theorem append_any (a b : Nat) (d : Dk) (n : Nm) (hn : n.length ≤ maxLen) (s : List UInt8) (hs : s.length ≤ maxLen) (w : World) (h : DkAt w a b d) :
    Calls Tryz.prog 58 #[.pointer (some ⟨a, 0, none⟩), .string (S n), .string (S s)] w (Res a b (appendD d n s) w) := by
  have hmx : Tryz.prog.follows .mixedOrders = true := by kernel_rfl
  have eg := enters_of Tryz.func101 (by kernel_rfl) rfl
  have HA := Lib.hid h.lt.1
  have HN := Lib.hid hn
  have HSL := Lib.hid hs
  have HX : Hid (∀ W0, W0 = (((w.alloc (.cells #[.pointer (some ⟨a, 0, none⟩)] 40)).alloc (.cells #[.string (S n)] 9)).alloc (.cells #[.string (S s)] 9)) → DkAt W0 a b d ∧ Bx W0 (w.heap.size) #[.pointer (some ⟨a, 0, none⟩)] ∧ Bx W0 (w.heap.size + 1) #[.string (S n)] ∧ Bx W0 (w.heap.size + 2) #[.string (S s)] ∧ Tn a b w W0) := fun W0 e => by
    subst e
    exact ⟨(((h.new _).new _).new _), bx3_0 _ _ _ _ _ _ _, bx3_1 _ _ _ _ _ _ _, bx3_2 _ _ _ _ _ _ _, ((((Tn.refl _ _ _).new _).new _).new _)⟩
  clear h hn hs
  go_enter Tryz.func58, Tryz.ntmps58
  go_wp2_with fail
  generalize hW : (((w.alloc (.cells #[.pointer (some ⟨a, 0, none⟩)] 40)).alloc (.cells #[.string (S n)] 9)).alloc (.cells #[.string (S s)] 9)) = W0
  obtain ⟨hd0, hb0, hb1, hb2, ht0⟩ := HX.out W0 hW.symm
  have HD := Lib.hid hd0
  have HB0 := Lib.hid hb0
  have HB1 := Lib.hid hb1
  have HB2 := Lib.hid hb2
  have HT := Lib.hid ht0
  clear HX hW hd0 ht0 hb0 hb1 hb2
  refine (find_any a b d n HN.out W0 HD.out).mono ?_
  rintro z w2 ⟨rfl, hb⟩
  replace HD := Lib.hid (HD.out.below hb)
  replace HB0 := Lib.hid (HB0.out.below hb)
  replace HB1 := Lib.hid (HB1.out.below hb)
  replace HB2 := Lib.hid (HB2.out.below hb)
  replace HT := Lib.hid (HT.out.step hb)
  clear hb
  have e0 := HB0.out.cell 0
  have e1 := HB1.out.cell 0
  have e2 := HB2.out.cell 0
  obtain ⟨c0, c1, c2, c3, c4⟩ := HD.out.cell
  simp only [List.getElem?_toArray, List.getElem?_cons_zero] at e0 e1 e2
  cases hg : d.gone with
  | true =>
    have HR := Lib.hid (show appendD d n s = (45, d) by simp [appendD, hg])
    rw [show fndF d n = ⟨[], 0⟩ by simp [fndF, hg, Disk.f0], show fndE d n = 45 by simp [fndE, hg]]
    unfold fV S
    clear hg 
    go_wp2_with fail
    go_ret
    exact res_stay HR.out (HD.out.new _) (HT.out.new _)
  | false =>
    cases hf : get d.l n with
    | none =>
      have HR := Lib.hid (show appendD d n s = (5, d) by simp [appendD, hg, hf])
      rw [show fndF d n = ⟨[], 0⟩ by simp [fndF, hg, hf, Disk.f0], show fndE d n = 5 by simp [fndE, hg, hf]]
      unfold fV S
      clear hg hf
      go_wp2_with fail
      go_ret
      exact res_stay HR.out (HD.out.new _) (HT.out.new _)
    | some f =>
      have HF := Lib.hid hf
      have HG := Lib.hid hg
      have HFO := Lib.hid (HD.out.ok.fs _ (get_mem hf))
      rw [show fndF d n = f by simp [fndF, hg, hf], show fndE d n = 0 by simp [fndE, hg, hf]]
      obtain ⟨fb, fg⟩ := f
      unfold fV
      have g0 : ∀ o : Obj, (w2.alloc o).cell? ⟨w.heap.size, 0, none⟩ = some (.pointer (some ⟨a, 0, none⟩)) := fun o => (HB0.out.new o).cell 0
      have g1 : ∀ o : Obj, (w2.alloc o).cell? ⟨w.heap.size + 1, 0, none⟩ = some (.string (S n)) := fun o => (HB1.out.new o).cell 0
      have g2 : ∀ o : Obj, (w2.alloc o).cell? ⟨w.heap.size + 2, 0, none⟩ = some (.string (S s)) := fun o => (HB2.out.new o).cell 0
      clear hg hf
      have hfl := HFO.out.2
      have gf : (w2.alloc (.cells #[.string (S fb), .int .i64 (fg : Int)] 119)).cell? ⟨w2.heap.size, 0, none⟩ = some (.string (S fb)) := (bx_new w2 _ _).cell 0
      have HA2 := Lib.hid HD.out.lt.1
      have z0 : IntKind.i64.wrap (1048576 - ((S fb).size : Int)) = 1048576 - ((S fb).size : Int) := by rw [IntKind.wrap_i64]; have := S_size fb; simp only at hfl; omega
      by_cases hbig : 1048576 < fb.length + s.length
      · have HR := Lib.hid (show appendD d n s = (44, d) by unfold appendD; rw [HG.out, HF.out]; simp [hbig])
        have z : (1048576 - ((S fb).size : Int) < ((S s).size : Int)) := by have := S_size fb; have := S_size s; omega
        clear hbig hfl
        go_wp2_with fail
        go_quiet (fail)
        go_wp2_with fail
        go_ret
        exact res_stay HR.out ((HD.out.new _).dn _) ((HT.out.new _).dn _)
      · have z : ¬ (1048576 - ((S fb).size : Int) < ((S s).size : Int)) := by have := S_size fb; have := S_size s; omega
        have zd : decide (1048576 - ((S fb).size : Int) < ((S s).size : Int)) = false := decide_eq_false z
        have HS1 := Lib.hid hbig
        have hcap := HD.out.ok.cap
        have hus := HD.out.ok.used
        have z2 : IntKind.i64.wrap ((d.cap : Int) - (used d.l : Int)) = (d.cap : Int) - (used d.l : Int) := by rw [IntKind.wrap_i64]; omega
        have HS : Hid (∀ w' : World, Below (w2.heap.size + 1) (w2.alloc (.cells #[.string (S fb), .int .i64 (fg : Int)] 119)) w' → Below (w2.heap.size + 1) (w2.alloc (.cells #[.string (S fb), .int .i64 (fg : Int)] 119)) w' ∧ DkAt w' a b d ∧ w'.cell? ⟨w.heap.size, 0, none⟩ = some (.pointer (some ⟨a, 0, none⟩)) ∧ w'.cell? ⟨w.heap.size + 2, 0, none⟩ = some (.string (S s)) ∧ w'.cell? ⟨w2.heap.size, 0, none⟩ = some (.string (S fb)) ∧ w'.cell? ⟨a, 0, none⟩ = some (.int .i64 (d.cap : Int))) := fun w' hb => by
          have hb' : Below (w2.alloc (.cells #[.string (S fb), .int .i64 (fg : Int)] 119)).heap.size (w2.alloc (.cells #[.string (S fb), .int .i64 (fg : Int)] 119)) w' := by simpa using hb
          exact ⟨hb, (HD.out.new _).below hb', ((HB0.out.new _).below hb').cell 0, ((HB2.out.new _).below hb').cell 0, ((bx_new w2 _ _).below hb').cell 0, ((HD.out.new _).below hb').cell.1⟩
        have hb0 : Below (w2.heap.size + 1) (w2.alloc (.cells #[.string (S fb), .int .i64 (fg : Int)] 119)) (w2.alloc (.cells #[.string (S fb), .int .i64 (fg : Int)] 119)) := Below.refl _ _
        obtain ⟨-, -, q3, q4, q5, q6⟩ := HS.out _ hb0
        obtain ⟨r1, r2, -⟩ := HS.out _ hb0.drew
        have HU : Hid (∀ w' : World, DkAt w' a b d → Calls Tryz.prog 70 #[.pointer (some ⟨a, 0, none⟩)] w' fun z w'' => z = .returned (.int .i64 (used d.l : Int)) ∧ Below w'.heap.size w' w'') := fun w' h' => used_any a b d w' h'
        have HSZ := Lib.hid (show (w2.alloc (.cells #[.string (S fb), .int .i64 (fg : Int)] 119)).heap.size = w2.heap.size + 1 by simp)
        clear hbig hfl hb0
        go_wp2_with fail
        go_region_held3 (fun w' => Below (w2.heap.size + 1) (w2.alloc (.cells #[.string (S fb), .int .i64 (fg : Int)] 119)) w' ∧ DkAt w' a b d ∧ w'.cell? ⟨w.heap.size, 0, none⟩ = some (.pointer (some ⟨a, 0, none⟩)) ∧ w'.cell? ⟨w.heap.size + 2, 0, none⟩ = some (.string (S s)) ∧ w'.cell? ⟨w2.heap.size, 0, none⟩ = some (.string (S fb)) ∧ w'.cell? ⟨a, 0, none⟩ = some (.int .i64 (d.cap : Int)))
          (first | assumption | (refine ⟨?_, ?_, ?_, ?_, ?_, ?_⟩ <;> assumption) | go_keep)
          ((first | (go_at_call 70; refine (HU.out _ (by assumption)).mono ?_; rintro z w' ⟨rfl, hb4⟩; obtain ⟨p1, p2, p3, p4, p5, p6⟩ := HS.out w' (below_on HSZ.out (by assumption) hb4); clear hb4)))
        all_goals
          clear r1 r2 q3 q4 q5 q6 e0 e1 e2 c0 c1 c2 c3 c4 g0 g1 g2 gf
          have HD4 := Lib.hid (show DkAt _ a b d by assumption)
          have hbl := (show Below (w2.heap.size + 1) (w2.alloc (.cells #[.string (S fb), .int .i64 (fg : Int)] 119)) _ by assumption)
          have hbl2 := (show Below (w2.alloc (.cells #[.string (S fb), .int .i64 (fg : Int)] 119)).heap.size (w2.alloc (.cells #[.string (S fb), .int .i64 (fg : Int)] 119)) _ by rw [HSZ.out]; exact hbl)
          have HT4 := Lib.hid ((HT.out.new _).step hbl2)
          have HB40 := Lib.hid ((HB0.out.new _).below hbl2)
          have HB41 := Lib.hid ((HB1.out.new _).below hbl2)
          have HB42 := Lib.hid ((HB2.out.new _).below hbl2)
          have HBF4 := Lib.hid ((bx_new w2 _ _).below hbl2)
          clear HS HU hbl hbl2
          have e0 := HB40.out.cell 0
          simp only [List.getElem?_toArray, List.getElem?_cons_zero] at e0
          by_cases hroom : d.cap < used d.l + s.length
          · have HR := Lib.hid (show appendD d n s = (44, d) by unfold appendD; rw [HG.out, HF.out]; simp [hroom])
            have zr : decide ((d.cap : Int) - (used d.l : Int) < ((S s).size : Int)) = true := decide_eq_true (by have := S_size s; omega)
            have zr2 : (d.cap : Int) - (used d.l : Int) < ((S s).size : Int) := by have := S_size s; omega
            clear hroom
            go_wp2_with fail
            go_ret
            exact res_stay HR.out HD4.out HT4.out
          · have hfl := HFO.out
            have HR := Lib.hid (show appendD d n s = (cntE d, { cntD d (put n ⟨fb ++ s, fg⟩ d.l) with l := put n ⟨fb ++ s, fg⟩ d.l }) by unfold appendD; rw [HG.out, HF.out]; simp [hroom, HS1.out])
            have zr : decide ((d.cap : Int) - (used d.l : Int) < ((S s).size : Int)) = false := decide_eq_false (by have := S_size s; omega)
            have zr2 : ¬ (d.cap : Int) - (used d.l : Int) < ((S s).size : Int) := by have := S_size s; omega
            have HFN := Lib.hid (show (⟨fb ++ s, fg⟩ : F).ok from by
              have h1 := hfl.1
              have h2 := HS1.out
              simp only at h1
              exact ⟨by simp only [List.length_append]; omega, by simp only [List.length_append]; omega⟩)
            have HO := Lib.hid (show ({ d with l := put n ⟨fb ++ s, fg⟩ d.l } : Dk).ok from by
              have h1 := put_len HD4.out.ok.up n ⟨fb ++ s, fg⟩
              have h2 := used_put HD4.out.ok.up n ⟨fb ++ s, fg⟩
              rw [HF.out] at h1 h2
              simp only [Option.isSome_some, if_true, Option.getD_some, List.length_append] at h1 h2
              exact HD4.out.ok.put (n := n) (HD4.out.ok.nm _ (get_mem HF.out)) HFN.out (by rw [h1]; exact HD4.out.ok.len) (by omega))
            have HC := Lib.hid (count_any a b 101 #[.pointer (some ⟨w2.heap.size, 0, none⟩), .pointer (some ⟨w.heap.size + 2, 0, none⟩), .pointer (some ⟨w.heap.size, 0, none⟩), .pointer (some ⟨w.heap.size + 1, 0, none⟩)] d (put n ⟨fb ++ s, fg⟩ d.l) _ HD4.out eg (fun W hW ht =>
              append1_any a b _ _ _ _ { d with left := d.left - 1 } n HN.out fb fg s HFN.out W hW (HBF4.out.tn HD4.out (by have := HA2.out; omega) ht) (HB42.out.tn HD4.out (by have := HA.out; omega) ht) (HB40.out.tn HD4.out (by have := HA.out; omega) ht) (HB41.out.tn HD4.out (by have := HA.out; omega) ht) HO.out.step))
            clear hroom hfl zd z0 z2 z hcap hus
            go_wp2_with fail
            refine HC.out.mono ?_
            rintro z w4 ⟨rfl, h5, h6⟩
            have H5 := Lib.hid h5
            have H6 := Lib.hid h6
            have E0 := Lib.hid ((HB40.out.tn HD4.out (by have := HA.out; omega) h6))
            have E1 := Lib.hid ((HB41.out.tn HD4.out (by have := HA.out; omega) h6))
            have E2 := Lib.hid ((HB42.out.tn HD4.out (by have := HA.out; omega) h6))
            have EF := Lib.hid ((HBF4.out.tn HD4.out (by have := HA2.out; omega) h6))
            clear h5 h6
            by_cases hct : d.cut = true ∧ d.left = 0
            · have hE : cntE d = 45 := if_pos hct
              have hDD : cntD d (put n ⟨fb ++ s, fg⟩ d.l) = { d with gone := true } := if_pos hct
              have HEE := Lib.hid hE
              have HDD := Lib.hid hDD
              rw [hE]
              rw [hDD] at H5
              have HA5 := Lib.hid (append1_any a b _ _ _ _ { d with gone := true } n HN.out fb fg s HFN.out w4 H5.out EF.out E2.out E0.out E1.out { HO.out with })
              clear hE hDD hct
              go_wp2_with (first
                | (go_at_call 101; refine HA5.out.mono ?_; rintro z w5 ⟨rfl, h7, h8⟩; have H7 := Lib.hid h7; have H8 := Lib.hid h8; clear h7 h8)
                | go_in)
              go_ret
              rw [HR.out, HEE.out, HDD.out]
              exact ⟨rfl, H7.out, (HT4.out.trans H6.out).trans H8.out⟩
            · have hE : cntE d = 0 := if_neg hct
              have hDD : cntD d (put n ⟨fb ++ s, fg⟩ d.l) = { d with left := d.left - 1, l := put n ⟨fb ++ s, fg⟩ d.l } := if_neg hct
              have HEE := Lib.hid hE
              have HDD := Lib.hid hDD
              rw [hE]
              rw [hDD] at H5
              clear hE hDD hct
              go_wp2_with fail
              go_ret
              rw [HR.out, HEE.out, HDD.out]
              exact ⟨rfl, H5.out, HT4.out.trans H6.out⟩
end Go.Proofs.YticfnfekkmkclaaGreatDoor.Disk

/-
  All names, rising; what looks at a disk.
-/
namespace Go.Proofs.YticfnfekkmkclaaGreatDoor.Disk
open Go Go.RowKit Go.Maps Go.Shelf Go.Proofs

/-- slices.Sort's two contracts at this dump -/
theorem sortsA (m : Nat) : AnyZ.SortsIn Tryz.prog Tryz.sortedA_ren Fence.wide m :=
  ⟨fun blk off cap ss W hH hblk hsz => callsIn_wide.2 (AnyM.slices_Sort_string Tryz.sortA blk off cap ss W hH hblk hsz),
   fun p cap W => callsIn_wide.2 (AnyM.slices_Sort_string_none Tryz.sortA p cap W)⟩
theorem keys_call (mb : Option Nat) (W : World) : Calls Tryz.prog 118 #[.map mb] W fun e w' => e = .returned (.func (.func 139) #[] #[.pointer (some ⟨W.heap.size, 0, none⟩)]) ∧ w' = W.alloc (.cells #[.map mb] 113) :=
  (callsIn_wide (n := 5)).1 (AnyZ.keys_in Tryz.keysA Fence.wide 5 trivial rfl mb W)
set_option maxHeartbeats 1000000 in
theorem sorted_call (a b : Nat) (d : Dk) (w : World) (h : DkAt w a b d) :
    Calls Tryz.prog 117 #[.func (.func 139) #[] #[.pointer (some ⟨w.heap.size, 0, none⟩)]] (w.alloc (.cells #[.map (some b)] 113)) fun e w' => ∃ v : Value, e = .returned v ∧ w'.ownsRow (w.alloc (.cells #[.map (some b)] 113)).heap.size 9 1 v d.l.length ((d.l.map (·.1)).map encStr) ∧ Below (w.alloc (.cells #[.map (some b)] 113)).heap.size (w.alloc (.cells #[.map (some b)] 113)) w' := by
  have hbl := h.mp.lt
  have hseq : SeqGives Fence.wide 2 Tryz.prog 139 #[.pointer (some ⟨w.heap.size, 0, none⟩)] encStr (fun ss => ss.Perm (strKeys (toD fD d.l))) (Maps.size (toD fD d.l)) (w.alloc (.cells #[.map (some b)] 113)) :=
    AnyZ.keys_gives (ρ := Tryz.keysA_ren) { Tryz.keysA with } Fence.wide _ trivial rfl (by omega) w.heap.size b d.l.length (toD fD d.l) _ (by simp) (by simp) (by
      obtain ⟨es, clock, hb, Ft, hs, hD⟩ := h.mp
      exact ⟨es, clock, (Below.heap_alloc _ _ b hbl).trans hb, Ft, hs, hD⟩)
  have hlen := h.ok.len
  have cS := AnyZ.sorted_in Tryz.sortedA Fence.wide 5 trivial trivial trivial trivial rfl (by omega) (sortsA _) (enters_of Tryz.func138 (by kernel_rfl) rfl) 139 #[.pointer (some ⟨w.heap.size, 0, none⟩)] trivial (enters_of Tryz.func139 (by kernel_rfl) rfl) _ _ (by rw [toD_size]; unfold maxLen; omega) (by rw [toD_size]; omega) _ hseq
  refine (callsIn_wide.1 cS).mono ?_
  rintro e w' ⟨v, ss, rfl, hp, hrow, -, hb⟩
  rw [toD_keys] at hp
  have hl : ss.length = d.l.length := by rw [hp.length_eq, List.length_map]
  rw [names_sorted h.ok.up hp, hl] at hrow
  exact ⟨v, rfl, hrow, hb⟩

set_option maxRecDepth 100000 in
set_option maxHeartbeats 1000000 in
theorem names_any (a b : Nat) (d : Dk) (w : World) (h : DkAt w a b d) :
    Calls Tryz.prog 79 #[.pointer (some ⟨a, 0, none⟩)] w fun z w' => ∃ v : Value, z = .returned v ∧ w'.ownsRow w.heap.size 9 1 v d.l.length ((d.l.map (·.1)).map encStr) ∧ Below w.heap.size w w' := by
  obtain ⟨c0, c1, c2, c3, c4⟩ := h.cell
  have HK := Lib.hid (keys_call (some b) w)
  have HS := Lib.hid (sorted_call a b d w h)
  clear h
  go_enter Tryz.func79, Tryz.ntmps79
  go_wp2_with fail
  refine HK.out.mono ?_
  rintro z w1 ⟨rfl, rfl⟩
  go_wp2_with fail
  refine HS.out.mono ?_
  rintro z w2 ⟨v, rfl, h1, h2⟩
  have H1 := Lib.hid h1
  have H2 := Lib.hid h2
  clear h1 h2
  go_wp2_with fail
  go_ret
  exact ⟨v, rfl, ownsRow_base_a H1.out (by simp), ((Below.refl _ w).alloc (Nat.le_refl _) _).trans (H2.out.mono (by simp))⟩

set_option maxRecDepth 100000 in
set_option maxHeartbeats 1000000 in
theorem read_any (a b : Nat) (d : Dk) (n : Nm) (hn : n.length ≤ maxLen) (w : World) (h : DkAt w a b d) :
    Calls Tryz.prog 35 #[.pointer (some ⟨a, 0, none⟩), .string (S n)] w fun z w' => z = .returned (.tuple #[.string (S (fndF d n).b), .int .i64 (fndE d n : Int)]) ∧ Below w.heap.size w w' := by
  have HF := Lib.hid (find_any a b d n hn w h)
  clear h hn
  generalize fndF d n = f at HF ⊢
  generalize fndE d n = e at HF ⊢
  obtain ⟨fb, fg⟩ := f
  unfold fV at HF
  go_enter Tryz.func35, Tryz.ntmps35
  go_wp2_with fail
  refine HF.out.mono ?_
  rintro z w1 ⟨rfl, h1⟩
  have H1 := Lib.hid h1
  clear h1
  go_wp2_with fail
  go_ret2
  exact ⟨rfl, H1.out.alloc H1.out.size _⟩
theorem up_any (a b : Nat) (d : Dk) (w : World) (h : DkAt w a b d) :
    Calls Tryz.prog 29 #[.pointer (some ⟨a, 0, none⟩)] w fun z w' => z = .returned (.bool !d.gone) ∧ w' = w := by
  have HR := Lib.hid (refusal_any a b d w h)
  unfold refus at HR
  clear h
  cases hg : d.gone <;> rw [hg] at HR
  · go_enter Tryz.func29, Tryz.ntmps29
    go_wp2_with fail
    refine HR.out.mono ?_
    rintro z w1 ⟨rfl, rfl⟩
    go_wp2_with fail
    go_ret
    exact ⟨rfl, rfl⟩
  · go_enter Tryz.func29, Tryz.ntmps29
    go_wp2_with fail
    refine HR.out.mono ?_
    rintro z w1 ⟨rfl, rfl⟩
    go_wp2_with fail
    go_ret
    exact ⟨rfl, rfl⟩
theorem set_power {w : World} {a b : Nat} {d : Dk} (h : DkAt w a b d) (x y : Bool) (n : Nat) (m : Int) (hm : m = (n : Int)) (hn : n ≤ 9223372036854775807) (hc : y = false → n = 0) :
    DkAt (((w.setCell ⟨a, 2, none⟩ (.bool x)).setCell ⟨a, 3, none⟩ (.bool y)).setCell ⟨a, 4, none⟩ (.int .i64 m)) a b { d with gone := x, cut := y, left := n } := by
  subst hm
  exact h.set (d' := { d with gone := x, cut := y, left := n }) (by rw [heap_set (heap_set (heap_set h.blk _ _) _ _) _ _]; rfl) ((heap_far _ _ h.ne.symm).trans ((heap_far _ _ h.ne.symm).trans (heap_far _ _ h.ne.symm))) rfl { h.ok with left := hn, cut := hc }
theorem tn3 (w : World) (a b : Nat) (x y z : Value) : Tn a b w (((w.setCell ⟨a, 2, none⟩ x).setCell ⟨a, 3, none⟩ y).setCell ⟨a, 4, none⟩ z) :=
  ((Tn.set w a b 2 x).trans (Tn.set _ a b 3 y)).trans (Tn.set _ a b 4 z)
def cutD (d : Dk) (m : Int) : Nat × Dk := if d.gone then (45, d) else if m < 0 then (1, d) else (0, { d with gone := false, cut := true, left := m.toNat })
set_option maxRecDepth 100000 in
set_option maxHeartbeats 1000000 in
theorem cut_any (a b : Nat) (d : Dk) (m : Int) (hm : m ≤ 9223372036854775807) (w : World) (h : DkAt w a b d) :
    Calls Tryz.prog 23 #[.pointer (some ⟨a, 0, none⟩), .int .i64 m] w fun z w' => z = .returned (.int .i64 ((cutD d m).1 : Int)) ∧ DkAt w' a b (cutD d m).2 ∧ Tn a b w w' := by
  have HD := Lib.hid h
  have HR := Lib.hid (refusal_any a b d w h)
  obtain ⟨c0, c1, c2, c3, c4⟩ := h.cell
  have fz := h.fz
  have HM := Lib.hid hm
  unfold refus at HR
  clear h hm
  cases hg : d.gone with
  | true =>
    rw [hg] at HR
    have HC := Lib.hid (show cutD d m = (45, d) by simp [cutD, hg])
    clear hg
    go_enter Tryz.func23, Tryz.ntmps23
    go_wp2_with fail
    refine HR.out.mono ?_
    rintro z w1 ⟨rfl, rfl⟩
    go_wp2_with fail
    go_ret
    rw [HC.out]
    exact ⟨rfl, HD.out, Tn.refl _ _ _⟩
  | false =>
    rw [hg] at HR
    by_cases hlo : m < 0
    · have HC := Lib.hid (show cutD d m = (1, d) by simp [cutD, hg, hlo])
      have z : decide (m < 0) = true := decide_eq_true hlo
      clear hg
      go_enter Tryz.func23, Tryz.ntmps23
      go_wp2_with fail
      refine HR.out.mono ?_
      rintro z w1 ⟨rfl, rfl⟩
      go_wp2_with fail
      go_ret
      rw [HC.out]
      exact ⟨rfl, HD.out, Tn.refl _ _ _⟩
    · have HC := Lib.hid (show cutD d m = (0, { d with gone := false, cut := true, left := m.toNat }) by simp [cutD, hg, hlo])
      have z : decide (m < 0) = false := decide_eq_false hlo
      have HL := Lib.hid (show 0 ≤ m by omega)
      clear hg
      go_enter Tryz.func23, Tryz.ntmps23
      go_wp2_with fail
      refine HR.out.mono ?_
      rintro z w1 ⟨rfl, rfl⟩
      go_wp2_with fail
      go_ret
      rw [HC.out]
      exact ⟨rfl, set_power HD.out false true m.toNat m (by omega) (by have := HM.out; omega) (fun h => by cases h), tn3 _ _ _ _ _ _⟩
end Go.Proofs.YticfnfekkmkclaaGreatDoor.Disk

/-
  All files, as they are told: rows of api.File; Files.
-/
namespace Go.Proofs.YticfnfekkmkclaaGreatDoor.Disk
open Go Go.RowKit Go.Maps Go.Shelf Go.Proofs

/-- a file as it is told: its name, what stands for good, what is pending -/
structure Fi where
  n : Nm
  d : List UInt8
  p : List UInt8
deriving DecidableEq
def fiC (x : Fi) : List Value := [.string (S x.n), .string (S x.d), .string (S x.p)]
def fiV (x : Fi) : Value := .agg (fiC x).toArray
def cellsF : List Fi → List Value
  | [] => []
  | x :: r => fiC x ++ cellsF r
theorem cellsF_len (l : List Fi) : (cellsF l).length = l.length * 3 := by
  induction l with
  | nil => rfl
  | cons x r ih => simp only [cellsF, List.length_append, ih, List.length_cons, fiC, List.length_nil]; omega
theorem cellsF_snoc (l : List Fi) (x : Fi) : cellsF (l ++ [x]) = cellsF l ++ fiC x := by
  induction l with
  | nil => simp [cellsF]
  | cons y r ih => simp only [List.cons_append, cellsF, ih, List.append_assoc]
theorem cellsF_at (l : List Fi) (k j : Nat) (hk : k < l.length) (hj : j < 3) : (cellsF l)[k * 3 + j]? = (fiC l[k])[j]? := by
  induction l generalizing k with
  | nil => simp at hk
  | cons x r ih =>
    cases k with
    | zero =>
      have : j < (fiC x).length := by simpa [fiC] using hj
      simp only [cellsF, Nat.zero_mul, Nat.zero_add, List.getElem_cons_zero]
      rw [List.getElem?_append_left this]
    | succ k =>
      have h := ih k (by simpa using hk)
      have : (k + 1) * 3 + j = (fiC x).length + (k * 3 + j) := by simp [fiC]; omega
      simp only [cellsF, List.getElem_cons_succ]
      rw [this, List.getElem?_append_right (Nat.le_add_right _ _), Nat.add_sub_cancel_left]
      exact h
theorem fiC_cell (x : Fi) : ∀ u ∈ fiC x, u.oneCell' = true := by
  intro u hu
  simp only [fiC, List.mem_cons, List.mem_nil_iff, or_false] at hu
  rcases hu with rfl | rfl | rfl <;> rfl
/-- a row of files that the call itself has made -/
def OwnFi (w : World) (base : Nat) (v : Value) (xs : List Fi) : Prop := w.ownsRow base 71 3 v xs.length (cellsF xs)
/-- a row of files, wherever it lies -/
def RowF (w : World) (A : Option Addr) (xs : List Fi) : Prop := ∀ i (h : i < xs.length), ∃ b o, A = some ⟨b, o, none⟩ ∧ b < w.heap.size ∧ w.cell? ⟨b, o + i * 3, none⟩ = some (.string (S xs[i].n)) ∧ w.cell? ⟨b, o + i * 3 + 1, none⟩ = some (.string (S xs[i].d)) ∧ w.cell? ⟨b, o + i * 3 + 2, none⟩ = some (.string (S xs[i].p))
theorem RowF.below {w w' : World} {A : Option Addr} {xs : List Fi} (h : RowF w A xs) (hb : Below w.heap.size w w') : RowF w' A xs := fun i hi => by
  obtain ⟨b, o, e, h1, h2, h3, h4⟩ := h i hi
  exact ⟨b, o, e, Nat.lt_of_lt_of_le h1 hb.size, (hb.cell h1).trans h2, (hb.cell h1).trans h3, (hb.cell h1).trans h4⟩
theorem OwnFi.row {w : World} {base : Nat} {v : Value} {xs : List Fi} (h : OwnFi w base v xs) : ∃ A cap, v = .slice A xs.length cap ∧ cap ≤ maxLen ∧ xs.length ≤ cap ∧ RowF w A xs ∧ (∀ a, A = some a → base ≤ a.block) := by
  rcases h.2 with ⟨rfl, hn⟩ | ⟨g, cap, cur, rfl, hb, hg, h1, h2, h3, h4⟩
  · have hx : xs = [] := List.eq_nil_of_length_eq_zero hn
    subst hx
    exact ⟨none, 0, rfl, Nat.zero_le _, Nat.zero_le _, fun i hi => absurd hi (Nat.not_lt_zero _), fun a e => by cases e⟩
  · refine ⟨some ⟨g, 0, none⟩, cap, rfl, h2, h1, fun i hi => ?_, fun a e => by injection e with e; subst e; exact hb⟩
    have key : ∀ j, j < 3 → w.cell? ⟨g, 0 + (i * 3 + j), none⟩ = (fiC xs[i])[j]? := fun j hj => by
      rw [cell_row hg, Nat.zero_add, ← cellsF_at xs i j hi hj, ← h4, List.getElem?_take, if_pos (by omega), ← Array.getElem?_toList]
    have k0 := key 0 (by omega)
    have k1 := key 1 (by omega)
    have k2 := key 2 (by omega)
    exact ⟨g, 0, rfl, row_lt hg, k0, k1, k2⟩
theorem infoFi : (Tryz.prog.info? 71).map (fun i => (i.zero, i.size, i.bytes)) = some (some (.agg #[.string ⟨#[]⟩, .string ⟨#[]⟩, .string ⟨#[]⟩]), 3, 48) := by kernel_rfl
theorem addr_add0 (g j : Nat) : (Addr.mk g 0 none).add j = ⟨g, j, none⟩ := by
  cases j <;> simp [Addr.add]
theorem step_append_fi {ops : Array Oper} {o : Oper} {a : Act} {w : World} {K : Act → World → Prop} {Q : Exit → Act → World → Prop} {X : Prop} (hgd : o.guard = none) (s x : Operand)
    (ho : o.op = .call { callee := .builtin .append, args := #[s, x], argTypes := #[44, 44] })
    (base : Nat) (v : Value) (xs : List Fi) (hs : a.eval s = v) (hown : OwnFi w base v xs)
    (g : Nat) (cap : Nat) (y : Fi) (hx : a.eval x = .slice (some ⟨g, 0, none⟩) 1 cap) (hn : w.heap[g]? = some (.cells (fiC y).toArray 71 (0, 0)))
    (hlen : xs.length ≤ 1000000) (hbase : base ≤ w.heap.size)
    (h : ∀ v' w', OwnFi w' base v' (xs ++ [y]) → w.grownBy w' v.ownBlock → K (a.put o.dst v') w') :
    if Region.wanted o (yielded ops a.tmps) = true then Oper.wp Tryz.prog o a w K Q else X := by
  rw [if_pos (by simp [Region.wanted, hgd])]
  obtain ⟨i0, hi, hz0, hz1, hz2⟩ := info_parts infoFi
  refine wp_append_own w s x 44 ho base 71 i0 _ 3 48 Tryz.underlying44 hi hz0 hz1 hz2 rfl (by decide) v xs.length (cellsF xs) hs hown ⟨g, 0, none⟩ 1 cap (fiC y) hx rfl ?_ (fiC_cell y) (by unfold maxLen; omega) (by omega) hbase ?_
  · intro j u hj
    rw [addr_add0, cell_row hn]
    simpa using hj
  · intro v' w' hown' hg _
    exact h v' w' (by unfold OwnFi; rw [cellsF_snoc, List.length_append]; exact hown') hg
theorem own_ne {w : World} {base : Nat} {v : Value} {xs : List Fi} (h : OwnFi w base v xs) {q : Nat} {cs : Array Value} {t : TypeId} {fr : Nat × Nat} (hq : w.heap[q]? = some (.cells cs t fr)) (ht : t ≠ 71) : some q ≠ v.ownBlock := by
  intro e
  rcases h.2 with ⟨rfl, _⟩ | ⟨g, cap, cur, rfl, _, h1, _⟩
  · cases e
  · have : q = g := by simpa [Value.ownBlock] using e
    subst this
    rw [hq] at h1
    injection h1 with h1; injection h1 with _ h2; exact ht h2
theorem wpList_append_fi {ops : Array Oper} {rest : List Oper} {o : Oper} {a : Act} {w : World} {Q : Exit → Act → World → Prop} (hgd : o.guard = none) (s x : Operand)
    (ho : o.op = .call { callee := .builtin .append, args := #[s, x], argTypes := #[44, 44] })
    (base : Nat) (v : Value) (xs : List Fi) (hs : a.eval s = v) (hown : OwnFi w base v xs)
    (g : Nat) (cap : Nat) (y : Fi) (hx : a.eval x = .slice (some ⟨g, 0, none⟩) 1 cap) (hn : w.heap[g]? = some (.cells (fiC y).toArray 71 (0, 0)))
    (hlen : xs.length ≤ 1000000) (hbase : base ≤ w.heap.size)
    (h : ∀ v' w', OwnFi w' base v' (xs ++ [y]) → w.grownBy w' v.ownBlock → wpList Tryz.prog ops Q rest (a.put o.dst v') w') : wpList Tryz.prog ops Q (o :: rest) a w := by
  obtain ⟨i0, hi, hz0, hz1, hz2⟩ := info_parts infoFi
  refine wpList_append_own w hgd s x 44 ho base 71 i0 _ 3 48 Tryz.underlying44 hi hz0 hz1 hz2 rfl (by decide) v xs.length (cellsF xs) hs hown ⟨g, 0, none⟩ 1 cap (fiC y) hx rfl ?_ (fiC_cell y) (by unfold maxLen; omega) (by omega) hbase ?_
  · intro j u hj
    rw [addr_add0, cell_row hn]
    simpa using hj
  · intro v' w' hown' hg _
    exact h v' w' (by unfold OwnFi; rw [cellsF_snoc, List.length_append]; exact hown') hg
theorem OwnFi.below_grown {B : Nat} {w w' : World} {v : Value} {base : Nat} {xs : List Fi} (ho : OwnFi w base v xs) (hb : B ≤ base) (hB : B ≤ w.heap.size) (h : w.grownBy w' v.ownBlock) : Below B w w' :=
  ⟨h.os, h.tape, h.output, h.size, fun k hk => h.block k (by omega) (fun e => by
    rcases ho.2 with ⟨rfl, _⟩ | ⟨g, cap, cur, rfl, h1, _⟩
    · cases e
    · have : k = g := by simpa [Value.ownBlock] using e
      omega)⟩
theorem OwnFi.new {w : World} {base : Nat} {v : Value} {xs : List Fi} (h : OwnFi w base v xs) (o : Obj) : OwnFi (w.alloc o) base v xs := World.ownsRow.alloc h o
theorem OwnFi.dn {w : World} {base : Nat} {v : Value} {xs : List Fi} (h : OwnFi w base v xs) (n : Nat) : OwnFi (w.drewN n) base v xs := h
/-- all files of a disk as they are told -/
def tell (p : Nm × F) : Fi := ⟨p.1, p.2.b.take p.2.g, p.2.b.drop p.2.g⟩
def told (l : List (Nm × F)) : List Fi := l.map tell
/-- the names as a row -/
theorem names_at {w : World} {base : Nat} {v : Value} {ns : List Nm} {n : Nat} (hn : n = ns.length) (h : w.ownsRow base 9 1 v n (ns.map encStr)) :
    ∃ A cap, v = .slice A n cap ∧ ∀ i (hi : i < ns.length), ∃ b, A = some ⟨b, 0, none⟩ ∧ b < w.heap.size ∧ base ≤ b ∧ w.cell? ⟨b, i, none⟩ = some (.string (S ns[i])) ∧ w.frozen? ⟨b, i, none⟩ = false := by
  subst hn
  rcases h.2 with ⟨rfl, hn⟩ | ⟨g, cap, cur, rfl, hb, hg, h1, h2, h3, h4⟩
  · have hx : ns = [] := List.eq_nil_of_length_eq_zero hn
    subst hx
    exact ⟨none, 0, rfl, fun i hi => absurd hi (Nat.not_lt_zero _)⟩
  · refine ⟨some ⟨g, 0, none⟩, cap, rfl, fun i hi => ⟨g, rfl, row_lt hg, hb, ?_, frozen_row hg i⟩⟩
    rw [cell_row hg, ← Array.getElem?_toList]
    have : (ns.map encStr)[i]? = some (.string (S ns[i])) := by rw [List.getElem?_map, List.getElem?_eq_getElem hi]; rfl
    rw [← this, ← h4, List.getElem?_take, if_pos (by omega)]
theorem up_at {l : List (Nm × F)} (h : Up l) (i : Nat) (hi : i < l.length) : get l l[i].1 = some l[i].2 := (get_some h).2 (List.getElem_mem hi)

theorem slice_head (fb : List UInt8) (fg : Nat) (h : fg ≤ fb.length) (W : World) : (Instr.slice 9 (.string (S fb)) none (some (.int .i64 (fg : Int))) none).run Tryz.prog W = .ok (.string (S (fb.take fg))) W := by
  have y0 : (0 : Int) ≤ (fg : Int) := by omega
  have y1 : (fg : Int) ≤ ((S fb).size : Int) := by have := S_size fb; omega
  have y2 : fg ≤ (S fb).size := h
  rw [← S_take]
  go_simp
theorem slice_tail (fb : List UInt8) (fg : Nat) (h : fg ≤ fb.length) (W : World) : (Instr.slice 9 (.string (S fb)) (some (.int .i64 (fg : Int))) none none).run Tryz.prog W = .ok (.string (S (fb.drop fg))) W := by
  have y0 : (0 : Int) ≤ (fg : Int) := by omega
  have y1 : (fg : Int) ≤ ((S fb).size : Int) := by have := S_size fb; omega
  have y2 : fg ≤ (S fb).size := h
  rw [← S_drop]
  go_simp

set_option maxRecDepth 100000 in
set_option maxHeartbeats 2000000 in
theorem files_any (a b : Nat) (d : Dk) (w : World) (h : DkAt w a b d) :
    Calls Tryz.prog 28 #[.pointer (some ⟨a, 0, none⟩)] w fun z w' => ∃ v : Value, z = .returned v ∧ OwnFi w' w.heap.size v (told d.l) ∧ Below w.heap.size w w' := by
  have hmx : Tryz.prog.follows .mixedOrders = true := by kernel_rfl
  have HD := Lib.hid h
  have HN := Lib.hid (names_any a b d w h)
  clear h
  go_enter Tryz.func28, Tryz.ntmps28
  go_wp2_with fail
  refine HN.out.mono ?_
  rintro z W ⟨v, rfl, h1, h2⟩
  obtain ⟨A, cap, rfl, hat⟩ := names_at (List.length_map ..).symm h1
  have HAT := Lib.hid hat
  have HW := Lib.hid h2
  have HDW := Lib.hid (HD.out.below h2)
  have HL := Lib.hid HD.out.ok.len
  clear h1 h2 hat HN
  go_wp2_with fail
  go_loopw [3, 12] (fun x i wr => ∃ k : Nat, k ≤ d.l.length ∧ i = .int .i64 (k : Int) ∧ OwnFi wr W.heap.size x (told (d.l.take k)) ∧ Below W.heap.size W wr) (fun _ i _ => d.l.length - (intOf i).toNat)
  case atStart => exact ⟨0, Nat.zero_le _, rfl, ⟨rfl, Or.inl ⟨rfl, rfl⟩⟩, Below.refl _ _⟩
  case round =>
    obtain ⟨k, hk, rfl, hO, hB⟩ := hrel
    have HO := Lib.hid hO
    have HB := Lib.hid hB
    clear hO hB
    by_cases hlt : k < d.l.length
    · obtain ⟨nb, rfl, hb1, hb2, hc, -⟩ := HAT.out k (by simpa using hlt)
      have cn := (HB.out.cell (p := ⟨nb, k, none⟩) hb1).trans hc
      have hg := up_at HD.out.ok.up k hlt
      have HFO := Lib.hid (HD.out.ok.fs _ (List.getElem_mem hlt))
      have hl := (look_run (HDW.out.below HB.out).mp d.l[k].1 (by have := HD.out.ok.nm _ (List.getElem_mem hlt); simp only [mayN, Bool.and_eq_true, decide_eq_true_eq] at this; unfold maxLen; omega)).2
      obtain ⟨c0, c1, c2, c3, c4⟩ := (HDW.out.below HB.out).cell
      have HE := Lib.hid (show told (d.l.take (k + 1)) = told (d.l.take k) ++ [tell d.l[k]] by unfold told; rw [List.take_add_one, List.getElem?_eq_getElem hlt, List.map_append]; rfl)
      rw [hg] at hl
      simp only [List.getElem_map] at cn
      generalize d.l[k] = p at HFO hl HE cn hg
      obtain ⟨pn, fb, fg⟩ := p
      replace hl : (Instr.lookup 113 (.map (some b)) (.string (S pn)) false).run Tryz.prog wr = .ok (.agg #[.string (S fb), .int .i64 fg]) wr := hl
      have z0 : (0 : Int) ≤ (k : Int) := by omega
      have z1 : (k : Int) < (d.l.length : Int) := by omega
      have zk : IntKind.i64.wrap ((k : Int) + 1) = (k : Int) + 1 := by rw [IntKind.wrap_i64]; have := HL.out; omega
      have y2 : fg ≤ (S fb).size := HFO.out.1
      have hsl1 := slice_head fb fg HFO.out.1
      have hsl2 := slice_tail fb fg HFO.out.1
      clear hc hg hb2 hlt
      go_wp2_with fail
      clear hl c0 c1 c2 c3 c4 cn
      have f0 : (wr.alloc (.cells #[.string (S fb), .int .i64 (fg : Int)] 119)).cell? ⟨wr.heap.size, 0, none⟩ = some (.string (S fb)) := (bx_new wr _ _).cell 0
      have f1 : (wr.alloc (.cells #[.string (S fb), .int .i64 (fg : Int)] 119)).cell? ⟨wr.heap.size, 1, none⟩ = some (.int .i64 (fg : Int)) := (bx_new wr _ _).cell 1
      have f2 := bx_own wr #[.string (S fb), .int .i64 (fg : Int)] 119
      have hO := HO.out.new (.cells #[.string (S fb), .int .i64 (fg : Int)] 119)
      have hB := HB.out.alloc HB.out.size (.cells #[.string (S fb), .int .i64 (fg : Int)] 119)
      generalize wr.alloc (.cells #[.string (S fb), .int .i64 (fg : Int)] 119) = W1 at f0 f1 f2 hO hB ⊢
      have HOX : Hid (∀ o, OwnFi (W1.alloc o) W.heap.size u3 (told (d.l.take k))) := fun o => hO.new o
      have HXX : Hid (∀ o w', (W1.alloc o).drew.grownBy w' u3.ownBlock → Below W.heap.size W w' ∧ w'.cell? ⟨wr.heap.size, 0, none⟩ = some (.string (S fb)) ∧ w'.cell? ⟨wr.heap.size, 1, none⟩ = some (.int .i64 (fg : Int))) := fun o w' hg0 => by
        have hg : (W1.alloc o).grownBy w' u3.ownBlock := ⟨hg0.os, hg0.tape, hg0.output, hg0.size, hg0.block⟩
        have q := (hg.block wr.heap.size (by have := row_lt f2; simp; omega) (own_ne (hO.new o) ((Below.heap_alloc W1 o _ (row_lt f2)).trans f2) (by decide))).trans ((Below.heap_alloc W1 o _ (row_lt f2)).trans f2)
        exact ⟨(hB.alloc hB.size o).trans ((hO.new o).below_grown (Nat.le_refl _) (by have := hB.size; simp; omega) hg), cell_row q 0, cell_row q 1⟩
      have HSZ := Lib.hid (show (told (d.l.take k)).length ≤ 1000000 by have := HL.out; unfold told; rw [List.length_map, List.length_take]; omega)
      have HSB := Lib.hid (show ∀ o, W.heap.size ≤ (W1.alloc o).heap.size from fun o => by have := hB.size; simp; omega)
      clear hO hB f2
      go_region_held3 (fun w' => w'.cell? ⟨wr.heap.size, 0, none⟩ = some (.string (S fb)) ∧ w'.cell? ⟨wr.heap.size, 1, none⟩ = some (.int .i64 (fg : Int)))
        (first | assumption | (refine ⟨?_, ?_⟩ <;> assumption) | go_keep)
        ((first | (refine step_append_fi rfl _ _ rfl W.heap.size u3 _ rfl (HOX.out _) _ 1 ⟨pn, fb.take fg, fb.drop fg⟩ rfl (MapKept.heap_alloc W1 _).1 HSZ.out (HSB.out _) ?_; intro v' w' hO2 hg2; obtain ⟨hb2, e1, e2⟩ := HXX.out _ _ hg2)))
      all_goals
        have hO3 := (show OwnFi _ W.heap.size _ (told (d.l.take k) ++ [⟨pn, fb.take fg, fb.drop fg⟩]) by assumption)
        have hB3 := (show Below W.heap.size W _ by assumption)
        have HO3 := Lib.hid hO3
        have HB3 := Lib.hid hB3
        clear hO3 hB3
        go_wp2_with fail
        go_roundw
        case rel => exact ⟨k + 1, by omega, by go_num, by rw [HE.out]; exact HO3.out, HB3.out⟩
        case measure => simp [intOf] <;> omega
    · obtain rfl : k = d.l.length := by omega
      have z1 : ¬ ((d.l.length : Nat) : Int) < (d.l.length : Int) := by omega
      rw [List.take_length] at HO
      go_wp2_with fail
      go_ret
      exact ⟨_, rfl, ownsRow_base_a HO.out HW.out.size, HW.out.trans (HB.out.mono HW.out.size)⟩
end Go.Proofs.YticfnfekkmkclaaGreatDoor.Disk

/-
  Files that are handed in: whether they may be a disk's; Load, New.
-/
namespace Go.Proofs.YticfnfekkmkclaaGreatDoor.Disk
open Go Go.RowKit Go.Maps Go.Shelf Go.Proofs

def fiOk (l : List Fi) (i : Nat) : Bool :=
  (decide (i = 0) || bytesBefore (l.getD (i - 1) ⟨[], [], []⟩).n (l.getD i ⟨[], [], []⟩).n) && mayN (l.getD i ⟨[], [], []⟩).n && decide ((l.getD i ⟨[], [], []⟩).d.length + (l.getD i ⟨[], [], []⟩).p.length ≤ 1048576)
def mayFi (l : List Fi) : Bool := decide (l.length ≤ 64) && (List.range l.length).all (fiOk l)
def Short (l : List Fi) : Prop := ∀ x ∈ l, x.n.length ≤ 1000000000000000 ∧ x.d.length ≤ 1000000000000000 ∧ x.p.length ≤ 1000000000000000
theorem getD_at (l : List Fi) (i : Nat) (h : i < l.length) : l.getD i ⟨[], [], []⟩ = l[i] := by rw [List.getD_eq_getElem?_getD, List.getElem?_eq_getElem h]; rfl
theorem mayFi_yes {l : List Fi} (h1 : l.length ≤ 64) (h : ∀ i, i < l.length → fiOk l i = true) : mayFi l = true := by
  unfold mayFi
  rw [decide_eq_true h1, Bool.true_and, List.all_eq_true]
  exact fun j hj => h j (List.mem_range.1 hj)
theorem mayFi_no {l : List Fi} {i : Nat} (hi : i < l.length) (h : fiOk l i = false) : mayFi l = false := by
  unfold mayFi
  rw [show ((List.range l.length).all (fiOk l)) = false from List.all_eq_false.2 ⟨i, List.mem_range.2 hi, by rw [h]; simp⟩, Bool.and_false]
theorem yes_more {p : Nat → Bool} {k : Nat} (h : Hid (∀ j, j < k → p j = true)) (hk : p k = true) : Hid (∀ j, j < k + 1 → p j = true) := fun j hj => by
  by_cases e : j = k
  · exact e ▸ hk
  · exact h j (by omega)
theorem less_S (x y : Nm) : Op.bytesLess (S x).toList (S y).toList = bytesBefore x y := by rw [S_list, S_list, less_eq]

set_option maxRecDepth 100000 in
set_option maxHeartbeats 2000000 in
theorem mayBe_any (A : Option Addr) (cap : Nat) (l : List Fi) (hl : l.length ≤ 1000000000) (hsh : Short l) (w : World) (h : RowF w A l) :
    Calls Tryz.prog 69 #[.slice A l.length cap] w fun z w' => z = .returned (.bool (mayFi l)) ∧ Below w.heap.size w w' := by
  have hmx : Tryz.prog.follows .mixedOrders = true := by kernel_rfl
  have HR := Lib.hid h
  have HSH := Lib.hid hsh
  have HLL := Lib.hid hl
  clear h hsh hl
  by_cases hbig : 64 < l.length
  · have HM := Lib.hid (show mayFi l = false by unfold mayFi; rw [decide_eq_false (by omega)]; rfl)
    have z : (64 : Int) < (l.length : Int) := by omega
    have zd : decide ((64 : Int) < (l.length : Int)) = true := decide_eq_true z
    clear hbig
    go_enter Tryz.func69, Tryz.ntmps69
    go_wp2_with fail
    go_ret
    exact ⟨by rw [HM.out]; rfl, Below.refl _ _⟩
  · have z : ¬ (64 : Int) < (l.length : Int) := by omega
    have zd : decide ((64 : Int) < (l.length : Int)) = false := decide_eq_false z
    have HL := Lib.hid (show l.length ≤ 64 by omega)
    clear hbig
    go_enter Tryz.func69, Tryz.ntmps69
    go_wp2_with fail
    go_loopw [11] (fun i wr => ∃ k : Nat, k ≤ l.length ∧ i = .int .i64 (k : Int) ∧ Hid (∀ j, j < k → fiOk l j = true) ∧ Below w.heap.size w wr) (fun i _ => l.length - (intOf i).toNat)
    case atStart => exact ⟨0, Nat.zero_le _, rfl, fun j hj => absurd hj (Nat.not_lt_zero _), Below.refl _ _⟩
    case round =>
      obtain ⟨k, hk, rfl, HY, hB⟩ := hrel
      have HB := Lib.hid hB
      clear hB
      by_cases hlt : k < l.length
      · obtain ⟨nb, no, rfl, hb1, c0, c1, c2⟩ := (HR.out.below HB.out) k hlt
        have HE := Lib.hid (getD_at l k hlt)
        obtain ⟨s1, s2, s3⟩ := HSH.out _ (List.getElem_mem hlt)
        have HS1 := Lib.hid (Nat.le_trans s1 (show 1000000000000000 ≤ maxLen by unfold maxLen; omega))
        have z0 : (0 : Int) ≤ (k : Int) := by omega
        have z1 : (k : Int) < (l.length : Int) := by omega
        have zk : IntKind.i64.wrap ((k : Int) + 1) = (k : Int) + 1 := by rw [IntKind.wrap_i64]; have := HL.out; omega
        have hok : fiOk l k = ((decide (k = 0) || bytesBefore (l.getD (k - 1) ⟨[], [], []⟩).n l[k].n) && mayN l[k].n && decide (l[k].d.length + l[k].p.length ≤ 1048576)) := by rw [← HE.out]; rfl
        have HLT := Lib.hid hlt
        have hprev : ∀ q, k = q + 1 → ∃ pn : Nm, (l.getD (k - 1) ⟨[], [], []⟩).n = pn ∧ wr.cell? ⟨nb, no + q * 3, none⟩ = some (.string (S pn)) := fun q hq => by
          obtain ⟨nb', no', e, -, d0, -, -⟩ := (HR.out.below HB.out) q (by omega)
          injection e with e; injection e with e1 e2; subst e1; subst e2
          have e : k - 1 = q := by omega
          exact ⟨_, by rw [e, getD_at l q (by omega)], d0⟩
        generalize l[k] = x at c0 c1 c2 hok s1 s2 s3 HS1 HE
        obtain ⟨xn, xd, xp⟩ := x
        simp only at c0 c1 c2 hok s1 s2 s3 HS1
        have zs : IntKind.i64.wrap (((S xd).size : Int) + ((S xp).size : Int)) = ((S xd).size : Int) + ((S xp).size : Int) := by rw [IntKind.wrap_i64]; have := S_size xd; have := S_size xp; omega
        have HBN := Lib.hid (HB.out.alloc HB.out.size (.cells #[.string (S xn), .string (S xd), .string (S xp)] 71))
        have HMN := Lib.hid (fun W : World => mayN_any xn HS1.out W)
        have HNB := Lib.hid hb1
        clear hb1
        by_cases hrise : k = 0 ∨ bytesBefore (l.getD (k - 1) ⟨[], [], []⟩).n xn = true
        case neg =>
          have hk0 : ¬ k = 0 := fun h => hrise (Or.inl h)
          obtain ⟨q, hq⟩ : ∃ q, k = q + 1 := ⟨k - 1, by omega⟩
          obtain ⟨pn, e1, d0⟩ := hprev q hq
          have hr : bytesBefore pn xn = false := by
            rw [e1] at hrise
            cases hq : bytesBefore pn xn with
            | false => rfl
            | true => exact absurd (Or.inr hq) hrise
          have HM := Lib.hid (mayFi_no HLT.out (by rw [hok, e1, hr, decide_eq_false hk0]; rfl))
          have zq : IntKind.i64.wrap ((k : Int) - 1) = (q : Int) := by rw [IntKind.wrap_i64]; have := HL.out; have := HLT.out; omega
          have zb : Op.bytesLess (S pn).toList (S xn).toList = false := by rw [less_S, hr]
          have zz : ((k : Int) == 0) = false := by simp; omega
          have zz3 : ¬ k = 0 := by omega
          have zz4 : (k == 0) = false := by simp; omega
          have z2 : (0 : Int) ≤ (q : Int) := by omega
          have z3 : (q : Int) < (l.length : Int) := by have := HLT.out; omega
          have d1 : (wr.alloc (.cells #[.string (S xn), .string (S xd), .string (S xp)] 71)).cell? ⟨nb, no + q * 3, none⟩ = some (.string (S pn)) := (Below.cell ((Below.refl wr.heap.size wr).alloc (Nat.le_refl _) _) (HNB.out)).trans d0
          have HQ := Lib.hid hq
          clear hrise hprev hok hr e1 hk0 hq
          go_wp2_with fail
          go_quiet (fail)
          go_wp2_with fail
          go_ret
          exact ⟨by rw [HM.out]; rfl, HBN.out.trans (below_dn _ _ _)⟩
        case pos =>
          by_cases hk0 : k = 0
          · subst hk0
            have hok2 : fiOk l 0 = (mayN xn && decide (xd.length + xp.length ≤ 1048576)) := by rw [hok]; simp
            have HRI := Lib.hid hrise
            clear hok hprev hrise
            simp only [Nat.zero_mul, Nat.add_zero] at c0 c1 c2
            cases hm : mayN xn with
            | false =>
              have HM := Lib.hid (mayFi_no HLT.out (by rw [hok2, hm]; rfl))
              clear hok2
              go_wp2_with fail
              go_quiet (fail)
              go_wp2_with fail
              refine (HMN.out _).mono ?_
              rintro z w2 ⟨rfl, hb⟩
              have HB2 := Lib.hid ((HBN.out.trans (below_dn _ _ _)).trans (hb.mono HBN.out.size))
              have HBX := Lib.hid (((bx_new wr #[.string (S xn), .string (S xd), .string (S xp)] 71).dn _).below hb)
              have f1 : w2.cell? ⟨wr.heap.size, 1, none⟩ = some (.string (S xd)) := HBX.out.cell 1
              have f2 : w2.cell? ⟨wr.heap.size, 2, none⟩ = some (.string (S xp)) := HBX.out.cell 2
              clear hb
              rw [hm]
              go_wp2_with fail
              go_ret
              exact ⟨by rw [HM.out]; rfl, HB2.out⟩
            | true =>
              by_cases hsz : 1048576 < xd.length + xp.length
              · have HM := Lib.hid (mayFi_no HLT.out (by rw [hok2, hm, decide_eq_false (by omega)]; rfl))
                have zx : decide ((1048576 : Int) < ((S xd).size : Int) + ((S xp).size : Int)) = true := decide_eq_true (by have := S_size xd; have := S_size xp; omega)
                have zx2 : (1048576 : Int) < ((S xd).size : Int) + ((S xp).size : Int) := by have := S_size xd; have := S_size xp; omega
                clear hok2 hsz
                go_wp2_with fail
                go_quiet (fail)
                go_wp2_with fail
                refine (HMN.out _).mono ?_
                rintro z w2 ⟨rfl, hb⟩
                have HB2 := Lib.hid ((HBN.out.trans (below_dn _ _ _)).trans (hb.mono HBN.out.size))
                have HBX := Lib.hid (((bx_new wr #[.string (S xn), .string (S xd), .string (S xp)] 71).dn _).below hb)
                have f1 : w2.cell? ⟨wr.heap.size, 1, none⟩ = some (.string (S xd)) := HBX.out.cell 1
                have f2 : w2.cell? ⟨wr.heap.size, 2, none⟩ = some (.string (S xp)) := HBX.out.cell 2
                clear hb
                rw [hm]
                go_wp2_with fail
                go_ret
                exact ⟨by rw [HM.out]; rfl, HB2.out⟩
              · have HK := Lib.hid (show fiOk l 0 = true by rw [hok2, hm, decide_eq_true (by omega)]; rfl)
                have zx : decide ((1048576 : Int) < ((S xd).size : Int) + ((S xp).size : Int)) = false := decide_eq_false (by have := S_size xd; have := S_size xp; omega)
                have zx2 : ¬ (1048576 : Int) < ((S xd).size : Int) + ((S xp).size : Int) := by have := S_size xd; have := S_size xp; omega
                clear hok2 hsz
                go_wp2_with fail
                go_quiet (fail)
                go_wp2_with fail
                refine (HMN.out _).mono ?_
                rintro z w2 ⟨rfl, hb⟩
                have HB2 := Lib.hid ((HBN.out.trans (below_dn _ _ _)).trans (hb.mono HBN.out.size))
                have HBX := Lib.hid (((bx_new wr #[.string (S xn), .string (S xd), .string (S xp)] 71).dn _).below hb)
                have f1 : w2.cell? ⟨wr.heap.size, 1, none⟩ = some (.string (S xd)) := HBX.out.cell 1
                have f2 : w2.cell? ⟨wr.heap.size, 2, none⟩ = some (.string (S xp)) := HBX.out.cell 2
                clear hb
                rw [hm]
                go_wp2_with fail
                go_roundw
                case rel => exact ⟨0 + 1, by have := HLT.out; omega, by go_num, yes_more HY HK.out, HB2.out⟩
                case measure => have := HLT.out; simp [intOf] <;> omega
          · obtain ⟨q, hq⟩ : ∃ q, k = q + 1 := ⟨k - 1, by omega⟩
            obtain ⟨pn, e1, d0⟩ := hprev q hq
            have hr : bytesBefore pn xn = true := by
              rw [e1] at hrise
              exact hrise.resolve_left hk0
            have hok2 : fiOk l k = (mayN xn && decide (xd.length + xp.length ≤ 1048576)) := by rw [hok, e1, hr]; simp
            have zq : IntKind.i64.wrap ((k : Int) - 1) = (q : Int) := by rw [IntKind.wrap_i64]; have := HL.out; have := HLT.out; omega
            have zb : Op.bytesLess (S pn).toList (S xn).toList = true := by rw [less_S, hr]
            have zz : ((k : Int) == 0) = false := by simp; omega
            have zz3 : ¬ k = 0 := by omega
            have zz4 : (k == 0) = false := by simp; omega
            have z2 : (0 : Int) ≤ (q : Int) := by omega
            have z3 : (q : Int) < (l.length : Int) := by have := HLT.out; omega
            have d1 : (wr.alloc (.cells #[.string (S xn), .string (S xd), .string (S xp)] 71)).cell? ⟨nb, no + q * 3, none⟩ = some (.string (S pn)) := (Below.cell ((Below.refl wr.heap.size wr).alloc (Nat.le_refl _) _) (HNB.out)).trans d0
            have HQ := Lib.hid hq
            clear hrise hprev hok hr e1 hk0 hq
            cases hm : mayN xn with
            | false =>
              have HM := Lib.hid (mayFi_no HLT.out (by rw [hok2, hm]; rfl))
              clear hok2
              go_wp2_with fail
              go_quiet (fail)
              go_wp2_with fail
              refine (HMN.out _).mono ?_
              rintro z w2 ⟨rfl, hb⟩
              have HB2 := Lib.hid ((HBN.out.trans (below_dn _ _ _)).trans (hb.mono HBN.out.size))
              have HBX := Lib.hid (((bx_new wr #[.string (S xn), .string (S xd), .string (S xp)] 71).dn _).below hb)
              have f1 : w2.cell? ⟨wr.heap.size, 1, none⟩ = some (.string (S xd)) := HBX.out.cell 1
              have f2 : w2.cell? ⟨wr.heap.size, 2, none⟩ = some (.string (S xp)) := HBX.out.cell 2
              clear hb
              rw [hm]
              go_wp2_with fail
              go_ret
              exact ⟨by rw [HM.out]; rfl, HB2.out⟩
            | true =>
              by_cases hsz : 1048576 < xd.length + xp.length
              · have HM := Lib.hid (mayFi_no HLT.out (by rw [hok2, hm, decide_eq_false (by omega)]; rfl))
                have zx : decide ((1048576 : Int) < ((S xd).size : Int) + ((S xp).size : Int)) = true := decide_eq_true (by have := S_size xd; have := S_size xp; omega)
                have zx2 : (1048576 : Int) < ((S xd).size : Int) + ((S xp).size : Int) := by have := S_size xd; have := S_size xp; omega
                clear hok2 hsz
                go_wp2_with fail
                go_quiet (fail)
                go_wp2_with fail
                refine (HMN.out _).mono ?_
                rintro z w2 ⟨rfl, hb⟩
                have HB2 := Lib.hid ((HBN.out.trans (below_dn _ _ _)).trans (hb.mono HBN.out.size))
                have HBX := Lib.hid (((bx_new wr #[.string (S xn), .string (S xd), .string (S xp)] 71).dn _).below hb)
                have f1 : w2.cell? ⟨wr.heap.size, 1, none⟩ = some (.string (S xd)) := HBX.out.cell 1
                have f2 : w2.cell? ⟨wr.heap.size, 2, none⟩ = some (.string (S xp)) := HBX.out.cell 2
                clear hb
                rw [hm]
                go_wp2_with fail
                go_ret
                exact ⟨by rw [HM.out]; rfl, HB2.out⟩
              · have HK := Lib.hid (show fiOk l k = true by rw [hok2, hm, decide_eq_true (by omega)]; rfl)
                have zx : decide ((1048576 : Int) < ((S xd).size : Int) + ((S xp).size : Int)) = false := decide_eq_false (by have := S_size xd; have := S_size xp; omega)
                have zx2 : ¬ (1048576 : Int) < ((S xd).size : Int) + ((S xp).size : Int) := by have := S_size xd; have := S_size xp; omega
                clear hok2 hsz
                go_wp2_with fail
                go_quiet (fail)
                go_wp2_with fail
                refine (HMN.out _).mono ?_
                rintro z w2 ⟨rfl, hb⟩
                have HB2 := Lib.hid ((HBN.out.trans (below_dn _ _ _)).trans (hb.mono HBN.out.size))
                have HBX := Lib.hid (((bx_new wr #[.string (S xn), .string (S xd), .string (S xp)] 71).dn _).below hb)
                have f1 : w2.cell? ⟨wr.heap.size, 1, none⟩ = some (.string (S xd)) := HBX.out.cell 1
                have f2 : w2.cell? ⟨wr.heap.size, 2, none⟩ = some (.string (S xp)) := HBX.out.cell 2
                clear hb
                rw [hm]
                go_wp2_with fail
                go_roundw
                case rel => exact ⟨k + 1, by have := HLT.out; omega, by go_num, yes_more HY HK.out, HB2.out⟩
                case measure => have := HLT.out; simp [intOf] <;> omega
      · obtain rfl : k = l.length := by omega
        have z1 : ¬ ((l.length : Nat) : Int) < (l.length : Int) := by omega
        have HM := Lib.hid (mayFi_yes HL.out HY.out)
        go_wp2_with fail
        go_ret
        exact ⟨by rw [HM.out]; rfl, HB.out⟩
end Go.Proofs.YticfnfekkmkclaaGreatDoor.Disk
