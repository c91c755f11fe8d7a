import Derived.Test.YtddjoealckhepaaE
import Derived.Test.YtddjoealckhepaaN
import Derived.Test.YtddjoealckhepaaU
import Derived.BigRegion
/-
  What is done to a disk: Create, Sync, Delete.
-/
namespace Go.Proofs.Ytddjoealckhepaa.Disk
open Go Go.RowKit Go.Maps

theorem Dk.ok.put {d : Dk} (h : d.ok) {n : Nm} (hn : mayN n = true) {f : F} (hf : f.ok) (hl : (Disk.put n f d.l).length ≤ 64) (hu : Disk.used (Disk.put n f d.l) ≤ d.cap) : ({ d with l := Disk.put n f d.l } : Dk).ok :=
  { h with
    up := h.up.put n f
    fs := fun p hp => by rcases (mem_put ..).1 hp with rfl | ⟨h1, _⟩; exact hf; exact h.fs p h1
    nm := fun p hp => by rcases (mem_put ..).1 hp with rfl | ⟨h1, _⟩; exact hn; exact h.nm p h1
    len := hl
    used := hu }
theorem Dk.ok.del {d : Dk} (h : d.ok) (n : Nm) : ({ d with l := Disk.del n d.l } : Dk).ok :=
  { h with
    up := h.up.del n
    fs := fun p hp => h.fs p ((mem_del ..).1 hp).1
    nm := fun p hp => h.nm p ((mem_del ..).1 hp).1
    len := Nat.le_trans (del_len _ _) h.len
    used := by
      refine Nat.le_trans ?_ h.used
      cases hg : get d.l n with
      | none => exact Nat.le_of_eq (tot_del_none _ hg)
      | some f => exact Nat.le_trans (Nat.le_add_right _ _) (Nat.le_of_eq (tot_del h.up (fun f => f.b.length) hg)) }
theorem Dk.ok.step {d : Dk} (h : d.ok) : ({ d with left := d.left - 1 } : Dk).ok := { h with left := Nat.le_trans (Nat.sub_le _ _) h.left, cut := fun hc => by rw [show d.left = 0 from h.cut hc] }
theorem used_put {l : List (Nm × F)} (h : Up l) (n : Nm) (f : F) : used (put n f l) + ((get l n).getD f0).b.length = used l + f.b.length := by
  have := tot_put h (fun f => f.b.length) n f
  unfold used
  cases hg : get l n with
  | none => rw [hg] at this; simpa [f0] using this
  | some v => rw [hg] at this; simpa using this

def Res (a b : Nat) (r : Nat × Dk) (w : World) (z : Ending) (w' : World) : Prop := z = .returned (.int .i64 (r.1 : Int)) ∧ DkAt w' a b r.2 ∧ Tn a b w w'
def createD (d : Dk) (n : Nm) : Nat × Dk :=
  if d.gone then (45, d) else if mayN n = false then (4, d) else if (get d.l n).isSome then (6, d) else if 64 ≤ d.l.length then (44, d) else (cntE d, cntD d (put n f0 d.l))
theorem res_stay {a b : Nat} {d : Dk} {w w' : World} {k : Nat} {r : Nat × Dk} (hr : r = (k, d)) (h : DkAt w' a b d) (ht : Tn a b w w') : Res a b r w (.returned (.int .i64 (k : Int))) w' := by
  subst hr; exact ⟨rfl, h, ht⟩

set_option maxRecDepth 100000 in
set_option maxHeartbeats 1000000 in
theorem create_any (a b : Nat) (d : Dk) (n : Nm) (hn : n.length ≤ maxLen) (w : World) (h : DkAt w a b d) :
    Calls Try.prog 17 #[.pointer (some ⟨a, 0, none⟩), .string (S n)] w (Res a b (createD d n) w) := by
  have hmx : Try.prog.follows .mixedOrders = true := by kernel_rfl
  have eg := enters_of Try.func49 (by kernel_rfl) rfl
  have HA := Lib.hid h.lt.1
  have HN := Lib.hid hn
  have HX : Hid (∀ W0, W0 = (w.alloc (.cells #[.pointer (some ⟨a, 0, none⟩)] 25)).alloc (.cells #[.string (S n)] 9) → DkAt W0 a b d ∧ Bx W0 w.heap.size #[.pointer (some ⟨a, 0, none⟩)] ∧ Bx W0 (w.heap.size + 1) #[.string (S n)] ∧ Tn a b w W0) := fun W0 e => by
    subst e
    refine ⟨(h.new _).new _, (bx_new _ _ _).new _, ?_, ((Tn.refl _ _ _).new _).new _⟩
    have := bx_new (w.alloc (.cells #[.pointer (some ⟨a, 0, none⟩)] 25)) #[.string (S n)] 9
    simpa using this
  clear h hn
  go_enter Try.func17, Try.ntmps17
  go_wp2_with fail
  generalize hW : (w.alloc (.cells #[.pointer (some ⟨a, 0, none⟩)] 25)).alloc (.cells #[.string (S n)] 9) = W0
  obtain ⟨h1, h2, h3, h4⟩ := HX.out W0 hW.symm
  have HD := Lib.hid h1
  have HB0 := Lib.hid h2
  have HB1 := Lib.hid h3
  have HT := Lib.hid h4
  clear HX hW h1 h2 h3 h4
  refine (refusal_any a b d W0 HD.out).mono ?_
  rintro z w1 ⟨rfl, rfl⟩
  have e0 := HB0.out.cell 0
  have e1 := HB1.out.cell 0
  obtain ⟨c0, c1, c2, c3, c4⟩ := HD.out.cell
  simp only [List.getElem?_toArray, List.getElem?_cons_zero] at e0 e1
  cases hg : d.gone with
  | true =>
    rw [show refus d = 45 by simp [refus, hg]]
    have HR := Lib.hid (show createD d n = (45, d) by simp [createD, hg])
    clear hg c0 c1 c2 c3 c4
    go_wp2_with fail
    go_ret
    exact res_stay HR.out HD.out HT.out
  | false =>
    rw [show refus d = 0 by simp [refus, hg]]
    have HG := Lib.hid hg
    clear hg
    go_wp2_with fail
    refine (mayN_any n HN.out w1).mono ?_
    rintro z w2 ⟨rfl, hb⟩
    replace HD := Lib.hid (HD.out.below hb)
    replace HB0 := Lib.hid (HB0.out.below hb)
    replace HB1 := Lib.hid (HB1.out.below hb)
    replace HT := Lib.hid (HT.out.step hb)
    clear e0 e1 c0 c1 c2 c3 c4 hb
    have e0 := HB0.out.cell 0
    have e1 := HB1.out.cell 0
    obtain ⟨c0, c1, c2, c3, c4⟩ := HD.out.cell
    simp only [List.getElem?_toArray, List.getElem?_cons_zero] at e0 e1
    cases hm : mayN n with
    | false =>
      have HR := Lib.hid (show createD d n = (4, d) by simp [createD, HG.out, hm])
      clear hm
      go_wp2_with fail
      go_ret
      exact res_stay HR.out HD.out HT.out
    | true =>
      have HM := Lib.hid hm
      have f0 : ∀ o, (w2.alloc o).cell? ⟨w.heap.size, 0, none⟩ = some (.pointer (some ⟨a, 0, none⟩)) := fun o => (HB0.out.new o).cell 0
      have f1 : ∀ o, (w2.alloc o).cell? ⟨w.heap.size + 1, 0, none⟩ = some (.string (S n)) := fun o => (HB1.out.new o).cell 0
      have g1 : ∀ o, (w2.alloc o).cell? ⟨a, 1, none⟩ = some (.map (some b)) := fun o => (HD.out.new o).cell.2.1
      have hl1 := (look_run (HD.out.same (w' := w2.drew) rfl rfl).mp n HN.out).1
      have hl2 : ∀ o, _ := fun o => (look_run ((HD.out.new o).same (w' := (w2.alloc o).drew) rfl rfl).mp n HN.out).1
      cases hf : get d.l n with
      | some f =>
        have HR := Lib.hid (show createD d n = (6, d) by simp [createD, HG.out, hm, hf])
        obtain ⟨fb, fg⟩ := f
        rw [hf] at hl1 hl2
        simp only [Option.getD_some, Option.isSome_some, fV] at hl1 hl2
        clear hm hf
        go_wp2_with fail
        go_region
        all_goals
          go_wp2_with fail
          go_ret
          exact res_stay HR.out ((HD.out.new _).same rfl rfl) ((HT.out.new _).dn 1)
      | none =>
        rw [hf] at hl1 hl2
        simp only [Option.getD_none, Option.isSome_none, fV, Disk.f0, S] at hl1 hl2
        replace hl1 : (Instr.lookup 83 (.map (some b)) (.string (S n)) true).run Try.prog w2.drew = .ok (.tuple #[.agg #[.string ⟨#[]⟩, .int .i64 0], .bool false]) w2.drew := hl1
        replace hl2 : ∀ o, (Instr.lookup 83 (.map (some b)) (.string (S n)) true).run Try.prog (w2.alloc o).drew = .ok (.tuple #[.agg #[.string ⟨#[]⟩, .int .i64 0], .bool false]) (w2.alloc o).drew := hl2
        have HF := Lib.hid hf
        clear hm hf
        go_wp2_with fail
        go_region
        all_goals
          clear hl1 hl2 f0 f1 g1 e0 e1 c0 c1 c2 c3 c4
          generalize hW : (w2.alloc (.cells #[.string ⟨#[]⟩, .int .i64 0] 78)).drew = W3
          have HD3 := Lib.hid (show DkAt W3 a b d by rw [← hW]; exact (HD.out.new _).same rfl rfl)
          have HT3 := Lib.hid (show Tn a b w W3 by rw [← hW]; exact (HT.out.new _).dn 1)
          have HB03 := Lib.hid (show Bx W3 w.heap.size #[.pointer (some ⟨a, 0, none⟩)] by rw [← hW]; exact HB0.out.new _)
          have HB13 := Lib.hid (show Bx W3 (w.heap.size + 1) #[.string (S n)] by rw [← hW]; exact HB1.out.new _)
          clear hW
          have e0 := HB03.out.cell 0
          have e1 := HB13.out.cell 0
          obtain ⟨c0, c1, c2, c3, c4⟩ := HD3.out.cell
          simp only [List.getElem?_toArray, List.getElem?_cons_zero] at e0 e1
          have hln := fun ty => len_run HD3.out.mp ty
          by_cases h64 : 64 ≤ d.l.length
          · have HR := Lib.hid (show createD d n = (44, d) by simp [createD, HG.out, HM.out, HF.out, h64])
            have z : (64 : Int) ≤ (d.l.length : Int) := by omega
            clear h64
            go_wp2_with fail
            go_ret
            exact res_stay HR.out HD3.out HT3.out
          · have HR := Lib.hid (show createD d n = (cntE d, cntD d (put n Disk.f0 d.l)) by simp [createD, HG.out, HM.out, HF.out, h64])
            have z : ¬ (64 : Int) ≤ (d.l.length : Int) := by omega
            have HO := Lib.hid (show ({ d with left := d.left - 1, l := put n Disk.f0 d.l } : Dk).ok from by
              refine (HD3.out.ok.step).put HM.out f0_ok ?_ ?_
              · have := put_len HD3.out.ok.up n Disk.f0
                rw [HF.out] at this
                simp only [Option.isSome_none, Bool.false_eq_true, if_false] at this
                show (put n Disk.f0 d.l).length ≤ 64
                omega
              · have := used_put HD3.out.ok.up n Disk.f0
                rw [HF.out] at this
                have h2 := HD3.out.ok.used
                show used (put n Disk.f0 d.l) ≤ d.cap
                simp [Disk.f0] at this
                simp only [Disk.f0]
                omega)
            have HC := Lib.hid (count_any a b 49 #[.pointer (some ⟨w.heap.size, 0, none⟩), .pointer (some ⟨w.heap.size + 1, 0, none⟩)] d (put n Disk.f0 d.l) W3 HD3.out eg (fun W hW ht =>
              create1_any a b _ _ { d with left := d.left - 1 } n HN.out W hW (HB03.out.tn HD3.out (by have := HA.out; omega) ht) (HB13.out.tn HD3.out (by have := HA.out; omega) ht) HO.out))
            clear h64 eg
            go_wp2_with fail
            refine HC.out.mono ?_
            rintro z w4 ⟨rfl, h5, h6⟩
            have H5 := Lib.hid h5
            have H6 := Lib.hid h6
            clear h5 h6
            go_wp2_with fail
            go_ret
            rw [HR.out]
            exact ⟨rfl, H5.out, HT3.out.trans H6.out⟩
end Go.Proofs.Ytddjoealckhepaa.Disk
