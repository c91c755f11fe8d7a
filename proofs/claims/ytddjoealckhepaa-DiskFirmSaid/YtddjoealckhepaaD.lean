import Derived.Test.YtddjoealckhepaaC
import Derived.Laws.IdiomStrings
import Derived.Lib.Strings
import Derived.Deep.RegionHeld3
/-
  What is done to a disk's map, and the one that counts it.
-/
namespace Go.Proofs.Ytddjoealckhepaa.Disk
open Go Go.RowKit Go.Maps

theorem S_take (l : List UInt8) (n : Nat) : (S l).extract 0 n = S (l.take n) := by
  apply ByteArray.ext
  apply Array.ext'
  rw [ByteArray.data_extract]
  simp [S]
theorem S_drop (l : List UInt8) (n : Nat) : (S l).extract n (S l).size = S (l.drop n) := by
  apply ByteArray.ext
  apply Array.ext'
  rw [ByteArray.data_extract, S_size]
  simp [S, List.take_of_length_le]
theorem S_app (l m : List UInt8) : S l ++ S m = S (l ++ m) := by
  apply ByteArray.ext
  apply Array.ext'
  rw [ByteArray.data_append]
  simp [S]
/-- the world behind a store into a map -/
noncomputable def upd (b : Nat) (n : Nm) (f : F) (w : World) : World := match (Instr.mapUpdate 83 (.map (some b)) (.string (S n)) (fV f)).run Try.prog w with | .ok _ w' => w' | _ => w
theorem upd_run {w : World} {a b : Nat} {d : Dk} (h : DkAt w a b d) (n : Nm) (hn : n.length ≤ maxLen) (f : F) (hf : f.ok) :
    (Instr.mapUpdate 83 (.map (some b)) (.string (S n)) (fV f)).run Try.prog w = .ok () (upd b n f w) ∧ ∃ m, (upd b n f w).ownsMap Try.prog 9 fileR b m ((toD fD d.l).put (.string n) (fD f)) ∧ w.mapTurned (upd b n f w) b := by
  obtain ⟨w', h1, h2, h3⟩ := h.mp.store tkeyed tmap (by have := h.ok.len; unfold maxLen; omega) (tkey n hn) (fileR_mk hf)
  have e : upd b n f w = w' := by unfold upd; rw [h1]
  rw [e]
  exact ⟨h1, _, h2, h3⟩
/-- ahead of the store, or behind it -/
def Ph (a b : Nat) (d : Dk) (l : List (Nm × F)) (W w' : World) : Prop := (Below W.heap.size W w' ∧ DkAt w' a b d) ∨ (Tn a b W w' ∧ DkAt w' a b { d with l := l })
theorem Ph.tn {a b : Nat} {d : Dk} {l : List (Nm × F)} {W w' : World} (h : Ph a b d l W w') : Tn a b W w' := h.elim (fun h => Tn.of h.1) (fun h => h.1)
theorem Ph.map {a b : Nat} {d : Dk} {l : List (Nm × F)} {W w' : World} (h : Ph a b d l W w') : w'.cell? ⟨a, 1, none⟩ = some (.map (some b)) := h.elim (fun h => h.2.cell.2.1) (fun h => h.2.cell.2.1)
theorem Ph.step {a b : Nat} {d : Dk} {l : List (Nm × F)} {W w w' : World} (h : Ph a b d l W w) (hb : Below w.heap.size w w') : Ph a b d l W w' :=
  h.imp (fun h => ⟨below_step h.1 hb, h.2.below hb⟩) (fun h => ⟨h.1.step hb, h.2.below hb⟩)
theorem Ph.run {a b : Nat} {d : Dk} {l : List (Nm × F)} {W w' : World} (h : Ph a b d l W w') (n : Nm) (hn : n.length ≤ maxLen) (f : F) (hf : f.ok) :
    (Instr.mapUpdate 83 (.map (some b)) (.string (S n)) (fV f)).run Try.prog w' = .ok () (upd b n f w') := h.elim (fun h => (upd_run h.2 n hn f hf).1) (fun h => (upd_run h.2 n hn f hf).1)
theorem ph_put {a b : Nat} {d : Dk} {W w' : World} (n : Nm) (hn : n.length ≤ maxLen) (f : F) (hf : f.ok) (hup : Up d.l) (hok : ({ d with l := put n f d.l } : Dk).ok) (h : Ph a b d (put n f d.l) W w') :
    Ph a b d (put n f d.l) W (upd b n f w') ∧ DoneBy a b d (put n f d.l) W (.returned (.tuple #[])) (upd b n f w') := by
  have key : Tn a b W (upd b n f w') ∧ DkAt (upd b n f w') a b { d with l := put n f d.l } := by
    rcases h with ⟨h1, h2⟩ | ⟨h1, h2⟩
    · obtain ⟨-, m, h3, h4⟩ := upd_run h2 n hn f hf
      exact ⟨(Tn.of h1).trans (Tn.map h4), h2.put n f h3 h4 hok⟩
    · obtain ⟨-, m, h3, h4⟩ := upd_run h2 n hn f hf
      have h5 := h2.put n f h3 h4
      simp only [put_put hup] at h5
      exact ⟨h1.trans (Tn.map h4), h5 hok⟩
  exact ⟨Or.inr key, rfl, key.2, key.1⟩
theorem F.ok.upTo {f : F} (h : f.ok) {n : Nat} (hn : n ≤ f.b.length) : (⟨f.b.take n, n⟩ : F).ok := ⟨by simp [Nat.min_eq_left hn], by have := h.2; simp only [List.length_take]; omega⟩

set_option maxRecDepth 100000 in
set_option maxHeartbeats 1000000 in
theorem upTo_any (f : F) (hf : f.ok) (n : Nat) (hn : n ≤ f.b.length) (w : World) :
    Calls Try.prog 52 #[fV f, .int .i64 (n : Int)] w fun z w' => z = .returned (fV ⟨f.b.take n, n⟩) ∧ Below w.heap.size w w' := by
  obtain ⟨fb, fg⟩ := f
  have HE := Lib.hid (S_take fb n)
  have hb : fb.length ≤ 1048576 := hf.2
  have hn0 : (0 : Int) ≤ (n : Int) := by omega
  have hn1 : (n : Int) ≤ ((S fb).size : Int) := by have := S_size fb; simp only at hn; omega
  have hn2 : n ≤ (S fb).size := hn
  clear hf hn
  unfold fV
  go_enter Try.func52, Try.ntmps52
  go_wp2_with fail
  rw [HE.out]
  go_wp2_with fail
  refine bodyPost_ret (v := .agg #[.string (S (fb.take n)), .int .i64 n]) (by simp [results, Try.results52, go_sem]) rfl ?_
  exact ⟨rfl, below2 _ _ _⟩

set_option maxRecDepth 100000 in
set_option maxHeartbeats 1000000 in
theorem append1_any (a b k0 k1 k2 k3 : Nat) (d : Dk) (n : Nm) (hn : n.length ≤ maxLen) (fb : List UInt8) (fg : Nat) (s : List UInt8) (hf : (⟨fb ++ s, fg⟩ : F).ok) (W : World) (h : DkAt W a b d) (h0 : Bx W k0 #[.string (S fb), .int .i64 (fg : Int)]) (h1 : Bx W k1 #[.string (S s)]) (h2 : Bx W k2 #[.pointer (some ⟨a, 0, none⟩)]) (h3 : Bx W k3 #[.string (S n)]) (hok : ({ d with l := put n ⟨fb ++ s, fg⟩ d.l } : Dk).ok) :
    Calls Try.prog 50 #[.pointer (some ⟨k0, 0, none⟩), .pointer (some ⟨k1, 0, none⟩), .pointer (some ⟨k2, 0, none⟩), .pointer (some ⟨k3, 0, none⟩)] W (DoneBy a b d (put n ⟨fb ++ s, fg⟩ d.l) W) := by
  have hmx : Try.prog.follows .mixedOrders = true := by kernel_rfl
  have e0a := h0.cell 0
  have e0b := h0.cell 1
  simp only [List.getElem?_toArray, List.getElem?_cons_zero, List.getElem?_cons_succ] at e0a e0b
  have e1 := h1.cell 0
  simp only [List.getElem?_toArray, List.getElem?_cons_zero] at e1
  have e2 := h2.cell 0
  simp only [List.getElem?_toArray, List.getElem?_cons_zero] at e2
  have e3 := h3.cell 0
  simp only [List.getElem?_toArray, List.getElem?_cons_zero] at e3
  obtain ⟨c0, c1, c2, c3, c4⟩ := h.cell
  have HD := Lib.hid h
  have HK := Lib.hid (tkey n hn)
  have HO := Lib.hid hok
  have HF := Lib.hid hf
  have z1 : (S fb).size ≤ 1048576 := by have := hf.2; simp only [List.length_append] at this; have := S_size fb; omega
  have z2 : (S s).size ≤ 1048576 := by have := hf.2; simp only [List.length_append] at this; have := S_size s; omega
  have hadd : ∀ w : World, (Op.stringOp .add (S fb) (S s)).run Try.prog w = .ok (.string (S (fb ++ s))) w := fun w => by
    rw [← S_app]
    have : ((S fb).size : Int) + ((S s).size : Int) ≤ 9223372036854775807 := by omega
    simp [Op.stringOp, this, go_sem]
  clear h hn hok hf z1 z2
  go_enter Try.func50, Try.ntmps50
  go_wp2_with fail
  go_still_tail 12, (by kernel_rfl)
  change wpList _ _ _ _ _ (W.drewN 1)
  generalize hW : W.drewN 1 = W1
  have HT := Lib.hid (show Tn a b W W1 by rw [← hW]; exact (Tn.refl a b W).dn 1)
  have HD1 := Lib.hid (show DkAt W1 a b d by rw [← hW]; exact HD.out.dn 1)
  clear hW c0 c1 c2 c3 c4 e0a e0b e1 e2 e3 h0 h1 h2 h3 hadd
  go_wp2_with (at_mapUpdate; refine wpList_mapUpdate_in _ rfl _ _ _ 83 rfl 9 78 tkeyed tmap fileR b _ (toD fD d.l) rfl HD1.out.mp (by have := HD1.out.ok.len; unfold maxLen; omega) _ _ (.string n) rfl rfl HK.out (fD ⟨fb ++ s, fg⟩) [] (fileR_mk HF.out) ?_; intro w1 hown hturn)
  go_end0
  exact ⟨rfl, HD1.out.put n _ hown hturn HO.out, HT.out.trans (Tn.map hturn)⟩

set_option maxRecDepth 100000 in
set_option maxHeartbeats 1000000 in
theorem sync1_any (a b k0 k1 k2 : Nat) (d : Dk) (n : Nm) (hn : n.length ≤ maxLen) (fb : List UInt8) (fg : Nat) (hf : (⟨fb, fg⟩ : F).ok) (W : World) (h : DkAt W a b d) (h0 : Bx W k0 #[.string (S fb), .int .i64 (fg : Int)]) (h1 : Bx W k1 #[.pointer (some ⟨a, 0, none⟩)]) (h2 : Bx W k2 #[.string (S n)]) (e0 : k0 ≠ a) (e1 : k1 ≠ a) (e2 : k2 ≠ a) (hok : ({ d with l := put n ⟨fb, fb.length⟩ d.l } : Dk).ok) :
    Calls Try.prog 51 #[.pointer (some ⟨k0, 0, none⟩), .pointer (some ⟨k1, 0, none⟩), .pointer (some ⟨k2, 0, none⟩)] W (DoneBy a b d (put n ⟨fb, fb.length⟩ d.l) W) := by
  have hmx : Try.prog.follows .mixedOrders = true := by kernel_rfl
  have HS : Hid (∀ w' : World, Ph a b d (put n ⟨fb, fb.length⟩ d.l) W w' → Ph a b d (put n ⟨fb, fb.length⟩ d.l) W w' ∧ w'.cell? ⟨a, 1, none⟩ = some (.map (some b)) ∧ w'.cell? ⟨k0, 0, none⟩ = some (.string (S fb)) ∧ w'.cell? ⟨k0, 1, none⟩ = some (.int .i64 (fg : Int)) ∧ w'.cell? ⟨k1, 0, none⟩ = some (.pointer (some ⟨a, 0, none⟩)) ∧ w'.cell? ⟨k2, 0, none⟩ = some (.string (S n))) := fun w' hp => by
    have ht := hp.tn
    exact ⟨hp, hp.map, by rw [(h0.tn h e0 ht).cell 0]; rfl, by rw [(h0.tn h e0 ht).cell 1]; rfl, by rw [(h1.tn h e1 ht).cell 0]; rfl, by rw [(h2.tn h e2 ht).cell 0]; rfl⟩
  have HF0 := Lib.hid hf
  have HM := Lib.hid (show fb.length ≤ (⟨fb, fg⟩ : F).b.length from Nat.le_refl _)
  have hs := S_size fb
  have HF := Lib.hid (show F.ok ⟨fb, fb.length⟩ from by have := hf.upTo HM.out; simpa using this)
  have HU : Hid (∀ w' : World, Ph a b d (put n ⟨fb, fb.length⟩ d.l) W w' → Ph a b d (put n ⟨fb, fb.length⟩ d.l) W (upd b n ⟨fb, fb.length⟩ w') ∧ DoneBy a b d (put n ⟨fb, fb.length⟩ d.l) W (.returned (.tuple #[])) (upd b n ⟨fb, fb.length⟩ w')) := fun w' hp => ph_put n hn _ HF.out h.ok.up hok hp
  have hmu : ∀ w' : World, Ph a b d (put n ⟨fb, fb.length⟩ d.l) W w' → (Instr.mapUpdate 83 (.map (some b)) (.string (S n)) (fV ⟨fb, fb.length⟩)).run Try.prog w' = .ok () (upd b n ⟨fb, fb.length⟩ w') := fun w' hp => hp.run n hn _ HF.out
  obtain ⟨q1, q2, q3, q4, q5, q6⟩ := HS.out W (Or.inl ⟨Below.refl _ _, h⟩)
  have r1 := (HS.out W.drew (Or.inl ⟨(Below.refl _ _).drew, h.same rfl rfl⟩)).1
  clear h hn hok hf h0 h1 h2
  go_enter Try.func51, Try.ntmps51
  go_wp2_with fail
  go_region_held3 (fun w' => Ph a b d (put n ⟨fb, fb.length⟩ d.l) W w' ∧ w'.cell? ⟨a, 1, none⟩ = some (.map (some b)) ∧ w'.cell? ⟨k0, 0, none⟩ = some (.string (S fb)) ∧ w'.cell? ⟨k0, 1, none⟩ = some (.int .i64 (fg : Int)) ∧ w'.cell? ⟨k1, 0, none⟩ = some (.pointer (some ⟨a, 0, none⟩)) ∧ w'.cell? ⟨k2, 0, none⟩ = some (.string (S n)))
    (first | assumption | (refine ⟨?_, ?_, ?_, ?_, ?_, ?_⟩ <;> assumption) | exact HS.out _ (HU.out _ (by assumption)).1)
    ((first | (go_at_call 52; refine (upTo_any ⟨fb, fg⟩ HF0.out fb.length HM.out _).mono ?_; rintro z w' ⟨rfl, hb4⟩; obtain ⟨p1, p2, p3, p4, p5, p6⟩ := HS.out w' (Ph.step (by assumption) hb4); clear hb4)))
  go_end0
  exact (HU.out _ (by assumption)).2

set_option maxRecDepth 100000 in
set_option maxHeartbeats 1000000 in
theorem trim1_any (a b k0 k1 k2 k3 : Nat) (d : Dk) (n : Nm) (hn : n.length ≤ maxLen) (fb : List UInt8) (fg m : Nat) (hf : (⟨fb, fg⟩ : F).ok) (hm : m ≤ (⟨fb, fg⟩ : F).b.length) (W : World) (h : DkAt W a b d) (h0 : Bx W k0 #[.string (S fb), .int .i64 (fg : Int)]) (h1 : Bx W k1 #[.int .i64 (m : Int)]) (h2 : Bx W k2 #[.pointer (some ⟨a, 0, none⟩)]) (h3 : Bx W k3 #[.string (S n)]) (e0 : k0 ≠ a) (e1 : k1 ≠ a) (e2 : k2 ≠ a) (e3 : k3 ≠ a) (hok : ({ d with l := put n ⟨fb.take m, m⟩ d.l } : Dk).ok) :
    Calls Try.prog 53 #[.pointer (some ⟨k0, 0, none⟩), .pointer (some ⟨k1, 0, none⟩), .pointer (some ⟨k2, 0, none⟩), .pointer (some ⟨k3, 0, none⟩)] W (DoneBy a b d (put n ⟨fb.take m, m⟩ d.l) W) := by
  have hmx : Try.prog.follows .mixedOrders = true := by kernel_rfl
  have HS : Hid (∀ w' : World, Ph a b d (put n ⟨fb.take m, m⟩ d.l) W w' → Ph a b d (put n ⟨fb.take m, m⟩ d.l) W w' ∧ w'.cell? ⟨a, 1, none⟩ = some (.map (some b)) ∧ w'.cell? ⟨k0, 0, none⟩ = some (.string (S fb)) ∧ w'.cell? ⟨k0, 1, none⟩ = some (.int .i64 (fg : Int)) ∧ w'.cell? ⟨k1, 0, none⟩ = some (.int .i64 (m : Int)) ∧ w'.cell? ⟨k2, 0, none⟩ = some (.pointer (some ⟨a, 0, none⟩)) ∧ w'.cell? ⟨k3, 0, none⟩ = some (.string (S n))) := fun w' hp => by
    have ht := hp.tn
    exact ⟨hp, hp.map, by rw [(h0.tn h e0 ht).cell 0]; rfl, by rw [(h0.tn h e0 ht).cell 1]; rfl, by rw [(h1.tn h e1 ht).cell 0]; rfl, by rw [(h2.tn h e2 ht).cell 0]; rfl, by rw [(h3.tn h e3 ht).cell 0]; rfl⟩
  have HF0 := Lib.hid hf
  have HM := Lib.hid hm
  have HF := Lib.hid (show F.ok ⟨fb.take m, m⟩ from by have := hf.upTo HM.out; simpa using this)
  have HU : Hid (∀ w' : World, Ph a b d (put n ⟨fb.take m, m⟩ d.l) W w' → Ph a b d (put n ⟨fb.take m, m⟩ d.l) W (upd b n ⟨fb.take m, m⟩ w') ∧ DoneBy a b d (put n ⟨fb.take m, m⟩ d.l) W (.returned (.tuple #[])) (upd b n ⟨fb.take m, m⟩ w')) := fun w' hp => ph_put n hn _ HF.out h.ok.up hok hp
  have hmu : ∀ w' : World, Ph a b d (put n ⟨fb.take m, m⟩ d.l) W w' → (Instr.mapUpdate 83 (.map (some b)) (.string (S n)) (fV ⟨fb.take m, m⟩)).run Try.prog w' = .ok () (upd b n ⟨fb.take m, m⟩ w') := fun w' hp => hp.run n hn _ HF.out
  obtain ⟨q1, q2, q3, q4, q5, q6, q7⟩ := HS.out W (Or.inl ⟨Below.refl _ _, h⟩)
  have r1 := (HS.out W.drew (Or.inl ⟨(Below.refl _ _).drew, h.same rfl rfl⟩)).1
  clear h hn hok hf h0 h1 h2 h3
  go_enter Try.func53, Try.ntmps53
  go_wp2_with fail
  go_region_held3 (fun w' => Ph a b d (put n ⟨fb.take m, m⟩ d.l) W w' ∧ w'.cell? ⟨a, 1, none⟩ = some (.map (some b)) ∧ w'.cell? ⟨k0, 0, none⟩ = some (.string (S fb)) ∧ w'.cell? ⟨k0, 1, none⟩ = some (.int .i64 (fg : Int)) ∧ w'.cell? ⟨k1, 0, none⟩ = some (.int .i64 (m : Int)) ∧ w'.cell? ⟨k2, 0, none⟩ = some (.pointer (some ⟨a, 0, none⟩)) ∧ w'.cell? ⟨k3, 0, none⟩ = some (.string (S n)))
    (first | assumption | (refine ⟨?_, ?_, ?_, ?_, ?_, ?_, ?_⟩ <;> assumption) | exact HS.out _ (HU.out _ (by assumption)).1)
    ((first | (go_at_call 52; refine (upTo_any ⟨fb, fg⟩ HF0.out m HM.out _).mono ?_; rintro z w' ⟨rfl, hb4⟩; obtain ⟨p1, p2, p3, p4, p5, p6, p7⟩ := HS.out w' (Ph.step (by assumption) hb4); clear hb4)))
  go_end0
  exact (HU.out _ (by assumption)).2

set_option maxRecDepth 100000 in
set_option maxHeartbeats 1000000 in
theorem delete1_any (a b k0 k1 : Nat) (d : Dk) (n : Nm) (hn : n.length ≤ maxLen) (W : World) (h : DkAt W a b d) (h0 : Bx W k0 #[.pointer (some ⟨a, 0, none⟩)]) (h1 : Bx W k1 #[.string (S n)]) (hok : ({ d with l := del n d.l } : Dk).ok) :
    Calls Try.prog 55 #[.pointer (some ⟨k0, 0, none⟩), .pointer (some ⟨k1, 0, none⟩)] W (DoneBy a b d (del n d.l) W) := by
  have hmx : Try.prog.follows .mixedOrders = true := by kernel_rfl
  have e0 := h0.cell 0
  simp only [List.getElem?_toArray, List.getElem?_cons_zero] at e0
  have e1 := h1.cell 0
  simp only [List.getElem?_toArray, List.getElem?_cons_zero] at e1
  obtain ⟨c0, c1, c2, c3, c4⟩ := h.cell
  have HD := Lib.hid h
  have HK := Lib.hid (tkey n hn)
  have HO := Lib.hid hok
  clear h hn hok
  go_enter Try.func55, Try.ntmps55
  go_wp2_with fail
  go_still_tail 5, (by kernel_rfl)
  change wpList _ _ _ _ _ (W.drewN 1)
  generalize hW : W.drewN 1 = W1
  have HT := Lib.hid (show Tn a b W W1 by rw [← hW]; exact (Tn.refl a b W).dn 1)
  have HD1 := Lib.hid (show DkAt W1 a b d by rw [← hW]; exact HD.out.dn 1)
  clear hW c0 c1 c2 c3 c4 e0 e1 h0 h1
  go_wp2_with (at_delete; refine wpList_delete_own _ rfl _ _ 83 9 rfl 78 tkeyed tmap fileR b _ (toD fD d.l) rfl HD1.out.mp _ (.string n) rfl HK.out ?_; intro w1 hown hturn)
  go_end0
  exact ⟨rfl, HD1.out.del n hown hturn HO.out, HT.out.trans (Tn.map hturn)⟩
end Go.Proofs.Ytddjoealckhepaa.Disk
