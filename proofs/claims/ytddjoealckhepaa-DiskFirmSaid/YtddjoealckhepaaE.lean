import Derived.Test.YtddjoealckhepaaD
import Derived.Shelf.Abstract
/-
  A file that is called otherwise; the one that counts what is done.
-/
namespace Go.Proofs.Ytddjoealckhepaa.Disk
open Go Go.RowKit Go.Maps

set_option maxRecDepth 100000 in
set_option maxHeartbeats 1000000 in
theorem rename1_any (a b k0 k1 k2 k3 : Nat) (d : Dk) (n m : Nm) (hn : n.length ≤ maxLen) (hm : m.length ≤ maxLen) (fb : List UInt8) (fg : Nat) (hf : (⟨fb, fg⟩ : F).ok) (W : World) (h : DkAt W a b d) (h0 : Bx W k0 #[.string (S fb), .int .i64 (fg : Int)]) (h1 : Bx W k1 #[.pointer (some ⟨a, 0, none⟩)]) (h2 : Bx W k2 #[.string (S m)]) (h3 : Bx W k3 #[.string (S n)])
    (e1 : k1 ≠ a) (e3 : k3 ≠ a) (hok : ({ d with l := del n (put m ⟨fb, fg⟩ d.l) } : Dk).ok) :
    Calls Try.prog 54 #[.pointer (some ⟨k0, 0, none⟩), .pointer (some ⟨k1, 0, none⟩), .pointer (some ⟨k2, 0, none⟩), .pointer (some ⟨k3, 0, none⟩)] W (DoneBy a b d (del n (put m ⟨fb, fg⟩ d.l)) W) := by
  have hmx : Try.prog.follows .mixedOrders = true := by kernel_rfl
  have HX1 : Hid (∀ w' : World, Tn a b W w' → w'.cell? ⟨k1, 0, none⟩ = some (.pointer (some ⟨a, 0, none⟩)) ∧ w'.cell? ⟨k3, 0, none⟩ = some (.string (S n)) ∧ w'.heap[a]? = w'.heap[a]?) := fun w' ht => ⟨(h1.tn h e1 ht).cell 0, (h3.tn h e3 ht).cell 0, rfl⟩
  have f0a := h0.cell 0
  have f0b := h0.cell 1
  have f2 := h2.cell 0
  simp only [List.getElem?_toArray, List.getElem?_cons_zero, List.getElem?_cons_succ] at f0a f0b f2
  obtain ⟨f1, f3, -⟩ := HX1.out W (Tn.refl _ _ _)
  obtain ⟨c0, c1, c2, c3, c4⟩ := h.cell
  have HD := Lib.hid h
  have HK := Lib.hid (tkey n hn)
  have HM := Lib.hid (tkey m hm)
  have HO := Lib.hid hok
  have HF := Lib.hid hf
  clear h hn hm hok hf h0 h1 h2 h3 e1 e3
  go_enter Try.func54, Try.ntmps54
  go_wp2_with fail
  go_still_tail 6, (by kernel_rfl)
  change wpList _ _ _ _ _ (W.drewN 1)
  generalize hW : W.drewN 1 = W1
  have HT := Lib.hid (show Tn a b W W1 by rw [← hW]; exact (Tn.refl a b W).dn 1)
  have HD1 := Lib.hid (show DkAt W1 a b d by rw [← hW]; exact HD.out.dn 1)
  clear hW c0 c1 c2 c3 c4 f0a f0b f1 f2 f3
  go_wp2_with (at_mapUpdate; refine wpList_mapUpdate_in _ rfl _ _ _ 83 rfl 9 78 tkeyed tmap fileR b _ (toD fD d.l) rfl HD1.out.mp (by have := HD1.out.ok.len; unfold maxLen; omega) _ _ (.string m) rfl rfl HM.out (fD ⟨fb, fg⟩) [] (fileR_mk HF.out) ?_; intro w1 hown hturn)
  have HT1 := Lib.hid (HT.out.trans (Tn.map hturn))
  have HB1 := Lib.hid ((hturn.grown.block a HD1.out.lt.1 (fun e => HD1.out.ne (by injection e))).trans HD1.out.blk)
  rw [toD_put] at hown
  have HO1 := Lib.hid hown
  obtain ⟨f1, f3, -⟩ := HX1.out w1 HT1.out
  have c1 : w1.cell? ⟨a, 1, none⟩ = some (.map (some b)) := cell_row HB1.out 1
  clear hown hturn
  go_wp2_with fail
  go_still_tail 5, (by kernel_rfl)
  change wpList _ _ _ _ _ (w1.drewN 1)
  generalize hW : w1.drewN 1 = W2
  have HT2 := Lib.hid (show Tn a b W W2 by rw [← hW]; exact HT1.out.dn 1)
  have HB2 := Lib.hid (show W2.heap[a]? = some (.cells (dkV d b) 87 (0, 0)) by rw [← hW]; exact HB1.out)
  have HO2 := Lib.hid (show W2.ownsMap Try.prog 9 fileR b _ (toD fD (put m ⟨fb, fg⟩ d.l)) by rw [← hW]; exact owns_block HO1.out rfl)
  clear hW c1 f1 f3
  go_wp2_with (at_delete; refine wpList_delete_own _ rfl _ _ 83 9 rfl 78 tkeyed tmap fileR b _ (toD fD (put m ⟨fb, fg⟩ d.l)) rfl HO2.out _ (.string n) rfl HK.out ?_; intro w3 hown hturn)
  go_end0
  refine ⟨rfl, ⟨?_, ?_, HO.out⟩, HT2.out.trans (Tn.map hturn)⟩
  · exact (hturn.grown.block a (row_lt HB2.out) (fun e => HD1.out.ne (by injection e))).trans HB2.out
  · rw [toD_del] at hown
    have := owns_size hown
    rwa [toD_size] at this

def cntE (d : Dk) : Nat := if d.cut = true ∧ d.left = 0 then 45 else 0
def cntD (d : Dk) (l : List (Nm × F)) : Dk := if d.cut = true ∧ d.left = 0 then { d with gone := true } else { d with left := d.left - 1, l := l }
def CntRes (a b : Nat) (d : Dk) (l : List (Nm × F)) (w : World) (z : Ending) (w' : World) : Prop :=
  z = .returned (.int .i64 (cntE d : Int)) ∧ DkAt w' a b (cntD d l) ∧ Tn a b w w'
theorem DkAt.set2 {w : World} {a b : Nat} {d : Dk} (h : DkAt w a b d) (x : Bool) : DkAt (w.setCell ⟨a, 2, none⟩ (.bool x)) a b { d with gone := x } :=
  h.set (d' := { d with gone := x }) (by rw [heap_set h.blk]; rfl) (heap_far _ _ h.ne.symm) rfl { h.ok with }
theorem DkAt.set4 {w : World} {a b : Nat} {d : Dk} (h : DkAt w a b d) (n : Nat) (hn : n ≤ 9223372036854775807) (hc : d.cut = false → n = 0) : DkAt (w.setCell ⟨a, 4, none⟩ (.int .i64 (n : Int))) a b { d with left := n } :=
  h.set (d' := { d with left := n }) (by rw [heap_set h.blk]; rfl) (heap_far _ _ h.ne.symm) rfl { h.ok with left := hn, cut := hc }

set_option maxRecDepth 100000 in
set_option maxHeartbeats 1000000 in
theorem count_any (a b g : Nat) (cb : Array Value) (d : Dk) (l : List (Nm × F)) (w : World) (h : DkAt w a b d) (eg : ∀ args w, (callFunc g args).run Try.prog w = .ok (.enter g args) w)
    (hdo : ∀ W, DkAt W a b { d with left := d.left - 1 } → Tn a b w W → Calls Try.prog g cb W (DoneBy a b { d with left := d.left - 1 } l W)) :
    Calls Try.prog 48 #[.pointer (some ⟨a, 0, none⟩), .func (.func g) #[] cb] w (CntRes a b d l w) := by
  obtain ⟨c0, c1, c2, c3, c4⟩ := h.cell
  have fz := h.fz
  have HD := Lib.hid h
  have HDO := Lib.hid hdo
  clear h hdo
  obtain ⟨cap, l0, gone, cut, left⟩ := d
  simp only at c0 c1 c2 c3 c4
  cases cut with
  | false =>
    obtain rfl : left = 0 := HD.out.ok.cut rfl
    have HC := HDO.out w HD.out (Tn.refl _ _ _)
    have HC2 := Lib.hid HC
    clear HC
    go_enter Try.func48, Try.ntmps48
    go_wp2_with (first
      | (go_at_fn g; refine HC2.out.mono ?_; rintro z w' ⟨rfl, h1, h2⟩; have H1 := Lib.hid h1; have H2 := Lib.hid h2; clear h1 h2)
      | go_in)
    go_ret
    exact ⟨by simp [cntE], by simpa [cntD] using H1.out, H2.out⟩
  | true =>
    cases left with
    | zero =>
      have c4' : w.cell? ⟨a, 4, none⟩ = some (.int .i64 0) := c4
      clear c4
      go_enter Try.func48, Try.ntmps48
      go_wp2_with fail
      go_ret
      exact ⟨by simp [cntE], by simpa [cntD] using HD.out.set2 true, Tn.set _ _ _ _ _⟩
    | succ k =>
      have hk : k ≤ 9223372036854775806 := by have := HD.out.ok.left; simp only at this; omega
      have z1 : ((((k + 1 : Nat) : Int)) == 0) = false := by simp; omega
      have z2 : IntKind.i64.wrap (((k + 1 : Nat) : Int) - 1) = (k : Int) := by rw [IntKind.wrap_i64]; omega
      have HC := HDO.out (w.setCell ⟨a, 4, none⟩ (.int .i64 (k : Int))) (HD.out.set4 k (by omega) (fun h => by cases h)) (Tn.set _ _ _ _ _)
      have HC2 := Lib.hid HC
      clear HC
      generalize hz : (((k + 1 : Nat) : Int)) = zk at c4 z1 z2
      clear hz
      go_enter Try.func48, Try.ntmps48
      go_wp2_with (first
        | (go_at_fn g; refine HC2.out.mono ?_; rintro z w' ⟨rfl, h1, h2⟩; have H1 := Lib.hid h1; have H2 := Lib.hid h2; clear h1 h2)
        | go_in)
      go_ret
      exact ⟨by simp [cntE], by simpa [cntD] using H1.out, (Tn.set _ _ _ _ _).trans H2.out⟩
end Go.Proofs.Ytddjoealckhepaa.Disk
