import Derived.Test.YtiibeemjkdipnaaGreatDoorUK
/-
  The walks of slices.Equal, at numbers and at texts, and of Same.
-/
namespace Go.Proofs.YtiibeemjkdipnaaGreatDoor.Schema
open Go Go.RowKit


end Go.Proofs.YtiibeemjkdipnaaGreatDoor.Schema

/-
  What the laws of layer 7 call: event, told.
-/
namespace Go.Proofs.YtiibeemjkdipnaaGreatDoor.Upcast
open Go Go.RowKit
open Go.Proofs.YtiibeemjkdipnaaGreatDoor.Schema

set_option maxRecDepth 100000 in
set_option maxHeartbeats 1000000 in
theorem event_any (v k : Nat) (A : Option Addr) (n c : Nat) (w : World) :
    Calls Tryz.prog 23 #[.int .u8 (v : Int), .int .u8 (k : Int), .slice A n c] w (fun z w' => z = .returned (.agg #[.int .u8 (v : Int), .int .u8 (k : Int), .slice A n c, .slice none 0 0]) ∧ Below w.heap.size w w') := by
  have HN := Lib.hid (box4 w (.int .u8 0) (.int .u8 0) (.slice none 0 0) (.slice none 0 0) 39)
  have HF := Lib.hid (free_new w #[.int .u8 0, .int .u8 0, .slice none 0 0, .slice none 0 0] 39)
  have HB := Lib.hid ((Below.refl w.heap.size w).alloc (Nat.le_refl _) (.cells #[.int .u8 0, .int .u8 0, .slice none 0 0, .slice none 0 0] 39))
  go_enter Tryz.func23, Tryz.ntmps23
  go_upto_region 1 with (fail)
  generalize w.alloc (.cells #[.int .u8 0, .int .u8 0, .slice none 0 0, .slice none 0 0] 39) = W at HN HF HB ⊢
  obtain ⟨x0, x1, x2, x3⟩ := HN.out
  have f0 := HF.out.2 0
  have f1 := HF.out.2 1
  have f2 := HF.out.2 2
  have f3 := HF.out.2 3
  go_wp2_with fail
  clear x0 x1 x2 x3 f0 f1 f2 f3
  obtain ⟨e0, e1, e2, e3⟩ := Four.set4 (show Four W w.heap.size _ _ _ _ from HN.out) (.int .u8 (v : Int)) (.int .u8 (k : Int)) (.slice A n c) (.slice none 0 0)
  refine bodyPost_ret (v := .agg #[.int .u8 (v : Int), .int .u8 (k : Int), .slice A n c, .slice none 0 0]) (by simp [results, Tryz.results23, go_sem, e0, e1, e2, e3]) rfl ⟨rfl, ?_⟩
  exact HB.out.trans ((touch4 W w.heap.size _ _ _ _).below (Nat.le_refl _) HB.out.size)

end Go.Proofs.YtiibeemjkdipnaaGreatDoor.Upcast

/-
  What Up, Down, Newest and To tell, in one form: an event and a number.
-/
namespace Go.Proofs.YtiibeemjkdipnaaGreatDoor.Upcast
open Go Go.RowKit
open Go.Proofs.YtiibeemjkdipnaaGreatDoor.Schema

theorem same_iff (a b : Ev) : same a b = true ↔ a = b := by
  unfold same
  simp only [Bool.and_eq_true, decide_eq_true_eq]
  constructor
  · rintro ⟨⟨⟨h1, h2⟩, h3⟩, h4⟩
    cases a; cases b
    simp only at h1 h2 h3 h4
    subst h1 h2 h3 h4
    rfl
  · rintro rfl; exact ⟨⟨⟨rfl, rfl⟩, rfl⟩, rfl⟩
/-- an event is told, or an error, and then none -/
def Got (o : Except Nat Ev) (u : Ev) (n : Nat) : Prop := (n = 0 ∧ o = .ok u) ∨ (1 ≤ n ∧ n ≤ 100 ∧ o = .error n ∧ u = ev0)
theorem Got.ok {o : Except Nat Ev} {u : Ev} {n : Nat} (h : Got o u n) (hn : n = 0) : o = .ok u := by
  rcases h with h | h
  · exact h.2
  · omega
theorem Got.of {o : Except Nat Ev} {u v : Ev} {n : Nat} (h : Got o u n) (ho : o = .ok v) : n = 0 ∧ u = v := by
  rcases h with h | h
  · rw [ho] at h; exact ⟨h.1, by injection h.2 with h; exact h.symm⟩
  · rw [ho] at h; cases h.2.2.1
theorem lets_few (v k : Nat) : (lets v k).size ≤ 10 := (lets_ok v k).1
theorem new_out {e u : Ev} (h : nwX e = .ok u) : may e = true ∧ u = newE e := by
  unfold nwX at h
  split at h
  · rename_i hm; injection h with h; exact ⟨hm, h.symm⟩
  · cases h
theorem to_out {e u : Ev} {v : Nat} (h : toX e v = .ok u) : may e = true ∧ isV v = true ∧ dto (newE e) v = .ok u := by
  unfold toX at h
  split at h
  · rename_i hm
    split at h
    · rename_i hv; exact ⟨hm, hv, h⟩
    · cases h
  · cases h
theorem to_err {e : Ev} {v n : Nat} (h : toX e v = .error n) : 1 ≤ n ∧ n ≤ 100 := by
  unfold toX at h
  split at h
  · split at h
    · have := dtX_err _ _ _ _ h; omega
    · injection h with h; omega
  · injection h with h; omega
theorem to_may {e u : Ev} {v : Nat} (h : toX e v = .ok u) : may u = true ∧ u.ts = e.ts := by
  obtain ⟨h1, h2, h3⟩ := to_out h
  have := dtX_out _ _ _ _ (new_may h1) (Nat.le_refl _) h3
  exact ⟨this.1, by rw [this.2.1, new_ts]⟩
/-! ### there and back -/
end Go.Proofs.YtiibeemjkdipnaaGreatDoor.Upcast
