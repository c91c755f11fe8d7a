/-
  The walk of event, and the calls of the examples, at their values.
-/
import Derived.Test.YtfklkainbkffnaaDoorE14
namespace Go.Proofs.YtfklkainbkffnaaDoor.Schema
open Go Go.RowKit

set_option maxRecDepth 100000 in
theorem event_any (k : Nat) (hk : k < 256) (A : Option Addr) (n cap : Nat) (w : World) :
    Calls Tryd.prog 38 #[.int .u8 k, .slice A n cap] w fun e w' => e = .returned (.agg #[.int .u8 3, .int .u8 k, .slice A n cap, .slice none 0 0]) ∧ Below w.heap.size w w' := by
  go_enter Tryd.func38, Tryd.ntmps38
  go_wp2
  exact bodyPost_ret (v := .agg #[.int .u8 3, .int .u8 k, .slice A n cap, .slice none 0 0]) (by simp [results, Tryd.results38, go_sem]) rfl ⟨rfl, (Below.refl _ _).alloc (Nat.le_refl _) _⟩

/-- letters, of which one is told -/
def LetRes (w : World) (n k : Nat) (c : Int) (t b : Bool) (e : Ending) (w' : World) : Prop := ∃ g cap, e = .returned (.tuple #[.slice (some ⟨g, 0, none⟩) n cap, .bool t, .bool b]) ∧ w'.cell? ⟨g, k, none⟩ = some (.int .u8 c) ∧ Below w.heap.size w w'
theorem letRes {w : World} {s : ByteArray} {t b : Bool} {e : Ending} {w' : World} (n k : Nat) (c : Int) (h : TwoRes w (clsV s) t b e w') (hn : (clsV s).length = n) (h0 : 0 < n) (hk : (clsV s)[k]? = some (.int .u8 c)) : LetRes w n k c t b e w' := by
  obtain ⟨v, he, hO, hb⟩ := h
  obtain ⟨g, cap, rfl, _, _, _, hc⟩ := hO.cells (by omega)
  exact ⟨g, cap, by rw [he, hn], hc k _ hk, hb⟩
theorem aw_f1 {w : World} (E : Env w) : Calls Tryd.prog 14 #[.int .u8 1, .int .u8 13] w (LetRes w 4 3 113 false true) :=
  (Fields_any 1 13 (by decide) (by decide) w E).mono fun _ _ h => letRes 4 3 113 h (by decide +kernel) (by decide) (by rfl)
theorem aw_f2 {w : World} (E : Env w) : Calls Tryd.prog 14 #[.int .u8 2, .int .u8 13] w (LetRes w 5 4 122 false true) :=
  (Fields_any 2 13 (by decide) (by decide) w E).mono fun _ _ h => letRes 5 4 122 h (by decide +kernel) (by decide) (by rfl)
theorem aw_f3 {w : World} (E : Env w) : Calls Tryd.prog 14 #[.int .u8 1, .int .u8 23] w fun e w' => ∃ v, e = .returned (.tuple #[v, .bool false, .bool false]) ∧ Below w.heap.size w w' :=
  (Fields_any 1 23 (by decide) (by decide) w E).mono fun _ _ ⟨v, he, _, hb⟩ => ⟨v, he, hb⟩
theorem aw_c {w : World} (E : Env w) : Calls Tryd.prog 32 #[.int .u8 11] w (LetRes w 5 2 115 false true) :=
  (Command_any 11 (by decide) w E).mono fun _ _ h => letRes 5 2 115 h (by decide +kernel) (by decide) (by rfl)
theorem aw_b {w : World} (E : Env w) : Calls Tryd.prog 17 #[.int .u8 1, .int .u8 109] w fun e w' => e = .returned (.tuple #[.int .i64 1, .int .i64 11258999068426, .bool true]) ∧ Below w.heap.size w w' :=
  (bound_any 1 109 (by decide) (by decide) w E).mono fun _ _ h => ⟨h.1.trans (ret_b3 (by decide +kernel) (by decide +kernel) (by decide +kernel)), h.2⟩
theorem aw_n {w : World} (E : Env w) : Calls Tryd.prog 21 #[.int .u8 10] w fun e w' => e = .returned (.string ⟨#[102, 101, 101, 32, 115, 101, 116]⟩) ∧ w = w' := name_any 10 (by decide) w E
theorem aw_w {w : World} (E : Env w) : Calls Tryd.prog 36 #[.int .u8 11] w fun e w' => e = .returned (.string ⟨#[112, 108, 97, 99, 101]⟩) ∧ w = w' := word_any 11 (by decide) w E
theorem aw_mn (s : ByteArray) (b : Bool) (hs : s.size ≤ maxLen) (h : mayName s = b) (w : World) : Calls Tryd.prog 27 #[.string s] w fun e w' => e = .returned (.bool b) ∧ Below w.heap.size w w' := by
  subst h; exact mayName_any s hs w
theorem aw_m {w : World} (E : Env w) (g : Nat) (x y : Int) (b : Bool) (h : may ⟨3, 6, [x, y], []⟩ = b) (hx : Fits64 [x, y]) (h0 : w.cell? ⟨g, 0, none⟩ = some (.int .i64 x)) (h1 : w.cell? ⟨g, 1, none⟩ = some (.int .i64 y)) :
    Calls Tryd.prog 25 #[.agg #[.int .u8 3, .int .u8 6, .slice (some ⟨g, 0, none⟩) 2 2, .slice none 0 0]] w fun e w' => e = .returned (.bool b) ∧ Below w.heap.size w w' := by
  subst h
  exact may_any (some ⟨g, 0, none⟩) 2 none 0 ⟨3, 6, [x, y], []⟩ (by simp) w E
    { v := by simp, k := by simp, fit := hx, txt := (fun t ht => by cases ht)
      ns := (fun k u hk => by
        match k, hk with
        | 0, hk => injection hk with hk; subst hk; exact ⟨g, 0, rfl, h0⟩
        | 1, hk => injection hk with hk; subst hk; exact ⟨g, 0, rfl, h1⟩
        | k + 2, hk => simp [nums] at hk)
      ts := VAt.nil _ _, nA := (fun h => by cases h), nB := (fun _ => rfl), lA := by simp, lB := by simp }
theorem aw_m1 : may ⟨3, 6, [64, 1], []⟩ = true := by decide +kernel
theorem aw_m2 : may ⟨3, 6, [65, 1], []⟩ = false := by decide +kernel
theorem aw_m3 : may ⟨3, 6, [64, 0], []⟩ = false := by decide +kernel
theorem aw_n1 : mayName ⟨#[97, 45, 98, 95, 57]⟩ = true := by decide +kernel
theorem aw_n2 : mayName ⟨#[65]⟩ = false := by decide +kernel
theorem aw_n3 : mayName ⟨#[97, 32, 98]⟩ = false := by decide +kernel

end Go.Proofs.YtfklkainbkffnaaDoor.Schema
