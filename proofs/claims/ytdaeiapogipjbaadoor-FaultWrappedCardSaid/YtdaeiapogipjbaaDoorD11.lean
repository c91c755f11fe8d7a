/-
  The texts: of an Error's own part, of what is wrapped at last.
-/
import Derived.Test.YtdaeiapogipjbaaDoorD10
namespace Go.Proofs.YtdaeiapogipjbaaDoor.Fault
open Go Go.RowKit

/-- what strconv tells of the numbers in D, at every world behind w: f -/
structure Says (D : Int → Prop) (f : Int → ByteArray) (w : World) : Prop where
  fmt : ∀ W i, Below w.heap.size w W → D i → Calls Tryd.prog 85 #[.int .i64 i, .int .i64 10] W fun e W' => e = .returned (.string (f i)) ∧ Below W.heap.size W W'
  itoa : ∀ W i, Below w.heap.size w W → D i → Calls Tryd.prog 32 #[.int .i64 i] W fun e W' => e = .returned (.string (f i)) ∧ Below W.heap.size W W'
  size : ∀ i, D i → (f i).size ≤ 64
theorem Says.below {D : Int → Prop} {f : Int → ByteArray} {w w' : World} (h : Says D f w) (hb : Below w.heap.size w w') : Says D f w' :=
  ⟨fun W i hW => h.fmt W i (hb.trans (hW.mono hb.size)), fun W i hW => h.itoa W i (hb.trans (hW.mono hb.size)), h.size⟩

/-- what stands ahead of the text of what is wrapped -/
def headB (f : Int → ByteArray) (x : Wr) : ByteArray :=
  (if 0 ≤ x.pl then (if x.nm = ⟨#[]⟩ then x.op else x.op ++ (⟨#[32]⟩ ++ x.nm)) ++ (⟨#[32, 97, 116, 32]⟩ ++ f x.pl) else (if x.nm = ⟨#[]⟩ then x.op else x.op ++ (⟨#[32]⟩ ++ x.nm))) ++ ⟨#[58, 32]⟩

set_option maxRecDepth 100000 in
set_option maxHeartbeats 1000000 in
/-- **head** -/
theorem head_any {D : Int → Prop} {f : Int → ByteArray} {w : World} (S : Says D f w) {b : Nat} (x : Wr) (h0 : w.cell? ⟨b, 0, none⟩ = some (.string x.op)) (h1 : w.cell? ⟨b, 1, none⟩ = some (.string x.nm)) (h2 : w.cell? ⟨b, 2, none⟩ = some (.int .i64 x.pl))
    (hop : x.op.size ≤ 1000000) (hnm : x.nm.size ≤ 1000000) (hD : 0 ≤ x.pl → D x.pl) :
    Calls Tryd.prog 82 #[.pointer (some ⟨b, 0, none⟩)] w fun e w' => e = .returned (.string (headB f x)) ∧ Below w.heap.size w w' := by
  obtain ⟨op, nm, pl⟩ := x
  simp only at h0 h1 h2 hop hnm hD
  unfold headB
  simp only
  have hne : ¬ nm = ⟨#[]⟩ → nm.toList.isEmpty = false := fun h => by
    rw [ByteArray.toList_eq]
    cases hh : nm.data.toList with
    | nil => exact absurd (by cases nm with | mk d => simp at hh; rw [hh]) h
    | cons a r => rfl
  by_cases hp : 0 ≤ pl
  · have HF := Lib.hid (fun W (hW : Below w.heap.size w W) => S.fmt W pl hW (hD hp))
    have hfs := S.size pl (hD hp)
    clear S hD
    by_cases hn : nm = ⟨#[]⟩
    · subst hn
      go_enter Tryd.func82, Tryd.ntmps82
      go_wp2_with (go_at_call 85; refine (HF.out _ (Below.refl _ _)).mono ?_; rintro e w1 ⟨rfl, hb1⟩; have HB := Lib.hid hb1; clear hb1)
      go_ret
      exact ⟨rfl, HB.out⟩
    · have hnl := hne hn
      clear hne
      go_enter Tryd.func82, Tryd.ntmps82
      go_wp2_with (go_at_call 85; refine (HF.out _ (Below.refl _ _)).mono ?_; rintro e w1 ⟨rfl, hb1⟩; have HB := Lib.hid hb1; clear hb1)
      go_ret
      exact ⟨rfl, HB.out⟩
  · clear S hD
    by_cases hn : nm = ⟨#[]⟩
    · subst hn
      go_enter Tryd.func82, Tryd.ntmps82
      go_wp2
      go_ret
      exact ⟨rfl, Below.refl _ _⟩
    · have hnl := hne hn
      clear hne
      go_enter Tryd.func82, Tryd.ntmps82
      go_wp2
      go_ret
      exact ⟨rfl, Below.refl _ _⟩

def soukE : ByteArray := ⟨#[115, 111, 117, 107, 58, 32, 101, 114, 114, 111, 114, 32]⟩
/-- **a number's Error** -/
theorem num_error {D : Int → Prop} {f : Int → ByteArray} {w : World} (S : Says D f w) (n : Int) (hD : D n) :
    Calls Tryd.prog 21 #[.int .i64 n] w fun e w' => e = .returned (.string (soukE ++ f n)) ∧ Below w.heap.size w w' := by
  have HF := Lib.hid (S.itoa w n (Below.refl _ _) hD)
  have hfs := S.size n hD
  clear S hD
  unfold soukE
  go_enter Tryd.func21, Tryd.ntmps21
  go_wp2_with (go_at_call 32; refine HF.out.mono ?_; rintro e w1 ⟨rfl, hb1⟩; have HB := Lib.hid hb1; clear hb1)
  go_ret
  exact ⟨rfl, HB.out⟩
def ownT : ByteArray := ⟨#[111, 119, 110]⟩
theorem own_error (w : World) :
    Calls Tryd.prog 79 #[.agg #[]] w fun e w' => e = .returned (.string ownT) ∧ Below w.heap.size w w' := by
  unfold ownT
  go_enter Tryd.func79, Tryd.ntmps79
  go_wp2
  go_ret
  exact ⟨rfl, by first | exact Below.refl _ _ | exact (Below.refl _ w).alloc (Nat.le_refl _) _⟩

theorem meth_num (k : Nat) (v : Value) (w : World) : (Go.method (k + 1) 23 v "Error").run Tryd.prog w = .ok (21, v) w := by kernel_rfl
theorem meth_own (k : Nat) (v : Value) (w : World) : (Go.method (k + 1) 36 v "Error").run Tryd.prog w = .ok (79, v) w := by kernel_rfl
theorem meth_err (k : Nat) (v : Value) (w : World) : (Go.method (k + 1) 51 v "Error").run Tryd.prog w = .ok (80, v) w := by kernel_rfl

/-- v's own Error, by whatever method: s -/
def ErrorIs (v : Value) (s : ByteArray) (w : World) : Prop := ∃ t x F, v = .iface t x ∧ (∀ k w, (Go.method (k + 1) t x "Error").run Tryd.prog w = .ok (F, x) w) ∧ (F = 21 ∨ F = 79 ∨ F = 80) ∧
  Calls Tryd.prog F #[x] w fun e w' => e = .returned (.string s) ∧ Below w.heap.size w w'

set_option maxRecDepth 100000 in
set_option maxHeartbeats 1000000 in
theorem text1 {a b : Nat} {v u : Value} {s : ByteArray} {w : World} (hE : ErrorIs v s w) (ha : Boxed w a 29 v) (hb : Boxed w b 9 u) :
    Calls Tryd.prog 27 #[.pointer (some ⟨a, 0, none⟩), .pointer (some ⟨b, 0, none⟩)] w fun e w' => e = .returned (.tuple #[]) ∧ (Boxed w' b 9 (.string s) ∧ ∀ m, m ≤ b → m ≤ w.heap.size → Below m w w') := by
  obtain ⟨t, x, F, rfl, hm, hF, hc⟩ := hE
  have hca := ha.cell
  have HC := Lib.hid hc
  have HB := Lib.hid hb
  clear hc ha hb
  rcases hF with rfl | rfl | rfl
  · go_enter Tryd.func27, Tryd.ntmps27
    go_wp2_with (go_at_call 21; refine HC.out.mono ?_; rintro e w1 ⟨rfl, hb1⟩; have hx : Boxed w1 b 9 u := (hb1.block b HB.out.lt).trans HB.out; have hxc := hx.cell; have hxf := hx.frozen; have hxh := Lib.hid hx; have HB1 := Lib.hid hb1; clear hb1 hx)
    go_end0
    exact ⟨rfl, hxh.out.set _, fun m h1 h2 => (HB1.out.mono h2).setCell (p := ⟨b, 0, none⟩) h1 _⟩
  · go_enter Tryd.func27, Tryd.ntmps27
    go_wp2_with (go_at_call 79; refine HC.out.mono ?_; rintro e w1 ⟨rfl, hb1⟩; have hx : Boxed w1 b 9 u := (hb1.block b HB.out.lt).trans HB.out; have hxc := hx.cell; have hxf := hx.frozen; have hxh := Lib.hid hx; have HB1 := Lib.hid hb1; clear hb1 hx)
    go_end0
    exact ⟨rfl, hxh.out.set _, fun m h1 h2 => (HB1.out.mono h2).setCell (p := ⟨b, 0, none⟩) h1 _⟩
  · go_enter Tryd.func27, Tryd.ntmps27
    go_wp2_with (go_at_call 80; refine HC.out.mono ?_; rintro e w1 ⟨rfl, hb1⟩; have hx : Boxed w1 b 9 u := (hb1.block b HB.out.lt).trans HB.out; have hxc := hx.cell; have hxf := hx.frozen; have hxh := Lib.hid hx; have HB1 := Lib.hid hb1; clear hb1 hx)
    go_end0
    exact ⟨rfl, hxh.out.set _, fun m h1 h2 => (HB1.out.mono h2).setCell (p := ⟨b, 0, none⟩) h1 _⟩

set_option maxRecDepth 100000 in
set_option maxHeartbeats 1000000 in
/-- **Text** of an error whose own Error is s -/
theorem text_of {v : Value} {s : ByteArray} {w : World} (hE : ∀ W, Below w.heap.size w W → ErrorIs v s W) :
    Calls Tryd.prog 15 #[v] w fun e w' => e = .returned (.string s) ∧ Below w.heap.size w w' := by
  obtain ⟨W, hW⟩ : ∃ W, (w.alloc (.cells #[v] 29)).alloc (.cells #[.string ⟨#[]⟩] 9) = W := ⟨_, rfl⟩
  have hBW : Below w.heap.size w W := by rw [← hW]; exact ((Below.refl _ w).alloc (Nat.le_refl _) _).alloc (by simp) _
  have ba : Boxed W w.heap.size 29 v := by rw [← hW]; exact (Boxed.new w _ _).alloc _
  have bb : Boxed W (w.heap.size + 1) 9 (.string ⟨#[]⟩) := by
    rw [← hW]; have := Boxed.new (w.alloc (.cells #[v] 29)) 9 (.string ⟨#[]⟩); rwa [World.size_alloc] at this
  have hsz : W.heap.size = w.heap.size + 2 := by rw [← hW]; simp
  have HC := Lib.hid (safely_text _ _ W _ (text1 (hE W hBW) ba bb))
  have HB := Lib.hid hBW
  have hmf : ∀ (fn : Fn) (first cap : Array Value) (w : World), (Instr.makeFunc fn first cap).run Tryd.prog w = .ok (.func fn first cap) w := fun _ _ _ _ => rfl
  obtain ⟨t, x, F, rfl, _⟩ := hE w (Below.refl _ _)
  have cba := ba.cell
  clear hBW ba bb hE
  go_enter Tryd.func15, Tryd.ntmps15
  go_wp2_with (go_at_call 22; (try rw [hW]); refine HC.out.mono ?_; rintro ev w1 ⟨rfl, br, hk⟩; have cr := br.cell; have fr := br.frozen; have hbr := Lib.hid br; have hk1 := Lib.hid (HB.out.trans (hk w.heap.size (by omega) (by omega))); clear hk br)
  refine bodyPost_ret (v := .string s) ?_ rfl ⟨rfl, hk1.out.setCell (p := ⟨w.heap.size + 1, 0, none⟩) (by show w.heap.size ≤ w.heap.size + 1; omega) _⟩
  have := (hbr.out.set (.string s)).cell
  simp [results, Tryd.results15, go_sem, this]
theorem text_nil (w : World) : Calls Tryd.prog 15 #[.nilIface] w fun e w' => e = .returned (.string ⟨#[]⟩) ∧ Below w.heap.size w w' := by
  obtain ⟨W, hW⟩ : ∃ W, (w.alloc (.cells #[.nilIface] 29)).alloc (.cells #[.string ⟨#[]⟩] 9) = W := ⟨_, rfl⟩
  have hBW : Below w.heap.size w W := by rw [← hW]; exact ((Below.refl _ w).alloc (Nat.le_refl _) _).alloc (by simp) _
  have bb : Boxed W (w.heap.size + 1) 9 (.string ⟨#[]⟩) := by
    rw [← hW]; have := Boxed.new (w.alloc (.cells #[.nilIface] 29)) 9 (.string ⟨#[]⟩); rwa [World.size_alloc] at this
  have ba : Boxed W w.heap.size 29 .nilIface := by rw [← hW]; exact (Boxed.new w _ _).alloc _
  have cba := ba.cell
  have cr := bb.cell
  have fr := bb.frozen
  have hbr := Lib.hid bb
  have HB := Lib.hid hBW
  clear ba bb hBW
  go_enter Tryd.func15, Tryd.ntmps15
  go_wp2
  refine bodyPost_ret (v := .string ⟨#[]⟩) ?_ rfl ⟨rfl, ?_⟩
  · have := (hbr.out.set (.string ⟨#[]⟩)).cell
    first | simp [results, Tryd.results15, go_sem, this] | (rw [← hW] at this; simp [results, Tryd.results15, go_sem, this])
  · first | exact HB.out.setCell (p := ⟨w.heap.size + 1, 0, none⟩) (by show w.heap.size ≤ w.heap.size + 1; omega) _ | (rw [← hW] at HB; exact HB.out.setCell (p := ⟨w.heap.size + 1, 0, none⟩) (by show w.heap.size ≤ w.heap.size + 1; omega) _)

/-- the text of what may be wrapped at last -/
def TextOf (base : Value) (s : ByteArray) (w : World) : Prop := ∀ W, Below w.heap.size w W → Calls Tryd.prog 15 #[base] W fun e W' => e = .returned (.string s) ∧ Below W.heap.size W W'
theorem textOf_num {D : Int → Prop} {f : Int → ByteArray} {w : World} (S : Says D f w) (n : Int) (hD : D n) : TextOf (numV n) (soukE ++ f n) w := fun W hW =>
  text_of fun W' hW' => ⟨_, _, _, rfl, fun k w => meth_num k _ w, .inl rfl, num_error (S.below (hW.trans (hW'.mono hW.size))) n hD⟩
theorem textOf_own (w : World) : TextOf ownV ownT w := fun W hW => text_of fun W' hW' => ⟨_, _, _, rfl, fun k w => meth_own k _ w, .inr (.inl rfl), own_error W'⟩
theorem textOf_nil (w : World) : TextOf .nilIface ⟨#[]⟩ w := fun W _ => text_nil W

end Go.Proofs.YtdaeiapogipjbaaDoor.Fault
