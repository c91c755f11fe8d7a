/-
  The calls, of an error of a number, at whatever world behind; the examples.
-/
import Derived.Test.YtdaeiapogipjbaaDoorD16
namespace Go.Proofs.YtdaeiapogipjbaaDoor.Fault
open Go Go.RowKit

theorem find_any {w : World} {v : Value} {xs : List Wr} {base : Value} (op : ByteArray) (hv : At w v xs base) (hP : Plain base) (hI : Ifc base) (hN : NoUnw base) (hlen : xs.length < 1099511627776) :
    Calls Tryd.prog 13 #[v, .string op] w fun ev w' => ev = .returned (foundV (firstOp op xs)) ∧ Below w.heap.size w w' := by
  obtain ⟨p, e, h1, h2, C⟩ := hv
  rw [← h1]
  exact callsIn_wide.1 (find_in p e xs base op w C h2 hP hI hN hlen)
theorem ops_any {w : World} {v : Value} {xs : List Wr} {base : Value} (hv : At w v xs base) (hP : Plain base) (hI : Ifc base) (hN : NoUnw base) (hlen : xs.length < 1099511627776) :
    Calls Tryd.prog 14 #[v] w fun ev w' => ∃ u, ev = .returned u ∧ Strs w' u xs ∧ Below w.heap.size w w' := by
  obtain ⟨p, e, h1, h2, C⟩ := hv
  rw [← h1]
  exact callsIn_wide.1 (ops_in p e xs base w C h2 hP hI hN hlen)

instance : DecidableEq Wr := fun a b => decidable_of_iff (a.op = b.op ∧ a.nm = b.nm ∧ a.pl = b.pl) ⟨fun ⟨h1, h2, h3⟩ => by cases a; cases b; simp_all, fun h => by subst h; exact ⟨rfl, rfl, rfl⟩⟩

/-- small numbers, whose text hangs on no table -/
def smallB (i : Int) : ByteArray := S (Lib.decDigits i.toNat)
def Small (i : Int) : Prop := 0 ≤ i ∧ i < 100
theorem small_size : ∀ k : Fin 100, (smallB (k.val : Int)).size ≤ 64 := by decide +kernel
theorem says_small (w : World) : Says Small smallB w where
  fmt W i _ hD := by
    obtain ⟨h0, h1⟩ := hD
    have e : i = (i.toNat : Int) := by omega
    have := Tryd.strconv_FormatInt_10_small i.toNat (by omega) W
    rw [← e] at this
    exact this.mono fun ev w' ⟨a, b⟩ => ⟨a, by rw [b]; exact Below.refl _ _⟩
  itoa W i _ hD := by
    obtain ⟨h0, h1⟩ := hD
    have e : i = (i.toNat : Int) := by omega
    have := Tryd.strconv_Itoa_small i.toNat (by omega) W
    rw [← e] at this
    exact this.mono fun ev w' ⟨a, b⟩ => ⟨a, by rw [b]; exact Below.refl _ _⟩
  size i hD := by
    obtain ⟨h0, h1⟩ := hD
    have e : i = (i.toNat : Int) := by omega
    rw [e]
    exact small_size ⟨i.toNat, by omega⟩

def sApp : ByteArray := ⟨#[97, 112, 112, 101, 110, 100]⟩
def sS1 : ByteArray := ⟨#[115, 49]⟩
def sSub : ByteArray := ⟨#[115, 117, 98, 109, 105, 116]⟩
def sEx : ByteArray := ⟨#[115, 117, 98, 109, 105, 116, 58, 32, 97, 112, 112, 101, 110, 100, 32, 115, 49, 32, 97, 116, 32, 55, 58, 32, 115, 111, 117, 107, 58, 32, 101, 114, 114, 111, 114, 32, 52, 52]⟩
def ex1 : Wr := ⟨sApp, sS1, 7⟩
def ex2 : Wr := ⟨sSub, ⟨#[]⟩, -1⟩
theorem ex_text : textB smallB [ex2, ex1] (soukE ++ smallB 44) = sEx := by decide +kernel
theorem ex_heads : (heads smallB [ex2, ex1]).length + (soukE ++ smallB 44).size ≤ 1099511627776 := by decide +kernel
theorem ex_found : foundV (firstOp sApp [ex2, ex1]) = .tuple #[.string sS1, .int .i64 7, .bool true] := by
  have : firstOp sApp [ex2, ex1] = some ex1 := by decide +kernel
  rw [this]; rfl
theorem ex_class : (classOf 44 == 4) = true := by decide +kernel
theorem ex_fine : Fine Small [ex2, ex1] := by
  intro x hx
  rcases List.mem_cons.1 hx with rfl | hx
  · exact ⟨by decide +kernel, by decide +kernel, fun h => absurd h (by decide)⟩
  · rcases List.mem_cons.1 hx with rfl | hx
    · exact ⟨by decide +kernel, by decide +kernel, fun _ => ⟨by decide, by decide⟩⟩
    · cases hx

theorem strs_two {w : World} {u : Value} (h : Strs w u [ex2, ex1]) : ∃ g cap, u = .slice (some ⟨g, 0, none⟩) 2 cap ∧ (w.cell? ⟨g, 0, none⟩ = some (.string ⟨#[115, 117, 98, 109, 105, 116]⟩) ∧ w.cell? ⟨g, 1, none⟩ = some (.string ⟨#[97, 112, 112, 101, 110, 100]⟩) ∧ g < w.heap.size) := by
  obtain ⟨A, cap, h1, h2, h3⟩ := h
  obtain ⟨g, hA, c0, hg⟩ := h3 0 (by decide)
  obtain ⟨g', hA', c1, _⟩ := h3 1 (by decide)
  rw [hA] at hA'
  cases hA'
  exact ⟨g, cap, by rw [h1, hA]; rfl, c0, c1, hg⟩
theorem two_below {w w' : World} {g : Nat} {a b : Value} (h : w.cell? ⟨g, 0, none⟩ = some a ∧ w.cell? ⟨g, 1, none⟩ = some b ∧ g < w.heap.size) (hb : Below w.heap.size w w') :
    w'.cell? ⟨g, 0, none⟩ = some a ∧ w'.cell? ⟨g, 1, none⟩ = some b ∧ g < w'.heap.size :=
  ⟨(World.cell?_of_block (hb.block g h.2.2)).trans h.1, (World.cell?_of_block (hb.block g h.2.2)).trans h.2.1, Nat.lt_of_lt_of_le h.2.2 hb.size⟩

set_option maxRecDepth 100000 in
set_option maxHeartbeats 1000000 in
/-- **the examples** -/
theorem works_any (w : World) (E : ErrT w) :
    Calls Tryd.prog 7 #[] w fun e w' => e = .returned (.bool true) ∧ Below w.heap.size w w' := by
  have X1 := Lib.hid (wrap_any ex1 (At.nil w (numV 44)) (ifc_num 44) (by unfold numV; simp))
  have HE := Lib.hid E
  have HT := Lib.hid ex_text
  have HF := Lib.hid ex_found
  have HC := Lib.hid ex_class
  clear E
  unfold sS1 at HF
  unfold sEx at HT
  go_enter Tryd.func7, Tryd.ntmps7
  go_wp2_with (first
    | (go_at_call 10; refine X1.out.mono ?_; rintro e w1 ⟨rfl, hA1, hb1⟩; have HA1 := Lib.hid hA1; have HB1 := Lib.hid hb1; clear hA1 hb1 X1)
    | (go_at_call 10; refine (wrap_any ex2 HA1.out (ifc_num 44) (by simp)).mono ?_; rintro e w2 ⟨rfl, hA2, hb2⟩; have HA2 := Lib.hid hA2; have HB2 := Lib.hid (HB1.out.trans (hb2.mono HB1.out.size)); have HE2 := Lib.hid (HE.out.below HB2.out); clear hA2 hb2)
    | (go_at_call 12; refine (code_any HE2.out HA2.out (plain_num 44) (ifc_num 44) (by decide) (asked_num 44) (fun h => by cases h)).mono ?_; rintro e w3 ⟨rfl, hb3⟩; have HB3 := Lib.hid hb3; clear hb3)
    | (go_at_call 13; refine (find_any sApp (HA2.out.below HB3.out) (plain_num 44) (ifc_num 44) (noUnw_num 44) (by decide)).mono ?_; rintro e w4 ⟨rfl, hb4⟩; have HB4 := Lib.hid (HB3.out.trans (hb4.mono HB3.out.size)); clear hb4; rw [HF.out])
    | (go_at_call 14; refine (ops_any (HA2.out.below HB4.out) (plain_num 44) (ifc_num 44) (noUnw_num 44) (by decide)).mono ?_; rintro e w5 ⟨u, rfl, hS, hb5⟩; have HB5 := Lib.hid (HB4.out.trans (hb5.mono HB4.out.size)); obtain ⟨g, cap, rfl, hS2⟩ := strs_two hS; have HS5 := Lib.hid hS2; clear hS hS2 hb5)
    | (go_at_call 15; refine (text_any (says_small _) (HA2.out.below HB5.out) (plain_num 44) (ifc_num 44) (by decide) (textOf_num (says_small _) 44 ⟨by decide, by decide⟩) ex_fine ex_heads).mono ?_; rintro e w6 ⟨rfl, hb6⟩; have HB6 := Lib.hid (HB5.out.trans (hb6.mono HB5.out.size)); have HS6 := Lib.hid (two_below HS5.out hb6); clear hb6; rw [HT.out])
    | (go_at_call 9; refine (in_any 4 (HE2.out.below HB6.out) (HA2.out.below HB6.out) (plain_num 44) (ifc_num 44) (by decide) (asked_num 44) (fun h => by cases h)).mono ?_; rintro e w7 ⟨rfl, hb7⟩; have HB7 := Lib.hid (HB6.out.trans (hb7.mono HB6.out.size)); have HS7 := Lib.hid (two_below HS6.out hb7); clear hb7; have d0 := HS7.out.1; have d1 := HS7.out.2.1; rw [HC.out]))
  go_ret
  exact ⟨rfl, HB2.out.trans (HB7.out.mono HB2.out.size)⟩

end Go.Proofs.YtdaeiapogipjbaaDoor.Fault
