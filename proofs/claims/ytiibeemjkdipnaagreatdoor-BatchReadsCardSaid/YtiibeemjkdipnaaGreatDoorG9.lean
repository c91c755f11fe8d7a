import Derived.Test.YtiibeemjkdipnaaGreatDoorG7
/-
  Kinds; what is skipped behind an error; what is read of an event, as plain mathematics.
-/
namespace Go.Proofs.YtiibeemjkdipnaaGreatDoor.Codec
open Go Go.RowKit
open Go.Proofs.YtiibeemjkdipnaaGreatDoor.Wire (Wr Only Rd Step U cell_row rdS fxV shR txR tkI tkE tkT)
open Go.Proofs.YtiibeemjkdipnaaGreatDoor.Schema

theorem infoB : (Tryz.prog.info? 5).map (fun i => (i.zero, i.size, i.bytes)) = some (some (.int .u8 0), 1, 1) := by kernel_rfl
def KindsRes (v : Nat) (w : World) (z : Ending) (w' : World) : Prop := ∃ A n cap, z = .returned (.slice A n cap) ∧ (n = 0 ↔ ¬ (1 ≤ v ∧ v ≤ 3)) ∧ Below w.heap.size w w'
theorem tall_some (v : Nat) : (∀ j, j < 24 → tall v j = false) ↔ ¬ (1 ≤ v ∧ v ≤ 3) := by
  constructor
  · intro h hv
    have h1 := h 1 (by decide)
    obtain rfl | rfl | rfl : v = 1 ∨ v = 2 ∨ v = 3 := by omega
    all_goals exact absurd h1 (by decide +kernel)
  · intro h j _
    unfold tall
    rw [lets_out v j (by omega)]; rfl
theorem nil_step {v : Nat} {k : Nat} {xs : List Value} (h : xs = [] ↔ ∀ j, j < k → tall v j = false) (hk : tall v k = false) : xs = [] ↔ ∀ j, j < k + 1 → tall v j = false := by
  rw [h]
  constructor
  · intro h1 j hj
    by_cases e : j = k
    · exact e ▸ hk
    · exact h1 j (by omega)
  · intro h1 j hj; exact h1 j (by omega)
theorem some_step {v : Nat} {k : Nat} {xs : List Value} {u : Value} (hk : tall v k = true) : xs ++ [u] = [] ↔ ∀ j, j < k + 1 → tall v j = false := by
  constructor
  · intro h; simp at h
  · intro h; rw [h k (by omega)] at hk; cases hk

set_option maxRecDepth 100000 in
set_option maxHeartbeats 1000000 in
theorem kinds_any (v : Nat) (hv : v < 256) (w : World) (E : Env w) : Calls Tryz.prog 83 #[.int .u8 (v : Int)] w (KindsRes v w) := by
  have HE := Lib.hid E
  clear E
  go_enter Tryz.func83, Tryz.ntmps83
  go_wp2
  go_loopw [3, 5] (fun l i wr => ∃ (k : Nat) (xs : List Value), k ≤ 24 ∧ i = .int .u8 k ∧ Hid (Own wr w.heap.size 5 l xs) ∧ Hid (xs.length ≤ k ∧ (xs = [] ↔ ∀ j, j < k → tall v j = false)) ∧ Hid (Below w.heap.size w wr)) (fun _ i _ => 24 - (intOf i).toNat)
  case atStart => exact ⟨0, [], Nat.zero_le _, rfl, Lib.hid (Own.nil _ _ _), Lib.hid ⟨Nat.le_refl _, by simp⟩, Lib.hid (Below.refl _ _)⟩
  case round =>
    obtain ⟨k, xs, hk, rfl, HO, HL, HB⟩ := hrel
    by_cases hlt : k < 24
    · have HF := Lib.hid (fields_any v k hv (by omega) wr (HE.out.below HB.out))
      have HT := Lib.hid (show tall v k = decide (0 < (lets v k).size) from rfl)
      generalize lets v k = s at HF HT
      have z1 : (k : Int) < 24 := by omega
      have hm : (k + 1 : Nat) < 256 := by omega
      cases ht : tall v k with
      | false =>
        have e0 : s.toList.isEmpty = true := by rw [size_pos_iff, ← HT.out, ht]; rfl
        have e1 : s.toList = [] := List.isEmpty_iff.1 e0
        have HN := Lib.hid (nil_step HL.out.2 ht)
        clear ht
        go_wp2_with (go_at_call 68; refine HF.out.mono ?_; rintro z w1 ⟨rfl, rfl⟩)
        go_roundw
        case rel => exact ⟨k + 1, xs, by omega, by go_num, HO, Lib.hid ⟨by have := HL.out.1; omega, HN.out⟩, HB⟩
        case measure => simp [intOf] <;> omega
      | true =>
        have e0 : s.toList.isEmpty = false := by rw [size_pos_iff, ← HT.out, ht]; rfl
        have e1 : ¬ s.toList = [] := by intro h; rw [h] at e0; cases e0
        have HN := Lib.hid (some_step (xs := xs) (u := .int .u8 (k : Int)) ht)
        clear ht
        have hb := (Below.refl wr.heap.size wr).alloc (Nat.le_refl _) (.cells #[.int .u8 (k : Int)] 5)
        have HO2 := Lib.hid (HO.out.below hb)
        have HB2 := Lib.hid (below_step HB.out hb)
        have hs2 : wr.heap.size ≤ (wr.alloc (.cells #[.int .u8 (k : Int)] 5)).heap.size := by simp
        have HS2 := Lib.hid (Nat.le_trans HB.out.size hs2)
        clear hb hs2
        go_wp2_with (first
          | (go_at_call 68; refine HF.out.mono ?_; rintro z w1 ⟨rfl, rfl⟩)
          | (at_builtin; refine wpList_append_vals 49 5 (.int .u8 0) 1 Tryz.underlying49 infoB rfl (by decide) rfl _ _ rfl w.heap.size _ _ rfl HO2.out (some ⟨wr.heap.size, 0, none⟩) 1 1 [.int .u8 (k : Int)] rfl rfl (vat_new wr _ _) (by simp; rfl) (by simp) (by have := HL.out.1; simp; omega) HS2.out ?_))
        intro v' w1 hO1 hg
        have HO3 := Lib.hid hO1
        have HB3 := Lib.hid (HB2.out.trans (below_grown HO2.out (Nat.le_refl _) HS2.out hg))
        clear hO1 hg
        go_wp2
        go_roundw
        case rel => exact ⟨k + 1, _, by omega, by go_num, HO3, Lib.hid ⟨by have := HL.out.1; simp; omega, HN.out⟩, HB3⟩
        case measure => simp [intOf] <;> omega
    · obtain rfl : k = 24 := by omega
      obtain ⟨A, cap, rfl, _⟩ := HO.out.vat
      have HQ := Lib.hid (HL.out.2.trans (tall_some v))
      have HLn := Lib.hid (show xs.length = 0 ↔ xs = [] from List.length_eq_zero_iff)
      go_wp2
      go_ret
      exact ⟨_, _, _, rfl, HLn.out.trans HQ.out, HB.out⟩

set_option maxRecDepth 100000 in
theorem readN_skip (g x : Nat) (bg bh bn bl : Nat) (a0 a1 a2 a3 a4 : Value) (w : World) (hx : Six w g a0 a1 a2 a3 a4 (.int .i64 (x : Int))) (h : x ≠ 0) :
    Calls Tryz.prog 85 #[.pointer (some ⟨g, 0, none⟩), .agg #[.func (.func 103) #[] #[.pointer (some ⟨bg, 0, none⟩), .pointer (some ⟨bh, 0, none⟩), .pointer (some ⟨bn, 0, none⟩)], .func (.func 104) #[] #[.pointer (some ⟨bn, 0, none⟩), .pointer (some ⟨bl, 0, none⟩)]]] w fun z w' => z = .returned (.tuple #[]) ∧ Below w.heap.size w w' := by
  have hb := (Below.refl w.heap.size w).alloc (Nat.le_refl _) (.cells #[.func (.func 103) #[] #[.pointer (some ⟨bg, 0, none⟩), .pointer (some ⟨bh, 0, none⟩), .pointer (some ⟨bn, 0, none⟩)], .func (.func 104) #[] #[.pointer (some ⟨bn, 0, none⟩), .pointer (some ⟨bl, 0, none⟩)]] 123)
  have c5 := (hx.below hb).2.2.2.2.2
  have HB := Lib.hid hb
  have e1 : ((x : Int) == 0) = false := beq_eq_false_iff_ne.2 (by omega)
  have e2 : (x == 0) = false := beq_eq_false_iff_ne.2 h
  clear hb hx h
  go_enter Tryz.func85, Tryz.ntmps85
  go_wp2_with fail
  first | (go_end0; exact ⟨rfl, HB.out⟩) | exact bodyPost_ret (by simp [results, Tryz.results85, go_sem]) rfl ⟨rfl, HB.out⟩

set_option maxRecDepth 100000 in
theorem readT_skip (g x : Nat) (bg bs : Nat) (a0 a1 a2 a3 a4 : Value) (w : World) (hx : Six w g a0 a1 a2 a3 a4 (.int .i64 (x : Int))) (h : x ≠ 0) :
    Calls Tryz.prog 85 #[.pointer (some ⟨g, 0, none⟩), .agg #[.func (.func 105) #[] #[.pointer (some ⟨bg, 0, none⟩), .pointer (some ⟨bs, 0, none⟩)], .func (.func 107) #[] #[.pointer (some ⟨bs, 0, none⟩)]]] w fun z w' => z = .returned (.tuple #[]) ∧ Below w.heap.size w w' := by
  have hb := (Below.refl w.heap.size w).alloc (Nat.le_refl _) (.cells #[.func (.func 105) #[] #[.pointer (some ⟨bg, 0, none⟩), .pointer (some ⟨bs, 0, none⟩)], .func (.func 107) #[] #[.pointer (some ⟨bs, 0, none⟩)]] 123)
  have c5 := (hx.below hb).2.2.2.2.2
  have HB := Lib.hid hb
  have e1 : ((x : Int) == 0) = false := beq_eq_false_iff_ne.2 (by omega)
  have e2 : (x == 0) = false := beq_eq_false_iff_ne.2 h
  clear hb hx h
  go_enter Tryz.func85, Tryz.ntmps85
  go_wp2_with fail
  first | (go_end0; exact ⟨rfl, HB.out⟩) | exact bodyPost_ret (by simp [results, Tryz.results85, go_sem]) rfl ⟨rfl, HB.out⟩

/-- how far it is read -/
structure RS where
  i : Nat
  e : Nat
  w : Nat
  ns : List Int
def stepR (v : Nat) (s : ByteArray) (st : RS) (c : Nat) : RS := if st.w = 0 then ⟨(nx s st.i st.e (bnd v c).high).2.1, (nx s st.i st.e (bnd v c).high).2.2, wrN (nx s st.i st.e (bnd v c).high) (bnd v c).low, st.ns ++ [((nx s st.i st.e (bnd v c).high).1 : Int)]⟩ else st
def foldR (v : Nat) (s l : ByteArray) (k : Nat) (st : RS) : RS := (List.range k).foldl (fun st j => stepR v s st (byteAt l j)) st
theorem foldR_zero (v : Nat) (s l : ByteArray) (st : RS) : foldR v s l 0 st = st := rfl
theorem foldR_succ (v : Nat) (s l : ByteArray) (k : Nat) (st : RS) : foldR v s l (k + 1) st = stepR v s (foldR v s l k st) (byteAt l k) := by unfold foldR; rw [List.range_succ, List.foldl_append]; rfl
theorem stepR_skip {v : Nat} {s : ByteArray} {st : RS} {c : Nat} (h : st.w ≠ 0) : stepR v s st c = st := if_neg h
theorem stepR_go {v : Nat} {s : ByteArray} {st : RS} {c : Nat} (h : st.w = 0) : stepR v s st c = ⟨(nx s st.i st.e (bnd v c).high).2.1, (nx s st.i st.e (bnd v c).high).2.2, wrN (nx s st.i st.e (bnd v c).high) (bnd v c).low, st.ns ++ [((nx s st.i st.e (bnd v c).high).1 : Int)]⟩ := if_pos h
/-- behind the kind -/
def rs0 (s : ByteArray) (i e v : Nat) : RS := ⟨tkI s i e 1, tkE s i e 1, wrK s i e v, []⟩
def kd (s : ByteArray) (i e : Nat) : Nat := fxV s i e 1
/-- behind the numbers -/
def rs1 (s : ByteArray) (i e v : Nat) : RS := foldR v s (lets v (kd s i e)) (lets v (kd s i e)).size (rs0 s i e v)
/-- (where it stands then, the Reader's error, what is wrong, the texts), behind the name -/
def rs2 (s : ByteArray) (i e v : Nat) : Nat × Nat × Nat × List ByteArray :=
  if tall v (kd s i e) && tru (kd s i e) then (if (rs1 s i e v).w = 0 then ((tx s (rs1 s i e v).i (rs1 s i e v).e).2.1, (tx s (rs1 s i e v).i (rs1 s i e v).e).2.2, wrT (tx s (rs1 s i e v).i (rs1 s i e v).e), [(tx s (rs1 s i e v).i (rs1 s i e v).e).1]) else ((rs1 s i e v).i, (rs1 s i e v).e, (rs1 s i e v).w, []))
  else ((rs1 s i e v).i, (rs1 s i e v).e, (rs1 s i e v).w, [])
def noEv : Ev := ⟨0, 0, [], []⟩
/-- what Get tells: the event, what is wrong; where the Reader stands then, and its error -/
def getW (s : ByteArray) (i e v : Nat) : Nat := if 1 ≤ v ∧ v ≤ 3 then (rs2 s i e v).2.2.1 else 43
def getE (s : ByteArray) (i e v : Nat) : Ev := if getW s i e v = 0 then ⟨v, kd s i e, (rs1 s i e v).ns, (rs2 s i e v).2.2.2⟩ else noEv
def getI (s : ByteArray) (i e v : Nat) : Nat := if 1 ≤ v ∧ v ≤ 3 then (rs2 s i e v).1 else i
def getF (s : ByteArray) (i e v : Nat) : Nat := if 1 ≤ v ∧ v ≤ 3 then (rs2 s i e v).2.1 else e

end Go.Proofs.YtiibeemjkdipnaaGreatDoor.Codec

/-
  The walk of Get.
-/
namespace Go.Proofs.YtiibeemjkdipnaaGreatDoor.Codec
open Go Go.RowKit
open Go.Proofs.YtiibeemjkdipnaaGreatDoor.Wire (Wr Only Rd Step U cell_row rdS fxV shR txR tkI tkE tkT err_any)
open Go.Proofs.YtiibeemjkdipnaaGreatDoor.Schema


/-- what Get promises -/
def GetRes (r : Nat) (s : ByteArray) (i e v : Nat) (w : World) (z : Ending) (w' : World) : Prop := ∃ A ca C cc, z = .returned (.tuple #[evV A ca C cc (getE s i e v), .int .i64 (getW s i e v : Int)]) ∧ OwnE w' w.heap.size 2 (.slice A (getE s i e v).ns.length ca) (nums (getE s i e v).ns) ∧ OwnE w' w.heap.size 9 (.slice C (getE s i e v).ts.length cc) (texts (getE s i e v).ts) ∧ Step w w' r s (getI s i e v) (getF s i e v)
theorem four_fr {r g rb : Nat} {w w' : World} (h : Fr r g rb w w') {b : Nat} {a0 a1 a2 a3 : Value} (hc : Four w b a0 a1 a2 a3) (h1 : b ≠ r) (h2 : b ≠ g) (h3 : b < rb) : Four w' b a0 a1 a2 a3 := ⟨cell_fr h hc.1 h1 h2 h3, cell_fr h hc.2.1 h1 h2 h3, cell_fr h hc.2.2.1 h1 h2 h3, cell_fr h hc.2.2.2 h1 h2 h3⟩
theorem free_fr {r g rb : Nat} {w w' : World} (h : Fr r g rb w w') {b : Nat} (hc : Free w b) (h1 : b ≠ r) (h2 : b ≠ g) (h3 : b < rb) : Free w' b := ⟨Nat.lt_of_lt_of_le hc.1 h.size, fun o => (World.frozen?_of_block (h.block _ hc.1 h1 h2 h3)).trans (hc.2 o)⟩
theorem six_new (w : World) (a0 a1 a2 a3 a4 a5 : Value) (T : TypeId) : Six (w.alloc (.cells #[a0, a1, a2, a3, a4, a5] T)) w.heap.size a0 a1 a2 a3 a4 a5 := Six.of (heap_alloc_new w _)
/-- what stands at the head of each round -/
structure LoopI (r g rb : Nat) (s : ByteArray) (v k : Nat) (st : RS) (A : Option Addr) (cap : Nat) (W5 wr : World) : Prop where
  rd : Rd wr r s st.i st.e
  six : Six wr g (.pointer (some ⟨r, 0, none⟩)) (.int .u8 (v : Int)) (.int .u8 (U k)) (.slice A st.ns.length cap) (.slice none 0 0) (.int .i64 (st.w : Int))
  free : Free wr g
  own : OwnB wr rb wr.heap.size 2 (.slice A st.ns.length cap) (nums st.ns)
  fr : Fr r g rb W5 wr
  le : st.i ≤ s.size
theorem tx_size (s : ByteArray) (i e : Nat) : (tx s i e).1.size ≤ 24 := by
  unfold tx txR
  have h1 := Wire.tkT_size s (shR s i e 24).2.1 (shR s i e 24).2.2 (shR s i e 24).1
  have h2 := Wire.shR_most s i e 24
  exact Nat.le_trans h1 h2
theorem ownE_nil (w : World) (b : Nat) (E : TypeId) : OwnE w b E (.slice none 0 0) [] := Or.inl (Own.nil w b E)
theorem fr_step {r g rb : Nat} {w w' : World} {s : ByteArray} {i e : Nat} (h : Fr r g rb w w') (hr : Rd w' r s i e) (hg : w.heap.size ≤ g) (hb : w.heap.size ≤ rb) : Step w w' r s i e := ⟨hr, h.os, h.tape, h.output, h.size, fun k hk hne => h.block k hk (fun e => hne (by rw [e])) (by omega) (by omega)⟩

set_option maxRecDepth 100000 in
set_option maxHeartbeats 4000000 in
theorem Get_any (r : Nat) (s : ByteArray) (i e v : Nat) (w : World) (hr : Rd w r s i e) (hi : i ≤ s.size) (hs : s.size ≤ 1000000000000) (hv : v < 256) (h0 : 2 ≤ r) (E : Env w) :
    Calls Tryz.prog 63 #[.pointer (some ⟨r, 0, none⟩), .int .u8 (v : Int)] w (GetRes r s i e v w) := by
  have hb := (Below.refl w.heap.size w).alloc (Nat.le_refl _) (.cells #[.int .u8 0, .int .u8 0, .slice none 0 0, .slice none 0 0] 39)
  have hs1 : w.heap.size + 1 ≤ (w.alloc (.cells #[.int .u8 0, .int .u8 0, .slice none 0 0, .slice none 0 0] 39)).heap.size := by simp
  have HR := Lib.hid (hr.below hb)
  have HE := Lib.hid (E.below hb)
  have HP := Lib.hid (show Four _ w.heap.size _ _ _ _ from box4 w (.int .u8 0) (.int .u8 0) (.slice none 0 0) (.slice none 0 0) 39)
  have HPF := Lib.hid (free_new w #[.int .u8 0, .int .u8 0, .slice none 0 0, .slice none 0 0] 39)
  have HB := Lib.hid hb
  have HORD := Lib.hid (And.intro h0 (And.intro hr.size hs1))
  clear hb hs1 hr E
  go_enter Tryz.func63, Tryz.ntmps63
  go_upto_region 1 with (fail)
  generalize w.alloc (.cells #[.int .u8 0, .int .u8 0, .slice none 0 0, .slice none 0 0] 39) = W0 at HR HE HP HPF HB HORD ⊢
  go_wp2_with fail
  refine (kinds_any v hv W0 HE.out).mono ?_
  rintro z W1 ⟨Ak, nk, ck, rfl, hkn, hb⟩
  replace HR := Lib.hid (HR.out.below hb)
  replace HE := Lib.hid (HE.out.below hb)
  replace HP := Lib.hid (HP.out.below hb)
  replace HPF := Lib.hid (HPF.out.below hb)
  replace HB := Lib.hid (below_step HB.out hb)
  replace HORD := Lib.hid (And.intro HORD.out hb.size)
  clear hb
  by_cases hver : 1 ≤ v ∧ v ≤ 3
  case neg =>
    have hn0 : nk = 0 := hkn.2 hver
    have z1 : ((nk : Int) == 0) = true := by rw [hn0]; rfl
    have z2 : (nk == 0) = true := by rw [hn0]; rfl
    have HW43 := Lib.hid (show getW s i e v = 43 from if_neg hver)
    have HEN := Lib.hid (show getE s i e v = noEv from by unfold getE; rw [show getW s i e v = 43 from if_neg hver]; rfl)
    have HI := Lib.hid (show getI s i e v = i ∧ getF s i e v = e from ⟨if_neg hver, if_neg hver⟩)
    clear hver hkn hn0
    obtain ⟨p0, p1, p2, p3⟩ := HP.out
    have f0 := HPF.out.2 0
    have f1 := HPF.out.2 1
    have f2 := HPF.out.2 2
    have f3 := HPF.out.2 3
    go_wp2_with fail
    clear p0 p1 p2 p3 f0 f1 f2 f3
    clear HE
    have hp := ((((HP.out.set0 (.int .u8 0)).set1 (.int .u8 0)).set2 (.slice none 0 0)).set3 (.slice none 0 0))
    have ht := Touch.set W1 w.heap.size 0 (.int .u8 0)
    have hf := HPF.out.set w.heap.size 0 (.int .u8 0)
    have hord := HORD.out
    replace HR := Lib.hid (HR.out.touch ht (by omega))
    replace HB := Lib.hid (Touch.step HB.out ht (by omega))
    clear hord
    replace HPF := Lib.hid hf
    clear ht hf
    have ht := Touch.set (W1.setCell ⟨w.heap.size, 0, none⟩ (.int .u8 0)) w.heap.size 1 (.int .u8 0)
    have hf := HPF.out.set w.heap.size 1 (.int .u8 0)
    have hord := HORD.out
    replace HR := Lib.hid (HR.out.touch ht (by omega))
    replace HB := Lib.hid (Touch.step HB.out ht (by omega))
    clear hord
    replace HPF := Lib.hid hf
    clear ht hf
    have ht := Touch.set ((W1.setCell ⟨w.heap.size, 0, none⟩ (.int .u8 0)).setCell ⟨w.heap.size, 1, none⟩ (.int .u8 0)) w.heap.size 2 (.slice none 0 0)
    have hf := HPF.out.set w.heap.size 2 (.slice none 0 0)
    have hord := HORD.out
    replace HR := Lib.hid (HR.out.touch ht (by omega))
    replace HB := Lib.hid (Touch.step HB.out ht (by omega))
    clear hord
    replace HPF := Lib.hid hf
    clear ht hf
    have ht := Touch.set (((W1.setCell ⟨w.heap.size, 0, none⟩ (.int .u8 0)).setCell ⟨w.heap.size, 1, none⟩ (.int .u8 0)).setCell ⟨w.heap.size, 2, none⟩ (.slice none 0 0)) w.heap.size 3 (.slice none 0 0)
    have hf := HPF.out.set w.heap.size 3 (.slice none 0 0)
    have hord := HORD.out
    replace HR := Lib.hid (HR.out.touch ht (by omega))
    replace HB := Lib.hid (Touch.step HB.out ht (by omega))
    clear hord
    replace HPF := Lib.hid hf
    clear ht hf
    have hs : W1.heap.size ≤ ((((W1.setCell ⟨w.heap.size, 0, none⟩ (.int .u8 0)).setCell ⟨w.heap.size, 1, none⟩ (.int .u8 0)).setCell ⟨w.heap.size, 2, none⟩ (.slice none 0 0)).setCell ⟨w.heap.size, 3, none⟩ (.slice none 0 0)).heap.size := by simp
    replace HORD := Lib.hid (And.intro HORD.out hs)
    replace HP := Lib.hid hp
    clear hp hs
    generalize ((((W1.setCell ⟨w.heap.size, 0, none⟩ (.int .u8 0)).setCell ⟨w.heap.size, 1, none⟩ (.int .u8 0)).setCell ⟨w.heap.size, 2, none⟩ (.slice none 0 0)).setCell ⟨w.heap.size, 3, none⟩ (.slice none 0 0)) = W2 at HR HP HPF HB HORD  ⊢
    obtain ⟨d0, d1, d2, d3⟩ := HP.out
    refine bodyPost_ret (v := .tuple #[.agg #[.int .u8 0, .int .u8 0, .slice none 0 0, .slice none 0 0], .int .i64 43]) (by simp [results, Tryz.results63, go_sem, d0, d1, d2, d3]) rfl ⟨none, 0, none, 0, ?_, ?_, ?_, ?_⟩
    · rw [HEN.out, HW43.out]; rfl
    · rw [HEN.out]; exact ownE_nil _ _ _
    · rw [HEN.out]; exact ownE_nil _ _ _
    · rw [HI.out.1, HI.out.2]; exact ⟨HR.out, Wire.grown_below HB.out⟩
  have z1 : ((nk : Int) == 0) = false := beq_eq_false_iff_ne.2 (fun h => hkn.1 (by omega) hver)
  have z2 : (nk == 0) = false := beq_eq_false_iff_ne.2 (fun h => hkn.1 h hver)
  have HVER := Lib.hid hver
  have HGW := Lib.hid (show getW s i e v = (rs2 s i e v).2.2.1 from if_pos hver)
  have HGI := Lib.hid (show getI s i e v = (rs2 s i e v).1 from if_pos hver)
  have HGF := Lib.hid (show getF s i e v = (rs2 s i e v).2.1 from if_pos hver)
  have HGE := Lib.hid (show getE s i e v = if (rs2 s i e v).2.2.1 = 0 then ⟨v, kd s i e, (rs1 s i e v).ns, (rs2 s i e v).2.2.2⟩ else noEv from by unfold getE; rw [show getW s i e v = (rs2 s i e v).2.2.1 from if_pos hver])
  clear hver hkn
  go_upto_region 4 with (fail)
  clear z1 z2
  have hb := (Below.refl W1.heap.size W1).alloc (Nat.le_refl _) (.cells #[.pointer (some ⟨r, 0, none⟩), .int .u8 (v : Int), .int .u8 0, .slice none 0 0, .slice none 0 0, .int .i64 0] 120)
  have hs2 : W1.heap.size + 1 ≤ (W1.alloc (.cells #[.pointer (some ⟨r, 0, none⟩), .int .u8 (v : Int), .int .u8 0, .slice none 0 0, .slice none 0 0, .int .i64 0] 120)).heap.size := by simp
  replace HR := Lib.hid (HR.out.below hb)
  replace HE := Lib.hid (HE.out.below hb)
  replace HP := Lib.hid (HP.out.below hb)
  replace HPF := Lib.hid (HPF.out.below hb)
  replace HB := Lib.hid (below_step HB.out hb)
  replace HORD := Lib.hid (And.intro HORD.out hs2)
  have HX := Lib.hid (six_new W1 (.pointer (some ⟨r, 0, none⟩)) (.int .u8 (v : Int)) (.int .u8 0) (.slice none 0 0) (.slice none 0 0) (.int .i64 0) 120)
  have HF := Lib.hid (free_new W1 #[.pointer (some ⟨r, 0, none⟩), .int .u8 (v : Int), .int .u8 0, .slice none 0 0, .slice none 0 0, .int .i64 0] 120)
  clear hb hs2
  generalize hWs : W1.heap.size = g at HR HE HP HPF HB HX HF HORD ⊢
  clear hWs
  generalize W1.alloc (.cells #[.pointer (some ⟨r, 0, none⟩), .int .u8 (v : Int), .int .u8 0, .slice none 0 0, .slice none 0 0, .int .i64 0] 120) = W2 at HR HE HP HPF HB HX HF HORD ⊢
  have HFR := Lib.hid ((Fr.refl r g w.heap.size w).below HB.out)
  clear HB
  go_wp2_with fail
  refine (kind_any g W2).mono ?_
  rintro z W3 ⟨rfl, ho, hb⟩
  replace HR := Lib.hid (HR.out.below hb)
  replace HE := Lib.hid (HE.out.below hb)
  replace HP := Lib.hid (HP.out.below hb)
  replace HPF := Lib.hid (HPF.out.below hb)
  replace HX := Lib.hid (HX.out.below hb)
  replace HF := Lib.hid (HF.out.below hb)
  replace HFR := Lib.hid (HFR.out.below hb)
  have HO := Lib.hid ho
  replace HORD := Lib.hid (And.intro HORD.out hb.size)
  clear ho hb
  go_wp2_with fail
  have hord := HORD.out
  refine (readK_any W2.heap.size g r s i e v (.int .u8 0) (.slice none 0 0) (.slice none 0 0) W3 HR.out hi hs HX.out HF.out HO.out h0 (by omega) (by omega) hv HE.out).mono ?_
  rintro z W4 ⟨rfl, hg⟩
  have HE1 := Lib.hid (env_fr HE.out hg.fr (by omega) (by omega) (by omega))
  have HFR1 := Lib.hid (HFR.out.trans (hg.fr.less (by omega)))
  have HP1 := Lib.hid (four_fr hg.fr HP.out (by omega) (by omega) (by omega))
  have HPF1 := Lib.hid (free_fr hg.fr HPF.out (by omega) (by omega) (by omega))
  clear hord HE HFR HP HPF HR HX HF HO
  have HE := HE1
  have HFR := HFR1
  have HP := HP1
  have HPF := HPF1
  clear HE1 HFR1 HP1 HPF1
  have HR := Lib.hid hg.rd
  have HX := Lib.hid hg.six
  have HF := Lib.hid hg.free
  replace HORD := Lib.hid (And.intro HORD.out hg.fr.size)
  clear hg
  obtain ⟨x0, x1, x2, x3, x4, x5⟩ := HX.out
  have hkd : kd s i e < 256 := by have h := Wire.fxV_lt s i e 1; simpa [kd] using h
  have HKD := Lib.hid hkd
  clear hkd
  go_wp2_with fail
  clear x0 x1 x2 x3 x4 x5
  refine (Fields_any v (kd s i e) hv HKD.out W4 HE.out).mono ?_
  rintro z W5 ⟨vl, rfl, hown, hb⟩
  obtain ⟨Al, cl, rfl, -, -, -⟩ := hown.vat
  simp only [clsV_len] at hown ⊢
  replace HR := Lib.hid (HR.out.below hb)
  replace HE := Lib.hid (HE.out.below hb)
  replace HP := Lib.hid (HP.out.below hb)
  replace HPF := Lib.hid (HPF.out.below hb)
  replace HX := Lib.hid (HX.out.below hb)
  replace HF := Lib.hid (HF.out.below hb)
  replace HFR := Lib.hid (HFR.out.below hb)
  replace HORD := Lib.hid (And.intro HORD.out hb.size)
  have HLS := Lib.hid (show OwnB W5 W4.heap.size W5.heap.size 128 (.slice Al (lets v (kd s i e)).size cl) (clsV (lets v (kd s i e))) from Or.inl ⟨hown, fun b hb => (World.ownsRow.lt hown b hb).2⟩)
  clear hb hown
  have HTT := Lib.hid (show (tall v (kd s i e) && tru (kd s i e)) = (tall v (kd s i e) && tru (kd s i e)) from rfl)
  have HLO := Lib.hid (lets_ok v (kd s i e)).1
  have HS0 := Lib.hid (show rs0 s i e v = ⟨tkI s i e 1, tkE s i e 1, wrK s i e v, []⟩ from rfl)
  have HTI := Lib.hid (show tkI s i e 1 ≤ s.size from by unfold tkI; split <;> omega)
  have HRS := Lib.hid (show rs1 s i e v = foldR v s (lets v (kd s i e)) (lets v (kd s i e)).size (rs0 s i e v) from rfl)
  have HBG := Lib.hid (fun j => lets_bnd v (kd s i e) j)
  have HR2 := Lib.hid (show rs2 s i e v = if (tall v (kd s i e) && tru (kd s i e)) then (if (rs1 s i e v).w = 0 then ((tx s (rs1 s i e v).i (rs1 s i e v).e).2.1, (tx s (rs1 s i e v).i (rs1 s i e v).e).2.2, wrT (tx s (rs1 s i e v).i (rs1 s i e v).e), [(tx s (rs1 s i e v).i (rs1 s i e v).e).1]) else ((rs1 s i e v).i, (rs1 s i e v).e, (rs1 s i e v).w, [])) else ((rs1 s i e v).i, (rs1 s i e v).e, (rs1 s i e v).w, []) from rfl)
  generalize (tall v (kd s i e) && tru (kd s i e)) = tt at HR2 ⊢
  clear HTT
  generalize hlt : lets v (kd s i e) = lt at HLS HLO HRS ⊢
  clear hlt HBG
  generalize hst0 : rs0 s i e v = st0 at HS0 HRS
  clear hst0
  go_wp2_with fail
  go_loopw [34] (fun i' wr => ∃ (k : Nat) (A : Option Addr) (cap : Nat), k ≤ lt.size ∧ i' = .int .i64 k ∧ Hid (LoopI r g W5.heap.size s v (kd s i e) (foldR v s lt k st0) A cap W5 wr) ∧ Hid ((foldR v s lt k st0).ns.length ≤ k)) (fun i _ => lt.size - (intOf i).toNat)
  case atStart => exact ⟨0, none, 0, Nat.zero_le _, rfl, Lib.hid (by rw [foldR_zero, HS0.out]; exact ⟨HR.out, HX.out, HF.out, Or.inl ⟨Own.nil _ _ _, fun b hb => by cases hb⟩, Fr.refl _ _ _ _, HTI.out⟩), Lib.hid (by rw [foldR_zero, HS0.out]; exact Nat.le_refl _)⟩
  case round =>
    clear HR HX HF
    obtain ⟨k, A, cap, hk, rfl, HI, HNL⟩ := hrel
    by_cases hlt : k < lt.size
    · have hst := foldR_succ v s lt k st0
      have HST := Lib.hid hst
      clear hst
      obtain ⟨gl, cap3, hvl, hl1, hl2, _, hcs⟩ := (HLS.out.resolve_right (fun h => by have hz := congrArg List.length h.1; rw [clsV_len, List.length_nil] at hz; omega)).1.cells (by rw [clsV_len]; omega)
      have hgl := (HLS.out.resolve_right (fun h => by have hz := congrArg List.length h.1; rw [clsV_len, List.length_nil] at hz; omega)).2
      injection hvl with q1 q2 q3
      subst q1
      have hgl2 := hgl gl rfl
      have hc0 := hcs k _ (clsV_at lt k hlt)
      have hord := HORD.out
      have c0 := cell_fr HI.out.fr hc0 (by omega) (by omega) hgl2
      have HEk := Lib.hid (env_fr HE.out HI.out.fr (by omega) (by omega) (by omega))
      have hsz5 := HI.out.fr.size
      have HC := Lib.hid (byteAt_lt lt k)
      clear hord q2 q3 hcs hgl hc0 hl1 hl2
      generalize hsn : foldR v s lt (k + 1) st0 = st' at HST
      have HSN := Lib.hid hsn
      clear hsn
      generalize foldR v s lt k st0 = st at HI HNL HST
      generalize byteAt lt k = c at c0 HC HST
      have z0 : (0 : Int) ≤ (k : Int) := by omega
      have z1 : (k : Int) < (lt.size : Int) := by omega
      have hlo := HLO.out
      have HSZ5 := Lib.hid hsz5
      have HG2 := Lib.hid hgl2
      clear hsz5 hgl2
      go_wp2_with fail
      refine (number_any g v c hv HC.out _ _ _ _ _ wr HI.out.six HEk.out).mono ?_
      rintro z W6 ⟨bg, bh, bn, bl, rfl, hc4, hb⟩
      have HC4 := Lib.hid hc4
      have HB6 := Lib.hid hb
      clear hc4 hb c0
      go_wp2_with fail
      have hord := HORD.out
      by_cases hw0 : st.w = 0
      · refine (readN_any bg bh bn bl g r W5.heap.size wr.heap.size s st.i st.e (.int .u8 (v : Int)) (.int .u8 (U (kd s i e))) (.slice none 0 0) (.int .i64 (st.w : Int)) A cap st.ns _ _ 0 W6 (HI.out.rd.below HB6.out) HI.out.le hs (HI.out.six.below HB6.out) (HI.out.free.below HB6.out) (HI.out.own.below HB6.out) (by have h1 := HNL.out; have h2 := HLO.out; omega) HC4.out (by omega) (by omega) HSZ5.out ⟨(bnd_wf v c).2.2.1, (bnd_wf v c).2.2.2⟩ h0 (by rw [hw0]; rfl)).mono ?_
        rintro z W7 ⟨A2, c2, rfl, hg, hn⟩
        have HG := Lib.hid hg
        have HN := Lib.hid hn
        have HW0 := Lib.hid hw0
        clear hg hn hw0 hord
        go_wp2_with fail
        go_roundw
        case rel =>
          have hs' := HST.out
          rw [stepR_go HW0.out] at hs'
          refine ⟨k + 1, A2, c2, by omega, by go_num, Lib.hid ?_, Lib.hid ?_⟩
          · rw [HSN.out, hs']
            refine ⟨HG.out.rd, by simpa using HG.out.six, HG.out.free, by simpa using HN.out, (HI.out.fr.below HB6.out).trans HG.out.fr, ?_⟩
            exact Wire.shR_le _ _ _ _ HI.out.le
          · rw [HSN.out, hs']
            have h1 := HNL.out
            simp only [List.length_append, List.length_cons, List.length_nil]
            omega
        case measure => simp [intOf] <;> omega
      · refine (readN_skip g st.w bg bh bn bl _ _ _ _ _ W6 (HI.out.six.below HB6.out) hw0).mono ?_
        rintro z W7 ⟨rfl, hb7⟩
        have HB7 := Lib.hid hb7
        have HW0 := Lib.hid hw0
        clear hb7 hw0 hord
        go_wp2_with fail
        go_roundw
        case rel =>
          have hs' := HST.out
          rw [stepR_skip HW0.out] at hs'
          have hbb := below_step HB6.out HB7.out
          have h67 := hbb.size
          refine ⟨k + 1, A, cap, by omega, by go_num, Lib.hid ?_, Lib.hid (by rw [HSN.out, hs']; have h1 := HNL.out; omega)⟩
          rw [HSN.out, hs']
          exact ⟨HI.out.rd.below hbb, HI.out.six.below hbb, HI.out.free.below hbb, (HI.out.own.below hbb).imp (fun h => ⟨h.1, fun b hb => Nat.lt_of_lt_of_le (h.2 b hb) h67⟩) id, HI.out.fr.below hbb, HI.out.le⟩
        case measure => simp [intOf] <;> omega
    · obtain rfl : k = lt.size := by omega
      have z1 : ¬ (lt.size : Int) < (lt.size : Int) := by omega
      have HI1 := Lib.hid (show LoopI r g W5.heap.size s v (kd s i e) (rs1 s i e v) A cap W5 wr from by rw [HRS.out]; exact HI.out)
      clear HI HNL HRS HS0 HLS
      generalize rs1 s i e v = st at HI1 HGE HR2
      generalize rs2 s i e v = R2 at HGW HGI HGF HGE HR2
      have hord := HORD.out
      have HP1 := Lib.hid (four_fr HI1.out.fr HP.out (by omega) (by omega) (by omega))
      have HPF1 := Lib.hid (free_fr HI1.out.fr HPF.out (by omega) (by omega) (by omega))
      have HFR1 := Lib.hid (HFR.out.trans (HI1.out.fr.less (by omega)))
      have HO2 := Lib.hid (And.intro HORD.out HI1.out.fr.size)
      clear hord HP HPF HFR HE HORD
      have HP := HP1
      have HPF := HPF1
      have HFR := HFR1
      have HORD := HO2
      clear HP1 HPF1 HFR1 HO2
      have HR := Lib.hid HI1.out.rd
      have HX := Lib.hid HI1.out.six
      have HF := Lib.hid HI1.out.free
      have HN := Lib.hid HI1.out.own
      have HIL := Lib.hid HI1.out.le
      clear HI1
      cases tt with
      | false =>
        have HRR : Hid (R2 = (st.i, st.e, st.w, [])) := HR2.out
        clear HR2
        go_upto_region 13 with (fail)
        clear z1
        by_cases hw0 : st.w = 0
        · have hgw : getW s i e v = 0 := by rw [HGW.out, HRR.out]; exact hw0
          have HW0 := Lib.hid hgw
          have HEV := Lib.hid (show getE s i e v = ⟨v, kd s i e, st.ns, []⟩ from by rw [HGE.out, HRR.out]; exact if_pos hw0)
          have HII := Lib.hid (show getI s i e v = st.i from by rw [HGI.out, HRR.out])
          have HFF := Lib.hid (show getF s i e v = st.e from by rw [HGF.out, HRR.out])
          have hx := HX.out
          rw [hw0] at hx
          obtain ⟨x0, x1, x2, x3, x4, x5⟩ := hx
          clear hw0 hgw
          obtain ⟨p0, p1, p2, p3⟩ := HP.out
          have f0 := HPF.out.2 0
          have f1 := HPF.out.2 1
          have f2 := HPF.out.2 2
          have f3 := HPF.out.2 3
          go_wp2_with fail
          clear x0 x1 x2 x3 x4 x5 p0 p1 p2 p3 f0 f1 f2 f3
          have hp := ((((HP.out.set0 (.int .u8 (v : Int))).set1 (.int .u8 (U (kd s i e)))).set2 (.slice A st.ns.length cap)).set3 (.slice none 0 0))
          have ht := Touch.set wr w.heap.size 0 (.int .u8 (v : Int))
          have hf := HPF.out.set w.heap.size 0 (.int .u8 (v : Int))
          have hord := HORD.out
          replace HR := Lib.hid (HR.out.touch ht (by omega))
          replace HX := Lib.hid (HX.out.touch ht (by omega))
          replace HF := Lib.hid (HF.out.touch ht (by omega))
          replace HN := Lib.hid (HN.out.touch ht (by omega))
          replace HFR := Lib.hid (HFR.out.touch ht (by omega))
          clear hord
          replace HPF := Lib.hid hf
          clear ht hf
          have ht := Touch.set (wr.setCell ⟨w.heap.size, 0, none⟩ (.int .u8 (v : Int))) w.heap.size 1 (.int .u8 (U (kd s i e)))
          have hf := HPF.out.set w.heap.size 1 (.int .u8 (U (kd s i e)))
          have hord := HORD.out
          replace HR := Lib.hid (HR.out.touch ht (by omega))
          replace HX := Lib.hid (HX.out.touch ht (by omega))
          replace HF := Lib.hid (HF.out.touch ht (by omega))
          replace HN := Lib.hid (HN.out.touch ht (by omega))
          replace HFR := Lib.hid (HFR.out.touch ht (by omega))
          clear hord
          replace HPF := Lib.hid hf
          clear ht hf
          have ht := Touch.set ((wr.setCell ⟨w.heap.size, 0, none⟩ (.int .u8 (v : Int))).setCell ⟨w.heap.size, 1, none⟩ (.int .u8 (U (kd s i e)))) w.heap.size 2 (.slice A st.ns.length cap)
          have hf := HPF.out.set w.heap.size 2 (.slice A st.ns.length cap)
          have hord := HORD.out
          replace HR := Lib.hid (HR.out.touch ht (by omega))
          replace HX := Lib.hid (HX.out.touch ht (by omega))
          replace HF := Lib.hid (HF.out.touch ht (by omega))
          replace HN := Lib.hid (HN.out.touch ht (by omega))
          replace HFR := Lib.hid (HFR.out.touch ht (by omega))
          clear hord
          replace HPF := Lib.hid hf
          clear ht hf
          have ht := Touch.set (((wr.setCell ⟨w.heap.size, 0, none⟩ (.int .u8 (v : Int))).setCell ⟨w.heap.size, 1, none⟩ (.int .u8 (U (kd s i e)))).setCell ⟨w.heap.size, 2, none⟩ (.slice A st.ns.length cap)) w.heap.size 3 (.slice none 0 0)
          have hf := HPF.out.set w.heap.size 3 (.slice none 0 0)
          have hord := HORD.out
          replace HR := Lib.hid (HR.out.touch ht (by omega))
          replace HX := Lib.hid (HX.out.touch ht (by omega))
          replace HF := Lib.hid (HF.out.touch ht (by omega))
          replace HN := Lib.hid (HN.out.touch ht (by omega))
          replace HFR := Lib.hid (HFR.out.touch ht (by omega))
          clear hord
          replace HPF := Lib.hid hf
          clear ht hf
          have hs : wr.heap.size ≤ ((((wr.setCell ⟨w.heap.size, 0, none⟩ (.int .u8 (v : Int))).setCell ⟨w.heap.size, 1, none⟩ (.int .u8 (U (kd s i e)))).setCell ⟨w.heap.size, 2, none⟩ (.slice A st.ns.length cap)).setCell ⟨w.heap.size, 3, none⟩ (.slice none 0 0)).heap.size := by simp
          replace HORD := Lib.hid (And.intro HORD.out hs)
          replace HP := Lib.hid hp
          clear hp hs
          generalize ((((wr.setCell ⟨w.heap.size, 0, none⟩ (.int .u8 (v : Int))).setCell ⟨w.heap.size, 1, none⟩ (.int .u8 (U (kd s i e)))).setCell ⟨w.heap.size, 2, none⟩ (.slice A st.ns.length cap)).setCell ⟨w.heap.size, 3, none⟩ (.slice none 0 0)) = WE at HR HX HF HN HP HPF HFR HORD  ⊢
          obtain ⟨d0, d1, d2, d3⟩ := HP.out
          have hord := HORD.out
          refine bodyPost_ret (v := .tuple #[.agg #[.int .u8 (v : Int), .int .u8 (U (kd s i e)), .slice A st.ns.length cap, .slice none 0 0], .int .i64 0]) (by simp [results, Tryz.results63, go_sem, d0, d1, d2, d3]) rfl ⟨A, cap, none, 0, ?_, ?_, ?_, ?_⟩
          · rw [HEV.out, HW0.out]; rfl
          · rw [HEV.out]; exact HN.out.own.less (by omega)
          · rw [HEV.out]; exact ownE_nil _ _ _
          · rw [HII.out, HFF.out]; exact fr_step HFR.out HR.out (by omega) (by omega)
        · skip
          have hgw : getW s i e v = st.w := by rw [HGW.out, HRR.out]
          have HW0 := Lib.hid hgw
          have HEV := Lib.hid (show getE s i e v = noEv from by rw [HGE.out, HRR.out]; exact if_neg hw0)
          have HII := Lib.hid (show getI s i e v = st.i from by rw [HGI.out, HRR.out])
          have HFF := Lib.hid (show getF s i e v = st.e from by rw [HGF.out, HRR.out])
          have q1 : ((st.w : Nat) : Int) ≠ 0 := by omega
          have q2 : (((st.w : Nat) : Int) == 0) = false := beq_eq_false_iff_ne.2 q1
          have q3 : (st.w == 0) = false := beq_eq_false_iff_ne.2 hw0
          obtain ⟨x0, x1, x2, x3, x4, x5⟩ := HX.out
          go_upto_region 14 with (fail)
          clear x0 x1 x2 x3 x4 x5 q1 q2 q3 hw0 hgw
          clear HN
          clear HF
          have gd := below_drew wr.heap.size wr
          replace HR := Lib.hid (HR.out.below gd)
          replace HX := Lib.hid (HX.out.below gd)
          replace HP := Lib.hid (HP.out.below gd)
          replace HPF := Lib.hid (HPF.out.below gd)
          replace HFR := Lib.hid (HFR.out.below gd)
          replace HORD := Lib.hid (And.intro HORD.out gd.size)
          refine wp_region_held_drew (S := (fun w' => w'.cell? ⟨g, 5, none⟩ = some (.int .i64 (st.w : Int)))) (by kernel_rfl) HX.out.2.2.2.2.2 (fun hHeld => ?_)
          generalize wr.drew = E0 at HR HX HP HPF HFR HORD hHeld ⊢
          clear gd
          refine wpAnyH_take (i := 0) (oi := { dst := some 48, op := Go.Op.build 39 #[], type := 39, pos := "codec.go:131", after := #[], guard := none }) (v := ?v1) rfl (by kernel_rfl) (by kernel_rfl) (by kernel_rfl) (fun _ _ _ h => h) (Or.inl ⟨by rfl, ?hy1⟩) (by assumption) ?rest1
          case hy1 => (intro w hSw; obtain s0 := hSw; go_simp; try with_reducible rfl)
          try simp only [Act.put, List.setIfInBounds_toArray, List.set_cons_zero, List.set_cons_succ]
          refine wpAnyH_take (i := 1) (oi := { dst := some 49, op := Go.Op.fieldAddr 120 (Go.Operand.tmp 6) 2, type := 0, pos := "codec.go:131", after := #[{ on := 3, ground := Go.Ground.gcOnly Go.Departure.lateStores }], guard := none }) (v := ?v2) rfl (by kernel_rfl) (by kernel_rfl) (by kernel_rfl) (fun _ _ _ h => h) (Or.inl ⟨by rfl, ?hy2⟩) (by assumption) ?rest2
          case hy2 => (intro w hSw; obtain s0 := hSw; go_simp; try with_reducible rfl)
          try simp only [Act.put, List.setIfInBounds_toArray, List.set_cons_zero, List.set_cons_succ]
          refine wpAnyH_take (i := 2) (oi := { dst := some 50, op := Go.Op.load 26 (Go.Operand.tmp 49), type := 26, pos := "codec.go:131", after := #[{ on := 1, ground := Go.Ground.data }, { on := 3, ground := Go.Ground.gcOnly Go.Departure.lateStores }], guard := none }) (v := ?v3) rfl (by kernel_rfl) (by kernel_rfl) (by kernel_rfl) (fun _ _ _ h => h) (Or.inl ⟨by rfl, ?hy3⟩) (by assumption) ?rest3
          case hy3 => (intro w hSw; obtain s0 := hSw; go_simp; try with_reducible rfl)
          try simp only [Act.put, List.setIfInBounds_toArray, List.set_cons_zero, List.set_cons_succ]
          refine wpAnyH_ready (rs := [3]) (by kernel_rfl) (by simp) ?_
          refine (AllReadyH.cons (o := { dst := none, op := Go.Op.store 39 (Go.Operand.tmp 4) (Go.Operand.tmp 48), type := 0, pos := "codec.go:131", after := #[{ on := 0, ground := Go.Ground.data }, { on := 0, ground := Go.Ground.phase }, { on := 1, ground := Go.Ground.textOnly Go.Departure.lateStores }, { on := 2, ground := Go.Ground.textOnly Go.Departure.lateStores }], guard := none }) rfl (fun K hK => ?br4_3) AllReadyH.nil)
          case br4_3 =>
           obtain ⟨p0, p1, p2, p3⟩ := HP.out
           have f0 := HPF.out.2 0
           have f1 := HPF.out.2 1
           have f2 := HPF.out.2 2
           have f3 := HPF.out.2 3
           go_simp
           clear p0 p1 p2 p3 f0 f1 f2 f3
           have hp := ((((HP.out.set0 (.int .u8 0)).set1 (.int .u8 0)).set2 (.slice none 0 0)).set3 (.slice none 0 0))
           have ht := Touch.set E0 w.heap.size 0 (.int .u8 0)
           have hf := HPF.out.set w.heap.size 0 (.int .u8 0)
           have hord := HORD.out
           replace HR := Lib.hid (HR.out.touch ht (by omega))
           replace HX := Lib.hid (HX.out.touch ht (by omega))
           replace HFR := Lib.hid (HFR.out.touch ht (by omega))
           clear hord
           replace HPF := Lib.hid hf
           clear ht hf
           have ht := Touch.set (E0.setCell ⟨w.heap.size, 0, none⟩ (.int .u8 0)) w.heap.size 1 (.int .u8 0)
           have hf := HPF.out.set w.heap.size 1 (.int .u8 0)
           have hord := HORD.out
           replace HR := Lib.hid (HR.out.touch ht (by omega))
           replace HX := Lib.hid (HX.out.touch ht (by omega))
           replace HFR := Lib.hid (HFR.out.touch ht (by omega))
           clear hord
           replace HPF := Lib.hid hf
           clear ht hf
           have ht := Touch.set ((E0.setCell ⟨w.heap.size, 0, none⟩ (.int .u8 0)).setCell ⟨w.heap.size, 1, none⟩ (.int .u8 0)) w.heap.size 2 (.slice none 0 0)
           have hf := HPF.out.set w.heap.size 2 (.slice none 0 0)
           have hord := HORD.out
           replace HR := Lib.hid (HR.out.touch ht (by omega))
           replace HX := Lib.hid (HX.out.touch ht (by omega))
           replace HFR := Lib.hid (HFR.out.touch ht (by omega))
           clear hord
           replace HPF := Lib.hid hf
           clear ht hf
           have ht := Touch.set (((E0.setCell ⟨w.heap.size, 0, none⟩ (.int .u8 0)).setCell ⟨w.heap.size, 1, none⟩ (.int .u8 0)).setCell ⟨w.heap.size, 2, none⟩ (.slice none 0 0)) w.heap.size 3 (.slice none 0 0)
           have hf := HPF.out.set w.heap.size 3 (.slice none 0 0)
           have hord := HORD.out
           replace HR := Lib.hid (HR.out.touch ht (by omega))
           replace HX := Lib.hid (HX.out.touch ht (by omega))
           replace HFR := Lib.hid (HFR.out.touch ht (by omega))
           clear hord
           replace HPF := Lib.hid hf
           clear ht hf
           have hs : E0.heap.size ≤ ((((E0.setCell ⟨w.heap.size, 0, none⟩ (.int .u8 0)).setCell ⟨w.heap.size, 1, none⟩ (.int .u8 0)).setCell ⟨w.heap.size, 2, none⟩ (.slice none 0 0)).setCell ⟨w.heap.size, 3, none⟩ (.slice none 0 0)).heap.size := by simp
           replace HORD := Lib.hid (And.intro HORD.out hs)
           replace HP := Lib.hid hp
           clear hp hs
           refine hK.out _ _ HX.out.2.2.2.2.2 (fun hHeld => ?_)
           clear hK K
           generalize ((((E0.setCell ⟨w.heap.size, 0, none⟩ (.int .u8 0)).setCell ⟨w.heap.size, 1, none⟩ (.int .u8 0)).setCell ⟨w.heap.size, 2, none⟩ (.slice none 0 0)).setCell ⟨w.heap.size, 3, none⟩ (.slice none 0 0)) = E1 at HR HX HP HPF HFR HORD hHeld ⊢
           try simp only [Act.put, List.setIfInBounds_toArray, List.set_cons_zero, List.set_cons_succ]
           refine wpAnyH_take (i := 4) (oi := { dst := some 5, op := Go.Op.assign (Go.Operand.tmp 50), type := 26, pos := "codec.go:131", after := #[{ on := 2, ground := Go.Ground.data }, { on := 3, ground := Go.Ground.chain }, { on := 0, ground := Go.Ground.phase }, { on := 1, ground := Go.Ground.phase }, { on := 2, ground := Go.Ground.phase }, { on := 3, ground := Go.Ground.phase }], guard := none }) (v := ?v5) rfl (by kernel_rfl) (by kernel_rfl) (by kernel_rfl) (fun _ _ _ h => h) (Or.inl ⟨by rfl, ?hy5⟩) (by assumption) ?rest5
           case hy5 => (intro w hSw; obtain s0 := hSw; go_simp; try with_reducible rfl)
           try simp only [Act.put, List.setIfInBounds_toArray, List.set_cons_zero, List.set_cons_succ]
           refine wpAnyH_done (by kernel_rfl) ?_ _
           go_wp2_with fail
           obtain ⟨d0, d1, d2, d3⟩ := HP.out
           have hord := HORD.out
           refine bodyPost_ret (v := .tuple #[.agg #[.int .u8 0, .int .u8 0, .slice none 0 0, .slice none 0 0], .int .i64 (st.w : Int)]) (by simp [results, Tryz.results63, go_sem, d0, d1, d2, d3]) rfl ⟨none, 0, none, 0, ?_, ?_, ?_, ?_⟩
           · rw [HEV.out, HW0.out]; rfl
           · rw [HEV.out]; exact ownE_nil _ _ _
           · rw [HEV.out]; exact ownE_nil _ _ _
           · rw [HII.out, HFF.out]; exact fr_step HFR.out HR.out (by omega) (by omega)
      | true =>
        have HRT : Hid (R2 = if st.w = 0 then ((tx s st.i st.e).2.1, (tx s st.i st.e).2.2, wrT (tx s st.i st.e), [(tx s st.i st.e).1]) else (st.i, st.e, st.w, [])) := HR2.out
        clear HR2
        go_upto_region 12 with (fail)
        clear z1
        go_wp2_with fail
        refine (name_any g wr).mono ?_
        rintro z W6 ⟨bg, bs, rfl, hnm, hb⟩
        have HTOP := Lib.hid (show wr.heap.size = wr.heap.size from rfl)
        replace HR := Lib.hid (HR.out.below hb)
        replace HX := Lib.hid (HX.out.below hb)
        replace HF := Lib.hid (HF.out.below hb)
        replace HN := Lib.hid (HN.out.below hb)
        replace HP := Lib.hid (HP.out.below hb)
        replace HPF := Lib.hid (HPF.out.below hb)
        replace HFR := Lib.hid (HFR.out.below hb)
        replace HORD := Lib.hid (And.intro HORD.out hb.size)
        have HNM := Lib.hid hnm
        clear hb hnm
        generalize hwt : wr.heap.size = top at HNM HN HORD
        clear hwt HTOP
        by_cases hw0 : st.w = 0
        · have HR3 := Lib.hid (HRT.out.trans (if_pos hw0))
          clear HRT
          have htl : (tx s st.i st.e).1.size ≤ maxLen := Nat.le_trans (tx_size s st.i st.e) (by decide)
          have hord := HORD.out
          go_wp2_with fail
          refine (readT_any bg bs g r top s st.i st.e _ _ _ _ _ _ W6 HR.out HIL.out hs HX.out HF.out HNM.out (by omega) (by omega) htl (by rw [hw0]; rfl)).mono ?_
          rintro z W7 ⟨q, rfl, hg, hn⟩
          have HP1 := Lib.hid (four_fr hg.fr HP.out (by omega) (by omega) (by omega))
          have HPF1 := Lib.hid (free_fr hg.fr HPF.out (by omega) (by omega) (by omega))
          have HFR1 := Lib.hid (HFR.out.trans (hg.fr.less (by omega)))
          have HN1 := Lib.hid (HN.out.fr hg.fr (Nat.le_refl _) (by omega) (by omega))
          have HO2 := Lib.hid (And.intro HORD.out hg.fr.size)
          clear hord HP HPF HFR HN HORD HR HX HF
          have HP := HP1
          have HPF := HPF1
          have HFR := HFR1
          have HN := HN1
          have HORD := HO2
          clear HP1 HPF1 HFR1 HN1 HO2
          have HR := Lib.hid hg.rd
          have HX := Lib.hid hg.six
          have HF := Lib.hid hg.free
          have HQ := Lib.hid (show OwnB W7 W6.heap.size W7.heap.size 9 (.slice (some ⟨q, 0, none⟩) 1 1) [.string (tx s st.i st.e).1] from Or.inl ⟨hn, fun b hb => (World.ownsRow.lt hn b hb).2⟩)
          clear hg hn hw0 htl
          generalize tx s st.i st.e = T2 at HR HX HQ HR3
          obtain ⟨t2, i2, e2⟩ := T2
          simp only at HR HX HQ HR3
          have HRR : Hid (R2 = (i2, e2, wrT (t2, i2, e2), [t2])) := HR3.out
          clear HR3
          generalize wrT (t2, i2, e2) = w2 at HX HRR
          generalize W6.heap.size = rq at HQ HORD
          go_upto_region 13 with (fail)
          by_cases hw0 : w2 = 0
          · have hgw : getW s i e v = 0 := by rw [HGW.out, HRR.out]; exact hw0
            have HW0 := Lib.hid hgw
            have HEV := Lib.hid (show getE s i e v = ⟨v, kd s i e, st.ns, [t2]⟩ from by rw [HGE.out, HRR.out]; exact if_pos hw0)
            have HII := Lib.hid (show getI s i e v = i2 from by rw [HGI.out, HRR.out])
            have HFF := Lib.hid (show getF s i e v = e2 from by rw [HGF.out, HRR.out])
            have hx := HX.out
            rw [hw0] at hx
            obtain ⟨x0, x1, x2, x3, x4, x5⟩ := hx
            clear hw0 hgw
            obtain ⟨p0, p1, p2, p3⟩ := HP.out
            have f0 := HPF.out.2 0
            have f1 := HPF.out.2 1
            have f2 := HPF.out.2 2
            have f3 := HPF.out.2 3
            go_wp2_with fail
            clear x0 x1 x2 x3 x4 x5 p0 p1 p2 p3 f0 f1 f2 f3
            have hp := ((((HP.out.set0 (.int .u8 (v : Int))).set1 (.int .u8 (U (kd s i e)))).set2 (.slice A st.ns.length cap)).set3 (.slice (some ⟨q, 0, none⟩) 1 1))
            have ht := Touch.set W7 w.heap.size 0 (.int .u8 (v : Int))
            have hf := HPF.out.set w.heap.size 0 (.int .u8 (v : Int))
            have hord := HORD.out
            replace HR := Lib.hid (HR.out.touch ht (by omega))
            replace HX := Lib.hid (HX.out.touch ht (by omega))
            replace HF := Lib.hid (HF.out.touch ht (by omega))
            replace HN := Lib.hid (HN.out.touch ht (by omega))
            replace HFR := Lib.hid (HFR.out.touch ht (by omega))
            replace HQ := Lib.hid (HQ.out.touch ht (by omega))
            clear hord
            replace HPF := Lib.hid hf
            clear ht hf
            have ht := Touch.set (W7.setCell ⟨w.heap.size, 0, none⟩ (.int .u8 (v : Int))) w.heap.size 1 (.int .u8 (U (kd s i e)))
            have hf := HPF.out.set w.heap.size 1 (.int .u8 (U (kd s i e)))
            have hord := HORD.out
            replace HR := Lib.hid (HR.out.touch ht (by omega))
            replace HX := Lib.hid (HX.out.touch ht (by omega))
            replace HF := Lib.hid (HF.out.touch ht (by omega))
            replace HN := Lib.hid (HN.out.touch ht (by omega))
            replace HFR := Lib.hid (HFR.out.touch ht (by omega))
            replace HQ := Lib.hid (HQ.out.touch ht (by omega))
            clear hord
            replace HPF := Lib.hid hf
            clear ht hf
            have ht := Touch.set ((W7.setCell ⟨w.heap.size, 0, none⟩ (.int .u8 (v : Int))).setCell ⟨w.heap.size, 1, none⟩ (.int .u8 (U (kd s i e)))) w.heap.size 2 (.slice A st.ns.length cap)
            have hf := HPF.out.set w.heap.size 2 (.slice A st.ns.length cap)
            have hord := HORD.out
            replace HR := Lib.hid (HR.out.touch ht (by omega))
            replace HX := Lib.hid (HX.out.touch ht (by omega))
            replace HF := Lib.hid (HF.out.touch ht (by omega))
            replace HN := Lib.hid (HN.out.touch ht (by omega))
            replace HFR := Lib.hid (HFR.out.touch ht (by omega))
            replace HQ := Lib.hid (HQ.out.touch ht (by omega))
            clear hord
            replace HPF := Lib.hid hf
            clear ht hf
            have ht := Touch.set (((W7.setCell ⟨w.heap.size, 0, none⟩ (.int .u8 (v : Int))).setCell ⟨w.heap.size, 1, none⟩ (.int .u8 (U (kd s i e)))).setCell ⟨w.heap.size, 2, none⟩ (.slice A st.ns.length cap)) w.heap.size 3 (.slice (some ⟨q, 0, none⟩) 1 1)
            have hf := HPF.out.set w.heap.size 3 (.slice (some ⟨q, 0, none⟩) 1 1)
            have hord := HORD.out
            replace HR := Lib.hid (HR.out.touch ht (by omega))
            replace HX := Lib.hid (HX.out.touch ht (by omega))
            replace HF := Lib.hid (HF.out.touch ht (by omega))
            replace HN := Lib.hid (HN.out.touch ht (by omega))
            replace HFR := Lib.hid (HFR.out.touch ht (by omega))
            replace HQ := Lib.hid (HQ.out.touch ht (by omega))
            clear hord
            replace HPF := Lib.hid hf
            clear ht hf
            have hs : W7.heap.size ≤ ((((W7.setCell ⟨w.heap.size, 0, none⟩ (.int .u8 (v : Int))).setCell ⟨w.heap.size, 1, none⟩ (.int .u8 (U (kd s i e)))).setCell ⟨w.heap.size, 2, none⟩ (.slice A st.ns.length cap)).setCell ⟨w.heap.size, 3, none⟩ (.slice (some ⟨q, 0, none⟩) 1 1)).heap.size := by simp
            replace HORD := Lib.hid (And.intro HORD.out hs)
            replace HP := Lib.hid hp
            clear hp hs
            generalize ((((W7.setCell ⟨w.heap.size, 0, none⟩ (.int .u8 (v : Int))).setCell ⟨w.heap.size, 1, none⟩ (.int .u8 (U (kd s i e)))).setCell ⟨w.heap.size, 2, none⟩ (.slice A st.ns.length cap)).setCell ⟨w.heap.size, 3, none⟩ (.slice (some ⟨q, 0, none⟩) 1 1)) = WE at HR HX HF HN HP HPF HFR HQ HORD  ⊢
            obtain ⟨d0, d1, d2, d3⟩ := HP.out
            have hord := HORD.out
            refine bodyPost_ret (v := .tuple #[.agg #[.int .u8 (v : Int), .int .u8 (U (kd s i e)), .slice A st.ns.length cap, .slice (some ⟨q, 0, none⟩) 1 1], .int .i64 0]) (by simp [results, Tryz.results63, go_sem, d0, d1, d2, d3]) rfl ⟨A, cap, (some ⟨q, 0, none⟩), 1, ?_, ?_, ?_, ?_⟩
            · rw [HEV.out, HW0.out]; rfl
            · rw [HEV.out]; exact HN.out.own.less (by omega)
            · rw [HEV.out]; exact (HQ.out.own.less (by omega))
            · rw [HII.out, HFF.out]; exact fr_step HFR.out HR.out (by omega) (by omega)
          · skip
            have hgw : getW s i e v = w2 := by rw [HGW.out, HRR.out]
            have HW0 := Lib.hid hgw
            have HEV := Lib.hid (show getE s i e v = noEv from by rw [HGE.out, HRR.out]; exact if_neg hw0)
            have HII := Lib.hid (show getI s i e v = i2 from by rw [HGI.out, HRR.out])
            have HFF := Lib.hid (show getF s i e v = e2 from by rw [HGF.out, HRR.out])
            have q1 : ((w2 : Nat) : Int) ≠ 0 := by omega
            have q2 : (((w2 : Nat) : Int) == 0) = false := beq_eq_false_iff_ne.2 q1
            have q3 : (w2 == 0) = false := beq_eq_false_iff_ne.2 hw0
            obtain ⟨x0, x1, x2, x3, x4, x5⟩ := HX.out
            go_upto_region 14 with (fail)
            clear x0 x1 x2 x3 x4 x5 q1 q2 q3 hw0 hgw
            clear HN
            clear HF
            have gd := below_drew W7.heap.size W7
            replace HR := Lib.hid (HR.out.below gd)
            replace HX := Lib.hid (HX.out.below gd)
            replace HP := Lib.hid (HP.out.below gd)
            replace HPF := Lib.hid (HPF.out.below gd)
            replace HFR := Lib.hid (HFR.out.below gd)
            replace HQ := Lib.hid (HQ.out.below gd)
            replace HORD := Lib.hid (And.intro HORD.out gd.size)
            refine wp_region_held_drew (S := (fun w' => w'.cell? ⟨g, 5, none⟩ = some (.int .i64 (w2 : Int)))) (by kernel_rfl) HX.out.2.2.2.2.2 (fun hHeld => ?_)
            generalize W7.drew = E0 at HR HX HP HPF HFR HQ HORD hHeld ⊢
            clear gd
            refine wpAnyH_take (i := 0) (oi := { dst := some 48, op := Go.Op.build 39 #[], type := 39, pos := "codec.go:131", after := #[], guard := none }) (v := ?v6) rfl (by kernel_rfl) (by kernel_rfl) (by kernel_rfl) (fun _ _ _ h => h) (Or.inl ⟨by rfl, ?hy6⟩) (by assumption) ?rest6
            case hy6 => (intro w hSw; obtain s0 := hSw; go_simp; try with_reducible rfl)
            try simp only [Act.put, List.setIfInBounds_toArray, List.set_cons_zero, List.set_cons_succ]
            refine wpAnyH_take (i := 1) (oi := { dst := some 49, op := Go.Op.fieldAddr 120 (Go.Operand.tmp 6) 2, type := 0, pos := "codec.go:131", after := #[{ on := 3, ground := Go.Ground.gcOnly Go.Departure.lateStores }], guard := none }) (v := ?v7) rfl (by kernel_rfl) (by kernel_rfl) (by kernel_rfl) (fun _ _ _ h => h) (Or.inl ⟨by rfl, ?hy7⟩) (by assumption) ?rest7
            case hy7 => (intro w hSw; obtain s0 := hSw; go_simp; try with_reducible rfl)
            try simp only [Act.put, List.setIfInBounds_toArray, List.set_cons_zero, List.set_cons_succ]
            refine wpAnyH_take (i := 2) (oi := { dst := some 50, op := Go.Op.load 26 (Go.Operand.tmp 49), type := 26, pos := "codec.go:131", after := #[{ on := 1, ground := Go.Ground.data }, { on := 3, ground := Go.Ground.gcOnly Go.Departure.lateStores }], guard := none }) (v := ?v8) rfl (by kernel_rfl) (by kernel_rfl) (by kernel_rfl) (fun _ _ _ h => h) (Or.inl ⟨by rfl, ?hy8⟩) (by assumption) ?rest8
            case hy8 => (intro w hSw; obtain s0 := hSw; go_simp; try with_reducible rfl)
            try simp only [Act.put, List.setIfInBounds_toArray, List.set_cons_zero, List.set_cons_succ]
            refine wpAnyH_ready (rs := [3]) (by kernel_rfl) (by simp) ?_
            refine (AllReadyH.cons (o := { dst := none, op := Go.Op.store 39 (Go.Operand.tmp 4) (Go.Operand.tmp 48), type := 0, pos := "codec.go:131", after := #[{ on := 0, ground := Go.Ground.data }, { on := 0, ground := Go.Ground.phase }, { on := 1, ground := Go.Ground.textOnly Go.Departure.lateStores }, { on := 2, ground := Go.Ground.textOnly Go.Departure.lateStores }], guard := none }) rfl (fun K hK => ?br9_3) AllReadyH.nil)
            case br9_3 =>
             obtain ⟨p0, p1, p2, p3⟩ := HP.out
             have f0 := HPF.out.2 0
             have f1 := HPF.out.2 1
             have f2 := HPF.out.2 2
             have f3 := HPF.out.2 3
             go_simp
             clear p0 p1 p2 p3 f0 f1 f2 f3
             have hp := ((((HP.out.set0 (.int .u8 0)).set1 (.int .u8 0)).set2 (.slice none 0 0)).set3 (.slice none 0 0))
             have ht := Touch.set E0 w.heap.size 0 (.int .u8 0)
             have hf := HPF.out.set w.heap.size 0 (.int .u8 0)
             have hord := HORD.out
             replace HR := Lib.hid (HR.out.touch ht (by omega))
             replace HX := Lib.hid (HX.out.touch ht (by omega))
             replace HFR := Lib.hid (HFR.out.touch ht (by omega))
             replace HQ := Lib.hid (HQ.out.touch ht (by omega))
             clear hord
             replace HPF := Lib.hid hf
             clear ht hf
             have ht := Touch.set (E0.setCell ⟨w.heap.size, 0, none⟩ (.int .u8 0)) w.heap.size 1 (.int .u8 0)
             have hf := HPF.out.set w.heap.size 1 (.int .u8 0)
             have hord := HORD.out
             replace HR := Lib.hid (HR.out.touch ht (by omega))
             replace HX := Lib.hid (HX.out.touch ht (by omega))
             replace HFR := Lib.hid (HFR.out.touch ht (by omega))
             replace HQ := Lib.hid (HQ.out.touch ht (by omega))
             clear hord
             replace HPF := Lib.hid hf
             clear ht hf
             have ht := Touch.set ((E0.setCell ⟨w.heap.size, 0, none⟩ (.int .u8 0)).setCell ⟨w.heap.size, 1, none⟩ (.int .u8 0)) w.heap.size 2 (.slice none 0 0)
             have hf := HPF.out.set w.heap.size 2 (.slice none 0 0)
             have hord := HORD.out
             replace HR := Lib.hid (HR.out.touch ht (by omega))
             replace HX := Lib.hid (HX.out.touch ht (by omega))
             replace HFR := Lib.hid (HFR.out.touch ht (by omega))
             replace HQ := Lib.hid (HQ.out.touch ht (by omega))
             clear hord
             replace HPF := Lib.hid hf
             clear ht hf
             have ht := Touch.set (((E0.setCell ⟨w.heap.size, 0, none⟩ (.int .u8 0)).setCell ⟨w.heap.size, 1, none⟩ (.int .u8 0)).setCell ⟨w.heap.size, 2, none⟩ (.slice none 0 0)) w.heap.size 3 (.slice none 0 0)
             have hf := HPF.out.set w.heap.size 3 (.slice none 0 0)
             have hord := HORD.out
             replace HR := Lib.hid (HR.out.touch ht (by omega))
             replace HX := Lib.hid (HX.out.touch ht (by omega))
             replace HFR := Lib.hid (HFR.out.touch ht (by omega))
             replace HQ := Lib.hid (HQ.out.touch ht (by omega))
             clear hord
             replace HPF := Lib.hid hf
             clear ht hf
             have hs : E0.heap.size ≤ ((((E0.setCell ⟨w.heap.size, 0, none⟩ (.int .u8 0)).setCell ⟨w.heap.size, 1, none⟩ (.int .u8 0)).setCell ⟨w.heap.size, 2, none⟩ (.slice none 0 0)).setCell ⟨w.heap.size, 3, none⟩ (.slice none 0 0)).heap.size := by simp
             replace HORD := Lib.hid (And.intro HORD.out hs)
             replace HP := Lib.hid hp
             clear hp hs
             refine hK.out _ _ HX.out.2.2.2.2.2 (fun hHeld => ?_)
             clear hK K
             generalize ((((E0.setCell ⟨w.heap.size, 0, none⟩ (.int .u8 0)).setCell ⟨w.heap.size, 1, none⟩ (.int .u8 0)).setCell ⟨w.heap.size, 2, none⟩ (.slice none 0 0)).setCell ⟨w.heap.size, 3, none⟩ (.slice none 0 0)) = E1 at HR HX HP HPF HFR HQ HORD hHeld ⊢
             try simp only [Act.put, List.setIfInBounds_toArray, List.set_cons_zero, List.set_cons_succ]
             refine wpAnyH_take (i := 4) (oi := { dst := some 5, op := Go.Op.assign (Go.Operand.tmp 50), type := 26, pos := "codec.go:131", after := #[{ on := 2, ground := Go.Ground.data }, { on := 3, ground := Go.Ground.chain }, { on := 0, ground := Go.Ground.phase }, { on := 1, ground := Go.Ground.phase }, { on := 2, ground := Go.Ground.phase }, { on := 3, ground := Go.Ground.phase }], guard := none }) (v := ?v10) rfl (by kernel_rfl) (by kernel_rfl) (by kernel_rfl) (fun _ _ _ h => h) (Or.inl ⟨by rfl, ?hy10⟩) (by assumption) ?rest10
             case hy10 => (intro w hSw; obtain s0 := hSw; go_simp; try with_reducible rfl)
             try simp only [Act.put, List.setIfInBounds_toArray, List.set_cons_zero, List.set_cons_succ]
             refine wpAnyH_done (by kernel_rfl) ?_ _
             go_wp2_with fail
             obtain ⟨d0, d1, d2, d3⟩ := HP.out
             have hord := HORD.out
             refine bodyPost_ret (v := .tuple #[.agg #[.int .u8 0, .int .u8 0, .slice none 0 0, .slice none 0 0], .int .i64 (w2 : Int)]) (by simp [results, Tryz.results63, go_sem, d0, d1, d2, d3]) rfl ⟨none, 0, none, 0, ?_, ?_, ?_, ?_⟩
             · rw [HEV.out, HW0.out]; rfl
             · rw [HEV.out]; exact ownE_nil _ _ _
             · rw [HEV.out]; exact ownE_nil _ _ _
             · rw [HII.out, HFF.out]; exact fr_step HFR.out HR.out (by omega) (by omega)
        · have HRR := Lib.hid (HRT.out.trans (if_neg hw0))
          clear HRT
          go_wp2_with fail
          refine (readT_skip g st.w bg bs _ _ _ _ _ W6 HX.out hw0).mono ?_
          rintro z W7 ⟨rfl, hb⟩
          replace HR := Lib.hid (HR.out.below hb)
          replace HX := Lib.hid (HX.out.below hb)
          replace HF := Lib.hid (HF.out.below hb)
          replace HN := Lib.hid (HN.out.below hb)
          replace HP := Lib.hid (HP.out.below hb)
          replace HPF := Lib.hid (HPF.out.below hb)
          replace HFR := Lib.hid (HFR.out.below hb)
          replace HORD := Lib.hid (And.intro HORD.out hb.size)
          clear hb HNM
          go_upto_region 13 with (fail)
          have hgw : getW s i e v = st.w := by rw [HGW.out, HRR.out]
          have HW0 := Lib.hid hgw
          have HEV := Lib.hid (show getE s i e v = noEv from by rw [HGE.out, HRR.out]; exact if_neg hw0)
          have HII := Lib.hid (show getI s i e v = st.i from by rw [HGI.out, HRR.out])
          have HFF := Lib.hid (show getF s i e v = st.e from by rw [HGF.out, HRR.out])
          have q1 : ((st.w : Nat) : Int) ≠ 0 := by omega
          have q2 : (((st.w : Nat) : Int) == 0) = false := beq_eq_false_iff_ne.2 q1
          have q3 : (st.w == 0) = false := beq_eq_false_iff_ne.2 hw0
          obtain ⟨x0, x1, x2, x3, x4, x5⟩ := HX.out
          go_upto_region 14 with (fail)
          clear x0 x1 x2 x3 x4 x5 q1 q2 q3 hw0 hgw
          clear HN
          clear HF
          have gd := below_drew W7.heap.size W7
          replace HR := Lib.hid (HR.out.below gd)
          replace HX := Lib.hid (HX.out.below gd)
          replace HP := Lib.hid (HP.out.below gd)
          replace HPF := Lib.hid (HPF.out.below gd)
          replace HFR := Lib.hid (HFR.out.below gd)
          replace HORD := Lib.hid (And.intro HORD.out gd.size)
          refine wp_region_held_drew (S := (fun w' => w'.cell? ⟨g, 5, none⟩ = some (.int .i64 (st.w : Int)))) (by kernel_rfl) HX.out.2.2.2.2.2 (fun hHeld => ?_)
          generalize W7.drew = E0 at HR HX HP HPF HFR HORD hHeld ⊢
          clear gd
          refine wpAnyH_take (i := 0) (oi := { dst := some 48, op := Go.Op.build 39 #[], type := 39, pos := "codec.go:131", after := #[], guard := none }) (v := ?v11) rfl (by kernel_rfl) (by kernel_rfl) (by kernel_rfl) (fun _ _ _ h => h) (Or.inl ⟨by rfl, ?hy11⟩) (by assumption) ?rest11
          case hy11 => (intro w hSw; obtain s0 := hSw; go_simp; try with_reducible rfl)
          try simp only [Act.put, List.setIfInBounds_toArray, List.set_cons_zero, List.set_cons_succ]
          refine wpAnyH_take (i := 1) (oi := { dst := some 49, op := Go.Op.fieldAddr 120 (Go.Operand.tmp 6) 2, type := 0, pos := "codec.go:131", after := #[{ on := 3, ground := Go.Ground.gcOnly Go.Departure.lateStores }], guard := none }) (v := ?v12) rfl (by kernel_rfl) (by kernel_rfl) (by kernel_rfl) (fun _ _ _ h => h) (Or.inl ⟨by rfl, ?hy12⟩) (by assumption) ?rest12
          case hy12 => (intro w hSw; obtain s0 := hSw; go_simp; try with_reducible rfl)
          try simp only [Act.put, List.setIfInBounds_toArray, List.set_cons_zero, List.set_cons_succ]
          refine wpAnyH_take (i := 2) (oi := { dst := some 50, op := Go.Op.load 26 (Go.Operand.tmp 49), type := 26, pos := "codec.go:131", after := #[{ on := 1, ground := Go.Ground.data }, { on := 3, ground := Go.Ground.gcOnly Go.Departure.lateStores }], guard := none }) (v := ?v13) rfl (by kernel_rfl) (by kernel_rfl) (by kernel_rfl) (fun _ _ _ h => h) (Or.inl ⟨by rfl, ?hy13⟩) (by assumption) ?rest13
          case hy13 => (intro w hSw; obtain s0 := hSw; go_simp; try with_reducible rfl)
          try simp only [Act.put, List.setIfInBounds_toArray, List.set_cons_zero, List.set_cons_succ]
          refine wpAnyH_ready (rs := [3]) (by kernel_rfl) (by simp) ?_
          refine (AllReadyH.cons (o := { dst := none, op := Go.Op.store 39 (Go.Operand.tmp 4) (Go.Operand.tmp 48), type := 0, pos := "codec.go:131", after := #[{ on := 0, ground := Go.Ground.data }, { on := 0, ground := Go.Ground.phase }, { on := 1, ground := Go.Ground.textOnly Go.Departure.lateStores }, { on := 2, ground := Go.Ground.textOnly Go.Departure.lateStores }], guard := none }) rfl (fun K hK => ?br14_3) AllReadyH.nil)
          case br14_3 =>
           obtain ⟨p0, p1, p2, p3⟩ := HP.out
           have f0 := HPF.out.2 0
           have f1 := HPF.out.2 1
           have f2 := HPF.out.2 2
           have f3 := HPF.out.2 3
           go_simp
           clear p0 p1 p2 p3 f0 f1 f2 f3
           have hp := ((((HP.out.set0 (.int .u8 0)).set1 (.int .u8 0)).set2 (.slice none 0 0)).set3 (.slice none 0 0))
           have ht := Touch.set E0 w.heap.size 0 (.int .u8 0)
           have hf := HPF.out.set w.heap.size 0 (.int .u8 0)
           have hord := HORD.out
           replace HR := Lib.hid (HR.out.touch ht (by omega))
           replace HX := Lib.hid (HX.out.touch ht (by omega))
           replace HFR := Lib.hid (HFR.out.touch ht (by omega))
           clear hord
           replace HPF := Lib.hid hf
           clear ht hf
           have ht := Touch.set (E0.setCell ⟨w.heap.size, 0, none⟩ (.int .u8 0)) w.heap.size 1 (.int .u8 0)
           have hf := HPF.out.set w.heap.size 1 (.int .u8 0)
           have hord := HORD.out
           replace HR := Lib.hid (HR.out.touch ht (by omega))
           replace HX := Lib.hid (HX.out.touch ht (by omega))
           replace HFR := Lib.hid (HFR.out.touch ht (by omega))
           clear hord
           replace HPF := Lib.hid hf
           clear ht hf
           have ht := Touch.set ((E0.setCell ⟨w.heap.size, 0, none⟩ (.int .u8 0)).setCell ⟨w.heap.size, 1, none⟩ (.int .u8 0)) w.heap.size 2 (.slice none 0 0)
           have hf := HPF.out.set w.heap.size 2 (.slice none 0 0)
           have hord := HORD.out
           replace HR := Lib.hid (HR.out.touch ht (by omega))
           replace HX := Lib.hid (HX.out.touch ht (by omega))
           replace HFR := Lib.hid (HFR.out.touch ht (by omega))
           clear hord
           replace HPF := Lib.hid hf
           clear ht hf
           have ht := Touch.set (((E0.setCell ⟨w.heap.size, 0, none⟩ (.int .u8 0)).setCell ⟨w.heap.size, 1, none⟩ (.int .u8 0)).setCell ⟨w.heap.size, 2, none⟩ (.slice none 0 0)) w.heap.size 3 (.slice none 0 0)
           have hf := HPF.out.set w.heap.size 3 (.slice none 0 0)
           have hord := HORD.out
           replace HR := Lib.hid (HR.out.touch ht (by omega))
           replace HX := Lib.hid (HX.out.touch ht (by omega))
           replace HFR := Lib.hid (HFR.out.touch ht (by omega))
           clear hord
           replace HPF := Lib.hid hf
           clear ht hf
           have hs : E0.heap.size ≤ ((((E0.setCell ⟨w.heap.size, 0, none⟩ (.int .u8 0)).setCell ⟨w.heap.size, 1, none⟩ (.int .u8 0)).setCell ⟨w.heap.size, 2, none⟩ (.slice none 0 0)).setCell ⟨w.heap.size, 3, none⟩ (.slice none 0 0)).heap.size := by simp
           replace HORD := Lib.hid (And.intro HORD.out hs)
           replace HP := Lib.hid hp
           clear hp hs
           refine hK.out _ _ HX.out.2.2.2.2.2 (fun hHeld => ?_)
           clear hK K
           generalize ((((E0.setCell ⟨w.heap.size, 0, none⟩ (.int .u8 0)).setCell ⟨w.heap.size, 1, none⟩ (.int .u8 0)).setCell ⟨w.heap.size, 2, none⟩ (.slice none 0 0)).setCell ⟨w.heap.size, 3, none⟩ (.slice none 0 0)) = E1 at HR HX HP HPF HFR HORD hHeld ⊢
           try simp only [Act.put, List.setIfInBounds_toArray, List.set_cons_zero, List.set_cons_succ]
           refine wpAnyH_take (i := 4) (oi := { dst := some 5, op := Go.Op.assign (Go.Operand.tmp 50), type := 26, pos := "codec.go:131", after := #[{ on := 2, ground := Go.Ground.data }, { on := 3, ground := Go.Ground.chain }, { on := 0, ground := Go.Ground.phase }, { on := 1, ground := Go.Ground.phase }, { on := 2, ground := Go.Ground.phase }, { on := 3, ground := Go.Ground.phase }], guard := none }) (v := ?v15) rfl (by kernel_rfl) (by kernel_rfl) (by kernel_rfl) (fun _ _ _ h => h) (Or.inl ⟨by rfl, ?hy15⟩) (by assumption) ?rest15
           case hy15 => (intro w hSw; obtain s0 := hSw; go_simp; try with_reducible rfl)
           try simp only [Act.put, List.setIfInBounds_toArray, List.set_cons_zero, List.set_cons_succ]
           refine wpAnyH_done (by kernel_rfl) ?_ _
           go_wp2_with fail
           obtain ⟨d0, d1, d2, d3⟩ := HP.out
           have hord := HORD.out
           refine bodyPost_ret (v := .tuple #[.agg #[.int .u8 0, .int .u8 0, .slice none 0 0, .slice none 0 0], .int .i64 (st.w : Int)]) (by simp [results, Tryz.results63, go_sem, d0, d1, d2, d3]) rfl ⟨none, 0, none, 0, ?_, ?_, ?_, ?_⟩
           · rw [HEV.out, HW0.out]; rfl
           · rw [HEV.out]; exact ownE_nil _ _ _
           · rw [HEV.out]; exact ownE_nil _ _ _
           · rw [HII.out, HFF.out]; exact fr_step HFR.out HR.out (by omega) (by omega)

end Go.Proofs.YtiibeemjkdipnaaGreatDoor.Codec
