import Derived.Test.YtkccdffccjgajaaGreatDoorNM
/-
  Split, whatever is handed in; the laws' payloads.
-/
namespace Go.Proofs.YtkccdffccjgajaaGreatDoor.Seg
open Go Go.RowKit
open Go.Proofs.YtkccdffccjgajaaGreatDoor.Wire (S S_list S_size cell_row frozen_row row_lt heap_set U)
open Go.Proofs.YtkccdffccjgajaaGreatDoor.Frame Go.Proofs.YtkccdffccjgajaaGreatDoor.Ranges

/-- what Split tells -/
def spS (q : Int) (xs : List ByteArray) (most : Int) : List ByteArray := if spE q (bytesP xs) most = 0 then outs most q.toNat xs else []
set_option maxRecDepth 100000 in
set_option maxHeartbeats 1000000 in
/-- **Split** -/
theorem Split_any (q most : Int) (hm : (Lit.int .i64 most).wf = true) (A : Option Addr) (cap : Nat) (xs : List ByteArray) (hl : xs.length ≤ 100000) (w : World) (hx : Strs w A xs) :
    Calls Tryz.prog 17 #[.int .i64 q, .slice A xs.length cap, .int .i64 most] w fun e w' => ∃ v, e = .returned (.tuple #[v, .int .i64 (spE q (bytesP xs) most : Int)]) ∧ OwnS w' w.heap.size v (spS q xs most) ∧ Below w.heap.size w w' := by
  by_cases h0 : spE q (bytesP xs) most = 0
  · have hmm : 64 ≤ most ∧ most ≤ 65536 := by
      unfold spE at h0
      by_cases h : 64 ≤ most ∧ most ≤ 65536
      · exact h
      · rw [if_neg h] at h0; cases h0
    have hw0 : wrE q (bytesP xs) = 0 := by unfold spE at h0; rw [if_pos hmm] at h0; exact h0
    have hq := (wrE_zero hw0).1
    obtain ⟨a, rfl⟩ : ∃ a : Nat, q = (a : Int) := ⟨q.toNat, by have := hq.1; omega⟩
    have hS : spS (a : Int) xs most = outs most a xs := by unfold spS; rw [if_pos h0, Int.toNat_natCast]
    rw [hS, h0]
    exact callsIn_wide.1 (Split_at most hm a xs cap hl A w hx h0)
  · have hS : spS q xs most = [] := if_neg h0
    rw [hS]
    by_cases hmm : 64 ≤ most ∧ most ≤ 65536
    · have he : spE q (bytesP xs) most = wrE q (bytesP xs) := if_pos hmm
      rw [he] at h0 ⊢
      have HWR := Lib.hid (wrong_any q A cap xs (by omega) w hx)
      obtain ⟨q1, q2, q3, q4, q5⟩ := nat_ne h0
      have d1 : decide (most < 64) = false := decide_eq_false (by omega)
      have d2 : decide (65536 < most) = false := decide_eq_false (by omega)
      clear h0 he hmm hS hx hm
      generalize wrE q (bytesP xs) = x at *
      go_enter Tryz.func17, Tryz.ntmps17
      go_wp2_with fail
      refine HWR.out.mono ?_
      rintro e w1 ⟨rfl, rfl⟩
      go_wp2_with fail
      go_ret2
      exact ⟨_, rfl, OwnS.nil _ _, Below.refl _ _⟩
    · have he : spE q (bytesP xs) most = 1 := if_neg hmm
      rw [he]
      clear h0 he hS hx hm
      by_cases h1 : most < 64
      · clear hmm
        go_enter Tryz.func17, Tryz.ntmps17
        go_wp2_with fail
        go_ret2
        exact ⟨_, rfl, OwnS.nil _ _, Below.refl _ _⟩
      · have h2 : 65536 < most := by omega
        clear hmm
        go_enter Tryz.func17, Tryz.ntmps17
        go_wp2_with fail
        go_ret2
        exact ⟨_, rfl, OwnS.nil _ _, Below.refl _ _⟩
theorem wpList_append_s {ops : Array Oper} {rest : List Oper} {o : Oper} {a : Act} {w : World} {Q : Exit → Act → World → Prop} (hgd : o.guard = none) (s x : Operand)
    (ho : o.op = .call { callee := .builtin .append, args := #[s, x], argTypes := #[23, 23] })
    (base : Nat) (v : Value) (ys : List ByteArray) (hs : a.eval s = v) (hown : OwnS w base v ys)
    (g : Nat) (cap : Nat) (y : ByteArray) (hx : a.eval x = .slice (some ⟨g, 0, none⟩) 1 cap) (hn : w.cell? ⟨g, 0, none⟩ = some (.string y))
    (hlen : ys.length ≤ 1000000) (hbase : base ≤ w.heap.size)
    (h : ∀ v' w', OwnS w' base v' (ys ++ [y]) → w.grownBy w' v.ownBlock → wpList Tryz.prog ops Q rest (a.put o.dst v') w') : wpList Tryz.prog ops Q (o :: rest) a w := by
  obtain ⟨i0, hi, hz0, hz1, hz2⟩ := info_parts infoS
  refine wpList_append_own w hgd s x 23 ho base 9 i0 _ 1 16 Tryz.underlying23 hi hz0 hz1 hz2 rfl (by decide) v ys.length (strV ys) hs hown ⟨g, 0, none⟩ 1 cap [.string y] hx rfl ?_ (by intro u hu; rw [List.mem_singleton.1 hu]; rfl) (by unfold maxLen; omega) (by omega) hbase ?_
  · intro j u hj
    cases j with
    | zero => rw [addr_add0]; rw [hn]; simpa using hj
    | succ j => simp at hj
  · intro v' w' hown' hg _
    exact h v' w' (by unfold OwnS; rw [strV_snoc, List.length_append]; exact hown') hg
theorem OwnS.below {w w' : World} {base : Nat} {v : Value} {ys : List ByteArray} (h : OwnS w base v ys) (hb : Below w.heap.size w w') : OwnS w' base v ys := h.keep (fun g hg => hb.block g (h.lt g hg).1)
theorem OwnS.strs {w : World} {base : Nat} {v : Value} {ys : List ByteArray} (h : OwnS w base v ys) (hz : ∀ y ∈ ys, y.size ≤ maxLen) : ∃ A cap, v = .slice A ys.length cap ∧ ys.length ≤ cap ∧ cap ≤ maxLen ∧ Strs w A ys := by
  obtain ⟨A, cap, e, h1, h2, h3⟩ := h.row
  refine ⟨A, cap, e, h2, h1, fun j hj => ?_⟩
  obtain ⟨g, e2, h4, _, h5, _⟩ := h3 j hj
  exact ⟨g, 0, e2, h4, hz _ (List.getElem_mem _), by rw [Nat.zero_add]; exact h5⟩
theorem below_own {n : Nat} {a b c : World} {v : Value} {ys : List ByteArray} (h : Below n a b) (ho : OwnS b n v ys) (g : b.grownBy c v.ownBlock) (hn : n ≤ a.heap.size) : Below n a c :=
  ⟨g.os.trans h.os, g.tape.trans h.tape, g.output.trans h.output, Nat.le_trans h.size g.size, fun k hk => (g.block k (by have := h.size; omega) (fun e => by have := (ho.lt k e.symm).2; omega)).trans (h.block k hk)⟩
/-- the payloads of frames -/
def paysF (L : List Fr) : List ByteArray := L.map fun f => S f.p
theorem paysF_len (L : List Fr) : (paysF L).length = L.length := by unfold paysF; simp
theorem paysF_take (L : List Fr) (j : Nat) (h : j < L.length) : paysF (L.take (j + 1)) = paysF (L.take j) ++ [S (L[j]'h).p] := by
  rw [List.take_succ_eq_append_getElem h]; unfold paysF; rw [List.map_append]; rfl
set_option maxRecDepth 100000 in
set_option maxHeartbeats 2000000 in
/-- payloads -/
theorem payloads_any (A : Option Addr) (cap : Nat) (L : List Fr) (hl : L.length ≤ 1000000) (w : World) (hr : RowFr w A L) :
    Calls Tryz.prog 34 #[.slice A L.length cap] w fun e w' => ∃ v, e = .returned v ∧ OwnS w' w.heap.size v (paysF L) ∧ Below w.heap.size w w' := by
  have HR := Lib.hid hr
  have HL := Lib.hid hl
  have H0 := Lib.hid (OwnS.nil w w.heap.size)
  have HB0 := Lib.hid (Below.refl w.heap.size w)
  clear hr hl
  go_enter Tryz.func34, Tryz.ntmps34
  go_wp2_with fail
  go_loopw [3, 4] (fun v y wr => ∃ j : Nat, j ≤ L.length ∧ y = .int .i64 (j : Int) ∧ Hid (OwnS wr w.heap.size v (paysF (L.take j))) ∧ Hid (Below w.heap.size w wr)) (fun _ y _ => L.length - (intOf y).toNat)
  case atStart => exact ⟨0, Nat.zero_le _, rfl, Lib.hid (by rw [List.take_zero]; exact H0.out), HB0⟩
  case round =>
    clear H0 HB0
    obtain ⟨j, hj, rfl, HO, HB⟩ := hrel
    by_cases hlt : j < L.length
    · obtain ⟨b, o, rfl, hb, _, c1, _⟩ := HR.out.below HB.out j hlt
      have HLT := Lib.hid hlt
      have HW1 := Lib.hid (small64 j (by have := HL.out; omega))
      have e2 : decide ((j : Int) < (L.length : Int)) = true := decide_eq_true (by omega)
      have HP := Lib.hid (paysF_take L j hlt)
      generalize S (L[j]'hlt).p = p at *
      have hbn := (Below.refl wr.heap.size wr).alloc (Nat.le_refl _) (.cells #[.string p] 9)
      have HOA := Lib.hid (HO.out.below hbn)
      have HBA := Lib.hid (HB.out.trans (hbn.mono HB.out.size))
      have HCL := Lib.hid (cell_row (heap_alloc_new wr (.cells #[.string p] 9)) 0)
      have HLN := Lib.hid (show (paysF (L.take j)).length ≤ 1000000 by rw [paysF_len, List.length_take]; have := HL.out; omega)
      clear hbn
      go_wp2_with (at_builtin; refine wpList_append_s rfl _ _ rfl w.heap.size u3 _ rfl HOA.out wr.heap.size 1 p rfl HCL.out HLN.out HBA.out.size ?_)
      intro v' w2 hown hg
      rw [← HP.out] at hown
      have HO2 := Lib.hid hown
      have HB2 := Lib.hid (below_own HBA.out HOA.out hg (Nat.le_refl _))
      clear hown hg
      go_wp2_with fail
      go_roundw
      case rel => exact ⟨j + 1, HLT.out, by rw [HW1.out]; rfl, HO2, HB2⟩
      case measure =>
        rw [HW1.out]
        show L.length - ((j : Int) + 1).toNat < L.length - (j : Int).toNat
        have := HLT.out; omega
    · obtain rfl : j = L.length := by omega
      rw [List.take_length] at HO
      go_wp2_with fail
      go_ret
      exact ⟨_, rfl, HO.out, HB.out⟩
end Go.Proofs.YtkccdffccjgajaaGreatDoor.Seg

/-
  Are the examples as they are told?
-/
namespace Go.Proofs.YtkccdffccjgajaaGreatDoor.Seg
open Go Go.RowKit
open Go.Proofs.YtkccdffccjgajaaGreatDoor.Wire (S S_list S_size S_append cell_row frozen_row row_lt heap_set U)
open Go.Proofs.YtkccdffccjgajaaGreatDoor.Frame Go.Proofs.YtkccdffccjgajaaGreatDoor.Ranges

def ten : List ByteArray := List.replicate 10 ⟨#[49, 50, 51, 52, 53, 54, 55, 56, 57, 48, 49, 50, 51, 52, 53, 54, 55, 56, 57, 48]⟩
def abc : List ByteArray := [S [97], S [98, 99]]
theorem aw_head : (segH 0).take 12 = [115, 101, 103, 49, 0, 0, 0, 0, 0, 0, 0, 0] := by
  unfold segH; rw [take_front (bareH_length 0)]; decide +kernel
theorem aw_name : nameE 3 17 = [115, 48, 48, 48, 48, 48, 48, 48, 51, 45, 48, 48, 48, 48, 48, 48, 48, 48, 49, 55] := by decide +kernel
theorem aw_named : namedR [115, 48, 48, 48, 48, 48, 48, 48, 51, 45, 48, 48, 48, 48, 48, 48, 48, 48, 49, 55] = (3, 17, true) := by
  rw [← aw_name]; exact named_name (by decide)
theorem aw_ok : okP 5 (bytesP abc) := ⟨by decide +kernel, by decide +kernel⟩
theorem aw_join : joE 5 (bytesP abc) = 0 ∧ joB 5 (bytesP abc) = segB 5 (bytesP abc) := by
  have he : joE 5 (bytesP abc) = 0 := by
    unfold joE; rw [if_pos (show wrE 5 (bytesP abc) = 0 from wrE_ok aw_ok), if_neg (by decide +kernel)]
  exact ⟨he, if_pos he⟩
theorem aw_len : (segB 5 (bytesP abc)).length = 51 := by rw [segB_length]; decide +kernel
theorem aw_scan : fiE ((segB 5 (bytesP abc)).take 50) = 0 ∧ fiQ ((segB 5 (bytesP abc)).take 50) = 5 ∧ scL ((segB 5 (bytesP abc)).take 50) = [⟨5, [97], 16⟩] ∧ scG ((segB 5 (bytesP abc)).take 50) = 33 ∧ scW ((segB 5 (bytesP abc)).take 50) = false := by
  obtain ⟨a, b, c⟩ := sc_cut 5 (bytesP abc) 50 aw_ok (by decide)
  have c2 : scL ((segB 5 (bytesP abc)).take 50) = [⟨5, [97], 16⟩] := c.trans (by decide +kernel)
  have g : scG ((segB 5 (bytesP abc)).take 50) = 33 := by unfold scG; rw [if_pos a, c2]; rfl
  refine ⟨a, by unfold fiQ; rw [if_pos a, b], c2, g, ?_⟩
  unfold scW; rw [if_pos a, g, List.length_take, aw_len]; rfl
theorem aw_split : spE 0 (bytesP ten) 100 = 0 ∧ (spS 0 ten 100).length = 5 := by
  have h0 : spE 0 (bytesP ten) 100 = 0 := by decide +kernel
  refine ⟨h0, ?_⟩
  unfold spS; rw [if_pos h0, outs_len]; decide +kernel
theorem aw_fits : fitsB 16 4096 64 = true ∧ fitsB 33 16 64 = false ∧ fitsB 32 16 64 = true := by decide +kernel
theorem ten_take (j : Nat) (T : ByteArray) : List.replicate (j + 1) T = List.replicate j T ++ [T] := List.replicate_succ'
theorem strs_abc (w : World) : Strs (w.alloc (.cells #[.string ⟨#[97]⟩, .string ⟨#[98, 99]⟩] 9)) (some ⟨w.heap.size, 0, none⟩) abc := fun j hj => by
  have hb := heap_alloc_new w (.cells #[.string ⟨#[97]⟩, .string ⟨#[98, 99]⟩] 9)
  refine ⟨w.heap.size, 0, rfl, by simp, ?_, ?_⟩
  · have h2 : j < 2 := hj
    have : ∀ k (h : k < abc.length), abc[k].size ≤ 2 := by decide +kernel
    have := this j hj
    unfold maxLen; omega
  · rw [cell_row hb, Nat.zero_add]
    have h2 : j < 2 := hj
    match j, h2 with
    | 0, _ => rfl
    | 1, _ => rfl
set_option maxRecDepth 100000 in
set_option maxHeartbeats 4000000 in
/-- **awake** -/
theorem awake_any (w : World) (E : Env w) : Calls Tryz.prog 12 #[] w fun e w' => e = .returned (.bool true) ∧ Below w.heap.size w w' := by
  have HHE := Lib.hid (fun W => Header_any 0 W)
  have hb0 : hdB 0 = segH 0 := if_pos (by decide)
  have he0 : hdE 0 = 0 := if_pos (by decide)
  rw [hb0, he0] at HHE
  have hz16 : (S (segH 0)).size = 16 := by rw [S_size, segH_length]
  have ht12 : (S (segH 0)).extract 0 12 = ⟨#[115, 101, 103, 49, 0, 0, 0, 0, 0, 0, 0, 0]⟩ := by rw [S_take, aw_head]; rfl
  have HNA := Lib.hid (fun W EW => Named_any ⟨#[115, 48, 48, 48, 48, 48, 48, 48, 51, 45, 48, 48, 48, 48, 48, 48, 48, 48, 49, 55]⟩ (by decide) W EW)
  rw [show (⟨#[115, 48, 48, 48, 48, 48, 48, 48, 51, 45, 48, 48, 48, 48, 48, 48, 48, 48, 49, 55]⟩ : ByteArray).data.toList = [115, 48, 48, 48, 48, 48, 48, 48, 51, 45, 48, 48, 48, 48, 48, 48, 48, 48, 49, 55] from rfl, aw_named] at HNA
  have HNM := Lib.hid (fun W EW => Name_any 3 17 W EW)
  rw [aw_name, show S [115, 48, 48, 48, 48, 48, 48, 48, 51, 45, 48, 48, 48, 48, 48, 48, 48, 48, 49, 55] = ⟨#[115, 48, 48, 48, 48, 48, 48, 48, 51, 45, 48, 48, 48, 48, 48, 48, 48, 48, 49, 55]⟩ from rfl] at HNM
  have HJO := Lib.hid (fun A cap W hx => Join_any 5 A cap abc (by decide) W hx)
  unfold joV at HJO
  rw [aw_join.1, aw_join.2] at HJO
  have HSC := Lib.hid (fun W => SScan_any (S ((segB 5 (bytesP abc)).take 50)) (by rw [S_size, List.length_take, aw_len]; decide) W)
  rw [S_list, aw_scan.1, aw_scan.2.1, aw_scan.2.2.1, aw_scan.2.2.2.1, aw_scan.2.2.2.2, show ((5 : Nat) : Int) = 5 from rfl, show ((33 : Nat) : Int) = 33 from rfl, show ((0 : Nat) : Int) = 0 from rfl] at HSC
  have hz51 : (S (segB 5 (bytesP abc))).size = 51 := by rw [S_size, aw_len]
  have ht50 : (S (segB 5 (bytesP abc))).extract 0 50 = S ((segB 5 (bytesP abc)).take 50) := S_take _ _
  have HSP := Lib.hid (fun A cap W hx => Split_any 0 100 (by decide) A cap ten (by decide) W hx)
  rw [aw_split.1] at HSP
  have HL5 := Lib.hid aw_split.2
  have HF1 := Lib.hid (fun W => Fits_any 16 4096 64 (by decide) (by decide) W)
  have HF2 := Lib.hid (fun W => Fits_any 33 16 64 (by decide) (by decide) W)
  have HF3 := Lib.hid (fun W => Fits_any 32 16 64 (by decide) (by decide) W)
  rw [aw_fits.1] at HF1
  rw [aw_fits.2.1] at HF2
  rw [aw_fits.2.2] at HF3
  have HE := Lib.hid E
  clear hb0 he0 E
  generalize S (segH 0) = H0 at *
  generalize S ((segB 5 (bytesP abc)).take 50) = T50 at *
  generalize S (segB 5 (bytesP abc)) = T51 at *
  generalize spS 0 ten 100 = SP at *
  go_enter Tryz.func12, Tryz.ntmps12
  go_wp2_with fail
  refine (HHE.out w).mono ?_
  rintro e w1 ⟨rfl, hb⟩
  have HB1 := Lib.hid hb
  clear hb
  go_wp2_with fail
  refine (HNA.out w1 (HE.out.over HB1.out)).mono ?_
  rintro e w2 ⟨rfl, hb⟩
  have HB2 := Lib.hid (HB1.out.trans (hb.mono HB1.out.size))
  clear hb HB1
  go_wp2_with fail
  have HAL := Lib.hid ((Below.refl w2.heap.size w2).alloc (Nat.le_refl _) (.cells #[.string ⟨#[97]⟩, .string ⟨#[98, 99]⟩] 9))
  refine (HJO.out (some ⟨w2.heap.size, 0, none⟩) 2 _ (strs_abc w2)).mono ?_
  rintro e w3 ⟨rfl, hb⟩
  have HB3 := Lib.hid (HB2.out.trans ((HAL.out.trans (hb.mono HAL.out.size)).mono HB2.out.size))
  clear hb HB2 HAL
  have HE3 := Lib.hid (HE.out.over HB3.out)
  go_wp2_with fail
  refine (HNM.out w3 HE3.out).mono ?_
  rintro e w4 ⟨rfl, hb⟩
  have HB4 := Lib.hid (HB3.out.trans (hb.mono HB3.out.size))
  clear hb HB3 HE3
  go_wp2_with fail
  refine (HSC.out w4).mono ?_
  rintro e w5 ⟨A, cap, rfl, hown, hb⟩
  obtain ⟨A2, cap2, he2, -, -, hrow, -⟩ := hown.row
  cases he2
  obtain ⟨b, o, rfl, hlt, k0, k1, k2⟩ := hrow 0 (by decide)
  simp only [List.length_cons, List.length_nil, List.getElem_cons_zero, Nat.zero_mul, Nat.add_zero, Nat.zero_add] at k0 k1 k2 ⊢
  have HROW := Lib.hid hrow
  have HB5 := Lib.hid (HB4.out.trans (hb.mono HB4.out.size))
  have HK := Lib.hid (And.intro hlt k1)
  clear hown hrow hb HB4 k0 k1 k2 hlt
  obtain ⟨w6, hw6⟩ : ∃ w6, w5.alloc (.cells #[.int .i64 5, .slice (some ⟨b, o, none⟩) 1 cap, .int .i64 33, .bool false] 46) = w6 := ⟨_, rfl⟩
  have hb6 : Below w5.heap.size w5 w6 := by rw [← hw6]; exact (Below.refl _ _).alloc (Nat.le_refl _) _
  have HX6 := Lib.hid (show SBx w6 w5.heap.size 5 (.slice (some ⟨b, o, none⟩) 1 cap) 33 false by rw [← hw6]; exact heap_alloc_new w5 _)
  have HZ6 := Lib.hid (show w5.heap.size < w6.heap.size by rw [← hw6]; simp)
  have HB6 := Lib.hid (HB5.out.trans (hb6.mono HB5.out.size))
  have HK6 := Lib.hid (And.intro (Nat.lt_of_lt_of_le HK.out.1 hb6.size) ((hb6.cell (p := ⟨b, o + 1, none⟩) HK.out.1).trans HK.out.2))
  have HR6 := Lib.hid (HROW.out.below hb6)
  have H0 := Lib.hid (OwnS.nil w6 w6.heap.size)
  have HB0 := Lib.hid (Below.refl w6.heap.size w6)
  have HW6 := Lib.hid hw6
  clear hb6 HK HROW HB5 hw6
  obtain ⟨T, hT⟩ : ∃ T : ByteArray, T = ⟨#[49, 50, 51, 52, 53, 54, 55, 56, 57, 48, 49, 50, 51, 52, 53, 54, 55, 56, 57, 48]⟩ := ⟨_, rfl⟩
  have HT := Lib.hid hT
  go_wp2_with fail
  rw [← hT, HW6.out]
  clear hT
  go_loopw [10, 11] (fun v y wr => ∃ j : Nat, j ≤ 10 ∧ y = .int .i64 (j : Int) ∧ Hid (OwnS wr w6.heap.size v (List.replicate j T)) ∧ Hid (Below w6.heap.size w6 wr)) (fun _ y _ => 10 - (intOf y).toNat)
  case atStart => exact ⟨0, Nat.zero_le _, rfl, H0, HB0⟩
  case round =>
    clear H0 HB0
    obtain ⟨j, hj, rfl, HO, HB⟩ := hrel
    by_cases hlt : j < 10
    · have HLT := Lib.hid hlt
      have HW1 := Lib.hid (small64 j (by omega))
      have e2 : decide ((j : Int) < 10) = true := decide_eq_true (by omega)
      have hbn := (Below.refl wr.heap.size wr).alloc (Nat.le_refl _) (.cells #[.string T] 9)
      have HOA := Lib.hid (HO.out.below hbn)
      have HBA := Lib.hid (HB.out.trans (hbn.mono HB.out.size))
      have HCL := Lib.hid (cell_row (heap_alloc_new wr (.cells #[.string T] 9)) 0)
      have HLN := Lib.hid (show (List.replicate j T).length ≤ 1000000 by rw [List.length_replicate]; omega)
      clear hbn
      go_wp2_with (at_builtin; refine wpList_append_s rfl _ _ rfl w6.heap.size u10 _ rfl HOA.out wr.heap.size 1 T rfl HCL.out HLN.out HBA.out.size ?_)
      intro v' w7 hown hg
      rw [← ten_take j T] at hown
      have HO2 := Lib.hid hown
      have HB2 := Lib.hid (below_own HBA.out HOA.out hg (Nat.le_refl _))
      clear hown hg
      go_wp2_with fail
      go_roundw
      case rel =>
        exact ⟨j + 1, HLT.out, by first | rfl | (rw [HW1.out]; rfl), HO2, HB2⟩
      case measure =>
        try rw [HW1.out]
        show 10 - ((j : Int) + 1).toNat < 10 - (j : Int).toNat
        have := HLT.out; omega
    · obtain rfl : j = 10 := by omega
      obtain ⟨B, cb, rfl, -, -, hst⟩ := HO.out.strs (fun y hy => by obtain ⟨_, rfl⟩ := List.mem_replicate.1 hy; rw [HT.out]; decide)
      have hbt : (List.replicate 10 T) = ten := by rw [HT.out]; rfl
      rw [hbt] at hst
      rw [hbt]
      have HST := Lib.hid hst
      have hten : ten.length = 10 := rfl
      rw [hten]
      clear hst hbt
      go_wp2_with fail
      refine (HSP.out B cb wr HST.out).mono ?_
      rintro e w8 ⟨v, rfl, ho8, hb8⟩
      obtain ⟨C, cc, rfl, -, -, -⟩ := ho8.row
      rw [HL5.out]
      have hbw := HB.out.trans (hb8.mono HB.out.size)
      have hX8 : SBx w8 w5.heap.size 5 (.slice (some ⟨b, o, none⟩) 1 cap) 33 false := (hbw.block _ HZ6.out).trans HX6.out
      obtain ⟨⟨c0, c1, c2, c3⟩, -⟩ := hX8.facts
      have k1 := (hbw.cell (p := ⟨b, o + 1, none⟩) HK6.out.1).trans HK6.out.2
      have HR8 := Lib.hid (HR6.out.below hbw)
      have HNX := Lib.hid (fun W (hr : RowFr W (some ⟨b, o, none⟩) [⟨5, [97], 16⟩]) => Next_any 5 (some ⟨b, o, none⟩) cap [⟨5, [97], 16⟩] 33 false W hr (by decide) (by decide))
      rw [show nxI 5 [⟨5, [97], 16⟩] = 6 from rfl] at HNX
      have HB8 := Lib.hid (HB6.out.trans (hbw.mono HB6.out.size))
      clear hb8 hbw ho8 hX8
      rw [show S [97] = ⟨#[97]⟩ from rfl] at k1
      go_wp2_with (first | (go_at_call 27; refine (HNX.out _ HR8.out).mono ?_; rintro e w9 ⟨rfl, hb9⟩))
      have HB9 := Lib.hid (HB8.out.trans (hb9.mono HB8.out.size))
      clear hb9 c0 c1 c2 c3 k1 HR8 HNX
      refine (HF1.out w9).mono ?_
      rintro e w10 ⟨rfl, rfl⟩
      go_wp2_with fail
      refine (HF2.out w9).mono ?_
      rintro e w11 ⟨rfl, rfl⟩
      go_wp2_with fail
      refine (HF3.out w9).mono ?_
      rintro e w12 ⟨rfl, rfl⟩
      go_wp2_with fail
      go_ret
      exact ⟨rfl, HB9.out⟩
end Go.Proofs.YtkccdffccjgajaaGreatDoor.Seg
