import Derived.Test.YtkjnddgjnlbopaaNC
import Derived.Test.YtkjnddgjnlbopaaCS
import Derived.Test.YtkjnddgjnlbopaaW8
/-
  The walks of padded, Name and Named.
-/
namespace Go.Proofs.Ytkjnddgjnlbopaa.Seg
open Go Go.RowKit Go.Sort
open Go.Proofs.Ytkjnddgjnlbopaa.Wire (S S_list S_size S_append)

theorem itoa_nat (n : Nat) : Lib.itoa (n : Int) = Lib.decDigits n := by
  unfold Lib.itoa; rw [if_neg (by omega), Int.toNat_natCast]
theorem rep48 (k : Nat) : Lib.repeatL [48] k = List.replicate k 48 := by
  have := Lib.repeatL_replicate 48 1 k
  rw [Nat.mul_one] at this
  exact this
/-- may it be a first batch's number -/
theorem mayBegin_any (q : Int) (w : World) :
    Calls Try.prog 60 #[.int .i64 q] w fun e w' => e = .returned (.bool (decide (mayF q))) ∧ w = w' := by
  by_cases h1 : 0 ≤ q
  · by_cases h2 : q ≤ 1048576
    · have hs : decide (mayF q) = true := decide_eq_true ⟨h1, h2⟩
      rw [hs]
      go_enter Try.func60, Try.ntmps60
      go_wp2_with fail
      go_ret
      exact ⟨rfl, rfl⟩
    · have hs : decide (mayF q) = false := decide_eq_false (fun h => h2 h.2)
      rw [hs]
      go_enter Try.func60, Try.ntmps60
      go_wp2_with fail
      go_ret
      exact ⟨rfl, rfl⟩
  · have hs : decide (mayF q) = false := decide_eq_false (fun h => h1 h.1)
    rw [hs]
    go_enter Try.func60, Try.ntmps60
    go_wp2_with fail
    go_ret
    exact ⟨rfl, rfl⟩
theorem S_nameL (g f : Nat) : (⟨#[115]⟩ : ByteArray) ++ S (dig 8 g) ++ ⟨#[45]⟩ ++ S (dig 10 f) = S (nameL g f) := by
  rw [show (⟨#[115]⟩ : ByteArray) = S [115] from rfl, show (⟨#[45]⟩ : ByteArray) = S [45] from rfl, S_append, S_append, S_append]
  unfold nameL
  congr 1
theorem part_len (l : List UInt8) : (partG l).length ≤ l.length ∧ (partF l).length ≤ l.length := by
  have ht : (Lib.trimPrefix l [115]).length ≤ l.length := by
    unfold Lib.trimPrefix; split
    · rw [List.length_drop]; omega
    · exact Nat.le_refl _
  unfold partG partF Lib.cut
  split
  · simp only []
    rw [List.length_take, List.length_drop]; omega
  · simp; omega
end Go.Proofs.Ytkjnddgjnlbopaa.Seg

/-
  The walks of Header and First.
-/
namespace Go.Proofs.Ytkjnddgjnlbopaa.Seg
open Go Go.RowKit
open Go.Proofs.Ytkjnddgjnlbopaa.Crc (ofW fourL sealS sealS_list seal_any open_any)
open Go.Proofs.Ytkjnddgjnlbopaa.Wire (fixB be fixB_length S S_list S_size U Wr Only u64_any raw_any bytes_any new_any ru64_any Rd fxV rdS)
open Go.Proofs.Ytkjnddgjnlbopaa.Frame (tk_list S_mid S_drop slice_from S_take)

theorem seal_bare (q : Nat) : sealS (S (bareH q)) = S (segH q) := by
  apply ByteArray.ext; apply Array.toList_inj.1
  rw [sealS_list, S_list, S_list]; rfl
set_option maxRecDepth 100000 in
set_option maxHeartbeats 1000000 in
theorem header_any (q : Nat) (hq : q ≤ 1048576) (w : World) :
    Calls Try.prog 61 #[.int .i64 (q : Int)] w fun e w' => e = .returned (.string (S (segH q))) ∧ Below w.heap.size w w' := by
  have HWN := Lib.hid (Wr.new (w := w) (Nat.le_refl _))
  have HON := Lib.hid ((Only.refl w.heap.size w).alloc (Nat.le_refl _) (.cells #[.pointer none, .int .i64 0] 65))
  have w4 : (q : Int) % 18446744073709551616 = U q := by unfold U; omega
  have w5 : IntKind.u64.wrap (q : Int) = U q := by rw [IntKind.wrap_u64]; unfold U; omega
  have HQ := Lib.hid (show U q = (q : Int) from rfl)
  have HSE := Lib.hid (fun W => seal_any (S (bareH q)) W (by rw [S_size, bareH_length]; decide))
  rw [seal_bare] at HSE
  clear hq
  go_enter Try.func61, Try.ntmps61
  go_wp2_with fail
  refine (raw_any _ _ _ _ ⟨#[115, 101, 103, 49]⟩ HWN.out (by decide)).mono ?_
  rintro e W1 ⟨rfl, hw1, ho1⟩
  replace HON := Lib.hid (HON.out.trans ho1)
  replace HWN := Lib.hid hw1
  clear hw1 ho1
  rw [List.nil_append, show (⟨#[115, 101, 103, 49]⟩ : ByteArray).data.toList = word from rfl] at HWN
  go_wp2_with fail
  refine (u64_any _ _ _ _ q HWN.out (by decide) _ rfl).mono ?_
  rintro e W2 ⟨rfl, hw1, ho1⟩
  replace HON := Lib.hid (HON.out.trans ho1)
  replace HWN := Lib.hid hw1
  clear hw1 ho1
  rw [show word ++ fixB 8 q = bareH q from rfl] at HWN
  go_wp2_with (go_at_call 33; refine (bytes_any _ _ _ _ HWN.out).mono ?_; rintro e w' ⟨rfl, nq, rfl⟩)
  refine (HSE.out _).mono ?_
  rintro e W3 ⟨rfl, hb⟩
  have HB := Lib.hid ((HON.out.drewN nq).below.trans (hb.mono (HON.out.drewN nq).below.size))
  clear hb
  go_wp2_with fail
  go_ret
  exact ⟨rfl, HB.out⟩
/-- **Header** -/
theorem Header_any (q : Int) (w : World) :
    Calls Try.prog 41 #[.int .i64 q] w fun e w' => e = .returned (.tuple #[.string (S (hdB q)), .int .i64 (hdE q : Int)]) ∧ Below w.heap.size w w' := by
  have HMF := Lib.hid (fun W => mayBegin_any q W)
  by_cases hm : mayF q
  · have he : hdE q = 0 := if_pos hm
    have hb : hdB q = segH q.toNat := if_pos hm
    rw [he, hb]
    obtain ⟨a, rfl⟩ : ∃ a : Nat, q = (a : Int) := ⟨q.toNat, by have := hm.1; omega⟩
    rw [Int.toNat_natCast]
    have HH := Lib.hid (fun W => header_any a (by have := hm.2; omega) W)
    rw [decide_eq_true hm] at HMF
    clear hm he hb
    generalize S (segH a) = R at *
    go_enter Try.func41, Try.ntmps41
    go_wp2_with (go_at_call 60; refine (HMF.out _).mono ?_; rintro e w1 ⟨rfl, rfl⟩)
    refine (HH.out _).mono ?_
    rintro e w1 ⟨rfl, hb⟩
    go_wp2_with fail
    go_ret2
    exact ⟨rfl, hb⟩
  · have he : hdE q = 1 := if_neg hm
    have hb : hdB q = [] := if_neg hm
    rw [he, hb, show S [] = ⟨#[]⟩ from rfl]
    rw [decide_eq_false hm] at HMF
    clear hm he hb
    go_enter Try.func41, Try.ntmps41
    go_wp2_with (go_at_call 60; refine (HMF.out _).mono ?_; rintro e w1 ⟨rfl, rfl⟩)
    go_ret2
    exact ⟨rfl, Below.refl _ _⟩
theorem mayF_u (q : Nat) (h : q < 18446744073709551616) : decide (mayF (wrap64 (U q))) = decide (q ≤ 1048576) := by
  have e : wrap64 (U q) = if q < 9223372036854775808 then (q : Int) else (q : Int) - 18446744073709551616 := by
    unfold wrap64 U; split <;> omega
  rw [e]
  by_cases h1 : q ≤ 1048576
  · rw [if_pos (by omega), decide_eq_true h1]; exact decide_eq_true ⟨by omega, by omega⟩
  · rw [decide_eq_false h1]
    refine decide_eq_false (fun hm => ?_)
    obtain ⟨a, b⟩ := hm
    split at a <;> split at b <;> omega
theorem take4 {l : List UInt8} (h : 16 ≤ l.length) : Lib.hasPrefix l word = decide (l.take 4 = word) := by
  unfold Lib.hasPrefix
  by_cases e : l.take 4 = word
  · rw [decide_eq_true e, List.isPrefixOf_iff_prefix]
    exact ⟨l.drop 4, by rw [← e, List.take_append_drop]⟩
  · rw [decide_eq_false e]
    refine Bool.eq_false_iff.2 (fun hp => e ?_)
    obtain ⟨m, hm⟩ := List.isPrefixOf_iff_prefix.1 hp
    rw [← hm]; rfl
set_option maxRecDepth 100000 in
set_option maxHeartbeats 1000000 in
/-- **First** -/
theorem First_any (s : ByteArray) (hs : s.size ≤ 1000000000000) (w : World) :
    Calls Try.prog 62 #[.string s] w fun e w' => e = .returned (.tuple #[.int .i64 (fiQ s.data.toList : Int), .int .i64 (fiE s.data.toList : Int)]) ∧ Below w.heap.size w w' := by
  have hz : s.data.toList.length = s.size := by simp
  by_cases h16 : s.size < 16
  · have he : fiE s.data.toList = 8 := by unfold fiE; rw [if_pos (by omega)]
    have hq : fiQ s.data.toList = 0 := by unfold fiQ; rw [if_neg (by rw [he]; decide)]
    rw [he, hq]
    clear he hq hz
    go_enter Try.func62, Try.ntmps62
    go_wp2_with fail
    go_ret2
    exact ⟨rfl, Below.refl _ _⟩
  · have d16 : decide ((s.size : Int) < 16) = false := decide_eq_false (by omega)
    have HHP := Lib.hid (fun W => Try.strings_HasPrefix s ⟨#[115, 101, 103, 49]⟩ W)
    change Hid (∀ W, Calls Try.prog 83 #[.string s, .string ⟨#[115, 101, 103, 49]⟩] W fun e w' => e = .returned (.bool (Lib.hasPrefix s.data.toList word)) ∧ w' = W) at HHP
    rw [take4 (by omega)] at HHP
    by_cases h4 : s.data.toList.take 4 = word
    · rw [decide_eq_true h4] at HHP
      have hsl : s.extract 0 16 = S (s.data.toList.take 16) := S_take s.data.toList 16
      have hsz : (S (s.data.toList.take 16)).size = 16 := by rw [S_size, List.length_take]; omega
      have HOP := Lib.hid (fun W => open_any (S (s.data.toList.take 16)) W (by rw [hsz]; decide))
      rw [hsz, S_list] at HOP
      have t12 : (s.data.toList.take 16).take (16 - 4) = s.data.toList.take 12 := by rw [List.take_take]; rfl
      have d12 : (s.data.toList.take 16).drop (16 - 4) = (s.data.toList.drop 12).take 4 := by rw [List.drop_take]
      rw [t12, d12] at HOP
      have hl12 : (s.data.toList.take 12).length = 12 := by rw [List.length_take]; omega
      have hsl2 : (S (s.data.toList.take 12)).extract 4 (S (s.data.toList.take 12)).size = S ((s.data.toList.take 12).drop 4) := S_drop _ _
      have hd8 : (s.data.toList.take 12).drop 4 = (s.data.toList.drop 4).take 8 := by rw [List.drop_take]
      have hz12 : (S (s.data.toList.take 12)).size = 12 := by rw [S_size, hl12]
      rw [hd8, hz12] at hsl2
      have hz8 : ((s.data.toList.drop 4).take 8).length = 8 := by rw [List.length_take, List.length_drop]; omega
      have hu : fxV (S ((s.data.toList.drop 4).take 8)) 0 0 8 = fiN s.data.toList := by
        unfold fxV fiN
        rw [tk_list _ 0 8 (by omega), List.drop_zero, List.take_of_length_le (by omega)]
      have HZ8 := Lib.hid (show (S ((s.data.toList.drop 4).take 8)).size = 8 by rw [S_size, hz8])
      have HUU := Lib.hid hu
      have HNL := Lib.hid (show fiN s.data.toList < 18446744073709551616 by rw [← hu]; exact Wire.fxV_lt _ _ _ 8)
      have HF := Lib.hid (show fiE s.data.toList = if ¬ fourL (ofW (s.data.toList.take 12)) = (s.data.toList.drop 12).take 4 then 42 else if 1048576 < fiN s.data.toList then 4 else 0 by
        unfold fiE; rw [if_neg (by omega), if_neg (fun k => k h4)])
      have HFQ := Lib.hid (show fiQ s.data.toList = if fiE s.data.toList = 0 then fiN s.data.toList else 0 from rfl)
      have hwr : (Instr.slice 9 (.string s) none (some (.int .i64 16)) none).run Try.prog = fun W => .ok (.string (S (s.data.toList.take 16))) W := by
        funext W
        have y1 : (16 : Int) ≤ (s.size : Int) := by omega
        have y2 : 16 ≤ s.size := by omega
        rw [← hsl]
        go_simp
      clear h4 t12 d12 hl12 hd8 hz8 hu hsl hz h16
      generalize hT16 : S (s.data.toList.take 16) = T16 at *
      generalize hT12 : s.data.toList.take 12 = T12 at *
      generalize hT8 : S ((s.data.toList.drop 4).take 8) = T8 at *
      generalize hC : (s.data.toList.drop 12).take 4 = C at *
      generalize hQ : fiQ s.data.toList = Q at *
      generalize hE : fiE s.data.toList = EE at *
      generalize hN : fiN s.data.toList = N at *
      clear hT16 hT12 hT8 hC hQ hE hN hs
      go_enter Try.func62, Try.ntmps62
      go_wp2_with (first | (go_at_call 83; refine (HHP.out _).mono ?_; rintro e w1 ⟨rfl, rfl⟩))
      refine (HOP.out _).mono ?_
      rintro e w1 ⟨⟨x, k, rfl, hx⟩, hb⟩
      have HB := Lib.hid hb
      clear hb
      rcases hx with ⟨h, _, _⟩ | ⟨_, hc, rfl, rfl⟩ | ⟨_, hc, rfl, rfl⟩
      · omega
      · have HC := Lib.hid hc.symm
        clear hc
        have hx1 : Crc.S T12 = S T12 := rfl
        rw [hx1]
        have hz4 : (4 : Int) ≤ ((S T12).size : Int) := by rw [hz12]; decide
        have hz5 : 4 ≤ (S T12).size := by rw [hz12]; decide
        go_wp2_with fail
        refine (new_any T8 w1).mono ?_
        rintro e w2 ⟨rfl, rfl⟩
        have HR := Lib.hid (Rd.new T8 w1)
        have HG := Lib.hid (Wire.grown_refl (w1.alloc (.cells (rdS T8 0 0) 127)) w1.heap.size)
        have HB1 := Lib.hid (HB.out.alloc HB.out.size (.cells (rdS T8 0 0) 127))
        have HRS := Lib.hid (show w1.heap.size < (w1.alloc (.cells (rdS T8 0 0) 127)).heap.size by simp)
        have HSZ := Lib.hid HB.out.size
        clear HB
        generalize w1.alloc (.cells (rdS T8 0 0) 127) = W2 at *
        generalize w1.heap.size = r at *
        go_wp2_with fail
        refine (ru64_any r T8 0 0 W2 HR.out (Nat.zero_le _) (by rw [HZ8.out]; decide)).mono ?_
        rintro e W3 ⟨rfl, hst⟩
        rw [HUU.out]
        have HB3 := Lib.hid (Frame.below_grown HB1.out (Wire.grown_trans HG.out hst.2) HSZ.out (by have := HRS.out; have := HSZ.out; omega))
        clear hst HR HG HB1
        have HMB := Lib.hid (fun W => mayBegin_any (wrap64 (U N)) W)
        rw [mayF_u N HNL.out] at HMB
        have hE := HF.out
        rw [if_neg (fun k => k HC.out)] at hE
        by_cases hN : N ≤ 1048576
        · rw [decide_eq_true hN] at HMB
          rw [if_neg (by omega)] at hE
          have hq := HFQ.out
          rw [if_pos hE] at hq
          have hwn : wrap64 (U N) = (N : Int) := by unfold U; exact IntWalk.wrap64_in _ (by omega)
          rw [hwn] at HMB
          have HEQ := Lib.hid hE; have HQQ := Lib.hid hq
          clear hN hE hq
          go_wp2_with (go_at_call 60; refine (HMB.out _).mono ?_; rintro e w4 ⟨rfl, rfl⟩)
          go_ret2
          exact ⟨by rw [HEQ.out, HQQ.out]; rfl, HB3.out⟩
        · rw [decide_eq_false hN] at HMB
          rw [if_pos (by omega)] at hE
          have hq := HFQ.out
          rw [if_neg (by rw [hE]; decide)] at hq
          have HEQ := Lib.hid hE; have HQQ := Lib.hid hq
          clear hN hE hq
          go_wp2_with (go_at_call 60; refine (HMB.out _).mono ?_; rintro e w4 ⟨rfl, rfl⟩)
          go_ret2
          exact ⟨by rw [HEQ.out, HQQ.out]; rfl, HB3.out⟩
      · have hE := HF.out
        rw [if_pos (fun k => hc k.symm)] at hE
        have hq := HFQ.out
        rw [if_neg (by rw [hE]; decide)] at hq
        have HEQ := Lib.hid hE; have HQQ := Lib.hid hq
        clear hE hq hc
        go_wp2_with fail
        go_ret2
        exact ⟨by rw [HEQ.out, HQQ.out]; rfl, HB.out⟩
    · rw [decide_eq_false h4] at HHP
      have he : fiE s.data.toList = 4 := by unfold fiE; rw [if_neg (by omega), if_pos h4]
      have hq : fiQ s.data.toList = 0 := by unfold fiQ; rw [if_neg (by rw [he]; decide)]
      rw [he, hq]
      clear he hq hz h4 h16
      go_enter Try.func62, Try.ntmps62
      go_wp2_with (go_at_call 83; refine (HHP.out _).mono ?_; rintro e w1 ⟨rfl, rfl⟩)
      go_ret2
      exact ⟨rfl, Below.refl _ _⟩
end Go.Proofs.Ytkjnddgjnlbopaa.Seg

/-
  The walks of Scan, Next and Fits.
-/
namespace Go.Proofs.Ytkjnddgjnlbopaa.Seg
open Go Go.RowKit
open Go.Proofs.Ytkjnddgjnlbopaa.Wire (S S_list S_size cell_row frozen_row row_lt heap_set)
open Go.Proofs.Ytkjnddgjnlbopaa.Frame

/-- a segment as a value -/
def segV (q : Int) (v : Value) (g : Int) (x : Bool) : Value := .agg #[.int .i64 q, v, .int .i64 g, .bool x]
/-- a segment's box -/
def SBx (w : World) (b : Nat) (q : Int) (v : Value) (g : Int) (x : Bool) : Prop := w.heap[b]? = some (.cells #[.int .i64 q, v, .int .i64 g, .bool x] 71 (0, 0))
theorem SBx.facts {w : World} {b : Nat} {q : Int} {v : Value} {g : Int} {x : Bool} (h : SBx w b q v g x) :
    (w.cell? ⟨b, 0, none⟩ = some (.int .i64 q) ∧ w.cell? ⟨b, 1, none⟩ = some v ∧ w.cell? ⟨b, 2, none⟩ = some (.int .i64 g) ∧ w.cell? ⟨b, 3, none⟩ = some (.bool x)) ∧
      w.frozen? ⟨b, 0, none⟩ = false ∧ w.frozen? ⟨b, 1, none⟩ = false ∧ w.frozen? ⟨b, 2, none⟩ = false ∧ w.frozen? ⟨b, 3, none⟩ = false :=
  ⟨⟨cell_row h 0, cell_row h 1, cell_row h 2, cell_row h 3⟩, frozen_row h 0, frozen_row h 1, frozen_row h 2, frozen_row h 3⟩
theorem SBx.store {w : World} {b : Nat} {q0 : Int} {v0 : Value} {g0 : Int} {x0 : Bool} (h : SBx w b q0 v0 g0 x0) (q : Int) (v : Value) (g : Int) (x : Bool) :
    SBx ((((w.setCell ⟨b, 0, none⟩ (.int .i64 q)).setCell ⟨b, 1, none⟩ v).setCell ⟨b, 2, none⟩ (.int .i64 g)).setCell ⟨b, 3, none⟩ (.bool x)) b q v g x := by
  have h1 := heap_set h 0 (.int .i64 q)
  have h2 := heap_set h1 1 v
  have h3 := heap_set h2 2 (.int .i64 g)
  have h4 := heap_set h3 3 (.bool x)
  exact h4
theorem below_set4 {n b : Nat} {a w : World} (h : Below n a w) (hb : n ≤ b) (v0 v1 v2 v3 : Value) : Below n a ((((w.setCell ⟨b, 0, none⟩ v0).setCell ⟨b, 1, none⟩ v1).setCell ⟨b, 2, none⟩ v2).setCell ⟨b, 3, none⟩ v3) :=
  (((h.setCell (p := ⟨b, 0, none⟩) hb _).setCell (p := ⟨b, 1, none⟩) hb _).setCell (p := ⟨b, 2, none⟩) hb _).setCell (p := ⟨b, 3, none⟩) hb _
theorem grownBy_any (W : World) (b j : Nat) (v : Value) : W.grownBy (W.setCell ⟨b, j, none⟩ v) (some b) :=
  ⟨rfl, rfl, rfl, (KeepsWalks.setCell W _ v).size, fun k _ hk => Below.heap_setCell _ _ _ k (fun e => hk (by rw [e]))⟩
theorem grw_set (w : World) (b j : Nat) (v : Value) : Ranges.Grw (fun r => r = b) w (w.setCell ⟨b, j, none⟩ v) :=
  Ranges.grw_grown (grownBy_any w b j v) (fun r e => by cases e; rfl)
theorem grw_set4 (w : World) (b : Nat) (v0 v1 v2 v3 : Value) : Ranges.Grw (fun r => r = b) w ((((w.setCell ⟨b, 0, none⟩ v0).setCell ⟨b, 1, none⟩ v1).setCell ⟨b, 2, none⟩ v2).setCell ⟨b, 3, none⟩ v3) :=
  (((grw_set w b 0 v0).trans (grw_set _ b 1 v1)).trans (grw_set _ b 2 v2)).trans (grw_set _ b 3 v3)
set_option maxRecDepth 100000 in
set_option maxHeartbeats 1000000 in
/-- **Scan** -/
theorem SScan_any (s : ByteArray) (hs : s.size ≤ 10000000) (w : World) :
    Calls Try.prog 34 #[.string s] w fun e w' => ∃ A cap, e = .returned (.tuple #[.agg #[.int .i64 (fiQ s.data.toList : Int), .slice A (scL s.data.toList).length cap, .int .i64 (scG s.data.toList : Int), .bool (scW s.data.toList)], .int .i64 (fiE s.data.toList : Int)]) ∧
      OwnFr w' w.heap.size (.slice A (scL s.data.toList).length cap) (scL s.data.toList) ∧ Below w.heap.size w w' := by
  have hz : s.data.toList.length = s.size := by simp
  have HFI := Lib.hid (fun W => First_any s (by omega) W)
  obtain ⟨W0, hW0⟩ : ∃ W0, w.alloc (.cells #[.int .i64 0, .slice none 0 0, .int .i64 0, .bool false] 71) = W0 := ⟨_, rfl⟩
  have HX := Lib.hid (show SBx W0 w.heap.size 0 (.slice none 0 0) 0 false by rw [← hW0]; exact heap_alloc_new w _)
  have HB := Lib.hid (show Below w.heap.size w W0 by rw [← hW0]; exact (Below.refl _ _).alloc (Nat.le_refl _) _)
  have HZ := Lib.hid (show W0.heap.size = w.heap.size + 1 by rw [← hW0]; simp)
  by_cases h0 : fiE s.data.toList = 0
  · obtain ⟨h16, _, _, hq⟩ := fi_parts h0
    have eQ : fiQ s.data.toList = fiN s.data.toList := if_pos h0
    have eL : scL s.data.toList = scanF (s.data.toList.drop 16) 16 (fiN s.data.toList : Int) := if_pos h0
    have eG : scG s.data.toList = 16 + bytesOf (scL s.data.toList) := if_pos h0
    have eW : scW s.data.toList = decide (scG s.data.toList = s.data.toList.length) := if_pos h0
    have hsc := fun W => Scan_any s 16 (by omega) hs (fiN s.data.toList : Int) (by simp [Lit.wf, IntKind.min, IntKind.max, IntKind.bits, IntKind.signed]; omega) W
    unfold ScR at hsc
    rw [← eL] at hsc
    have eG2 : ((16 : Nat) : Int) + (bytesOf (scL s.data.toList) : Int) = (scG s.data.toList : Int) := by rw [eG]; omega
    rw [eG2] at hsc
    have HSC := Lib.hid hsc
    change Hid (∀ W, Calls Try.prog 63 #[.string s, .int .i64 16, .int .i64 (fiN s.data.toList : Int)] W fun z w' => ∃ v, z = .returned (.tuple #[v, .int .i64 (scG s.data.toList : Int)]) ∧ OwnFr w' W.heap.size v (scL s.data.toList) ∧ Below W.heap.size W w') at HSC
    rw [h0, eQ, eW, hz]
    rw [h0, eQ] at HFI
    have hw2 : ((scG s.data.toList : Int) == (s.size : Int)) = decide (scG s.data.toList = s.size) := by
      by_cases e : scG s.data.toList = s.size
      · rw [decide_eq_true e, beq_iff_eq]; omega
      · rw [decide_eq_false e, beq_eq_false_iff_ne]; omega
    clear hsc eG2 eG eL eW eQ hq h16 h0 hz hs
    generalize scL s.data.toList = L at *
    generalize fiN s.data.toList = N at *
    generalize scG s.data.toList = G at *
    generalize decide (G = s.size) = D at *
    go_enter Try.func34, Try.ntmps34
    go_wp2_with fail
    refine (HFI.out W0).mono ?_
    rintro e w1 ⟨rfl, hb⟩
    have HX1 := Lib.hid (show SBx w1 w.heap.size 0 (.slice none 0 0) 0 false from (hb.block _ (by have := HZ.out; omega)).trans HX.out)
    have HB1 := Lib.hid (HB.out.trans (hb.mono HB.out.size))
    have HZ1 := Lib.hid (show w.heap.size < w1.heap.size by have := hb.size; have := HZ.out; omega)
    clear hb HX HB HZ hW0
    go_wp2_with fail
    refine (HSC.out w1).mono ?_
    rintro e w2 ⟨v, rfl, ho, hb⟩
    obtain ⟨A, cap, rfl, -, -, -, -⟩ := ho.row
    have HO := Lib.hid ho
    have HX2 := Lib.hid (show SBx w2 w.heap.size 0 (.slice none 0 0) 0 false from (hb.block _ HZ1.out).trans HX1.out)
    have HB2 := Lib.hid (HB1.out.trans (hb.mono HB1.out.size))
    clear hb HX1 HB1 ho
    obtain ⟨W4, hW4⟩ : ∃ W4, (((w2.setCell ⟨w.heap.size, 0, none⟩ (.int .i64 (N : Int))).setCell ⟨w.heap.size, 1, none⟩ (.slice A L.length cap)).setCell ⟨w.heap.size, 2, none⟩ (.int .i64 (G : Int))).setCell ⟨w.heap.size, 3, none⟩ (.bool D) = W4 := ⟨_, rfl⟩
    obtain ⟨⟨c0, c1, c2, c3⟩, f0, f1, f2, f3⟩ := HX2.out.facts
    have HX4 := HX2.out.store (N : Int) (.slice A L.length cap) (G : Int) D
    have HB4 := Lib.hid (below_set4 HB2.out (Nat.le_refl w.heap.size) (.int .i64 (N : Int)) (.slice A L.length cap) (.int .i64 (G : Int)) (.bool D))
    have hg4 := grw_set4 w2 w.heap.size (.int .i64 (N : Int)) (.slice A L.length cap) (.int .i64 (G : Int)) (.bool D)
    rw [hW4] at HX4 HB4 hg4
    have HO4 := Lib.hid ((HO.out.grw hg4 (fun r hr e => by have := HZ1.out; omega)).less (Nat.le_of_lt HZ1.out))
    clear hg4 HO
    obtain ⟨⟨d0, d1, d2, d3⟩, -⟩ := HX4.facts
    have HX5 := Lib.hid HX4
    clear HX4
    go_wp2_with fail
    refine bodyPost_ret (v := .tuple #[.agg #[.int .i64 (N : Int), .slice A L.length cap, .int .i64 (G : Int), .bool D], .int .i64 0]) (by simp [results, Try.results34, go_sem, d0, d1, d2, d3]) rfl ⟨A, cap, rfl, HO4.out, HB4.out⟩
  · have eQ : fiQ s.data.toList = 0 := if_neg h0
    have eL : scL s.data.toList = [] := if_neg h0
    have eG : scG s.data.toList = 0 := if_neg h0
    have eW : scW s.data.toList = false := if_neg h0
    rw [eQ, eL, eG, eW]
    rw [eQ] at HFI
    obtain ⟨q1, q2, q3, q4, q5⟩ := nat_ne h0
    clear eQ eL eG eW h0 hz hs
    generalize fiE s.data.toList = x at *
    go_enter Try.func34, Try.ntmps34
    go_wp2_with fail
    refine (HFI.out W0).mono ?_
    rintro e w1 ⟨rfl, hb⟩
    have HX1 := Lib.hid (show SBx w1 w.heap.size 0 (.slice none 0 0) 0 false from (hb.block _ (by have := HZ.out; omega)).trans HX.out)
    have HB1 := Lib.hid (HB.out.trans (hb.mono HB.out.size))
    clear hb HX HB HZ hW0
    obtain ⟨W4, hW4⟩ : ∃ W4, (((w1.setCell ⟨w.heap.size, 0, none⟩ (.int .i64 0)).setCell ⟨w.heap.size, 1, none⟩ (.slice none 0 0)).setCell ⟨w.heap.size, 2, none⟩ (.int .i64 0)).setCell ⟨w.heap.size, 3, none⟩ (.bool false) = W4 := ⟨_, rfl⟩
    obtain ⟨⟨c0, c1, c2, c3⟩, f0, f1, f2, f3⟩ := HX1.out.facts
    have HX4 := HX1.out.store 0 (.slice none 0 0) 0 false
    have HB4 := Lib.hid (below_set4 HB1.out (Nat.le_refl w.heap.size) (.int .i64 0) (.slice none 0 0) (.int .i64 0) (.bool false))
    rw [hW4] at HX4 HB4
    obtain ⟨⟨d0, d1, d2, d3⟩, -⟩ := HX4.facts
    clear HX4
    go_wp2_with fail
    refine bodyPost_ret (v := .tuple #[.agg #[.int .i64 0, .slice none 0 0, .int .i64 0, .bool false], .int .i64 (x : Int)]) (by simp [results, Try.results34, go_sem, d0, d1, d2, d3]) rfl ⟨none, 0, rfl, OwnFr.nil _ _, HB4.out⟩
/-- what stands behind a segment's last frame -/
def nxI (q : Int) (L : List Fr) : Int := if h : L = [] then q else ((L.getLast h).q : Int) + 1
theorem fits_no {size n most : Int} (h : ¬ (1 ≤ n ∧ n ≤ 4096)) : fitsB size n most = false := by unfold fitsB; rw [decide_eq_false h]; rfl
theorem fits_16 {n most : Int} (h : 1 ≤ n ∧ n ≤ 4096) : fitsB 16 n most = true := by unfold fitsB; rw [decide_eq_true h]; rfl
theorem fits_is {size n most : Int} (h : 1 ≤ n ∧ n ≤ 4096) (hs : ¬ size = 16) : fitsB size n most = decide (size + (16 + n) ≤ most) := by unfold fitsB; rw [decide_eq_true h, decide_eq_false hs]; rfl
theorem i64_b {a : Int} (h : (Lit.int .i64 a).wf = true) : -9223372036854775808 ≤ a ∧ a ≤ 9223372036854775807 := by
  simp [Lit.wf, IntKind.min, IntKind.max, IntKind.bits, IntKind.signed] at h; omega
end Go.Proofs.Ytkjnddgjnlbopaa.Seg
