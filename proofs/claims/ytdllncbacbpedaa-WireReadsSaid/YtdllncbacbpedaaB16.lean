/-
  Things to be written (Item): how they lie in memory; 'heavy'; 'put'; 'bytes'.
-/
import Derived.Test.YtdllncbacbpedaaB15
namespace Go.Proofs.Ytdllncbacbpedaa.Wire
open Go.RowKit

/-- an Item -/
structure It where
  k : Nat
  n : Nat
  t : ByteArray
  m : Int
def It.val (x : It) : Value := .agg #[.int .u8 (x.k : Int), .int .u64 (U x.n), .string x.t, .int .i64 x.m]
def It.ok (x : It) : Prop := x.k < 256 ∧ x.n < 18446744073709551616 ∧ x.t.size ≤ maxLen ∧ x.m ≤ 9223372036854775807 ∧ -9223372036854775808 ≤ x.m
/-- a slice of Items, that reads as xs, below block B -/
def Items (w : World) (A : Option Addr) (xs : List It) (B : Nat) : Prop :=
  ∀ i (h : i < xs.length), ∃ b off, A = some ⟨b, off, none⟩ ∧ b < B ∧ w.cell? ⟨b, off + i * 4, none⟩ = some (.int .u8 (xs[i].k : Int)) ∧ w.cell? ⟨b, off + i * 4 + 1, none⟩ = some (.int .u64 (U xs[i].n)) ∧
    w.cell? ⟨b, off + i * 4 + 2, none⟩ = some (.string xs[i].t) ∧ w.cell? ⟨b, off + i * 4 + 3, none⟩ = some (.int .i64 xs[i].m) ∧ xs[i].ok
theorem Items.below {w w' : World} {A : Option Addr} {xs : List It} {B : Nat} (h : Items w A xs B) (hb : Below B w w') : Items w' A xs B := by
  intro i hi
  obtain ⟨b, off, hA, hB, c0, c1, c2, c3, hok⟩ := h i hi
  exact ⟨b, off, hA, hB, (hb.cell (p := ⟨b, _, none⟩) hB).trans c0, (hb.cell (p := ⟨b, _, none⟩) hB).trans c1, (hb.cell (p := ⟨b, _, none⟩) hB).trans c2, (hb.cell (p := ⟨b, _, none⟩) hB).trans c3, hok⟩

theorem ret_bool {a b : Bool} (h : a = b) : Ending.returned (.bool a) = .returned (.bool b) := by rw [h]
/-- how heavy they are -/
def tot (xs : List It) : Nat := (xs.map fun x => 20 + min 20000 x.t.size).sum
theorem tot_take (xs : List It) (k : Nat) (h : k < xs.length) : tot (xs.take (k + 1)) = tot (xs.take k) + (20 + min 20000 xs[k].t.size) := by
  unfold tot
  rw [List.take_succ_eq_append_getElem h, List.map_append, List.sum_append]; simp
theorem tot_le (xs : List It) (k : Nat) : tot (xs.take k) ≤ tot xs := by
  unfold tot
  conv => rhs; rw [← List.take_append_drop k xs]
  rw [List.map_append, List.sum_append]; omega

set_option maxRecDepth 100000 in
set_option maxHeartbeats 400000 in
theorem heavy_any (s : ByteArray) (A : Option Addr) (cap : Nat) (xs : List It) (w : World) (hs : s.size ≤ maxLen) (hx : Items w A xs w.heap.size) (hl : xs.length ≤ cap) (hcap : cap ≤ maxLen) :
    Calls Try.prog 35 #[.string s, .slice A xs.length cap] w fun e w' => e = .returned (.bool (decide (20000 ≤ s.size + tot xs))) ∧ w = w' := by
  unfold maxLen at hs hcap
  go_enter Try.func35, Try.ntmps35
  go_wp2_with fail
  go_loop [5, 6] (fun n i => ∃ k : Nat, k ≤ xs.length ∧ i = .int .i64 k ∧ n = .int .i64 ((s.size + tot (xs.take k) : Nat) : Int)) (fun _ i => xs.length - (intOf i).toNat)
  case atStart => exact ⟨0, Nat.zero_le _, rfl, rfl⟩
  case round =>
    obtain ⟨k, hk, rfl, rfl⟩ := hrel
    by_cases hlt : k < xs.length
    · obtain ⟨b, off, rfl, hB, c0, c1, c2, c3, hok⟩ := hx k hlt
      have HT := Lib.hid (tot_take xs k hlt)
      have HL := Lib.hid (tot_le xs k)
      generalize tot (xs.take k) = T at *
      generalize xs[k] = x at *
      by_cases h20 : s.size + T < 20000
      · go_wp2_with fail
        go_round
        case rel => exact ⟨k + 1, by omega, by go_num, congrArg (Value.int .i64) (by rw [HT.out]; omega)⟩
        case measure => simp [intOf] <;> omega
      · have hge : (20000 : Int) ≤ ((s.size + T : Nat) : Int) := by omega
        have HD : Hid (decide (20000 ≤ s.size + tot xs) = true) := by have := HL.out; exact decide_eq_true (by omega)
        go_wp2_with fail
        go_ret
        exact ⟨ret_bool (by first | (rw [HD.out]; done) | (rw [HD.out]; rfl) | (rw [HD.out]; exact decide_eq_true (by omega)) | exact decide_eq_true (by omega)), rfl⟩
    · obtain rfl : k = xs.length := by omega
      rw [List.take_length]
      by_cases h20 : 20000 ≤ s.size + tot xs
      · have HD : Hid (decide (20000 ≤ s.size + tot xs) = true) := decide_eq_true h20
        have hge : (20000 : Int) ≤ ((s.size + tot xs : Nat) : Int) := by omega
        go_wp2_with fail
        go_ret
        exact ⟨ret_bool (by first | (rw [HD.out]; done) | (rw [HD.out]; rfl) | (rw [HD.out]; exact decide_eq_true (by omega)) | exact decide_eq_true (by omega)), rfl⟩
      · have HD : Hid (decide (20000 ≤ s.size + tot xs) = false) := decide_eq_false h20
        have hge : ((s.size + tot xs : Nat) : Int) < (20000 : Int) := by omega
        go_wp2_with fail
        go_ret
        exact ⟨ret_bool (by first | (rw [HD.out]; done) | (rw [HD.out]; rfl) | (rw [HD.out]; exact decide_eq_false (by omega)) | exact decide_eq_false (by omega)), rfl⟩

/-! ### what an Item becomes -/
def wrB (x : It) : List UInt8 :=
  if x.k % 8 = 0 then fixB 1 x.n else if x.k % 8 = 1 then fixB 2 x.n else if x.k % 8 = 2 then fixB 4 x.n else if x.k % 8 = 3 then fixB 8 x.n else
    if x.k % 8 = 4 then shortB x.n else if x.k % 8 = 5 then textB x.t else if x.k % 8 = 6 then lowB x.n else x.t.data.toList
theorem wrB_le (x : It) : (wrB x).length ≤ 11 + x.t.size := by
  have h1 := shortB_le x.n
  have h2 : (textB x.t).length ≤ 11 + x.t.size := by
    have := shortB_le x.t.size
    unfold textB; rw [List.length_append]; have e : x.t.data.toList.length = x.t.size := rfl; omega
  have h3 := lowB_length x.n
  have e : x.t.data.toList.length = x.t.size := rfl
  unfold wrB
  repeat' split
  all_goals first | (rw [fixB_length]; omega) | omega
theorem fix_mod1 (n : Nat) : fixB 1 (n % 256) = fixB 1 n := fixB_mod 1 n
theorem fix_mod2 (n : Nat) : fixB 2 (n % 65536) = fixB 2 n := fixB_mod 2 n
theorem fix_mod4 (n : Nat) : fixB 4 (n % 4294967296) = fixB 4 n := fixB_mod 4 n
theorem low_mod (n : Nat) : lowB (n % 4294967296) = lowB n := by unfold lowB; rw [fix_mod4]

theorem put_end {B : Nat} {w w1 : World} {p : Nat} {l m : List UInt8} (hB : B ≤ w.heap.size) (o : Obj) (h : Wr B w1 p (l ++ m)) (k : Only B (w.alloc o) w1) {x : It} (e : m = wrB x) : Wr B w1 p (l ++ wrB x) ∧ Only B w w1 :=
  ⟨by rw [← e]; exact h, ((Only.refl B w).alloc hB o).trans k⟩
set_option maxRecDepth 100000 in
set_option maxHeartbeats 1000000 in
theorem lput_any (w : World) (B p : Nat) (l : List UInt8) (x : It) (hw : Wr B w p l) (hok : x.ok) (hs : l.length + x.t.size + 20 ≤ 1000000000000) :
    Calls Try.prog 36 #[.pointer (some ⟨p, 0, none⟩), x.val] w fun e w' => e = .returned (.tuple #[]) ∧ Wr B w' p (l ++ wrB x) ∧ Only B w w' := by
  obtain ⟨k, n, t, m⟩ := x
  obtain ⟨hk, hn, ht, hm1, hm2⟩ := hok
  simp only [] at hk hn ht hm1 hm2 hs
  unfold It.val
  simp only []
  have HN : Hid (n < 18446744073709551616) := hn
  have HW : Hid (Wr B (w.alloc (.cells #[.int .u8 (k : Int), .int .u64 (U n), .string t, .int .i64 m] 56)) p l) := hw.alloc _
  have HB : Hid (B ≤ w.heap.size) := hw.low
  have hs8 : l.length + 8 ≤ 1000000000000 := by omega
  clear hn ht hm1 hm2 hw
  have hc : k % 8 = 0 ∨ k % 8 = 1 ∨ k % 8 = 2 ∨ k % 8 = 3 ∨ k % 8 = 4 ∨ k % 8 = 5 ∨ k % 8 = 6 ∨ k % 8 = 7 := by omega
  rcases hc with hc | hc | hc | hc | hc | hc | hc | hc
  · have hk8 : (k : Int) % 8 = 0 := by omega
    have HWB : Hid (fixB 1 (n % 256) = wrB ⟨k, n, t, m⟩) := by show _ = _; rw [fix_mod1]; simp [wrB, hc]
    have hn2 : Hid (n % 256 < 256) := by show _ < _; omega
    clear hc hk
    go_enter Try.func36, Try.ntmps36
    go_wp2_with fail
    refine (u8_any _ B p l (n % 256) HW.out hs8 _ (U_mod n 256) hn2).mono ?_; rintro e w1 ⟨rfl, h1, o1⟩
    have HE := Lib.hid (put_end HB.out _ h1 o1 HWB.out); clear h1 o1
    go_wp2_with fail
    first | go_end0 | refine bodyPost_ret (results_none rfl _ _ _) rfl ?_
    exact ⟨rfl, HE.out.1, HE.out.2⟩
  · have hk8 : (k : Int) % 8 = 1 := by omega
    have HWB : Hid (fixB 2 (n % 65536) = wrB ⟨k, n, t, m⟩) := by show _ = _; rw [fix_mod2]; simp [wrB, hc]
    have hn2 : Hid (n % 65536 < 65536) := by show _ < _; omega
    clear hc hk
    go_enter Try.func36, Try.ntmps36
    go_wp2_with fail
    refine (u16_any _ B p l (n % 65536) HW.out hs8 _ (U_mod n 65536) hn2).mono ?_; rintro e w1 ⟨rfl, h1, o1⟩
    have HE := Lib.hid (put_end HB.out _ h1 o1 HWB.out); clear h1 o1
    go_wp2_with fail
    first | go_end0 | refine bodyPost_ret (results_none rfl _ _ _) rfl ?_
    exact ⟨rfl, HE.out.1, HE.out.2⟩
  · have hk8 : (k : Int) % 8 = 2 := by omega
    have HWB : Hid (fixB 4 (n % 4294967296) = wrB ⟨k, n, t, m⟩) := by show _ = _; rw [fix_mod4]; simp [wrB, hc]
    have hn2 : Hid (n % 4294967296 < 4294967296) := by show _ < _; omega
    clear hc hk
    go_enter Try.func36, Try.ntmps36
    go_wp2_with fail
    refine (u32_any _ B p l (n % 4294967296) HW.out hs8 _ (U_mod n 4294967296) hn2).mono ?_; rintro e w1 ⟨rfl, h1, o1⟩
    have HE := Lib.hid (put_end HB.out _ h1 o1 HWB.out); clear h1 o1
    go_wp2_with fail
    first | go_end0 | refine bodyPost_ret (results_none rfl _ _ _) rfl ?_
    exact ⟨rfl, HE.out.1, HE.out.2⟩
  · have hk8 : (k : Int) % 8 = 3 := by omega
    have HWB : Hid (fixB 8 n = wrB ⟨k, n, t, m⟩) := by show _ = _; simp [wrB, hc]
    clear hc hk
    go_enter Try.func36, Try.ntmps36
    go_wp2_with fail
    refine (u64_any _ B p l n HW.out hs8 _ rfl).mono ?_; rintro e w1 ⟨rfl, h1, o1⟩
    have HE := Lib.hid (put_end HB.out _ h1 o1 HWB.out); clear h1 o1
    go_wp2_with fail
    first | go_end0 | refine bodyPost_ret (results_none rfl _ _ _) rfl ?_
    exact ⟨rfl, HE.out.1, HE.out.2⟩
  · have hk8 : (k : Int) % 8 = 4 := by omega
    have HWB : Hid (shortB n = wrB ⟨k, n, t, m⟩) := by show _ = _; simp [wrB, hc]
    clear hc hk
    go_enter Try.func36, Try.ntmps36
    go_wp2_with fail
    refine (short_any _ B p l n HW.out (by omega) HN _ rfl).mono ?_; rintro e w1 ⟨rfl, h1, o1⟩
    have HE := Lib.hid (put_end HB.out _ h1 o1 HWB.out); clear h1 o1
    go_wp2_with fail
    first | go_end0 | refine bodyPost_ret (results_none rfl _ _ _) rfl ?_
    exact ⟨rfl, HE.out.1, HE.out.2⟩
  · have hk8 : (k : Int) % 8 = 5 := by omega
    have HWB : Hid (textB t = wrB ⟨k, n, t, m⟩) := by show _ = _; simp [wrB, hc]
    clear hc hk
    go_enter Try.func36, Try.ntmps36
    go_wp2_with fail
    refine (text_any _ B p l t HW.out hs).mono ?_; rintro e w1 ⟨rfl, h1, o1⟩
    have HE := Lib.hid (put_end HB.out _ h1 o1 HWB.out); clear h1 o1
    go_wp2_with fail
    first | go_end0 | refine bodyPost_ret (results_none rfl _ _ _) rfl ?_
    exact ⟨rfl, HE.out.1, HE.out.2⟩
  · have hk8 : (k : Int) % 8 = 6 := by omega
    have HWB : Hid (lowB (n % 4294967296) = wrB ⟨k, n, t, m⟩) := by show _ = _; rw [low_mod]; simp [wrB, hc]
    have hn2 : Hid (n % 4294967296 < 4294967296) := by show _ < _; omega
    clear hc hk
    go_enter Try.func36, Try.ntmps36
    go_wp2_with fail
    refine (low_any _ B p l (n % 4294967296) HW.out hs8 _ (U_mod n 4294967296) hn2).mono ?_; rintro e w1 ⟨rfl, h1, o1⟩
    have HE := Lib.hid (put_end HB.out _ h1 o1 HWB.out); clear h1 o1
    go_wp2_with fail
    first | go_end0 | refine bodyPost_ret (results_none rfl _ _ _) rfl ?_
    exact ⟨rfl, HE.out.1, HE.out.2⟩
  · have hk8 : (k : Int) % 8 = 7 := by omega
    have HWB : Hid (t.data.toList = wrB ⟨k, n, t, m⟩) := by show _ = _; simp [wrB, hc]
    clear hc hk
    go_enter Try.func36, Try.ntmps36
    go_wp2_with fail
    refine (raw_any _ B p l t HW.out (by omega)).mono ?_; rintro e w1 ⟨rfl, h1, o1⟩
    have HE := Lib.hid (put_end HB.out _ h1 o1 HWB.out); clear h1 o1
    go_wp2_with fail
    first | go_end0 | refine bodyPost_ret (results_none rfl _ _ _) rfl ?_
    exact ⟨rfl, HE.out.1, HE.out.2⟩

end Go.Proofs.Ytdllncbacbpedaa.Wire
