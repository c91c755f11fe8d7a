import Derived.Test.YtddjoealckhepaaT
/-
  A script is not too long; what is done to a disk alone.
-/
namespace Go.Proofs.Ytddjoealckhepaa.Disk
open Go Go.RowKit Go.Maps Go.Shelf Go.Proofs

def Fair (x : OpX) : Prop := x.n.length ≤ 100 ∧ x.t.length ≤ 100 ∧ x.s.length ≤ 2000 ∧ x.ks.length ≤ 100
def LongRes (xs : List OpX) (w : World) (z : Ending) (w' : World) : Prop := ∃ b : Bool, z = .returned (.bool b) ∧ (b = false → xs.length ≤ 60 ∧ ∀ x ∈ xs, Fair x) ∧ w' = w
theorem fair_more {xs : List OpX} {k : Nat} (h : Hid (∀ j (hj : j < xs.length), j < k → Fair xs[j])) (hk : ∀ hk : k < xs.length, Fair xs[k]) : Hid (∀ j (hj : j < xs.length), j < k + 1 → Fair xs[j]) := fun j hj hjk => by
  by_cases e : j = k
  · subst e; exact hk hj
  · exact h j hj (by omega)

set_option maxRecDepth 100000 in
set_option maxHeartbeats 2000000 in
theorem long_any (A : Option Addr) (cap : Nat) (xs : List OpX) (w : World) (h : Ops w A xs) :
    Calls Try.prog 32 #[.slice A xs.length cap] w (LongRes xs w) := by
  have HR := Lib.hid h
  clear h
  by_cases hbig : 60 < xs.length
  · have z : (60 : Int) < (xs.length : Int) := by omega
    have zd : decide ((60 : Int) < (xs.length : Int)) = true := decide_eq_true z
    clear hbig
    go_enter Try.func32, Try.ntmps32
    go_wp2_with fail
    go_ret
    exact ⟨true, rfl, fun h => by (cases h), rfl⟩
  · have z : ¬ (60 : Int) < (xs.length : Int) := by omega
    have zd : decide ((60 : Int) < (xs.length : Int)) = false := decide_eq_false z
    have HL := Lib.hid (show xs.length ≤ 60 by omega)
    clear hbig
    go_enter Try.func32, Try.ntmps32
    go_wp2_with fail
    go_loopw [3] (fun i wr => ∃ k : Nat, k ≤ xs.length ∧ i = .int .i64 (k : Int) ∧ Hid (∀ j (hj : j < xs.length), j < k → Fair xs[j]) ∧ wr = w) (fun i _ => xs.length - (intOf i).toNat)
    case atStart => exact ⟨0, Nat.zero_le _, rfl, fun j _ hj => absurd hj (Nat.not_lt_zero _), rfl⟩
    case round =>
      obtain ⟨k, hk, rfl, HY, rfl⟩ := hrel
      by_cases hlt : k < xs.length
      · obtain ⟨nb, no, rfl, hb1, hop, c0, c1, c2, c3, c4, c5⟩ := HR.out k hlt
        have hfair : ∀ F : Prop, (Fair xs[k] → F) → Fair xs[k] → F := fun _ h1 h2 => h1 h2
        have HFA : Hid (Fair xs[k] → ∀ hk : k < xs.length, Fair xs[k]) := fun h _ => h
        have z0 : (0 : Int) ≤ (k : Int) := by omega
        have z1 : (k : Int) < (xs.length : Int) := by omega
        have zk : IntKind.i64.wrap ((k : Int) + 1) = (k : Int) + 1 := by rw [IntKind.wrap_i64]; have := HL.out; omega
        have HLT := Lib.hid hlt
        clear hop hb1 hfair
        generalize hx : xs[k] = x at c0 c1 c2 c3 c4 c5 HFA
        have HX := Lib.hid hx
        clear hx
        obtain ⟨xk, xn, xt, xs', xm, xK, xc, xks⟩ := x
        simp only at c0 c1 c2 c3 c4 c5
        by_cases q0 : 100 < xn.length
        · have w0 : (100 : Int) < (((S xn).size : Nat) : Int) := by have := S_size xn; omega
          have v0 : decide ((100 : Int) < (((S xn).size : Nat) : Int)) = true := decide_eq_true w0
          clear q0 
          go_wp2_with fail
          go_ret
          exact ⟨true, rfl, fun h => by (cases h), rfl⟩
        by_cases q1 : 100 < xt.length
        · have w0 : ¬ (100 : Int) < (((S xn).size : Nat) : Int) := by have := S_size xn; omega
          have v0 : decide ((100 : Int) < (((S xn).size : Nat) : Int)) = false := decide_eq_false w0
          have w1 : (100 : Int) < (((S xt).size : Nat) : Int) := by have := S_size xt; omega
          have v1 : decide ((100 : Int) < (((S xt).size : Nat) : Int)) = true := decide_eq_true w1
          clear q1 q0
          go_wp2_with fail
          go_ret
          exact ⟨true, rfl, fun h => by (cases h), rfl⟩
        by_cases q2 : 2000 < xs'.length
        · have w0 : ¬ (100 : Int) < (((S xn).size : Nat) : Int) := by have := S_size xn; omega
          have v0 : decide ((100 : Int) < (((S xn).size : Nat) : Int)) = false := decide_eq_false w0
          have w1 : ¬ (100 : Int) < (((S xt).size : Nat) : Int) := by have := S_size xt; omega
          have v1 : decide ((100 : Int) < (((S xt).size : Nat) : Int)) = false := decide_eq_false w1
          have w2 : (2000 : Int) < (((S xs').size : Nat) : Int) := by have := S_size xs'; omega
          have v2 : decide ((2000 : Int) < (((S xs').size : Nat) : Int)) = true := decide_eq_true w2
          clear q2 q0 q1
          go_wp2_with fail
          go_ret
          exact ⟨true, rfl, fun h => by (cases h), rfl⟩
        by_cases q3 : 100 < xks.length
        · have w0 : ¬ (100 : Int) < (((S xn).size : Nat) : Int) := by have := S_size xn; omega
          have v0 : decide ((100 : Int) < (((S xn).size : Nat) : Int)) = false := decide_eq_false w0
          have w1 : ¬ (100 : Int) < (((S xt).size : Nat) : Int) := by have := S_size xt; omega
          have v1 : decide ((100 : Int) < (((S xt).size : Nat) : Int)) = false := decide_eq_false w1
          have w2 : ¬ (2000 : Int) < (((S xs').size : Nat) : Int) := by have := S_size xs'; omega
          have v2 : decide ((2000 : Int) < (((S xs').size : Nat) : Int)) = false := decide_eq_false w2
          have w3 : (100 : Int) < ((xks.length : Nat) : Int) := by omega
          have v3 : decide ((100 : Int) < ((xks.length : Nat) : Int)) = true := decide_eq_true w3
          clear q3 q0 q1 q2
          go_wp2_with fail
          go_ret
          exact ⟨true, rfl, fun h => by (cases h), rfl⟩
        have w0 : ¬ (100 : Int) < (((S xn).size : Nat) : Int) := by have := S_size xn; omega
        have v0 : decide ((100 : Int) < (((S xn).size : Nat) : Int)) = false := decide_eq_false w0
        have w1 : ¬ (100 : Int) < (((S xt).size : Nat) : Int) := by have := S_size xt; omega
        have v1 : decide ((100 : Int) < (((S xt).size : Nat) : Int)) = false := decide_eq_false w1
        have w2 : ¬ (2000 : Int) < (((S xs').size : Nat) : Int) := by have := S_size xs'; omega
        have v2 : decide ((2000 : Int) < (((S xs').size : Nat) : Int)) = false := decide_eq_false w2
        have w3 : ¬ (100 : Int) < ((xks.length : Nat) : Int) := by omega
        have v3 : decide ((100 : Int) < ((xks.length : Nat) : Int)) = false := decide_eq_false w3
        have HF := Lib.hid (show Fair ⟨xk, xn, xt, xs', xm, xK, xc, xks⟩ from ⟨by simp only; omega, by simp only; omega, by simp only; omega, by simp only; omega⟩)
        clear q0 q1 q2 q3
        go_wp2_with fail
        go_roundw
        case rel => exact ⟨k + 1, by have := HLT.out; omega, by go_num, fair_more HY (fun _ => Eq.mpr (congrArg Fair HX.out) HF.out), trivial⟩
        case measure => have := HLT.out; simp [intOf] <;> omega
      · obtain rfl : k = xs.length := by omega
        have z1 : ¬ ((xs.length : Nat) : Int) < (xs.length : Int) := by omega
        go_wp2_with fail
        go_ret
        exact ⟨false, rfl, fun _ => ⟨HL.out, fun x hx => by
          obtain ⟨i, hi, rfl⟩ := List.getElem_of_mem hx
          exact HY.out i hi hi⟩, rfl⟩

def actD (d : Dk) (x : OpX) : Nat × Dk :=
  if x.k = 0 then createD d x.n else if x.k = 1 then appendD d x.n x.s else if x.k = 2 then syncD d x.n else if x.k = 3 then trimD d x.n x.m else if x.k = 4 then renameD d x.n x.t else deleteD d x.n
def opV (x : OpX) : Value := .agg #[.int .u8 (x.k : Int), .string (S x.n), .string (S x.t), .string (S x.s), .int .i64 x.m, .slice x.K x.ks.length x.c]
theorem res_new {a b : Nat} {r : Nat × Dk} {w w' : World} {z : Ending} {o : Obj} (h : Res a b r (w.alloc o) z w') : Res a b r w z w' := ⟨h.1, h.2.1, ((Tn.refl a b w).new o).trans h.2.2⟩

set_option maxRecDepth 100000 in
set_option maxHeartbeats 1000000 in
theorem act_any (a b : Nat) (d : Dk) (x : OpX) (hk : x.k < 256) (hop : x.n.length ≤ maxLen ∧ x.t.length ≤ maxLen ∧ x.s.length ≤ maxLen) (w : World) (h : DkAt w a b d) :
    Calls Try.prog 41 #[opV x, .pointer (some ⟨a, 0, none⟩)] w (Res a b (actD d x) w) := by
  have HD := Lib.hid (h.new (.cells #[.int .u8 (x.k : Int), .string (S x.n), .string (S x.t), .string (S x.s), .int .i64 x.m, .slice x.K x.ks.length x.c] 54))
  clear h
  obtain ⟨hn, ht, hs⟩ := hop
  have HN := Lib.hid hn
  have HT := Lib.hid ht
  have HS := Lib.hid hs
  clear hn ht hs
  unfold opV
  by_cases q0 : x.k = 0
  · have zx : (x.k : Int) = 0 := by omega
    rw [zx] at HD ⊢
    have HA := Lib.hid (show actD d x = createD d x.n by simp [actD, q0])
    have HCALL := Lib.hid (create_any a b d x.n HN.out _ HD.out)
    clear q0
    go_enter Try.func41, Try.ntmps41
    go_wp2_with fail
    refine HCALL.out.mono ?_
    rintro z w1 ⟨rfl, h1, h2⟩
    have H1 := Lib.hid h1
    have H2 := Lib.hid h2
    clear h1 h2
    go_wp2_with fail
    go_ret
    rw [HA.out]
    exact res_new ⟨rfl, H1.out, H2.out⟩
  by_cases q1 : x.k = 1
  · have zx : (x.k : Int) = 1 := by omega
    rw [zx] at HD ⊢
    have HA := Lib.hid (show actD d x = appendD d x.n x.s by simp [actD, q0, q1])
    have HCALL := Lib.hid (append_any a b d x.n HN.out x.s HS.out _ HD.out)
    clear q0 q1
    go_enter Try.func41, Try.ntmps41
    go_wp2_with fail
    refine HCALL.out.mono ?_
    rintro z w1 ⟨rfl, h1, h2⟩
    have H1 := Lib.hid h1
    have H2 := Lib.hid h2
    clear h1 h2
    go_wp2_with fail
    go_ret
    rw [HA.out]
    exact res_new ⟨rfl, H1.out, H2.out⟩
  by_cases q2 : x.k = 2
  · have zx : (x.k : Int) = 2 := by omega
    rw [zx] at HD ⊢
    have HA := Lib.hid (show actD d x = syncD d x.n by simp [actD, q0, q1, q2])
    have HCALL := Lib.hid (sync_any a b d x.n HN.out _ HD.out)
    clear q0 q1 q2
    go_enter Try.func41, Try.ntmps41
    go_wp2_with fail
    refine HCALL.out.mono ?_
    rintro z w1 ⟨rfl, h1, h2⟩
    have H1 := Lib.hid h1
    have H2 := Lib.hid h2
    clear h1 h2
    go_wp2_with fail
    go_ret
    rw [HA.out]
    exact res_new ⟨rfl, H1.out, H2.out⟩
  by_cases q3 : x.k = 3
  · have zx : (x.k : Int) = 3 := by omega
    rw [zx] at HD ⊢
    have HA := Lib.hid (show actD d x = trimD d x.n x.m by simp [actD, q0, q1, q2, q3])
    have HCALL := Lib.hid (trim_any a b d x.n HN.out x.m _ HD.out)
    clear q0 q1 q2 q3
    go_enter Try.func41, Try.ntmps41
    go_wp2_with fail
    refine HCALL.out.mono ?_
    rintro z w1 ⟨rfl, h1, h2⟩
    have H1 := Lib.hid h1
    have H2 := Lib.hid h2
    clear h1 h2
    go_wp2_with fail
    go_ret
    rw [HA.out]
    exact res_new ⟨rfl, H1.out, H2.out⟩
  by_cases q4 : x.k = 4
  · have zx : (x.k : Int) = 4 := by omega
    rw [zx] at HD ⊢
    have HA := Lib.hid (show actD d x = renameD d x.n x.t by simp [actD, q0, q1, q2, q3, q4])
    have HCALL := Lib.hid (rename_any a b d x.n x.t HN.out HT.out _ HD.out)
    clear q0 q1 q2 q3 q4
    go_enter Try.func41, Try.ntmps41
    go_wp2_with fail
    refine HCALL.out.mono ?_
    rintro z w1 ⟨rfl, h1, h2⟩
    have H1 := Lib.hid h1
    have H2 := Lib.hid h2
    clear h1 h2
    go_wp2_with fail
    go_ret
    rw [HA.out]
    exact res_new ⟨rfl, H1.out, H2.out⟩
  have z0 : ((x.k : Int) == 0) = false := by simp; omega
  have y0 : ¬ (x.k : Int) = 0 := by omega
  have z1 : ((x.k : Int) == 1) = false := by simp; omega
  have y1 : ¬ (x.k : Int) = 1 := by omega
  have z2 : ((x.k : Int) == 2) = false := by simp; omega
  have y2 : ¬ (x.k : Int) = 2 := by omega
  have z3 : ((x.k : Int) == 3) = false := by simp; omega
  have y3 : ¬ (x.k : Int) = 3 := by omega
  have z4 : ((x.k : Int) == 4) = false := by simp; omega
  have y4 : ¬ (x.k : Int) = 4 := by omega
  have HA := Lib.hid (show actD d x = deleteD d x.n by simp [actD, q0, q1, q2, q3, q4])
  have HCALL := Lib.hid (delete_any a b d x.n HN.out _ HD.out)
  clear q0 q1 q2 q3 q4
  generalize (x.k : Int) = zk at *
  go_enter Try.func41, Try.ntmps41
  go_wp2_with fail
  refine HCALL.out.mono ?_
  rintro z w1 ⟨rfl, h1, h2⟩
  have H1 := Lib.hid h1
  have H2 := Lib.hid h2
  clear h1 h2
  go_wp2_with fail
  go_ret
  rw [HA.out]
  exact res_new ⟨rfl, H1.out, H2.out⟩
end Go.Proofs.Ytddjoealckhepaa.Disk
