/-
  The walk of the statement WireBack.
-/
import Derived.Test.YtdllncbacbpedaaB20
import Derived.Test.YtdllncbacbpedaaBLWrites
import Derived.Test.YtdllncbacbpedaaBF
namespace Go.Proofs.Ytdllncbacbpedaa.Wire
open Go.RowKit

theorem info3 : (Try.prog.info? 3).map (fun i => (i.zero, i.size, i.bytes)) = some (some (.int .i64 0), 1, 8) := by kernel_rfl
/-- where each of the first k Items ends -/
def endN (xs : List It) (j : Nat) : Nat := (allB (xs.take j)).length
def endsV (xs : List It) (k : Nat) : List Value := (List.range k).map fun j => Value.int .i64 (endN xs (j + 1) : Int)
theorem endsV_succ (xs : List It) (k : Nat) : endsV xs (k + 1) = endsV xs k ++ [.int .i64 (endN xs (k + 1) : Int)] := by
  unfold endsV; rw [List.range_succ, List.map_append]; rfl
theorem own_only {B : Nat} {w w' : World} {base n : Nat} {v : Value} {es : List Value} (h : w.ownsRow base 3 1 v n es) (k : Only B w w') : w'.ownsRow base 3 1 v n es := by
  refine ⟨h.1, ?_⟩
  rcases h.2 with h | ⟨g, cap, cur, h1, h2, h3, h4⟩
  · exact .inl h
  · exact .inr ⟨g, cap, cur, h1, h2, k.same g cur _ _ h3 (by decide) (by decide) (by decide), h4⟩
theorem inv_append {B : Nat} {w0 W w1 : World} {p n : Nat} {L : List UInt8} {v : Value} {es : List Value} (h : Inv B w0 p L W) (ho : W.ownsRow B 3 1 v n es) (hg : W.grownBy w1 v.ownBlock) : Inv B w0 p L w1 := by
  have hb : Below B w0 w1 := h.bel.grown hg h.wr.low (fun k hk => (ho.lt k hk).1)
  refine ⟨hb, ?_⟩
  rcases ho.2 with ⟨rfl, _⟩ | ⟨g, cap, cur, rfl, _, h3, _⟩
  · exact h.wr.keep fun k hk => hg.block k hk (by simp [Value.ownBlock])
  · exact h.wr.beside (r := g) hg h3 (by decide) (by decide) (by decide)
/-- a row of ints that is read -/
def Ends (w : World) (A : Option Addr) (n : Nat) (f : Nat → Nat) : Prop := ∀ j, j < n → ∃ g, A = some ⟨g, 0, none⟩ ∧ g < w.heap.size ∧ w.cell? ⟨g, j, none⟩ = some (.int .i64 (f j : Int))
theorem ends_of {w : World} {base : Nat} {v : Value} {xs : List It} {k : Nat} (h : w.ownsRow base 3 1 v k (endsV xs k)) : ∃ A c, v = .slice A k c ∧ k ≤ c ∧ Ends w A k (fun j => endN xs (j + 1)) := by
  rcases h.2 with ⟨rfl, rfl⟩ | ⟨g, cap, cur, rfl, hb, h3, hnc, _⟩
  · exact ⟨none, 0, rfl, Nat.le_refl _, fun j hj => absurd hj (by omega)⟩
  · refine ⟨some ⟨g, 0, none⟩, cap, rfl, hnc, fun j hj => ⟨g, rfl, row_lt h3, ?_⟩⟩
    have := h.cells (g := g) rfl j (.int .i64 (endN xs (j + 1) : Int)) (by unfold endsV; simp [hj])
    rw [addr_add, Nat.zero_add] at this
    exact this
theorem Ends.below {w w' : World} {A : Option Addr} {n B : Nat} {f : Nat → Nat} (h : Ends w A n f) (hb : Below B w w') (hB : w.heap.size ≤ B) : ∀ j, j < n → ∃ g, A = some ⟨g, 0, none⟩ ∧ g < w.heap.size ∧ w'.cell? ⟨g, j, none⟩ = some (.int .i64 (f j : Int)) := by
  intro j hj
  obtain ⟨g, hA, hg, hc⟩ := h j hj
  exact ⟨g, hA, hg, (hb.cell (p := ⟨g, j, none⟩) (by show g < B; omega)).trans hc⟩

structure BackI (w : World) (p k : Nat) (xs : List It) (v : Value) (wr : World) : Prop where
  inv : Inv w.heap.size w p (allB (xs.take k)) wr
  own : wr.ownsRow w.heap.size 3 1 v k (endsV xs k)
/-- behind the Writer: a Reader at r -/
structure ReadI (W1 : World) (r : Nat) (T : ByteArray) (i : Nat) (wr : World) : Prop where
  bel : Below W1.heap.size W1 wr
  rd : Rd wr r T i 0
  low : W1.heap.size ≤ r
theorem ReadI.below {W1 wr w' : World} {r i : Nat} {T : ByteArray} (h : ReadI W1 r T i wr) (k : Below wr.heap.size wr w') : ReadI W1 r T i w' := ⟨h.bel.trans (k.mono h.bel.size), (k.block r (row_lt h.rd)).trans h.rd, h.low⟩
theorem ReadI.step {W1 wr w' : World} {r i j : Nat} {T : ByteArray} (h : ReadI W1 r T i wr) (k : Step wr w' r T j 0) : ReadI W1 r T j w' := ⟨h.bel.trans (step_low k h.low h.bel.size), k.1, h.low⟩

theorem allB_split (xs : List It) (k : Nat) (h : k < xs.length) : allB xs = allB (xs.take k) ++ (wrB xs[k] ++ allB (xs.drop (k + 1))) := by
  have h1 := allB_take xs k h
  have : allB xs = allB (xs.take (k + 1)) ++ allB (xs.drop (k + 1)) := by
    unfold allB; rw [← List.flatten_append, ← List.map_append, List.take_append_drop]
  rw [this, h1, List.append_assoc]
theorem endN_succ (xs : List It) (k : Nat) (h : k < xs.length) : endN xs (k + 1) = endN xs k + (wrB xs[k]).length := by
  unfold endN; rw [allB_take xs k h, List.length_append]
theorem endN_le (xs : List It) (k : Nat) : endN xs k ≤ (allB xs).length := by
  have : allB xs = allB (xs.take k) ++ allB (xs.drop k) := by
    unfold allB; rw [← List.flatten_append, ← List.map_append, List.take_append_drop]
  unfold endN; rw [this, List.length_append]; omega
theorem endN_all (xs : List It) : endN xs xs.length = (allB xs).length := by unfold endN; rw [List.take_length]
theorem drop_at (xs : List It) (k : Nat) (h : k < xs.length) : (S (allB xs)).data.toList.drop (endN xs k) = wrB xs[k] ++ allB (xs.drop (k + 1)) := by
  rw [S_list, allB_split xs k h]; unfold endN; rw [List.drop_left]

theorem endN_zero (xs : List It) : endN xs 0 = 0 := by simp [endN, allB]
theorem fit_ok {x : It} (h : x.ok) : (fitI x).ok := by
  unfold fitI; split
  · exact h
  · have := h.2.2.1
    unfold maxLen at this
    exact ⟨h.1, h.2.1, h.2.2.1, by show (x.t.size : Int) ≤ _; omega, by show _ ≤ (x.t.size : Int); omega⟩
theorem read_at (xs : List It) (k : Nat) (h : k < xs.length) (hok : xs[k].ok) : ∃ V T', gt (S (allB xs)) (endN xs k) 0 (fitI xs[k]) = ((V, T'), endN xs (k + 1), 0) ∧ isI xs[k] V T' := by
  obtain ⟨hI, hG⟩ := gt_is (drop_at xs k h) hok.2.1 (by have := hok.2.2.1; unfold maxLen at this; omega) (by rw [S_size]; exact endN_le xs k)
  rw [← endN_succ xs k h] at hG
  exact ⟨_, _, Prod.ext rfl hG, hI⟩

theorem cell_keep {w w' : World} {b o : Nat} {v : Value} (h : w.cell? ⟨b, o, none⟩ = some v) (k : Below w.heap.size w w') : w'.cell? ⟨b, o, none⟩ = some v := (k.cell (p := ⟨b, o, none⟩) (cell_lt h)).trans h
theorem rd_keep {w w' : World} {r i e : Nat} {s : ByteArray} (h : Rd w r s i e) (k : Below w.heap.size w w') : Rd w' r s i e := (k.block r (row_lt h)).trans h

theorem cut_of (cut : Int) (n : Nat) (h : n ≤ 1000000000000) : ∃ c : Nat, wrap64 ((IntKind.u64.wrap cut).tmod (IntKind.u64.wrap (wrap64 ((n : Int) + 1)))) = (c : Int) ∧ c ≤ n ∧ IntKind.u64.wrap (wrap64 ((n : Int) + 1)) ≠ 0 := by
  have h1 : wrap64 ((n : Int) + 1) = (n : Int) + 1 := by unfold RowKit.wrap64; omega
  have h2 : IntKind.u64.wrap ((n : Int) + 1) = (n : Int) + 1 := by
    have := wrap64U (n + 1) (by omega)
    unfold U at this
    rw [Int.natCast_add] at this
    exact this
  rw [h1, h2]
  have h3 : 0 ≤ IntKind.u64.wrap cut := by rw [IntKind.wrap_u64]; omega
  rw [Int.tmod_eq_emod_of_nonneg h3]
  have h4 := Int.emod_nonneg (IntKind.u64.wrap cut) (b := (n : Int) + 1) (by omega)
  have h5 := Int.emod_lt_of_pos (IntKind.u64.wrap cut) (b := (n : Int) + 1) (by omega)
  refine ⟨(IntKind.u64.wrap cut % ((n : Int) + 1)).toNat, ?_, by omega, by omega⟩
  have h6 : wrap64 (IntKind.u64.wrap cut % ((n : Int) + 1)) = IntKind.u64.wrap cut % ((n : Int) + 1) := by unfold RowKit.wrap64; omega
  rw [h6]; omega

theorem take_at (xs : List It) (k c : Nat) (h : k < xs.length) : ((S (allB xs)).extract 0 c).data.toList.drop (endN xs k) = (wrB xs[k]).take (c - endN xs k) ++ (allB (xs.drop (k + 1))).take (c - endN xs k - (wrB xs[k]).length) := by
  rw [Lib.extract_data, List.drop_zero, Nat.sub_zero, List.drop_take, drop_at xs k h, List.take_append]
theorem size_at (xs : List It) (c : Nat) : ((S (allB xs)).extract 0 c).size = min c (allB xs).length := by rw [ByteArray.size_extract, S_size]; omega
theorem read_at2 (xs : List It) (k c : Nat) (h : k < xs.length) (hok : xs[k].ok) (hc : endN xs (k + 1) ≤ c) : ∃ V T', gt ((S (allB xs)).extract 0 c) (endN xs k) 0 (fitI xs[k]) = ((V, T'), endN xs (k + 1), 0) ∧ isI xs[k] V T' := by
  have hs := endN_succ xs k h
  have hd := take_at xs k c h
  rw [List.take_of_length_le (by omega : (wrB xs[k]).length ≤ c - endN xs k)] at hd
  obtain ⟨hI, hG⟩ := gt_is hd hok.2.1 (by have := hok.2.2.1; unfold maxLen at this; omega) (by rw [size_at]; have := endN_le xs k; omega)
  rw [← hs] at hG
  exact ⟨_, _, Prod.ext rfl hG, hI⟩
theorem cut_at (xs : List It) (k c : Nat) (h : k < xs.length) (hok : xs[k].ok) (hk : endN xs k ≤ c) (hc : ¬ endN xs (k + 1) ≤ c) : gt ((S (allB xs)).extract 0 c) (endN xs k) 0 (fitI xs[k]) = ((0, ⟨#[]⟩), endN xs k, 8) := by
  have hs := endN_succ xs k h
  have hd := take_at xs k c h
  rw [show c - endN xs k - (wrB xs[k]).length = 0 by omega, List.take_zero, List.append_nil] at hd
  exact gt_cut hd (by omega) hok.2.1 (by have := hok.2.2.1; unfold maxLen at this; omega) (by rw [size_at]; have := endN_le xs k; omega)

set_option maxRecDepth 100000 in
set_option maxHeartbeats 4000000 in
theorem wireBack_walk (A : Option Addr) (cap : Nat) (xs : List It) (cut : Int) (w : World) (hx : Items w A xs w.heap.size) (hl : xs.length ≤ cap) (hcap : cap ≤ maxLen) (hcut : (Lit.int .i64 cut).wf = true) :
    Calls Try.prog 6 #[.slice A xs.length cap, .int .i64 cut] w fun e w' => e = .returned (.bool true) ∧ Below w.heap.size w w' := by
  have HX := Lib.hid hx; clear hx
  have HH : Hid (∀ W, Below w.heap.size w W → Calls Try.prog 35 #[.string ⟨#[]⟩, .slice A xs.length cap] W fun e w' => e = .returned (.bool (decide (20000 ≤ tot xs))) ∧ W = w') := fun W hb => by
    have h := heavy_any ⟨#[]⟩ A cap xs W (by unfold maxLen; decide) (fun i hi => by
      obtain ⟨b, off, h1, h2, h3⟩ := HX.out.below hb i hi
      exact ⟨b, off, h1, by have := hb.size; omega, h3⟩) hl hcap
    have e : (ByteArray.mk #[]).size + tot xs = tot xs := Nat.zero_add _
    rw [e] at h; exact h
  have hcb : -9223372036854775808 ≤ cut ∧ cut ≤ 9223372036854775807 := by
    simp [Lit.wf, IntKind.min, IntKind.max, IntKind.bits, IntKind.signed] at hcut
    omega
  have HCB := Lib.hid hcb; clear hcb hcut
  by_cases hv : 20000 ≤ tot xs
  · rw [decide_eq_true hv] at HH
    clear hv
    go_enter Try.func6, Try.ntmps6
    go_wp2_with fail
    refine (works_any w).mono ?_; rintro e w1 ⟨rfl, hb1⟩
    go_wp2_with fail
    refine (HH.out w1 hb1).mono ?_; rintro e w2 ⟨rfl, rfl⟩
    go_wp2_with fail
    refine (carry hb1 (works_any w1)).mono ?_; rintro e w2 ⟨rfl, hb2⟩
    go_wp2_with fail
    go_ret
    exact ⟨rfl, hb2⟩
  · rw [decide_eq_false hv] at HH
    have HT : Hid (tot xs < 20000) := by show _ < _; omega
    clear hv
    have hlen : xs.length ≤ 9223372036854775807 := by unfold maxLen at hcap; omega
    have HXL : Hid (xs.length < 20000) := by
      have : ∀ ys : List It, ys.length ≤ tot ys := by
        intro ys; unfold tot
        induction ys with
        | nil => simp
        | cons y ys ih => simp only [List.length_cons, List.map_cons, List.sum_cons]; omega
      have := this xs; have := HT.out; show _ < _; omega
    obtain ⟨i0, hi, hz0, hz1, hz2⟩ := info_parts info3
    have HI0 := Lib.hid hi; have HZ0 := Lib.hid hz0; have HZ1 := Lib.hid hz1; have HZ2 := Lib.hid hz2
    clear hi hz0 hz1 hz2
    have u0 : U 0 = 0 := rfl
    go_enter Try.func6, Try.ntmps6
    go_wp2_with fail
    refine (works_any w).mono ?_; rintro e w1 ⟨rfl, hb1⟩
    go_wp2_with fail
    refine (HH.out w1 hb1).mono ?_; rintro e w2 ⟨rfl, rfl⟩
    have HB0 : Hid (BackI w w1.heap.size 0 xs (.slice none 0 0) (w1.alloc (.cells #[.pointer none, .int .i64 0] 38))) :=
      ⟨⟨hb1.alloc hb1.size _, Wr.new hb1.size⟩, World.ownsRow_nil _ _ _ _⟩
    clear hb1
    go_wp2_with fail
    generalize w1.heap.size = p at *
    go_loopw [6, 7] (fun v t wr => ∃ k : Nat, k ≤ xs.length ∧ t = .int .i64 k ∧ Hid (BackI w p k xs v wr)) (fun _ t _ => xs.length - (intOf t).toNat)
    case atStart => exact ⟨0, Nat.zero_le _, rfl, HB0⟩
    case round =>
      obtain ⟨k, hk, rfl, HBk⟩ := hrel
      by_cases hlt : k < xs.length
      · have HXr := Lib.hid (HX.out.below HBk.out.inv.bel)
        obtain ⟨b, off, hA, hB, c0, c1, c2, c3, hok⟩ := HXr.out k hlt
        have HOK := Lib.hid hok
        have HLI := Lib.hid (light xs k hlt HT.out)
        have HAB := Lib.hid (allB_take xs k hlt)
        have HSM := Lib.hid (allB_small xs HT.out k hk)
        have HES := Lib.hid (endsV_succ xs k)
        have HK20 : Hid (k < 20000) := by have := HXL.out; show _ < _; omega
        subst hA
        clear hok hB
        generalize hX : xs[k] = x at *
        have HXk := Lib.hid hX; clear hX
        have hk0 : (0 : Int) ≤ (k : Int) := by omega
        have hk1 : (k : Int) < (xs.length : Int) := by omega
        go_wp2_with fail
        refine (lput_any wr w.heap.size p (allB (xs.take k)) x HBk.out.inv.wr HOK.out (by have := HSM.out; have := HLI.out; omega)).mono ?_; rintro e w2 ⟨rfl, h1, o1⟩
        rw [← HAB.out] at h1
        have HI2 := Lib.hid (HBk.out.inv.put h1 o1)
        have HO2 := Lib.hid (own_only HBk.out.own o1)
        clear h1 o1 c0 c1 c2 c3
        go_wp2_with fail
        refine (len_any w2 w.heap.size p _ HI2.out.wr).mono ?_; rintro e w3 ⟨rfl, rfl⟩
        have HEN : Hid ((allB (xs.take (k + 1))).length = endN xs (k + 1)) := rfl
        rw [HEN.out]
        go_wp2_with (at_builtin; refine wpList_append_own _ rfl (.tmp 42) (.tmp 45) 65 rfl w.heap.size 3 i0 (.int .i64 0) 1 8 Try.underlying65 HI0.out HZ0.out HZ1.out HZ2.out rfl (by decide) _ k _ rfl (HO2.out.alloc _) ⟨w2.heap.size, 0, none⟩ 1 1 [.int .i64 (endN xs (k + 1) : Int)] rfl rfl ?c1 ?c2 ?c3 ?c4 ?c5 ?_)
        case c1 =>
          intro j u hj
          match j, hj with
          | 0, hj => simp at hj; subst hj; simp [Addr.add]
        case c2 => intro u hu; simp at hu; subst hu; rfl
        case c3 => have := HK20.out; unfold maxLen; simp; omega
        case c4 => have := HK20.out; simp; omega
        case c5 => have := HI2.out.wr.low; simp; omega
        · intro v' w1' hown hgrow hz
          rw [← HES.out] at hown
          have HB2 : Hid (BackI w p (k + 1) xs v' w1') := ⟨inv_append (HI2.out.alloc _) (HO2.out.alloc _) hgrow, hown⟩
          clear hown hgrow hz
          go_wp2_with fail
          go_roundw
          case rel => exact ⟨k + 1, by omega, by go_num, HB2⟩
          case measure => simp [intOf] <;> omega
      · obtain rfl : k = xs.length := by omega
        have HBk2 := Lib.hid HBk.out
        obtain ⟨E, ec, hE, hec, hends⟩ := ends_of HBk.out.own
        have HEN := Lib.hid hends; clear hends
        subst hE
        have HSZ := Lib.hid (allB_small xs HT.out xs.length (Nat.le_refl _))
        rw [List.take_length] at HSZ
        go_wp2_with fail
        refine (bytes_any wr w.heap.size p _ (by have h := HBk.out.inv.wr; rw [List.take_length] at h; exact h)).mono ?_; rintro z w2 ⟨rfl, n2, rfl⟩
        have HTS : Hid ((S (allB xs)).size ≤ 1000000000000) := by rw [S_size]; have := HSZ.out; show _ ≤ _; omega
        generalize hT : S (allB xs) = T at *
        have HTe := Lib.hid hT; clear hT
        have HB1 : Hid (Below w.heap.size w (wr.drewN n2)) := (HBk.out.inv.drewN n2).bel
        have HEN1 : Hid (Ends (wr.drewN n2) E xs.length (fun j => endN xs (j + 1))) := HEN.out
        clear HEN HBk HBk2
        generalize wr.drewN n2 = W1 at *
        go_wp2_with fail
        refine (new_any T W1).mono ?_; rintro z w2 ⟨rfl, rfl⟩
        have HR0 : Hid (ReadI W1 W1.heap.size T (endN xs 0) (W1.alloc (.cells (rdS T 0 0) 73))) :=
          ⟨(Below.refl _ _).alloc (Nat.le_refl _) _, by rw [endN_zero]; exact Rd.new T W1, Nat.le_refl _⟩
        go_wp2_with fail
        generalize W1.heap.size = r at *
        go_loopw [10] (fun t wr => ∃ k : Nat, k ≤ xs.length ∧ t = .int .i64 k ∧ Hid (ReadI W1 r T (endN xs k) wr)) (fun t _ => xs.length - (intOf t).toNat)
        case atStart => exact ⟨0, Nat.zero_le _, rfl, HR0⟩
        case round =>
          rename_i wl al
          obtain ⟨k, hk, rfl, HRk⟩ := hrel
          by_cases hlt : k < xs.length
          · have HBw := Lib.hid (HB1.out.trans (HRk.out.bel.mono HB1.out.size))
            have HXr := Lib.hid (HX.out.below HBw.out)
            obtain ⟨b, off, hA, hB, c0, c1, c2, c3, hok⟩ := HXr.out k hlt
            obtain ⟨g, hE, hg, ce⟩ := HEN1.out.below HRk.out.bel (Nat.le_refl _) k hlt
            have HOK := Lib.hid hok
            have HBb := Lib.hid hB
            have HGb := Lib.hid hg
            subst hA hE
            have HG := Lib.hid (read_at xs k hlt hok)
            rw [HTe.out] at HG
            have HLE : Hid (endN xs k ≤ T.size) := by rw [← HTe.out, S_size]; exact endN_le xs k
            clear hok hB hg
            generalize hX : xs[k] = x at *
            have HXk := Lib.hid hX; clear hX
            obtain ⟨V, T', hG, hI⟩ := HG.out
            have HG2 := Lib.hid hG; have HIS := Lib.hid hI; clear hG hI HG
            have hk0 : (0 : Int) ≤ (k : Int) := by omega
            have hk1 : (k : Int) < (xs.length : Int) := by omega
            have C0 := Lib.hid c0; have C1 := Lib.hid c1; have C2 := Lib.hid c2; have C3 := Lib.hid c3; have CE := Lib.hid ce
            clear ce
            go_wp2_with fail
            refine (lfits_any x _ HOK.out).mono ?_; rintro z w2 ⟨rfl, hb2⟩
            have HR2 := Lib.hid (HRk.out.below hb2)
            have HF2 := Lib.hid hb2; clear hb2
            go_wp2_with fail
            refine (lget_any r T (endN xs k) 0 (fitI x) w2 HR2.out.rd HLE.out HTS.out (fit_ok HOK.out)).mono ?_; rintro z w3 ⟨rfl, hst⟩
            rw [HG2.out] at hst ⊢
            have HR3 := Lib.hid (HR2.out.step hst)
            clear hst c0 c1 c2 c3 HF2
            have mv : ∀ {c o : Nat} {u : Value}, c < W1.heap.size → wr.cell? ⟨c, o, none⟩ = some u → w3.cell? ⟨c, o, none⟩ = some u := fun hc h =>
              (HR3.out.bel.cell (p := ⟨_, _, none⟩) hc).trans ((HRk.out.bel.cell (p := ⟨_, _, none⟩) hc).symm.trans h)
            have HBl : b < W1.heap.size := Nat.lt_of_lt_of_le HBb.out HB1.out.size
            have c0 := mv HBl C0.out; have c1 := mv HBl C1.out; have c2 := mv HBl C2.out; have c3 := mv HBl C3.out; have ce := mv HGb.out CE.out
            have hrd := HR3.out.rd
            clear mv HBl
            have HI' : Hid (∀ W, Calls Try.prog 43 #[.agg #[.int .u8 (x.k : Int), .int .u64 (U x.n), .string x.t, .int .i64 x.m], .int .u64 (U V), .string T'] W fun z w' => z = .returned (.bool true) ∧ Below W.heap.size W w') := fun W => lis_any x V T' W HOK.out HIS.out
            have HAt : Hid (∀ W, Rd W r T (endN xs (k + 1)) 0 → Calls Try.prog 29 #[.pointer (some ⟨r, 0, none⟩)] W fun z w' => z = .returned (.int .i64 (endN xs (k + 1) : Nat)) ∧ W = w') := fun W h => at_any r T _ 0 W h
            generalize hN : endN xs (k + 1) = N at *
            have HN := Lib.hid hN; clear hN
            generalize T' = Y at *
            go_wp2_with fail
            go_region_held3 (fun w' => w'.cell? ⟨b, off + k * 4, none⟩ = some (.int .u8 (x.k : Int)) ∧ w'.cell? ⟨b, off + k * 4 + 1, none⟩ = some (.int .u64 (U x.n)) ∧ w'.cell? ⟨b, off + k * 4 + 2, none⟩ = some (.string x.t) ∧ w'.cell? ⟨b, off + k * 4 + 3, none⟩ = some (.int .i64 x.m) ∧ w'.cell? ⟨g, k, none⟩ = some (.int .i64 (N : Int)) ∧ Rd w' r T N 0)
              (first | assumption | (refine ⟨?_, ?_, ?_, ?_, ?_, ?_⟩ <;> assumption) | go_keep)
              ((first | (go_at_call 29; refine (HAt.out _ (by assumption)).mono ?_; rintro z w' ⟨rfl, rfl⟩) | (go_at_call 43; refine (HI'.out _).mono ?_; rintro z w' ⟨rfl, hb4⟩; (have e1 : w'.cell? ⟨b, off + k * 4, none⟩ = some (.int .u8 (x.k : Int)) := cell_keep (by assumption) hb4); (have e2 : w'.cell? ⟨b, off + k * 4 + 1, none⟩ = some (.int .u64 (U x.n)) := cell_keep (by assumption) hb4); (have e3 : w'.cell? ⟨b, off + k * 4 + 2, none⟩ = some (.string x.t) := cell_keep (by assumption) hb4); (have e4 : w'.cell? ⟨b, off + k * 4 + 3, none⟩ = some (.int .i64 x.m) := cell_keep (by assumption) hb4); (have e5 : w'.cell? ⟨g, k, none⟩ = some (.int .i64 (N : Int)) := cell_keep (by assumption) hb4); (have e6 : Rd w' r T N 0 := rd_keep (by assumption) hb4))))
            all_goals
              have HR4 := Lib.hid (HR3.out.below (below_drew hb4))
              clear hb4 e1 e2 e3 e4 e5 e6
              go_wp2_with fail
              go_roundw
              case rel => exact ⟨k + 1, by omega, by go_num, by rw [HN.out]; exact HR4⟩
              case measure => simp [intOf] <;> omega
          · obtain rfl : k = xs.length := by omega
            have HNA : Hid (endN xs xs.length = T.size) := by rw [← HTe.out, S_size]; exact endN_all xs
            rw [HNA.out] at HRk
            have hee : endE T T.size 0 = 0 := by unfold endE; simp
            have hsub : (T.size : Int) - (T.size : Int) = 0 := by omega
            go_wp2_with fail
            refine (end_any r T T.size 0 _ HRk.out.rd (Nat.le_refl _) HTS.out).mono ?_; rintro z w2 ⟨rfl, n3, rfl⟩
            rw [hee]
            go_wp2_with fail
            refine (left_any r T T.size 0 (wr.drewN n3) HRk.out.rd (Nat.le_refl _) HTS.out).mono ?_; rintro z w2 ⟨rfl, n4, rfl⟩
            rw [hsub]
            clear hee hsub
            obtain ⟨c, hc, hcT, hnz⟩ := cut_of cut T.size (by have := HTS.out; exact this)
            have hc0 : (0 : Int) ≤ (c : Int) := by omega
            have hc1 : (c : Int) ≤ (T.size : Int) := by omega
            have HCT := Lib.hid hcT
            have hnz2 : (IntKind.u64.wrap (wrap64 ((T.size : Int) + 1)) == 0) = false := by rw [beq_eq_false_iff_ne]; exact hnz
            clear hcT
            go_wp2_with fail
            rw [hc]
            clear hc hnz hnz2
            have HB2 : Hid (Below w.heap.size w (wr.drewN (n3 + n4))) := by
              have h := HB1.out.trans (HRk.out.bel.mono HB1.out.size)
              exact ⟨h.os, h.tape, h.output, h.size, h.block⟩
            have HEN2 : Hid (Ends (wr.drewN (n3 + n4)) E xs.length (fun j => endN xs (j + 1))) := by
              intro j hj
              obtain ⟨g, h1, h2, h3⟩ := HEN1.out.below HRk.out.bel (Nat.le_refl _) j hj
              exact ⟨g, h1, Nat.lt_of_lt_of_le h2 HRk.out.bel.size, h3⟩
            clear HEN1 HRk HR0
            generalize wr.drewN (n3 + n4) = W2 at *
            have HSZ2 : Hid ((T.extract 0 c).size = c) := by have := HCT.out; show _ = _; rw [ByteArray.size_extract]; omega
            have HTS2 : Hid ((T.extract 0 c).size ≤ 1000000000000) := by rw [HSZ2.out]; have := HTS.out; have := HCT.out; show _ ≤ _; omega
            have HRD : Hid (∀ (k : Nat) (h : k < xs.length), xs[k].ok → endN xs (k + 1) ≤ c → ∃ V T', gt (T.extract 0 c) (endN xs k) 0 (fitI xs[k]) = ((V, T'), endN xs (k + 1), 0) ∧ isI xs[k] V T') := by
              intro k h ho hle; have := read_at2 xs k c h ho hle; rw [HTe.out] at this; exact this
            have HCU : Hid (∀ (k : Nat) (h : k < xs.length), xs[k].ok → endN xs k ≤ c → ¬ endN xs (k + 1) ≤ c → gt (T.extract 0 c) (endN xs k) 0 (fitI xs[k]) = ((0, ⟨#[]⟩), endN xs k, 8)) := by
              intro k h ho hle hn; have := cut_at xs k c h ho hle hn; rw [HTe.out] at this; exact this
            have HALL : Hid (endN xs xs.length = T.size) := HNA.out
            clear HTe HNA HTS
            generalize T.extract 0 c = T2 at *
            refine (new_any T2 W2).mono ?_; rintro z w2 ⟨rfl, rfl⟩
            have HR0 : Hid (ReadI W2 W2.heap.size T2 (endN xs 0) (W2.alloc (.cells (rdS T2 0 0) 73))) :=
              ⟨(Below.refl _ _).alloc (Nat.le_refl _) _, by rw [endN_zero]; exact Rd.new T2 W2, Nat.le_refl _⟩
            have HLZ : Hid (endN xs 0 ≤ c) := by rw [endN_zero]; exact Nat.zero_le _
            have HEZ : Hid (endN xs 0 = 0) := endN_zero xs
            go_wp2_with fail
            generalize W2.heap.size = r2 at *
            go_loopw [15, 16] (fun u t wr => ∃ k : Nat, k ≤ xs.length ∧ u = .int .i64 (endN xs k : Nat) ∧ t = .int .i64 k ∧ Hid (endN xs k ≤ c) ∧ Hid (ReadI W2 r2 T2 (endN xs k) wr)) (fun _ t _ => xs.length - (intOf t).toNat)
            case atStart => exact ⟨0, Nat.zero_le _, by rw [HEZ.out]; rfl, rfl, HLZ, HR0⟩
            case round =>
              obtain ⟨k, hk, rfl, rfl, HLc, HRk⟩ := hrel
              by_cases hlt : k < xs.length
              · have HBw := Lib.hid (HB2.out.trans (HRk.out.bel.mono HB2.out.size))
                have HXr := Lib.hid (HX.out.below HBw.out)
                obtain ⟨b, off, hA, hB, c0, c1, c2, c3, hok⟩ := HXr.out k hlt
                obtain ⟨g, hE, hg, ce⟩ := HEN2.out.below HRk.out.bel (Nat.le_refl _) k hlt
                have HOK := Lib.hid hok
                have HBb := Lib.hid hB
                have HGb := Lib.hid hg
                subst hA hE
                have HRDk := Lib.hid (HRD.out k hlt hok)
                have HCUk := Lib.hid (HCU.out k hlt hok HLc.out)
                have HLE : Hid (endN xs k ≤ T2.size) := by rw [HSZ2.out]; exact HLc.out
                clear hok hB hg
                generalize hX : xs[k] = x at *
                have HXk := Lib.hid hX; clear hX
                have hk0 : (0 : Int) ≤ (k : Int) := by omega
                have hk1 : (k : Int) < (xs.length : Int) := by omega
                have C0 := Lib.hid c0; have C1 := Lib.hid c1; have C2 := Lib.hid c2; have C3 := Lib.hid c3; have CE := Lib.hid ce
                clear ce
                go_wp2_with fail
                refine (lfits_any x _ HOK.out).mono ?_; rintro z w2 ⟨rfl, hb2⟩
                have HR2 := Lib.hid (HRk.out.below hb2)
                clear hb2
                have HBl : Hid (b < W2.heap.size) := Nat.lt_of_lt_of_le HBb.out HB2.out.size
                by_cases hle : endN xs (k + 1) ≤ c
                · obtain ⟨V, T', hG, hI⟩ := HRDk.out hle
                  have HG2 := Lib.hid hG; have HIS := Lib.hid hI; clear hG hI
                  have HL2 := Lib.hid hle
                  clear hle
                  go_wp2_with fail
                  refine (lget_any r2 T2 (endN xs k) 0 (fitI x) w2 HR2.out.rd HLE.out HTS2.out (fit_ok HOK.out)).mono ?_; rintro z w3 ⟨rfl, hst⟩
                  rw [HG2.out] at hst ⊢
                  have HR3 := Lib.hid (HR2.out.step hst)
                  clear hst c0 c1 c2 c3
                  have mv : ∀ (W : World) (d o : Nat) (u : Value), Below W2.heap.size W2 W → d < W2.heap.size → wr.cell? ⟨d, o, none⟩ = some u → W.cell? ⟨d, o, none⟩ = some u := fun _ _ _ _ hb hc h =>
                    (hb.cell (p := ⟨_, _, none⟩) hc).trans ((HRk.out.bel.cell (p := ⟨_, _, none⟩) hc).symm.trans h)
                  have c0 := mv _ _ _ _ HR3.out.bel HBl.out C0.out; have c1 := mv _ _ _ _ HR3.out.bel HBl.out C1.out; have c2 := mv _ _ _ _ HR3.out.bel HBl.out C2.out; have c3 := mv _ _ _ _ HR3.out.bel HBl.out C3.out; have ce := mv _ _ _ _ HR3.out.bel HGb.out CE.out
                  have MV := Lib.hid mv
                  clear mv
                  generalize hN : endN xs (k + 1) = N at *
                  have HN := Lib.hid hN; clear hN
                  have hNc : ((c : Int) < (N : Int)) = False := by have := HL2.out; simp; omega
                  go_wp2_with fail
                  refine (lis_any x V T' w3 HOK.out HIS.out).mono ?_; rintro z w4 ⟨rfl, hb4⟩
                  have HR4 := Lib.hid (HR3.out.below hb4)
                  clear hb4
                  have ce4 := MV.out _ _ _ _ HR4.out.bel HGb.out CE.out
                  go_wp2_with fail
                  go_roundw
                  case rel => exact ⟨k + 1, by omega, by rw [HN.out], by go_num, by rw [HN.out]; exact HL2, by rw [HN.out]; exact HR4⟩
                  case measure => simp [intOf] <;> omega
                · have HG2 := Lib.hid (HCUk.out hle)
                  have hNc : ((c : Int) < (endN xs (k + 1) : Int)) := by omega
                  clear hle
                  go_wp2_with fail
                  refine (lget_any r2 T2 (endN xs k) 0 (fitI x) w2 HR2.out.rd HLE.out HTS2.out (fit_ok HOK.out)).mono ?_; rintro z w3 ⟨rfl, hst⟩
                  rw [HG2.out] at hst ⊢
                  have HR3 := Lib.hid hst
                  have HB3 : Hid (Below w.heap.size w w3) := HB2.out.trans ((HR2.out.bel.trans (step_low hst HR2.out.low HR2.out.bel.size)).mono HB2.out.size)
                  have ce2 : w3.cell? ⟨g, k, none⟩ = some (.int .i64 (endN xs (k + 1) : Nat)) :=
                    ((HR2.out.bel.trans (step_low hst HR2.out.low HR2.out.bel.size)).cell (p := ⟨_, _, none⟩) HGb.out).trans ((HRk.out.bel.cell (p := ⟨_, _, none⟩) HGb.out).symm.trans CE.out)
                  clear hst c0 c1 c2 c3
                  have HEA : Hid (errAt (endN xs k) 8 = endN xs k) := if_neg (by decide)
                  go_wp2_with fail
                  refine (err_any r2 T2 (endN xs k) 8 w3 HR3.out.1).mono ?_; rintro z w5 ⟨rfl, n5, rfl⟩
                  rw [HEA.out]
                  go_wp2_with fail
                  refine (at_any r2 T2 (endN xs k) 8 (w3.drewN n5) HR3.out.1).mono ?_; rintro z w5 ⟨rfl, rfl⟩
                  go_wp2_with fail
                  go_ret
                  exact ⟨rfl, HB3.out.os, HB3.out.tape, HB3.out.output, HB3.out.size, HB3.out.block⟩
              · obtain rfl : k = xs.length := by omega
                have HLast : Hid (endN xs xs.length = T2.size) := by have := HLc.out; have := HSZ2.out; have := HALL.out; have := HCT.out; show _ = _; omega
                rw [HLast.out] at HRk
                have hee : endE T2 T2.size 0 = 0 := by unfold endE; simp
                have HB3 := Lib.hid (HB2.out.trans (HRk.out.bel.mono HB2.out.size))
                go_wp2_with fail
                refine (end_any r2 T2 T2.size 0 _ HRk.out.rd (Nat.le_refl _) HTS2.out).mono ?_; rintro z w2 ⟨rfl, n5, rfl⟩
                rw [hee]
                go_wp2_with fail
                go_ret
                exact ⟨rfl, HB3.out.os, HB3.out.tape, HB3.out.output, HB3.out.size, HB3.out.block⟩

end Go.Proofs.Ytdllncbacbpedaa.Wire
