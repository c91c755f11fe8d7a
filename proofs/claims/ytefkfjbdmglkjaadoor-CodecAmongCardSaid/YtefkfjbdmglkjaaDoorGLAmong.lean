import Derived.Test.YtefkfjbdmglkjaaDoorGLUnlike
import Derived.Test.YtefkfjbdmglkjaaDoorEF
import Derived.Deep.RegionHeld3
/-
  The walk of the statement CodecAmong.
-/
namespace Go.Proofs.YtefkfjbdmglkjaaDoor.Codec
open Go Go.RowKit
open Go.Proofs.YtefkfjbdmglkjaaDoor.Wire (Wr Only Rd Step U cell_row rdS fxV shR txR tkI tkE tkT len_any raw_any bytes_any new_any rraw_any left_any size_list)
open Go.Proofs.YtefkfjbdmglkjaaDoor.Schema

/-- what weight says, and that it is not nothing -/
def Weight1 (w : World) (e : Ev) (z : Ending) (w' : World) : Prop := ∃ n : Nat, z = .returned (.int .i64 (n : Int)) ∧ n ≤ 2000 ∧ 1 ≤ n ∧ (n < 2000 → e.ns.length < 2000 ∧ e.ts.length < 2000) ∧ Below w.heap.size w w'
set_option maxRecDepth 100000 in
set_option maxHeartbeats 1000000 in
theorem weight1_any (A : Option Addr) (ca : Nat) (B : Option Addr) (cb : Nat) (e : Ev) (hl : e.ns.length ≤ 140737488355328) (hm : e.ts.length ≤ 140737488355328) (w : World) (hA : EvAt w A ca B cb e) :
    Calls Tryd.prog 20 #[evV A ca B cb e] w (Weight1 w e) := by
  have HTs := Lib.hid hA.ts
  have HTx := Lib.hid hA.txt
  clear hA
  obtain ⟨v, k, ns, ts⟩ := e
  simp only [evV] at *
  have hb := (Below.refl w.heap.size w).alloc (Nat.le_refl _) (.cells #[.int .u8 v, .int .u8 k, .slice A ns.length ca, .slice B ts.length cb] 26)
  have HB := Lib.hid hb
  have HP4 := Lib.hid (show Four _ w.heap.size _ _ _ _ from box4 w (.int .u8 v) (.int .u8 k) (.slice A ns.length ca) (.slice B ts.length cb) 26)
  clear hb
  have hmin1 : min (2000 : Int) (ns.length : Int) = ((min 2000 ns.length : Nat) : Int) := by omega
  have hmin2 : min (2000 : Int) (ts.length : Int) = ((min 2000 ts.length : Nat) : Int) := by omega
  obtain ⟨m1, hm1⟩ : ∃ m, min 2000 ns.length = m := ⟨_, rfl⟩
  obtain ⟨m2, hm2⟩ : ∃ m, min 2000 ts.length = m := ⟨_, rfl⟩
  rw [hm1] at hmin1
  rw [hm2] at hmin2
  have hq1 : m1 ≤ 2000 := by omega
  have hq2 : m2 ≤ 2000 := by omega
  have HM1 := Lib.hid (show m1 < 2000 → ns.length < 2000 from by omega)
  have HM2 := Lib.hid (show m2 < 2000 → ts.length < 2000 from by omega)
  clear hm1 hm2
  go_enter Tryd.func20, Tryd.ntmps20
  go_upto_region 1 with (fail)
  generalize w.alloc (.cells #[.int .u8 v, .int .u8 k, .slice A ns.length ca, .slice B ts.length cb] 26) = W at HB HP4 ⊢
  obtain ⟨p0, p1, p2, p3⟩ := HP4.out
  go_wp2_with fail
  clear hmin1 hmin2 p0 p1 p2 p3
  go_loop [3, 4] (fun x i => ∃ j n : Nat, j ≤ ts.length ∧ i = .int .i64 j ∧ x = .int .i64 n ∧ n ≤ 4001 ∧ Hid (1 + m1 + m2 ≤ n)) (fun _ i => ts.length - (intOf i).toNat)
  case atStart => exact ⟨0, 1 + m1 + m2, Nat.zero_le _, rfl, by congr 1 <;> omega, by omega, Lib.hid (Nat.le_refl _)⟩
  case round =>
    obtain ⟨j, n, hj, rfl, rfl, hn, HN⟩ := hrel
    obtain ⟨p0, p1, p2, p3⟩ := HP4.out
    by_cases hlt : j < ts.length
    · have z0 : (0 : Int) ≤ (j : Int) := by omega
      have z1 : (j : Int) < (ts.length : Int) := by omega
      by_cases hq : n < 2000
      · have z2 : (n : Int) < 2000 := by omega
        obtain ⟨b, o, rfl, c0⟩ := (HTs.out.below HB.out) j _ (texts_at ts j hlt)
        have hsz := mem_getD HTx.out j
        generalize ts.getD j ByteArray.empty = x at c0 hsz
        unfold maxLen at hsz
        have hmin : min (2000 : Int) (x.size : Int) = ((min 2000 x.size : Nat) : Int) := by omega
        obtain ⟨m, hm⟩ : ∃ m, min 2000 x.size = m := ⟨_, rfl⟩
        rw [hm] at hmin
        have hmm : m ≤ 2000 := by omega
        clear hm
        go_wp2_with fail
        go_round
        case rel => exact ⟨j + 1, n + m, by omega, by go_num, by congr 1 <;> omega, by omega, Lib.hid (by have := HN.out; omega)⟩
        case measure => simp [intOf] <;> omega
      · have z2 : decide ((n : Int) < 2000) = false := decide_eq_false (by omega)
        have hmin : min (n : Int) 2000 = ((min n 2000 : Nat) : Int) := by omega
        obtain ⟨m, hm⟩ : ∃ m, min n 2000 = m := ⟨_, rfl⟩
        rw [hm] at hmin
        have HMM := Lib.hid hm
        clear hm
        go_wp2_with fail
        go_ret
        exact ⟨m, rfl, by have := HMM.out; omega, by have := HMM.out; have := HN.out; omega, fun h => ⟨HM1.out (by have := HMM.out; have := HN.out; omega), HM2.out (by have := HMM.out; have := HN.out; omega)⟩, HB.out⟩
    · have z1 : decide ((j : Int) < (ts.length : Int)) = false := decide_eq_false (by omega)
      have z3 : ¬ (j : Int) < (ts.length : Int) := by omega
      have hmin : min (n : Int) 2000 = ((min n 2000 : Nat) : Int) := by omega
      obtain ⟨m, hm⟩ : ∃ m, min n 2000 = m := ⟨_, rfl⟩
      rw [hm] at hmin
      have HMM := Lib.hid hm
      clear hm
      go_wp2_with fail
      go_ret
      exact ⟨m, rfl, by have := HMM.out; omega, by have := HMM.out; have := HN.out; omega, fun h => ⟨HM1.out (by have := HMM.out; have := HN.out; omega), HM2.out (by have := HMM.out; have := HN.out; omega)⟩, HB.out⟩

/-! ### the events that may be, and their bytes -/
def goodL (xs : List Lx) : List Lx := xs.filter fun x => may x.e
def flatB (xs : List Lx) : List UInt8 := xs.flatMap fun x => putB x.e
theorem goodL_yes (xs : List Lx) (k : Nat) (h : k < xs.length) (hm : may xs[k].e = true) : goodL (xs.take (k + 1)) = goodL (xs.take k) ++ [xs[k]] := by
  unfold goodL
  rw [List.take_succ_eq_append_getElem h, List.filter_append, List.filter_cons_of_pos (by exact hm)]; rfl
theorem goodL_no (xs : List Lx) (k : Nat) (h : k < xs.length) (hm : may xs[k].e = false) : goodL (xs.take (k + 1)) = goodL (xs.take k) := by
  unfold goodL
  rw [List.take_succ_eq_append_getElem h, List.filter_append, List.filter_cons_of_neg (by rw [hm]; decide)]; simp
theorem flatB_snoc (xs : List Lx) (k : Nat) (h : k < xs.length) : flatB (xs.take (k + 1)) = flatB (xs.take k) ++ putB xs[k].e := by
  unfold flatB
  rw [List.take_succ_eq_append_getElem h, List.flatMap_append]; simp
theorem flatB_good (xs : List Lx) : flatB (goodL xs) = flatB xs := by
  unfold flatB goodL
  induction xs with
  | nil => rfl
  | cons x xs ih =>
    rw [List.flatMap_cons]
    by_cases hm : may x.e = true
    · rw [List.filter_cons_of_pos (by exact hm), List.flatMap_cons, ih]
    · rw [List.filter_cons_of_neg (by exact hm), ih]
      unfold putB
      rw [if_neg hm]; rfl
theorem good_len (xs : List Lx) : (goodL xs).length ≤ xs.length := List.length_filter_le _ _
theorem good_mem {xs : List Lx} {x : Lx} (h : x ∈ goodL xs) : x ∈ xs ∧ may x.e = true := List.mem_filter.1 h
theorem nsB_le (xs : List Int) : (nsB xs).length ≤ 11 * xs.length := nsB_len xs
theorem tsB_le {e : Ev} (h : may e = true) : (tsB e.ts).length ≤ 40 := by
  have hl := (may_lens h).2
  have ht := may_text h
  match hts : e.ts with
  | [] => exact Nat.zero_le _
  | [t] =>
    have h1 := ht 0 (by rw [hts]; simp)
    rw [hts] at h1
    simp only [List.getD_cons_zero] at h1
    unfold tsB
    rw [List.flatMap_cons, List.flatMap_nil, List.append_nil, textB_len]
    have := Wire.shortB_le t.size
    omega
  | a :: b :: r => rw [hts] at hl; simp at hl
theorem bare_le {e : Ev} (h : may e = true) : (bare e).length ≤ 300 := by
  unfold bare
  rw [List.length_append, List.length_append, Wire.fixB_length]
  have h1 := nsB_le e.ns
  have h2 := (may_lens h).1
  have h3 := tsB_le h
  omega
theorem putB_le (e : Ev) : (putB e).length ≤ 300 := by
  unfold putB
  split
  · rename_i h; exact bare_le h
  · exact Nat.zero_le _
theorem flatB_le (xs : List Lx) : (flatB xs).length ≤ 300 * xs.length := by
  unfold flatB
  induction xs with
  | nil => exact Nat.zero_le _
  | cons x xs ih => rw [List.flatMap_cons, List.length_append, List.length_cons]; have := putB_le x.e; omega
theorem flatB_split (xs : List Lx) (k : Nat) (h : k < xs.length) : flatB xs = flatB (xs.take k) ++ (putB xs[k].e ++ flatB (xs.drop (k + 1))) := by
  have h1 := flatB_snoc xs k h
  have h2 : flatB xs = flatB (xs.take (k + 1)) ++ flatB (xs.drop (k + 1)) := by
    unfold flatB; rw [← List.flatMap_append, List.take_append_drop]
  rw [h2, h1, List.append_assoc]

/-- what is told of the events of a row that may be, said one behind the other among other things -/
def allA (s t : ByteArray) (xs : List Lx) : ByteArray := Wire.S (s.data.toList ++ flatB xs ++ t.data.toList)
def posA (s : ByteArray) (xs : List Lx) (k : Nat) : Nat := s.size + (flatB (xs.take k)).length
theorem allA_size (s t : ByteArray) (xs : List Lx) : (allA s t xs).size = s.size + (flatB xs).length + t.size := by
  unfold allA
  rw [S_size, List.length_append, List.length_append, size_list, size_list]
theorem posA_zero (s : ByteArray) (xs : List Lx) : posA s xs 0 = s.size := by unfold posA flatB; simp
theorem posA_all (s t : ByteArray) (xs : List Lx) : posA s xs xs.length + t.size = (allA s t xs).size := by rw [allA_size]; unfold posA; rw [List.take_length]
theorem posA_succ (s : ByteArray) (xs : List Lx) (k : Nat) (h : k < xs.length) (hm : may xs[k].e = true) : posA s xs (k + 1) = posA s xs k + (bare xs[k].e).length := by
  unfold posA
  rw [flatB_snoc xs k h, List.length_append, show putB xs[k].e = bare xs[k].e from if_pos hm]; omega
theorem posA_le (s t : ByteArray) (xs : List Lx) (k : Nat) : posA s xs k ≤ (allA s t xs).size := by
  rw [allA_size]
  have h2 : flatB xs = flatB (xs.take k) ++ flatB (xs.drop k) := by
    unfold flatB; rw [← List.flatMap_append, List.take_append_drop]
  unfold posA
  rw [h2, List.length_append]; omega
theorem among_drop (s t : ByteArray) (xs : List Lx) (k : Nat) (h : k < xs.length) (hm : may xs[k].e = true) : (allA s t xs).data.toList.drop (posA s xs k) = bare xs[k].e ++ (flatB (xs.drop (k + 1)) ++ t.data.toList) := by
  unfold allA posA
  rw [S_list, flatB_split xs k h, show putB xs[k].e = bare xs[k].e from if_pos hm]
  have hl : (s.data.toList ++ flatB (xs.take k)).length = s.size + (flatB (xs.take k)).length := by rw [List.length_append, size_list]
  rw [show s.data.toList ++ (flatB (xs.take k) ++ (bare xs[k].e ++ flatB (xs.drop (k + 1)))) ++ t.data.toList = (s.data.toList ++ flatB (xs.take k)) ++ (bare xs[k].e ++ (flatB (xs.drop (k + 1)) ++ t.data.toList)) by simp only [List.append_assoc]]
  exact List.drop_left' hl
theorem among_get (s t : ByteArray) (xs : List Lx) (k : Nat) (h : k < xs.length) (hm : may xs[k].e = true) :
    getW (allA s t xs) (posA s xs k) 0 xs[k].e.v = 0 ∧ getE (allA s t xs) (posA s xs k) 0 xs[k].e.v = xs[k].e ∧ getI (allA s t xs) (posA s xs k) 0 xs[k].e.v = posA s xs (k + 1) ∧ getF (allA s t xs) (posA s xs k) 0 xs[k].e.v = 0 := by
  have hd := among_drop s t xs k h hm
  have hp := posA_le s t xs k
  rw [posA_succ s xs k h hm]
  refine (get_front hm (allA s t xs) (posA s xs k) (bare xs[k].e ++ (flatB (xs.drop (k + 1)) ++ t.data.toList)).length (flatB (xs.drop (k + 1)) ++ t.data.toList) hp ?_).1 (by rw [List.length_append]; omega)
  rw [hd, List.take_length]
theorem among_ahead (s t : ByteArray) (xs : List Lx) : tkT (allA s t xs) 0 0 s.size = s ∧ tkI (allA s t xs) 0 0 s.size = s.size ∧ tkE (allA s t xs) 0 0 s.size = 0 := by
  have hz := allA_size s t xs
  refine ⟨?_, ?_, ?_⟩
  · unfold Wire.tkT
    rw [if_pos ⟨rfl, by omega⟩]
    apply Wire.ba_ext
    rw [Lib.extract_data]
    unfold allA
    rw [S_list, List.append_assoc, List.drop_zero]
    exact List.take_left' (by rw [size_list]; omega)
  · unfold Wire.tkI; rw [if_pos ⟨rfl, by omega⟩]; omega
  · unfold Wire.tkE; rw [if_pos rfl, if_pos (by omega)]
theorem among_behind (s t : ByteArray) (xs : List Lx) : tkT (allA s t xs) (posA s xs xs.length) 0 t.size = t := by
  have hz := posA_all s t xs
  unfold Wire.tkT
  rw [if_pos ⟨rfl, by omega⟩]
  apply Wire.ba_ext
  rw [Lib.extract_data]
  unfold allA posA
  rw [S_list, List.take_length, List.drop_left' (by rw [List.length_append, size_list])]
  exact List.take_of_length_le (by rw [size_list]; omega)


/-! ### the walk -/
theorem own_onlyR {B : Nat} {w w' : World} {base : Nat} {v : Value} {xs : List Lx} (h : OwnR w base v xs) (k : Only B w w') : OwnR w' base v xs := by
  refine ⟨h.1, ?_⟩
  rcases h.2 with h | ⟨g, cap, cur, h1, h2, h3, h4⟩
  · exact .inl h
  · exact .inr ⟨g, cap, cur, h1, h2, k.same g cur _ _ h3 (by decide) (by decide) (by decide), h4⟩
/-- behind the Writer's making: the Writer at p, and the row of what was put -/
structure AmongI (W1 : World) (p : Nat) (L : List UInt8) (v : Value) (gs : List Lx) (wr : World) : Prop where
  bel : Below W1.heap.size W1 wr
  wtr : Wr W1.heap.size wr p L
  own : OwnR wr W1.heap.size v gs
theorem AmongI.below {W1 : World} {p : Nat} {L : List UInt8} {v : Value} {gs : List Lx} {wr w' : World} (h : AmongI W1 p L v gs wr) (hb : Below wr.heap.size wr w') : AmongI W1 p L v gs w' := ⟨below_step h.bel hb, h.wtr.below hb, h.own.below hb⟩
theorem AmongI.put {W1 : World} {p : Nat} {L M : List UInt8} {v : Value} {gs : List Lx} {wr w' : World} (h : AmongI W1 p L v gs wr) (k : Wr W1.heap.size w' p M) (o : Only W1.heap.size wr w') : AmongI W1 p M v gs w' := ⟨h.bel.trans o.below, k, own_onlyR h.own o⟩
theorem AmongI.append {W1 : World} {p : Nat} {L : List UInt8} {v v' : Value} {gs gs' : List Lx} {wr w' : World} (h : AmongI W1 p L v gs wr) (ho : OwnR w' W1.heap.size v' gs') (hg : wr.grownBy w' v.ownBlock) : AmongI W1 p L v' gs' w' := by
  refine ⟨h.bel.trans (h.own.below_grown (Nat.le_refl _) h.bel.size hg), ?_, ho⟩
  rcases h.own.2 with ⟨rfl, _⟩ | ⟨g, cap, cur, rfl, _, h3, _⟩
  · exact h.wtr.keep fun k hk => hg.block k hk (by simp [Value.ownBlock])
  · exact h.wtr.beside (r := g) hg h3 (by decide) (by decide) (by decide)
/-- while the weights are told -/
structure AmongW (w : World) (s t : ByteArray) (xs : List Lx) (k m : Nat) (wr : World) : Prop where
  bel : Below w.heap.size w wr
  low : s.size + t.size + k ≤ m
  all : m < 2000 → ∀ j (h : j < xs.length), j < k → xs[j].e.ns.length < 2000 ∧ xs[j].e.ts.length < 2000
/-- while it is read -/
structure AmongR (V : World) (r : Nat) (T : ByteArray) (i : Nat) (wr : World) : Prop where
  bel : Below V.heap.size V wr
  rd : Rd wr r T i 0
theorem AmongR.below {V wr w' : World} {r i : Nat} {T : ByteArray} (h : AmongR V r T i wr) (k : Below wr.heap.size wr w') : AmongR V r T i w' := ⟨below_step h.bel k, h.rd.below k⟩
theorem fst_below {n : Nat} {Y W : World} {P : Prop} (h : Below n Y W ∧ P) : Below n Y W := h.1

set_option maxRecDepth 100000 in
set_option maxHeartbeats 8000000 in
theorem among_any (A : Option Addr) (ca : Nat) (xs : List Lx) (s t : ByteArray) (w : World) (hx : Row w A xs) (lx : xs.length ≤ ca) (mx : ca ≤ maxLen) (nx : A = none → ca = 0) (rx : xs.length ≤ 2513169434917 ∧ ∀ z ∈ xs, Light z)
    (s1 : s.size ≤ maxLen) (s2 : s.size ≤ 140737488355328) (t1 : t.size ≤ maxLen) (t2 : t.size ≤ 140737488355328) (E : Env w) :
    Calls Tryd.prog 9 #[.slice A xs.length ca, .string s, .string t] w fun z w' => z = .returned (.bool true) ∧ Below w.heap.size w w' := by
  have HX := Lib.hid hx
  have HR := Lib.hid rx.2
  have HE := Lib.hid E
  have HW0 := Lib.hid (⟨Below.refl _ _, Nat.le_refl _, fun _ j _ hj => absurd hj (by omega)⟩ : AmongW w s t xs 0 (s.size + t.size) w)
  have HMAIN : Hid (∀ W, Below w.heap.size w W → (∀ x ∈ xs, x.e.ns.length < 2000 ∧ x.e.ts.length < 2000) → True) := fun _ _ _ => trivial
  have hlen : xs.length ≤ 9223372036854775807 := by have := rx.1; omega
  have hq : IntKind.i64.wrap ((s.size : Int) + (t.size : Int)) = ((s.size + t.size : Nat) : Int) := by rw [IntWalk.i64_in _ (by omega)]; omega
  obtain ⟨m0, hm0⟩ : ∃ m0, m0 = s.size + t.size := ⟨_, rfl⟩
  rw [← hm0] at hq HW0
  have hm1 : m0 ≤ 300000000000000 := by omega
  have HM0 := Lib.hid hm0
  have HSZ := Lib.hid (And.intro s2 t2)
  clear hx lx mx nx rx s1 s2 t1 t2 E hm0 HMAIN
  go_enter Tryd.func9, Tryd.ntmps9
  go_wp2_with fail
  clear hq
  go_loopw [7, 8] (fun n i wr => ∃ k m : Nat, i = .int .i64 k ∧ k ≤ xs.length ∧ n = .int .i64 m ∧ m ≤ 300000000000000 ∧ Hid (AmongW w s t xs k m wr)) (fun _ i _ => xs.length - (intOf i).toNat)
  case atStart => exact ⟨0, m0, rfl, Nat.zero_le _, by first | rfl | (congr 1; omega) | skip, hm1, HW0⟩
  case round =>
    obtain ⟨k, m, rfl, hk, rfl, hm, HA⟩ := hrel
    by_cases hlt : k < xs.length
    · have z0 : (0 : Int) ≤ (k : Int) := by omega
      have z1 : (k : Int) < (xs.length : Int) := by omega
      by_cases h2 : m < 2000
      · have z2 : (m : Int) < 2000 := by omega
        obtain ⟨b, o, rfl, hbl, c0, c1, c2, c3, hat⟩ := (HX.out.below HA.out.bel).at k hlt
        have hL := HR.out _ (List.getElem_mem hlt)
        have HW := Lib.hid (weight1_any xs[k].A xs[k].ca xs[k].C xs[k].cc xs[k].e hL.1 hL.2 wr hat)
        simp only [evV] at HW
        have HXK : Hid (∀ n : Nat, 1 ≤ n → (n < 2000 → xs[k].e.ns.length < 2000 ∧ xs[k].e.ts.length < 2000) → ∀ W, Below wr.heap.size wr W → AmongW w s t xs (k + 1) (m + n) W) := fun n hn1 hn2 W hb =>
          ⟨below_step HA.out.bel hb, by have := HA.out.low; omega, fun hlt2 j hj hjk => by
            by_cases e : j = k
            · subst e; exact hn2 (by omega)
            · exact HA.out.all (by omega) j hj (by omega)⟩
        clear hat hL hbl
        generalize xs[k] = x at c0 c1 c2 c3 HW HXK
        go_wp2_with (go_at_call 20; refine HW.out.mono ?_)
        rintro z W2 ⟨n, rfl, hn1, hn2, hn3, hb⟩
        have HA2 := Lib.hid (HXK.out n hn2 hn3 W2 hb)
        clear hb hn3 HXK HW c0 c1 c2 c3
        go_wp2_with fail
        go_roundw
        case rel => exact ⟨k + 1, m + n, by go_num, by omega, by congr 1 <;> omega, by omega, HA2⟩
        case measure => simp [intOf] <;> omega
      · have z2 : decide ((m : Int) < 2000) = false := decide_eq_false (by omega)
        have z3 : decide ((m : Int) ≥ 2000) = true := decide_eq_true (by omega)
        have z4 : (2000 : Int) ≤ (m : Int) := by omega
        have HB := Lib.hid HA.out.bel
        clear HM0 HSZ HW0
        have HW := Lib.hid (works_any wr (HE.out.below HB.out))
        go_wp2_with (go_at_call 10; refine HW.out.mono ?_)
        rintro z W3 ⟨rfl, hb⟩
        replace HB := Lib.hid (below_step HB.out hb)
        clear hb HW
        go_wp2_with fail
        have HW := Lib.hid (works_any W3 (HE.out.below HB.out))
        go_wp2_with (go_at_call 10; refine HW.out.mono ?_)
        rintro z W4 ⟨rfl, hb⟩
        replace HB := Lib.hid (below_step HB.out hb)
        clear hb HW
        go_wp2_with fail
        go_ret
        exact ⟨rfl, HB.out⟩
    · by_cases h2 : m < 2000
      · have z2 : (m : Int) < 2000 := by omega
        have z3 : decide ((m : Int) ≥ 2000) = false := decide_eq_false (by omega)
        have z4 : ¬ (2000 : Int) ≤ (m : Int) := by omega
        have z5 : ¬ (k : Int) < (xs.length : Int) := by omega
        have z6 : decide ((k : Int) < (xs.length : Int)) = false := decide_eq_false z5
        have hkk : k = xs.length := by omega
        have HALL := Lib.hid (show ∀ j (h : j < xs.length), xs[j].e.ns.length < 2000 ∧ xs[j].e.ts.length < 2000 from fun j h => HA.out.all h2 j h (by omega))
        have HSMALL := Lib.hid (show s.size + t.size + xs.length < 2000 by have := HA.out.low; omega)
        clear hkk
        have HB := Lib.hid HA.out.bel
        clear HA HM0 HSZ HW0
        have HW := Lib.hid (works_any wr (HE.out.below HB.out))
        go_wp2_with fail
        refine HW.out.mono ?_
        rintro z W1 ⟨rfl, hb⟩
        replace HB := Lib.hid (below_step HB.out hb)
        clear hb HW
        have HW := Lib.hid (raw_any (W1.alloc (.cells #[.pointer none, .int .i64 0] 41)) W1.heap.size W1.heap.size [] s (Wr.new (Nat.le_refl _)) (by have := HSMALL.out; show 0 + s.size ≤ _; omega))
        have HX1 := Lib.hid (HX.out.below HB.out)
        have HE1 := Lib.hid (HE.out.below HB.out)
        go_wp2_with fail
        refine HW.out.mono ?_
        rintro z W2 ⟨rfl, h1, o1⟩
        have HI : Hid (AmongI W1 W1.heap.size (s.data.toList ++ flatB (xs.take 0)) (.slice none 0 0) (goodL (xs.take 0)) W2) := ⟨((Below.refl W1.heap.size W1).alloc (Nat.le_refl _) _).trans o1.below, by rw [List.nil_append] at h1; rw [show flatB (xs.take 0) = [] from rfl, List.append_nil]; exact h1, OwnR.nil _ _⟩
        clear h1 o1 HW z2 z3 z4 z5 z6
        go_wp2_with fail
        generalize hP : W1.heap.size = p at HI ⊢
        have HP := Lib.hid hP
        clear hP
        go_loopw [10, 11] (fun v i wr => ∃ k : Nat, i = .int .i64 k ∧ k ≤ xs.length ∧ Hid (AmongI W1 p (s.data.toList ++ flatB (xs.take k)) v (goodL (xs.take k)) wr)) (fun _ i _ => xs.length - (intOf i).toNat)
        case atStart => exact ⟨0, rfl, Nat.zero_le _, HI⟩
        case round =>
          obtain ⟨k, rfl, hk, HIk⟩ := hrel
          by_cases hlt : k < xs.length
          · have z0 : (0 : Int) ≤ (k : Int) := by omega
            have z1 : (k : Int) < (xs.length : Int) := by omega
            obtain ⟨b, o, rfl, hbl, d0, d1, d2, d3, hat⟩ := HX1.out.at k hlt
            have HAT := Lib.hid hat
            have HSH := Lib.hid (HALL.out k hlt)
            have HFS := Lib.hid (show s.data.toList ++ flatB (xs.take (k + 1)) = (s.data.toList ++ flatB (xs.take k)) ++ putB xs[k].e by rw [flatB_snoc xs k hlt, List.append_assoc])
            have HGY := Lib.hid (goodL_yes xs k hlt)
            have HGN := Lib.hid (goodL_no xs k hlt)
            have HLL := Lib.hid (show (s.data.toList ++ flatB (xs.take k)).length ≤ 10000000 by
              have h1 := flatB_le (xs.take k)
              have h2 := HSMALL.out
              rw [List.length_append, size_list]
              rw [List.length_take] at h1
              omega)
            have HGL := Lib.hid (show (goodL (xs.take k)).length ≤ 1000000 by
              have h1 := good_len (xs.take k)
              have h2 := HSMALL.out
              rw [List.length_take] at h1
              omega)
            have HD := Lib.hid (And.intro d0 (And.intro d1 (And.intro d2 d3)))
            clear d0 d1 d2 d3 hat hbl
            generalize xs[k] = x at HAT HSH HFS HGY HGN HD
            obtain ⟨L, hL⟩ : ∃ L, L = s.data.toList ++ flatB (xs.take k) := ⟨_, rfl⟩
            rw [← hL] at HIk HFS HLL
            clear hL
            generalize goodL (xs.take k) = gs at HIk HGY HGN HGL
            go_wp2_with fail
            refine (len_any wr W1.heap.size p L HIk.out.wtr).mono ?_
            rintro z W2 ⟨rfl, rfl⟩
            obtain ⟨a, ha⟩ : ∃ a, L.length = a := ⟨_, rfl⟩
            have HAL := Lib.hid ha
            rw [ha]
            clear ha
            have e0 := (HIk.out.bel.cell (p := ⟨b, _, none⟩) (cell_lt HD.out.1)).trans HD.out.1
            have e1 := (HIk.out.bel.cell (p := ⟨b, _, none⟩) (cell_lt HD.out.1)).trans HD.out.2.1
            have e2 := (HIk.out.bel.cell (p := ⟨b, _, none⟩) (cell_lt HD.out.1)).trans HD.out.2.2.1
            have e3 := (HIk.out.bel.cell (p := ⟨b, _, none⟩) (cell_lt HD.out.1)).trans HD.out.2.2.2
            have HPUT := Lib.hid (Put_any W1 wr W1.heap.size p L x.A x.ca x.C x.cc x.e HIk.out.bel (Nat.le_refl _) HIk.out.wtr (by have := HLL.out; omega) (by have := HSH.out.1; omega) HAT.out HE1.out)
            simp only [evV] at HPUT
            go_wp2_with fail
            refine HPUT.out.mono ?_
            rintro z W3 ⟨rfl, h1, o1⟩
            have HI3 := Lib.hid (HIk.out.put h1 o1)
            clear h1 o1 HPUT HIk e0 e1 e2 e3
            have e0 := (HI3.out.bel.cell (p := ⟨b, _, none⟩) (cell_lt HD.out.1)).trans HD.out.1
            have e1 := (HI3.out.bel.cell (p := ⟨b, _, none⟩) (cell_lt HD.out.1)).trans HD.out.2.1
            have e2 := (HI3.out.bel.cell (p := ⟨b, _, none⟩) (cell_lt HD.out.1)).trans HD.out.2.2.1
            have e3 := (HI3.out.bel.cell (p := ⟨b, _, none⟩) (cell_lt HD.out.1)).trans HD.out.2.2.2
            by_cases hm : may x.e = true
            · have hp : putE x.e = 0 := if_pos hm
              rw [hp]
              clear hp
              have HM := Lib.hid hm
              have HG := Lib.hid (HGY.out hm)
              clear hm HGY HGN
              have hbA := (Below.refl W3.heap.size W3).alloc (Nat.le_refl _) (.cells #[.int .u8 x.e.v, .int .u8 x.e.k, .slice x.A x.e.ns.length x.ca, .slice x.C x.e.ts.length x.cc] 26)
              have HIA := Lib.hid (HI3.out.below hbA)
              have HNEW := Lib.hid (lx_new W3 x)
              clear hbA
              go_wp2_with (at_builtin; refine wpList_append_ev rfl (.tmp 68) (.tmp 73) rfl W1.heap.size _ gs rfl HIA.out.own ⟨W3.heap.size, 0, none⟩ 1 x rfl HNEW.out ?c1 ?c2 ?_)
              case c1 => exact HGL.out
              case c2 => exact HIA.out.bel.size
              intro v' W4 hO hg
              have HI4 := Lib.hid (HIA.out.append hO hg)
              clear hO hg e0 e1 e2 e3 HIA HNEW HI3
              have e0 := (HI4.out.bel.cell (p := ⟨b, _, none⟩) (cell_lt HD.out.1)).trans HD.out.1
              have e1 := (HI4.out.bel.cell (p := ⟨b, _, none⟩) (cell_lt HD.out.1)).trans HD.out.2.1
              have e2 := (HI4.out.bel.cell (p := ⟨b, _, none⟩) (cell_lt HD.out.1)).trans HD.out.2.2.1
              have e3 := (HI4.out.bel.cell (p := ⟨b, _, none⟩) (cell_lt HD.out.1)).trans HD.out.2.2.2
              obtain ⟨d, hd⟩ : ∃ d, (L ++ putB x.e).length = d := ⟨_, rfl⟩
              obtain ⟨c, hc⟩ : ∃ c, (encB x.e).length = c := ⟨_, rfl⟩
              obtain ⟨u, hu⟩ : ∃ u, u = a + c := ⟨_, rfl⟩
              have hcd : a + c = d + 1 := by
                rw [← HAL.out, ← hd, ← hc, List.length_append, encB_is HM.out, List.length_append, Wire.fixB_length, show putB x.e = bare x.e from if_pos HM.out]; omega
              have hca : c ≤ 400 := by
                rw [← hc, encB_is HM.out, List.length_append, Wire.fixB_length]; have := bare_le HM.out; omega
              have haa : a ≤ 10000000 := by rw [← HAL.out]; exact HLL.out
              have w1 : IntKind.i64.wrap ((a : Int) + (c : Int)) = (u : Int) := by rw [IntWalk.i64_in _ (by omega)]; omega
              have w2 : IntKind.i64.wrap ((u : Int) - 1) = (d : Int) := by rw [IntWalk.i64_in _ (by omega)]; omega
              have HLEN := Lib.hid (fun W (hW : Below W4.heap.size W4 W) => len_any W W1.heap.size p (L ++ putB x.e) (HI4.out.wtr.below hW))
              rw [hd] at HLEN
              have HSIZ := Lib.hid (fun W (hW : Below W4.heap.size W4 W) => Size_any W x.A x.ca x.C x.cc x.e (by have := HSH.out.1; omega) ((HAT.out.below HI4.out.bel).below hW) ((HE1.out.below HI4.out.bel).below hW))
              rw [hc] at HSIZ
              simp only [evV] at HSIZ
              clear hcd hca haa hu hc hd
              go_wp2_with fail
              have HKS := Lib.hid (fun W (hW : Below W4.heap.size W4 W) => show (fun w' => Below W4.heap.size W4 w' ∧ w'.cell? ⟨b, o + k * 4, none⟩ = some (.int .u8 x.e.v) ∧ w'.cell? ⟨b, o + k * 4 + 1, none⟩ = some (.int .u8 x.e.k) ∧ w'.cell? ⟨b, o + k * 4 + 2, none⟩ = some (.slice x.A x.e.ns.length x.ca) ∧ w'.cell? ⟨b, o + k * 4 + 3, none⟩ = some (.slice x.C x.e.ts.length x.cc)) W from ⟨hW, cell_kept e0 hW, cell_kept e1 hW, cell_kept e2 hW, cell_kept e3 hW⟩)
              have gd := below_drew W4.heap.size W4
              clear e0 e1 e2 e3
              refine wp_region_held_drew (S := (fun w' => Below W4.heap.size W4 w' ∧ w'.cell? ⟨b, o + k * 4, none⟩ = some (.int .u8 x.e.v) ∧ w'.cell? ⟨b, o + k * 4 + 1, none⟩ = some (.int .u8 x.e.k) ∧ w'.cell? ⟨b, o + k * 4 + 2, none⟩ = some (.slice x.A x.e.ns.length x.ca) ∧ w'.cell? ⟨b, o + k * 4 + 3, none⟩ = some (.slice x.C x.e.ts.length x.cc))) (by kernel_rfl) (HKS.out _ gd) (fun hHeld => ?_)
              refine wpAnyH_take (i := 0) (oi := { dst := some 75, op := Go.Op.move (Go.Operand.tmp 13), type := 31, pos := "outright.go:137", after := #[], guard := none }) (v := ?v1) rfl (by kernel_rfl) (by kernel_rfl) (by kernel_rfl) (fun _ _ _ h => h) (Or.inl ⟨by rfl, ?hy1⟩) (by assumption) ?rest1
              case hy1 => (intro w hSw; obtain ⟨s0, s1, s2, s3, s4⟩ := hSw; go_simp; try with_reducible rfl)
              try simp only [Act.put, List.setIfInBounds_toArray, List.set_cons_zero, List.set_cons_succ]
              refine wpAnyH_take (i := 1) (oi := { dst := some 76, op := Go.Op.binOp Go.BinOp.neq 31 (Go.Operand.tmp 75) (Go.Operand.const (Go.Value.int Go.IntKind.i64 0)) 31, type := 4, pos := "outright.go:137", after := #[{ on := 0, ground := Go.Ground.data }], guard := none }) (v := ?v2) rfl (by kernel_rfl) (by kernel_rfl) (by kernel_rfl) (fun _ _ _ h => h) (Or.inl ⟨by rfl, ?hy2⟩) (by assumption) ?rest2
              case hy2 => (intro w hSw; obtain ⟨s0, s1, s2, s3, s4⟩ := hSw; go_simp; try with_reducible rfl)
              try simp only [Act.put, List.setIfInBounds_toArray, List.set_cons_zero, List.set_cons_succ]
              refine wpAnyH_take (i := 2) (oi := { dst := some 77, op := Go.Op.move (Go.Operand.tmp 76), type := 4, pos := "outright.go:137", after := #[{ on := 1, ground := Go.Ground.data }], guard := none }) (v := ?v3) rfl (by kernel_rfl) (by kernel_rfl) (by kernel_rfl) (fun _ _ _ h => h) (Or.inl ⟨by rfl, ?hy3⟩) (by assumption) ?rest3
              case hy3 => (intro w hSw; obtain ⟨s0, s1, s2, s3, s4⟩ := hSw; go_simp; try with_reducible rfl)
              try simp only [Act.put, List.setIfInBounds_toArray, List.set_cons_zero, List.set_cons_succ]
              refine wpAnyH_take (i := 3) (oi := { dst := some 78, op := Go.Op.move (Go.Operand.tmp 9), type := 38, pos := "outright.go:137", after := #[{ on := 2, ground := Go.Ground.guard }], guard := some (2, true) }) (v := undef) rfl (by kernel_rfl) (by kernel_rfl) (by kernel_rfl) (fun _ _ _ h => h) (Or.inr ⟨by rfl, rfl⟩) (by assumption) ?_
              try simp only [Act.put, List.setIfInBounds_toArray, List.set_cons_zero, List.set_cons_succ]
              refine wpAnyH_take (i := 4) (oi := { dst := some 79, op := Go.Op.call { callee := Go.Callee.value (Go.Operand.func 30), args := #[Go.Operand.tmp 78], argTypes := #[38] }, type := 3, pos := "outright.go:137", after := #[{ on := 3, ground := Go.Ground.data }, { on := 2, ground := Go.Ground.chain }, { on := 2, ground := Go.Ground.guard }], guard := some (2, true) }) (v := undef) rfl (by kernel_rfl) (by kernel_rfl) (by kernel_rfl) (fun _ _ _ h => h) (Or.inr ⟨by rfl, rfl⟩) (by assumption) ?_
              try simp only [Act.put, List.setIfInBounds_toArray, List.set_cons_zero, List.set_cons_succ]
              refine wpAnyH_take (i := 5) (oi := { dst := some 80, op := Go.Op.move (Go.Operand.tmp 12), type := 3, pos := "outright.go:137", after := #[{ on := 2, ground := Go.Ground.guard }], guard := some (2, true) }) (v := undef) rfl (by kernel_rfl) (by kernel_rfl) (by kernel_rfl) (fun _ _ _ h => h) (Or.inr ⟨by rfl, rfl⟩) (by assumption) ?_
              try simp only [Act.put, List.setIfInBounds_toArray, List.set_cons_zero, List.set_cons_succ]
              refine wpAnyH_take (i := 6) (oi := { dst := some 81, op := Go.Op.binOp Go.BinOp.neq 3 (Go.Operand.tmp 79) (Go.Operand.tmp 80) 3, type := 4, pos := "outright.go:137", after := #[{ on := 4, ground := Go.Ground.data }, { on := 5, ground := Go.Ground.data }, { on := 2, ground := Go.Ground.guard }], guard := some (2, true) }) (v := undef) rfl (by kernel_rfl) (by kernel_rfl) (by kernel_rfl) (fun _ _ _ h => h) (Or.inr ⟨by rfl, rfl⟩) (by assumption) ?_
              try simp only [Act.put, List.setIfInBounds_toArray, List.set_cons_zero, List.set_cons_succ]
              refine wpAnyH_take (i := 7) (oi := { dst := some 82, op := Go.Op.pick (Go.Operand.tmp 77) (Go.Operand.tmp 81) (Go.Operand.const (Go.Value.bool false)), type := 4, pos := "outright.go:137", after := #[{ on := 2, ground := Go.Ground.data }, { on := 6, ground := Go.Ground.data }], guard := none }) (v := ?v8) rfl (by kernel_rfl) (by kernel_rfl) (by kernel_rfl) (fun _ _ _ h => h) (Or.inl ⟨by rfl, ?hy8⟩) (by assumption) ?rest8
              case hy8 => (intro w hSw; obtain ⟨s0, s1, s2, s3, s4⟩ := hSw; go_simp; try with_reducible rfl)
              try simp only [Act.put, List.setIfInBounds_toArray, List.set_cons_zero, List.set_cons_succ]
              refine wpAnyH_take (i := 8) (oi := { dst := some 83, op := Go.Op.move (Go.Operand.tmp 82), type := 4, pos := "outright.go:137", after := #[{ on := 7, ground := Go.Ground.data }, { on := 4, ground := Go.Ground.chain }], guard := none }) (v := ?v9) rfl (by kernel_rfl) (by kernel_rfl) (by kernel_rfl) (fun _ _ _ h => h) (Or.inl ⟨by rfl, ?hy9⟩) (by assumption) ?rest9
              case hy9 => (intro w hSw; obtain ⟨s0, s1, s2, s3, s4⟩ := hSw; go_simp; try with_reducible rfl)
              try simp only [Act.put, List.setIfInBounds_toArray, List.set_cons_zero, List.set_cons_succ]
              refine wpAnyH_take (i := 9) (oi := { dst := some 84, op := Go.Op.move (Go.Operand.tmp 13), type := 31, pos := "outright.go:137", after := #[{ on := 8, ground := Go.Ground.guard }], guard := some (8, false) }) (v := ?v10) rfl (by kernel_rfl) (by kernel_rfl) (by kernel_rfl) (fun _ _ _ h => h) (Or.inl ⟨by rfl, ?hy10⟩) (by assumption) ?rest10
              case hy10 => (intro w hSw; obtain ⟨s0, s1, s2, s3, s4⟩ := hSw; go_simp; try with_reducible rfl)
              try simp only [Act.put, List.setIfInBounds_toArray, List.set_cons_zero, List.set_cons_succ]
              refine wpAnyH_take (i := 10) (oi := { dst := some 85, op := Go.Op.binOp Go.BinOp.eql 31 (Go.Operand.tmp 84) (Go.Operand.const (Go.Value.int Go.IntKind.i64 0)) 31, type := 4, pos := "outright.go:137", after := #[{ on := 9, ground := Go.Ground.data }, { on := 8, ground := Go.Ground.guard }], guard := some (8, false) }) (v := ?v11) rfl (by kernel_rfl) (by kernel_rfl) (by kernel_rfl) (fun _ _ _ h => h) (Or.inl ⟨by rfl, ?hy11⟩) (by assumption) ?rest11
              case hy11 => (intro w hSw; obtain ⟨s0, s1, s2, s3, s4⟩ := hSw; go_simp; try with_reducible rfl)
              try simp only [Act.put, List.setIfInBounds_toArray, List.set_cons_zero, List.set_cons_succ]
              refine wpAnyH_take (i := 11) (oi := { dst := some 86, op := Go.Op.move (Go.Operand.tmp 85), type := 4, pos := "outright.go:137", after := #[{ on := 10, ground := Go.Ground.data }, { on := 8, ground := Go.Ground.chain }, { on := 8, ground := Go.Ground.guard }], guard := some (8, false) }) (v := ?v12) rfl (by kernel_rfl) (by kernel_rfl) (by kernel_rfl) (fun _ _ _ h => h) (Or.inl ⟨by rfl, ?hy12⟩) (by assumption) ?rest12
              case hy12 => (intro w hSw; obtain ⟨s0, s1, s2, s3, s4⟩ := hSw; go_simp; try with_reducible rfl)
              try simp only [Act.put, List.setIfInBounds_toArray, List.set_cons_zero, List.set_cons_succ]
              refine wpAnyH_take (i := 12) (oi := { dst := some 87, op := Go.Op.move (Go.Operand.tmp 9), type := 38, pos := "outright.go:137", after := #[{ on := 11, ground := Go.Ground.guard }], guard := some (11, true) }) (v := ?v13) rfl (by kernel_rfl) (by kernel_rfl) (by kernel_rfl) (fun _ _ _ h => h) (Or.inl ⟨by rfl, ?hy13⟩) (by assumption) ?rest13
              case hy13 => (intro w hSw; obtain ⟨s0, s1, s2, s3, s4⟩ := hSw; go_simp; try with_reducible rfl)
              try simp only [Act.put, List.setIfInBounds_toArray, List.set_cons_zero, List.set_cons_succ]
              refine wpAnyH_take (i := 14) (oi := { dst := some 89, op := Go.Op.move (Go.Operand.tmp 12), type := 3, pos := "outright.go:137", after := #[{ on := 11, ground := Go.Ground.guard }], guard := some (11, true) }) (v := ?v14) rfl (by kernel_rfl) (by kernel_rfl) (by kernel_rfl) (fun _ _ _ h => h) (Or.inl ⟨by rfl, ?hy14⟩) (by assumption) ?rest14
              case hy14 => (intro w hSw; obtain ⟨s0, s1, s2, s3, s4⟩ := hSw; go_simp; try with_reducible rfl)
              try simp only [Act.put, List.setIfInBounds_toArray, List.set_cons_zero, List.set_cons_succ]
              refine wpAnyH_take (i := 15) (oi := { dst := some 90, op := Go.Op.move (Go.Operand.tmp 0), type := 35, pos := "outright.go:137", after := #[{ on := 11, ground := Go.Ground.guard }], guard := some (11, true) }) (v := ?v15) rfl (by kernel_rfl) (by kernel_rfl) (by kernel_rfl) (fun _ _ _ h => h) (Or.inl ⟨by rfl, ?hy15⟩) (by assumption) ?rest15
              case hy15 => (intro w hSw; obtain ⟨s0, s1, s2, s3, s4⟩ := hSw; go_simp; try with_reducible rfl)
              try simp only [Act.put, List.setIfInBounds_toArray, List.set_cons_zero, List.set_cons_succ]
              refine wpAnyH_take (i := 16) (oi := { dst := some 91, op := Go.Op.move (Go.Operand.tmp 11), type := 3, pos := "outright.go:137", after := #[{ on := 11, ground := Go.Ground.guard }], guard := some (11, true) }) (v := ?v16) rfl (by kernel_rfl) (by kernel_rfl) (by kernel_rfl) (fun _ _ _ h => h) (Or.inl ⟨by rfl, ?hy16⟩) (by assumption) ?rest16
              case hy16 => (intro w hSw; obtain ⟨s0, s1, s2, s3, s4⟩ := hSw; go_simp; try with_reducible rfl)
              try simp only [Act.put, List.setIfInBounds_toArray, List.set_cons_zero, List.set_cons_succ]
              refine wpAnyH_take (i := 17) (oi := { dst := some 92, op := Go.Op.indexAddr 35 (Go.Operand.tmp 90) (Go.Operand.tmp 91), type := 0, pos := "outright.go:137", after := #[{ on := 15, ground := Go.Ground.data }, { on := 16, ground := Go.Ground.data }, { on := 11, ground := Go.Ground.guard }], guard := some (11, true) }) (v := ?v17) rfl (by kernel_rfl) (by kernel_rfl) (by kernel_rfl) (fun _ _ _ h => h) (Or.inl ⟨by rfl, ?hy17⟩) (by assumption) ?rest17
              case hy17 => (intro w hSw; obtain ⟨s0, s1, s2, s3, s4⟩ := hSw; go_simp; try with_reducible rfl)
              try simp only [Act.put, List.setIfInBounds_toArray, List.set_cons_zero, List.set_cons_succ]
              refine wpAnyH_take (i := 18) (oi := { dst := some 93, op := Go.Op.load 26 (Go.Operand.tmp 92), type := 26, pos := "outright.go:137", after := #[{ on := 17, ground := Go.Ground.data }, { on := 11, ground := Go.Ground.guard }], guard := some (11, true) }) (v := ?v18) rfl (by kernel_rfl) (by kernel_rfl) (by kernel_rfl) (fun _ _ _ h => h) (Or.inl ⟨by rfl, ?hy18⟩) (by assumption) ?rest18
              case hy18 => (intro w hSw; obtain ⟨s0, s1, s2, s3, s4⟩ := hSw; go_simp; try with_reducible rfl)
              try simp only [Act.put, List.setIfInBounds_toArray, List.set_cons_zero, List.set_cons_succ]
              refine wpAnyH_ready (rs := [13]) (by kernel_rfl) (by simp) ?_
              refine AllReadyH.cons (o := { dst := some 88, op := Go.Op.call { callee := Go.Callee.value (Go.Operand.func 30), args := #[Go.Operand.tmp 87], argTypes := #[38] }, type := 3, pos := "outright.go:137", after := #[{ on := 12, ground := Go.Ground.data }, { on := 11, ground := Go.Ground.chain }, { on := 11, ground := Go.Ground.guard }], guard := some (11, true) }) rfl (fun K hK => ?_) AllReadyH.nil
              go_simp
              go_at_call 30
              refine (HLEN.out _ gd).mono ?_
              rintro z V0 ⟨rfl, rfl⟩
              refine hK.out _ _ (HKS.out _ gd) (fun hHeld0 => ?_)
              clear hK K
              try simp only [Act.put, List.setIfInBounds_toArray, List.set_cons_zero, List.set_cons_succ]
              refine wpAnyH_ready (rs := [19]) (by kernel_rfl) (by simp) ?_
              refine AllReadyH.cons (o := { dst := some 94, op := Go.Op.call { callee := Go.Callee.value (Go.Operand.func 15), args := #[Go.Operand.tmp 93], argTypes := #[26] }, type := 3, pos := "outright.go:137", after := #[{ on := 18, ground := Go.Ground.data }, { on := 13, ground := Go.Ground.chain }, { on := 11, ground := Go.Ground.guard }], guard := some (11, true) }) rfl (fun K hK => ?_) AllReadyH.nil
              go_simp
              go_at_call 15
              refine (HSIZ.out _ gd).mono ?_
              rintro z V1 ⟨rfl, hb⟩
              have g1 := below_step gd hb
              refine hK.out _ _ (HKS.out _ g1) (fun hHeld1 => ?_)
              clear hK K hb
              try simp only [Act.put, List.setIfInBounds_toArray, List.set_cons_zero, List.set_cons_succ]
              refine wpAnyH_take (i := 20) (oi := { dst := some 95, op := Go.Op.binOp Go.BinOp.add 3 (Go.Operand.tmp 89) (Go.Operand.tmp 94) 3, type := 3, pos := "outright.go:137", after := #[{ on := 14, ground := Go.Ground.data }, { on := 19, ground := Go.Ground.data }, { on := 11, ground := Go.Ground.guard }], guard := some (11, true) }) (v := ?v19) rfl (by kernel_rfl) (by kernel_rfl) (by kernel_rfl) (fun _ _ _ h => h) (Or.inl ⟨by rfl, ?hy19⟩) (by assumption) ?rest19
              case hy19 => (intro w hSw; obtain ⟨s0, s1, s2, s3, s4⟩ := hSw; go_simp; try with_reducible rfl)
              try simp only [Act.put, List.setIfInBounds_toArray, List.set_cons_zero, List.set_cons_succ]
              refine wpAnyH_take (i := 21) (oi := { dst := some 96, op := Go.Op.binOp Go.BinOp.sub 3 (Go.Operand.tmp 95) (Go.Operand.const (Go.Value.int Go.IntKind.i64 1)) 3, type := 3, pos := "outright.go:137", after := #[{ on := 20, ground := Go.Ground.data }, { on := 11, ground := Go.Ground.guard }], guard := some (11, true) }) (v := ?v20) rfl (by kernel_rfl) (by kernel_rfl) (by kernel_rfl) (fun _ _ _ h => h) (Or.inl ⟨by rfl, ?hy20⟩) (by assumption) ?rest20
              case hy20 => (intro w hSw; obtain ⟨s0, s1, s2, s3, s4⟩ := hSw; go_simp; try with_reducible rfl)
              try simp only [Act.put, List.setIfInBounds_toArray, List.set_cons_zero, List.set_cons_succ]
              refine wpAnyH_take (i := 22) (oi := { dst := some 97, op := Go.Op.binOp Go.BinOp.neq 3 (Go.Operand.tmp 88) (Go.Operand.tmp 96) 3, type := 4, pos := "outright.go:137", after := #[{ on := 13, ground := Go.Ground.data }, { on := 21, ground := Go.Ground.data }, { on := 11, ground := Go.Ground.guard }], guard := some (11, true) }) (v := ?v21) rfl (by kernel_rfl) (by kernel_rfl) (by kernel_rfl) (fun _ _ _ h => h) (Or.inl ⟨by rfl, ?hy21⟩) (by assumption) ?rest21
              case hy21 => (intro w hSw; obtain ⟨s0, s1, s2, s3, s4⟩ := hSw; go_simp; try with_reducible rfl)
              try simp only [Act.put, List.setIfInBounds_toArray, List.set_cons_zero, List.set_cons_succ]
              refine wpAnyH_take (i := 23) (oi := { dst := some 98, op := Go.Op.pick (Go.Operand.tmp 86) (Go.Operand.tmp 97) (Go.Operand.const (Go.Value.bool false)), type := 4, pos := "outright.go:137", after := #[{ on := 11, ground := Go.Ground.data }, { on := 22, ground := Go.Ground.data }, { on := 8, ground := Go.Ground.guard }], guard := some (8, false) }) (v := ?v22) rfl (by kernel_rfl) (by kernel_rfl) (by kernel_rfl) (fun _ _ _ h => h) (Or.inl ⟨by rfl, ?hy22⟩) (by assumption) ?rest22
              case hy22 => (intro w hSw; obtain ⟨s0, s1, s2, s3, s4⟩ := hSw; go_simp; try with_reducible rfl)
              try simp only [Act.put, List.setIfInBounds_toArray, List.set_cons_zero, List.set_cons_succ]
              refine wpAnyH_take (i := 24) (oi := { dst := some 99, op := Go.Op.pick (Go.Operand.tmp 83) (Go.Operand.const (Go.Value.bool true)) (Go.Operand.tmp 98), type := 4, pos := "outright.go:137", after := #[{ on := 8, ground := Go.Ground.data }, { on := 23, ground := Go.Ground.data }], guard := none }) (v := ?v23) rfl (by kernel_rfl) (by kernel_rfl) (by kernel_rfl) (fun _ _ _ h => h) (Or.inl ⟨by rfl, ?hy23⟩) (by assumption) ?rest23
              case hy23 => (intro w hSw; obtain ⟨s0, s1, s2, s3, s4⟩ := hSw; go_simp; try with_reducible rfl)
              try simp only [Act.put, List.setIfInBounds_toArray, List.set_cons_zero, List.set_cons_succ]
              refine wpAnyH_done (by kernel_rfl) ?_ _
              have HI5 := Lib.hid (HI4.out.below g1)
              go_wp2_with fail
              go_roundw
              case rel => exact ⟨k + 1, by go_num, by omega, by rw [HFS.out, HG.out]; exact HI5⟩
              case measure => simp [intOf] <;> omega
            · have hp : putE x.e = 4 := if_neg hm
              have hpb : putB x.e = [] := if_neg hm
              rw [hp]
              have HG := Lib.hid (HGN.out (by simpa using hm))
              rw [hpb, List.append_nil] at HI3 HFS
              clear hp hpb hm HGY HGN
              have HI4 := HI3
              clear HI3
              obtain ⟨W4, hW4⟩ : ∃ W, W = W3 := ⟨_, rfl⟩
              rw [← hW4] at HI4 e0 e1 e2 e3 ⊢
              clear hW4
              have HLEN := Lib.hid (fun W (hW : Below W4.heap.size W4 W) => len_any W W1.heap.size p L (HI4.out.wtr.below hW))
              rw [HAL.out] at HLEN
              go_wp2_with fail
              have HKS := Lib.hid (fun W (hW : Below W4.heap.size W4 W) => show (fun w' => Below W4.heap.size W4 w' ∧ w'.cell? ⟨b, o + k * 4, none⟩ = some (.int .u8 x.e.v) ∧ w'.cell? ⟨b, o + k * 4 + 1, none⟩ = some (.int .u8 x.e.k) ∧ w'.cell? ⟨b, o + k * 4 + 2, none⟩ = some (.slice x.A x.e.ns.length x.ca) ∧ w'.cell? ⟨b, o + k * 4 + 3, none⟩ = some (.slice x.C x.e.ts.length x.cc)) W from ⟨hW, cell_kept e0 hW, cell_kept e1 hW, cell_kept e2 hW, cell_kept e3 hW⟩)
              have gd := below_drew W4.heap.size W4
              clear e0 e1 e2 e3
              refine wp_region_held_drew (S := (fun w' => Below W4.heap.size W4 w' ∧ w'.cell? ⟨b, o + k * 4, none⟩ = some (.int .u8 x.e.v) ∧ w'.cell? ⟨b, o + k * 4 + 1, none⟩ = some (.int .u8 x.e.k) ∧ w'.cell? ⟨b, o + k * 4 + 2, none⟩ = some (.slice x.A x.e.ns.length x.ca) ∧ w'.cell? ⟨b, o + k * 4 + 3, none⟩ = some (.slice x.C x.e.ts.length x.cc))) (by kernel_rfl) (HKS.out _ gd) (fun hHeld => ?_)
              refine wpAnyH_take (i := 0) (oi := { dst := some 75, op := Go.Op.move (Go.Operand.tmp 13), type := 31, pos := "outright.go:137", after := #[], guard := none }) (v := ?v24) rfl (by kernel_rfl) (by kernel_rfl) (by kernel_rfl) (fun _ _ _ h => h) (Or.inl ⟨by rfl, ?hy24⟩) (by assumption) ?rest24
              case hy24 => (intro w hSw; obtain ⟨s0, s1, s2, s3, s4⟩ := hSw; go_simp; try with_reducible rfl)
              try simp only [Act.put, List.setIfInBounds_toArray, List.set_cons_zero, List.set_cons_succ]
              refine wpAnyH_take (i := 1) (oi := { dst := some 76, op := Go.Op.binOp Go.BinOp.neq 31 (Go.Operand.tmp 75) (Go.Operand.const (Go.Value.int Go.IntKind.i64 0)) 31, type := 4, pos := "outright.go:137", after := #[{ on := 0, ground := Go.Ground.data }], guard := none }) (v := ?v25) rfl (by kernel_rfl) (by kernel_rfl) (by kernel_rfl) (fun _ _ _ h => h) (Or.inl ⟨by rfl, ?hy25⟩) (by assumption) ?rest25
              case hy25 => (intro w hSw; obtain ⟨s0, s1, s2, s3, s4⟩ := hSw; go_simp; try with_reducible rfl)
              try simp only [Act.put, List.setIfInBounds_toArray, List.set_cons_zero, List.set_cons_succ]
              refine wpAnyH_take (i := 2) (oi := { dst := some 77, op := Go.Op.move (Go.Operand.tmp 76), type := 4, pos := "outright.go:137", after := #[{ on := 1, ground := Go.Ground.data }], guard := none }) (v := ?v26) rfl (by kernel_rfl) (by kernel_rfl) (by kernel_rfl) (fun _ _ _ h => h) (Or.inl ⟨by rfl, ?hy26⟩) (by assumption) ?rest26
              case hy26 => (intro w hSw; obtain ⟨s0, s1, s2, s3, s4⟩ := hSw; go_simp; try with_reducible rfl)
              try simp only [Act.put, List.setIfInBounds_toArray, List.set_cons_zero, List.set_cons_succ]
              refine wpAnyH_take (i := 3) (oi := { dst := some 78, op := Go.Op.move (Go.Operand.tmp 9), type := 38, pos := "outright.go:137", after := #[{ on := 2, ground := Go.Ground.guard }], guard := some (2, true) }) (v := ?v27) rfl (by kernel_rfl) (by kernel_rfl) (by kernel_rfl) (fun _ _ _ h => h) (Or.inl ⟨by rfl, ?hy27⟩) (by assumption) ?rest27
              case hy27 => (intro w hSw; obtain ⟨s0, s1, s2, s3, s4⟩ := hSw; go_simp; try with_reducible rfl)
              try simp only [Act.put, List.setIfInBounds_toArray, List.set_cons_zero, List.set_cons_succ]
              refine wpAnyH_take (i := 5) (oi := { dst := some 80, op := Go.Op.move (Go.Operand.tmp 12), type := 3, pos := "outright.go:137", after := #[{ on := 2, ground := Go.Ground.guard }], guard := some (2, true) }) (v := ?v28) rfl (by kernel_rfl) (by kernel_rfl) (by kernel_rfl) (fun _ _ _ h => h) (Or.inl ⟨by rfl, ?hy28⟩) (by assumption) ?rest28
              case hy28 => (intro w hSw; obtain ⟨s0, s1, s2, s3, s4⟩ := hSw; go_simp; try with_reducible rfl)
              try simp only [Act.put, List.setIfInBounds_toArray, List.set_cons_zero, List.set_cons_succ]
              refine wpAnyH_ready (rs := [4]) (by kernel_rfl) (by simp) ?_
              refine AllReadyH.cons (o := { dst := some 79, op := Go.Op.call { callee := Go.Callee.value (Go.Operand.func 30), args := #[Go.Operand.tmp 78], argTypes := #[38] }, type := 3, pos := "outright.go:137", after := #[{ on := 3, ground := Go.Ground.data }, { on := 2, ground := Go.Ground.chain }, { on := 2, ground := Go.Ground.guard }], guard := some (2, true) }) rfl (fun K hK => ?_) AllReadyH.nil
              go_simp
              go_at_call 30
              refine (HLEN.out _ gd).mono ?_
              rintro z V0 ⟨rfl, rfl⟩
              refine hK.out _ _ (HKS.out _ gd) (fun hHeld0 => ?_)
              clear hK K
              try simp only [Act.put, List.setIfInBounds_toArray, List.set_cons_zero, List.set_cons_succ]
              refine wpAnyH_take (i := 6) (oi := { dst := some 81, op := Go.Op.binOp Go.BinOp.neq 3 (Go.Operand.tmp 79) (Go.Operand.tmp 80) 3, type := 4, pos := "outright.go:137", after := #[{ on := 4, ground := Go.Ground.data }, { on := 5, ground := Go.Ground.data }, { on := 2, ground := Go.Ground.guard }], guard := some (2, true) }) (v := ?v29) rfl (by kernel_rfl) (by kernel_rfl) (by kernel_rfl) (fun _ _ _ h => h) (Or.inl ⟨by rfl, ?hy29⟩) (by assumption) ?rest29
              case hy29 => (intro w hSw; obtain ⟨s0, s1, s2, s3, s4⟩ := hSw; go_simp; try with_reducible rfl)
              try simp only [Act.put, List.setIfInBounds_toArray, List.set_cons_zero, List.set_cons_succ]
              refine wpAnyH_take (i := 7) (oi := { dst := some 82, op := Go.Op.pick (Go.Operand.tmp 77) (Go.Operand.tmp 81) (Go.Operand.const (Go.Value.bool false)), type := 4, pos := "outright.go:137", after := #[{ on := 2, ground := Go.Ground.data }, { on := 6, ground := Go.Ground.data }], guard := none }) (v := ?v30) rfl (by kernel_rfl) (by kernel_rfl) (by kernel_rfl) (fun _ _ _ h => h) (Or.inl ⟨by rfl, ?hy30⟩) (by assumption) ?rest30
              case hy30 => (intro w hSw; obtain ⟨s0, s1, s2, s3, s4⟩ := hSw; go_simp; try with_reducible rfl)
              try simp only [Act.put, List.setIfInBounds_toArray, List.set_cons_zero, List.set_cons_succ]
              refine wpAnyH_take (i := 8) (oi := { dst := some 83, op := Go.Op.move (Go.Operand.tmp 82), type := 4, pos := "outright.go:137", after := #[{ on := 7, ground := Go.Ground.data }, { on := 4, ground := Go.Ground.chain }], guard := none }) (v := ?v31) rfl (by kernel_rfl) (by kernel_rfl) (by kernel_rfl) (fun _ _ _ h => h) (Or.inl ⟨by rfl, ?hy31⟩) (by assumption) ?rest31
              case hy31 => (intro w hSw; obtain ⟨s0, s1, s2, s3, s4⟩ := hSw; go_simp; try with_reducible rfl)
              try simp only [Act.put, List.setIfInBounds_toArray, List.set_cons_zero, List.set_cons_succ]
              refine wpAnyH_take (i := 9) (oi := { dst := some 84, op := Go.Op.move (Go.Operand.tmp 13), type := 31, pos := "outright.go:137", after := #[{ on := 8, ground := Go.Ground.guard }], guard := some (8, false) }) (v := ?v32) rfl (by kernel_rfl) (by kernel_rfl) (by kernel_rfl) (fun _ _ _ h => h) (Or.inl ⟨by rfl, ?hy32⟩) (by assumption) ?rest32
              case hy32 => (intro w hSw; obtain ⟨s0, s1, s2, s3, s4⟩ := hSw; go_simp; try with_reducible rfl)
              try simp only [Act.put, List.setIfInBounds_toArray, List.set_cons_zero, List.set_cons_succ]
              refine wpAnyH_take (i := 10) (oi := { dst := some 85, op := Go.Op.binOp Go.BinOp.eql 31 (Go.Operand.tmp 84) (Go.Operand.const (Go.Value.int Go.IntKind.i64 0)) 31, type := 4, pos := "outright.go:137", after := #[{ on := 9, ground := Go.Ground.data }, { on := 8, ground := Go.Ground.guard }], guard := some (8, false) }) (v := ?v33) rfl (by kernel_rfl) (by kernel_rfl) (by kernel_rfl) (fun _ _ _ h => h) (Or.inl ⟨by rfl, ?hy33⟩) (by assumption) ?rest33
              case hy33 => (intro w hSw; obtain ⟨s0, s1, s2, s3, s4⟩ := hSw; go_simp; try with_reducible rfl)
              try simp only [Act.put, List.setIfInBounds_toArray, List.set_cons_zero, List.set_cons_succ]
              refine wpAnyH_take (i := 11) (oi := { dst := some 86, op := Go.Op.move (Go.Operand.tmp 85), type := 4, pos := "outright.go:137", after := #[{ on := 10, ground := Go.Ground.data }, { on := 8, ground := Go.Ground.chain }, { on := 8, ground := Go.Ground.guard }], guard := some (8, false) }) (v := ?v34) rfl (by kernel_rfl) (by kernel_rfl) (by kernel_rfl) (fun _ _ _ h => h) (Or.inl ⟨by rfl, ?hy34⟩) (by assumption) ?rest34
              case hy34 => (intro w hSw; obtain ⟨s0, s1, s2, s3, s4⟩ := hSw; go_simp; try with_reducible rfl)
              try simp only [Act.put, List.setIfInBounds_toArray, List.set_cons_zero, List.set_cons_succ]
              refine wpAnyH_take (i := 12) (oi := { dst := some 87, op := Go.Op.move (Go.Operand.tmp 9), type := 38, pos := "outright.go:137", after := #[{ on := 11, ground := Go.Ground.guard }], guard := some (11, true) }) (v := undef) rfl (by kernel_rfl) (by kernel_rfl) (by kernel_rfl) (fun _ _ _ h => h) (Or.inr ⟨by rfl, rfl⟩) (by assumption) ?_
              try simp only [Act.put, List.setIfInBounds_toArray, List.set_cons_zero, List.set_cons_succ]
              refine wpAnyH_take (i := 13) (oi := { dst := some 88, op := Go.Op.call { callee := Go.Callee.value (Go.Operand.func 30), args := #[Go.Operand.tmp 87], argTypes := #[38] }, type := 3, pos := "outright.go:137", after := #[{ on := 12, ground := Go.Ground.data }, { on := 11, ground := Go.Ground.chain }, { on := 11, ground := Go.Ground.guard }], guard := some (11, true) }) (v := undef) rfl (by kernel_rfl) (by kernel_rfl) (by kernel_rfl) (fun _ _ _ h => h) (Or.inr ⟨by rfl, rfl⟩) (by assumption) ?_
              try simp only [Act.put, List.setIfInBounds_toArray, List.set_cons_zero, List.set_cons_succ]
              refine wpAnyH_take (i := 14) (oi := { dst := some 89, op := Go.Op.move (Go.Operand.tmp 12), type := 3, pos := "outright.go:137", after := #[{ on := 11, ground := Go.Ground.guard }], guard := some (11, true) }) (v := undef) rfl (by kernel_rfl) (by kernel_rfl) (by kernel_rfl) (fun _ _ _ h => h) (Or.inr ⟨by rfl, rfl⟩) (by assumption) ?_
              try simp only [Act.put, List.setIfInBounds_toArray, List.set_cons_zero, List.set_cons_succ]
              refine wpAnyH_take (i := 15) (oi := { dst := some 90, op := Go.Op.move (Go.Operand.tmp 0), type := 35, pos := "outright.go:137", after := #[{ on := 11, ground := Go.Ground.guard }], guard := some (11, true) }) (v := undef) rfl (by kernel_rfl) (by kernel_rfl) (by kernel_rfl) (fun _ _ _ h => h) (Or.inr ⟨by rfl, rfl⟩) (by assumption) ?_
              try simp only [Act.put, List.setIfInBounds_toArray, List.set_cons_zero, List.set_cons_succ]
              refine wpAnyH_take (i := 16) (oi := { dst := some 91, op := Go.Op.move (Go.Operand.tmp 11), type := 3, pos := "outright.go:137", after := #[{ on := 11, ground := Go.Ground.guard }], guard := some (11, true) }) (v := undef) rfl (by kernel_rfl) (by kernel_rfl) (by kernel_rfl) (fun _ _ _ h => h) (Or.inr ⟨by rfl, rfl⟩) (by assumption) ?_
              try simp only [Act.put, List.setIfInBounds_toArray, List.set_cons_zero, List.set_cons_succ]
              refine wpAnyH_take (i := 17) (oi := { dst := some 92, op := Go.Op.indexAddr 35 (Go.Operand.tmp 90) (Go.Operand.tmp 91), type := 0, pos := "outright.go:137", after := #[{ on := 15, ground := Go.Ground.data }, { on := 16, ground := Go.Ground.data }, { on := 11, ground := Go.Ground.guard }], guard := some (11, true) }) (v := undef) rfl (by kernel_rfl) (by kernel_rfl) (by kernel_rfl) (fun _ _ _ h => h) (Or.inr ⟨by rfl, rfl⟩) (by assumption) ?_
              try simp only [Act.put, List.setIfInBounds_toArray, List.set_cons_zero, List.set_cons_succ]
              refine wpAnyH_take (i := 18) (oi := { dst := some 93, op := Go.Op.load 26 (Go.Operand.tmp 92), type := 26, pos := "outright.go:137", after := #[{ on := 17, ground := Go.Ground.data }, { on := 11, ground := Go.Ground.guard }], guard := some (11, true) }) (v := undef) rfl (by kernel_rfl) (by kernel_rfl) (by kernel_rfl) (fun _ _ _ h => h) (Or.inr ⟨by rfl, rfl⟩) (by assumption) ?_
              try simp only [Act.put, List.setIfInBounds_toArray, List.set_cons_zero, List.set_cons_succ]
              refine wpAnyH_take (i := 19) (oi := { dst := some 94, op := Go.Op.call { callee := Go.Callee.value (Go.Operand.func 15), args := #[Go.Operand.tmp 93], argTypes := #[26] }, type := 3, pos := "outright.go:137", after := #[{ on := 18, ground := Go.Ground.data }, { on := 13, ground := Go.Ground.chain }, { on := 11, ground := Go.Ground.guard }], guard := some (11, true) }) (v := undef) rfl (by kernel_rfl) (by kernel_rfl) (by kernel_rfl) (fun _ _ _ h => h) (Or.inr ⟨by rfl, rfl⟩) (by assumption) ?_
              try simp only [Act.put, List.setIfInBounds_toArray, List.set_cons_zero, List.set_cons_succ]
              refine wpAnyH_take (i := 20) (oi := { dst := some 95, op := Go.Op.binOp Go.BinOp.add 3 (Go.Operand.tmp 89) (Go.Operand.tmp 94) 3, type := 3, pos := "outright.go:137", after := #[{ on := 14, ground := Go.Ground.data }, { on := 19, ground := Go.Ground.data }, { on := 11, ground := Go.Ground.guard }], guard := some (11, true) }) (v := undef) rfl (by kernel_rfl) (by kernel_rfl) (by kernel_rfl) (fun _ _ _ h => h) (Or.inr ⟨by rfl, rfl⟩) (by assumption) ?_
              try simp only [Act.put, List.setIfInBounds_toArray, List.set_cons_zero, List.set_cons_succ]
              refine wpAnyH_take (i := 21) (oi := { dst := some 96, op := Go.Op.binOp Go.BinOp.sub 3 (Go.Operand.tmp 95) (Go.Operand.const (Go.Value.int Go.IntKind.i64 1)) 3, type := 3, pos := "outright.go:137", after := #[{ on := 20, ground := Go.Ground.data }, { on := 11, ground := Go.Ground.guard }], guard := some (11, true) }) (v := undef) rfl (by kernel_rfl) (by kernel_rfl) (by kernel_rfl) (fun _ _ _ h => h) (Or.inr ⟨by rfl, rfl⟩) (by assumption) ?_
              try simp only [Act.put, List.setIfInBounds_toArray, List.set_cons_zero, List.set_cons_succ]
              refine wpAnyH_take (i := 22) (oi := { dst := some 97, op := Go.Op.binOp Go.BinOp.neq 3 (Go.Operand.tmp 88) (Go.Operand.tmp 96) 3, type := 4, pos := "outright.go:137", after := #[{ on := 13, ground := Go.Ground.data }, { on := 21, ground := Go.Ground.data }, { on := 11, ground := Go.Ground.guard }], guard := some (11, true) }) (v := undef) rfl (by kernel_rfl) (by kernel_rfl) (by kernel_rfl) (fun _ _ _ h => h) (Or.inr ⟨by rfl, rfl⟩) (by assumption) ?_
              try simp only [Act.put, List.setIfInBounds_toArray, List.set_cons_zero, List.set_cons_succ]
              refine wpAnyH_take (i := 23) (oi := { dst := some 98, op := Go.Op.pick (Go.Operand.tmp 86) (Go.Operand.tmp 97) (Go.Operand.const (Go.Value.bool false)), type := 4, pos := "outright.go:137", after := #[{ on := 11, ground := Go.Ground.data }, { on := 22, ground := Go.Ground.data }, { on := 8, ground := Go.Ground.guard }], guard := some (8, false) }) (v := ?v46) rfl (by kernel_rfl) (by kernel_rfl) (by kernel_rfl) (fun _ _ _ h => h) (Or.inl ⟨by rfl, ?hy46⟩) (by assumption) ?rest46
              case hy46 => (intro w hSw; obtain ⟨s0, s1, s2, s3, s4⟩ := hSw; go_simp; try with_reducible rfl)
              try simp only [Act.put, List.setIfInBounds_toArray, List.set_cons_zero, List.set_cons_succ]
              refine wpAnyH_take (i := 24) (oi := { dst := some 99, op := Go.Op.pick (Go.Operand.tmp 83) (Go.Operand.const (Go.Value.bool true)) (Go.Operand.tmp 98), type := 4, pos := "outright.go:137", after := #[{ on := 8, ground := Go.Ground.data }, { on := 23, ground := Go.Ground.data }], guard := none }) (v := ?v47) rfl (by kernel_rfl) (by kernel_rfl) (by kernel_rfl) (fun _ _ _ h => h) (Or.inl ⟨by rfl, ?hy47⟩) (by assumption) ?rest47
              case hy47 => (intro w hSw; obtain ⟨s0, s1, s2, s3, s4⟩ := hSw; go_simp; try with_reducible rfl)
              try simp only [Act.put, List.setIfInBounds_toArray, List.set_cons_zero, List.set_cons_succ]
              refine wpAnyH_done (by kernel_rfl) ?_ _
              have HI5 := Lib.hid (HI4.out.below gd)
              go_wp2_with fail
              go_roundw
              case rel => exact ⟨k + 1, by go_num, by omega, by rw [HFS.out, HG.out]; exact HI5⟩
              case measure => simp [intOf] <;> omega
          · have z1 : ¬ (k : Int) < (xs.length : Int) := by omega
            have z2 : decide ((k : Int) < (xs.length : Int)) = false := decide_eq_false z1
            have hkk : k = xs.length := by omega
            have HIa := HIk
            rw [hkk, List.take_length] at HIa
            clear HIk hkk
            have HFL := Lib.hid (show (s.data.toList ++ flatB xs).length + t.size ≤ 10000000 by
              have h1 := flatB_le xs
              have h2 := HSMALL.out
              rw [List.length_append, size_list]
              omega)
            go_wp2_with fail
            refine (raw_any wr W1.heap.size p (s.data.toList ++ flatB xs) t HIa.out.wtr (by have := HFL.out; omega)).mono ?_
            rintro z W2 ⟨rfl, h1, o1⟩
            have HIb := Lib.hid (HIa.out.put h1 o1)
            clear h1 o1 HIa z1 z2
            go_wp2_with fail
            refine (bytes_any W2 W1.heap.size p _ HIb.out.wtr).mono ?_
            rintro z W3 ⟨rfl, n3, rfl⟩
            have HT : Hid (Wire.S (s.data.toList ++ flatB xs ++ t.data.toList) = allA s t (goodL xs)) := by show _ = _; unfold allA; rw [flatB_good]
            rw [HT.out]
            have HBc : Hid (Below W1.heap.size W1 (W2.drewN n3)) := HIb.out.bel.trans (below_dn _ W2 n3)
            have HOc := Lib.hid (show OwnR (W2.drewN n3) W1.heap.size _ (goodL xs) from HIb.out.own)
            have HGM := Lib.hid (fun x (hx : x ∈ goodL xs) => show may x.e = true ∧ x.e.ns.length < 2000 ∧ x.e.ts.length < 2000 ∧ LxAt W1 x from by
              obtain ⟨h1, h2⟩ := good_mem hx
              obtain ⟨j, hj, rfl⟩ := List.getElem_of_mem h1
              exact ⟨h2, (HALL.out j hj).1, (HALL.out j hj).2, HX1.out.2 _ h1⟩)
            have HTZ := Lib.hid (show (allA s t (goodL xs)).size ≤ 1000000000000 by
              have h1 := flatB_le xs
              have h2 := HSMALL.out
              rw [allA_size, flatB_good]
              omega)
            have hgl := good_len xs
            have hgl2 : (goodL xs).length ≤ 9223372036854775807 := by omega
            clear HT HIb hgl
            generalize goodL xs = gs at HOc HGM HTZ hgl2 ⊢
            generalize W2.drewN n3 = W4 at HBc HOc ⊢
            obtain ⟨A', cap', rfl, hv, hn0, hlc, hcm⟩ := HOc.out.vat
            have HROW : Hid (Row W4 A' gs) := ⟨hv, fun x hx => (HGM.out x hx).2.2.2.below HBc.out⟩
            clear HOc hv hn0 hlc hcm
            generalize hTe : allA s t gs = T at HTZ ⊢
            have HTe := Lib.hid hTe
            clear hTe
            go_wp2_with fail
            refine (new_any T W4).mono ?_
            rintro z W5 ⟨rfl, rfl⟩
            have HRd := Lib.hid (Rd.new T W4)
            have HB5 := Lib.hid ((Below.refl W4.heap.size W4).alloc (Nat.le_refl _) (.cells (rdS T 0 0) 84))
            have HLO := Lib.hid (show 2 ≤ W4.heap.size from Nat.le_trans HE1.out.2.2 HBc.out.size)
            have HE4 := Lib.hid (HE1.out.below HBc.out)
            have HB4 := Lib.hid (below_step HB.out HBc.out)
            clear HBc HE1
            generalize W4.alloc (.cells (rdS T 0 0) 84) = W5 at HRd HB5 ⊢
            have hah := among_ahead s t gs
            rw [HTe.out] at hah
            have HAH := Lib.hid hah
            clear hah
            generalize hr : W4.heap.size = r at HRd HLO ⊢
            have HRE := Lib.hid hr
            clear hr
            go_wp2_with fail
            refine (rraw_any r T 0 0 (s.size : Int) W5 HRd.out (Nat.zero_le _) HTZ.out).mono ?_
            rintro z W6 ⟨rfl, hst⟩
            rw [Int.toNat_natCast, HAH.out.2.1, HAH.out.2.2] at hst
            rw [Int.toNat_natCast, HAH.out.1]
            have HI : Hid (AmongR W4 r T (posA s gs 0) W6) := ⟨HB5.out.trans (Wire.step_low hst (by rw [HRE.out]; exact Nat.le_refl _) HB5.out.size), by rw [posA_zero]; exact hst.1⟩
            clear hst HRd HB5 HAH
            have qs := str_self s
            have qs2 : (s.toList != s.toList) = false := by rw [bne, qs]; rfl
            go_wp2_with fail
            go_loopw [15] (fun i wr => ∃ k : Nat, i = .int .i64 k ∧ k ≤ gs.length ∧ Hid (AmongR W4 r T (posA s gs k) wr)) (fun i _ => gs.length - (intOf i).toNat)
            case atStart => exact ⟨0, rfl, Nat.zero_le _, HI⟩
            case round =>
              obtain ⟨k, rfl, hk, HIk⟩ := hrel
              by_cases hlt : k < gs.length
              · have z0 : (0 : Int) ≤ (k : Int) := by omega
                have z1 : (k : Int) < (gs.length : Int) := by omega
                obtain ⟨b, o, rfl, hbl, d0, d1, d2, d3, hat⟩ := HROW.out.at k hlt
                have HD := Lib.hid (And.intro d0 (And.intro d1 (And.intro d2 d3)))
                have hgm := HGM.out _ (List.getElem_mem hlt)
                have hag := among_get s t gs k hlt hgm.1
                rw [HTe.out] at hag
                have hpl := posA_le s t gs k
                rw [HTe.out] at hpl
                have HAT := Lib.hid (And.intro hat hgm.2)
                have HAG := Lib.hid hag
                have HPL := Lib.hid hpl
                clear d0 d1 d2 d3 hat hgm hag hpl hbl
                generalize gs[k] = x at HD HAT HAG
                have e0 := (HIk.out.bel.cell (p := ⟨b, _, none⟩) (cell_lt HD.out.1)).trans HD.out.1
                go_wp2_with fail
                refine (Get_any r T (posA s gs k) 0 x.e.v wr HIk.out.rd HPL.out HTZ.out HAT.out.1.v HLO.out (HE4.out.below HIk.out.bel)).mono ?_
                rintro z W5 ⟨A2, c2, C2, d2, rfl, hn, hm2, hst⟩
                rw [HAG.out.2.1] at hn hm2
                rw [HAG.out.2.2.1, HAG.out.2.2.2] at hst
                rw [HAG.out.2.1, HAG.out.1]
                simp only [evV]
                have HI5 : Hid (AmongR W4 r T (posA s gs (k + 1)) W5) := ⟨HIk.out.bel.trans (Wire.step_low hst (by rw [HRE.out]; exact Nat.le_refl _) HIk.out.bel.size), hst.1⟩
                have HEV := Lib.hid (ownE_ev HAT.out.1.v HAT.out.1.k HAT.out.1.fit HAT.out.1.txt hn hm2)
                clear hn hm2 hst HIk e0
                go_upto_region 28 with (fail)
                have hb := (Below.refl W5.heap.size W5).alloc (Nat.le_refl _) (.cells #[.int .u8 x.e.v, .int .u8 x.e.k, .slice A2 x.e.ns.length c2, .slice C2 x.e.ts.length d2] 26)
                have HX6 := Lib.hid (show Four _ W5.heap.size _ _ _ _ from box4 W5 (.int .u8 x.e.v) (.int .u8 x.e.k) (.slice A2 x.e.ns.length c2) (.slice C2 x.e.ts.length d2) 26)
                have HEV6 := Lib.hid (HEV.out.below hb)
                have HI6 : Hid (AmongR W4 r T (posA s gs (k + 1)) _) := ⟨below_step HI5.out.bel hb, HI5.out.rd.below hb⟩
                clear hb HI5 HEV
                generalize W5.alloc (.cells #[.int .u8 x.e.v, .int .u8 x.e.k, .slice A2 x.e.ns.length c2, .slice C2 x.e.ts.length d2] 26) = W6 at HX6 HEV6 HI6 ⊢
                generalize W5.heap.size = q at HX6 ⊢
                have e0 := (HI6.out.bel.cell (p := ⟨b, _, none⟩) (cell_lt HD.out.1)).trans HD.out.1
                have e1 := (HI6.out.bel.cell (p := ⟨b, _, none⟩) (cell_lt HD.out.1)).trans HD.out.2.1
                have e2 := (HI6.out.bel.cell (p := ⟨b, _, none⟩) (cell_lt HD.out.1)).trans HD.out.2.2.1
                have e3 := (HI6.out.bel.cell (p := ⟨b, _, none⟩) (cell_lt HD.out.1)).trans HD.out.2.2.2
                have HSM := Lib.hid (fun W (hW : Below W6.heap.size W6 W) => show Calls Tryd.prog 23 #[.agg #[.int .u8 x.e.v, .int .u8 x.e.k, .slice A2 x.e.ns.length c2, .slice C2 x.e.ts.length d2], .agg #[.int .u8 x.e.v, .int .u8 x.e.k, .slice x.A x.e.ns.length x.ca, .slice x.C x.e.ts.length x.cc]] W fun z w' => z = .returned (.bool true) ∧ Below W.heap.size W w' from by
                  have h := sameE_any A2 c2 C2 d2 x.e x.A x.ca x.C x.cc x.e (by have := HAT.out.2.1; omega) (by have := HAT.out.2.2.1; omega) W (HEV6.out.below hW) ((HAT.out.1.below HI6.out.bel).below hW)
                  rw [show same x.e x.e = true from same_yes rfl rfl rfl rfl] at h
                  exact h)
                go_wp2_with fail
                have HKS := Lib.hid (fun W (hW : Below W6.heap.size W6 W) => show (fun w' => Below W6.heap.size W6 w' ∧ w'.cell? ⟨q, 0, none⟩ = some (.int .u8 x.e.v) ∧ w'.cell? ⟨q, 1, none⟩ = some (.int .u8 x.e.k) ∧ w'.cell? ⟨q, 2, none⟩ = some (.slice A2 x.e.ns.length c2) ∧ w'.cell? ⟨q, 3, none⟩ = some (.slice C2 x.e.ts.length d2) ∧ w'.cell? ⟨b, o + k * 4, none⟩ = some (.int .u8 x.e.v) ∧ w'.cell? ⟨b, o + k * 4 + 1, none⟩ = some (.int .u8 x.e.k) ∧ w'.cell? ⟨b, o + k * 4 + 2, none⟩ = some (.slice x.A x.e.ns.length x.ca) ∧ w'.cell? ⟨b, o + k * 4 + 3, none⟩ = some (.slice x.C x.e.ts.length x.cc)) W from ⟨hW, cell_kept HX6.out.1 hW, cell_kept HX6.out.2.1 hW, cell_kept HX6.out.2.2.1 hW, cell_kept HX6.out.2.2.2 hW, cell_kept e0 hW, cell_kept e1 hW, cell_kept e2 hW, cell_kept e3 hW⟩)
                have gd := below_drew W6.heap.size W6
                clear e0 e1 e2 e3
                refine wp_region_held_drew (S := (fun w' => Below W6.heap.size W6 w' ∧ w'.cell? ⟨q, 0, none⟩ = some (.int .u8 x.e.v) ∧ w'.cell? ⟨q, 1, none⟩ = some (.int .u8 x.e.k) ∧ w'.cell? ⟨q, 2, none⟩ = some (.slice A2 x.e.ns.length c2) ∧ w'.cell? ⟨q, 3, none⟩ = some (.slice C2 x.e.ts.length d2) ∧ w'.cell? ⟨b, o + k * 4, none⟩ = some (.int .u8 x.e.v) ∧ w'.cell? ⟨b, o + k * 4 + 1, none⟩ = some (.int .u8 x.e.k) ∧ w'.cell? ⟨b, o + k * 4 + 2, none⟩ = some (.slice x.A x.e.ns.length x.ca) ∧ w'.cell? ⟨b, o + k * 4 + 3, none⟩ = some (.slice x.C x.e.ts.length x.cc))) (by kernel_rfl) (HKS.out _ gd) (fun hHeld => ?_)
                refine wpAnyH_take (i := 0) (oi := { dst := some 128, op := Go.Op.move (Go.Operand.tmp 17), type := 31, pos := "outright.go:148", after := #[], guard := none }) (v := ?v48) rfl (by kernel_rfl) (by kernel_rfl) (by kernel_rfl) (fun _ _ _ h => h) (Or.inl ⟨by rfl, ?hy48⟩) (by assumption) ?rest48
                case hy48 => (intro w hSw; obtain ⟨s0, s1, s2, s3, s4, s5, s6, s7, s8⟩ := hSw; go_simp; try with_reducible rfl)
                try simp only [Act.put, List.setIfInBounds_toArray, List.set_cons_zero, List.set_cons_succ]
                refine wpAnyH_take (i := 1) (oi := { dst := some 129, op := Go.Op.binOp Go.BinOp.neq 31 (Go.Operand.tmp 128) (Go.Operand.const (Go.Value.int Go.IntKind.i64 0)) 31, type := 4, pos := "outright.go:148", after := #[{ on := 0, ground := Go.Ground.data }], guard := none }) (v := ?v49) rfl (by kernel_rfl) (by kernel_rfl) (by kernel_rfl) (fun _ _ _ h => h) (Or.inl ⟨by rfl, ?hy49⟩) (by assumption) ?rest49
                case hy49 => (intro w hSw; obtain ⟨s0, s1, s2, s3, s4, s5, s6, s7, s8⟩ := hSw; go_simp; try with_reducible rfl)
                try simp only [Act.put, List.setIfInBounds_toArray, List.set_cons_zero, List.set_cons_succ]
                refine wpAnyH_take (i := 2) (oi := { dst := some 130, op := Go.Op.move (Go.Operand.tmp 129), type := 4, pos := "outright.go:148", after := #[{ on := 1, ground := Go.Ground.data }], guard := none }) (v := ?v50) rfl (by kernel_rfl) (by kernel_rfl) (by kernel_rfl) (fun _ _ _ h => h) (Or.inl ⟨by rfl, ?hy50⟩) (by assumption) ?rest50
                case hy50 => (intro w hSw; obtain ⟨s0, s1, s2, s3, s4, s5, s6, s7, s8⟩ := hSw; go_simp; try with_reducible rfl)
                try simp only [Act.put, List.setIfInBounds_toArray, List.set_cons_zero, List.set_cons_succ]
                refine wpAnyH_take (i := 3) (oi := { dst := some 131, op := Go.Op.load 26 (Go.Operand.tmp 16), type := 26, pos := "outright.go:148", after := #[{ on := 2, ground := Go.Ground.guard }], guard := some (2, false) }) (v := ?v51) rfl (by kernel_rfl) (by kernel_rfl) (by kernel_rfl) (fun _ _ _ h => h) (Or.inl ⟨by rfl, ?hy51⟩) (by assumption) ?rest51
                case hy51 => (intro w hSw; obtain ⟨s0, s1, s2, s3, s4, s5, s6, s7, s8⟩ := hSw; go_simp; try with_reducible rfl)
                try simp only [Act.put, List.setIfInBounds_toArray, List.set_cons_zero, List.set_cons_succ]
                refine wpAnyH_take (i := 4) (oi := { dst := some 132, op := Go.Op.move (Go.Operand.tmp 10), type := 35, pos := "outright.go:148", after := #[{ on := 2, ground := Go.Ground.guard }], guard := some (2, false) }) (v := ?v52) rfl (by kernel_rfl) (by kernel_rfl) (by kernel_rfl) (fun _ _ _ h => h) (Or.inl ⟨by rfl, ?hy52⟩) (by assumption) ?rest52
                case hy52 => (intro w hSw; obtain ⟨s0, s1, s2, s3, s4, s5, s6, s7, s8⟩ := hSw; go_simp; try with_reducible rfl)
                try simp only [Act.put, List.setIfInBounds_toArray, List.set_cons_zero, List.set_cons_succ]
                refine wpAnyH_take (i := 5) (oi := { dst := some 133, op := Go.Op.move (Go.Operand.tmp 15), type := 3, pos := "outright.go:148", after := #[{ on := 2, ground := Go.Ground.guard }], guard := some (2, false) }) (v := ?v53) rfl (by kernel_rfl) (by kernel_rfl) (by kernel_rfl) (fun _ _ _ h => h) (Or.inl ⟨by rfl, ?hy53⟩) (by assumption) ?rest53
                case hy53 => (intro w hSw; obtain ⟨s0, s1, s2, s3, s4, s5, s6, s7, s8⟩ := hSw; go_simp; try with_reducible rfl)
                try simp only [Act.put, List.setIfInBounds_toArray, List.set_cons_zero, List.set_cons_succ]
                refine wpAnyH_take (i := 6) (oi := { dst := some 134, op := Go.Op.indexAddr 35 (Go.Operand.tmp 132) (Go.Operand.tmp 133), type := 0, pos := "outright.go:148", after := #[{ on := 4, ground := Go.Ground.data }, { on := 5, ground := Go.Ground.data }, { on := 2, ground := Go.Ground.guard }], guard := some (2, false) }) (v := ?v54) rfl (by kernel_rfl) (by kernel_rfl) (by kernel_rfl) (fun _ _ _ h => h) (Or.inl ⟨by rfl, ?hy54⟩) (by assumption) ?rest54
                case hy54 => (intro w hSw; obtain ⟨s0, s1, s2, s3, s4, s5, s6, s7, s8⟩ := hSw; go_simp; try with_reducible rfl)
                try simp only [Act.put, List.setIfInBounds_toArray, List.set_cons_zero, List.set_cons_succ]
                refine wpAnyH_take (i := 7) (oi := { dst := some 135, op := Go.Op.load 26 (Go.Operand.tmp 134), type := 26, pos := "outright.go:148", after := #[{ on := 6, ground := Go.Ground.data }, { on := 2, ground := Go.Ground.guard }], guard := some (2, false) }) (v := ?v55) rfl (by kernel_rfl) (by kernel_rfl) (by kernel_rfl) (fun _ _ _ h => h) (Or.inl ⟨by rfl, ?hy55⟩) (by assumption) ?rest55
                case hy55 => (intro w hSw; obtain ⟨s0, s1, s2, s3, s4, s5, s6, s7, s8⟩ := hSw; go_simp; try with_reducible rfl)
                try simp only [Act.put, List.setIfInBounds_toArray, List.set_cons_zero, List.set_cons_succ]
                refine wpAnyH_ready (rs := [8]) (by kernel_rfl) (by simp) ?_
                refine AllReadyH.cons (o := { dst := some 136, op := Go.Op.call { callee := Go.Callee.value (Go.Operand.func 23), args := #[Go.Operand.tmp 131, Go.Operand.tmp 135], argTypes := #[26, 26] }, type := 4, pos := "outright.go:148", after := #[{ on := 3, ground := Go.Ground.data }, { on := 7, ground := Go.Ground.data }, { on := 2, ground := Go.Ground.chain }, { on := 2, ground := Go.Ground.guard }], guard := some (2, false) }) rfl (fun K hK => ?_) AllReadyH.nil
                go_simp
                go_at_call 23
                refine (HSM.out _ gd).mono ?_
                rintro z V1 ⟨rfl, hb⟩
                have g1 := below_step gd hb
                refine hK.out _ _ (HKS.out _ g1) (fun hHeld1 => ?_)
                clear hK K hb
                try simp only [Act.put, List.setIfInBounds_toArray, List.set_cons_zero, List.set_cons_succ]
                refine wpAnyH_take (i := 9) (oi := { dst := some 137, op := Go.Op.unOp Go.UnOp.not 4 (Go.Operand.tmp 136), type := 4, pos := "outright.go:148", after := #[{ on := 8, ground := Go.Ground.data }, { on := 2, ground := Go.Ground.guard }], guard := some (2, false) }) (v := ?v56) rfl (by kernel_rfl) (by kernel_rfl) (by kernel_rfl) (fun _ _ _ h => h) (Or.inl ⟨by rfl, ?hy56⟩) (by assumption) ?rest56
                case hy56 => (intro w hSw; obtain ⟨s0, s1, s2, s3, s4, s5, s6, s7, s8⟩ := hSw; go_simp; try with_reducible rfl)
                try simp only [Act.put, List.setIfInBounds_toArray, List.set_cons_zero, List.set_cons_succ]
                refine wpAnyH_take (i := 10) (oi := { dst := some 138, op := Go.Op.pick (Go.Operand.tmp 130) (Go.Operand.const (Go.Value.bool true)) (Go.Operand.tmp 137), type := 4, pos := "outright.go:148", after := #[{ on := 2, ground := Go.Ground.data }, { on := 9, ground := Go.Ground.data }], guard := none }) (v := ?v57) rfl (by kernel_rfl) (by kernel_rfl) (by kernel_rfl) (fun _ _ _ h => h) (Or.inl ⟨by rfl, ?hy57⟩) (by assumption) ?rest57
                case hy57 => (intro w hSw; obtain ⟨s0, s1, s2, s3, s4, s5, s6, s7, s8⟩ := hSw; go_simp; try with_reducible rfl)
                try simp only [Act.put, List.setIfInBounds_toArray, List.set_cons_zero, List.set_cons_succ]
                refine wpAnyH_done (by kernel_rfl) ?_ _
                have HI7 := Lib.hid (HI6.out.below g1)
                go_wp2_with fail
                go_roundw
                case rel => exact ⟨k + 1, by go_num, by omega, HI7⟩
                case measure => simp [intOf] <;> omega
              · have z1 : ¬ (k : Int) < (gs.length : Int) := by omega
                have z2 : decide ((k : Int) < (gs.length : Int)) = false := decide_eq_false z1
                have hkk : k = gs.length := by omega
                rw [hkk] at HIk
                clear hkk
                have hpa := posA_all s t gs
                have hbe := among_behind s t gs
                rw [HTe.out] at hpa hbe
                generalize posA s gs gs.length = pos at HIk hpa hbe
                have hsub : (T.size : Int) - (pos : Int) = (t.size : Int) := by omega
                have HPP := Lib.hid (show pos ≤ T.size by omega)
                have HBE := Lib.hid hbe
                clear hpa hbe
                go_wp2_with fail
                refine (left_any r T pos 0 wr HIk.out.rd HPP.out HTZ.out).mono ?_
                rintro z W5 ⟨rfl, n5, rfl⟩
                rw [hsub]
                clear hsub
                have HI5 : Hid (AmongR W4 r T pos (wr.drewN n5)) := ⟨HIk.out.bel.trans (below_dn _ wr n5), HIk.out.rd⟩
                generalize wr.drewN n5 = W5 at HI5 ⊢
                have q1 : ((t.size : Int) == (t.size : Int)) = true := by simp
                have q2 : (t.size == t.size) = true := by simp
                have qt := str_self t
                go_wp2_with fail
                refine (rraw_any r T pos 0 (t.size : Int) W5 HI5.out.rd HPP.out HTZ.out).mono ?_
                rintro z W6 ⟨rfl, hst⟩
                rw [Int.toNat_natCast, HBE.out]
                have HB6 := Lib.hid (below_step HB4.out (HI5.out.bel.trans (Wire.step_low hst (by rw [HRE.out]; exact Nat.le_refl _) HI5.out.bel.size)))
                clear hst
                go_wp2_with fail
                go_ret
                exact ⟨rfl, HB6.out⟩
      · have z3 : decide ((m : Int) ≥ 2000) = true := decide_eq_true (by omega)
        have z4 : (2000 : Int) ≤ (m : Int) := by omega
        have z5 : ¬ (k : Int) < (xs.length : Int) := by omega
        have z6 : decide ((k : Int) < (xs.length : Int)) = false := decide_eq_false z5
        have HB := Lib.hid HA.out.bel
        clear HM0 HSZ HW0
        have HW := Lib.hid (works_any wr (HE.out.below HB.out))
        go_wp2_with fail
        refine HW.out.mono ?_
        rintro z W3 ⟨rfl, hb⟩
        replace HB := Lib.hid (below_step HB.out hb)
        clear hb HW
        go_wp2_with fail
        have HW := Lib.hid (works_any W3 (HE.out.below HB.out))
        go_wp2_with fail
        refine HW.out.mono ?_
        rintro z W4 ⟨rfl, hb⟩
        replace HB := Lib.hid (below_step HB.out hb)
        clear hb HW
        go_wp2_with fail
        go_ret
        exact ⟨rfl, HB.out⟩

end Go.Proofs.YtefkfjbdmglkjaaDoor.Codec
