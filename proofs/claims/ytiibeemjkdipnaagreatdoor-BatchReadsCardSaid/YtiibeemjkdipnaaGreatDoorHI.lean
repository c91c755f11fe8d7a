import Derived.Test.YtiibeemjkdipnaaGreatDoorHH
/-
  Encode, Say, Newest.
-/
namespace Go.Proofs.YtiibeemjkdipnaaGreatDoor.Batch
open Go Go.RowKit
open Go.Proofs.YtiibeemjkdipnaaGreatDoor.Schema
open Go.Proofs.YtiibeemjkdipnaaGreatDoor.Upcast (ev0 Lowest_ev lwX lw_out LwO to_new lw_err LyAt)

def encT (l : List Ev) : ByteArray := if mayL l then Wire.S (payB l) else ⟨#[]⟩
theorem encT_yes {l : List Ev} (h : refN l = 0) : encT l = Wire.S (payB l) := if_pos (refN_zero.1 h)
theorem encT_no {l : List Ev} (h : ¬ refN l = 0) : encT l = ⟨#[]⟩ := if_neg (fun hm => h (refN_zero.2 hm))

set_option maxRecDepth 100000 in
set_option maxHeartbeats 1000000 in
theorem Encode_any (D : Option Addr) (cap : Nat) (xs : List Lx) (hn : xs.length ≤ 1000000000) (hsm : ∀ x ∈ xs, x.e.ns.length ≤ 140737488355328) (w : World) (hX : Row w D xs) (E : Env w) :
    Calls Tryz.prog 8 #[.slice D xs.length cap] w fun z w' => z = .returned (.tuple #[.string (encT (xs.map (·.e))), .int .i64 (refN (xs.map (·.e)) : Int)]) ∧ Below w.heap.size w w' := by
  have HC := Lib.hid (refusal_any D cap xs hn hsm w hX E)
  have HE := Lib.hid E
  have HX := Lib.hid hX
  clear hn hsm hX E
  go_enter Tryz.func8, Tryz.ntmps8
  go_wp2_with fail
  refine HC.out.mono ?_
  rintro z W1 ⟨rfl, hb⟩
  have HB := Lib.hid hb
  clear hb
  by_cases h : refN (xs.map (·.e)) = 0
  · have HT := Lib.hid (encT_yes h)
    have HRN := Lib.hid h
    have hc := written_any D cap xs (refN_zero.1 h) W1 (HX.out.below HB.out) (HE.out.below HB.out)
    have HC2 := Lib.hid hc
    rw [h]
    clear h hc
    go_wp2_with fail
    refine HC2.out.mono ?_
    rintro z W2 ⟨rfl, hb⟩
    have HB2 := Lib.hid (below_step HB.out hb)
    clear hb
    go_wp2_with fail
    go_ret2
    exact ⟨by rw [HT.out, HRN.out]; rfl, HB2.out⟩
  · have HT := Lib.hid (encT_no h)
    obtain ⟨q1, q2, q3, q4, q5⟩ := nat_ne h
    clear h
    go_wp2_with fail
    go_ret2
    exact ⟨by rw [HT.out]; rfl, HB.out⟩

/-- what Say tells -/
def sayN (l : List Ev) (v : Nat) : Nat := if refN l = 0 then (match lwX l v with | .ok _ => 0 | .error n => n) else refN l
def sayT (l : List Ev) (v : Nat) : ByteArray := if refN l = 0 then (match lwX l v with | .ok p => Wire.S (payB p.2) | .error _ => ⟨#[]⟩) else ⟨#[]⟩
theorem low_mayL {l out : List Ev} {v p : Nat} (hm : mayL l = true) (h : lwX l v = .ok (p, out)) : mayL out = true ∧ vOf out = p := by
  have ho := lw_out h
  have hl := mayL_out hm
  refine mayL_in (by rw [ho.len]; exact hl.1) (by rw [ho.len]; exact hl.2.1) p (fun e he => ?_)
  obtain ⟨i, hi, rfl⟩ := List.getElem_of_mem he
  have h1 := ho.each i (by rw [← ho.len]; exact hi)
  rw [List.getD_eq_getElem?_getD (l := out), List.getElem?_eq_getElem hi, Option.getD_some] at h1
  obtain ⟨q1, _, q3⟩ := to_new h1
  exact ⟨q1, q3⟩
set_option maxRecDepth 100000 in
set_option maxHeartbeats 1000000 in
theorem Say_any (D : Option Addr) (cap : Nat) (xs : List Lx) (v : Nat) (hv : v < 256) (hn : xs.length ≤ 100000) (hsm : ∀ x ∈ xs, x.e.ns.length ≤ 140737488355328) (w : World) (hX : Row w D xs) (E : Env w) :
    Calls Tryz.prog 10 #[.slice D xs.length cap, .int .u8 (v : Int)] w fun z w' => z = .returned (.tuple #[.string (sayT (xs.map (·.e)) v), .int .i64 (sayN (xs.map (·.e)) v : Int)]) ∧ Below w.heap.size w w' := by
  have HC := Lib.hid (refusal_any D cap xs (by omega) hsm w hX E)
  have HE := Lib.hid E
  have HX := Lib.hid hX
  have HN := Lib.hid hn
  have HSM := Lib.hid hsm
  have HV := Lib.hid hv
  clear hn hsm hX E hv
  go_enter Tryz.func10, Tryz.ntmps10
  go_wp2_with fail
  refine HC.out.mono ?_
  rintro z W1 ⟨rfl, hb⟩
  have HB := Lib.hid hb
  clear hb
  by_cases h : refN (xs.map (·.e)) = 0
  · have HM := Lib.hid (refN_zero.1 h)
    have hT : sayT (xs.map (·.e)) v = (match lwX (xs.map (·.e)) v with | .ok p => Wire.S (payB p.2) | .error _ => ⟨#[]⟩) := if_pos h
    have hN : sayN (xs.map (·.e)) v = (match lwX (xs.map (·.e)) v with | .ok _ => 0 | .error n => n) := if_pos h
    have HT := Lib.hid hT
    have HSN := Lib.hid hN
    have HC2 := Lib.hid (Lowest_ev (A := D) (cap := cap) (xs := xs) HV.out HN.out (fun x hx => by have := (Codec.may_lens ((mayL_out (refN_zero.1 h)).2.2.1 x.e (List.mem_map_of_mem hx)).1).1; omega) (HX.out.below HB.out) (HE.out.below HB.out))
    rw [h]
    clear h hT hN
    go_wp2_with fail
    refine HC2.out.mono ?_
    rintro z W2 ⟨p, n, ys, A, c, rfl, hr, hA, hlc, hys, hgot, hb⟩
    have HB2 := Lib.hid (below_step HB.out hb)
    have HR := Lib.hid hr
    clear hb hr hA hys hlc
    rcases hgot with ⟨rfl, hg⟩ | ⟨h1, h2, hg, rfl, rfl⟩
    · rw [hg] at HT HSN
      have HC3 := Lib.hid (written_any A c ys (low_mayL HM.out hg).1 W2 HR.out (HE.out.below HB2.out))
      clear hg
      go_wp2_with fail
      refine HC3.out.mono ?_
      rintro z W3 ⟨rfl, hb⟩
      have HB3 := Lib.hid (below_step HB2.out hb)
      clear hb
      go_wp2_with fail
      go_ret2
      exact ⟨by rw [HT.out, HSN.out]; rfl, HB3.out⟩
    · rw [hg] at HT HSN
      obtain ⟨q1, q2, q3, q4, q5⟩ := nat_ne (show ¬ n = 0 by omega)
      clear hg h1 h2
      go_wp2_with fail
      go_ret2
      exact ⟨by rw [HT.out, HSN.out]; rfl, HB2.out⟩
  · have HT := Lib.hid (show sayT (xs.map (·.e)) v = ⟨#[]⟩ from if_neg h)
    have HSN := Lib.hid (show sayN (xs.map (·.e)) v = refN (xs.map (·.e)) from if_neg h)
    obtain ⟨q1, q2, q3, q4, q5⟩ := nat_ne h
    clear h
    go_wp2_with fail
    go_ret2
    exact ⟨by rw [HT.out, HSN.out]; rfl, HB.out⟩

/-- what Newest tells -/
def newN (s : ByteArray) : Nat := if btW s = 0 then sayN (btL s) 3 else btW s
def newT (s : ByteArray) : ByteArray := if btW s = 0 then sayT (btL s) 3 else ⟨#[]⟩
theorem row_of {w : World} {base : Nat} {A : Option Addr} {c : Nat} {ys : List Lx} (ho : OwnR w base (.slice A ys.length c) ys) (hl : ∀ y ∈ ys, LyAt w base y) : Row w A ys := by
  obtain ⟨A', c', e, hv, -, -, -⟩ := ho.vat
  injection e with e1 _ _
  subst e1
  exact ⟨hv, fun y hy => (hl y hy).lx⟩
theorem btL_few (s : ByteArray) : (btL s).length ≤ 40 ∧ ∀ e ∈ btL s, may e = true := by
  unfold btL
  split
  · exact okL_all s
  · exact ⟨Nat.zero_le _, fun e he => by cases he⟩
set_option maxRecDepth 100000 in
set_option maxHeartbeats 1000000 in
theorem Newest_any (s : ByteArray) (hs : s.size ≤ 1000000000000) (w : World) (E : Env w) :
    Calls Tryz.prog 16 #[.string s] w fun z w' => z = .returned (.tuple #[.string (newT s), .int .i64 (newN s : Int)]) ∧ Below w.heap.size w w' := by
  have HE := Lib.hid E
  have HC := Lib.hid (Decode_any s hs w E)
  clear E
  go_enter Tryz.func16, Tryz.ntmps16
  go_wp2_with fail
  refine HC.out.mono ?_
  rintro z W1 ⟨ys, A, c, rfl, hy, ho, hl, -, hb⟩
  have HB := Lib.hid hb
  have HR := Lib.hid (row_of ho hl)
  have HY := Lib.hid hy
  have hf := btL_few s
  rw [← hy, List.length_map] at hf
  have HF := Lib.hid hf
  clear hb ho hl hf hy
  by_cases h : btW s = 0
  · have HT := Lib.hid (show newT s = sayT (btL s) 3 from if_pos h)
    have HN := Lib.hid (show newN s = sayN (btL s) 3 from if_pos h)
    have hc := Say_any A c ys 3 (by omega) (by have := HF.out.1; omega) (fun x hx => by have := (Codec.may_lens (HF.out.2 x.e (List.mem_map_of_mem hx))).1; omega) W1 HR.out (HE.out.below HB.out)
    rw [HY.out, show ((3 : Nat) : Int) = 3 from rfl] at hc
    have HC2 := Lib.hid hc
    rw [h]
    clear h hc
    go_wp2_with fail
    refine HC2.out.mono ?_
    rintro z W2 ⟨rfl, hb⟩
    have HB2 := Lib.hid (below_step HB.out hb)
    clear hb
    go_wp2_with fail
    go_ret2
    exact ⟨by rw [HT.out, HN.out]; rfl, HB2.out⟩
  · have HT := Lib.hid (show newT s = ⟨#[]⟩ from if_neg h)
    have HN := Lib.hid (show newN s = btW s from if_neg h)
    obtain ⟨q1, q2, q3, q4, q5⟩ := nat_ne h
    clear h
    go_wp2_with fail
    go_ret2
    exact ⟨by rw [HT.out, HN.out]; rfl, HB.out⟩
end Go.Proofs.YtiibeemjkdipnaaGreatDoor.Batch
