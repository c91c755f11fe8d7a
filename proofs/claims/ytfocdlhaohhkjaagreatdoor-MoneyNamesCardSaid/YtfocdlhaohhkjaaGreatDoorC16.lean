/-
  The walks of Parse, and of what a number is held against.
-/
import Derived.Test.YtfocdlhaohhkjaaGreatDoorC15
namespace Go.Proofs.YtfocdlhaohhkjaaGreatDoor.Money
open Go.RowKit

theorem err_cell {w : World} (E : Env w) : ∃ a : Addr, w.cell? ⟨0, 0, none⟩ = some (.iface 133 (.pointer (some a))) ∧ w.var? Tryz.prog "strconv.ErrRange" = some #[.iface 133 (.pointer (some a))] := by
  obtain ⟨_, _, ⟨a, hv⟩, _⟩ := E
  exact ⟨a, by have := World.var?_cell gErr hv 0; simpa using this, hv⟩
theorem p_no {l : List UInt8} (h : amt l = false) : pN l = 0 ∧ pE l = 4 := by unfold pN pE; rw [h]; exact ⟨rfl, rfl⟩
theorem p_yes {l : List UInt8} (h : amt l = true) : pN l = tN (amtV l) ∧ pE l = tE (amtV l) := by unfold pN pE; rw [if_pos h, if_pos h]; exact ⟨rfl, rfl⟩
theorem int_ok (s : ByteArray) (hs : s.size ≤ 1000000000) (v : Int) (h : Lib.parseIntB 64 s.data.toList = .ok v) (w : World) :
    Calls Tryz.prog 29 #[.string s, .int .i64 10, .int .i64 64] w fun e w' => e = .returned (.tuple #[.int .i64 v, .nilIface]) ∧ Below w.heap.size w w' :=
  (Tryz.strconv_ParseInt_10_at64_ok s (by omega) v h w).mono fun e w' ⟨he, hw⟩ => ⟨he, by
    rcases hw with hw | ⟨t, hw⟩
    · rw [hw]; exact Below.refl _ _
    · rw [hw]; exact Lib.bytesWorld_below _ _ _⟩
def RangeP (w : World) (a : Addr) (e : Ending) (w' : World) : Prop := ∃ (n : Int) (N : Nat), e = .returned (.tuple #[.int .i64 n, .iface 81 (.pointer (some ⟨N, 0, none⟩))]) ∧ w'.cell? ⟨N, 2, none⟩ = some (.iface 133 (.pointer (some a))) ∧ Below w.heap.size w w'
theorem int_range (s : ByteArray) (hs : s.size ≤ 1000000000) (h : Lib.parseIntB 64 s.data.toList = .range) (w : World) (a : Addr) (hv : w.var? Tryz.prog "strconv.ErrRange" = some #[.iface 133 (.pointer (some a))]) :
    Calls Tryz.prog 29 #[.string s, .int .i64 10, .int .i64 64] w (RangeP w a) :=
  (Tryz.strconv_ParseInt_10_at64_range_var s (by omega) h _ _ w hv).mono fun e w' ⟨N, he, _, hb, hB⟩ => ⟨_, N, he, by
    simp [World.cell?, hb], hB⟩

set_option maxRecDepth 100000 in
set_option maxHeartbeats 1000000 in
theorem parse_any (s : ByteArray) (hs : s.size ≤ 1000000000) (w : World) (E : Env w) :
    Calls Tryz.prog 12 #[.string s] w fun e w' => e = .returned (.tuple #[.int .i64 (pN s.data.toList), .int .i64 (pE s.data.toList)]) ∧ Below w.heap.size w w' := by
  have D := Lib.hid (digits_any s hs w E)
  have E0 := Lib.hid E; clear E
  cases ha : amt s.data.toList with
  | false =>
    have PN := Lib.hid (p_no ha)
    have HA := Lib.hid ha; clear ha
    rw [dg_no HA.out, HA.out] at D
    go_enter Tryz.func12, Tryz.ntmps12
    go_wp2_with (go_at_call 28; refine D.out.mono ?_; rintro e w1 ⟨rfl, hb1⟩)
    go_ret2
    exact ⟨ret_two (by rw [PN.out.1]) (by rw [PN.out.2]), hb1⟩
  | true =>
    have PN := Lib.hid (p_yes ha)
    have HL : Hid ((S (bare s.data.toList)).size ≤ 1000000000) := by have := bare_len s.data.toList ha; rw [S_size]; exact Nat.le_trans this (by show s.size ≤ _; exact hs)
    have hI := bare_int ha
    have HA := Lib.hid ha; clear ha hs
    rw [dg_yes HA.out, HA.out] at D
    rcases hI with hI | ⟨hI, hf⟩
    · have IO := Lib.hid (fun w => int_ok (S (bare s.data.toList)) HL.out _ hI w)
      clear hI
      generalize S (bare s.data.toList) = T at *
      go_enter Tryz.func12, Tryz.ntmps12
      go_wp2_with fail
      refine D.out.mono ?_; rintro e w1 ⟨rfl, hb1⟩
      go_wp2_with fail
      refine (carry hb1 (IO.out _)).mono ?_; rintro e w2 ⟨rfl, hb2⟩
      obtain ⟨a, hc, _⟩ := err_cell (E0.out.below hb2)
      go_wp2_with fail
      refine (is_nil a _).mono ?_; rintro e w3 ⟨rfl, rfl⟩
      cases hn : near (amtV s.data.toList) with
      | true =>
        have N := Lib.hid hn; clear hn
        go_wp2_with (go_at_call 31; refine (far_no _ N.out _).mono ?_; rintro e w' ⟨rfl, rfl⟩)
        go_ret2
        exact ⟨ret_two (by rw [PN.out.1, tN_near N.out]) (by rw [PN.out.2, tE_near N.out]), hb2⟩
      | false =>
        have N := Lib.hid hn; clear hn
        go_wp2_with (go_at_call 31; refine (far_yes _ N.out _).mono ?_; rintro e w' ⟨rfl, rfl⟩)
        go_ret2
        exact ⟨ret_two (by rw [PN.out.1, tN_far N.out]) (by rw [PN.out.2, tE_far N.out]), hb2⟩
    · have N := Lib.hid hf; clear hf
      have IR := Lib.hid (fun w a => int_range (S (bare s.data.toList)) HL.out hI w a)
      clear hI
      generalize S (bare s.data.toList) = T at *
      go_enter Tryz.func12, Tryz.ntmps12
      go_wp2_with fail
      refine D.out.mono ?_; rintro e w1 ⟨rfl, hb1⟩
      obtain ⟨a, hc1, hv⟩ := err_cell (E0.out.below hb1)
      have HV := Lib.hid hv
      have HG := Lib.hid (E0.out.below hb1).1
      have HC1 := Lib.hid hc1
      clear hv hc1
      go_wp2_with fail
      refine (IR.out _ a HV.out).mono ?_; rintro e w2 ⟨n, p, rfl, hc, hb2⟩
      have hg : w2.cell? ⟨0, 0, none⟩ = some (.iface 133 (.pointer (some a))) := by
        rw [hb2.cell (show 0 < w1.heap.size by have := HG.out; omega)]; exact HC1.out
      have HB := Lib.hid (below_on hb1 hb2)
      have HC := Lib.hid hc
      clear hc hb1 hb2
      go_wp2_with fail
      refine (is_num p a _ HC.out).mono ?_; rintro e w3 ⟨rfl, rfl⟩
      go_wp2_with fail
      go_ret2
      exact ⟨ret_two (by rw [PN.out.1, tN_far N.out]) (by rw [PN.out.2, tE_far N.out]), HB.out⟩

/-- is a number told, and this one? -/
theorem is_yes (n k : Int) (h : n = k) (w : World) :
    Calls Tryz.prog 27 #[.int .i64 n, .int .i64 0, .int .i64 k] w fun e w' => e = .returned (.bool true) ∧ w = w' := by
  subst h
  have e1 : (n == n) = true := beq_self_eq_true n
  go_enter Tryz.func27, Tryz.ntmps27
  go_wp2
  go_ret
  exact ⟨rfl, rfl⟩

end Go.Proofs.YtfocdlhaohhkjaaGreatDoor.Money
