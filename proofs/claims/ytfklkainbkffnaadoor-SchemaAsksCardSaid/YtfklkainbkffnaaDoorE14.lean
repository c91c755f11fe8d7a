/-
  The walk of MayCommand.
-/
import Derived.Test.YtfklkainbkffnaaDoorE13
namespace Go.Proofs.YtfklkainbkffnaaDoor.Schema
open Go Go.RowKit

/-- a command -/
structure Cm where
  k : Nat
  ns : List Int
  t : ByteArray
def cmV (A : Option Addr) (ca : Nat) (c : Cm) : Value := .agg #[.int .u8 c.k, .slice A c.ns.length ca, .string c.t]
structure CmAt (w : World) (A : Option Addr) (ca : Nat) (c : Cm) : Prop where
  k : c.k < 256
  fit : Fits64 c.ns
  txt : c.t.size ≤ maxLen
  ns : VAt w A (nums c.ns)
  nA : A = none → ca = 0
  lA : c.ns.length ≤ ca
theorem CmAt.below {w w' : World} {A : Option Addr} {ca : Nat} {c : Cm} (h : CmAt w A ca c) (hb : Below w.heap.size w w') : CmAt w' A ca c := { h with ns := h.ns.below hb }
def mayCT (k : Nat) (t : ByteArray) : Bool := if (cmAt k).text then mayName t else decide (t.size = 0)
/-- whether a command has just what it asks -/
def mayC (c : Cm) : Bool := isC c.k && fitB 3 (asks c.k) c.ns && mayCT c.k c.t
theorem box3 (w : World) (a b c : Value) (T : TypeId) : (w.alloc (.cells #[a, b, c] T)).cell? ⟨w.heap.size, 0, none⟩ = some a ∧ (w.alloc (.cells #[a, b, c] T)).cell? ⟨w.heap.size, 1, none⟩ = some b ∧ (w.alloc (.cells #[a, b, c] T)).cell? ⟨w.heap.size, 2, none⟩ = some c := by
  have h : ∀ j, (w.alloc (.cells #[a, b, c] T)).cell? ⟨w.heap.size, j, none⟩ = #[a, b, c][j]? := fun j => by
    unfold World.cell?
    rw [show (w.alloc _).heap[(⟨w.heap.size, j, none⟩ : Addr).block]? = _ from (MapKept.heap_alloc w _).1]
    rfl
  exact ⟨h 0, h 1, h 2⟩
theorem isc_q (k : Nat) (hk : k < 256) (w : World) :
    Calls Tryd.prog 46 #[.int .u8 k] w fun e w' => e = .returned (.bool (isC k)) ∧ w' = w := (isc_any k hk w).mono fun _ _ h => ⟨h.1, h.2.symm⟩
theorem str_zero (t : ByteArray) : t.toList.isEmpty = decide (t.size = 0) := by
  rw [ByteArray.toList_eq, show t.size = t.data.toList.length from rfl]
  cases t.data.toList <;> simp

set_option maxRecDepth 100000 in
set_option maxHeartbeats 1000000 in
theorem mayC_any (A : Option Addr) (ca : Nat) (c : Cm) (hl : c.ns.length ≤ 1000000) (w : World) (E : Env w) (hA : CmAt w A ca c) :
    Calls Tryd.prog 34 #[cmV A ca c] w fun z w' => z = .returned (.bool (mayC c)) ∧ Below w.heap.size w w' := by
  have HM := Lib.hid (show mayC c = (isC c.k && fitB 3 (asks c.k) c.ns && mayCT c.k c.t) from rfl)
  have HI := Lib.hid (fun W => isc_q c.k hA.k W)
  have hk := hA.k
  have HX := Lib.hid hA.fit
  have HNm := Lib.hid (fun W => mayName_any c.t hA.txt W)
  have HNs := Lib.hid hA.ns
  have HE := Lib.hid E
  obtain ⟨k, ns, t⟩ := c
  simp only [cmV] at *
  have HA0 := Lib.hid ((Below.refl w.heap.size w).alloc (Nat.le_refl _) (.cells #[.int .u8 k, .slice A ns.length ca, .string t] 51))
  have HB3 := Lib.hid (box3 w (.int .u8 k) (.slice A ns.length ca) (.string t) 51)
  clear E hA
  cases hc : isC k with
  | false =>
    have HIN := Lib.hid (fun W => show Calls Tryd.prog 46 #[.int .u8 (k : Int)] W fun e w' => e = .returned (.bool false) ∧ w' = W.drewN 0 from (HI.out W).mono fun e w' h => ⟨by rw [h.1, hc], h.2⟩)
    have HR : Hid (mayC ⟨k, ns, t⟩ = false) := by rw [HM.out, hc]; simp [Hid]
    clear hc HM
    go_enter Tryd.func34, Tryd.ntmps34
    go_wp2_with fail
    go_quiet ((go_at_call 46; refine (HIN.out _).mono (fun e w' h => ⟨h.1, _, h.2⟩)))
    go_wp2_with fail
    go_ret
    exact ⟨by rw [HR.out]; rfl, HA0.out.trans (below_dn _ _ _)⟩
  | true =>
    have HC := Lib.hid hc
    have hlt := (isC_iff.1 hc).2
    have HM2 : Hid (mayC ⟨k, ns, t⟩ = (fitB 3 (asks k) ns && mayCT k t)) := by rw [HM.out, hc]; simp [Hid]
    have HO := Lib.hid (asks_ok k)
    have HG := Lib.hid (fun W (EW : Env W) (hW : VAt W A (nums ns)) => show Calls Tryd.prog 42 #[.int .u8 3, .string (asks k), .slice A ns.length ca] W fun e w' => e = .returned (.bool (fitB 3 (asks k) ns)) ∧ Below W.heap.size W w' from fit_any 3 (by decide) (asks k) HO.out A ca ns HX.out hl W EW hW)
    have HCell := Lib.hid (fun W (EW : Env W) => EW.c k hlt)
    have z0 : (0 : Int) ≤ (k : Int) := by omega
    have z1 : (k : Int) < 21 := by omega
    clear hc HM
    have HTx := Lib.hid (show mayCT k t = if (cmAt k).text then mayName t else decide (t.size = 0) from rfl)
    rw [show (cmAt k).fields = asks k from rfl] at HCell
    generalize asks k = s at HM2 HO HG HCell
    generalize (cmAt k).word = wd at HCell
    generalize (cmAt k).text = tx at HCell HTx
    generalize fitB 3 s ns = bf at HM2 HG
    go_enter Tryd.func34, Tryd.ntmps34
    go_wp2_with fail
    generalize hW : w.alloc (.cells #[.int .u8 k, .slice A ns.length ca, .string t] 51) = W at HA0 HB3 ⊢
    clear hW
    have g0 : W.drew.cell? ⟨w.heap.size, 0, none⟩ = _ := HB3.out.1
    have g1 : W.drew.cell? ⟨w.heap.size, 1, none⟩ = _ := HB3.out.2.1
    have g2 : W.drew.cell? ⟨2, k * 3 + 1, none⟩ = _ := (HCell.out _ (HE.out.below HA0.out)).2.1
    have g3 : Below W.heap.size W W.drew := below_drew _ _
    go_region_held3 (fun w' => w'.cell? ⟨w.heap.size, 0, none⟩ = some (.int .u8 k) ∧ w'.cell? ⟨w.heap.size, 1, none⟩ = some (.slice A ns.length ca) ∧ w'.cell? ⟨2, k * 3 + 1, none⟩ = some (.string s) ∧ Below W.heap.size W w')
      (first | assumption | (refine ⟨?_, ?_, ?_, ?_⟩ <;> first | assumption | exact below_drew _ _ | exact cell_kept (by assumption) (by assumption)) | go_keep)
      ((first
        | (go_at_call 46; refine (HI.out _).mono ?_; rintro z w' ⟨rfl, rfl⟩; rw [HC.out])
        | (go_at_call 42; refine (HG.out _ (HE.out.below (below_step HA0.out (by assumption))) (HNs.out.below (below_step HA0.out (by assumption)))).mono ?_; rintro z w' ⟨rfl, hb⟩; (have k0 : w'.cell? ⟨w.heap.size, 0, none⟩ = _ := cell_kept g0 hb); (have k1 : w'.cell? ⟨w.heap.size, 1, none⟩ = _ := cell_kept g1 hb); (have k2 : w'.cell? ⟨2, k * 3 + 1, none⟩ = _ := cell_kept g2 hb); (have k3 : Below W.heap.size W w' := below_step g3 hb))))
    have d0 := k0
    have d2 := cell_kept HB3.out.2.2 k3
    have d4 := (HCell.out _ (HE.out.below (below_step HA0.out k3))).2.2
    have HB := Lib.hid (below_step HA0.out k3)
    clear k0 k1 k2 k3 g0 g1 g2 g3 HB3
    cases bf with
    | false =>
      go_wp2_with fail
      go_ret
      exact ⟨ret_bool (by rw [HM2.out]; rfl), HB.out⟩
    | true =>
      have HM3 : Hid (mayC ⟨k, ns, t⟩ = mayCT k t) := by rw [HM2.out]; simp [Hid]
      clear HM2
      cases tx with
      | false =>
        go_wp2_with fail
        go_ret
        exact ⟨ret_bool (by rw [HM3.out, HTx.out, if_neg Bool.false_ne_true]; exact str_zero t), HB.out⟩
      | true =>
        go_wp2_with (go_at_call 27; refine (HNm.out _).mono ?_; rintro z w4 ⟨rfl, hb⟩; have HB2 := Lib.hid (below_step HB.out hb); clear hb)
        go_ret
        exact ⟨ret_bool (by rw [HM3.out, HTx.out]; rfl), HB2.out⟩

end Go.Proofs.YtfklkainbkffnaaDoor.Schema
