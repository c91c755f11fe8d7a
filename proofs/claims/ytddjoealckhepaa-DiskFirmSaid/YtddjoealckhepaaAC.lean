import Derived.Test.YtddjoealckhepaaAA
/-
  How much room there is: Room; what a refused act leaves.
-/
namespace Go.Proofs.Ytddjoealckhepaa.Disk
open Go Go.RowKit Go.Maps Go.Shelf Go.Proofs

set_option maxRecDepth 100000 in
set_option maxHeartbeats 2000000 in
theorem room_any (a b : Nat) (d : Dk) (hg : d.gone = false) (w : World) (h : DkAt w a b d) :
    Calls Try.prog 16 #[.pointer (some ⟨a, 0, none⟩)] w fun z w' => z = .returned (.tuple #[.int .i64 ((d.cap : Int) - (used d.l : Int)), .int .i64 (64 - (d.l.length : Int)), .int .i64 0]) ∧ Below w.heap.size w w' := by
  have hmx : Try.prog.follows .mixedOrders = true := by kernel_rfl
  have HR := Lib.hid (refusal_any a b d w h)
  rw [show refus d = 0 by simp [refus, hg]] at HR
  have HU := Lib.hid h.ok.used
  have HCAP := Lib.hid h.ok.cap
  have HLEN := Lib.hid h.ok.len
  have HS : Hid (∀ w' : World, Below w.heap.size w w' → Below w.heap.size w w' ∧ DkAt w' a b d ∧ w'.cell? ⟨a, 0, none⟩ = some (.int .i64 (d.cap : Int)) ∧ w'.cell? ⟨a, 1, none⟩ = some (.map (some b))) := fun w' hb =>
    ⟨hb, h.below hb, (h.below hb).cell.1, (h.below hb).cell.2.1⟩
  have hln : ∀ (ty : TypeId) (w' : World), DkAt w' a b d → (Builtin.len_ #[83] ty #[.map (some b)]).run Try.prog w' = .ok (.int .i64 (d.l.length : Int)) w' := fun ty w' hd => len_run hd.mp ty
  have zs : IntKind.i64.wrap ((d.cap : Int) - (used d.l : Int)) = (d.cap : Int) - (used d.l : Int) := by rw [IntKind.wrap_i64]; have h1 := HU.out; have h2 := HCAP.out; omega
  have zt : IntKind.i64.wrap (64 - (d.l.length : Int)) = 64 - (d.l.length : Int) := by rw [IntKind.wrap_i64]; have h1 := HLEN.out; omega
  obtain ⟨r1, r2, r3, r4⟩ := HS.out w.drew (Below.refl _ _).drew
  clear h hg
  go_enter Try.func16, Try.ntmps16
  go_wp2_with fail
  refine HR.out.mono ?_
  rintro z w1 ⟨rfl, hb⟩
  rw [hb]
  clear hb
  go_wp2_with fail
  go_region_held3 (fun w' => Below w.heap.size w w' ∧ DkAt w' a b d ∧ w'.cell? ⟨a, 0, none⟩ = some (.int .i64 (d.cap : Int)) ∧ w'.cell? ⟨a, 1, none⟩ = some (.map (some b)))
    (first | assumption | (refine ⟨?_, ?_, ?_, ?_⟩ <;> assumption))
    ((first | (go_at_call 26; refine (used_any a b d _ (by assumption)).mono ?_; rintro z w' ⟨rfl, hb4⟩; obtain ⟨p1, p2, p3, p4⟩ := HS.out w' (below_step (by assumption) hb4))))
  all_goals
    have hB := Lib.hid (show Below w.heap.size w _ by assumption)
    go_wp2_with fail
    refine bodyPost_ret (v := .tuple #[.int .i64 ((d.cap : Int) - (used d.l : Int)), .int .i64 (64 - (d.l.length : Int)), .int .i64 0]) (by simp [results, Try.results16, go_sem]) rfl ?_
    exact ⟨rfl, hB.out⟩

/-- all bytes of the files that are told -/
def bulk : List Fi → Nat
  | [] => 0
  | x :: r => (x.d.length + x.p.length) + bulk r
theorem bulk_snoc (l : List Fi) (x : Fi) : bulk (l ++ [x]) = bulk l + (x.d.length + x.p.length) := by
  induction l with
  | nil => simp [bulk]
  | cons y r ih => simp only [List.cons_append, bulk, ih]; omega
theorem bulk_take (l : List Fi) (k : Nat) (hk : k < l.length) : bulk (l.take (k + 1)) = bulk (l.take k) + (l[k].d.length + l[k].p.length) := by
  rw [List.take_add_one, List.getElem?_eq_getElem hk]
  exact bulk_snoc _ _
theorem bulk_le (l : List Fi) (k : Nat) : bulk (l.take k) ≤ bulk l := by
  induction l generalizing k with
  | nil => simp [bulk]
  | cons y r ih =>
    cases k with
    | zero => simp [bulk]
    | succ k => have := ih k; simp only [List.take_succ_cons, bulk]; omega
theorem bulk_told {l : List (Nm × F)} (h : ∀ p ∈ l, p.2.ok) : bulk (told l) = used l := by
  induction l with
  | nil => rfl
  | cons p r ih =>
    have h1 := ih fun q hq => h q (List.mem_cons_of_mem _ hq)
    have h2 : p.2.g ≤ p.2.b.length := (h p (List.mem_cons_self ..)).1
    have h3 : used (p :: r) = p.2.b.length + used r := by simp [used, tot]
    have h4 : bulk (told (p :: r)) = ((tell p).d.length + (tell p).p.length) + bulk (told r) := rfl
    rw [h4, h3, h1]
    simp only [tell, List.length_take, List.length_drop]
    omega
/-- an append behind a file that is there -/
theorem append_over {d : Dk} {c : Nat} (h : d.live c) {n : Nm} {f : F} (hg : get d.l n = some f) {s : List UInt8} (hs : d.cap < used d.l + s.length) : appendD d n s = (44, d) := by
  unfold appendD
  rw [h.gone, hg]
  simp only [Bool.false_eq_true, if_false]
  rw [if_pos (Or.inr hs)]
theorem append_fits {d : Dk} {c : Nat} (h : d.live c) (ho : d.ok) (hc : c ≤ 1048576) {n : Nm} {f : F} (hg : get d.l n = some f) {s : List UInt8} (hs : used d.l + s.length = d.cap) :
    ∃ d', appendD d n s = (0, d') ∧ used d'.l = d.cap := by
  have hm : f.b.length ≤ used d.l := tot_mem (fun f => f.b.length) (get_mem hg)
  have hk := h.cap
  unfold appendD
  rw [h.gone, hg]
  simp only [Bool.false_eq_true, if_false]
  rw [if_neg (by omega), show cntE d = 0 by unfold cntE; rw [if_neg (by rw [h.cut]; simp)]]
  refine ⟨_, rfl, ?_⟩
  have := used_put ho.up n (⟨f.b ++ s, f.g⟩ : F)
  rw [hg] at this
  simp only [Option.getD_some, List.length_append] at this
  show used (put n ⟨f.b ++ s, f.g⟩ d.l) = d.cap
  omega
end Go.Proofs.Ytddjoealckhepaa.Disk
