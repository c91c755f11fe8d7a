import Derived.Test.YtkccdffccjgajaaGreatDoorRK
/-
  What Split's segments are: plain mathematics.
-/
namespace Go.Proofs.YtkccdffccjgajaaGreatDoor.Seg
open Go
open Go.Proofs.YtkccdffccjgajaaGreatDoor.Wire (S S_list S_size)
open Go.Proofs.YtkccdffccjgajaaGreatDoor.Frame

/-- segments, one behind the other: each one's first batch; none too great but one of a frame alone; the first payload of one did not go into the one ahead -/
def Chain (most : Int) : Option Nat → Nat → List (Nat × List (List UInt8)) → Prop
  | _, _, [] => True
  | prev, q, g :: r => g.1 = q ∧ ((segN g.2 : Int) ≤ most ∨ g.2.length = 1) ∧ (∀ sz, prev = some sz → ∃ p t, g.2 = p :: t ∧ fitsB (sz : Int) (p.length : Int) most = false) ∧ Chain most (some (segN g.2)) (q + g.2.length) r
theorem fits_size {cur : List (List UInt8)} {p : List UInt8} {most : Int} (h : fitsB (segN cur : Int) (p.length : Int) most = true) : (segN (cur ++ [p]) : Int) ≤ most ∨ (cur ++ [p]).length = 1 := by
  unfold fitsB at h
  rw [Bool.and_eq_true, Bool.or_eq_true, decide_eq_true_iff, decide_eq_true_iff, decide_eq_true_iff] at h
  rcases h.2 with h | h
  · right
    have : segN cur = 16 := by omega
    rw [segN_16.1 this]; rfl
  · left
    rw [segN_snoc]; omega
theorem spl_chain (most : Int) : ∀ (ps : List (List UInt8)) (q : Nat) (cur : List (List UInt8)) (prev : Option Nat), ((segN cur : Int) ≤ most ∨ cur.length = 1) → (∀ sz, prev = some sz → ∃ p t, cur = p :: t ∧ fitsB (sz : Int) (p.length : Int) most = false) → Chain most prev q (spl most q cur ps)
  | [], q, cur, prev, h1, h2 => by
    rw [spl]
    exact ⟨rfl, h1, h2, trivial⟩
  | p :: r, q, cur, prev, h1, h2 => by
    rw [spl]
    by_cases hf : fitsB (segN cur : Int) (p.length : Int) most = true
    · rw [if_pos hf]
      refine spl_chain most r q (cur ++ [p]) prev (fits_size hf) (fun sz hs => ?_)
      obtain ⟨p0, t, rfl, h3⟩ := h2 sz hs
      exact ⟨p0, t ++ [p], rfl, h3⟩
    · rw [if_neg hf]
      refine ⟨rfl, h1, h2, ?_⟩
      refine spl_chain most r (q + cur.length) [p] (some (segN cur)) (Or.inr rfl) (fun sz hs => ?_)
      cases hs
      exact ⟨p, [], rfl, by simpa using hf⟩
theorem spl_flat (most : Int) : ∀ (ps : List (List UInt8)) (q : Nat) (cur : List (List UInt8)), ((spl most q cur ps).map Prod.snd).flatten = cur ++ ps
  | [], q, cur => by rw [spl]; simp
  | p :: r, q, cur => by
    rw [spl]
    by_cases hf : fitsB (segN cur : Int) (p.length : Int) most = true
    · rw [if_pos hf, spl_flat most r q (cur ++ [p]), List.append_assoc]; rfl
    · rw [if_neg hf, List.map_cons, List.flatten_cons, spl_flat most r (q + cur.length) [p]]; rfl
/-- where the walk is behind some segments -/
structure SpW (most : Int) (a : Nat) (xs : List ByteArray) (i : Nat) (prev : Option Nat) (q : Nat) (done : List (List UInt8)) : Prop where
  le : i ≤ (grp most a xs).length
  chain : Chain most prev q ((grp most a xs).drop i)
  flat : done ++ (((grp most a xs).drop i).map Prod.snd).flatten = bytesP xs
  here : q = a + done.length
theorem spw_first {most : Int} (hm : 64 ≤ most) (a : Nat) (xs : List ByteArray) : SpW most a xs 0 none a [] :=
  ⟨Nat.zero_le _, spl_chain most (bytesP xs) a [] none (Or.inl (by rw [segN_nil]; omega)) (fun _ h => by cases h), by rw [List.drop_zero]; unfold grp; rw [spl_flat]; rfl, rfl⟩
theorem spw_next {most : Int} {a : Nat} {xs : List ByteArray} {i : Nat} {prev : Option Nat} {q : Nat} {done : List (List UInt8)} (h : SpW most a xs i prev q done) (hi : i < (grp most a xs).length) :
    ((grp most a xs)[i]'hi).1 = q ∧ ((segN ((grp most a xs)[i]'hi).2 : Int) ≤ most ∨ ((grp most a xs)[i]'hi).2.length = 1) ∧ (∀ sz, prev = some sz → ∃ p t, ((grp most a xs)[i]'hi).2 = p :: t ∧ fitsB (sz : Int) (p.length : Int) most = false) ∧
      SpW most a xs (i + 1) (some (segN ((grp most a xs)[i]'hi).2)) (q + ((grp most a xs)[i]'hi).2.length) (done ++ ((grp most a xs)[i]'hi).2) := by
  have hd : (grp most a xs).drop i = (grp most a xs)[i]'hi :: (grp most a xs).drop (i + 1) := List.drop_eq_getElem_cons hi
  have hc := h.chain
  rw [hd] at hc
  obtain ⟨h1, h2, h3, h4⟩ := hc
  refine ⟨h1, h2, h3, hi, h4, ?_, ?_⟩
  · have := h.flat
    rw [hd, List.map_cons, List.flatten_cons] at this
    rw [List.append_assoc]; exact this
  · rw [List.length_append, h.here]; omega
theorem spw_last {most : Int} {a : Nat} {xs : List ByteArray} {prev : Option Nat} {q : Nat} {done : List (List UInt8)} (h : SpW most a xs (grp most a xs).length prev q done) : done = bytesP xs ∧ q = a + xs.length := by
  have hf := h.flat
  rw [List.drop_length] at hf
  have hd : done = bytesP xs := by simpa using hf
  exact ⟨hd, by rw [h.here, hd, bytesP_len]⟩
/-- each segment's payloads are as payloads must be, and its number is so small -/
theorem spw_ok {most : Int} {a : Nat} {xs : List ByteArray} (hok : okP a (bytesP xs)) {i : Nat} {prev : Option Nat} {q : Nat} {done : List (List UInt8)} (h : SpW most a xs i prev q done) (hi : i < (grp most a xs).length) : okP q ((grp most a xs)[i]'hi).2 := by
  obtain ⟨_, _, _, h4⟩ := spw_next h hi
  have hf := h4.flat
  refine ⟨?_, fun p hp => hok.2 p ?_⟩
  · have hl := congrArg List.length hf
    rw [List.length_append, List.length_append] at hl
    have := hok.1
    have := h.here
    omega
  · rw [← hf]
    exact List.mem_append_left _ (List.mem_append_right _ hp)
end Go.Proofs.YtkccdffccjgajaaGreatDoor.Seg
