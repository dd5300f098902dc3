/- What the search of overlaps keeps (glob). No function of the program is named. -/
import Derived.Test.YtaalfnfikjmomaaGlbOc
namespace Go.Proofs.Ytaalfnfikjmomaa
open Go.RowKit Go.Lib Go.Maps

theorem exists_least (R : Nat → Prop) (h : ∃ k, R k) : ∃ k, R k ∧ ∀ j, R j → k ≤ j := by
  obtain ⟨k, hk⟩ := h
  induction k using Nat.strongRecOn with
  | ind k ih =>
    by_cases hj : ∃ j, j < k ∧ R j
    · obtain ⟨j, h1, h2⟩ := hj
      exact ih j h1 h2
    · exact ⟨k, hk, fun j hR => Nat.le_of_not_lt fun hlt => hj ⟨j, hlt, hR⟩⟩
/-- The least number of a property, or 0. -/
noncomputable def lst (R : Nat → Prop) : Nat := @dite _ (∃ k, R k) (Classical.propDecidable _) (fun h => Classical.choose (exists_least R h)) (fun _ => 0)
theorem lst_spec {R : Nat → Prop} (h : ∃ k, R k) : R (lst R) ∧ ∀ j, R j → lst R ≤ j := by
  unfold lst
  rw [dif_pos h]
  exact Classical.choose_spec (exists_least R h)
theorem lst_lt {R R' : Nat → Prop} {k : Nat} (h : R' k) (hk : k < lst R) : lst R' < lst R := Nat.lt_of_le_of_lt ((lst_spec ⟨k, h⟩).2 k h) hk

/-- How many pairs have not been seen. -/
def allP (m n : Nat) : List (Nat × Nat) := (List.range m).flatMap fun a => (List.range n).map fun b => (a, b)
theorem mem_allP {m n : Nat} {p : Nat × Nat} : p ∈ allP m n ↔ p.1 < m ∧ p.2 < n := by
  unfold allP
  rw [List.mem_flatMap]
  constructor
  · rintro ⟨a, ha, h⟩
    obtain ⟨b, hb, rfl⟩ := List.mem_map.1 h
    exact ⟨List.mem_range.1 ha, List.mem_range.1 hb⟩
  · rintro ⟨h1, h2⟩
    exact ⟨p.1, List.mem_range.2 h1, List.mem_map.2 ⟨p.2, List.mem_range.2 h2, rfl⟩⟩
def unseen (m n : Nat) (S : Nat → Nat → Bool) : Nat := (allP m n).countP fun p => !S p.1 p.2
theorem countP_le' {α : Type} {p q : α → Bool} : ∀ (l : List α), (∀ x, p x = true → q x = true) → l.countP p ≤ l.countP q
  | [], _ => Nat.le_refl _
  | a :: l, h => by
    have ih := countP_le' l h
    rw [List.countP_cons, List.countP_cons]
    by_cases hp : p a = true
    · rw [if_pos hp, if_pos (h a hp)]; omega
    · rw [if_neg hp]; split <;> omega
theorem countP_lt' {α : Type} {p q : α → Bool} {x : α} : ∀ (l : List α), (∀ x, p x = true → q x = true) → x ∈ l → q x = true → p x = false → l.countP p < l.countP q
  | [], _, hx, _, _ => by cases hx
  | a :: l, h, hx, hq, hp => by
    rw [List.countP_cons, List.countP_cons]
    rcases List.mem_cons.1 hx with rfl | hx
    · have := countP_le' l h
      rw [if_pos hq, if_neg (by rw [hp]; decide)]
      omega
    · have ih := countP_lt' l h hx hq hp
      by_cases hpa : p a = true
      · rw [if_pos hpa, if_pos (h a hpa)]; omega
      · rw [if_neg hpa]; split <;> omega
/-- The sets with one pair more. -/
def updS (S : Nat → Nat → Bool) (a b : Nat) : Nat → Nat → Bool := fun i j => if i = a then upd (S a) b true j else S i j
theorem updS_self (S : Nat → Nat → Bool) (a b : Nat) : updS S a b a b = true := by unfold updS upd; simp
theorem updS_mono {S : Nat → Nat → Bool} {a b i j : Nat} (h : S i j = true) : updS S a b i j = true := by
  unfold updS upd
  split
  · rename_i e; subst e
    split
    · rfl
    · exact h
  · exact h
theorem updS_inv {S : Nat → Nat → Bool} {a b i j : Nat} (h : updS S a b i j = true) : (i = a ∧ j = b) ∨ S i j = true := by
  unfold updS upd at h
  split at h
  · rename_i e; subst e
    split at h
    · rename_i e; exact .inl ⟨rfl, e⟩
    · exact .inr h
  · exact .inr h
theorem unseen_lt {m n : Nat} {S : Nat → Nat → Bool} {a b : Nat} (ha : a < m) (hb : b < n) (h : S a b = false) : unseen m n (updS S a b) < unseen m n S := by
  unfold unseen
  refine countP_lt' (x := (a, b)) _ (fun x hx => ?_) (mem_allP.2 ⟨ha, hb⟩) (by simp [h]) (by simp [updS_self])
  cases hs : S x.1 x.2 with
  | false => rfl
  | true => rw [updS_mono hs] at hx; cases hx

/-- The pairs that wait and those that have been seen, while the successors of p are looked at: those in dn are done. -/
structure Srch (M N : List MSt) (p : Option (Nat × Nat)) (dn : List (Nat × Nat)) (Wl : List (Nat × Nat)) (S : Nat → Nat → Bool) : Prop where
  wait : ∀ q, q ∈ Wl → q.1 < M.length ∧ q.2 < N.length ∧ RT M N (0, 0) q
  seen : ∀ a b, S a b = true → a < M.length ∧ b < N.length ∧ RT M N (0, 0) (a, b)
  done : ∀ q, q ∈ dn → S q.1 q.2 = true ∧ q ≠ (M.length - 1, N.length - 1)
  closed : ∀ q : Nat × Nat, (q = (0, 0) ∨ S q.1 q.2 = true) → some q = p ∨ q ∈ Wl ∨ ∀ r ∈ succL M N q, S r.1 r.2 = true ∧ r ≠ (M.length - 1, N.length - 1)
theorem srch_start {M N : List MSt} (hM : Mach M) (hN : Mach N) : Srch M N none [] [(0, 0)] (fun _ _ => false) := by
  refine ⟨fun q hq => ?_, fun a b h => (nomatch h), fun q hq => (nomatch hq), fun q hq => ?_⟩
  · simp at hq; subst hq
    exact ⟨List.length_pos_iff.2 hM.ne, List.length_pos_iff.2 hN.ne, .refl⟩
  · rcases hq with rfl | h
    · exact .inr (.inl (by simp))
    · cases h
theorem srch_pop {M N : List MSt} {p : Nat × Nat} {Wl : List (Nat × Nat)} {S : Nat → Nat → Bool} (h : Srch M N none [] (Wl ++ [p]) S) : Srch M N (some p) [] Wl S ∧ p.1 < M.length ∧ p.2 < N.length ∧ RT M N (0, 0) p := by
  refine ⟨⟨fun q hq => h.wait q (List.mem_append_left _ hq), h.seen, fun q hq => (nomatch hq), fun q hq => ?_⟩, h.wait p (by simp)⟩
  rcases h.closed q hq with h | h | h
  · cases h
  · rcases List.mem_append.1 h with h | h
    · exact .inr (.inl h)
    · simp at h; exact .inl (by rw [h])
  · exact .inr (.inr h)
theorem srch_old {M N : List MSt} {p : Option (Nat × Nat)} {dn Wl : List (Nat × Nat)} {S : Nat → Nat → Bool} {q : Nat × Nat} (h : Srch M N p dn Wl S) (hq : S q.1 q.2 = true) (he : q ≠ (M.length - 1, N.length - 1)) : Srch M N p (dn ++ [q]) Wl S := by
  refine ⟨h.wait, h.seen, fun r hr => ?_, h.closed⟩
  rcases List.mem_append.1 hr with hr | hr
  · exact h.done r hr
  · simp at hr; subst hr; exact ⟨hq, he⟩
theorem srch_new {M N : List MSt} {p : Option (Nat × Nat)} {dn Wl : List (Nat × Nat)} {S : Nat → Nat → Bool} {q : Nat × Nat} (h : Srch M N p dn Wl S) (h1 : q.1 < M.length) (h2 : q.2 < N.length) (hr : RT M N (0, 0) q) (he : q ≠ (M.length - 1, N.length - 1)) : Srch M N p (dn ++ [q]) (Wl ++ [q]) (updS S q.1 q.2) := by
  refine ⟨fun r hr2 => ?_, fun a b hs => ?_, fun r hr2 => ?_, fun r hr2 => ?_⟩
  · rcases List.mem_append.1 hr2 with hr2 | hr2
    · exact h.wait r hr2
    · simp at hr2; subst hr2; exact ⟨h1, h2, hr⟩
  · rcases updS_inv hs with ⟨rfl, rfl⟩ | hs
    · exact ⟨h1, h2, hr⟩
    · exact h.seen a b hs
  · rcases List.mem_append.1 hr2 with hr2 | hr2
    · exact ⟨updS_mono (h.done r hr2).1, (h.done r hr2).2⟩
    · simp at hr2; subst hr2; exact ⟨updS_self _ _ _, he⟩
  · have key : (r = (0, 0) ∨ S r.1 r.2 = true) ∨ r = q := by
      rcases hr2 with e | e
      · exact .inl (.inl e)
      · rcases updS_inv e with ⟨e1, e2⟩ | e
        · exact .inr (Prod.ext e1 e2)
        · exact .inl (.inr e)
    rcases key with e | rfl
    · rcases h.closed r e with e | e | e
      · exact .inl e
      · exact .inr (.inl (List.mem_append_left _ e))
      · exact .inr (.inr fun x hx => ⟨updS_mono (e x hx).1, (e x hx).2⟩)
    · exact .inr (.inl (by simp))
theorem srch_end {M N : List MSt} {p : Nat × Nat} {Wl : List (Nat × Nat)} {S : Nat → Nat → Bool} (h : Srch M N (some p) (succL M N p) Wl S) : Srch M N none [] Wl S := by
  refine ⟨h.wait, h.seen, fun q hq => (nomatch hq), fun q hq => ?_⟩
  rcases h.closed q hq with e | e | e
  · injection e with e; subst e
    exact .inr (.inr h.done)
  · exact .inr (.inl e)
  · exact .inr (.inr e)
theorem srch_over {M N : List MSt} {S : Nat → Nat → Bool} (h : Srch M N none [] [] S) : RT M N (0, 0) (M.length - 1, N.length - 1) ↔ (0, 0) = (M.length - 1, N.length - 1) := by
  constructor
  · intro hr
    apply Classical.byContradiction
    intro hne
    refine RT.never (V := fun q => q = (0, 0) ∨ S q.1 q.2 = true) (fun q hq r hr => ?_) hr (.inl rfl) hne rfl
    rcases h.closed q hq with e | e | e
    · cases e
    · cases e
    · exact ⟨.inr (e r hr).1, (e r hr).2⟩
  · intro e
    rw [← e]
    exact .refl
end Go.Proofs.Ytaalfnfikjmomaa
