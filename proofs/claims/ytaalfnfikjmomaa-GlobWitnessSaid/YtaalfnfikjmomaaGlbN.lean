/- The document's way of matching (from which elements the rest can be matched) decides GM. No function of the program is named. -/
import Derived.Test.YtaalfnfikjmomaaGlbM
namespace Go.Proofs.Ytaalfnfikjmomaa

/-- The row p says from which elements the rest of the string behind its first k bytes is to be matched. -/
def OnInv (l : List GE) (s : List UInt8) (k : Nat) (p : Nat → Bool) : Prop := GM l s ↔ ∃ j, j ≤ l.length ∧ p j = true ∧ GM (l.drop j) (s.drop k)
def Closed (l : List GE) (p : Nat → Bool) (i : Nat) : Prop := ∀ j (h : j < l.length), j < i → p j = true → manyB l[j] = true → p (j + 1) = true
theorem on_start (l : List GE) (s : List UInt8) : OnInv l s 0 (fun j => decide (j = 0)) := by
  constructor
  · intro h
    exact ⟨0, by omega, by simp, by simpa using h⟩
  · rintro ⟨j, _, h1, h2⟩
    simp at h1
    subst h1
    simpa using h2
theorem on_close {l : List GE} {s : List UInt8} {k : Nat} {p : Nat → Bool} (h : OnInv l s k p) {i : Nat} (hi : i < l.length) (hp : p i = true) (hm : manyB l[i] = true) : OnInv l s k (fun j => if j = i + 1 then true else p j) := by
  constructor
  · intro g
    obtain ⟨j, h1, h2, h3⟩ := h.1 g
    refine ⟨j, h1, ?_, h3⟩
    dsimp only
    split
    · rfl
    · exact h2
  · rintro ⟨j, h1, h2, h3⟩
    dsimp only at h2
    split at h2
    · rename_i e
      subst e
      refine h.2 ⟨i, by omega, hp, ?_⟩
      rw [List.drop_eq_getElem_cons hi]
      exact .skip hm h3
    · exact h.2 ⟨j, h1, h2, h3⟩
theorem closed_set {l : List GE} {p : Nat → Bool} {i : Nat} (h : Closed l p i) : Closed l (fun j => if j = i + 1 then true else p j) (i + 1) := by
  intro j hj hlt hp hm
  dsimp only at hp ⊢
  split
  · rfl
  · rename_i h1
    rw [if_neg (by omega)] at hp
    exact h j hj (by omega) hp hm
theorem closed_next {l : List GE} {p : Nat → Bool} {i : Nat} (h : Closed l p i) (hn : ∀ (hi : i < l.length), ¬ (p i = true ∧ manyB l[i] = true)) : Closed l p (i + 1) := by
  intro j hj hlt hp hm
  by_cases e : j = i
  · subst e
    exact absurd ⟨hp, hm⟩ (hn hj)
  · exact h j hj (by omega) hp hm
theorem on_end {l : List GE} {p : Nat → Bool} (hc : Closed l p l.length) : ∀ (m j : Nat), m = l.length - j → j ≤ l.length → p j = true → GM (l.drop j) [] → p l.length = true
  | 0, j, hm, hj, hp, _ => by
    obtain rfl : j = l.length := by omega
    exact hp
  | m + 1, j, hm, hj, hp, hg => by
    have hlt : j < l.length := by omega
    rw [List.drop_eq_getElem_cons hlt] at hg
    cases hg with
    | skip hmn hg => exact on_end hc m (j + 1) (by omega) (by omega) (hc j hlt hlt hp hmn) hg
theorem on_final {l : List GE} {s : List UInt8} {p : Nat → Bool} (h : OnInv l s s.length p) (hc : Closed l p l.length) : GM l s ↔ p l.length = true := by
  constructor
  · intro g
    obtain ⟨j, h1, h2, h3⟩ := h.1 g
    rw [List.drop_eq_nil_of_le (Nat.le_refl _)] at h3
    exact on_end hc _ j rfl h1 h2 h3
  · intro hp
    refine h.2 ⟨l.length, Nat.le_refl _, hp, ?_⟩
    rw [List.drop_eq_nil_of_le (Nat.le_refl _), List.drop_eq_nil_of_le (Nat.le_refl _)]
    exact .nil
/-- What the next row says once the elements before i have been looked at. -/
def NextIs (l : List GE) (p : Nat → Bool) (c : UInt8) (i : Nat) (q : Nat → Bool) : Prop :=
  ∀ j, q j = true ↔ ∃ k, ∃ (h : k < l.length), k < i ∧ p k = true ∧ fitsB l[k] c = true ∧ j = if manyB l[k] = true then k else k + 1
theorem next_start (l : List GE) (p : Nat → Bool) (c : UInt8) : NextIs l p c 0 (fun _ => false) := by
  intro j
  constructor
  · intro h; cases h
  · rintro ⟨k, _, h, _⟩; omega
theorem next_set {l : List GE} {p q : Nat → Bool} {c : UInt8} {i : Nat} (h : NextIs l p c i q) (hi : i < l.length) (hp : p i = true) (hf : fitsB l[i] c = true) :
    NextIs l p c (i + 1) (fun j => if j = (if manyB l[i] = true then i else i + 1) then true else q j) := by
  intro j
  dsimp only
  constructor
  · intro g
    by_cases e : j = if manyB l[i] = true then i else i + 1
    · exact ⟨i, hi, by omega, hp, hf, e⟩
    · rw [if_neg e] at g
      obtain ⟨k, h1, h2, h3⟩ := (h j).1 g
      exact ⟨k, h1, by omega, h3⟩
  · rintro ⟨k, h1, h2, h3, h4, h5⟩
    by_cases e : k = i
    · subst e
      rw [if_pos h5]
    · by_cases e2 : j = if manyB l[i] = true then i else i + 1
      · rw [if_pos e2]
      · rw [if_neg e2]
        exact (h j).2 ⟨k, h1, by omega, h3, h4, h5⟩
theorem next_skip {l : List GE} {p q : Nat → Bool} {c : UInt8} {i : Nat} (h : NextIs l p c i q) (hn : ∀ (hi : i < l.length), ¬ (p i = true ∧ fitsB l[i] c = true)) : NextIs l p c (i + 1) q := by
  intro j
  rw [h j]
  constructor
  · rintro ⟨k, h1, h2, h3⟩; exact ⟨k, h1, by omega, h3⟩
  · rintro ⟨k, h1, h2, h3, h4, h5⟩
    refine ⟨k, h1, ?_, h3, h4, h5⟩
    by_cases e : k = i
    · subst e; exact absurd ⟨h3, h4⟩ (hn h1)
    · omega
theorem on_step_fwd {l : List GE} {p q : Nat → Bool} {c : UInt8} {r : List UInt8} (hc : Closed l p l.length) (hq : NextIs l p c l.length q) :
    ∀ (m j : Nat), m = l.length - j → j ≤ l.length → p j = true → GM (l.drop j) (c :: r) → ∃ j, j ≤ l.length ∧ q j = true ∧ GM (l.drop j) r
  | 0, j, hm, hj, hp, hg => by
    rw [List.drop_eq_nil_of_le (by omega)] at hg
    cases hg
  | m + 1, j, hm, hj, hp, hg => by
    have hlt : j < l.length := by omega
    rw [List.drop_eq_getElem_cons hlt] at hg
    cases hg with
    | skip hmn hg => exact on_step_fwd hc hq m (j + 1) (by omega) (by omega) (hc j hlt hlt hp hmn) hg
    | stay hmn hf hg =>
      refine ⟨j, hj, (hq j).2 ⟨j, hlt, hlt, hp, hf, by rw [if_pos hmn]⟩, ?_⟩
      rw [List.drop_eq_getElem_cons hlt]
      exact hg
    | one hmn hf hg => exact ⟨j + 1, hlt, (hq (j + 1)).2 ⟨j, hlt, hlt, hp, hf, by rw [if_neg (by rw [hmn]; decide)]⟩, hg⟩
theorem on_step {l : List GE} {s : List UInt8} {k : Nat} {p q : Nat → Bool} (hk : k < s.length) (h : OnInv l s k p) (hc : Closed l p l.length) (hq : NextIs l p s[k] l.length q) : OnInv l s (k + 1) q := by
  have hd : s.drop k = s[k] :: s.drop (k + 1) := List.drop_eq_getElem_cons hk
  unfold OnInv at *
  rw [hd] at h
  rw [h]
  constructor
  · rintro ⟨j, h1, h2, h3⟩
    exact on_step_fwd hc hq _ j rfl h1 h2 h3
  · rintro ⟨j, h1, h2, h3⟩
    obtain ⟨i, hi, _, hp, hf, hj⟩ := (hq j).1 h2
    refine ⟨i, by omega, hp, ?_⟩
    rw [List.drop_eq_getElem_cons hi]
    by_cases hm : manyB l[i] = true
    · rw [if_pos hm] at hj
      subst hj
      rw [List.drop_eq_getElem_cons hi] at h3
      exact .stay hm hf h3
    · rw [if_neg hm] at hj
      subst hj
      exact .one (by simpa using hm) hf h3
end Go.Proofs.Ytaalfnfikjmomaa
