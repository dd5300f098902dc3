/- What the document's Sorted computes is the one ascending list of the strings: the plain functions of ident alone. -/
import Derived.Test.YtoehpoodfbgdiabDoorIdnH
import Derived.Test.YtoehpoodfbgdiabDoorIdnI
import Derived.Test.YtoehpoodfbgdiabDoorIdnJ
namespace Go.Proofs.YtoehpoodfbgdiabDoor
open Go.RowKit Go.Lib

theorem cmp_lt_tr {x y z : List UInt8} (h1 : cmpL x y < 0) (h2 : cmpL y z < 0) : cmpL x z < 0 := by
  have h3 := cmp_tot.tr x y z (by omega) (by omega)
  by_cases e : cmpL x z = 0
  · have := (cmp_tot.eq x z).1 e
    subst this
    have := cmp_tot.anti x y
    omega
  · omega
theorem cmp_le_tr {x y z : List UInt8} (h1 : cmpL x y < 0) (h2 : cmpL y z ≤ 0) : cmpL x z < 0 := by
  by_cases e : cmpL y z = 0
  · have := (cmp_tot.eq y z).1 e
    subst this
    exact h1
  · exact cmp_lt_tr h1 (by omega)
theorem cmp_irr (x : List UInt8) : ¬ cmpL x x < 0 := by
  have := (cmp_tot.eq x x).2 rfl
  omega
def Asc (l : List (List UInt8)) : Prop := l.Pairwise fun a b => cmpL a b < 0
theorem asc_iff : ∀ l : List (List UInt8), ascB l = true ↔ Asc l
  | [] => by simp [ascB, Asc]
  | [x] => by simp [ascB, Asc]
  | x :: y :: r => by
    have ih := asc_iff (y :: r)
    unfold Asc at ih ⊢
    rw [ascB, Bool.and_eq_true, decide_eq_true_iff, ih]
    simp only [List.pairwise_cons]
    constructor
    · rintro ⟨h1, h2, h3⟩
      refine ⟨fun a ha => ?_, h2, h3⟩
      rcases List.mem_cons.1 ha with rfl | ha
      · exact h1
      · exact cmp_lt_tr h1 (h2 a ha)
    · rintro ⟨h1, h2, h3⟩
      exact ⟨h1 y (by simp), h2, h3⟩
theorem posI_spec (x : List UInt8) (out : List (List UInt8)) : ∀ p, p ≤ out.length → (∀ k, posI x out p ≤ k → k < p → cmpL x (out.getD k []) < 0) ∧ (0 < posI x out p → ¬ cmpL x (out.getD (posI x out p - 1) []) < 0)
  | 0, _ => ⟨fun k _ h => by omega, fun h => by simp [posI] at h⟩
  | p + 1, hp => by
    obtain ⟨h1, h2⟩ := posI_spec x out p (by omega)
    unfold posI
    by_cases h : cmpL x (out.getD p []) < 0
    · rw [if_pos h]
      refine ⟨fun k hk hk2 => ?_, h2⟩
      by_cases e : k = p
      · subst e; exact h
      · exact h1 k hk (by omega)
    · rw [if_neg h]
      exact ⟨fun k hk hk2 => by omega, fun _ => by simpa using h⟩
theorem insS_asc (x : List UInt8) (out : List (List UInt8)) (h : Asc out) : Asc (insS x out (posI x out out.length)) := by
  obtain ⟨h1, h2⟩ := posI_spec x out out.length (Nat.le_refl _)
  have hle := posI_le x out out.length
  obtain ⟨p, hp⟩ : ∃ p, p = posI x out out.length := ⟨_, rfl⟩
  rw [← hp] at h1 h2 hle ⊢
  unfold insS
  by_cases hd : 0 < p ∧ out.getD (p - 1) [] = x
  · rw [if_pos hd]; exact h
  · rw [if_neg hd]
    have hpw := List.pairwise_iff_getElem.1 h
    have hgd : ∀ k (hk : k < out.length), out.getD k [] = out[k] := fun k hk => by
      rw [List.getD_eq_getElem?_getD, List.getElem?_eq_getElem hk]; rfl
    have before : ∀ a, a ∈ out.take p → cmpL a x < 0 := by
      intro a ha
      obtain ⟨k, hk, rfl⟩ := List.getElem_of_mem ha
      rw [List.length_take] at hk
      rw [List.getElem_take]
      have hp0 : 0 < p := by omega
      have h3 := h2 hp0
      rw [hgd (p - 1) (by omega)] at h3
      have h4 := cmp_tot.anti x (out[p - 1]'(by omega))
      have h5 : cmpL (out[p - 1]'(by omega)) x < 0 := by
        have h6 : cmpL x (out[p - 1]'(by omega)) ≠ 0 := by
          intro e
          exact hd ⟨hp0, by rw [hgd (p - 1) (by omega)]; exact ((cmp_tot.eq _ _).1 e).symm⟩
        omega
      by_cases e : k = p - 1
      · subst e; exact h5
      · exact cmp_lt_tr (hpw k (p - 1) (by omega) (by omega) (by omega)) h5
    have behind : ∀ a, a ∈ out.drop p → cmpL x a < 0 := by
      intro a ha
      obtain ⟨k, hk, rfl⟩ := List.getElem_of_mem ha
      rw [List.length_drop] at hk
      rw [List.getElem_drop]
      have := h1 (p + k) (by omega) (by omega)
      rwa [hgd (p + k) (by omega)] at this
    unfold Asc at h ⊢
    rw [List.append_assoc, List.pairwise_append]
    refine ⟨h.sublist (List.take_sublist _ _), ?_, ?_⟩
    · rw [List.singleton_append, List.pairwise_cons]
      exact ⟨behind, h.sublist (List.drop_sublist _ _)⟩
    · intro a ha b hb
      rcases List.mem_append.1 hb with hb | hb
      · rw [List.mem_singleton] at hb
        subst hb
        exact before a ha
      · exact cmp_lt_tr (before a ha) (behind b hb)
theorem insS_has (x : List UInt8) (out : List (List UInt8)) (p : Nat) (hp : p ≤ out.length) (y : List UInt8) : y ∈ insS x out p ↔ y = x ∨ y ∈ out := by
  constructor
  · exact insS_mem
  · intro h
    unfold insS
    by_cases hd : 0 < p ∧ out.getD (p - 1) [] = x
    · rw [if_pos hd]
      rcases h with rfl | h
      · rw [← hd.2, List.getD_eq_getElem?_getD, List.getElem?_eq_getElem (by omega)]
        exact List.getElem_mem _
      · exact h
    · rw [if_neg hd]
      rcases h with rfl | h
      · simp
      · rw [← List.take_append_drop p out] at h
        rcases List.mem_append.1 h with h | h
        · simp [h]
        · simp [h]
theorem foldl_sort : ∀ (L out : List (List UInt8)), Asc out → Asc (L.foldl (fun out x => insS x out (posI x out out.length)) out) ∧ ∀ y, y ∈ L.foldl (fun out x => insS x out (posI x out out.length)) out ↔ y ∈ L ∨ y ∈ out
  | [], out, h => ⟨h, fun y => by simp⟩
  | x :: L, out, h => by
    obtain ⟨h1, h2⟩ := foldl_sort L (insS x out (posI x out out.length)) (insS_asc x out h)
    refine ⟨h1, fun y => ?_⟩
    rw [List.foldl_cons, h2 y, insS_has x out _ (posI_le _ _ _) y, List.mem_cons]
    constructor
    · rintro (h | h | h)
      · exact .inl (.inr h)
      · exact .inl (.inl h)
      · exact .inr h
    · rintro ((h | h) | h)
      · exact .inr (.inl h)
      · exact .inl h
      · exact .inr (.inr h)
/-- Sorted ascends strictly, and has the strings of L. -/
theorem sortR_asc (L : List (List UInt8)) : Asc (sortR L) := (foldl_sort L [] List.Pairwise.nil).1
theorem sortR_mem (L : List (List UInt8)) (y : List UInt8) : y ∈ sortR L ↔ y ∈ L := by
  rw [sortR, (foldl_sort L [] List.Pairwise.nil).2 y]
  simp
/-- Two ascending lists of the same strings are one. -/
theorem asc_unique : ∀ a b : List (List UInt8), Asc a → Asc b → (∀ y, y ∈ a ↔ y ∈ b) → a = b
  | [], [], _, _, _ => rfl
  | [], y :: b, _, _, h => by have := (h y).2 (by simp); simp at this
  | x :: a, [], _, _, h => by have := (h x).1 (by simp); simp at this
  | x :: a, y :: b, ha, hb, h => by
    unfold Asc at ha hb
    rw [List.pairwise_cons] at ha hb
    have hxy : x = y := by
      have h1 := (h x).1 (by simp)
      have h2 := (h y).2 (by simp)
      rcases List.mem_cons.1 h1 with e | h1
      · exact e
      · rcases List.mem_cons.1 h2 with e | h2
        · exact e.symm
        · have q1 := hb.1 x h1
          have q2 := ha.1 y h2
          exact absurd (cmp_lt_tr q1 q2) (cmp_irr y)
    subst hxy
    rw [asc_unique a b ha.2 hb.2 (fun z => ?_)]
    constructor
    · intro hz
      rcases List.mem_cons.1 ((h z).1 (by simp [hz])) with e | e
      · subst e; exact absurd (ha.1 z hz) (cmp_irr z)
      · exact e
    · intro hz
      rcases List.mem_cons.1 ((h z).2 (by simp [hz])) with e | e
      · subst e; exact absurd (hb.1 z hz) (cmp_irr z)
      · exact e
end Go.Proofs.YtoehpoodfbgdiabDoor
