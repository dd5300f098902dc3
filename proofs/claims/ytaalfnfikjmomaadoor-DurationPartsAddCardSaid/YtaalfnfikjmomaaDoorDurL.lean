/- What the statements of duration rest on: a text that is accepted is the text of its number, and the text of a number stands for it. -/
import Derived.Test.YtaalfnfikjmomaaDoorDurLives
namespace Go.Proofs.YtaalfnfikjmomaaDoor
open Go.RowKit Go.Lib

theorem doc_ok {l : List UInt8} {n : Nat} (h : docP l = (n, 0)) : n ≤ 1125899906842624 ∧ showD n = l := by
  unfold docP at h
  split at h
  · rename_i h0
    simp only [Prod.mk.injEq, and_true] at h
    subst h
    exact ⟨by omega, by rw [h0]; rfl⟩
  · split at h
    · simp at h
    · rename_i h1
      cases hp : parseL 5 l 0 0 false with
      | none => rw [hp] at h; simp at h
      | some q =>
        obtain ⟨t, b⟩ := q
        rw [hp] at h
        dsimp only at h
        split at h
        · simp at h
        · rename_i h2
          simp only [Prod.mk.injEq, and_true] at h
          subst h
          simp only [not_or, Bool.not_eq_true] at h2
          obtain ⟨rfl, h2⟩ := h2
          obtain ⟨m, e1, e2, e3⟩ := show_parse 5 l 0 0 t (by omega) hp
          have : t = m := by omega
          subst this
          have ht : t ≠ 0 := by
            rintro rfl
            rw [showJ_skip (5 - 0) 0 0 (by omega) (by omega) (by decide)] at e3
            exact h1 e3
          exact ⟨by unfold MT at h2; omega, by unfold showD; rw [if_neg ht]; exact e3.symm⟩
theorem showD_doc (n : Nat) (hn : n ≤ 1125899906842624) : docP (showD n) = (n, 0) := by
  unfold showD
  split
  · rename_i h
    subst h
    rfl
  · rename_i h
    have hp := parse_show 5 5 0 n 0 false (by omega) (by omega) (by omega) (by simp [limJ]; omega)
    have h0 : showJ 5 n ≠ [] := by
      intro e
      rw [e] at hp
      simp [parseL] at hp
      omega
    have h1 : showJ 5 n ≠ [48, 115] := by
      intro e
      rw [e] at hp
      simp [parseL, numL, unitL] at hp
    unfold docP
    rw [if_neg h1, if_neg h0, hp]
    dsimp only
    rw [if_neg (by unfold MT; simp; omega)]
    simp
theorem showJ_len : ∀ (j m : Nat), j ≤ 5 → m < 1000000000000000000 → (showJ j m).length ≤ 20 * j
  | 0, m, _, _ => by simp [showJ]
  | j + 1, m, hj, hm => by
    have hp := lim_pos j
    have h1 : m % limJ j ≤ m := Nat.mod_le _ _
    have ih := showJ_len j (m % limJ j) (by omega) (by omega)
    rw [showJ]
    split
    · have h2 : m / limJ j ≤ m := Nat.div_le_self _ _
      have hd := decN_len 17 (m / limJ j) (by rw [show (10 : Nat) ^ (17 + 1) = 1000000000000000000 by decide]; omega)
      have hn : (nameU (4 - j)).length ≤ 2 := by unfold nameU; split <;> simp
      rw [List.length_append, List.length_append]
      omega
    · omega
theorem showD_len (n : Nat) (hn : n ≤ 1125899906842624) : (showD n).length ≤ 100 := by
  unfold showD
  split
  · simp
  · exact showJ_len 5 n (by omega) (by omega)
theorem limD_le (z : Int) : limD z ≤ 1125899906842624 := by unfold limD; split <;> (try split) <;> omega
theorem limD_id (n : Nat) (h : n ≤ 1125899906842624) : limD (n : Int) = n := by unfold limD; rw [if_neg (by omega), if_neg (by omega)]; omega
theorem prog_errs (l : List UInt8) : (docP l).2 = 0 ∨ (docP l).2 = 5 ∨ (docP l).2 = 2 := by
  unfold docP
  split
  · exact .inl rfl
  · split
    · exact .inr (.inl rfl)
    · split
      · exact .inr (.inl rfl)
      · split
        · exact .inr (.inr rfl)
        · exact .inl rfl
theorem docP_le (l : List UInt8) : (docP l).1 ≤ 1125899906842624 := by
  by_cases h : (docP l).2 = 0
  · exact (doc_ok (l := l) (n := (docP l).1) (by rw [← h])).1
  · unfold docP at h ⊢
    split
    · simp
    · split
      · simp
      · split
        · simp
        · split
          · simp
          · rename_i h1 h2 _ _ _ h3 h4
            rw [if_neg h1, if_neg h2, h3] at h
            dsimp only at h
            rw [if_neg h4] at h
            exact absurd rfl h
end Go.Proofs.YtaalfnfikjmomaaDoor
