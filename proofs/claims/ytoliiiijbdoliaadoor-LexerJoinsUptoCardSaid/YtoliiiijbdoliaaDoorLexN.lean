/- A token ends at a rune's beginning (pure). -/
import Derived.Test.YtoliiiijbdoliaaDoorLexM
import Derived.Laws.RangeAny
namespace Go.Proofs.YtoliiiijbdoliaaDoor
open Go.RowKit Go.Lib
set_option linter.unusedVariables false

theorem decode_cont (s : ByteArray) (pos : Nat) (h : pos < s.size) (ha : 128 ≤ (s[pos]'h).toNat) (k : Nat) (h1 : 1 ≤ k) (h2 : k < (Utf8.decode s pos).2) : pos + k < s.size ∧ 128 ≤ (s.get! (pos + k)).toNat := by
  have hn : ¬ (s[pos]'h).toNat < 128 := by omega
  simp only [Utf8.decode, get_at s pos h, hn, if_false] at h2
  split at h2
  · rename_i hc
    simp only [Bool.and_eq_true, beq_iff_eq, decide_eq_true_eq] at hc
    split at h2
    · obtain rfl : k = 1 := by simp at h2; omega
      exact ⟨hc.2.1, by omega⟩
    · simp at h2; omega
  · split at h2
    · rename_i hc
      simp only [Bool.and_eq_true, beq_iff_eq, decide_eq_true_eq] at hc
      split at h2
      · rcases (show k = 1 ∨ k = 2 by simp at h2; omega) with rfl | rfl
        · exact ⟨hc.1.2.1, by omega⟩
        · exact ⟨hc.2.1, by omega⟩
      · simp at h2; omega
    · split at h2
      · rename_i hc
        simp only [Bool.and_eq_true, beq_iff_eq, decide_eq_true_eq] at hc
        split at h2
        · rcases (show k = 1 ∨ k = 2 ∨ k = 3 by simp at h2; omega) with rfl | rfl | rfl
          · exact ⟨hc.1.1.2.1, by omega⟩
          · exact ⟨hc.1.2.1, by omega⟩
          · exact ⟨hc.2.1, by omega⟩
        · simp at h2; omega
      · simp at h2; omega
theorem get_ix (s : ByteArray) (i : Nat) (h : i < s.size) : s.get! i = s[i]'h := by
  simp [ByteArray.get!, getElem!_pos, h]
  rfl
/-- Where a rune may begin: at the end, behind an ASCII byte, or at one. -/
def Edge (s : ByteArray) (e : Nat) : Prop := e = s.size ∨ (∃ h : e < s.size, (s[e]'h).toNat < 128) ∨ ∃ h : e - 1 < s.size, 1 ≤ e ∧ (s[e - 1]'h).toNat < 128
/-- No rune lies over an edge. -/
theorem Edge.rune {s : ByteArray} {e pos : Nat} (he : Edge s e) (hle : e ≤ s.size) (hp : pos < s.size) (hlt : pos < e) (hd : (Utf8.decode s pos).2 = 1 ∨ 128 ≤ (s[pos]'hp).toNat) : pos + (Utf8.decode s pos).2 ≤ e := by
  rcases hd with hd | hd
  · omega
  · apply Classical.byContradiction
    intro hn
    have hn : e < pos + (Utf8.decode s pos).2 := Nat.lt_of_not_le hn
    obtain ⟨h1, h2⟩ := decode_cont s pos hp hd (e - pos) (by omega) (by omega)
    rw [show pos + (e - pos) = e by omega] at h1 h2
    rcases he with he | ⟨h, he⟩ | ⟨h, h0, he⟩
    · omega
    · rw [get_ix s e h] at h2
      omega
    · by_cases e1 : e - 1 = pos
      · subst e1
        omega
      · obtain ⟨h3, h4⟩ := decode_cont s pos hp hd (e - 1 - pos) (by omega) (by omega)
        rw [show pos + (e - 1 - pos) = e - 1 by omega] at h3 h4
        rw [get_ix s (e - 1) h] at h4
        omega
theorem txtU_edge : ∀ (n : Nat) (l acc : List UInt8) (k : Nat), (txtU n l acc k).2.2 = 0 → ∃ j, l[j]? = some 34 ∧ (txtU n l acc k).2.1 = k + j + 1
  | 0, l, acc, k, h => by simp [txtU] at h
  | n + 1, [], acc, k, h => by simp [txtU] at h
  | n + 1, c :: r, acc, k, h => by
    rw [txtU_cons] at h ⊢
    by_cases h1 : c = 34
    · rw [if_pos h1]
      exact ⟨0, by rw [h1]; rfl, rfl⟩
    · rw [if_neg h1] at h ⊢
      by_cases h2 : (chrA (c :: r)).2.2 ≠ 0
      · rw [if_pos h2] at h
        exact absurd h h2
      · rw [if_neg h2] at h ⊢
        obtain ⟨j, g1, g2⟩ := txtU_edge n _ _ _ h
        refine ⟨(chrA (c :: r)).2.1 + j, ?_, by rw [g2]; omega⟩
        rw [List.getElem?_drop] at g1
        exact g1
theorem tw_last {p : UInt8 → Bool} {c : UInt8} {r : List UInt8} (h : p c = true) : ∃ x, (c :: r)[((c :: r).takeWhile p).length - 1]? = some x ∧ p x = true := by
  have h1 : 1 ≤ ((c :: r).takeWhile p).length := tw_pos h
  have h2 : ((c :: r).takeWhile p).length - 1 < ((c :: r).takeWhile p).length := by omega
  refine ⟨((c :: r).takeWhile p)[((c :: r).takeWhile p).length - 1], ?_, ?_⟩
  · obtain ⟨t, ht⟩ := List.takeWhile_prefix (p := p) (l := c :: r)
    conv => lhs; rw [← ht]
    rw [List.getElem?_append_left (by rw [ht]; omega)]
    rw [ht]
    exact List.getElem?_eq_getElem h2
  · have := List.all_takeWhile (p := p) (l := c :: r)
    rw [List.all_eq_true] at this
    exact this _ (List.getElem_mem h2)
theorem wrd_low {x : UInt8} (h : wrdB x = true) : x.toNat < 128 := by
  unfold wrdB letB dgB at h
  simp at h
  omega
theorem op_low (c : UInt8) (r : List UInt8) (h : opL (c :: r) ≠ 0) : ∃ x, (c :: r)[opL (c :: r) - 1]? = some x ∧ x.toNat < 128 := by
  have hs : ∀ c : UInt8, sgl.contains c = true → c.toNat < 128 := by
    intro c hc
    simp [sgl] at hc
    rcases hc with rfl | rfl | rfl | rfl | rfl | rfl | rfl | rfl | rfl | rfl | rfl | rfl | rfl | rfl | rfl | rfl | rfl | rfl | rfl <;> decide
  cases r with
  | nil =>
    simp only [opL] at h ⊢
    cases hc : sgl.contains c
    · rw [hc] at h
      simp at h
    · exact ⟨c, by simp, hs c hc⟩
  | cons d q =>
    simp only [opL] at h ⊢
    cases h2 : dbl.contains [c, d]
    · rw [h2] at h
      cases hc : sgl.contains c
      · rw [hc] at h
        simp at h
      · exact ⟨c, by simp, hs c hc⟩
    · refine ⟨d, by simp, ?_⟩
      simp [dbl] at h2
      rcases h2 with h2 | h2 | h2 | h2 | h2 | h2 <;> (obtain ⟨-, rfl⟩ := h2; decide)
/-- The last byte of a token is an ASCII byte. -/
theorem firF_edge (c : UInt8) (r : List UInt8) (h : (firF (c :: r)).2.2.2 = 0) : 1 ≤ (firF (c :: r)).2.2.1 ∧ ∃ x, (c :: r)[(firF (c :: r)).2.2.1 - 1]? = some x ∧ x.toNat < 128 := by
  rw [firF_cons] at h ⊢
  by_cases h3 : clsK (c.toNat : Int) = 3
  · rw [if_pos h3] at h ⊢
    by_cases he : (txtU (r.length + 1) r [] 1).2.2 = 0
    · rw [if_pos he] at h ⊢
      obtain ⟨j, g1, g2⟩ := txtU_edge _ _ _ _ he
      simp only
      rw [g2]
      refine ⟨by omega, 34, ?_, by decide⟩
      rw [show 1 + j + 1 - 1 = j + 1 by omega, List.getElem?_cons_succ]
      exact g1
    · rw [if_neg he] at h
      exact absurd h he
  · rw [if_neg h3] at h ⊢
    by_cases h5 : clsK (c.toNat : Int) = 5
    · rw [if_pos h5]
      refine ⟨Nat.le_refl _, c, rfl, ?_⟩
      unfold clsK at h5
      (repeat' split at h5) <;> omega
    · rw [if_neg h5] at h ⊢
      by_cases h4 : clsK (c.toNat : Int) = 4
      · rw [if_pos h4] at h ⊢
        simp only at h ⊢
        rw [opsF_opL] at h ⊢
        have hle := opL_le (c :: r)
        have h0 : opL (c :: r) ≠ 0 := by
          intro e
          rw [e] at h
          cases h
        rw [List.length_take, Nat.min_eq_left hle]
        exact ⟨by omega, op_low c r h0⟩
      · rw [if_neg h4]
        have hw : wrdB c = true := by
          rw [← clsK_wrd]
          rcases clsK_five (c.toNat : Int) with e | e | e | e | e
          · rw [e]; rfl
          · rw [e]; rfl
          · exact absurd e h3
          · exact absurd e h4
          · exact absurd e h5
        obtain ⟨x, g1, g2⟩ := tw_last (p := wrdB) (r := r) hw
        exact ⟨tw_pos hw, x, g1, wrd_low g2⟩
end Go.Proofs.YtoliiiijbdoliaaDoor
