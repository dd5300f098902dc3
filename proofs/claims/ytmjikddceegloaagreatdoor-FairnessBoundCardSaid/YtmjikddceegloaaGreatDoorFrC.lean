/- The order of shares (fairness), in numbers alone: ratios, then names. -/
import Derived.Test.YtmjikddceegloaaGreatDoorFrA
namespace Go.Proofs.YtmjikddceegloaaGreatDoor
open Go.RowKit Go.Lib

/-- The ratio of the one is not above that of the other. -/
def RLe (a b : Sha) : Prop := a.srv * b.wgt ≤ b.srv * a.wgt
theorem RLe.trans {a b c : Sha} (hb : 0 < b.wgt) (ha : 0 < a.wgt) (hc : 0 < c.wgt) (h1 : RLe a b) (h2 : RLe b c) : RLe a c := by
  unfold RLe at *
  have e1 := Int.mul_le_mul_of_nonneg_right h1 (Int.le_of_lt hc)
  have e2 := Int.mul_le_mul_of_nonneg_right h2 (Int.le_of_lt ha)
  refine Int.le_of_mul_le_mul_right (a := b.wgt) ?_ hb
  have q1 : a.srv * c.wgt * b.wgt = a.srv * b.wgt * c.wgt := Int.mul_right_comm ..
  have q2 : b.srv * a.wgt * c.wgt = b.srv * c.wgt * a.wgt := Int.mul_right_comm ..
  have q3 : c.srv * b.wgt * a.wgt = c.srv * a.wgt * b.wgt := Int.mul_right_comm ..
  rw [q1, ← q3]
  rw [q2] at e1
  exact Int.le_trans e1 e2
theorem RLe.total (a b : Sha) : RLe a b ∨ RLe b a := by unfold RLe; omega
theorem RLe.refl (a : Sha) : RLe a a := Int.le_refl _
/-- Ratios compared. -/
def cmpR (a b : Sha) : Int := if a.srv * b.wgt < b.srv * a.wgt then -1 else if b.srv * a.wgt < a.srv * b.wgt then 1 else 0
theorem cmpR_neg (a b : Sha) : cmpR a b < 0 ↔ ¬ RLe b a := by unfold cmpR RLe; split <;> (try split) <;> omega
theorem cmpR_zero (a b : Sha) : cmpR a b = 0 ↔ RLe a b ∧ RLe b a := by unfold cmpR RLe; split <;> (try split) <;> omega
/-- Ratios, then names. -/
def befC (a b : Sha) : Int := if cmpR a b ≠ 0 then cmpR a b else cmpL a.prj b.prj
theorem bef_neg (a b : Sha) : befC a b < 0 ↔ ¬ RLe b a ∨ (RLe a b ∧ RLe b a ∧ cmpL a.prj b.prj < 0) := by
  unfold befC
  by_cases h : cmpR a b ≠ 0
  · rw [if_pos h, cmpR_neg]
    rw [ne_eq, cmpR_zero] at h
    constructor
    · exact Or.inl
    · rintro (e | ⟨e1, e2, _⟩)
      · exact e
      · exact absurd ⟨e1, e2⟩ h
  · rw [if_neg h]
    have h' : cmpR a b = 0 := Classical.not_not.1 h
    rw [cmpR_zero] at h'
    constructor
    · exact fun e => Or.inr ⟨h'.1, h'.2, e⟩
    · rintro (e | ⟨_, _, e⟩)
      · exact absurd h'.2 e
      · exact e
theorem cmp_self (a : List UInt8) : cmpL a a = 0 := (cmp_tot.eq a a).2 rfl
theorem bef_irrefl (a : Sha) : ¬ befC a a < 0 := by
  rw [bef_neg]
  rintro (h | ⟨_, _, h⟩)
  · exact h (RLe.refl a)
  · rw [cmp_self] at h; omega
theorem bef_trans {a b c : Sha} (ha : 0 < a.wgt) (hb : 0 < b.wgt) (hc : 0 < c.wgt) (h1 : befC a b < 0) (h2 : befC b c < 0) : befC a c < 0 := by
  rw [bef_neg] at *
  have l1 : RLe a b := by
    rcases h1 with h | h
    · exact (RLe.total a b).resolve_right h
    · exact h.1
  have l2 : RLe b c := by
    rcases h2 with h | h
    · exact (RLe.total b c).resolve_right h
    · exact h.1
  have l3 := RLe.trans hb ha hc l1 l2
  by_cases k : RLe c a
  · right
    refine ⟨l3, k, ?_⟩
    have k1 : RLe b a := RLe.trans hc hb ha l2 k
    have k2 : RLe c b := RLe.trans ha hc hb k l1
    rcases h1 with h1 | ⟨_, _, h1⟩
    · exact absurd k1 h1
    · rcases h2 with h2 | ⟨_, _, h2⟩
      · exact absurd k2 h2
      · exact cmp_lt_trans h1 h2
  · exact Or.inl k
theorem bef_not {a b : Sha} : ¬ befC a b < 0 ↔ ¬ RLe a b ∨ (RLe a b ∧ RLe b a ∧ 0 ≤ cmpL a.prj b.prj) := by
  rw [bef_neg]
  by_cases h1 : RLe a b <;> by_cases h2 : RLe b a
  · simp [h1, h2]
  · simp [h1, h2]
  · simp [h1, h2]
  · exact absurd (RLe.total a b) (by simp [h1, h2])
theorem bef_ntrans {a b c : Sha} (ha : 0 < a.wgt) (hb : 0 < b.wgt) (hc : 0 < c.wgt) (h1 : ¬ befC a b < 0) (h2 : ¬ befC b c < 0) : ¬ befC a c < 0 := by
  rw [bef_not] at *
  have l1 : RLe b a := by
    rcases h1 with h | h
    · exact (RLe.total a b).resolve_left h
    · exact h.2.1
  have l2 : RLe c b := by
    rcases h2 with h | h
    · exact (RLe.total b c).resolve_left h
    · exact h.2.1
  have l3 := RLe.trans hb hc ha l2 l1
  by_cases k : RLe a c
  · right
    refine ⟨k, l3, ?_⟩
    have k1 : RLe a b := RLe.trans hc ha hb k l2
    have k2 : RLe b c := RLe.trans ha hb hc l1 k
    rcases h1 with h1 | ⟨_, _, h1⟩
    · exact absurd k1 h1
    · rcases h2 with h2 | ⟨_, _, h2⟩
      · exact absurd k2 h2
      · have e1 := cmp_tot.anti a.prj b.prj
        have e2 := cmp_tot.anti b.prj c.prj
        have e3 := cmp_tot.anti a.prj c.prj
        have := cmp_tot.tr c.prj b.prj a.prj (by omega) (by omega)
        omega
  · exact Or.inl k
end Go.Proofs.YtmjikddceegloaaGreatDoor
