/- Sets of states of a machine, as rows of bits: what one byte does to them. No function of the program is named. -/
import Derived.Test.YtaalfnfikjmomaaGlbJ
import Derived.Test.YtaalfnfikjmomaaGlbP
namespace Go.Proofs.Ytaalfnfikjmomaa
open Go.RowKit Go.Lib

def stepN (M : List MSt) (c : Nat) (j : Nat) : Bool := match M[j]? with | some t => t.step c | none => false
def loopN (M : List MSt) (c : Nat) (j : Nat) : Bool := match M[j]? with | some t => t.loop c | none => false
/-- The states behind one byte. -/
def nextB (p L S : Nat → Bool) : Nat → Bool := fun j => (p j && L j) || (decide (j ≠ 0) && (p (j - 1) && S (j - 1)))
def OnM (M : List MSt) (s : List UInt8) (k : Nat) (p : Nat → Bool) : Prop := MA M s ↔ ∃ j, j < M.length ∧ p j = true ∧ MA (M.drop j) (s.drop k)
theorem onM_start (M : List MSt) (s : List UInt8) (h : M ≠ []) : OnM M s 0 (upd (fun _ => false) 0 true) := by
  have hl : 0 < M.length := (List.length_pos_iff.2 h)
  constructor
  · intro g
    exact ⟨0, hl, by simp [upd], by simpa using g⟩
  · rintro ⟨j, _, h1, h2⟩
    have : j = 0 := by
      unfold upd at h1
      split at h1
      · assumption
      · cases h1
    subst this
    simpa using h2
theorem loopN_at {M : List MSt} {c j : Nat} (h : j < M.length) : loopN M c j = M[j].loop c := by unfold loopN; rw [List.getElem?_eq_getElem h]
theorem stepN_at {M : List MSt} {c j : Nat} (h : j < M.length) : stepN M c j = M[j].step c := by unfold stepN; rw [List.getElem?_eq_getElem h]
theorem onM_next {M : List MSt} {s : List UInt8} {k : Nat} {p : Nat → Bool} (hk : k < s.length) (h : OnM M s k p) : OnM M s (k + 1) (nextB p (loopN M s[k].toNat) (stepN M s[k].toNat)) := by
  have hd : s.drop k = s[k] :: s.drop (k + 1) := List.drop_eq_getElem_cons hk
  unfold OnM at *
  rw [h, hd]
  constructor
  · rintro ⟨j, h1, h2, h3⟩
    rw [List.drop_eq_getElem_cons h1] at h3
    rcases MA.cons_iff.1 h3 with ⟨g1, g2⟩ | ⟨g1, g2⟩
    · refine ⟨j, h1, ?_, by rw [List.drop_eq_getElem_cons h1]; exact g2⟩
      unfold nextB
      rw [h2, loopN_at h1, g1]
      rfl
    · have hl : j + 1 < M.length := by
        by_cases e : j + 1 < M.length
        · exact e
        · rw [List.drop_eq_nil_of_le (by omega)] at g2
          exact absurd g2 MA.empty
      refine ⟨j + 1, hl, ?_, g2⟩
      unfold nextB
      rw [show j + 1 - 1 = j by omega, h2, stepN_at h1, g1]
      simp
  · rintro ⟨j, h1, h2, h3⟩
    unfold nextB at h2
    rw [Bool.or_eq_true, Bool.and_eq_true, Bool.and_eq_true, Bool.and_eq_true] at h2
    rcases h2 with ⟨g1, g2⟩ | ⟨g0, g1, g2⟩
    · refine ⟨j, h1, g1, ?_⟩
      rw [loopN_at h1] at g2
      rw [List.drop_eq_getElem_cons h1] at h3 ⊢
      exact .loop g2 h3
    · rw [decide_eq_true_iff] at g0
      obtain ⟨i, rfl⟩ : ∃ i, j = i + 1 := ⟨j - 1, by omega⟩
      rw [show i + 1 - 1 = i by omega] at g1 g2
      have hi : i < M.length := by omega
      rw [stepN_at hi] at g2
      refine ⟨i, hi, g1, ?_⟩
      rw [List.drop_eq_getElem_cons hi]
      exact .step g2 h3
theorem onM_none {M : List MSt} {s : List UInt8} {k : Nat} {p : Nat → Bool} (h : OnM M s k p) (hp : ∀ j, j < M.length → p j = false) : ¬ MA M s := by
  intro g
  obtain ⟨j, h1, h2, _⟩ := h.1 g
  rw [hp j h1] at h2
  cases h2
theorem onM_end {M : List MSt} {s : List UInt8} {p : Nat → Bool} (hM : M ≠ []) (h : OnM M s s.length p) : MA M s ↔ p (M.length - 1) = true := by
  have hl : 0 < M.length := List.length_pos_iff.2 hM
  unfold OnM at h
  rw [h, List.drop_eq_nil_of_le (Nat.le_refl _)]
  constructor
  · rintro ⟨j, h1, h2, h3⟩
    rw [List.drop_eq_getElem_cons h1, MA.nil_iff] at h3
    have := congrArg List.length h3
    rw [List.length_drop, List.length_nil] at this
    have e : j = M.length - 1 := by omega
    rw [← e]
    exact h2
  · intro g
    refine ⟨M.length - 1, by omega, g, ?_⟩
    rw [List.drop_eq_getElem_cons (by omega), MA.nil_iff]
    exact List.drop_eq_nil_of_le (by omega)
/-- The bit that a word hands on to the next one. -/
def carryN (p S : Nat → Bool) (w : Nat) : Nat := if w = 0 then 0 else (wordK p (w - 1) &&& wordK S (w - 1)) / 2 ^ 63
theorem carryN_bit (p S : Nat → Bool) (w j : Nat) : (carryN p S w).testBit j = (decide (j = 0) && (decide (w ≠ 0) && (p (64 * w - 1) && S (64 * w - 1)))) := by
  unfold carryN
  by_cases hw : w = 0
  · rw [if_pos hw, Nat.zero_testBit]; simp [hw]
  · rw [if_neg hw]
    rw [Nat.testBit_div_two_pow, Nat.testBit_and]
    by_cases hj : j = 0
    · subst hj
      rw [testBit_wordK _ _ _ (by omega), testBit_wordK _ _ _ (by omega), show 64 * (w - 1) + (0 + 63) = 64 * w - 1 by omega]
      simp [hw]
    · have h1 : wordK p (w - 1) < 2 ^ (j + 63) := Nat.lt_of_lt_of_le (wordK_lt p _) (Nat.pow_le_pow_right (n := 2) (i := 64) (by omega) (by omega))
      rw [Nat.testBit_lt_two_pow h1]
      simp [hj]
theorem next_word (p L S : Nat → Bool) (w : Nat) : ((wordK p w &&& wordK L w) ||| ((wordK p w &&& wordK S w) * 2 % 18446744073709551616)) ||| carryN p S w = wordK (nextB p L S) w := by
  have hc : carryN p S w < 2 ^ 64 := by
    unfold carryN
    split
    · decide
    · exact Nat.lt_of_le_of_lt (Nat.div_le_self _ _) (Nat.and_lt_two_pow (n := 64) _ (wordK_lt _ _))
  apply word_eq
  · refine Nat.or_lt_two_pow (n := 64) (Nat.or_lt_two_pow (n := 64) (Nat.and_lt_two_pow (n := 64) _ (wordK_lt _ _)) (Nat.mod_lt _ (by decide))) hc
  · intro j hj
    rw [Nat.testBit_or, Nat.testBit_or, Nat.testBit_and, testBit_wordK _ _ _ hj, testBit_wordK _ _ _ hj, carryN_bit, show 18446744073709551616 = 2 ^ 64 from rfl, Nat.testBit_mod_two_pow]
    unfold nextB
    by_cases h0 : j = 0
    · subst h0
      have : ((wordK p w &&& wordK S w) * 2).testBit 0 = false := by simp [Nat.testBit_zero]
      rw [this]
      by_cases hw : w = 0
      · simp [hw]
      · have : decide (64 * w = 0) = false := decide_eq_false (by omega)
        simp [hw, this]
    · obtain ⟨i, rfl⟩ : ∃ i, j = i + 1 := ⟨j - 1, by omega⟩
      have : ((wordK p w &&& wordK S w) * 2).testBit (i + 1) = (p (64 * w + i) && S (64 * w + i)) := by
        rw [show (wordK p w &&& wordK S w) * 2 = (wordK p w &&& wordK S w) <<< 1 by rw [Nat.shiftLeft_eq], Nat.testBit_shiftLeft, Nat.add_sub_cancel, Nat.testBit_and, testBit_wordK _ _ _ (by omega), testBit_wordK _ _ _ (by omega)]
        simp
      rw [this, show 64 * w + (i + 1) - 1 = 64 * w + i by omega]
      have e1 : decide (i + 1 < 64) = true := by simpa using hj
      have e2 : decide (64 * w + (i + 1) ≠ 0) = true := by simp
      rw [e1, e2]
      simp
theorem carry_next (p S : Nat → Bool) (w : Nat) : (wordK p w &&& wordK S w) / 2 ^ 63 = carryN p S (w + 1) := by
  unfold carryN
  rw [if_neg (by omega), Nat.add_sub_cancel]
theorem word_zero {p : Nat → Bool} {w : Nat} (h : wordK p w = 0) (j : Nat) (hj : j < 64) : p (64 * w + j) = false := by
  rw [← testBit_wordK p w j hj, h, Nat.zero_testBit]
end Go.Proofs.Ytaalfnfikjmomaa
