/- Contracts of the program's meets and union (sets of bytes). -/
import Derived.Test.YtaalfnfikjmomaaGlbQ
import Derived.LoopTactic
namespace Go.Proofs.Ytaalfnfikjmomaa
open Go.RowKit Go.Lib

/-- Whether two sets have a byte in common. -/
def meetsN (f g : Nat → Bool) : Nat := wordK f 0 &&& wordK g 0 ||| wordK f 1 &&& wordK g 1 ||| wordK f 2 &&& wordK g 2 ||| wordK f 3 &&& wordK g 3
theorem meetsN_iff (f g : Nat → Bool) : meetsN f g ≠ 0 ↔ ∃ c, c < 256 ∧ f c = true ∧ g c = true := by
  constructor
  · intro h
    obtain ⟨j, hj⟩ := Nat.exists_testBit_of_ne_zero h
    unfold meetsN at hj
    simp only [Nat.testBit_or, Nat.testBit_and, Bool.or_eq_true, Bool.and_eq_true] at hj
    have hb : ∀ k, (wordK f k).testBit j = true → j < 64 := fun k hk => by
      apply Nat.lt_of_not_le
      intro hle
      have h1 : wordK f k < 2 ^ j := Nat.lt_of_lt_of_le (wordK_lt f k) (Nat.pow_le_pow_right (n := 2) (i := 64) (by omega) hle)
      rw [Nat.testBit_lt_two_pow h1] at hk
      cases hk
    rcases hj with ((⟨a, b⟩ | ⟨a, b⟩) | ⟨a, b⟩) | ⟨a, b⟩
    all_goals
      have hj := hb _ a
      rw [testBit_wordK _ _ _ hj] at a b
      exact ⟨_, by omega, a, b⟩
  · rintro ⟨c, hc, a, b⟩ h
    have hr : c % 64 < 64 := Nat.mod_lt _ (by omega)
    have key : ∀ k, c / 64 = k → (wordK f k &&& wordK g k).testBit (c % 64) = true := fun k hk => by
      rw [Nat.testBit_and, testBit_wordK _ _ _ hr, testBit_wordK _ _ _ hr, ← hk, Nat.div_add_mod, a, b]; rfl
    have hz : (meetsN f g).testBit (c % 64) = true := by
      unfold meetsN
      rw [Nat.testBit_or, Nat.testBit_or, Nat.testBit_or]
      rcases (show c / 64 = 0 ∨ c / 64 = 1 ∨ c / 64 = 2 ∨ c / 64 = 3 by omega) with e | e | e | e <;> rw [key _ e] <;> simp
    rw [h] at hz
    simp at hz
theorem meets_word (a0 a1 a2 a3 b0 b1 b2 b3 : Nat) (h0 : a0 < 18446744073709551616) (h1 : a1 < 18446744073709551616) (h2 : a2 < 18446744073709551616) (h3 : a3 < 18446744073709551616) (k0 : b0 < 18446744073709551616) (k1 : b1 < 18446744073709551616) (k2 : b2 < 18446744073709551616) (k3 : b3 < 18446744073709551616) :
    (bits .or .u64 (bits .or .u64 (bits .or .u64 (bits .and .u64 (a0 : Int) (b0 : Int)) (bits .and .u64 (a1 : Int) (b1 : Int))) (bits .and .u64 (a2 : Int) (b2 : Int))) (bits .and .u64 (a3 : Int) (b3 : Int)) != 0) = decide ((a0 &&& b0 ||| a1 &&& b1 ||| a2 &&& b2 ||| a3 &&& b3) ≠ 0) := by
  have l0 : a0 &&& b0 < 18446744073709551616 := Nat.lt_of_le_of_lt Nat.and_le_left h0
  have l1 : a1 &&& b1 < 18446744073709551616 := Nat.lt_of_le_of_lt Nat.and_le_left h1
  have l2 : a2 &&& b2 < 18446744073709551616 := Nat.lt_of_le_of_lt Nat.and_le_left h2
  have l3 : a3 &&& b3 < 18446744073709551616 := Nat.lt_of_le_of_lt Nat.and_le_left h3
  have m1 : a0 &&& b0 ||| a1 &&& b1 < 18446744073709551616 := Nat.or_lt_two_pow (n := 64) l0 l1
  have m2 : a0 &&& b0 ||| a1 &&& b1 ||| a2 &&& b2 < 18446744073709551616 := Nat.or_lt_two_pow (n := 64) m1 l2
  rw [bits_and_u64_nat a0 b0 h0 k0, bits_and_u64_nat a1 b1 h1 k1, bits_and_u64_nat a2 b2 h2 k2, bits_and_u64_nat a3 b3 h3 k3, bits_or_u64_nat _ _ l0 l1, bits_or_u64_nat _ _ m1 l2, bits_or_u64_nat _ _ m2 l3]
  generalize (a0 &&& b0 ||| a1 &&& b1 ||| a2 &&& b2 ||| a3 &&& b3) = v
  by_cases e : v = 0
  · subst e; rfl
  · have : ((v : Int) != 0) = true := by simp; omega
    rw [this, decide_eq_true e]
set_option maxHeartbeats 1000000 in
theorem meets_words (a0 a1 a2 a3 b0 b1 b2 b3 : Nat) (z : Bool) (hz : (bits .or .u64 (bits .or .u64 (bits .or .u64 (bits .and .u64 (a0 : Int) (b0 : Int)) (bits .and .u64 (a1 : Int) (b1 : Int))) (bits .and .u64 (a2 : Int) (b2 : Int))) (bits .and .u64 (a3 : Int) (b3 : Int)) != 0) = z) (w : World) :
    Calls Try.prog 53 #[.agg #[.int .u64 a0, .int .u64 a1, .int .u64 a2, .int .u64 a3], .agg #[.int .u64 b0, .int .u64 b1, .int .u64 b2, .int .u64 b3]] w fun e w' => e = .returned (.bool z) ∧ Below w.heap.size w w' := by
  have K := Lib.hid hz
  have B := Lib.hid (((Below.refl w.heap.size w).alloc (Nat.le_refl _) (Obj.cells #[.int .u64 (a0 : Nat), .int .u64 (a1 : Nat), .int .u64 (a2 : Nat), .int .u64 (a3 : Nat)] 48)).alloc (by simp) (Obj.cells #[.int .u64 (b0 : Nat), .int .u64 (b1 : Nat), .int .u64 (b2 : Nat), .int .u64 (b3 : Nat)] 48))
  clear hz
  go_enter Try.func53, Try.ntmps53
  go_wp2_with fail
  go_ret
  exact ⟨by rw [← K.out]; rfl, B.out⟩
theorem meets_any (f g : Nat → Bool) (w : World) :
    Calls Try.prog 53 #[setV f, setV g] w fun e w' => e = .returned (.bool (decide (meetsN f g ≠ 0))) ∧ Below w.heap.size w w' :=
  meets_words _ _ _ _ _ _ _ _ _ (meets_word _ _ _ _ _ _ _ _ (wordK_lt _ _) (wordK_lt _ _) (wordK_lt _ _) (wordK_lt _ _) (wordK_lt _ _) (wordK_lt _ _) (wordK_lt _ _) (wordK_lt _ _)) w
end Go.Proofs.Ytaalfnfikjmomaa
