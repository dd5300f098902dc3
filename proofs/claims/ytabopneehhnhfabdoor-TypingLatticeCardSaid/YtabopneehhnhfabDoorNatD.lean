/- The contract of the program's digit (ident). -/
import Derived.Test.YtabopneehhnhfabDoorNatF
namespace Go.Proofs.YtabopneehhnhfabDoor
open Go.RowKit Go.Lib

theorem idDigit_any (c : Nat) (hc : c < 256) (w : World) :
    Calls Tryd.prog 90 #[.int .u8 c] w fun e w' => e = .returned (.bool (digB c)) ∧ w = w' := by
  by_cases h1 : 48 ≤ c <;> by_cases h2 : c ≤ 57
  all_goals
    have g1 : decide ((48 : Int) ≤ (c : Int)) = decide (48 ≤ c) := by simp <;> omega
    have g2 : decide ((c : Int) ≤ 57) = decide (c ≤ 57) := by simp <;> omega
    have hb : digB c = (decide (48 ≤ c) && decide (c ≤ 57)) := rfl
    simp only [h1, h2, decide_true, decide_false] at g1 g2 hb
    clear h1 h2
    go_enter Tryd.func90, Tryd.ntmps90
    go_wp2_with fail
    go_ret
    exact ⟨by rw [hb]; first | rfl | (rw [g1]; rfl) | (rw [g2]; rfl) | (simp only [Bool.true_and]; rw [g1]) | (simp only [Bool.true_and]; rw [g2]), rfl⟩
end Go.Proofs.YtabopneehhnhfabDoor
