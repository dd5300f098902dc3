/- Contracts of the program's small functions (lexer): the class of a character, limited, opened, endsLine. -/
import Derived.Test.YtoliiiijbdoliaaDoorLexB
namespace Go.Proofs.YtoliiiijbdoliaaDoor
open Go.RowKit Go.Lib
set_option linter.unusedVariables false

/-- The class of a character. -/
def clsK (c : Int) : Int := if (97 ≤ c ∧ c ≤ 122) ∨ (65 ≤ c ∧ c ≤ 90) ∨ c = 95 then 1 else if 48 ≤ c ∧ c ≤ 57 then 2 else if c = 34 then 3 else if c = 10 then 5 else 4
set_option maxHeartbeats 2000000 in
theorem class_any (c : Int) (w : World) : Calls Tryd.prog 28 #[.int .i32 c] w fun e w' => e = .returned (.int .i64 (clsK c)) ∧ w = w' := by
  rcases (show (97 ≤ c ∧ c ≤ 122) ∨ (122 < c) ∨ (65 ≤ c ∧ c ≤ 90) ∨ (c = 95) ∨ (91 ≤ c ∧ c ≤ 96 ∧ c ≠ 95) ∨ (48 ≤ c ∧ c ≤ 57) ∨ (58 ≤ c ∧ c ≤ 64) ∨ (c = 34) ∨ (c = 10) ∨ (c ≤ 47 ∧ c ≠ 34 ∧ c ≠ 10) by omega) with h | h | h | h | h | h | h | h | h | h
  · have hv := Lib.hid (show clsK c = 1 by unfold clsK; (repeat' split) <;> omega)
    have q0 : (97 : Int) ≤ c := by omega
    have q1 : c ≤ (122 : Int) := by omega
    clear h
    go_enter Tryd.func28, Tryd.ntmps28
    go_wp2_with fail
    go_ret
    exact ⟨by rw [hv.out]; rfl, rfl⟩
  · have hv := Lib.hid (show clsK c = 4 by unfold clsK; (repeat' split) <;> omega)
    have q0 : (97 : Int) ≤ c := by omega
    have q1 : ¬ c ≤ (122 : Int) := by omega
    have q2 : (65 : Int) ≤ c := by omega
    have q3 : ¬ c ≤ (90 : Int) := by omega
    have q4 : (48 : Int) ≤ c := by omega
    have q5 : ¬ c ≤ (57 : Int) := by omega
    have q6 : (c == 95) = false := by rw [beq_eq_false_iff_ne]; omega
    have q7 : (c == 34) = false := by rw [beq_eq_false_iff_ne]; omega
    have q8 : (c == 10) = false := by rw [beq_eq_false_iff_ne]; omega
    clear h
    go_enter Tryd.func28, Tryd.ntmps28
    go_wp2_with fail
    go_ret
    exact ⟨by rw [hv.out]; rfl, rfl⟩
  · have hv := Lib.hid (show clsK c = 1 by unfold clsK; (repeat' split) <;> omega)
    have q0 : ¬ (97 : Int) ≤ c := by omega
    have q1 : (65 : Int) ≤ c := by omega
    have q2 : c ≤ (90 : Int) := by omega
    clear h
    go_enter Tryd.func28, Tryd.ntmps28
    go_wp2_with fail
    go_ret
    exact ⟨by rw [hv.out]; rfl, rfl⟩
  · have hv := Lib.hid (show clsK c = 1 by unfold clsK; (repeat' split) <;> omega)
    have q0 : ¬ (97 : Int) ≤ c := by omega
    have q1 : (65 : Int) ≤ c := by omega
    have q2 : ¬ c ≤ (90 : Int) := by omega
    have q3 : (c == 95) = true := by rw [beq_iff_eq]; omega
    clear h
    go_enter Tryd.func28, Tryd.ntmps28
    go_wp2_with fail
    go_ret
    exact ⟨by rw [hv.out]; rfl, rfl⟩
  · have hv := Lib.hid (show clsK c = 4 by unfold clsK; (repeat' split) <;> omega)
    have q0 : ¬ (97 : Int) ≤ c := by omega
    have q1 : (65 : Int) ≤ c := by omega
    have q2 : ¬ c ≤ (90 : Int) := by omega
    have q3 : (48 : Int) ≤ c := by omega
    have q4 : ¬ c ≤ (57 : Int) := by omega
    have q5 : (c == 95) = false := by rw [beq_eq_false_iff_ne]; omega
    have q6 : (c == 34) = false := by rw [beq_eq_false_iff_ne]; omega
    have q7 : (c == 10) = false := by rw [beq_eq_false_iff_ne]; omega
    clear h
    go_enter Tryd.func28, Tryd.ntmps28
    go_wp2_with fail
    go_ret
    exact ⟨by rw [hv.out]; rfl, rfl⟩
  · have hv := Lib.hid (show clsK c = 2 by unfold clsK; (repeat' split) <;> omega)
    have q0 : ¬ (97 : Int) ≤ c := by omega
    have q1 : ¬ (65 : Int) ≤ c := by omega
    have q2 : (48 : Int) ≤ c := by omega
    have q3 : c ≤ (57 : Int) := by omega
    have q4 : (c == 95) = false := by rw [beq_eq_false_iff_ne]; omega
    clear h
    go_enter Tryd.func28, Tryd.ntmps28
    go_wp2_with fail
    go_ret
    exact ⟨by rw [hv.out]; rfl, rfl⟩
  · have hv := Lib.hid (show clsK c = 4 by unfold clsK; (repeat' split) <;> omega)
    have q0 : ¬ (97 : Int) ≤ c := by omega
    have q1 : ¬ (65 : Int) ≤ c := by omega
    have q2 : (48 : Int) ≤ c := by omega
    have q3 : ¬ c ≤ (57 : Int) := by omega
    have q4 : (c == 95) = false := by rw [beq_eq_false_iff_ne]; omega
    have q5 : (c == 34) = false := by rw [beq_eq_false_iff_ne]; omega
    have q6 : (c == 10) = false := by rw [beq_eq_false_iff_ne]; omega
    clear h
    go_enter Tryd.func28, Tryd.ntmps28
    go_wp2_with fail
    go_ret
    exact ⟨by rw [hv.out]; rfl, rfl⟩
  · have hv := Lib.hid (show clsK c = 3 by unfold clsK; (repeat' split) <;> omega)
    have q0 : ¬ (97 : Int) ≤ c := by omega
    have q1 : ¬ (65 : Int) ≤ c := by omega
    have q2 : ¬ (48 : Int) ≤ c := by omega
    have q3 : (c == 95) = false := by rw [beq_eq_false_iff_ne]; omega
    have q4 : (c == 34) = true := by rw [beq_iff_eq]; omega
    clear h
    go_enter Tryd.func28, Tryd.ntmps28
    go_wp2_with fail
    go_ret
    exact ⟨by rw [hv.out]; rfl, rfl⟩
  · have hv := Lib.hid (show clsK c = 5 by unfold clsK; (repeat' split) <;> omega)
    have q0 : ¬ (97 : Int) ≤ c := by omega
    have q1 : ¬ (65 : Int) ≤ c := by omega
    have q2 : ¬ (48 : Int) ≤ c := by omega
    have q3 : (c == 95) = false := by rw [beq_eq_false_iff_ne]; omega
    have q4 : (c == 34) = false := by rw [beq_eq_false_iff_ne]; omega
    have q5 : (c == 10) = true := by rw [beq_iff_eq]; omega
    clear h
    go_enter Tryd.func28, Tryd.ntmps28
    go_wp2_with fail
    go_ret
    exact ⟨by rw [hv.out]; rfl, rfl⟩
  · have hv := Lib.hid (show clsK c = 4 by unfold clsK; (repeat' split) <;> omega)
    have q0 : ¬ (97 : Int) ≤ c := by omega
    have q1 : ¬ (65 : Int) ≤ c := by omega
    have q2 : ¬ (48 : Int) ≤ c := by omega
    have q3 : (c == 95) = false := by rw [beq_eq_false_iff_ne]; omega
    have q4 : (c == 34) = false := by rw [beq_eq_false_iff_ne]; omega
    have q5 : (c == 10) = false := by rw [beq_eq_false_iff_ne]; omega
    clear h
    go_enter Tryd.func28, Tryd.ntmps28
    go_wp2_with fail
    go_ret
    exact ⟨by rw [hv.out]; rfl, rfl⟩
theorem limited_any (s : ByteArray) (m : Int) (w : World) : Calls Tryd.prog 38 #[.string s, .int .i64 m] w fun e w' => e = .returned (.int .i64 (if m < (s.size : Int) then 3 else 0)) ∧ w = w' := by
  by_cases h : m < (s.size : Int)
  · rw [if_pos h]
    go_enter Tryd.func38, Tryd.ntmps38
    go_wp2_with fail
    go_ret
    exact ⟨rfl, rfl⟩
  · rw [if_neg h]
    go_enter Tryd.func38, Tryd.ntmps38
    go_wp2_with fail
    go_ret
    exact ⟨rfl, rfl⟩
/-- The closure that tells a name's characters; the class function lies in the block B. -/
def ClsAt (w : World) (B : Nat) : Prop := w.cell? ⟨B, 0, none⟩ = some (.func (.func 28) #[] #[])
theorem ClsAt.below {w w' : World} {B : Nat} (h : ClsAt w B) (hb : Below w.heap.size w w') : ClsAt w' B := (hb.cell (p := ⟨B, 0, none⟩) (World.block_lt_of_cell? w _ h)).trans h
set_option maxHeartbeats 2000000 in
theorem inName_any (c : Int) (B : Nat) (w : World) (hB : ClsAt w B) : Calls Tryd.prog 29 #[.int .i32 c, .pointer (some ⟨B, 0, none⟩)] w fun e w' => e = .returned (.bool (clsK c == 1 || clsK c == 2)) ∧ w = w' := by
  have CL := Lib.hid (fun w => class_any c w)
  have h0 : w.cell? ⟨B, 0, none⟩ = some (.func (.func 28) #[] #[]) := hB
  generalize clsK c = k at CL
  cases q1 : (k == 1)
  · cases q2 : (k == 2)
    · go_enter Tryd.func29, Tryd.ntmps29
      go_wp2_with fail
      go_fit (CL.out _)
      rintro e w1 ⟨rfl, rfl⟩
      go_wp2_with fail
      go_fit (CL.out _)
      rintro e w1 ⟨rfl, rfl⟩
      go_wp2_with fail
      go_ret
      exact ⟨rfl, rfl⟩
    · go_enter Tryd.func29, Tryd.ntmps29
      go_wp2_with fail
      go_fit (CL.out _)
      rintro e w1 ⟨rfl, rfl⟩
      go_wp2_with fail
      go_fit (CL.out _)
      rintro e w1 ⟨rfl, rfl⟩
      go_wp2_with fail
      go_ret
      exact ⟨rfl, rfl⟩
  · go_enter Tryd.func29, Tryd.ntmps29
    go_wp2_with fail
    go_fit (CL.out _)
    rintro e w1 ⟨rfl, rfl⟩
    go_wp2_with fail
    go_ret
    exact ⟨rfl, rfl⟩
end Go.Proofs.YtoliiiijbdoliaaDoor
