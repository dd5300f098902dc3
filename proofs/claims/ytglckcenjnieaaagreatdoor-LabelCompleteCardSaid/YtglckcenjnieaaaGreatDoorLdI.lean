/- The contracts of the document's meet, possible, within, Permits, Can and Implies (label). -/
import Derived.Test.YtglckcenjnieaaaGreatDoorLdH
namespace Go.Proofs.YtglckcenjnieaaaGreatDoor
open Go.RowKit Go.Lib
set_option linter.unusedSimpArgs false

/-- A case as a value. -/
def ofC (c : DCase) : Value := .agg #[.bool c.ab, .bool c.pl, .int .i64 c.lo, .int .i64 c.hi]
set_option maxHeartbeats 4000000 in
theorem meet_any (ab pl : Bool) (lo hi f n : Int) (B : ByteArray) (w : World) :
    Calls Tryz.prog 63 #[.agg #[.bool ab, .bool pl, .int .i64 lo, .int .i64 hi], .agg #[.int .i64 f, .string B, .int .i64 n]] w fun e w' => e = .returned (ofC (meetD ⟨ab, pl, lo, hi⟩ (f, B.data.toList, n))) ∧ Below w.heap.size w w' := by
  by_cases f2 : f = 2
  · subst f2
    have HV := Lib.hid (show meetD ⟨ab, pl, lo, hi⟩ (2, B.data.toList, n) = ⟨ab, false, 1, 0⟩ by rfl)
    go_enter Tryz.func63, Tryz.ntmps63
    go_wp2_with fail
    refine bodyPost_ret (v := .agg #[.bool (ab), .bool (false), .int .i64 (1), .int .i64 (0)]) ?_ rfl ⟨by rw [HV.out]; rfl, ?_⟩
    · rw [results_cellL rfl]
      go_simp
    · exact ((((Below.refl _ _).alloc (Nat.le_refl _) _).alloc (by simp) _).alloc (by simp; omega) _)
  by_cases f1 : f = 1
  · subst f1
    cases pl
    · have HV := Lib.hid (show meetD ⟨ab, false, lo, hi⟩ (1, B.data.toList, n) = ⟨false, false, lo, hi⟩ by rfl)
      go_enter Tryz.func63, Tryz.ntmps63
      go_wp2_with fail
      refine bodyPost_ret (v := .agg #[.bool (false), .bool (false), .int .i64 (lo), .int .i64 (hi)]) ?_ rfl ⟨by rw [HV.out]; rfl, ?_⟩
      · rw [results_cellL rfl]
        go_simp
      · exact ((((Below.refl _ _).alloc (Nat.le_refl _) _).alloc (by simp) _).alloc (by simp; omega) _)
    · have HV := Lib.hid (show meetD ⟨ab, true, lo, hi⟩ (1, B.data.toList, n) = ⟨false, true, lo, hi⟩ by rfl)
      go_enter Tryz.func63, Tryz.ntmps63
      go_wp2_with fail
      refine bodyPost_ret (v := .agg #[.bool (false), .bool (true), .int .i64 (lo), .int .i64 (hi)]) ?_ rfl ⟨by rw [HV.out]; rfl, ?_⟩
      · rw [results_cellL rfl]
        go_simp
      · exact ((((Below.refl _ _).alloc (Nat.le_refl _) _).alloc (by simp) _).alloc (by simp; omega) _)
  by_cases f3 : f = 3
  · subst f3
    cases pl
    · have HV := Lib.hid (show meetD ⟨ab, false, lo, hi⟩ (3, B.data.toList, n) = ⟨false, false, max lo n, hi⟩ by unfold meetD; simp)
      go_enter Tryz.func63, Tryz.ntmps63
      go_wp2_with fail
      refine bodyPost_ret (v := .agg #[.bool (false), .bool (false), .int .i64 (max lo n), .int .i64 (hi)]) ?_ rfl ⟨by rw [HV.out]; rfl, ?_⟩
      · rw [results_cellL rfl]
        go_simp
      · exact ((((Below.refl _ _).alloc (Nat.le_refl _) _).alloc (by simp) _).alloc (by simp; omega) _)
    · have HV := Lib.hid (show meetD ⟨ab, true, lo, hi⟩ (3, B.data.toList, n) = ⟨false, false, max lo n, hi⟩ by unfold meetD; simp)
      go_enter Tryz.func63, Tryz.ntmps63
      go_wp2_with fail
      refine bodyPost_ret (v := .agg #[.bool (false), .bool (false), .int .i64 (max lo n), .int .i64 (hi)]) ?_ rfl ⟨by rw [HV.out]; rfl, ?_⟩
      · rw [results_cellL rfl]
        go_simp
      · exact ((((Below.refl _ _).alloc (Nat.le_refl _) _).alloc (by simp) _).alloc (by simp; omega) _)
  by_cases f4 : f = 4
  · subst f4
    cases pl
    · have HV := Lib.hid (show meetD ⟨ab, false, lo, hi⟩ (4, B.data.toList, n) = ⟨false, false, lo, min hi n⟩ by unfold meetD; simp)
      go_enter Tryz.func63, Tryz.ntmps63
      go_wp2_with fail
      refine bodyPost_ret (v := .agg #[.bool (false), .bool (false), .int .i64 (lo), .int .i64 (min hi n)]) ?_ rfl ⟨by rw [HV.out]; rfl, ?_⟩
      · rw [results_cellL rfl]
        go_simp
      · exact ((((Below.refl _ _).alloc (Nat.le_refl _) _).alloc (by simp) _).alloc (by simp; omega) _)
    · have HV := Lib.hid (show meetD ⟨ab, true, lo, hi⟩ (4, B.data.toList, n) = ⟨false, false, lo, min hi n⟩ by unfold meetD; simp)
      go_enter Tryz.func63, Tryz.ntmps63
      go_wp2_with fail
      refine bodyPost_ret (v := .agg #[.bool (false), .bool (false), .int .i64 (lo), .int .i64 (min hi n)]) ?_ rfl ⟨by rw [HV.out]; rfl, ?_⟩
      · rw [results_cellL rfl]
        go_simp
      · exact ((((Below.refl _ _).alloc (Nat.le_refl _) _).alloc (by simp) _).alloc (by simp; omega) _)
  by_cases f5 : f = 5
  · subst f5
    cases pl
    · have HV := Lib.hid (show meetD ⟨ab, false, lo, hi⟩ (5, B.data.toList, n) = ⟨false, false, max lo n, min hi n⟩ by unfold meetD; simp)
      go_enter Tryz.func63, Tryz.ntmps63
      go_wp2_with fail
      refine bodyPost_ret (v := .agg #[.bool (false), .bool (false), .int .i64 (max lo n), .int .i64 (min hi n)]) ?_ rfl ⟨by rw [HV.out]; rfl, ?_⟩
      · rw [results_cellL rfl]
        go_simp
      · exact ((((Below.refl _ _).alloc (Nat.le_refl _) _).alloc (by simp) _).alloc (by simp; omega) _)
    · have HV := Lib.hid (show meetD ⟨ab, true, lo, hi⟩ (5, B.data.toList, n) = ⟨false, false, max lo n, min hi n⟩ by unfold meetD; simp)
      go_enter Tryz.func63, Tryz.ntmps63
      go_wp2_with fail
      refine bodyPost_ret (v := .agg #[.bool (false), .bool (false), .int .i64 (max lo n), .int .i64 (min hi n)]) ?_ rfl ⟨by rw [HV.out]; rfl, ?_⟩
      · rw [results_cellL rfl]
        go_simp
      · exact ((((Below.refl _ _).alloc (Nat.le_refl _) _).alloc (by simp) _).alloc (by simp; omega) _)
  have u1 : (f == 1) = false := by rw [beq_eq_false_iff_ne]; exact f1
  have u2 : (f == 2) = false := by rw [beq_eq_false_iff_ne]; exact f2
  have u3 : (f == 3) = false := by rw [beq_eq_false_iff_ne]; exact f3
  have u4 : (f == 4) = false := by rw [beq_eq_false_iff_ne]; exact f4
  have u5 : (f == 5) = false := by rw [beq_eq_false_iff_ne]; exact f5
  cases pl
  · have HV := Lib.hid (show meetD ⟨ab, false, lo, hi⟩ (f, B.data.toList, n) = ⟨false, false, lo, hi⟩ by unfold meetD; simp [f1, f2, f3, f4, f5])
    go_enter Tryz.func63, Tryz.ntmps63
    go_wp2_with fail
    refine bodyPost_ret (v := .agg #[.bool (false), .bool (false), .int .i64 (lo), .int .i64 (hi)]) ?_ rfl ⟨by rw [HV.out]; rfl, ?_⟩
    · rw [results_cellL rfl]
      go_simp
    · exact ((((Below.refl _ _).alloc (Nat.le_refl _) _).alloc (by simp) _).alloc (by simp; omega) _)
  · have HV := Lib.hid (show meetD ⟨ab, true, lo, hi⟩ (f, B.data.toList, n) = ⟨false, false, lo, hi⟩ by unfold meetD; simp [f1, f2, f3, f4, f5])
    go_enter Tryz.func63, Tryz.ntmps63
    go_wp2_with fail
    refine bodyPost_ret (v := .agg #[.bool (false), .bool (false), .int .i64 (lo), .int .i64 (hi)]) ?_ rfl ⟨by rw [HV.out]; rfl, ?_⟩
    · rw [results_cellL rfl]
      go_simp
    · exact ((((Below.refl _ _).alloc (Nat.le_refl _) _).alloc (by simp) _).alloc (by simp; omega) _)
set_option maxHeartbeats 4000000 in
theorem poss_any (ab pl : Bool) (lo hi : Int) (w : World) :
    Calls Tryz.prog 62 #[.agg #[.bool ab, .bool pl, .int .i64 lo, .int .i64 hi]] w fun e w' => e = .returned (.bool (possD ⟨ab, pl, lo, hi⟩)) ∧ Below w.heap.size w w' := by
  obtain ⟨r, hr⟩ : ∃ r, r = possD ⟨ab, pl, lo, hi⟩ := ⟨_, rfl⟩
  rw [← hr]
  cases ab <;> cases pl <;> by_cases h : lo ≤ hi
  all_goals
    have HV := Lib.hid hr
    clear hr
    go_enter Tryz.func62, Tryz.ntmps62
    go_wp2_with fail
    go_ret
    exact ⟨ret_bool (by rw [HV.out]; unfold possD; simp [h]), (Below.refl _ _).alloc (Nat.le_refl _) _⟩
set_option maxHeartbeats 8000000 in
theorem within_any (ab pl ab' pl' : Bool) (lo hi lo' hi' : Int) (w : World) :
    Calls Tryz.prog 39 #[.agg #[.bool ab, .bool pl, .int .i64 lo, .int .i64 hi], .agg #[.bool ab', .bool pl', .int .i64 lo', .int .i64 hi']] w fun e w' => e = .returned (.bool (withinD ⟨ab, pl, lo, hi⟩ ⟨ab', pl', lo', hi'⟩)) ∧ Below w.heap.size w w' := by
  obtain ⟨r, hr⟩ : ∃ r, r = withinD ⟨ab, pl, lo, hi⟩ ⟨ab', pl', lo', hi'⟩ := ⟨_, rfl⟩
  rw [← hr]
  by_cases h1 : hi < lo
  · cases ab <;> cases pl <;> cases ab' <;> cases pl'
    all_goals
      have HV := Lib.hid hr
      clear hr
      go_enter Tryz.func39, Tryz.ntmps39
      go_wp2_with fail
      go_ret
      exact ⟨ret_bool (by rw [HV.out]; unfold withinD; simp [h1]), ((Below.refl _ _).alloc (Nat.le_refl _) _).alloc (by simp) _⟩
  by_cases h2 : lo' ≤ lo
  · by_cases h3 : hi ≤ hi' <;> cases ab <;> cases pl <;> cases ab' <;> cases pl'
    all_goals
      have HV := Lib.hid hr
      clear hr
      go_enter Tryz.func39, Tryz.ntmps39
      go_wp2_with fail
      go_ret
      exact ⟨ret_bool (by rw [HV.out]; unfold withinD; simp [h1, h2, h3]), ((Below.refl _ _).alloc (Nat.le_refl _) _).alloc (by simp) _⟩
  · cases ab <;> cases pl <;> cases ab' <;> cases pl'
    all_goals
      have HV := Lib.hid hr
      clear hr
      go_enter Tryz.func39, Tryz.ntmps39
      go_wp2_with fail
      go_ret
      exact ⟨ret_bool (by rw [HV.out]; unfold withinD; simp [h1, h2] <;> omega), ((Below.refl _ _).alloc (Nat.le_refl _) _).alloc (by simp) _⟩
end Go.Proofs.YtglckcenjnieaaaGreatDoor
