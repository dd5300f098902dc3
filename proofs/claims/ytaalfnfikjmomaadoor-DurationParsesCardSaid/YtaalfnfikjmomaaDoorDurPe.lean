/- Contracts of Add and Elapsed (duration), the program's and the document's. -/
import Derived.Test.YtaalfnfikjmomaaDoorDurPa
import Derived.Test.YtaalfnfikjmomaaDoorDurA
namespace Go.Proofs.YtaalfnfikjmomaaDoor
open Go.RowKit Go.Lib

theorem limited_ret (n : Int) (w : World) :
    Calls Tryd.prog 27 #[.int .i64 n] w fun e w' => e = .returned (.int .i64 (limD n : Nat)) ∧ w = w' := by
  have L := Lib.hid (fun w => Limit_any n 0 1125899906842624 w)
  have hv := Lib.hid (show clamp n 0 1125899906842624 = ((limD n : Nat) : Int) by unfold clamp limD; split <;> (try split) <;> (try split) <;> (try split) <;> omega)
  go_enter Tryd.func27, Tryd.ntmps27
  go_wp2_with fail
  go_fit (L.out _)
  rintro e w1 ⟨rfl, rfl⟩
  rw [hv.out]
  go_wp2_with fail
  go_ret
  exact ⟨rfl, rfl⟩
theorem durAdd_any (a b : Int) (ha : I64 a) (hb : I64 b) (w : World) :
    Calls Tryd.prog 14 #[.int .i64 a, .int .i64 b] w fun e w' => e = .returned (.int .i64 (limD (a + b) : Nat)) ∧ w = w' := by
  have A := Lib.hid (fun w => Add_any a b ha hb w)
  have L := fun w => limited_ret (limit64 (a + b)) w
  rw [show limD (limit64 (a + b)) = limD (a + b) by unfold limD limit64; repeat' split
                                                    all_goals omega] at L
  have L := Lib.hid L
  clear ha hb
  go_enter Tryd.func14, Tryd.ntmps14
  go_wp2_with fail
  go_fit (A.out _)
  rintro e w1 ⟨rfl, rfl⟩
  go_wp2_with fail
  go_fit (L.out _)
  rintro e w1 ⟨rfl, rfl⟩
  go_wp2_with fail
  go_ret
  exact ⟨rfl, rfl⟩
theorem refAddD_any (a b : Int) (ha : I64 a) (hb : I64 b) (w : World) :
    Calls Tryd.prog 15 #[.int .i64 a, .int .i64 b] w fun e w' => e = .returned (.int .i64 (limD (a + b) : Nat)) ∧ w = w' := by
  have A := Lib.hid (fun w => refAdd_any a b ha hb w)
  have L := fun w => refLimitD_any (limit64 (a + b)) w
  rw [show limD (limit64 (a + b)) = limD (a + b) by unfold limD limit64; repeat' split
                                                    all_goals omega] at L
  have L := Lib.hid L
  clear ha hb
  go_enter Tryd.func15, Tryd.ntmps15
  go_wp2_with fail
  go_fit (A.out _)
  rintro e w1 ⟨rfl, rfl⟩
  go_wp2_with fail
  go_fit (L.out _)
  rintro e w1 ⟨rfl, rfl⟩
  go_wp2_with fail
  go_ret
  exact ⟨rfl, rfl⟩
/-- The time between two times. -/
def elapD (a b : Int) : Int := limD (b - a)
theorem u64_diff (a b : Int) (ha : I64 a) (hb : I64 b) (h : a < b) : IntKind.u64.wrap (IntKind.u64.wrap b - IntKind.u64.wrap a) = b - a := by
  unfold I64 at ha hb
  simp only [IntKind.wrap_u64]
  omega
set_option maxHeartbeats 1000000 in
theorem durElapsed_any (a b : Int) (ha : I64 a) (hb : I64 b) (w : World) :
    Calls Tryd.prog 16 #[.int .i64 a, .int .i64 b] w fun e w' => e = .returned (.int .i64 (elapD a b)) ∧ w = w' := by
  by_cases h1 : b ≤ a
  · have hv := Lib.hid (show elapD a b = 0 by unfold elapD limD; split <;> (try split) <;> omega)
    clear ha hb
    go_enter Tryd.func16, Tryd.ntmps16
    go_wp2_with fail
    go_ret
    exact ⟨by rw [hv.out]; rfl, rfl⟩
  · have hd := u64_diff a b ha hb (by omega)
    by_cases h2 : 1125899906842624 < b - a
    · have hv := Lib.hid (show elapD a b = 1125899906842624 by unfold elapD limD; split <;> (try split) <;> omega)
      have hmn : min (b - a) 1125899906842624 = 1125899906842624 := by omega
      clear ha hb
      go_enter Tryd.func16, Tryd.ntmps16
      go_wp2_with fail
      go_ret
      exact ⟨by rw [hv.out]; rfl, rfl⟩
    · have hv := Lib.hid (show elapD a b = b - a by unfold elapD limD; split <;> (try split) <;> omega)
      have hmn : min (b - a) 1125899906842624 = b - a := by omega
      have hw : 0 ≤ b - a ∧ b - a ≤ 1125899906842624 := by omega
      clear ha hb
      go_enter Tryd.func16, Tryd.ntmps16
      go_wp2_with fail
      go_ret
      exact ⟨by rw [hv.out]; rfl, rfl⟩
set_option maxHeartbeats 1000000 in
theorem refElapsed_any (a b : Int) (ha : I64 a) (hb : I64 b) (w : World) :
    Calls Tryd.prog 17 #[.int .i64 a, .int .i64 b] w fun e w' => e = .returned (.int .i64 (elapD a b)) ∧ w = w' := by
  by_cases h1 : b ≤ a
  · have hv := Lib.hid (show elapD a b = 0 by unfold elapD limD; split <;> (try split) <;> omega)
    clear ha hb
    go_enter Tryd.func17, Tryd.ntmps17
    go_wp2_with fail
    go_ret
    exact ⟨by rw [hv.out]; rfl, rfl⟩
  · have hd := u64_diff a b ha hb (by omega)
    by_cases h2 : 1125899906842624 < b - a
    · have hv := Lib.hid (show elapD a b = 1125899906842624 by unfold elapD limD; split <;> (try split) <;> omega)
      clear ha hb
      go_enter Tryd.func17, Tryd.ntmps17
      go_wp2_with fail
      go_ret
      exact ⟨by rw [hv.out]; rfl, rfl⟩
    · have hv := Lib.hid (show elapD a b = b - a by unfold elapD limD; split <;> (try split) <;> omega)
      have hw : 0 ≤ b - a ∧ b - a ≤ 1125899906842624 := by omega
      clear ha hb
      go_enter Tryd.func17, Tryd.ntmps17
      go_wp2_with fail
      go_ret
      exact ⟨by rw [hv.out]; rfl, rfl⟩
end Go.Proofs.YtaalfnfikjmomaaDoor
