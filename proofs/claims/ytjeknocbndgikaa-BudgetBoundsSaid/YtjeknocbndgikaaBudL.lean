/- The condition that each statement of layer 22 asks first is met: the chapter's first example. -/
import Derived.Test.YtjeknocbndgikaaBudG
namespace Go.Proofs.Ytjeknocbndgikaa
open Go.RowKit Go.Lib

theorem aw_new (w : World) : Calls Try.prog 9 #[.int .i64 10, .int .i64 5, .int .i64 0] w fun e w' => e = .returned (.tuple #[.agg #[.int .i64 10, .int .i64 5, .int .i64 5000, .int .i64 0], .int .i64 0]) ∧ Below w.heap.size w w' := by
  have h := New_any 10 5 0 (by unfold I64; decide) w
  rwa [show nwV 10 5 0 10 = 10 by decide, show nwV 10 5 0 5 = 5 by decide, show nwV 10 5 0 (1000 * 5) = 5000 by decide, show nwV 10 5 0 0 = 0 by decide, show nwE 10 5 0 = 0 by decide] at h
theorem aw_spend (w : World) : Calls Try.prog 14 #[.agg #[.int .i64 10, .int .i64 5, .int .i64 5000, .int .i64 0], .int .i64 0, .int .i64 5] w fun e w' => e = .returned (.tuple #[.agg #[.int .i64 10, .int .i64 5, .int .i64 0, .int .i64 0], .int .i64 0]) ∧ Below w.heap.size w w' := by
  have h := Spend_any 10 5 5000 0 0 5 w
  rwa [show spL 10 5 5000 0 0 5 = 0 by decide, show spA 10 5 5000 0 0 5 = 0 by decide, show spE 10 5 5000 0 0 5 = 0 by decide] at h
theorem aw_when (w : World) : Calls Try.prog 18 #[.agg #[.int .i64 10, .int .i64 5, .int .i64 0, .int .i64 0], .int .i64 0, .int .i64 2] w fun e w' => e = .returned (.tuple #[.int .i64 200, .bool true]) ∧ Below w.heap.size w w' := by
  have h := When_any 10 5 0 0 0 2 w
  rwa [show whO 10 5 0 0 0 2 = some 200 by decide] at h
theorem aw_lev1 (w : World) : Calls Try.prog 12 #[.agg #[.int .i64 10, .int .i64 5, .int .i64 5000, .int .i64 0], .int .i64 0] w fun e w' => e = .returned (.int .i64 5000) ∧ Below w.heap.size w w' := by
  have h := Level_any 10 5 5000 0 0 w
  rwa [show lvD 10 5 5000 0 0 = 5000 by decide] at h
theorem aw_lev2 (w : World) : Calls Try.prog 12 #[.agg #[.int .i64 10, .int .i64 5, .int .i64 0, .int .i64 0], .int .i64 100] w fun e w' => e = .returned (.int .i64 1000) ∧ Below w.heap.size w w' := by
  have h := Level_any 10 5 0 0 100 w
  rwa [show lvD 10 5 0 0 100 = 1000 by decide] at h

set_option maxHeartbeats 1000000 in
theorem lives22_any (w : World) :
    Calls Try.prog 11 #[] w fun e w' => e = .returned (.bool true) ∧ Below w.heap.size w w' := by
  go_enter Try.func11, Try.ntmps11
  go_wp2_with fail
  go_fit (aw_new _)
  rintro e w1 ⟨rfl, hb⟩
  have B1 := Lib.hid hb
  clear hb
  go_wp2_with fail
  go_fit (aw_spend _)
  rintro e w2 ⟨rfl, hb⟩
  have F2 := Lib.hid ((FourAt.new w1 23 (.int .i64 10) (.int .i64 5) (.int .i64 5000) (.int .i64 0)).below hb)
  have B2 := Lib.hid ((B1.out.alloc B1.out.size _).trans (hb.mono (by have := B1.out.size; simp; omega)))
  have z1 := F2.out.lt
  clear hb
  go_wp2_with fail
  go_fit (aw_when _)
  rintro e w3 ⟨rfl, hb⟩
  have f1 := (F2.out.alloc _).below hb
  have f2 := (FourAt.new w2 23 (.int .i64 10) (.int .i64 5) (.int .i64 0) (.int .i64 0)).below hb
  have b1 := (B2.out.alloc B2.out.size _).trans (hb.mono (by have := B2.out.size; simp; omega))
  clear hb z1
  obtain ⟨c0, c1, c2, c3, -⟩ := f1.facts
  obtain ⟨d0, d1, d2, d3, -⟩ := f2.facts
  have z1 := f1.lt
  have z2 := f2.lt
  have F := Lib.hid (And.intro f1 f2)
  have B := Lib.hid b1
  clear f1 f2 b1
  go_wp2_with fail
  go_fit (aw_lev1 _)
  rintro e w4 ⟨rfl, hb⟩
  have f1 := F.out.1.below hb
  have f2 := F.out.2.below hb
  have b1 := B.out.trans (hb.mono B.out.size)
  clear hb c0 c1 c2 c3 d0 d1 d2 d3 z1 z2
  obtain ⟨c0, c1, c2, c3, -⟩ := f1.facts
  obtain ⟨d0, d1, d2, d3, -⟩ := f2.facts
  have z1 := f1.lt
  have z2 := f2.lt
  have F := Lib.hid (And.intro f1 f2)
  have B := Lib.hid b1
  clear f1 f2 b1
  go_wp2_with fail
  go_fit (aw_lev2 _)
  rintro e w5 ⟨rfl, hb⟩
  have f1 := F.out.1.below hb
  have f2 := F.out.2.below hb
  have b1 := B.out.trans (hb.mono B.out.size)
  clear hb c0 c1 c2 c3 d0 d1 d2 d3 z1 z2
  obtain ⟨c0, c1, c2, c3, -⟩ := f1.facts
  obtain ⟨d0, d1, d2, d3, -⟩ := f2.facts
  have z1 := f1.lt
  have z2 := f2.lt
  have F := Lib.hid (And.intro f1 f2)
  have B := Lib.hid b1
  clear f1 f2 b1
  go_wp2_with fail
  go_ret
  exact ⟨rfl, B.out⟩
end Go.Proofs.Ytjeknocbndgikaa
