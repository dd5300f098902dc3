/- num.Less with what it draws, and what a sort asks of a closure (fairness): new blocks and draws alone. -/
import Derived.Test.YtmjikddceegloaaGreatDoorNumB
import Derived.Test.YtmjikddceegloaaGreatDoorIdpF
import Derived.Sort.Grow
import Derived.Lib.OwnBridge
import Derived.Lib.QuietBelow
namespace Go.Proofs.YtmjikddceegloaaGreatDoor
open Go.RowKit Go.Lib Go.Sort

theorem BelowD.alloc {a b : World} (h : BelowD a b) (o : Obj) : BelowD a (b.alloc o) := ⟨h.1.alloc h.1.size o, h.2⟩
theorem BelowD.newN {a b : World} (h : BelowD a b) (n : Nat) : BelowD a (b.drewN n) := ⟨below_drewN h.1 n, Nat.le_trans h.2 (Nat.le_add_right _ _)⟩
theorem grownD_of {w w' : World} (h : BelowD w w') : ∃ q os, w' = grow (w.drewN q) os := by
  obtain ⟨p, hp⟩ := regrown_of_below h.1
  refine ⟨w'.drawn - w.drawn, p.os, ?_⟩
  have hd : w'.drawn = p.d := by rw [hp]; rfl
  rw [hp]
  have h2 := h.2
  rw [hd] at h2
  show grow (redrawn w p.d) p.os = grow (w.drewN (p.d - w.drawn)) p.os
  congr 1
  show ({ w with drawn := p.d } : World) = _
  unfold World.drewN
  rw [show w.drawn + (p.d - w.drawn) = p.d by omega]
set_option maxHeartbeats 1000000 in
theorem multiplyD_any (a b : Int) (ha : -9223372036854775808 ≤ a ∧ a ≤ 9223372036854775807) (hb : -9223372036854775808 ≤ b ∧ b ≤ 9223372036854775807) (w : World) :
    Calls Tryz.prog 73 #[.int .i64 a, .int .i64 b] w fun e w' => e = .returned (prodV (a * b)) ∧ BelowD w w' := by
  obtain ⟨h1, h2⟩ := two_wraps a b ha hb
  have H1 := Lib.hid h1
  have H2 := Lib.hid h2
  clear h1 h2
  have m1 : 0 ≤ IntKind.u64.wrap a ∧ IntKind.u64.wrap a ≤ 18446744073709551615 := by rw [IntKind.wrap_u64]; omega
  have m2 : 0 ≤ IntKind.u64.wrap b ∧ IntKind.u64.wrap b ≤ 18446744073709551615 := by rw [IntKind.wrap_u64]; omega
  have M1 := Lib.hid m1
  have M2 := Lib.hid m2
  clear m1 m2
  by_cases c1 : a < 0 <;> by_cases c2 : b < 0
  all_goals
    have h3 := H1.out
    unfold mulUp at h3
    simp only [c1, c2, if_true, if_false] at h3
    have h2 := H2.out
    have m1 := M1.out
    have m2 := M2.out
    clear H1 H2 M1 M2
    try (have ea := IntWalk.u64_in a (by omega); rw [ea] at h3 h2 m1; clear ea)
    try (have eb := IntWalk.u64_in b (by omega); rw [eb] at h3 h2 m2; clear eb)
    have H3 := Lib.hid h3
    have H2 := Lib.hid h2
    have M1 := Lib.hid m1
    have M2 := Lib.hid m2
    clear h3 h2 m1 m2
    go_enter Tryz.func73, Tryz.ntmps73
    go_wp2_with fail
    go_fit (mul64_any _ _ M1.out.1 M1.out.2 M2.out.1 M2.out.2 _)
    rintro e w' ⟨rfl, rfl⟩
    go_wp2_with fail
    refine bodyPost_ret (v := prodV (a * b)) ?_ rfl ⟨rfl, ?_⟩
    · simp [results, Tryz.results73, go_sem, H2.out, H3.out, prodV]
    · exact (BelowD.refl _).alloc _
set_option maxHeartbeats 1000000 in
theorem lessD_any (z y : Int) (hz : Mid z) (hy : Mid y) (w : World) :
    Calls Tryz.prog 79 #[prodV z, prodV y] w fun e w' => e = .returned (.bool (decide (z < y))) ∧ BelowD w w' := by
  by_cases he : hiOf z = hiOf y
  · have hl := lo_lt z y hz hy he
    have HL := Lib.hid hl
    have hb : (hiOf z != hiOf z) = false := by simp
    unfold prodV
    rw [← he]
    clear hl hz hy he
    go_enter Tryz.func79, Tryz.ntmps79
    go_wp2_with fail
    go_ret
    exact ⟨ret_bool (by simp only [HL.out]), ((BelowD.refl _).alloc _).alloc _⟩
  · have hl := hi_lt z y hz hy he
    have HL := Lib.hid hl
    have hb : (hiOf z != hiOf y) = true := by simpa using he
    unfold prodV
    clear hl hz hy he
    go_enter Tryz.func79, Tryz.ntmps79
    go_wp2_with fail
    go_ret
    exact ⟨ret_bool (by simp only [HL.out]), ((BelowD.refl _).alloc _).alloc _⟩
set_option maxHeartbeats 1000000 in
theorem LessD_any (a b c d : Int) (ha : I64 a) (hb : I64 b) (hc : I64 c) (hd : I64 d) (w : World) :
    Calls Tryz.prog 56 #[.int .i64 a, .int .i64 b, .int .i64 c, .int .i64 d] w fun e w' => e = .returned (.bool (decide (a * b < c * d))) ∧ BelowD w w' := by
  have HA := Lib.hid ha; have HB := Lib.hid hb; have HC := Lib.hid hc; have HD := Lib.hid hd
  clear ha hb hc hd
  go_enter Tryz.func56, Tryz.ntmps56
  go_wp2_with fail
  go_fit (multiplyD_any _ _ HA.out HB.out _)
  rintro e w1 ⟨rfl, hb1⟩
  go_wp2_with fail
  go_fit (multiplyD_any _ _ HC.out HD.out _)
  rintro e w2 ⟨rfl, hb2⟩
  go_wp2_with fail
  go_fit (lessD_any _ _ (mid_mul _ _ HA.out HB.out) (mid_mul _ _ HC.out HD.out) _)
  rintro e w3 ⟨rfl, hb3⟩
  go_wp2_with fail
  go_ret
  exact ⟨rfl, hb1.trans (hb2.trans hb3)⟩
end Go.Proofs.YtmjikddceegloaaGreatDoor
