/- The contract of the condition that each statement of layer 1 asks first: it is met. -/
import Derived.Test.YthggcagbanndgaaNumD
import Derived.Test.YthggcagbanndgaaRefC
import Derived.Test.YthggcagbanndgaaGcd
namespace Go.Proofs.Ythggcagbanndgaa
open Go.RowKit Go.Lib Go.NumM

theorem i64_dec {a : Int} (h : decide (-9223372036854775808 ≤ a ∧ a ≤ 9223372036854775807) = true) : I64 a := by unfold I64; exact of_decide_eq_true h
theorem scale_a (w : World) : Calls Try.prog 22 #[.int .i64 (-7), .int .i64 1, .int .i64 2] w fun e w' => e = .returned (.tuple #[.int .i64 (-4), .int .i64 0]) ∧ Below w.heap.size w w' := by
  have h := Scale_any (-7) 1 2 (i64_dec (by decide)) (i64_dec (by decide)) (i64_dec (by decide)) w
  rwa [show scQ (-7) 1 2 = -4 by decide, show scE (-7) 1 2 = 0 by decide] at h
theorem scale_b (w : World) : Calls Try.prog 22 #[.int .i64 7, .int .i64 3, .int .i64 (-2)] w fun e w' => e = .returned (.tuple #[.int .i64 (-11), .int .i64 0]) ∧ Below w.heap.size w w' := by
  have h := Scale_any 7 3 (-2) (i64_dec (by decide)) (i64_dec (by decide)) (i64_dec (by decide)) w
  rwa [show scQ 7 3 (-2) = -11 by decide, show scE 7 3 (-2) = 0 by decide] at h
theorem less_a (w : World) : Calls Try.prog 20 #[.int .i64 6, .int .i64 7, .int .i64 2, .int .i64 22] w fun e w' => e = .returned (.bool true) ∧ Below w.heap.size w w' :=
  Less_any 6 7 2 22 (i64_dec (by decide)) (i64_dec (by decide)) (i64_dec (by decide)) (i64_dec (by decide)) w
theorem less_b (w : World) : Calls Try.prog 20 #[.int .i64 6, .int .i64 7, .int .i64 2, .int .i64 21] w fun e w' => e = .returned (.bool false) ∧ Below w.heap.size w w' :=
  Less_any 6 7 2 21 (i64_dec (by decide)) (i64_dec (by decide)) (i64_dec (by decide)) (i64_dec (by decide)) w
theorem gcd_two (a b : Int) (ha : I64 a) (hb : I64 b) (B : Nat) (w : World) (h0 : w.cell? ⟨B, 0, none⟩ = some (.int .i64 a)) (h1 : w.cell? ⟨B, 1, none⟩ = some (.int .i64 b)) (hB : B < w.heap.size) :
    Calls Try.prog 26 #[.slice (some ⟨B, 0, none⟩) 2 2] w fun e w' => e = .returned (.int .i64 (gcdOut [a, b])) ∧ Below w.heap.size w w' := by
  refine Gcd_any (some ⟨B, 0, none⟩) 2 [a, b] ?_ (by simp) w ?_
  · intro n hn
    simp only [List.mem_cons, List.not_mem_nil, or_false] at hn
    rcases hn with rfl | rfl
    · exact ha
    · exact hb
  · intro k hk
    simp only [List.length_cons, List.length_nil] at hk
    refine ⟨B, 0, rfl, hB, ?_⟩
    match k, hk with
    | 0, _ => exact h0
    | 1, _ => exact h1
theorem gcd_a (B : Nat) (w : World) (h0 : w.cell? ⟨B, 0, none⟩ = some (.int .i64 12)) (h1 : w.cell? ⟨B, 1, none⟩ = some (.int .i64 (-18))) (hB : B < w.heap.size) :
    Calls Try.prog 26 #[.slice (some ⟨B, 0, none⟩) 2 2] w fun e w' => e = .returned (.int .i64 6) ∧ Below w.heap.size w w' := by
  have h := gcd_two 12 (-18) (i64_dec (by decide)) (i64_dec (by decide)) B w h0 h1 hB
  rwa [show gcdOut [12, -18] = 6 by decide] at h

set_option maxHeartbeats 1000000 in
theorem lives_any (w : World) :
    Calls Try.prog 19 #[] w fun e w' => e = .returned (.bool true) ∧ Below w.heap.size w w' := by
  go_enter Try.func19, Try.ntmps19
  go_wp2_with fail
  go_fit (scale_a _)
  rintro e w1 ⟨rfl, hb1⟩
  have z1 := hb1.size
  have B1 := Lib.hid hb1
  clear hb1
  go_wp2_with fail
  go_fit (scale_b _)
  rintro e w2 ⟨rfl, hb2⟩
  have z2 := hb2.size
  have B2 := Lib.hid (B1.out.trans (hb2.mono z1))
  clear hb2 B1
  go_wp2_with fail
  go_fit (less_a _)
  rintro e w3 ⟨rfl, hb3⟩
  have z3 := hb3.size
  have B3 := Lib.hid (B2.out.trans (hb3.mono (by omega)))
  clear hb3 B2
  go_wp2_with fail
  go_fit (less_b _)
  rintro e w4 ⟨rfl, hb4⟩
  have z4 := hb4.size
  have B4 := Lib.hid (B3.out.trans (hb4.mono (by omega)))
  clear hb4 B3
  go_wp2_with fail
  go_fit (gcd_a _ _ (by simp [World.cell?_alloc_new]) (by simp [World.cell?_alloc_new]) (by simp))
  rintro e w5 ⟨rfl, hb5⟩
  have B5 := Lib.hid ((B4.out.alloc (by omega) _).trans (hb5.mono (by simp; omega)))
  clear hb5 B4
  go_wp2_with fail
  go_ret
  exact ⟨rfl, B5.out⟩
end Go.Proofs.Ythggcagbanndgaa
