/- NumOrder: for every six integers, of two products num.Less calls at most one less, exchanging the factors changes nothing, and comparison goes from one product to the next. No condition on the inputs. -/
import Derived.Test.YthggcagbanndgaaOpen
import Derived.ProofKit
import Derived.OpenShut
namespace Go.Proofs.Ythggcagbanndgaa.numOrder
open Go.ChangeShapes Go.WideShapes Go.ChangeAt Go.RowKit
set_option linter.unusedVariables false

theorem own : ownKnob Try.prog.godebug = none := by kernel_rfl
theorem laidOut : laidOutB Try.prog = true := by kernel_rfl

def Six (w : World) (x0 x1 x2 x3 x4 x5 : Int) (w1 : World) : Prop :=
  w1.cell? ⟨w.heap.size, 0, none⟩ = some (.int .i64 x0) ∧ w1.cell? ⟨w.heap.size, 1, none⟩ = some (.int .i64 x1) ∧ w1.cell? ⟨w.heap.size, 2, none⟩ = some (.int .i64 x2) ∧ w1.cell? ⟨w.heap.size, 3, none⟩ = some (.int .i64 x3) ∧ w1.cell? ⟨w.heap.size, 4, none⟩ = some (.int .i64 x4) ∧ w1.cell? ⟨w.heap.size, 5, none⟩ = some (.int .i64 x5) ∧ w.heap.size < w1.heap.size ∧ w.heap.size ≤ w1.heap.size ∧ Below w.heap.size w w1
theorem Six.next {w w1 w2 : World} {x0 x1 x2 x3 x4 x5 : Int} (h : Six w x0 x1 x2 x3 x4 x5 w1) (hb : Below w1.heap.size w1 w2) : Six w x0 x1 x2 x3 x4 x5 w2 := by
  obtain ⟨h0, h1, h2, h3, h4, h5, hB, hs, hw⟩ := h
  have hz := hb.size
  exact ⟨(hb.cell (p := ⟨w.heap.size, 0, none⟩) hB).trans h0, (hb.cell (p := ⟨w.heap.size, 1, none⟩) hB).trans h1, (hb.cell (p := ⟨w.heap.size, 2, none⟩) hB).trans h2, (hb.cell (p := ⟨w.heap.size, 3, none⟩) hB).trans h3, (hb.cell (p := ⟨w.heap.size, 4, none⟩) hB).trans h4, (hb.cell (p := ⟨w.heap.size, 5, none⟩) hB).trans h5, by omega, by omega, hw.trans (hb.mono hs)⟩
theorem Six.drew {w w1 : World} {x0 x1 x2 x3 x4 x5 : Int} (h : Six w x0 x1 x2 x3 x4 x5 w1) : Six w x0 x1 x2 x3 x4 x5 w1.drew := by
  obtain ⟨h0, h1, h2, h3, h4, h5, hB, hs, hw⟩ := h
  exact ⟨h0, h1, h2, h3, h4, h5, hB, hs, hw.drew⟩
theorem Six.new (w : World) (x0 x1 x2 x3 x4 x5 : Int) (T : TypeId) : Six w x0 x1 x2 x3 x4 x5 (w.alloc (.cells #[.int .i64 x0, .int .i64 x1, .int .i64 x2, .int .i64 x3, .int .i64 x4, .int .i64 x5] T)) :=
  ⟨by simp [World.cell?_alloc_new], by simp [World.cell?_alloc_new], by simp [World.cell?_alloc_new], by simp [World.cell?_alloc_new], by simp [World.cell?_alloc_new], by simp [World.cell?_alloc_new], by simp, by simp, (Below.refl _ _).alloc (Nat.le_refl _) _⟩
theorem Six.below {w w1 : World} {x0 x1 x2 x3 x4 x5 : Int} (h : Six w x0 x1 x2 x3 x4 x5 w1) : Below w.heap.size w w1 := by
  obtain ⟨_, _, _, _, _, _, _, _, hw⟩ := h
  exact hw
theorem less_yes (a b c d : Int) (ha : I64 a) (hb : I64 b) (hc : I64 c) (hd : I64 d) (h : a * b < c * d) (w : World) :
    Calls Try.prog 20 #[.int .i64 a, .int .i64 b, .int .i64 c, .int .i64 d] w fun e w' => e = .returned (.bool true) ∧ Below w.heap.size w w' := by
  have := Less_any a b c d ha hb hc hd w; rwa [decide_eq_true h] at this
theorem less_no (a b c d : Int) (ha : I64 a) (hb : I64 b) (hc : I64 c) (hd : I64 d) (h : ¬ a * b < c * d) (w : World) :
    Calls Try.prog 20 #[.int .i64 a, .int .i64 b, .int .i64 c, .int .i64 d] w fun e w' => e = .returned (.bool false) ∧ Below w.heap.size w w' := by
  have := Less_any a b c d ha hb hc hd w; rwa [decide_eq_false h] at this
theorem less_one (a c : Int) (ha : I64 a) (hc : I64 c) (w : World) :
    Calls Try.prog 20 #[.int .i64 a, .int .i64 1, .int .i64 c, .int .i64 1] w fun e w' => e = .returned (.bool (decide (a < c))) ∧ Below w.heap.size w w' := by
  have := Less_any a 1 c 1 ha oneI hc oneI w; rwa [Int.mul_one, Int.mul_one] at this

set_option maxHeartbeats 1600000 in
theorem walk_yes_yes (x0 x1 x2 x3 x4 x5 : Int) (H0 : Hid (I64 x0)) (H1 : Hid (I64 x1)) (H2 : Hid (I64 x2)) (H3 : Hid (I64 x3)) (H4 : Hid (I64 x4)) (H5 : Hid (I64 x5)) (P1 : Hid (x0 * x1 < x2 * x3)) (P2 : Hid (x2 * x3 < x4 * x5)) (w : World) :
    Calls Try.prog 5 #[.agg #[.int .i64 x0, .int .i64 x1, .int .i64 x2, .int .i64 x3, .int .i64 x4, .int .i64 x5]] w fun e w' => e = .returned (.bool true) ∧ Below w.heap.size w w' := by
  go_enter Try.func5, Try.ntmps5
  have S0 := Lib.hid (Six.new w x0 x1 x2 x3 x4 x5 28)
  obtain ⟨c0, c1, c2, c3, c4, c5, cB, cs, _⟩ := S0.out
  go_wp2_with fail
  go_fit (less_yes x0 x1 x2 x3 H0.out H1.out H2.out H3.out P1.out _)
  rintro e w1 ⟨rfl, hb⟩
  have S1 := Lib.hid (S0.out.next hb)
  clear hb c0 c1 c2 c3 c4 c5 cB cs
  obtain ⟨c0, c1, c2, c3, c4, c5, cB, cs, _⟩ := S1.out
  go_wp2_with fail
  go_fit (less_no x2 x3 x0 x1 H2.out H3.out H0.out H1.out (by have := P1.out; omega) _)
  rintro e w2 ⟨rfl, hb⟩
  have S2 := Lib.hid (S1.out.next hb)
  clear hb c0 c1 c2 c3 c4 c5 cB cs
  obtain ⟨c0, c1, c2, c3, c4, c5, cB, cs, _⟩ := S2.out
  go_wp2_with fail
  go_fit (less_yes x2 x3 x4 x5 H2.out H3.out H4.out H5.out P2.out _)
  rintro e w3 ⟨rfl, hb⟩
  have S3 := Lib.hid (S2.out.next hb)
  clear hb c0 c1 c2 c3 c4 c5 cB cs
  obtain ⟨c0, c1, c2, c3, c4, c5, cB, cs, _⟩ := S3.out
  go_wp2_with fail
  go_fit (less_yes x0 x1 x4 x5 H0.out H1.out H4.out H5.out (by have := P1.out; have := P2.out; omega) _)
  rintro e w4 ⟨rfl, hb⟩
  have S4 := Lib.hid (S3.out.next hb)
  clear hb c0 c1 c2 c3 c4 c5 cB cs
  obtain ⟨c0, c1, c2, c3, c4, c5, cB, cs, _⟩ := S4.out
  go_wp2_with fail
  go_fit (less_yes x1 x0 x3 x2 H1.out H0.out H3.out H2.out (by have := P1.out; rw [Int.mul_comm x1, Int.mul_comm x3]; omega) _)
  rintro e w5 ⟨rfl, hb⟩
  have S5 := Lib.hid (S4.out.next hb)
  clear hb c0 c1 c2 c3 c4 c5 cB cs
  obtain ⟨c0, c1, c2, c3, c4, c5, cB, cs, _⟩ := S5.out
  have u1 : (decide (x0 < x2) == decide (x0 < x2)) = true := by simp
  go_upto_region 7 with fail
  go_region_held3 (fun w' => w'.cell? ⟨w.heap.size, 0, none⟩ = some (.int .i64 x0) ∧ w'.cell? ⟨w.heap.size, 1, none⟩ = some (.int .i64 x1) ∧ w'.cell? ⟨w.heap.size, 2, none⟩ = some (.int .i64 x2) ∧ w'.cell? ⟨w.heap.size, 3, none⟩ = some (.int .i64 x3) ∧ w'.cell? ⟨w.heap.size, 4, none⟩ = some (.int .i64 x4) ∧ w'.cell? ⟨w.heap.size, 5, none⟩ = some (.int .i64 x5) ∧ w.heap.size < w'.heap.size ∧ w.heap.size ≤ w'.heap.size ∧ Below w.heap.size w w') (first | exact S5.out.drew | exact Six.next (by assumption) (by assumption)) (first
      | (go_at_call 20; go_fit (less_one x0 x2 H0.out H2.out _); rintro e w6 ⟨rfl, hb6⟩)
      | (go_at_call 19; go_fit (lives_any _); rintro e w7 ⟨rfl, hb7⟩))
  all_goals
    go_wp2_with fail
    go_ret
    refine ⟨rfl, ?_⟩
    exact Six.below (x0 := x0) (x1 := x1) (x2 := x2) (x3 := x3) (x4 := x4) (x5 := x5) (by assumption)

set_option maxHeartbeats 1600000 in
theorem walk_yes_no (x0 x1 x2 x3 x4 x5 : Int) (H0 : Hid (I64 x0)) (H1 : Hid (I64 x1)) (H2 : Hid (I64 x2)) (H3 : Hid (I64 x3)) (H4 : Hid (I64 x4)) (H5 : Hid (I64 x5)) (P1 : Hid (x0 * x1 < x2 * x3)) (P2 : Hid (¬ x2 * x3 < x4 * x5)) (w : World) :
    Calls Try.prog 5 #[.agg #[.int .i64 x0, .int .i64 x1, .int .i64 x2, .int .i64 x3, .int .i64 x4, .int .i64 x5]] w fun e w' => e = .returned (.bool true) ∧ Below w.heap.size w w' := by
  go_enter Try.func5, Try.ntmps5
  have S0 := Lib.hid (Six.new w x0 x1 x2 x3 x4 x5 28)
  obtain ⟨c0, c1, c2, c3, c4, c5, cB, cs, _⟩ := S0.out
  go_wp2_with fail
  go_fit (less_yes x0 x1 x2 x3 H0.out H1.out H2.out H3.out P1.out _)
  rintro e w1 ⟨rfl, hb⟩
  have S1 := Lib.hid (S0.out.next hb)
  clear hb c0 c1 c2 c3 c4 c5 cB cs
  obtain ⟨c0, c1, c2, c3, c4, c5, cB, cs, _⟩ := S1.out
  go_wp2_with fail
  go_fit (less_no x2 x3 x0 x1 H2.out H3.out H0.out H1.out (by have := P1.out; omega) _)
  rintro e w2 ⟨rfl, hb⟩
  have S2 := Lib.hid (S1.out.next hb)
  clear hb c0 c1 c2 c3 c4 c5 cB cs
  obtain ⟨c0, c1, c2, c3, c4, c5, cB, cs, _⟩ := S2.out
  go_wp2_with fail
  go_fit (less_no x2 x3 x4 x5 H2.out H3.out H4.out H5.out (by have := P2.out; omega) _)
  rintro e w3 ⟨rfl, hb⟩
  have S3 := Lib.hid (S2.out.next hb)
  clear hb c0 c1 c2 c3 c4 c5 cB cs
  obtain ⟨c0, c1, c2, c3, c4, c5, cB, cs, _⟩ := S3.out
  go_wp2_with fail
  go_fit (Less_any x0 x1 x4 x5 H0.out H1.out H4.out H5.out _)
  rintro e w4 ⟨rfl, hb⟩
  have S4 := Lib.hid (S3.out.next hb)
  clear hb c0 c1 c2 c3 c4 c5 cB cs
  obtain ⟨c0, c1, c2, c3, c4, c5, cB, cs, _⟩ := S4.out
  go_wp2_with fail
  go_fit (less_yes x1 x0 x3 x2 H1.out H0.out H3.out H2.out (by have := P1.out; rw [Int.mul_comm x1, Int.mul_comm x3]; omega) _)
  rintro e w5 ⟨rfl, hb⟩
  have S5 := Lib.hid (S4.out.next hb)
  clear hb c0 c1 c2 c3 c4 c5 cB cs
  obtain ⟨c0, c1, c2, c3, c4, c5, cB, cs, _⟩ := S5.out
  have u1 : (decide (x0 < x2) == decide (x0 < x2)) = true := by simp
  go_upto_region 7 with fail
  go_region_held3 (fun w' => w'.cell? ⟨w.heap.size, 0, none⟩ = some (.int .i64 x0) ∧ w'.cell? ⟨w.heap.size, 1, none⟩ = some (.int .i64 x1) ∧ w'.cell? ⟨w.heap.size, 2, none⟩ = some (.int .i64 x2) ∧ w'.cell? ⟨w.heap.size, 3, none⟩ = some (.int .i64 x3) ∧ w'.cell? ⟨w.heap.size, 4, none⟩ = some (.int .i64 x4) ∧ w'.cell? ⟨w.heap.size, 5, none⟩ = some (.int .i64 x5) ∧ w.heap.size < w'.heap.size ∧ w.heap.size ≤ w'.heap.size ∧ Below w.heap.size w w') (first | exact S5.out.drew | exact Six.next (by assumption) (by assumption)) (first
      | (go_at_call 20; go_fit (less_one x0 x2 H0.out H2.out _); rintro e w6 ⟨rfl, hb6⟩)
      | (go_at_call 19; go_fit (lives_any _); rintro e w7 ⟨rfl, hb7⟩))
  all_goals
    go_wp2_with fail
    go_ret
    refine ⟨rfl, ?_⟩
    exact Six.below (x0 := x0) (x1 := x1) (x2 := x2) (x3 := x3) (x4 := x4) (x5 := x5) (by assumption)

set_option maxHeartbeats 1600000 in
theorem walk_no (x0 x1 x2 x3 x4 x5 : Int) (H0 : Hid (I64 x0)) (H1 : Hid (I64 x1)) (H2 : Hid (I64 x2)) (H3 : Hid (I64 x3)) (H4 : Hid (I64 x4)) (H5 : Hid (I64 x5)) (P1 : Hid (¬ x0 * x1 < x2 * x3)) (w : World) :
    Calls Try.prog 5 #[.agg #[.int .i64 x0, .int .i64 x1, .int .i64 x2, .int .i64 x3, .int .i64 x4, .int .i64 x5]] w fun e w' => e = .returned (.bool true) ∧ Below w.heap.size w w' := by
  go_enter Try.func5, Try.ntmps5
  have S0 := Lib.hid (Six.new w x0 x1 x2 x3 x4 x5 28)
  obtain ⟨c0, c1, c2, c3, c4, c5, cB, cs, _⟩ := S0.out
  go_wp2_with fail
  go_fit (less_no x0 x1 x2 x3 H0.out H1.out H2.out H3.out (by have := P1.out; omega) _)
  rintro e w1 ⟨rfl, hb⟩
  have S1 := Lib.hid (S0.out.next hb)
  clear hb c0 c1 c2 c3 c4 c5 cB cs
  obtain ⟨c0, c1, c2, c3, c4, c5, cB, cs, _⟩ := S1.out
  go_wp2_with fail
  go_fit (Less_any x2 x3 x0 x1 H2.out H3.out H0.out H1.out _)
  rintro e w2 ⟨rfl, hb⟩
  have S2 := Lib.hid (S1.out.next hb)
  clear hb c0 c1 c2 c3 c4 c5 cB cs
  obtain ⟨c0, c1, c2, c3, c4, c5, cB, cs, _⟩ := S2.out
  go_wp2_with fail
  go_fit (Less_any x2 x3 x4 x5 H2.out H3.out H4.out H5.out _)
  rintro e w3 ⟨rfl, hb⟩
  have S3 := Lib.hid (S2.out.next hb)
  clear hb c0 c1 c2 c3 c4 c5 cB cs
  obtain ⟨c0, c1, c2, c3, c4, c5, cB, cs, _⟩ := S3.out
  go_wp2_with fail
  go_fit (Less_any x0 x1 x4 x5 H0.out H1.out H4.out H5.out _)
  rintro e w4 ⟨rfl, hb⟩
  have S4 := Lib.hid (S3.out.next hb)
  clear hb c0 c1 c2 c3 c4 c5 cB cs
  obtain ⟨c0, c1, c2, c3, c4, c5, cB, cs, _⟩ := S4.out
  go_wp2_with fail
  go_fit (less_no x1 x0 x3 x2 H1.out H0.out H3.out H2.out (by have := P1.out; rw [Int.mul_comm x1, Int.mul_comm x3]; omega) _)
  rintro e w5 ⟨rfl, hb⟩
  have S5 := Lib.hid (S4.out.next hb)
  clear hb c0 c1 c2 c3 c4 c5 cB cs
  obtain ⟨c0, c1, c2, c3, c4, c5, cB, cs, _⟩ := S5.out
  have u1 : (decide (x0 < x2) == decide (x0 < x2)) = true := by simp
  go_upto_region 7 with fail
  go_region_held3 (fun w' => w'.cell? ⟨w.heap.size, 0, none⟩ = some (.int .i64 x0) ∧ w'.cell? ⟨w.heap.size, 1, none⟩ = some (.int .i64 x1) ∧ w'.cell? ⟨w.heap.size, 2, none⟩ = some (.int .i64 x2) ∧ w'.cell? ⟨w.heap.size, 3, none⟩ = some (.int .i64 x3) ∧ w'.cell? ⟨w.heap.size, 4, none⟩ = some (.int .i64 x4) ∧ w'.cell? ⟨w.heap.size, 5, none⟩ = some (.int .i64 x5) ∧ w.heap.size < w'.heap.size ∧ w.heap.size ≤ w'.heap.size ∧ Below w.heap.size w w') (first | exact S5.out.drew | exact Six.next (by assumption) (by assumption)) (first
      | (go_at_call 20; go_fit (less_one x0 x2 H0.out H2.out _); rintro e w6 ⟨rfl, hb6⟩)
      | (go_at_call 19; go_fit (lives_any _); rintro e w7 ⟨rfl, hb7⟩))
  all_goals
    go_wp2_with fail
    go_ret
    refine ⟨rfl, ?_⟩
    exact Six.below (x0 := x0) (x1 := x1) (x2 := x2) (x3 := x3) (x4 := x4) (x5 := x5) (by assumption)

theorem walk (x0 x1 x2 x3 x4 x5 : Int) (wf : (Lit.int .i64 x0).wf = true ∧ (Lit.int .i64 x1).wf = true ∧ (Lit.int .i64 x2).wf = true ∧ (Lit.int .i64 x3).wf = true ∧ (Lit.int .i64 x4).wf = true ∧ (Lit.int .i64 x5).wf = true) (w : World) :
    Calls Try.prog 5 #[.agg #[.int .i64 x0, .int .i64 x1, .int .i64 x2, .int .i64 x3, .int .i64 x4, .int .i64 x5]] w fun e w' => e = .returned (.bool true) ∧ Below w.heap.size w w' := by
  obtain ⟨h0, h1, h2, h3, h4, h5⟩ := wf
  by_cases p1 : x0 * x1 < x2 * x3
  · by_cases p2 : x2 * x3 < x4 * x5
    · exact walk_yes_yes x0 x1 x2 x3 x4 x5 (I64.mk h0) (I64.mk h1) (I64.mk h2) (I64.mk h3) (I64.mk h4) (I64.mk h5) p1 p2 w
    · exact walk_yes_no x0 x1 x2 x3 x4 x5 (I64.mk h0) (I64.mk h1) (I64.mk h2) (I64.mk h3) (I64.mk h4) (I64.mk h5) p1 p2 w
  · exact walk_no x0 x1 x2 x3 x4 x5 (I64.mk h0) (I64.mk h1) (I64.mk h2) (I64.mk h3) (I64.mk h4) (I64.mk h5) p1 w


set_option maxRecDepth 100000 in
theorem lifted (os : Os) (started : os.Started) (H : Type) (enc : TypeId × Value → H) :
    ReturnsInHanded {} Try.checked os 5 .any (Rows.numOrderSpec.pre6 enc Try.prog Try.f5 Rows.numOrderRow.domain false) (Rows.numOrderSpec.post enc Try.prog Try.f5 false true false false) := by
  refine returnsInHanded_of_change (C := Try.checked) own started (by kernel_rfl) Try.func5
    (ChangeSpec.witness6 (enc := enc) (C := Try.checked) false ⟨#[], #[.agg #[.int .i64 0, .int .i64 0, .int .i64 0, .int .i64 0, .int .i64 0, .int .i64 0]], []⟩ 8 (by kernel_rfl) (by kernel_rfl) (by kernel_rfl) (by kernel_rfl)) ?_
  intro W base args ds gs before hval0 hW hcnd _
  have hval : ∀ (j : Nat) t v, Try.f5.params[j]? = some t → args[j]? = some v → Value.okWide Try.prog W .any base t v := hval0
  have hW' := hW
  obtain ⟨p, q, hA0, hV, rfl, hfz, hnd⟩ := hW
  have hA : DataW.TrodAll enc Try.prog W 0 (fun _ => true) true Try.f5.params.toList args.toList ds p := hA0
  rw [Try.params5] at hA hval
  obtain ⟨v0, vs0, d0, ds0, p0, q0, hargs, rfl, rfl, h0, r0⟩ := trodAll_cons hA
  obtain ⟨rfl, rfl, rfl⟩ := trodAll_nil r0
  obtain rfl : args = #[v0] := by cases args; simp_all
  obtain ⟨rfl, rfl⟩ := trodVars_none hV
  have k0 := h0
  have lt0 : ∀ x ∈ p0, x.block < W.heap.size := by obtain ⟨m, hm⟩ := k0; exact DataW.trod_lt m _ _ _ hm
  obtain ⟨cs0, rfl, hs0⟩ := okWide_arr Try.underlying28 (hval 0 28 v0 rfl rfl)
  obtain ⟨fuel0, hf0⟩ := h0
  obtain ⟨L0, e0, n0, wf0⟩ := arr_ints Try.underlying28 Try.underlying3 (by kernel_rfl) (by kernel_rfl) hf0
  obtain rfl : cs0 = (L0.map (Value.int .i64)).toArray := by simpa [Value.cells, ← Array.toList_inj] using e0
  obtain ⟨x0a, x0b, x0c, x0d, x0e, x0f, rfl⟩ : ∃ x0a x0b x0c x0d x0e x0f, L0 = [x0a, x0b, x0c, x0d, x0e, x0f] := len6 n0
  simp only [List.map_cons, List.map_nil, List.mem_cons, List.not_mem_nil, or_false, forall_eq_or_imp, forall_eq] at wf0 ⊢
  clear hA0 hval0
  refine (walk x0a x0b x0c x0d x0e x0f wf0 W ).mono fun e W' ⟨he, bel⟩ => ?_
  subst he
  exact ⟨_, rfl, _, _, _, [], _, [], hW', trodAll_mk1 (shut_bool Try.underlying4 _), (trodAll_cons_mk (Below.trod laidOut (by kernel_rfl) (of_decide_eq_true (by kernel_rfl)) k0 bel lt0) trodAll_mk0), rfl, bel.frame _, fun h => by cases h⟩

theorem over : Rows.numOrderRow.holds Try.pinned (OpenSpec.ofChange Rows.numOrderSpec) :=
  OpenClaim.holds_of_wide 5 Try.f5 rfl rfl rfl rfl rfl rfl rfl ⟨rfl, rfl, rfl, rfl, rfl⟩ rfl rfl rfl rfl rfl (by kernel_rfl) Try.func5 (by kernel_rfl)
    (of_decide_eq_true (by kernel_rfl)) (by unfold Func.isWrapper; first | (rw [if_pos (by decide +kernel)]; kernel_rfl) | (rw [if_neg (by decide +kernel)]; exact ⟨rfl, rfl⟩))
    (fun os started H enc _ => lifted os started H enc)

/-- THE STATEMENT. -/
theorem proved : Rows.NumOrderSaid :=
  over
#print axioms proved
end Go.Proofs.Ythggcagbanndgaa.numOrder
