/- NumLess: for every four integers, num.Less compares the two products as the document does. No condition on the inputs. -/
import Derived.Test.YthggcagbanndgaaOpen
import Derived.ProofKit
import Derived.OpenShut
namespace Go.Proofs.Ythggcagbanndgaa.numLess
open Go.ChangeShapes Go.WideShapes Go.ChangeAt Go.RowKit
set_option linter.unusedVariables false

theorem own : ownKnob Try.prog.godebug = none := by kernel_rfl
theorem laidOut : laidOutB Try.prog = true := by kernel_rfl

set_option maxHeartbeats 1000000 in
theorem walk (a b c d : Int) (wf : (Lit.int .i64 a).wf = true ∧ (Lit.int .i64 b).wf = true ∧ (Lit.int .i64 c).wf = true ∧ (Lit.int .i64 d).wf = true) (w : World) :
    Calls Try.prog 4 #[.agg #[.int .i64 a, .int .i64 b, .int .i64 c, .int .i64 d]] w fun e w' => e = .returned (.bool true) ∧ Below w.heap.size w w' := by
  have HA := Lib.hid (I64.mk wf.1); have HB := Lib.hid (I64.mk wf.2.1); have HC := Lib.hid (I64.mk wf.2.2.1); have HD := Lib.hid (I64.mk wf.2.2.2)
  clear wf
  have t1 : (decide (a * b < c * d) == decide (a * b < c * d)) = true := by simp
  have hs0 := hold4_new w (.int .i64 a) (.int .i64 b) (.int .i64 c) (.int .i64 d) 25
  go_enter Try.func4, Try.ntmps4
  go_upto_region 1 with fail
  obtain ⟨wn, hwn⟩ : ∃ wn, wn = w.alloc (Obj.cells #[Value.int IntKind.i64 a, Value.int IntKind.i64 b, Value.int IntKind.i64 c, Value.int IntKind.i64 d] 25) := ⟨_, rfl⟩
  rw [← hwn] at hs0 ⊢
  clear hwn
  go_region_held3 (fun w' => w'.cell? ⟨w.heap.size, 0, none⟩ = some (.int .i64 a) ∧ w'.cell? ⟨w.heap.size, 1, none⟩ = some (.int .i64 b) ∧ w'.cell? ⟨w.heap.size, 2, none⟩ = some (.int .i64 c) ∧ w'.cell? ⟨w.heap.size, 3, none⟩ = some (.int .i64 d) ∧ w.heap.size < w'.heap.size ∧ w.heap.size ≤ w'.heap.size ∧ Below w.heap.size w w') (first | exact hold4_drew hs0 | exact hold4 (by assumption) (by assumption)) (first
      | (go_at_call 20; go_fit (Less_any a b c d HA.out HB.out HC.out HD.out _); rintro e w2 ⟨rfl, hb2⟩)
      | (go_at_call 21; go_fit (refLess_any a b c d HA.out HB.out HC.out HD.out _); rintro e w3 ⟨rfl, hb3⟩)
      | (go_at_call 19; go_fit (lives_any _); rintro e w4 ⟨rfl, hb4⟩))
  all_goals
    go_wp2_with fail
    go_ret
    refine ⟨rfl, ?_⟩
    exact hold4_below (B := w.heap.size) (x := .int .i64 a) (y := .int .i64 b) (z := .int .i64 c) (t := .int .i64 d) (by assumption)

set_option maxRecDepth 100000 in
theorem lifted (os : Os) (started : os.Started) (H : Type) (enc : TypeId × Value → H) :
    ReturnsInHanded {} Try.checked os 4 .any (Rows.numLessSpec.pre6 enc Try.prog Try.f4 Rows.numLessRow.domain false) (Rows.numLessSpec.post enc Try.prog Try.f4 false true false false) := by
  refine returnsInHanded_of_change (C := Try.checked) own started (by kernel_rfl) Try.func4
    (ChangeSpec.witness6 (enc := enc) (C := Try.checked) false ⟨#[], #[.agg #[.int .i64 0, .int .i64 0, .int .i64 0, .int .i64 0]], []⟩ 8 (by kernel_rfl) (by kernel_rfl) (by kernel_rfl) (by kernel_rfl)) ?_
  intro W base args ds gs before hval0 hW hcnd _
  have hval : ∀ (j : Nat) t v, Try.f4.params[j]? = some t → args[j]? = some v → Value.okWide Try.prog W .any base t v := hval0
  have hW' := hW
  obtain ⟨p, q, hA0, hV, rfl, hfz, hnd⟩ := hW
  have hA : DataW.TrodAll enc Try.prog W 0 (fun _ => true) true Try.f4.params.toList args.toList ds p := hA0
  rw [Try.params4] at hA hval
  obtain ⟨v0, vs0, d0, ds0, p0, q0, hargs, rfl, rfl, h0, r0⟩ := trodAll_cons hA
  obtain ⟨rfl, rfl, rfl⟩ := trodAll_nil r0
  obtain rfl : args = #[v0] := by cases args; simp_all
  obtain ⟨rfl, rfl⟩ := trodVars_none hV
  have k0 := h0
  have lt0 : ∀ x ∈ p0, x.block < W.heap.size := by obtain ⟨m, hm⟩ := k0; exact DataW.trod_lt m _ _ _ hm
  obtain ⟨cs0, rfl, hs0⟩ := okWide_arr Try.underlying25 (hval 0 25 v0 rfl rfl)
  obtain ⟨fuel0, hf0⟩ := h0
  obtain ⟨L0, e0, n0, wf0⟩ := arr_ints Try.underlying25 Try.underlying3 (by kernel_rfl) (by kernel_rfl) hf0
  obtain rfl : cs0 = (L0.map (Value.int .i64)).toArray := by simpa [Value.cells, ← Array.toList_inj] using e0
  obtain ⟨x0a, x0b, x0c, x0d, rfl⟩ : ∃ x0a x0b x0c x0d, L0 = [x0a, x0b, x0c, x0d] := len4 n0
  simp only [List.map_cons, List.map_nil, List.mem_cons, List.not_mem_nil, or_false, forall_eq_or_imp, forall_eq] at wf0 ⊢
  clear hA0 hval0
  refine (walk x0a x0b x0c x0d wf0 W).mono fun e W' ⟨he, bel⟩ => ?_
  subst he
  exact ⟨_, rfl, _, _, _, [], _, [], hW', trodAll_mk1 (shut_bool Try.underlying4 _), (trodAll_cons_mk (Below.trod laidOut (by kernel_rfl) (of_decide_eq_true (by kernel_rfl)) k0 bel lt0) trodAll_mk0), rfl, bel.frame _, fun h => by cases h⟩

theorem over : Rows.numLessRow.holds Try.pinned (OpenSpec.ofChange Rows.numLessSpec) :=
  OpenClaim.holds_of_wide 4 Try.f4 rfl rfl rfl rfl rfl rfl rfl ⟨rfl, rfl, rfl, rfl, rfl⟩ rfl rfl rfl rfl rfl (by kernel_rfl) Try.func4 (by kernel_rfl)
    (of_decide_eq_true (by kernel_rfl)) (by unfold Func.isWrapper; first | (rw [if_pos (by decide +kernel)]; kernel_rfl) | (rw [if_neg (by decide +kernel)]; exact ⟨rfl, rfl⟩))
    (fun os started H enc _ => lifted os started H enc)

/-- THE STATEMENT. -/
theorem proved : Rows.NumLessSaid :=
  over
#print axioms proved
end Go.Proofs.Ythggcagbanndgaa.numLess
