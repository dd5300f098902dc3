/- NumLimits: for every number, every two bounds and every list of integers, num.Limit and num.Gcd return what the document returns. No condition on the inputs. -/
import Derived.Test.YthggcagbanndgaaOpen
import Derived.ProofKit
import Derived.OpenShut
namespace Go.Proofs.Ythggcagbanndgaa.numLimits
open Go.ChangeShapes Go.WideShapes Go.ChangeAt Go.RowKit
set_option linter.unusedVariables false

theorem own : ownKnob Try.prog.godebug = none := by kernel_rfl
theorem laidOut : laidOutB Try.prog = true := by kernel_rfl

theorem reads_below {W w1 : World} {v : Option Addr} {L : List Int} (h : ReadsInts W v L) (hb : Below W.heap.size W w1) : ReadsInts w1 v L := by
  intro k hk
  obtain ⟨b, off, e, hlt, hc⟩ := h k hk
  exact ⟨b, off, e, Nat.lt_of_lt_of_le hlt hb.size, (hb.cell (p := ⟨b, off + k, none⟩) hlt).trans hc⟩

set_option maxHeartbeats 1000000 in
theorem walk (n x y : Int) (v : Option Addr) (cap : Nat) (L : List Int) (hL : ∀ n ∈ L, I64 n) (hlen : L.length ≤ 9223372036854775807) (w0 : (Lit.int .i64 n).wf = true) (w1 : (Lit.int .i64 x).wf = true ∧ (Lit.int .i64 y).wf = true) (w : World) (hr : ReadsInts w v L) :
    Calls Try.prog 8 #[.int .i64 n, .agg #[.int .i64 x, .int .i64 y], .slice v L.length cap] w fun e w' => e = .returned (.bool true) ∧ Below w.heap.size w w' := by
  have HR := Lib.hid hr
  have HL := Lib.hid hL
  clear hr hL w0 w1
  by_cases hk : 60 < L.length
  · go_enter Try.func8, Try.ntmps8
    go_wp2_with fail
    go_fit (lives_any _)
    rintro e w3 ⟨rfl, hb3⟩
    have B3 := Lib.hid (((Below.refl w.heap.size w).alloc (Nat.le_refl _) _).trans (hb3.mono (by simp)))
    clear hb3
    go_wp2_with fail
    go_ret
    exact ⟨rfl, B3.out⟩
  · have t1 : (clamp n x y == clamp n x y) = true := by simp
    have t2 : (gcdOut L == gcdOut L) = true := by simp
    have hs0 := hold2_new (Below.refl w.heap.size w) (.int .i64 x) (.int .i64 y) 36
    go_enter Try.func8, Try.ntmps8
    go_upto_region 3 with fail
    obtain ⟨wn, hwn⟩ : ∃ wn, wn = w.alloc (Obj.cells #[Value.int IntKind.i64 x, Value.int IntKind.i64 y] 36) := ⟨_, rfl⟩
    rw [← hwn] at hs0 ⊢
    clear hwn
    go_region_held3 (fun w' => w'.cell? ⟨w.heap.size, 0, none⟩ = some (.int .i64 x) ∧ w'.cell? ⟨w.heap.size, 1, none⟩ = some (.int .i64 y) ∧ w.heap.size < w'.heap.size ∧ w.heap.size ≤ w'.heap.size ∧ Below w.heap.size w w') (first | exact hold2_drew hs0 | assumption | exact hold2 (by assumption) (by assumption)) (first
      | (go_at_call 24; go_fit (Limit_any n x y _); rintro e w2 ⟨rfl, rfl⟩)
      | (go_at_call 25; go_fit (refLimit_any n x y _); rintro e w2 ⟨rfl, rfl⟩)
      | (go_at_call 26; go_fit (Gcd_any v cap L HL.out hlen _ (reads_below HR.out (hold2_below (B := w.heap.size) (x := .int .i64 x) (y := .int .i64 y) (by assumption)))); rintro e w2 ⟨rfl, hb2⟩)
      | (go_at_call 27; go_fit (refGcd_any v cap L HL.out hlen _ (reads_below HR.out (hold2_below (B := w.heap.size) (x := .int .i64 x) (y := .int .i64 y) (by assumption)))); rintro e w2 ⟨rfl, rfl⟩)
      | (go_at_call 19; go_fit (lives_any _); rintro e w4 ⟨rfl, hb4⟩))
    all_goals
      go_wp2_with fail
      go_ret
      refine ⟨rfl, ?_⟩
      exact hold2_below (B := w.heap.size) (x := .int .i64 x) (y := .int .i64 y) (by assumption)


set_option maxRecDepth 100000 in
theorem lifted (os : Os) (started : os.Started) (H : Type) (enc : TypeId × Value → H) :
    ReturnsInHanded {} Try.checked os 8 .any (Rows.numLimitsSpec.pre6 enc Try.prog Try.f8 Rows.numLimitsRow.domain false) (Rows.numLimitsSpec.post enc Try.prog Try.f8 false true false false) := by
  refine returnsInHanded_of_change (C := Try.checked) own started (by kernel_rfl) Try.func8
    (ChangeSpec.witness6 (enc := enc) (C := Try.checked) false ⟨#[], #[.int .i64 0, .agg #[.int .i64 0, .int .i64 0], .slice none 0 0], []⟩ 8 (by kernel_rfl) (by kernel_rfl) (by kernel_rfl) (by kernel_rfl)) ?_
  intro W base args ds gs before hval0 hW hcnd _
  have hval : ∀ (j : Nat) t v, Try.f8.params[j]? = some t → args[j]? = some v → Value.okWide Try.prog W .any base t v := hval0
  have hW' := hW
  obtain ⟨p, q, hA0, hV, rfl, hfz, hnd⟩ := hW
  have hA : DataW.TrodAll enc Try.prog W 0 (fun _ => true) true Try.f8.params.toList args.toList ds p := hA0
  rw [Try.params8] at hA hval
  obtain ⟨v0, vs0, d0, ds0, p0, q0, hargs, rfl, rfl, h0, r0⟩ := trodAll_cons hA
  obtain ⟨v1, vs1, d1, ds1, p1, q1, rfl, rfl, rfl, h1, r1⟩ := trodAll_cons r0
  obtain ⟨v2, vs2, d2, ds2, p2, q2, rfl, rfl, rfl, h2, r2⟩ := trodAll_cons r1
  obtain ⟨rfl, rfl, rfl⟩ := trodAll_nil r2
  obtain rfl : args = #[v0, v1, v2] := by cases args; simp_all
  obtain ⟨rfl, rfl⟩ := trodVars_none hV
  obtain ⟨a0, rfl, rfl, rfl, w0⟩ := open_int Try.underlying3 (hval 0 3 v0 rfl rfl) h0
  have k1 := h1
  have lt1 : ∀ x ∈ p1, x.block < W.heap.size := by obtain ⟨m, hm⟩ := k1; exact DataW.trod_lt m _ _ _ hm
  obtain ⟨cs1, rfl, hs1⟩ := okWide_arr Try.underlying36 (hval 1 36 v1 rfl rfl)
  obtain ⟨fuel1, hf1⟩ := h1
  obtain ⟨L1, e1, n1, wf1⟩ := arr_ints Try.underlying36 Try.underlying3 (by kernel_rfl) (by kernel_rfl) hf1
  obtain rfl : cs1 = (L1.map (Value.int .i64)).toArray := by simpa [Value.cells, ← Array.toList_inj] using e1
  obtain ⟨x1a, x1b, rfl⟩ : ∃ x1a x1b, L1 = [x1a, x1b] := len2 n1
  simp only [List.map_cons, List.map_nil, List.mem_cons, List.not_mem_nil, or_false, forall_eq_or_imp, forall_eq] at wf1 ⊢
  obtain ⟨a2, len2, cap2, rfl⟩ := okWide_slice Try.underlying37 (hval 2 37 v2 rfl rfl)
  have k2 := h2
  have lt2 : ∀ x ∈ p2, x.block < W.heap.size := by obtain ⟨m, hm⟩ := k2; exact DataW.trod_lt m _ _ _ hm
  obtain ⟨L2, rfl, hL2, hlen2, hr2⟩ : ∃ L : List Int, len2 = L.length ∧ (∀ n ∈ L, I64 n) ∧ L.length ≤ 9223372036854775807 ∧ ReadsInts W a2 L := by
    obtain ⟨fuel, hf⟩ := h2
    rcases open_ints Try.underlying37 Try.underlying3 (by kernel_rfl) hf with ⟨hcs, _⟩ | ⟨x, l, c, zs, hcs, _, hl, hm, hz, _, hcell, hwz⟩
    · simp [Value.cells] at hcs
      obtain ⟨rfl, rfl, rfl⟩ := hcs
      exact ⟨[], rfl, by simp, by simp, fun k hk => by simp at hk⟩
    · simp [Value.cells] at hcs
      obtain ⟨rfl, rfl, rfl⟩ := hcs
      exact reads_of hl hm (by simpa using hz) hcell hwz
  clear hA0 hval0
  refine (walk a0 x1a x1b a2 cap2 L2 hL2 hlen2 w0 wf1 W hr2).mono fun e W' ⟨he, bel⟩ => ?_
  subst he
  exact ⟨_, rfl, _, _, _, [], _, [], hW', trodAll_mk1 (shut_bool Try.underlying4 _), (trodAll_cons_mk (shut_int Try.underlying3 w0) (trodAll_cons_mk (Below.trod laidOut (by kernel_rfl) (of_decide_eq_true (by kernel_rfl)) k1 bel lt1) (trodAll_cons_mk (Below.trod laidOut (by kernel_rfl) (of_decide_eq_true (by kernel_rfl)) k2 bel lt2) trodAll_mk0))), rfl, bel.frame _, fun h => by cases h⟩

theorem over : Rows.numLimitsRow.holds Try.pinned (OpenSpec.ofChange Rows.numLimitsSpec) :=
  OpenClaim.holds_of_wide 8 Try.f8 rfl rfl rfl rfl rfl rfl rfl ⟨rfl, rfl, rfl, rfl, rfl⟩ rfl rfl rfl rfl rfl (by kernel_rfl) Try.func8 (by kernel_rfl)
    (of_decide_eq_true (by kernel_rfl)) (by unfold Func.isWrapper; first | (rw [if_pos (by decide +kernel)]; kernel_rfl) | (rw [if_neg (by decide +kernel)]; exact ⟨rfl, rfl⟩))
    (fun os started H enc _ => lifted os started H enc)

/-- THE STATEMENT. -/
theorem proved : Rows.NumLimitsSaid :=
  over
#print axioms proved
end Go.Proofs.Ythggcagbanndgaa.numLimits
