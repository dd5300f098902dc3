/- NumFloor: for every three integers, the quotient that num.Scale returns for a positive divisor lies between its multiples; a divisor 0 is refused. No condition on the inputs. -/
import Derived.Test.YthggcagbanndgaaLives
import Derived.ProofKit
import Derived.OpenShut
namespace Go.Proofs.Ythggcagbanndgaa.numFloor
open Go.ChangeShapes Go.WideShapes Go.ChangeAt Go.RowKit
set_option linter.unusedVariables false

theorem own : ownKnob Try.prog.godebug = none := by kernel_rfl

theorem less_yes (a b c d : Int) (ha : I64 a) (hb : I64 b) (hc : I64 c) (hd : I64 d) (h : a * b < c * d) (w : World) :
    Calls Try.prog 20 #[.int .i64 a, .int .i64 b, .int .i64 c, .int .i64 d] w fun e w' => e = .returned (.bool true) ∧ Below w.heap.size w w' := by
  have := Less_any a b c d ha hb hc hd w; rwa [decide_eq_true h] at this
theorem less_no (a b c d : Int) (ha : I64 a) (hb : I64 b) (hc : I64 c) (hd : I64 d) (h : ¬ a * b < c * d) (w : World) :
    Calls Try.prog 20 #[.int .i64 a, .int .i64 b, .int .i64 c, .int .i64 d] w fun e w' => e = .returned (.bool false) ∧ Below w.heap.size w w' := by
  have := Less_any a b c d ha hb hc hd w; rwa [decide_eq_false h] at this

/-- The ways of Scale for a divisor above 0. -/
theorem scale_ways (n m d : Int) (hn : I64 n) (hm : I64 m) (hd : I64 d) (h0 : 0 < d) :
    (scE n m d = 11) ∨ (scE n m d = 0 ∧ I64 (scQ n m d) ∧ scQ n m d * d ≤ n * m ∧ n * m < (scQ n m d + 1) * d) := by
  unfold scE scQ scZ
  rw [if_neg (by omega), if_neg (by omega), if_neg (by omega), show (d.natAbs : Int) = d by omega]
  unfold flE flQ
  by_cases h : -9223372036854775808 ≤ n * m / d ∧ n * m / d ≤ 9223372036854775807
  · right
    rw [if_pos h, if_pos h]
    exact ⟨rfl, h, Int.ediv_mul_le _ (by omega), Int.lt_ediv_add_one_mul_self _ h0⟩
  · left
    rw [if_neg h]

set_option maxHeartbeats 1000000 in
theorem walk (n m d : Int) (w0 : (Lit.int .i64 n).wf = true) (w1 : (Lit.int .i64 m).wf = true) (w2 : (Lit.int .i64 d).wf = true) (w : World) :
    Calls Try.prog 7 #[.int .i64 n, .int .i64 m, .int .i64 d] w fun e w' => e = .returned (.bool true) ∧ Below w.heap.size w w' := by
  have HA := Lib.hid (I64.mk w0)
  have HB := Lib.hid (I64.mk w1)
  have HD := Lib.hid (I64.mk w2)
  clear w0 w1 w2
  by_cases h0 : d = 0
  · subst h0
    have t0 : ((0 : Int) != 0) = false := by decide
    have hs := Scale_any n m 0 HA.out HB.out HD.out
    rw [show scQ n m 0 = 0 from if_pos rfl, show scE n m 0 = 2 from if_pos rfl] at hs
    have HS := Lib.hid hs
    clear hs
    go_enter Try.func7, Try.ntmps7
    go_wp2_with fail
    go_fit (HS.out _)
    rintro e w1 ⟨rfl, hb1⟩
    have z1 := hb1.size
    have B1 := Lib.hid hb1
    clear hb1
    go_wp2_with fail
    go_fit (lives_any _)
    rintro e w3 ⟨rfl, hb3⟩
    have B3 := Lib.hid (B1.out.trans (hb3.mono (by omega)))
    clear hb3 B1
    go_wp2_with fail
    go_ret
    exact ⟨rfl, B3.out⟩
  · have t0 : (d != 0) = true := by rw [bne_iff_ne]; exact h0
    by_cases hp : d ≤ 0
    · have t1 : decide (d ≤ 0) = true := by simpa using hp
      clear h0
      go_enter Try.func7, Try.ntmps7
      go_wp2_with fail
      go_fit (Scale_any n m d HA.out HB.out HD.out _)
      rintro e w1 ⟨rfl, hb1⟩
      have z1 := hb1.size
      have B1 := Lib.hid hb1
      clear hb1
      go_wp2_with fail
      go_fit (lives_any _)
      rintro e w3 ⟨rfl, hb3⟩
      have B3 := Lib.hid (B1.out.trans (hb3.mono (by omega)))
      clear hb3 B1
      go_wp2_with fail
      go_ret
      exact ⟨rfl, B3.out⟩
    · have t1 : decide (d ≤ 0) = false := by simpa using hp
      have hw := scale_ways n m d HA.out HB.out HD.out (by omega)
      have hs := Scale_any n m d HA.out HB.out HD.out
      obtain ⟨q, hq⟩ : ∃ q, q = scQ n m d := ⟨_, rfl⟩
      rw [← hq] at hs hw
      clear hq h0
      rcases hw with he | ⟨he, hI, hl, hu⟩
      · rw [he] at hs
        have HS := Lib.hid hs
        clear hs he
        go_enter Try.func7, Try.ntmps7
        go_wp2_with fail
        go_fit (HS.out _)
        rintro e w1 ⟨rfl, hb1⟩
        have z1 := hb1.size
        have B1 := Lib.hid hb1
        clear hb1
        go_wp2_with fail
        go_fit (lives_any _)
        rintro e w3 ⟨rfl, hb3⟩
        have B3 := Lib.hid (B1.out.trans (hb3.mono (by omega)))
        clear hb3 B1
        go_wp2_with fail
        go_ret
        exact ⟨rfl, B3.out⟩
      · rw [he] at hs
        have HS := Lib.hid hs
        clear hs he
        by_cases hm : q = 9223372036854775807
        · have t2 : (q == 9223372036854775807) = true := by rw [beq_iff_eq]; exact hm
          clear hm hl hu hI
          go_enter Try.func7, Try.ntmps7
          go_wp2_with fail
          go_fit (HS.out _)
          rintro e w1 ⟨rfl, hb1⟩
          have z1 := hb1.size
          have B1 := Lib.hid hb1
          clear hb1
          go_wp2_with fail
          go_fit (lives_any _)
          rintro e w3 ⟨rfl, hb3⟩
          have B3 := Lib.hid (B1.out.trans (hb3.mono (by omega)))
          clear hb3 B1
          go_wp2_with fail
          go_ret
          exact ⟨rfl, B3.out⟩
        · have t2 : (q == 9223372036854775807) = false := by rw [beq_eq_false_iff_ne]; exact hm
          have hI' := hI
          unfold I64 at hI'
          have hI2 : I64 (q + 1) := by unfold I64; omega
          have b1 : -9223372036854775808 ≤ q := hI'.1
          have b2 : q ≤ 9223372036854775806 := by omega
          have HI := Lib.hid hI; have HI2 := Lib.hid hI2
          have HL := Lib.hid (show ¬ n * m < q * d by omega); have HU := Lib.hid hu
          clear hm hl hu hI hI2 hI'
          go_enter Try.func7, Try.ntmps7
          go_wp2_with fail
          go_fit (HS.out _)
          rintro e w1 ⟨rfl, hb1⟩
          have z1 := hb1.size
          have B1 := Lib.hid hb1
          clear hb1
          go_wp2_with fail
          go_fit (less_no n m q d HA.out HB.out HI.out HD.out (by have := HL.out; omega) _)
          rintro e w2 ⟨rfl, hb2⟩
          have z2 := hb2.size
          have B2 := Lib.hid (B1.out.trans (hb2.mono (by omega)))
          clear hb2 B1
          go_wp2_with fail
          go_fit (less_yes n m (q + 1) d HA.out HB.out HI2.out HD.out HU.out _)
          rintro e w4 ⟨rfl, hb4⟩
          have z4 := hb4.size
          have B4 := Lib.hid (B2.out.trans (hb4.mono (by omega)))
          clear hb4 B2
          go_wp2_with fail
          go_fit (lives_any _)
          rintro e w3 ⟨rfl, hb3⟩
          have B3 := Lib.hid (B4.out.trans (hb3.mono (by omega)))
          clear hb3 B4
          go_wp2_with fail
          go_ret
          exact ⟨rfl, B3.out⟩


set_option maxRecDepth 100000 in
theorem lifted (os : Os) (started : os.Started) (H : Type) (enc : TypeId × Value → H) :
    ReturnsInHanded {} Try.checked os 7 .any (Rows.numFloorSpec.pre6 enc Try.prog Try.f7 Rows.numFloorRow.domain false) (Rows.numFloorSpec.post enc Try.prog Try.f7 false true false false) := by
  refine returnsInHanded_of_change (C := Try.checked) own started (by kernel_rfl) Try.func7
    (ChangeSpec.witness6 (enc := enc) (C := Try.checked) false ⟨#[], #[.int .i64 0, .int .i64 0, .int .i64 0], []⟩ 8 (by kernel_rfl) (by kernel_rfl) (by kernel_rfl) (by kernel_rfl)) ?_
  intro W base args ds gs before hval0 hW hcnd _
  have hval : ∀ (j : Nat) t v, Try.f7.params[j]? = some t → args[j]? = some v → Value.okWide Try.prog W .any base t v := hval0
  have hW' := hW
  obtain ⟨p, q, hA0, hV, rfl, hfz, hnd⟩ := hW
  have hA : DataW.TrodAll enc Try.prog W 0 (fun _ => true) true Try.f7.params.toList args.toList ds p := hA0
  rw [Try.params7] at hA hval
  obtain ⟨v0, vs0, d0, ds0, p0, q0, hargs, rfl, rfl, h0, r0⟩ := trodAll_cons hA
  obtain ⟨v1, vs1, d1, ds1, p1, q1, rfl, rfl, rfl, h1, r1⟩ := trodAll_cons r0
  obtain ⟨v2, vs2, d2, ds2, p2, q2, rfl, rfl, rfl, h2, r2⟩ := trodAll_cons r1
  obtain ⟨rfl, rfl, rfl⟩ := trodAll_nil r2
  obtain rfl : args = #[v0, v1, v2] := by cases args; simp_all
  obtain ⟨rfl, rfl⟩ := trodVars_none hV
  obtain ⟨a0, rfl, rfl, rfl, w0⟩ := open_int Try.underlying3 (hval 0 3 v0 rfl rfl) h0
  obtain ⟨a1, rfl, rfl, rfl, w1⟩ := open_int Try.underlying3 (hval 1 3 v1 rfl rfl) h1
  obtain ⟨a2, rfl, rfl, rfl, w2⟩ := open_int Try.underlying3 (hval 2 3 v2 rfl rfl) h2
  clear hA0 hval0
  refine (walk a0 a1 a2 w0 w1 w2 W ).mono fun e W' ⟨he, bel⟩ => ?_
  subst he
  exact ⟨_, rfl, _, _, _, [], _, [], hW', trodAll_mk1 (shut_bool Try.underlying4 _), (trodAll_cons_mk (shut_int Try.underlying3 w0) (trodAll_cons_mk (shut_int Try.underlying3 w1) (trodAll_cons_mk (shut_int Try.underlying3 w2) trodAll_mk0))), rfl, bel.frame _, fun h => by cases h⟩

theorem over : Rows.numFloorRow.holds Try.pinned (OpenSpec.ofChange Rows.numFloorSpec) :=
  OpenClaim.holds_of_wide 7 Try.f7 rfl rfl rfl rfl rfl rfl rfl ⟨rfl, rfl, rfl, rfl, rfl⟩ rfl rfl rfl rfl rfl (by kernel_rfl) Try.func7 (by kernel_rfl)
    (of_decide_eq_true (by kernel_rfl)) (by unfold Func.isWrapper; first | (rw [if_pos (by decide +kernel)]; kernel_rfl) | (rw [if_neg (by decide +kernel)]; exact ⟨rfl, rfl⟩))
    (fun os started H enc _ => lifted os started H enc)

/-- THE STATEMENT. -/
theorem proved : Rows.NumFloorSaid :=
  over
#print axioms proved
end Go.Proofs.Ythggcagbanndgaa.numFloor
