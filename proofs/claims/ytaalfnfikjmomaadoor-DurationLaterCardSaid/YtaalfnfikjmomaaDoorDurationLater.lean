/- Adding in either order gives the same time, and the time between is what was added. -/
import Derived.Test.YtaalfnfikjmomaaDoorTie
import Derived.Test.YtaalfnfikjmomaaDoorCards
import Derived.Test.YtaalfnfikjmomaaDoorDurLives
import Derived.Test.YtaalfnfikjmomaaDoorDurL
import Derived.ProofKit
import Derived.OpenShut
import Derived.LaidMore
import Derived.Stop.Joined
import Derived.SevenTiedAt
namespace Go.Proofs.YtaalfnfikjmomaaDoor.durationLater
open Go.ChangeShapes Go.WideShapes Go.ChangeAt Go.RowKit
set_option linter.unusedVariables false

theorem own : ownKnob Tryd.prog.godebug = none := by kernel_rfl

theorem limD_comm (t a b : Int) (ht : 0 ≤ t) (ha : 0 ≤ a) (hb : 0 ≤ b) : limD ((limD (t + a) : Nat) + b) = limD ((limD (t + b) : Nat) + a) := by
  have m : ∀ z : Int, 0 ≤ z → ((limD z : Nat) : Int) = min z 1125899906842624 := by
    intro z hz
    unfold limD
    split <;> (try split) <;> omega
  have h1 := m (t + a) (by omega)
  have h2 := m (t + b) (by omega)
  have h3 := m ((limD (t + a) : Nat) + b) (by omega)
  have h4 := m ((limD (t + b) : Nat) + a) (by omega)
  omega
theorem limD_i64 (z : Int) : I64 ((limD z : Nat) : Int) := by have := limD_le z; unfold I64; omega
theorem limD_elap (t a : Int) (ht : 0 ≤ t) (ha : 0 ≤ a) (h : ¬ 1125899906842624 < t + a) : ((limD (t + a) : Nat) : Int) = t + a ∧ elapD t ((limD (t + a) : Nat) : Int) = a := by
  have e : ((limD (t + a) : Nat) : Int) = t + a := by unfold limD; rw [if_neg (by omega), if_neg h]; omega
  refine ⟨e, ?_⟩
  rw [e]
  unfold elapD limD
  rw [show t + a - t = a by omega, if_neg (by omega), if_neg (by omega)]
  omega
set_option maxHeartbeats 4000000 in
set_option maxRecDepth 100000 in
theorem walk (t a b : Int) (w0 : (Lit.int .i64 t).wf = true) (w1 : (Lit.int .i64 a).wf = true) (w2 : (Lit.int .i64 b).wf = true) (w : World) (hT : TabD w) :
    Calls Tryd.prog 6 #[.int .i64 t, .int .i64 a, .int .i64 b] w fun e w' => e = .returned (.bool true) ∧ Below w.heap.size w w' := by
  have HT := Lib.hid hT
  clear hT w0 w1 w2
  by_cases c0 : t < 0
  · go_enter Tryd.func6, Tryd.ntmps6
    go_wp2_with fail
    go_fit (lives5_any _ HT.out)
    rintro e w4 ⟨rfl, hb⟩
    have B4 := Lib.hid hb
    clear hb
    go_wp2_with fail
    go_ret
    exact ⟨rfl, B4.out⟩
  by_cases c1 : a < 0
  · go_enter Tryd.func6, Tryd.ntmps6
    go_wp2_with fail
    go_fit (lives5_any _ HT.out)
    rintro e w4 ⟨rfl, hb⟩
    have B4 := Lib.hid hb
    clear hb
    go_wp2_with fail
    go_ret
    exact ⟨rfl, B4.out⟩
  by_cases c2 : b < 0
  · go_enter Tryd.func6, Tryd.ntmps6
    go_wp2_with fail
    go_fit (lives5_any _ HT.out)
    rintro e w4 ⟨rfl, hb⟩
    have B4 := Lib.hid hb
    clear hb
    go_wp2_with fail
    go_ret
    exact ⟨rfl, B4.out⟩
  by_cases c3 : 1125899906842624 < t
  · go_enter Tryd.func6, Tryd.ntmps6
    go_wp2_with fail
    go_fit (lives5_any _ HT.out)
    rintro e w4 ⟨rfl, hb⟩
    have B4 := Lib.hid hb
    clear hb
    go_wp2_with fail
    go_ret
    exact ⟨rfl, B4.out⟩
  by_cases c4 : 1125899906842624 < a
  · go_enter Tryd.func6, Tryd.ntmps6
    go_wp2_with fail
    go_fit (lives5_any _ HT.out)
    rintro e w4 ⟨rfl, hb⟩
    have B4 := Lib.hid hb
    clear hb
    go_wp2_with fail
    go_ret
    exact ⟨rfl, B4.out⟩
  by_cases c5 : 1125899906842624 < b
  · go_enter Tryd.func6, Tryd.ntmps6
    go_wp2_with fail
    go_fit (lives5_any _ HT.out)
    rintro e w4 ⟨rfl, hb⟩
    have B4 := Lib.hid hb
    clear hb
    go_wp2_with fail
    go_ret
    exact ⟨rfl, B4.out⟩
  have A1 := fun w => durAdd_any t a (by unfold I64; omega) (by unfold I64; omega) w
  have A3 := fun w => durAdd_any t b (by unfold I64; omega) (by unfold I64; omega) w
  have A2 := fun w => durAdd_any ((limD (t + a) : Nat) : Int) b (limD_i64 _) (by unfold I64; omega) w
  have A4 := fun w => durAdd_any ((limD (t + b) : Nat) : Int) a (limD_i64 _) (by unfold I64; omega) w
  have E := fun w => durElapsed_any t ((limD (t + a) : Nat) : Int) (by unfold I64; omega) (limD_i64 _) w
  rw [limD_comm t a b (by omega) (by omega) (by omega)] at A2
  obtain ⟨z, hz⟩ : ∃ z : Int, z = ((limD ((limD (t + b) : Nat) + a) : Nat) : Int) := ⟨_, rfl⟩
  rw [← hz] at A2 A4
  have hel := limD_elap t a (by omega) (by omega)
  obtain ⟨x, hx⟩ : ∃ x : Int, x = ((limD (t + a) : Nat) : Int) := ⟨_, rfl⟩
  obtain ⟨y, hy⟩ : ∃ y : Int, y = ((limD (t + b) : Nat) : Int) := ⟨_, rfl⟩
  rw [← hx] at A1 A2 E hel
  rw [← hy] at A3 A4
  obtain ⟨u, hu⟩ : ∃ u : Int, u = elapD t x := ⟨_, rfl⟩
  rw [← hu] at E hel
  have A1 := Lib.hid A1
  have A2 := Lib.hid A2
  have A3 := Lib.hid A3
  have A4 := Lib.hid A4
  have E := Lib.hid E
  have tz : (z == z) = true := by simp
  have hw : -9223372036854775808 ≤ t + a ∧ t + a ≤ 9223372036854775807 := by omega
  clear hz hx hy hu
  by_cases q : 1125899906842624 < t + a
  · clear hel
    go_enter Tryd.func6, Tryd.ntmps6
    go_wp2_with fail
    go_fit (A1.out _)
    rintro e w1 ⟨rfl, rfl⟩
    go_wp2_with fail
    go_fit (A2.out _)
    rintro e w1 ⟨rfl, rfl⟩
    go_wp2_with fail
    go_fit (A3.out _)
    rintro e w1 ⟨rfl, rfl⟩
    go_wp2_with fail
    go_fit (A4.out _)
    rintro e w1 ⟨rfl, rfl⟩
    go_wp2_with fail
    go_fit (lives5_any _ HT.out)
    rintro e w4 ⟨rfl, hb⟩
    have B4 := Lib.hid hb
    clear hb
    go_wp2_with fail
    go_ret
    exact ⟨rfl, B4.out⟩
  · obtain ⟨e1, e2⟩ := hel q
    have t1 : (u == a) = true := by rw [beq_iff_eq]; exact e2
    subst e1
    have t2 : (t + a == t + a) = true := by simp
    clear e2
    go_enter Tryd.func6, Tryd.ntmps6
    go_wp2_with fail
    go_fit (A1.out _)
    rintro e w1 ⟨rfl, rfl⟩
    go_wp2_with fail
    go_fit (A2.out _)
    rintro e w1 ⟨rfl, rfl⟩
    go_wp2_with fail
    go_fit (A3.out _)
    rintro e w1 ⟨rfl, rfl⟩
    go_wp2_with fail
    go_fit (A4.out _)
    rintro e w1 ⟨rfl, rfl⟩
    go_wp2_with fail
    go_fit (E.out _)
    rintro e w1 ⟨rfl, rfl⟩
    go_wp2_with fail
    go_fit (lives5_any _ HT.out)
    rintro e w4 ⟨rfl, hb⟩
    have B4 := Lib.hid hb
    clear hb
    go_wp2_with fail
    go_ret
    exact ⟨rfl, B4.out⟩

set_option maxRecDepth 100000 in
theorem lifted (os : Os) (started : os.Started) (H : Type) (enc : TypeId × Value → H) :
    ReturnsInHanded {} Tryd.checked os 6 .any (fun w args => (Rows.durationLaterSpec.pre enc Tryd.prog Tryd.f6 Rows.durationLaterRow.domain false w args ∧ laidMetH Tryd.prog laid5 w) ∧ sizedMet enc Tryd.prog Tryd.f6 (OpenSpec.ofChange Rows.durationLaterSpec) false w args) (Rows.durationLaterSpec.post enc Tryd.prog Tryd.f6 false true false false) := by
  refine returnsInHanded_of_change_and (C := Tryd.checked) (X := fun w _ => laidMetH Tryd.prog laid5 w) (fun _ _ _ hh h => h.of_heap hh) own started (by kernel_rfl) Tryd.func6
    (ChangeSpec.witness_shaped (enc := enc) (C := Tryd.checked) (os := os) (X := fun w _ => laidMetH Tryd.prog laid5 w) false (World.laidAll Tryd.prog os laid5) #[.int .i64 0, .int .i64 0, .int .i64 0] 8 (World.laidAll_os _ _ _) (World.shaped_of_ZipB (by kernel_rfl) (by kernel_rfl)) (by kernel_rfl) (by kernel_rfl) (by kernel_rfl) (lay5_met os _)) ?_
  intro W base args ds gs before hval0 hW hcnd hsz hL _
  have hval : ∀ (j : Nat) t v, Tryd.f6.params[j]? = some t → args[j]? = some v → Value.okWide Tryd.prog W .any base t v := hval0
  have hW' := hW
  obtain ⟨p, q, hA0, hV, rfl, hfz, hnd⟩ := hW
  have hA : DataW.TrodAll enc Tryd.prog W 0 (fun _ => true) true Tryd.f6.params.toList args.toList ds p := hA0
  rw [Tryd.params6] at hA hval hsz
  obtain ⟨v0, vs0, d0, ds0, p0, q0, hargs, rfl, rfl, h0, r0⟩ := trodAll_cons hA
  obtain ⟨v1, vs1, d1, ds1, p1, q1, rfl, rfl, rfl, h1, r1⟩ := trodAll_cons r0
  obtain ⟨v2, vs2, d2, ds2, p2, q2, rfl, rfl, rfl, h2, r2⟩ := trodAll_cons r1
  obtain ⟨rfl, rfl, rfl⟩ := trodAll_nil r2
  obtain rfl : args = #[v0, v1, v2] := by cases args; simp_all
  obtain ⟨rfl, rfl⟩ := trodVars_none hV
  obtain ⟨a0, rfl, rfl, rfl, w0⟩ := open_int Tryd.underlying3 (hval 0 3 v0 rfl rfl) h0
  obtain ⟨a1, rfl, rfl, rfl, w1⟩ := open_int Tryd.underlying3 (hval 1 3 v1 rfl rfl) h1
  obtain ⟨a2, rfl, rfl, rfl, w2⟩ := open_int Tryd.underlying3 (hval 2 3 v2 rfl rfl) h2
  clear hA0 hval0
  refine (walk a0 a1 a2 w0 w1 w2 W (tab5_of hL) ).mono fun e W' ⟨he, bel⟩ => ?_
  subst he
  exact ⟨_, rfl, _, _, _, [], _, [], hW', trodAll_mk1 (shut_bool Tryd.underlying4 _), (trodAll_cons_mk (shut_int Tryd.underlying3 w0) (trodAll_cons_mk (shut_int Tryd.underlying3 w1) (trodAll_cons_mk (shut_int Tryd.underlying3 w2) trodAll_mk0))), rfl, bel.frame _, fun h => by cases h⟩

theorem over : Rows.durationLaterRow.holds Tryd.pinned (OpenSpec.ofChange Rows.durationLaterSpec) :=
  OpenClaim.holds_of_wide 6 Tryd.f6 rfl rfl rfl rfl rfl rfl rfl ⟨rfl, rfl, rfl, rfl, rfl⟩ rfl rfl rfl rfl rfl (by kernel_rfl) Tryd.func6 (by kernel_rfl)
    (of_decide_eq_true (by kernel_rfl)) (by unfold Func.isWrapper; first | (rw [if_pos (by decide +kernel)]; kernel_rfl) | (rw [if_neg (by decide +kernel)]; exact ⟨rfl, rfl⟩))
    (fun os started H enc _ => lifted os started H enc)

/-- THE STATEMENT. -/
theorem proved : Rows.DurationLaterCardSaid :=
  Claim7.holds_tied_plain_at .later [] [.data, .data, .data, .data, .sentinel, .sentinel, .data, .pinned] true Rows.durationLaterCard.stood.harness true
    over (fun _ h => by cases h) (by kernel_rfl) (fun _ h => by cases h) durationLater_row_tie rfl ⟨rfl, rfl⟩ (by kernel_rfl) rfl
    (fun f fn hf hfn => by
      obtain rfl : f = 6 := Option.some.inj ((show Tryd.prog.funcNamed "pipeline/pipelinelaw05.DurationLater" = some 6 by kernel_rfl).symm.trans hf) |>.symm
      obtain rfl : fn = Tryd.f6 := (Option.some.inj (Tryd.func6.symm.trans hfn)).symm
      exact ⟨by kernel_rfl, fun j t ht => by
        rw [Tryd.params6] at ht
        have hm : t ∈ [3, 3, 3] := by simpa using Array.mem_of_getElem? ht
        have hall : ([3, 3, 3].all fun u => !Tryd.prog.wantsStandIn u) = true := by kernel_rfl
        exact (show Tryd.prog.wantsStandIn t = false by simpa using List.all_eq_true.1 hall t hm)⟩)
    (by kernel_rfl)
#print axioms proved
end Go.Proofs.YtaalfnfikjmomaaDoor.durationLater
