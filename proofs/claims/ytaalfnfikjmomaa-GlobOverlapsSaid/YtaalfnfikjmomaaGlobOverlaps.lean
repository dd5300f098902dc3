/- Whether any two patterns of at most 40 bytes have a common string is the document's answer, in either order, and two that match the same string do; no conditions. -/
import Derived.Test.YtaalfnfikjmomaaGlbLives
import Derived.Test.YtaalfnfikjmomaaGlbRd
import Derived.ProofKit
import Derived.OpenShut
namespace Go.Proofs.Ytaalfnfikjmomaa.globOverlaps
open Go.ChangeShapes Go.WideShapes Go.ChangeAt Go.RowKit
open Go.ChangeMaps (open_string shut_string)
set_option linter.unusedVariables false

theorem own : ownKnob Try.prog.godebug = none := by kernel_rfl
theorem laidOut : laidOutB Try.prog = true := by kernel_rfl

theorem overP_comm (a b : List UInt8) : overP b a = overP a b := by
  cases ha : parseP a with
  | none => rw [overP_none1 ha, overP_none2 ha]
  | some x =>
    cases hb : parseP b with
    | none => rw [overP_none1 hb, overP_none2 hb]
    | some y =>
      refine overP_some hb ha ?_
      cases h : overP a b with
      | true =>
        refine ⟨fun _ => ?_, fun _ => rfl⟩
        have := overP_iff ha hb
        obtain ⟨s, h1, h2⟩ := this.1 h
        exact ⟨s, h2, h1⟩
      | false =>
        refine ⟨fun h => (nomatch h), ?_⟩
        rintro ⟨s, h1, h2⟩
        have := (overP_iff ha hb).2 ⟨s, h2, h1⟩
        rw [h] at this
        cases this
theorem overP_both {a b s : List UInt8} (h1 : matchP a s = true) (h2 : matchP b s = true) : overP a b = true := by
  unfold matchP at h1 h2
  cases ha : parseP a with
  | none => rw [ha] at h1; cases h1
  | some x =>
    cases hb : parseP b with
    | none => rw [hb] at h2; cases h2
    | some y =>
      rw [ha] at h1
      rw [hb] at h2
      exact (overP_iff ha hb).2 ⟨s, gmB_true.1 h1, gmB_true.1 h2⟩
set_option maxHeartbeats 8000000 in
set_option maxRecDepth 100000 in
theorem walk (a b s : ByteArray) (ha : a.size ≤ maxLen) (hb : b.size ≤ maxLen) (hs : s.size ≤ maxLen) (w : World) :
    Calls Try.prog 8 #[.string a, .string b, .string s] w fun e w' => e = .returned (.bool true) ∧ Below w.heap.size w w' := by
  clear ha hb hs
  have hcase : decide ((40 : Int) < (a.size : Int)) = true ∨ (decide ((40 : Int) < (a.size : Int)) = false ∧ decide ((40 : Int) < (b.size : Int)) = true) ∨ (decide ((40 : Int) < (a.size : Int)) = false ∧ decide ((40 : Int) < (b.size : Int)) = false ∧ decide ((100 : Int) < (s.size : Int)) = true) ∨ (decide ((40 : Int) < (a.size : Int)) = false ∧ decide ((40 : Int) < (b.size : Int)) = false ∧ decide ((100 : Int) < (s.size : Int)) = false ∧ s.size ≤ 100) := by
    simp only [decide_eq_true_eq, decide_eq_false_iff_not]
    omega
  have B0 := Lib.hid (Below.refl w.heap.size w)
  rcases hcase with f1 | ⟨f1, f2⟩ | ⟨f1, f2, f3⟩ | ⟨f1, f2, f3, f4⟩
  · go_enter Try.func8, Try.ntmps8
    go_wp2_with fail
    go_fit (lives6_any _)
    rintro e w1 ⟨rfl, hb⟩
    have B1 := Lib.hid (B0.out.trans (hb.mono B0.out.size))
    clear hb
    go_wp2_with fail
    go_ret
    exact ⟨rfl, B1.out⟩
  · go_enter Try.func8, Try.ntmps8
    go_wp2_with fail
    go_fit (lives6_any _)
    rintro e w1 ⟨rfl, hb⟩
    have B1 := Lib.hid (B0.out.trans (hb.mono B0.out.size))
    clear hb
    go_wp2_with fail
    go_ret
    exact ⟨rfl, B1.out⟩
  · go_enter Try.func8, Try.ntmps8
    go_wp2_with fail
    go_fit (lives6_any _)
    rintro e w1 ⟨rfl, hb⟩
    have B1 := Lib.hid (B0.out.trans (hb.mono B0.out.size))
    clear hb
    go_wp2_with fail
    go_ret
    exact ⟨rfl, B1.out⟩
  · have O1 := Lib.hid (fun w => overlaps_any a b w)
    have O2 := Lib.hid (fun w => overlaps_any b a w)
    have OR := Lib.hid (fun w => refOverlaps_any a b w)
    rw [overP_comm a.data.toList b.data.toList] at O2
    have hno : overP a.data.toList b.data.toList = false → ¬ (matchP a.data.toList s.data.toList = true ∧ matchP b.data.toList s.data.toList = true) := fun h g => by rw [overP_both g.1 g.2] at h; cases h
    have M1 := Lib.hid (fun w => match_any a s (by omega) w)
    have M2 := Lib.hid (fun w => match_any b s (by omega) w)
    generalize overP a.data.toList b.data.toList = yes at O1 O2 OR hno
    generalize matchP a.data.toList s.data.toList = m1 at M1 hno
    generalize matchP b.data.toList s.data.toList = m2 at M2 hno
    clear f4
    cases yes
    · cases m1
      · clear hno
        go_enter Try.func8, Try.ntmps8
        go_wp2_with fail
        go_fit (O1.out _)
        rintro e w1 ⟨rfl, hb⟩
        have B1 := Lib.hid (B0.out.trans (hb.mono B0.out.size))
        clear hb
        go_wp2_with fail
        go_fit (OR.out _)
        rintro e w2 ⟨rfl, hb⟩
        have B2 := Lib.hid (B1.out.trans (hb.mono B1.out.size))
        clear hb
        go_wp2_with fail
        go_fit (O2.out _)
        rintro e w3 ⟨rfl, hb⟩
        have B3 := Lib.hid (B2.out.trans (hb.mono B2.out.size))
        clear hb
        go_wp2_with fail
        go_fit (M1.out _)
        rintro e w4 ⟨rfl, hb⟩
        have B4 := Lib.hid (B3.out.trans (hb.mono B3.out.size))
        clear hb
        go_wp2_with fail
        go_fit (lives6_any _)
        rintro e w5 ⟨rfl, hb⟩
        have B5 := Lib.hid (B4.out.trans (hb.mono B4.out.size))
        clear hb
        go_wp2_with fail
        go_ret
        exact ⟨rfl, B5.out⟩
      · have h2 : m2 = false := by
          cases m2 with
          | false => rfl
          | true => exact absurd ⟨rfl, rfl⟩ (hno rfl)
        subst h2
        clear hno
        go_enter Try.func8, Try.ntmps8
        go_wp2_with fail
        go_fit (O1.out _)
        rintro e w1 ⟨rfl, hb⟩
        have B1 := Lib.hid (B0.out.trans (hb.mono B0.out.size))
        clear hb
        go_wp2_with fail
        go_fit (OR.out _)
        rintro e w2 ⟨rfl, hb⟩
        have B2 := Lib.hid (B1.out.trans (hb.mono B1.out.size))
        clear hb
        go_wp2_with fail
        go_fit (O2.out _)
        rintro e w3 ⟨rfl, hb⟩
        have B3 := Lib.hid (B2.out.trans (hb.mono B2.out.size))
        clear hb
        go_wp2_with fail
        go_fit (M1.out _)
        rintro e w4 ⟨rfl, hb⟩
        have B4 := Lib.hid (B3.out.trans (hb.mono B3.out.size))
        clear hb
        go_wp2_with fail
        go_fit (M2.out _)
        rintro e w5 ⟨rfl, hb⟩
        have B5 := Lib.hid (B4.out.trans (hb.mono B4.out.size))
        clear hb
        go_wp2_with fail
        go_fit (lives6_any _)
        rintro e w6 ⟨rfl, hb⟩
        have B6 := Lib.hid (B5.out.trans (hb.mono B5.out.size))
        clear hb
        go_wp2_with fail
        go_ret
        exact ⟨rfl, B6.out⟩
    · clear hno
      go_enter Try.func8, Try.ntmps8
      go_wp2_with fail
      go_fit (O1.out _)
      rintro e w1 ⟨rfl, hb⟩
      have B1 := Lib.hid (B0.out.trans (hb.mono B0.out.size))
      clear hb
      go_wp2_with fail
      go_fit (OR.out _)
      rintro e w2 ⟨rfl, hb⟩
      have B2 := Lib.hid (B1.out.trans (hb.mono B1.out.size))
      clear hb
      go_wp2_with fail
      go_fit (O2.out _)
      rintro e w3 ⟨rfl, hb⟩
      have B3 := Lib.hid (B2.out.trans (hb.mono B2.out.size))
      clear hb
      go_wp2_with fail
      go_fit (lives6_any _)
      rintro e w4 ⟨rfl, hb⟩
      have B4 := Lib.hid (B3.out.trans (hb.mono B3.out.size))
      clear hb
      go_wp2_with fail
      go_ret
      exact ⟨rfl, B4.out⟩

set_option maxRecDepth 100000 in
theorem lifted (os : Os) (started : os.Started) (H : Type) (enc : TypeId × Value → H) :
    ReturnsInHanded {} Try.checked os 8 .any (Rows.globOverlapsSpec.pre6 enc Try.prog Try.f8 Rows.globOverlapsRow.domain false) (Rows.globOverlapsSpec.post enc Try.prog Try.f8 false true false false) := by
  refine returnsInHanded_of_change (C := Try.checked) own started (by kernel_rfl) Try.func8
    (ChangeSpec.witness6 (enc := enc) (C := Try.checked) false ⟨#[], #[.string ⟨#[]⟩, .string ⟨#[]⟩, .string ⟨#[]⟩], []⟩ 8 (by kernel_rfl) (by kernel_rfl) (by kernel_rfl) (by kernel_rfl)) ?_
  intro W base args ds gs before hval0 hW hcnd _
  have hval : ∀ (j : Nat) t v, Try.f8.params[j]? = some t → args[j]? = some v → Value.okWide Try.prog W .any base t v := hval0
  have hW' := hW
  obtain ⟨p, q, hA0, hV, rfl, hfz, hnd⟩ := hW
  have hA : DataW.TrodAll enc Try.prog W 0 (fun _ => true) true Try.f8.params.toList args.toList ds p := hA0
  rw [Try.params8] at hA hval
  obtain ⟨v0, vs0, d0, ds0, p0, q0, hargs, rfl, rfl, h0, r0⟩ := trodAll_cons hA
  obtain ⟨v1, vs1, d1, ds1, p1, q1, rfl, rfl, rfl, h1, r1⟩ := trodAll_cons r0
  obtain ⟨v2, vs2, d2, ds2, p2, q2, rfl, rfl, rfl, h2, r2⟩ := trodAll_cons r1
  obtain ⟨rfl, rfl, rfl⟩ := trodAll_nil r2
  obtain rfl : args = #[v0, v1, v2] := by cases args; simp_all
  obtain ⟨rfl, rfl⟩ := trodVars_none hV
  obtain ⟨a0, rfl, rfl, rfl, w0⟩ := open_string Try.underlying9 (hval 0 9 v0 rfl rfl) h0
  obtain ⟨a1, rfl, rfl, rfl, w1⟩ := open_string Try.underlying9 (hval 1 9 v1 rfl rfl) h1
  obtain ⟨a2, rfl, rfl, rfl, w2⟩ := open_string Try.underlying9 (hval 2 9 v2 rfl rfl) h2
  clear hA0 hval0
  refine (walk a0 a1 a2 w0 w1 w2 W ).mono fun e W' ⟨he, bel⟩ => ?_
  subst he
  exact ⟨_, rfl, _, _, _, [], _, [], hW', trodAll_mk1 (shut_bool Try.underlying4 _), (trodAll_cons_mk (shut_string Try.underlying9 w0) (trodAll_cons_mk (shut_string Try.underlying9 w1) (trodAll_cons_mk (shut_string Try.underlying9 w2) trodAll_mk0))), rfl, bel.frame _, fun h => by cases h⟩

theorem over : Rows.globOverlapsRow.holds Try.pinned (OpenSpec.ofChange Rows.globOverlapsSpec) :=
  OpenClaim.holds_of_wide 8 Try.f8 rfl rfl rfl rfl rfl rfl rfl ⟨rfl, rfl, rfl, rfl, rfl⟩ rfl rfl rfl rfl rfl (by kernel_rfl) Try.func8 (by kernel_rfl)
    (of_decide_eq_true (by kernel_rfl)) (by unfold Func.isWrapper; first | (rw [if_pos (by decide +kernel)]; kernel_rfl) | (rw [if_neg (by decide +kernel)]; exact ⟨rfl, rfl⟩))
    (fun os started H enc _ => lifted os started H enc)

/-- THE STATEMENT. -/
theorem proved : Rows.GlobOverlapsSaid :=
  over
#print axioms proved
end Go.Proofs.Ytaalfnfikjmomaa.globOverlaps
