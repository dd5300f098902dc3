/- The literal prefix of any pattern is the document's, and every string that matches begins with it, both of at most 300 bytes; no conditions. -/
import Derived.Test.YtaalfnfikjmomaaGlbPx
import Derived.ProofKit
import Derived.OpenShut
namespace Go.Proofs.Ytaalfnfikjmomaa.globPrefixes
open Go.ChangeShapes Go.WideShapes Go.ChangeAt Go.RowKit
open Go.ChangeMaps (open_string shut_string)
set_option linter.unusedVariables false

theorem own : ownKnob Try.prog.godebug = none := by kernel_rfl
theorem laidOut : laidOutB Try.prog = true := by kernel_rfl

set_option maxHeartbeats 8000000 in
set_option maxRecDepth 100000 in
theorem walk (p s : ByteArray) (ha : p.size ≤ maxLen) (hb : s.size ≤ maxLen) (w : World) :
    Calls Try.prog 6 #[.string p, .string s] w fun e w' => e = .returned (.bool true) ∧ Below w.heap.size w w' := by
  clear ha hb
  have hcase : decide ((300 : Int) < (p.size : Int)) = true ∨ (decide ((300 : Int) < (p.size : Int)) = false ∧ decide ((300 : Int) < (s.size : Int)) = true) ∨ (decide ((300 : Int) < (p.size : Int)) = false ∧ decide ((300 : Int) < (s.size : Int)) = false ∧ s.size ≤ 300 ∧ p.size ≤ 300) := by
    simp only [decide_eq_true_eq, decide_eq_false_iff_not]
    omega
  rcases hcase with f1 | ⟨f1, f2⟩ | ⟨f1, f2, f3, f4⟩
  · go_enter Try.func6, Try.ntmps6
    go_wp2_with fail
    go_fit (lives6_any _)
    rintro e w3 ⟨rfl, hb⟩
    have B3 := Lib.hid hb
    clear hb
    go_wp2_with fail
    go_ret
    exact ⟨rfl, B3.out⟩
  · go_enter Try.func6, Try.ntmps6
    go_wp2_with fail
    go_fit (lives6_any _)
    rintro e w3 ⟨rfl, hb⟩
    have B3 := Lib.hid hb
    clear hb
    go_wp2_with fail
    go_ret
    exact ⟨rfl, B3.out⟩
  · have LI := Lib.hid (fun w => literal_fn_any p w)
    have LR := Lib.hid (fun w => refLiteral_any p w)
    have V := Lib.hid (fun w => match_any p s (by omega) w)
    have hpre := @litP_prefix p.data.toList s.data.toList
    have hwh := @litP_whole p.data.toList
    obtain ⟨X, hX⟩ : ∃ X : ByteArray, X = ⟨(litP p.data.toList).1.toArray⟩ := ⟨_, rfl⟩
    have hXl : X.data.toList = (litP p.data.toList).1 := by rw [hX]
    rw [← hX] at LI LR
    rw [← hXl] at hpre hwh
    have MX := Lib.hid (fun (h : X.size ≤ 1099511627776) w => match_any p X h w)
    obtain ⟨wh, hw9⟩ : ∃ wh, wh = (litP p.data.toList).2 := ⟨_, rfl⟩
    rw [← hw9] at LI LR hpre hwh
    have B0 := Lib.hid (Below.refl w.heap.size w)
    have tx : (X.toList == X.toList) = true := by simp
    have ts : (s.toList == s.toList) = true := by simp
    have hXs : X.size ≤ p.size := by
      have h1 : (litP p.data.toList).1.length ≤ p.data.toList.length := by
        have hl : ∀ L : List GE, (litL L).1.length ≤ L.length := by
          intro L
          induction L with
          | nil => exact Nat.le_refl _
          | cons x L ih =>
            by_cases h5 : x.kind = 5
            · rw [litL_cons_yes h5]; simpa using ih
            · rw [litL_cons_no h5]; simp
        unfold litP
        cases he : parseP p.data.toList with
        | none => simp
        | some L =>
          refine Nat.le_trans (hl L) ?_
          unfold parseP at he
          split at he
          · cases he
          · exact elemsL_len he
      rw [← hXl, lenB, lenB] at h1
      exact h1
    have MX := Lib.hid (MX.out (by omega))
    clear hX hXl hw9
    cases hm : matchP p.data.toList s.data.toList
    · rw [hm] at V
      cases wh
      · clear hpre hwh hm hXs f3 f4 MX
        go_enter Try.func6, Try.ntmps6
        go_wp2_with fail
        go_fit (LI.out _)
        rintro e w1 ⟨rfl, hb⟩
        have B1 := Lib.hid (B0.out.trans (hb.mono B0.out.size))
        clear hb
        go_wp2_with fail
        go_fit (LR.out _)
        rintro e w2 ⟨rfl, hb⟩
        have B2 := Lib.hid (B1.out.trans (hb.mono B1.out.size))
        clear hb
        go_wp2_with fail
        go_fit (V.out _)
        rintro e w3 ⟨rfl, hb⟩
        have B3 := Lib.hid (B2.out.trans (hb.mono B2.out.size))
        clear hb
        go_wp2_with fail
        go_fit (lives6_any _)
        rintro e w4 ⟨rfl, hb⟩
        have B4 := Lib.hid (B3.out.trans (hb.mono B3.out.size))
        clear hb
        go_wp2_with fail
        go_ret
        exact ⟨rfl, B4.out⟩
      · rw [hwh rfl] at MX
        clear hpre hwh hm hXs f3 f4
        go_enter Try.func6, Try.ntmps6
        go_wp2_with fail
        go_fit (LI.out _)
        rintro e w1 ⟨rfl, hb⟩
        have B1 := Lib.hid (B0.out.trans (hb.mono B0.out.size))
        clear hb
        go_wp2_with fail
        go_fit (LR.out _)
        rintro e w2 ⟨rfl, hb⟩
        have B2 := Lib.hid (B1.out.trans (hb.mono B1.out.size))
        clear hb
        go_wp2_with fail
        go_fit (V.out _)
        rintro e w3 ⟨rfl, hb⟩
        have B3 := Lib.hid (B2.out.trans (hb.mono B2.out.size))
        clear hb
        go_wp2_with fail
        go_fit (MX.out _)
        rintro e w4 ⟨rfl, hb⟩
        have B4 := Lib.hid (B3.out.trans (hb.mono B3.out.size))
        clear hb
        go_wp2_with fail
        go_fit (lives6_any _)
        rintro e w5 ⟨rfl, hb⟩
        have B5 := Lib.hid (B4.out.trans (hb.mono B4.out.size))
        clear hb
        go_wp2_with fail
        go_ret
        exact ⟨rfl, B5.out⟩
    · rw [hm] at V
      obtain ⟨⟨r, hr⟩, hwe⟩ := hpre hm
      have hle : X.size ≤ s.size := by
        have := congrArg List.length hr
        rw [List.length_append, lenB, lenB] at this
        omega
      have hle2 : (X.size : Int) ≤ (s.size : Int) := by omega
      have hlt2 : decide ((s.size : Int) < (X.size : Int)) = false := by simp; omega
      have hsl : s.extract 0 X.size = X := by
        apply ByteArray.ext
        apply Array.toList_inj.1
        rw [ext_mk, toL, List.drop_zero, hr, ← lenB, List.take_left]
      cases wh
      · clear hwe hwh hm hXs f3 f4 MX hr hle
        go_enter Try.func6, Try.ntmps6
        go_wp2_with fail
        go_fit (LI.out _)
        rintro e w1 ⟨rfl, hb⟩
        have B1 := Lib.hid (B0.out.trans (hb.mono B0.out.size))
        clear hb
        go_wp2_with fail
        go_fit (LR.out _)
        rintro e w2 ⟨rfl, hb⟩
        have B2 := Lib.hid (B1.out.trans (hb.mono B1.out.size))
        clear hb
        go_wp2_with fail
        go_fit (V.out _)
        rintro e w3 ⟨rfl, hb⟩
        have B3 := Lib.hid (B2.out.trans (hb.mono B2.out.size))
        clear hb
        go_wp2_with fail
        go_fit (lives6_any _)
        rintro e w4 ⟨rfl, hb⟩
        have B4 := Lib.hid (B3.out.trans (hb.mono B3.out.size))
        clear hb
        go_wp2_with fail
        go_ret
        exact ⟨rfl, B4.out⟩
      · have hse : s = X := by
          apply ByteArray.ext
          apply Array.toList_inj.1
          exact hwe rfl
        rw [hwh rfl] at MX
        subst hse
        clear hwe hwh hm hXs f3 f4 hr hle
        go_enter Try.func6, Try.ntmps6
        go_wp2_with fail
        go_fit (LI.out _)
        rintro e w1 ⟨rfl, hb⟩
        have B1 := Lib.hid (B0.out.trans (hb.mono B0.out.size))
        clear hb
        go_wp2_with fail
        go_fit (LR.out _)
        rintro e w2 ⟨rfl, hb⟩
        have B2 := Lib.hid (B1.out.trans (hb.mono B1.out.size))
        clear hb
        go_wp2_with fail
        go_fit (V.out _)
        rintro e w3 ⟨rfl, hb⟩
        have B3 := Lib.hid (B2.out.trans (hb.mono B2.out.size))
        clear hb
        go_wp2_with fail
        go_fit (MX.out _)
        rintro e w4 ⟨rfl, hb⟩
        have B4 := Lib.hid (B3.out.trans (hb.mono B3.out.size))
        clear hb
        go_wp2_with fail
        go_fit (lives6_any _)
        rintro e w5 ⟨rfl, hb⟩
        have B5 := Lib.hid (B4.out.trans (hb.mono B4.out.size))
        clear hb
        go_wp2_with fail
        go_ret
        exact ⟨rfl, B5.out⟩

set_option maxRecDepth 100000 in
theorem lifted (os : Os) (started : os.Started) (H : Type) (enc : TypeId × Value → H) :
    ReturnsInHanded {} Try.checked os 6 .any (Rows.globPrefixesSpec.pre6 enc Try.prog Try.f6 Rows.globPrefixesRow.domain false) (Rows.globPrefixesSpec.post enc Try.prog Try.f6 false true false false) := by
  refine returnsInHanded_of_change (C := Try.checked) own started (by kernel_rfl) Try.func6
    (ChangeSpec.witness6 (enc := enc) (C := Try.checked) false ⟨#[], #[.string ⟨#[]⟩, .string ⟨#[]⟩], []⟩ 8 (by kernel_rfl) (by kernel_rfl) (by kernel_rfl) (by kernel_rfl)) ?_
  intro W base args ds gs before hval0 hW hcnd _
  have hval : ∀ (j : Nat) t v, Try.f6.params[j]? = some t → args[j]? = some v → Value.okWide Try.prog W .any base t v := hval0
  have hW' := hW
  obtain ⟨p, q, hA0, hV, rfl, hfz, hnd⟩ := hW
  have hA : DataW.TrodAll enc Try.prog W 0 (fun _ => true) true Try.f6.params.toList args.toList ds p := hA0
  rw [Try.params6] at hA hval
  obtain ⟨v0, vs0, d0, ds0, p0, q0, hargs, rfl, rfl, h0, r0⟩ := trodAll_cons hA
  obtain ⟨v1, vs1, d1, ds1, p1, q1, rfl, rfl, rfl, h1, r1⟩ := trodAll_cons r0
  obtain ⟨rfl, rfl, rfl⟩ := trodAll_nil r1
  obtain rfl : args = #[v0, v1] := by cases args; simp_all
  obtain ⟨rfl, rfl⟩ := trodVars_none hV
  obtain ⟨a0, rfl, rfl, rfl, w0⟩ := open_string Try.underlying9 (hval 0 9 v0 rfl rfl) h0
  obtain ⟨a1, rfl, rfl, rfl, w1⟩ := open_string Try.underlying9 (hval 1 9 v1 rfl rfl) h1
  clear hA0 hval0
  refine (walk a0 a1 w0 w1 W ).mono fun e W' ⟨he, bel⟩ => ?_
  subst he
  exact ⟨_, rfl, _, _, _, [], _, [], hW', trodAll_mk1 (shut_bool Try.underlying4 _), (trodAll_cons_mk (shut_string Try.underlying9 w0) (trodAll_cons_mk (shut_string Try.underlying9 w1) trodAll_mk0)), rfl, bel.frame _, fun h => by cases h⟩

theorem over : Rows.globPrefixesRow.holds Try.pinned (OpenSpec.ofChange Rows.globPrefixesSpec) :=
  OpenClaim.holds_of_wide 6 Try.f6 rfl rfl rfl rfl rfl rfl rfl ⟨rfl, rfl, rfl, rfl, rfl⟩ rfl rfl rfl rfl rfl (by kernel_rfl) Try.func6 (by kernel_rfl)
    (of_decide_eq_true (by kernel_rfl)) (by unfold Func.isWrapper; first | (rw [if_pos (by decide +kernel)]; kernel_rfl) | (rw [if_neg (by decide +kernel)]; exact ⟨rfl, rfl⟩))
    (fun os started H enc _ => lifted os started H enc)

/-- THE STATEMENT. -/
theorem proved : Rows.GlobPrefixesSaid :=
  over
#print axioms proved
end Go.Proofs.Ytaalfnfikjmomaa.globPrefixes
