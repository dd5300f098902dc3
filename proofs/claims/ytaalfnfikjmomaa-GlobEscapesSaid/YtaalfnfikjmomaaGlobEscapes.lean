/- A string of at most 1000 bytes with a backslash put before each byte is a pattern that matches only this string; no conditions. -/
import Derived.Test.YtaalfnfikjmomaaGlbPx
import Derived.ProofKit
import Derived.OpenShut
namespace Go.Proofs.Ytaalfnfikjmomaa.globEscapes
open Go.ChangeShapes Go.WideShapes Go.ChangeAt Go.RowKit
open Go.ChangeMaps (open_string shut_string)
set_option linter.unusedVariables false

theorem own : ownKnob Try.prog.godebug = none := by kernel_rfl
theorem laidOut : laidOutB Try.prog = true := by kernel_rfl

theorem esc_more (S : ByteArray) (l : List UInt8) (c : UInt8) (t : ByteArray) (hS : S = ⟨(escL l).toArray⟩) (ht : t.data.toList = [c]) : (S ++ ⟨#[92]⟩ ++ t) = ⟨(escL (l ++ [c])).toArray⟩ := by
  apply ByteArray.ext
  apply Array.toList_inj.1
  rw [escL_snoc, hS]
  simp [ByteArray.data_append, ht]
set_option maxHeartbeats 8000000 in
set_option maxRecDepth 100000 in
theorem walk (s t : ByteArray) (ha : s.size ≤ maxLen) (hb : t.size ≤ maxLen) (w : World) :
    Calls Try.prog 7 #[.string s, .string t] w fun e w' => e = .returned (.bool true) ∧ Below w.heap.size w w' := by
  clear ha hb
  have hcase : decide ((1000 : Int) < (s.size : Int)) = true ∨ (decide ((1000 : Int) < (s.size : Int)) = false ∧ decide ((1000 : Int) < (t.size : Int)) = true) ∨ (decide ((1000 : Int) < (s.size : Int)) = false ∧ decide ((1000 : Int) < (t.size : Int)) = false ∧ s.size ≤ 1000 ∧ t.size ≤ 1000) := by
    simp only [decide_eq_true_eq, decide_eq_false_iff_not]
    omega
  rcases hcase with f1 | ⟨f1, f2⟩ | ⟨f1, f2, f3, f4⟩
  · go_enter Try.func7, Try.ntmps7
    go_wp2_with fail
    go_fit (lives6_any _)
    rintro e w3 ⟨rfl, hb⟩
    have B3 := Lib.hid hb
    clear hb
    go_wp2_with fail
    go_ret
    exact ⟨rfl, B3.out⟩
  · go_enter Try.func7, Try.ntmps7
    go_wp2_with fail
    go_fit (lives6_any _)
    rintro e w3 ⟨rfl, hb⟩
    have B3 := Lib.hid hb
    clear hb
    go_wp2_with fail
    go_ret
    exact ⟨rfl, B3.out⟩
  · obtain ⟨E, hE⟩ : ∃ E : ByteArray, E = ⟨(escL s.data.toList).toArray⟩ := ⟨_, rfl⟩
    have hEl : E.data.toList = escL s.data.toList := by rw [hE]
    have hsl9 : s.data.toList.length ≤ 1000 := by rw [lenB]; exact f3
    have LI := Lib.hid (fun w => literal_fn_any E w)
    have VA := Lib.hid (fun w => valid_any E w)
    have M1 := Lib.hid (fun w => match_any E s (by omega) w)
    have M2 := Lib.hid (fun w => match_any E t (by omega) w)
    rw [hEl] at LI VA M1 M2
    rw [lit_esc hsl9] at LI
    rw [valid_esc hsl9] at VA
    rw [match_esc hsl9] at M1 M2
    rw [decide_eq_true rfl] at M1
    rw [show (⟨(s.data.toList, true).1.toArray⟩ : ByteArray) = s from str_of s] at LI
    have ts : (s.toList == s.toList) = true := by simp
    have s0 : (0 : Int) ≤ s.size ∧ (s.size : Int) ≤ 1000 := by omega
    have HF := Lib.hid (And.intro f3 hE)
    have B0 := Lib.hid (Below.refl w.heap.size w)
    have hdt : ∃ d : Bool, d = decide (t.data.toList = s.data.toList) ∧ (d == (s.toList == t.toList)) = true := by
      refine ⟨_, rfl, ?_⟩
      rw [ByteArray.toList_eq, ByteArray.toList_eq]
      by_cases h : t.data.toList = s.data.toList
      · rw [h]; simp
      · have h2 : ¬ s.data.toList = t.data.toList := fun e => h e.symm
        rw [decide_eq_false h, beq_eq_false_iff_ne.2 h2]
        rfl
    obtain ⟨d, hd, hdd⟩ := hdt
    rw [← hd] at M2
    have HDD := Lib.hid hdd
    clear hE hEl hsl9 f3 f4 hd hdd
    go_enter Try.func7, Try.ntmps7
    go_wp2_with fail
    go_loop [5, 6] (fun s5 s6 => ∃ i : Nat, s6 = .int .i64 (i : Int) ∧ i ≤ s.size ∧ s5 = .string ⟨(escL (s.data.toList.take i)).toArray⟩) (fun _ s6 => s.size - (RowKit.intOf s6).toNat)
    case atStart => exact ⟨0, rfl, by omega, rfl⟩
    case round =>
      obtain ⟨i, rfl, hi, rfl⟩ := hrel
      obtain ⟨S, hS⟩ : ∃ S : ByteArray, S = ⟨(escL (s.data.toList.take i)).toArray⟩ := ⟨_, rfl⟩
      rw [← hS]
      by_cases hlt : i < s.size
      · have hSs : S.size = 2 * i := by rw [hS, sizeL, escL_len, List.length_take, lenB, Nat.min_eq_left hi]
        obtain ⟨u, hu⟩ : ∃ u, u = s.extract i (i + 1) := ⟨_, rfl⟩
        have hul : u.data.toList = [s[i]] := by
          rw [hu, ext_mk, toL, List.drop_take, drop_cons s i hlt, Nat.add_sub_cancel_left]
          rfl
        have hus : u.size = 1 := by rw [← lenB, hul]; rfl
        have hsl := hu.symm
        have hs1 := fun w => run_string_add_sum (P := Try.prog) w S ⟨#[92]⟩ (by show S.size + 1 ≤ _; have := HF.out.1; omega)
        have hs2 := fun w => run_string_add_sum (P := Try.prog) w (S ++ ⟨#[92]⟩) u (by rw [ByteArray.size_append, hus]; show S.size + 1 + 1 ≤ _; have := HF.out.1; omega)
        have i0 : (0 : Int) ≤ i ∧ (i : Int) < (s.size : Int) := by omega
        have i1 : (i : Int) + 1 ≤ (s.size : Int) := by omega
        have NX := Lib.hid (show (S ++ ⟨#[92]⟩ ++ u) = ⟨(escL (s.data.toList.take (i + 1))).toArray⟩ from by
          rw [esc_more S _ s[i] u hS hul, List.take_succ_eq_append_getElem (by rw [lenB]; exact hlt)]
          rfl)
        have HLT := Lib.hid hlt
        clear hS hSs hu hul hus hlt hi
        go_wp2_with fail
        go_round
        case rel => exact ⟨i + 1, by go_num, HLT.out, by rw [NX.out]⟩
        case measure => have := HLT.out; simp [RowKit.intOf]; omega
      · obtain rfl : i = s.size := by omega
        have hSE : S = E := by rw [hS, HF.out.2, List.take_of_length_le (by rw [lenB]; exact Nat.le_refl _)]
        subst hSE
        clear hS hlt hi
        cases d
        all_goals
          have hdd := HDD.out
          go_wp2_with fail
          go_fit (LI.out _)
          rintro e w1 ⟨rfl, hb⟩
          have B1 := Lib.hid (B0.out.trans (hb.mono B0.out.size))
          clear hb
          go_wp2_with fail
          go_fit (VA.out _)
          rintro e w2 ⟨rfl, hb⟩
          have B2 := Lib.hid (B1.out.trans (hb.mono B1.out.size))
          clear hb
          go_wp2_with fail
          go_fit (M1.out _)
          rintro e w3 ⟨rfl, hb⟩
          have B3 := Lib.hid (B2.out.trans (hb.mono B2.out.size))
          clear hb
          go_wp2_with fail
          go_fit (M2.out _)
          rintro e w4 ⟨rfl, hb⟩
          have B4 := Lib.hid (B3.out.trans (hb.mono B3.out.size))
          clear hb
          go_wp2_with fail
          go_fit (lives6_any _)
          rintro e w5 ⟨rfl, hb⟩
          have B5 := Lib.hid (B4.out.trans (hb.mono B4.out.size))
          clear hb
          go_wp2_with fail
          go_ret
          exact ⟨rfl, B5.out⟩

set_option maxRecDepth 100000 in
theorem lifted (os : Os) (started : os.Started) (H : Type) (enc : TypeId × Value → H) :
    ReturnsInHanded {} Try.checked os 7 .any (Rows.globEscapesSpec.pre6 enc Try.prog Try.f7 Rows.globEscapesRow.domain false) (Rows.globEscapesSpec.post enc Try.prog Try.f7 false true false false) := by
  refine returnsInHanded_of_change (C := Try.checked) own started (by kernel_rfl) Try.func7
    (ChangeSpec.witness6 (enc := enc) (C := Try.checked) false ⟨#[], #[.string ⟨#[]⟩, .string ⟨#[]⟩], []⟩ 8 (by kernel_rfl) (by kernel_rfl) (by kernel_rfl) (by kernel_rfl)) ?_
  intro W base args ds gs before hval0 hW hcnd _
  have hval : ∀ (j : Nat) t v, Try.f7.params[j]? = some t → args[j]? = some v → Value.okWide Try.prog W .any base t v := hval0
  have hW' := hW
  obtain ⟨p, q, hA0, hV, rfl, hfz, hnd⟩ := hW
  have hA : DataW.TrodAll enc Try.prog W 0 (fun _ => true) true Try.f7.params.toList args.toList ds p := hA0
  rw [Try.params7] at hA hval
  obtain ⟨v0, vs0, d0, ds0, p0, q0, hargs, rfl, rfl, h0, r0⟩ := trodAll_cons hA
  obtain ⟨v1, vs1, d1, ds1, p1, q1, rfl, rfl, rfl, h1, r1⟩ := trodAll_cons r0
  obtain ⟨rfl, rfl, rfl⟩ := trodAll_nil r1
  obtain rfl : args = #[v0, v1] := by cases args; simp_all
  obtain ⟨rfl, rfl⟩ := trodVars_none hV
  obtain ⟨a0, rfl, rfl, rfl, w0⟩ := open_string Try.underlying9 (hval 0 9 v0 rfl rfl) h0
  obtain ⟨a1, rfl, rfl, rfl, w1⟩ := open_string Try.underlying9 (hval 1 9 v1 rfl rfl) h1
  clear hA0 hval0
  refine (walk a0 a1 w0 w1 W ).mono fun e W' ⟨he, bel⟩ => ?_
  subst he
  exact ⟨_, rfl, _, _, _, [], _, [], hW', trodAll_mk1 (shut_bool Try.underlying4 _), (trodAll_cons_mk (shut_string Try.underlying9 w0) (trodAll_cons_mk (shut_string Try.underlying9 w1) trodAll_mk0)), rfl, bel.frame _, fun h => by cases h⟩

theorem over : Rows.globEscapesRow.holds Try.pinned (OpenSpec.ofChange Rows.globEscapesSpec) :=
  OpenClaim.holds_of_wide 7 Try.f7 rfl rfl rfl rfl rfl rfl rfl ⟨rfl, rfl, rfl, rfl, rfl⟩ rfl rfl rfl rfl rfl (by kernel_rfl) Try.func7 (by kernel_rfl)
    (of_decide_eq_true (by kernel_rfl)) (by unfold Func.isWrapper; first | (rw [if_pos (by decide +kernel)]; kernel_rfl) | (rw [if_neg (by decide +kernel)]; exact ⟨rfl, rfl⟩))
    (fun os started H enc _ => lifted os started H enc)

/-- THE STATEMENT. -/
theorem proved : Rows.GlobEscapesSaid :=
  over
#print axioms proved
end Go.Proofs.Ytaalfnfikjmomaa.globEscapes
