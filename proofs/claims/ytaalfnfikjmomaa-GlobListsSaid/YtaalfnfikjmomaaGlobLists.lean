/- Whether a list of at most 10 patterns with exceptions matches any string is the document's answer; no conditions. -/
import Derived.Test.YtaalfnfikjmomaaGlbLives
import Derived.Test.YtaalfnfikjmomaaOpenS
import Derived.ProofKit
import Derived.OpenShut
namespace Go.Proofs.Ytaalfnfikjmomaa.globLists
open Go.ChangeShapes Go.WideShapes Go.ChangeAt Go.RowKit
open Go.ChangeMaps (open_string shut_string)
set_option linter.unusedVariables false

theorem own : ownKnob Try.prog.godebug = none := by kernel_rfl
theorem laidOut : laidOutB Try.prog = true := by kernel_rfl

set_option maxHeartbeats 4000000 in
set_option maxRecDepth 100000 in
theorem walk (v : Option Addr) (cap : Nat) (L : List (List UInt8)) (hlen : L.length ≤ cap) (hcap : cap ≤ 9223372036854775807) (hx : ∀ z ∈ L, z.length ≤ 9223372036854775807) (s : ByteArray) (ha : s.size ≤ maxLen) (w : World) (hr : ReadsStr w v L) :
    Calls Try.prog 5 #[.slice v L.length cap, .string s] w fun e w' => e = .returned (.bool true) ∧ Below w.heap.size w w' := by
  have hcase : decide ((10 : Int) < (L.length : Int)) = true ∨ (decide ((10 : Int) < (L.length : Int)) = false ∧ decide ((200 : Int) < (s.size : Int)) = true) ∨ (decide ((10 : Int) < (L.length : Int)) = false ∧ decide ((200 : Int) < (s.size : Int)) = false ∧ s.size ≤ 200 ∧ L.length ≤ 10) := by
    simp only [decide_eq_true_eq, decide_eq_false_iff_not]
    omega
  clear ha hlen hcap
  rcases hcase with f1 | ⟨f1, f2⟩ | ⟨f1, f2, f3, f4⟩
  · clear hx hr
    go_enter Try.func5, Try.ntmps5
    go_wp2_with fail
    go_fit (lives6_any _)
    rintro e w3 ⟨rfl, hb⟩
    have B3 := Lib.hid hb
    clear hb
    go_wp2_with fail
    go_ret
    exact ⟨rfl, B3.out⟩
  · clear hx hr
    go_enter Try.func5, Try.ntmps5
    go_wp2_with fail
    go_fit (lives6_any _)
    rintro e w3 ⟨rfl, hb⟩
    have B3 := Lib.hid hb
    clear hb
    go_wp2_with fail
    go_ret
    exact ⟨rfl, B3.out⟩
  · have HR := Lib.hid hr
    have V := Lib.hid (fun w hr => any_any v cap L s (by omega) (by omega) w hr)
    have R := Lib.hid (fun w hr => refAny_any v cap L s (by omega) (by omega) w hr)
    generalize anyP L s.data.toList = m at V R
    have l0 : (0 : Int) ≤ L.length ∧ (L.length : Int) ≤ 10 := by omega
    have HX := Lib.hid hx
    have B0 := Lib.hid (Below.refl w.heap.size w)
    clear f3 f4 hx hr
    go_enter Try.func5, Try.ntmps5
    go_wp2_with fail
    go_loop [5] (fun s5 => ∃ i : Nat, s5 = .int .i64 (i : Int) ∧ i ≤ L.length) (fun s5 => L.length - (RowKit.intOf s5).toNat)
    case atStart => exact ⟨0, rfl, by omega⟩
    case round =>
      obtain ⟨i, rfl, hi⟩ := hrel
      by_cases hlt : i < L.length
      · obtain ⟨b, off, rfl, hb9, hc⟩ := HR.out i hlt
        obtain ⟨x, hx⟩ : ∃ x : ByteArray, x = ⟨L[i].toArray⟩ := ⟨_, rfl⟩
        have hxs : (x.size : Int) ≤ 9223372036854775807 := by
          have := HX.out L[i] (List.getElem_mem hlt)
          rw [hx, sizeL]
          omega
        rw [← hx] at hc
        have i0 : (0 : Int) ≤ i ∧ (i : Int) < (L.length : Int) := by omega
        have HI := Lib.hid hlt
        have hc2 : decide ((200 : Int) < (x.size : Int)) = true ∨ decide ((200 : Int) < (x.size : Int)) = false := by
          cases decide ((200 : Int) < (x.size : Int)) <;> simp
        clear hx hlt hi
        rcases hc2 with h2 | h2
        · go_wp2_with fail
          go_fit (lives6_any _)
          rintro e w3 ⟨rfl, hb⟩
          have B3 := Lib.hid hb
          clear hb
          go_wp2_with fail
          go_ret
          exact ⟨rfl, B3.out⟩
        · go_wp2_with fail
          go_round
          case rel => exact ⟨i + 1, by go_num, HI.out⟩
          case measure => have := HI.out; simp [RowKit.intOf]; omega
      · obtain rfl : i = L.length := by omega
        clear hlt hi
        cases m
        all_goals
          go_wp2_with fail
          go_fit (V.out _ HR.out)
          rintro e w1 ⟨rfl, hb⟩
          have B1 := Lib.hid (B0.out.trans (hb.mono B0.out.size))
          clear hb
          go_wp2_with fail
          go_fit (R.out _ (HR.out.below B1.out))
          rintro e w2 ⟨rfl, hb⟩
          have B2 := Lib.hid (B1.out.trans (hb.mono B1.out.size))
          clear hb
          go_wp2_with fail
          go_fit (lives6_any _)
          rintro e w3 ⟨rfl, hb⟩
          have B3 := Lib.hid (B2.out.trans (hb.mono B2.out.size))
          clear hb
          go_wp2_with fail
          go_ret
          exact ⟨rfl, B3.out⟩

set_option maxRecDepth 100000 in
theorem lifted (os : Os) (started : os.Started) (H : Type) (enc : TypeId × Value → H) :
    ReturnsInHanded {} Try.checked os 5 .any (Rows.globListsSpec.pre6 enc Try.prog Try.f5 Rows.globListsRow.domain false) (Rows.globListsSpec.post enc Try.prog Try.f5 false true false false) := by
  refine returnsInHanded_of_change (C := Try.checked) own started (by kernel_rfl) Try.func5
    (ChangeSpec.witness6 (enc := enc) (C := Try.checked) false ⟨#[], #[.slice none 0 0, .string ⟨#[]⟩], []⟩ 8 (by kernel_rfl) (by kernel_rfl) (by kernel_rfl) (by kernel_rfl)) ?_
  intro W base args ds gs before hval0 hW hcnd _
  have hval : ∀ (j : Nat) t v, Try.f5.params[j]? = some t → args[j]? = some v → Value.okWide Try.prog W .any base t v := hval0
  have hW' := hW
  obtain ⟨p, q, hA0, hV, rfl, hfz, hnd⟩ := hW
  have hA : DataW.TrodAll enc Try.prog W 0 (fun _ => true) true Try.f5.params.toList args.toList ds p := hA0
  rw [Try.params5] at hA hval
  obtain ⟨v0, vs0, d0, ds0, p0, q0, hargs, rfl, rfl, h0, r0⟩ := trodAll_cons hA
  obtain ⟨v1, vs1, d1, ds1, p1, q1, rfl, rfl, rfl, h1, r1⟩ := trodAll_cons r0
  obtain ⟨rfl, rfl, rfl⟩ := trodAll_nil r1
  obtain rfl : args = #[v0, v1] := by cases args; simp_all
  obtain ⟨rfl, rfl⟩ := trodVars_none hV
  obtain ⟨a0, len0, cap0, rfl⟩ := okWide_slice Try.underlying28 (hval 0 28 v0 rfl rfl)
  have k0 := h0
  have lt0 : ∀ x ∈ p0, x.block < W.heap.size := by obtain ⟨m, hm⟩ := k0; exact DataW.trod_lt m _ _ _ hm
  obtain ⟨L0, rfl, hL0, hlen0, hx0, hr0⟩ : ∃ L : List (List UInt8), len0 = L.length ∧ L.length ≤ cap0 ∧ cap0 ≤ 9223372036854775807 ∧ (∀ z ∈ L, z.length ≤ 9223372036854775807) ∧ ReadsStr W a0 L := by
    obtain ⟨fuel, hf⟩ := h0
    rcases Go.Deep.open_strs Try.underlying28 Try.underlying9 (by kernel_rfl) hf with ⟨hcs, _⟩ | ⟨x, l, c, m, Sx, hcs, _, hl, hm, hz, _, hcell⟩
    · simp [Value.cells] at hcs
      obtain ⟨rfl, rfl, rfl⟩ := hcs
      exact ⟨[], rfl, by simp, by simp, by simp, fun k hk => by simp at hk⟩
    · simp [Value.cells] at hcs
      obtain ⟨rfl, rfl, rfl⟩ := hcs
      exact reads_ofS hl hm (by simp at hz; omega) hcell
  obtain ⟨a1, rfl, rfl, rfl, w1⟩ := open_string Try.underlying9 (hval 1 9 v1 rfl rfl) h1
  clear hA0 hval0
  refine (walk a0 cap0 L0 hL0 hlen0 hx0 a1 w1 W hr0).mono fun e W' ⟨he, bel⟩ => ?_
  subst he
  exact ⟨_, rfl, _, _, _, [], _, [], hW', trodAll_mk1 (shut_bool Try.underlying4 _), (trodAll_cons_mk (Below.trod laidOut (by kernel_rfl) (of_decide_eq_true (by kernel_rfl)) k0 bel lt0) (trodAll_cons_mk (shut_string Try.underlying9 w1) trodAll_mk0)), rfl, bel.frame _, fun h => by cases h⟩

theorem over : Rows.globListsRow.holds Try.pinned (OpenSpec.ofChange Rows.globListsSpec) :=
  OpenClaim.holds_of_wide 5 Try.f5 rfl rfl rfl rfl rfl rfl rfl ⟨rfl, rfl, rfl, rfl, rfl⟩ rfl rfl rfl rfl rfl (by kernel_rfl) Try.func5 (by kernel_rfl)
    (of_decide_eq_true (by kernel_rfl)) (by unfold Func.isWrapper; first | (rw [if_pos (by decide +kernel)]; kernel_rfl) | (rw [if_neg (by decide +kernel)]; exact ⟨rfl, rfl⟩))
    (fun os started H enc _ => lifted os started H enc)

/-- THE STATEMENT. -/
theorem proved : Rows.GlobListsSaid :=
  over
#print axioms proved
end Go.Proofs.Ytaalfnfikjmomaa.globLists
