/- Parse returns what the document gives for any text, and a text that is accepted is the one of its duration. -/
import Derived.Test.YtaalfnfikjmomaaDoorTie
import Derived.Test.YtaalfnfikjmomaaDoorCards
import Derived.Test.YtaalfnfikjmomaaDoorDurLives
import Derived.Test.YtaalfnfikjmomaaDoorDurL
import Derived.ProofKit
import Derived.OpenShut
import Derived.LaidMore
import Derived.Stop.Joined
import Derived.SevenTiedAt
namespace Go.Proofs.YtaalfnfikjmomaaDoor.durationParses
open Go.ChangeShapes Go.WideShapes Go.ChangeAt Go.RowKit
open Go.ChangeMaps (open_string shut_string)
set_option linter.unusedVariables false

theorem own : ownKnob Tryd.prog.godebug = none := by kernel_rfl
theorem laidOut : laidOutB Tryd.prog = true := by kernel_rfl

set_option maxHeartbeats 4000000 in
set_option maxRecDepth 100000 in
theorem walk (s : ByteArray) (hs : s.size ≤ 140737488355327) (w : World) (hT : TabD w) :
    Calls Tryd.prog 3 #[.string s] w fun e w' => e = .returned (.bool true) ∧ Below w.heap.size w w' := by
  have HT := Lib.hid hT
  clear hT
  have hcase : decide ((1000 : Int) < (s.size : Int)) = true ∨ s.size ≤ 1000 := by
    simp only [decide_eq_true_eq]
    omega
  rcases hcase with f1 | f1
  · clear hs
    go_enter Tryd.func3, Tryd.ntmps3
    go_wp2_with fail
    go_fit (lives5_any _ HT.out)
    rintro e w3 ⟨rfl, hb⟩
    have B3 := Lib.hid hb
    clear hb
    go_wp2_with fail
    go_ret
    exact ⟨rfl, B3.out⟩
  · have g1 : decide ((1000 : Int) < (s.size : Int)) = false := by simp; omega
    have P := fun w hT => durParse_any s (by omega) w hT
    rw [prog_is_doc] at P
    have R := fun w => refParseD_any s (by omega) w
    have hle := docP_le s.data.toList
    obtain ⟨n, hn⟩ : ∃ n, n = (docP s.data.toList).1 := ⟨_, rfl⟩
    obtain ⟨e, he⟩ : ∃ e, e = (docP s.data.toList).2 := ⟨_, rfl⟩
    rw [← hn, ← he] at P R
    rw [← hn] at hle
    have hne : docP s.data.toList = (n, e) := by rw [hn, he]
    have HE := Lib.hid hne
    have P := Lib.hid P
    have R := Lib.hid R
    obtain ⟨ni, hni⟩ : ∃ ni : Int, ni = (n : Int) := ⟨_, rfl⟩
    rw [← hni] at P R
    have n0 : 0 ≤ ni ∧ ni ≤ 1125899906842624 := by omega
    have tn : (ni == ni) = true := by simp
    by_cases h0 : e = 0
    · subst h0
      obtain ⟨hm, hsh⟩ := doc_ok hne
      have S := fun w hT => durShow_any ni w hT
      rw [hni, limD_id n hm, hsh, str_of, ← hni] at S
      have S := Lib.hid S
      have ts : (s.toList == s.toList) = true := by simp
      clear hsh hm hne hn he hle hs f1 hni
      go_enter Tryd.func3, Tryd.ntmps3
      go_wp2_with fail
      go_fit (P.out _ HT.out)
      rintro e w1 ⟨rfl, hb⟩
      have B1 := Lib.hid hb
      clear hb
      go_wp2_with fail
      go_fit (R.out _)
      rintro e w2 ⟨rfl, hb⟩
      have B2 := Lib.hid (B1.out.trans (hb.mono B1.out.size))
      clear hb
      go_wp2_with fail
      go_fit (S.out _ (HT.out.below B2.out))
      rintro e w3 ⟨rfl, hb⟩
      have B3 := Lib.hid (B2.out.trans (hb.mono B2.out.size))
      clear hb
      go_wp2_with fail
      go_fit (lives5_any _ (HT.out.below B3.out))
      rintro e w4 ⟨rfl, hb⟩
      have B4 := Lib.hid (B3.out.trans (hb.mono B3.out.size))
      clear hb
      go_wp2_with fail
      go_ret
      exact ⟨rfl, B4.out⟩
    · have he9 := prog_errs s.data.toList
      rw [← he] at he9
      obtain ⟨ei, hei⟩ : ∃ ei : Int, ei = (e : Int) := ⟨_, rfl⟩
      rw [← hei] at P R
      have te : (ei == ei) = true := by simp
      have e0 : (ei == 0) = false := by rw [beq_eq_false_iff_ne]; omega
      have e0' : (ei != 0) = true := by rw [bne_iff_ne]; omega
      have e9 : 0 ≤ ei ∧ ei ≤ 5 := by omega
      clear hne hn he hle hs f1 hni h0 hei he9
      go_enter Tryd.func3, Tryd.ntmps3
      go_wp2_with fail
      go_fit (P.out _ HT.out)
      rintro e w1 ⟨rfl, hb⟩
      have B1 := Lib.hid hb
      clear hb
      go_wp2_with fail
      go_fit (R.out _)
      rintro e w2 ⟨rfl, hb⟩
      have B2 := Lib.hid (B1.out.trans (hb.mono B1.out.size))
      clear hb
      go_wp2_with fail
      go_fit (lives5_any _ (HT.out.below B2.out))
      rintro e w4 ⟨rfl, hb⟩
      have B4 := Lib.hid (B2.out.trans (hb.mono B2.out.size))
      clear hb
      go_wp2_with fail
      go_ret
      exact ⟨rfl, B4.out⟩

set_option maxRecDepth 100000 in
theorem lifted (os : Os) (started : os.Started) (H : Type) (enc : TypeId × Value → H) :
    ReturnsInHanded {} Tryd.checked os 3 .any (fun w args => (Rows.durationParsesSpec.pre enc Tryd.prog Tryd.f3 Rows.durationParsesRow.domain false w args ∧ laidMetH Tryd.prog laid5 w) ∧ sizedMet enc Tryd.prog Tryd.f3 (OpenSpec.ofChange Rows.durationParsesSpec) false w args) (Rows.durationParsesSpec.post enc Tryd.prog Tryd.f3 false true false false) := by
  refine returnsInHanded_of_change_and (C := Tryd.checked) (X := fun w _ => laidMetH Tryd.prog laid5 w) (fun _ _ _ hh h => h.of_heap hh) own started (by kernel_rfl) Tryd.func3
    (ChangeSpec.witness_shaped (enc := enc) (C := Tryd.checked) (os := os) (X := fun w _ => laidMetH Tryd.prog laid5 w) false (World.laidAll Tryd.prog os laid5) #[.string ⟨#[]⟩] 8 (World.laidAll_os _ _ _) (World.shaped_of_ZipB (by kernel_rfl) (by kernel_rfl)) (by kernel_rfl) (by kernel_rfl) (by kernel_rfl) (lay5_met os _)) ?_
  intro W base args ds gs before hval0 hW hcnd hsz hL _
  have hval : ∀ (j : Nat) t v, Tryd.f3.params[j]? = some t → args[j]? = some v → Value.okWide Tryd.prog W .any base t v := hval0
  have hW' := hW
  obtain ⟨p, q, hA0, hV, rfl, hfz, hnd⟩ := hW
  have hA : DataW.TrodAll enc Tryd.prog W 0 (fun _ => true) true Tryd.f3.params.toList args.toList ds p := hA0
  rw [Tryd.params3] at hA hval hsz
  obtain ⟨v0, vs0, d0, ds0, p0, q0, hargs, rfl, rfl, h0, r0⟩ := trodAll_cons hA
  obtain ⟨rfl, rfl, rfl⟩ := trodAll_nil r0
  obtain rfl : args = #[v0] := by cases args; simp_all
  obtain ⟨rfl, rfl⟩ := trodVars_none hV
  obtain ⟨a0, rfl, rfl, rfl, w0⟩ := open_string Tryd.underlying9 (hval 0 9 v0 rfl rfl) h0
  have z0 : a0.size ≤ 140737488355327 := by
    have h := sized_string hsz (j := 0) (t := 9) rfl rfl
    rw [Array.length_toList] at h
    exact Nat.le_trans h (by decide)
  clear hA0 hval0
  refine (walk a0 z0 W (tab5_of hL) ).mono fun e W' ⟨he, bel⟩ => ?_
  subst he
  exact ⟨_, rfl, _, _, _, [], _, [], hW', trodAll_mk1 (shut_bool Tryd.underlying4 _), (trodAll_cons_mk (shut_string Tryd.underlying9 w0) trodAll_mk0), rfl, bel.frame _, fun h => by cases h⟩

theorem over : Rows.durationParsesRow.holds Tryd.pinned (OpenSpec.ofChange Rows.durationParsesSpec) :=
  OpenClaim.holds_of_wide 3 Tryd.f3 rfl rfl rfl rfl rfl rfl rfl ⟨rfl, rfl, rfl, rfl, rfl⟩ rfl rfl rfl rfl rfl (by kernel_rfl) Tryd.func3 (by kernel_rfl)
    (of_decide_eq_true (by kernel_rfl)) (by unfold Func.isWrapper; first | (rw [if_pos (by decide +kernel)]; kernel_rfl) | (rw [if_neg (by decide +kernel)]; exact ⟨rfl, rfl⟩))
    (fun os started H enc _ => lifted os started H enc)

/-- THE STATEMENT. -/
theorem proved : Rows.DurationParsesCardSaid :=
  Claim7.holds_tied_plain_at .later [] [.data, .data, .data, .data, .sentinel, .sentinel, .data, .pinned] true Rows.durationParsesCard.stood.harness true
    over (fun _ h => by cases h) (by kernel_rfl) (fun _ h => by cases h) durationParses_row_tie rfl ⟨rfl, rfl⟩ (by kernel_rfl) rfl
    (fun f fn hf hfn => by
      obtain rfl : f = 3 := Option.some.inj ((show Tryd.prog.funcNamed "pipeline/pipelinelaw05.DurationParses" = some 3 by kernel_rfl).symm.trans hf) |>.symm
      obtain rfl : fn = Tryd.f3 := (Option.some.inj (Tryd.func3.symm.trans hfn)).symm
      exact ⟨by kernel_rfl, fun j t ht => by
        rw [Tryd.params3] at ht
        have hm : t ∈ [9] := by simpa using Array.mem_of_getElem? ht
        have hall : ([9].all fun u => !Tryd.prog.wantsStandIn u) = true := by kernel_rfl
        exact (show Tryd.prog.wantsStandIn t = false by simpa using List.all_eq_true.1 hall t hm)⟩)
    (by kernel_rfl)
#print axioms proved
end Go.Proofs.YtaalfnfikjmomaaDoor.durationParses
