/- The text of any digest is the document's and is read as this digest; a text that is read is the text of its digest. -/
import Derived.Test.YtoehpoodfbgdiaaDoorTie
import Derived.Test.YtoehpoodfbgdiaaDoorCards
import Derived.Test.YtoehpoodfbgdiaaDoorDigTab
import Derived.ProofKit
import Derived.OpenShut
import Derived.LaidMore
import Derived.Stop.Joined
import Derived.SevenTiedAt
namespace Go.Proofs.YtoehpoodfbgdiaaDoor.digestTexts
open Go.ChangeShapes Go.WideShapes Go.ChangeAt Go.RowKit
open Go.ChangeMaps (open_string shut_string)
set_option linter.unusedVariables false

theorem own : ownKnob Tryd.prog.godebug = none := by kernel_rfl
theorem laidOut : laidOutB Tryd.prog = true := by kernel_rfl

theorem parse_two (l : List UInt8) : (parseD l).2 = 0 ∨ (parseD l).2 = 5 ∧ (parseD l).1 = 0 := by
  unfold parseD
  cases hexN 0 (l.take 16) with
  | none => exact Or.inr ⟨rfl, rfl⟩
  | some n =>
    by_cases h : l.length ≠ 16
    · simp only [if_pos h]; exact Or.inr ⟨trivial, trivial⟩
    · left; show (if l.length ≠ 16 then ((0, 5) : Nat × Nat) else (n, 0)).2 = 0; rw [if_neg h]
set_option maxHeartbeats 4000000 in
set_option maxRecDepth 100000 in
theorem walk (a : Int) (s : ByteArray) (w0 : (Lit.int .u64 a).wf = true) (hs : s.size ≤ 140737488355327) (w : World) (hT : Tabs w) :
    Calls Tryd.prog 7 #[.int .u64 a, .string s] w fun e w' => e = .returned (.bool true) ∧ Below w.heap.size w w' := by
  obtain ⟨n, rfl, hn⟩ := u64_nat w0
  have HT := Lib.hid hT
  clear w0 hT
  have T := Lib.hid (digText_any n hn)
  have TR := Lib.hid (refText_any n hn)
  have P := Lib.hid (fun w => digParse_any ⟨(hexT 16 n).toArray⟩ (by show (hexT 16 n).toArray.size ≤ _; rw [List.size_toArray, hexT_len]; decide) w)
  simp only [parse_text n hn, show ((0 : Nat) : Int) = 0 from rfl] at P
  have PS := Lib.hid (digParse_any s (by omega))
  have PR := Lib.hid (refParse_any s (by omega))
  generalize (⟨(hexT 16 n).toArray⟩ : ByteArray) = t at T TR P
  have tn : ((n : Int) == (n : Int)) = true := by simp
  have tt : (t.toList == t.toList) = true := by simp
  rcases parse_two s.data.toList with h | h
  · obtain ⟨ht, hm⟩ := text_parse s.data.toList h
    have T2 := Lib.hid (digText_any (parseD s.data.toList).1 hm)
    rw [ht, show (⟨s.data.toList.toArray⟩ : ByteArray) = s by simp] at T2
    rw [h] at PS PR
    rw [show ((0 : Nat) : Int) = 0 from rfl] at PS PR
    generalize (parseD s.data.toList).1 = m at PS PR T2
    have ts : (s.toList == s.toList) = true := by simp
    have tm : ((m : Int) == (m : Int)) = true := by simp
    clear hn hs h ht hm
    go_enter Tryd.func7, Tryd.ntmps7
    go_wp2_with fail
    go_fit (T.out _ HT.out)
    rintro e w1 ⟨rfl, hb⟩
    have B1 := Lib.hid hb
    clear hb
    go_wp2_with fail
    go_fit (P.out _ (HT.out.below B1.out))
    rintro e w2 ⟨rfl, hb⟩
    have B2 := Lib.hid (B1.out.trans (hb.mono B1.out.size))
    clear hb
    go_wp2_with fail
    go_fit (PS.out _ (HT.out.below B2.out))
    rintro e w3 ⟨rfl, hb⟩
    have B3 := Lib.hid (B2.out.trans (hb.mono B2.out.size))
    clear hb
    go_wp2_with fail
    go_fit (PR.out _)
    rintro e w4 ⟨rfl, rfl⟩
    go_wp2_with fail
    go_fit (TR.out _)
    rintro e w5 ⟨rfl, rfl⟩
    go_wp2_with fail
    go_fit (T2.out _ (HT.out.below B3.out))
    rintro e w6 ⟨rfl, hb⟩
    have B4 := Lib.hid (B3.out.trans (hb.mono B3.out.size))
    clear hb
    go_wp2_with fail
    go_fit (lives3_any _ (HT.out.below B4.out))
    rintro e w7 ⟨rfl, hb⟩
    have B5 := Lib.hid (B4.out.trans (hb.mono B4.out.size))
    clear hb
    go_wp2_with fail
    go_ret
    exact ⟨rfl, B5.out⟩
  · obtain ⟨h1, h2⟩ := h
    rw [h1, h2] at PS PR
    rw [show ((0 : Nat) : Int) = 0 from rfl, show ((5 : Nat) : Int) = 5 from rfl] at PS PR
    clear hn hs h1 h2
    go_enter Tryd.func7, Tryd.ntmps7
    go_wp2_with fail
    go_fit (T.out _ HT.out)
    rintro e w1 ⟨rfl, hb⟩
    have B1 := Lib.hid hb
    clear hb
    go_wp2_with fail
    go_fit (P.out _ (HT.out.below B1.out))
    rintro e w2 ⟨rfl, hb⟩
    have B2 := Lib.hid (B1.out.trans (hb.mono B1.out.size))
    clear hb
    go_wp2_with fail
    go_fit (PS.out _ (HT.out.below B2.out))
    rintro e w3 ⟨rfl, hb⟩
    have B3 := Lib.hid (B2.out.trans (hb.mono B2.out.size))
    clear hb
    go_wp2_with fail
    go_fit (PR.out _)
    rintro e w4 ⟨rfl, rfl⟩
    go_wp2_with fail
    go_fit (TR.out _)
    rintro e w5 ⟨rfl, rfl⟩
    go_wp2_with fail
    go_fit (lives3_any _ (HT.out.below B3.out))
    rintro e w7 ⟨rfl, hb⟩
    have B5 := Lib.hid (B3.out.trans (hb.mono B3.out.size))
    clear hb
    go_wp2_with fail
    go_ret
    exact ⟨rfl, B5.out⟩

set_option maxRecDepth 100000 in
theorem lifted (os : Os) (started : os.Started) (H : Type) (enc : TypeId × Value → H) :
    ReturnsInHanded {} Tryd.checked os 7 .any (fun w args => (Rows.digestTextsSpec.pre enc Tryd.prog Tryd.f7 Rows.digestTextsRow.domain false w args ∧ laidMetH Tryd.prog laid3 w) ∧ sizedMet enc Tryd.prog Tryd.f7 (OpenSpec.ofChange Rows.digestTextsSpec) false w args) (Rows.digestTextsSpec.post enc Tryd.prog Tryd.f7 false true false false) := by
  refine returnsInHanded_of_change_and (C := Tryd.checked) (X := fun w _ => laidMetH Tryd.prog laid3 w) (fun _ _ _ hh h => h.of_heap hh) own started (by kernel_rfl) Tryd.func7
    (ChangeSpec.witness_shaped (enc := enc) (C := Tryd.checked) (os := os) (X := fun w _ => laidMetH Tryd.prog laid3 w) false (World.doorLaid Tryd.prog 400 os) #[.int .u64 0, .string ⟨#[]⟩] 8 rfl (World.shaped_of_RefB (by kernel_rfl) (by kernel_rfl)) (by kernel_rfl) (by kernel_rfl) (by kernel_rfl) (door_met os _)) ?_
  intro W base args ds gs before hval0 hW hcnd hsz hL _
  have hval : ∀ (j : Nat) t v, Tryd.f7.params[j]? = some t → args[j]? = some v → Value.okWide Tryd.prog W .any base t v := hval0
  have hW' := hW
  obtain ⟨p, q, hA0, hV, rfl, hfz, hnd⟩ := hW
  have hA : DataW.TrodAll enc Tryd.prog W 0 (fun _ => true) true Tryd.f7.params.toList args.toList ds p := hA0
  rw [Tryd.params7] at hA hval hsz
  obtain ⟨v0, vs0, d0, ds0, p0, q0, hargs, rfl, rfl, h0, r0⟩ := trodAll_cons hA
  obtain ⟨v1, vs1, d1, ds1, p1, q1, rfl, rfl, rfl, h1, r1⟩ := trodAll_cons r0
  obtain ⟨rfl, rfl, rfl⟩ := trodAll_nil r1
  obtain rfl : args = #[v0, v1] := by cases args; simp_all
  obtain ⟨rfl, rfl⟩ := trodVars_none hV
  obtain ⟨a0, rfl, rfl, rfl, w0⟩ := open_int Tryd.underlying28 (hval 0 28 v0 rfl rfl) h0
  obtain ⟨a1, rfl, rfl, rfl, w1⟩ := open_string Tryd.underlying9 (hval 1 9 v1 rfl rfl) h1
  have z1 : a1.size ≤ 140737488355327 := by
    have h := sized_string hsz (j := 1) (t := 9) rfl rfl
    rw [Array.length_toList] at h
    exact Nat.le_trans h (by decide)
  clear hA0 hval0
  refine (walk a0 a1 w0 z1 W (tabs_of hL) ).mono fun e W' ⟨he, bel⟩ => ?_
  subst he
  exact ⟨_, rfl, _, _, _, [], _, [], hW', trodAll_mk1 (shut_bool Tryd.underlying4 _), (trodAll_cons_mk (shut_int Tryd.underlying28 w0) (trodAll_cons_mk (shut_string Tryd.underlying9 w1) trodAll_mk0)), rfl, bel.frame _, fun h => by cases h⟩

theorem over : Rows.digestTextsRow.holds Tryd.pinned (OpenSpec.ofChange Rows.digestTextsSpec) :=
  OpenClaim.holds_of_wide 7 Tryd.f7 rfl rfl rfl rfl rfl rfl rfl ⟨rfl, rfl, rfl, rfl, rfl⟩ rfl rfl rfl rfl rfl (by kernel_rfl) Tryd.func7 (by kernel_rfl)
    (of_decide_eq_true (by kernel_rfl)) (by unfold Func.isWrapper; first | (rw [if_pos (by decide +kernel)]; kernel_rfl) | (rw [if_neg (by decide +kernel)]; exact ⟨rfl, rfl⟩))
    (fun os started H enc _ => lifted os started H enc)

/-- THE STATEMENT. -/
theorem proved : Rows.DigestTextsCardSaid :=
  Claim7.holds_tied_plain_at .later [] [.data, .data, .data, .sentinel, .sentinel] true Rows.digestTextsCard.stood.harness true
    over (fun _ h => by cases h) (by kernel_rfl) (fun _ h => by cases h) digestTexts_row_tie rfl ⟨rfl, rfl⟩ (by kernel_rfl) rfl
    (fun f fn hf hfn => by
      obtain rfl : f = 7 := Option.some.inj ((show Tryd.prog.funcNamed "pipeline/pipelinelaw03.DigestTexts" = some 7 by kernel_rfl).symm.trans hf) |>.symm
      obtain rfl : fn = Tryd.f7 := (Option.some.inj (Tryd.func7.symm.trans hfn)).symm
      exact ⟨by kernel_rfl, fun j t ht => by
        rw [Tryd.params7] at ht
        have hm : t ∈ [28, 9] := by simpa using Array.mem_of_getElem? ht
        have hall : ([28, 9].all fun u => !Tryd.prog.wantsStandIn u) = true := by kernel_rfl
        exact (show Tryd.prog.wantsStandIn t = false by simpa using List.all_eq_true.1 hall t hm)⟩)
    (by kernel_rfl)
#print axioms proved
end Go.Proofs.YtoehpoodfbgdiaaDoor.digestTexts
