/- Tokens returns the specified tokens, or error and index, for every source. -/
import Derived.Test.YtoliiiijbdoliaaGreatDoorTie
import Derived.Test.YtoliiiijbdoliaaGreatDoorCards
import Derived.Test.YtoliiiijbdoliaaGreatDoorLexTab
import Derived.Test.YtoliiiijbdoliaaGreatDoorLexV
import Derived.Test.YtoliiiijbdoliaaGreatDoorLexX
import Derived.Test.YtoliiiijbdoliaaGreatDoorRlxI
import Derived.ProofKit
import Derived.OpenShut
import Derived.LaidMore
import Derived.Stop.Joined
import Derived.SevenTiedAt
import Derived.SizedLaws
namespace Go.Proofs.YtoliiiijbdoliaaGreatDoor.lexerTokens
open Go.ChangeShapes Go.WideShapes Go.ChangeAt Go.RowKit
open Go.ChangeMaps (open_string shut_string)
set_option linter.unusedVariables false

theorem own : ownKnob Tryz.prog.godebug = none := by kernel_rfl
theorem laidOut : laidOutB Tryz.prog = true := by kernel_rfl

set_option maxHeartbeats 4000000 in
set_option maxRecDepth 100000 in
theorem walk (s : ByteArray) (ha : s.size ≤ 140737488355327) (w : World) (hT : TabL w) :
    Calls Tryz.prog 3 #[.string s] w fun e w' => e = .returned (.bool true) ∧ Below w.heap.size w w' := by
  have HT := Lib.hid hT
  clear hT
  by_cases hbig : (70000 : Int) < (s.size : Int)
  · clear ha
    go_enter Tryz.func3, Tryz.ntmps3
    go_wp2_with fail
    go_fit (awake_any _ HT.out)
    rintro e w1 ⟨rfl, hb⟩
    have B1 := Lib.hid hb
    clear hb
    go_wp2_with fail
    go_ret
    exact ⟨rfl, B1.out⟩
  · have SN := Lib.hid (fun w => rSame_yes true [] [] (AgreeK.rfl _ _) none none 0 0 (by decide) w (fun j hj => absurd hj (Nat.not_lt_zero _)) (fun j hj => absurd hj (Nat.not_lt_zero _)))
    have hkk : ∀ p : Nat, ((p : Int) == (p : Int)) = true := fun p => beq_self_eq_true _
    have main : (∃ p er : Nat, (∀ w, TabL w → Calls Tryz.prog 5 #[.string s] w fun e w' => e = .returned (.tuple #[.slice none 0 0, .int .i64 (p : Nat), .int .i64 (er : Nat)]) ∧ Below w.heap.size w w') ∧ (∀ w, Calls Tryz.prog 6 #[.string s] w fun e w' => e = .returned (.tuple #[.slice none 0 0, .int .i64 (p : Nat), .int .i64 (er : Nat)]) ∧ Below w.heap.size w w')) ∨
        (∃ T : List Tk, T.length ≤ 65536 ∧ (∀ w, TabL w → Calls Tryz.prog 5 #[.string s] w fun e w' => (∃ a c, e = .returned (.tuple #[.slice a T.length c, .int .i64 0, .int .i64 0]) ∧ ReadsK w' a (T.map Tk.tm)) ∧ Below w.heap.size w w') ∧ (∀ w, Calls Tryz.prog 6 #[.string s] w fun e w' => (∃ a c, e = .returned (.tuple #[.slice a T.length c, .int .i64 0, .int .i64 0]) ∧ ReadsK w' a (T.map Tk.tm)) ∧ Below w.heap.size w w')) := by
      by_cases hs : s.size ≤ 65536
      · have h1 := fun w hT => Tokens_any s hs w hT hT.1
        have h2 := fun w => rTokens_any s hs w
        cases hR : lexF s.data.toList 0 0 false with
        | ok T =>
          rw [hR] at h1 h2
          have := (lexF_size hR).1
          rw [lenB] at this
          exact .inr ⟨T, by omega, h1, h2⟩
        | err p er =>
          rw [hR] at h1 h2
          exact .inl ⟨p, er, h1, h2⟩
      · exact .inl ⟨0, 3, fun w _ => Tokens_long s (by omega) w, fun w => (rTokens_long s (by omega) w).mono fun e w' h => ⟨h.1, by rw [h.2]; exact Below.refl _ _⟩⟩
    clear ha
    rcases main with ⟨p, er, TA, TB⟩ | ⟨T, hTl, TA, TB⟩
    · have TA := Lib.hid TA
      have TB := Lib.hid TB
      have k1 := hkk p
      have k2 := hkk er
      clear hkk
      go_enter Tryz.func3, Tryz.ntmps3
      go_wp2_with fail
      go_fit (TA.out _ HT.out)
      rintro e w1 ⟨rfl, hb⟩
      have B1 := Lib.hid hb
      clear hb
      go_wp2_with fail
      go_fit (TB.out _)
      rintro e w2 ⟨rfl, hb⟩
      have B2 := Lib.hid (B1.out.trans (hb.mono B1.out.size))
      clear hb
      go_wp2_with fail
      go_fit (SN.out _)
      rintro e w3 ⟨rfl, hb⟩
      have B3 := Lib.hid (B2.out.trans (hb.mono B2.out.size))
      clear hb
      go_wp2_with fail
      go_fit (awake_any _ (HT.out.below B3.out))
      rintro e w4 ⟨rfl, hb⟩
      have B4 := Lib.hid (B3.out.trans (hb.mono B3.out.size))
      clear hb
      go_wp2_with fail
      go_ret
      exact ⟨rfl, B4.out⟩
    · have TA := Lib.hid TA
      have TB := Lib.hid TB
      have SM := Lib.hid (fun a b ca cb w ha hb => sameT_any true T T rfl (AgreeK.rfl _ _) a b ca cb (by omega) w ha hb)
      have hTI : (T.length : Int) ≤ 65536 := by omega
      clear hkk hTl
      go_enter Tryz.func3, Tryz.ntmps3
      go_wp2_with fail
      go_fit (TA.out _ HT.out)
      rintro e w1 ⟨⟨a1, n1, rfl, hr⟩, hb⟩
      have B1 := Lib.hid hb
      have R1 := Lib.hid hr
      clear hb hr
      go_wp2_with fail
      go_fit (TB.out _)
      rintro e w2 ⟨⟨a2, n2, rfl, hr⟩, hb⟩
      have B2 := Lib.hid (B1.out.trans (hb.mono B1.out.size))
      have R2 := Lib.hid (R1.out.below hb)
      have M2 := Lib.hid hr
      clear hb hr
      go_wp2_with fail
      go_fit (SM.out a1 a2 n1 n2 _ R2.out M2.out)
      rintro e w3 ⟨rfl, hb⟩
      have B3 := Lib.hid (B2.out.trans (hb.mono B2.out.size))
      clear hb
      go_wp2_with fail
      go_fit (awake_any _ (HT.out.below B3.out))
      rintro e w4 ⟨rfl, hb⟩
      have B4 := Lib.hid (B3.out.trans (hb.mono B3.out.size))
      clear hb
      go_wp2_with fail
      go_ret
      exact ⟨rfl, B4.out⟩

set_option maxRecDepth 100000 in
theorem lifted (os : Os) (started : os.Started) (H : Type) (enc : TypeId × Value → H) :
    ReturnsInHanded {} Tryz.checked os 3 .any (fun w args => (Rows.lexerTokensSpec.pre enc Tryz.prog Tryz.f3 Rows.lexerTokensRow.domain false w args ∧ laidMetH Tryz.prog laid9 w) ∧ sizedMet enc Tryz.prog Tryz.f3 (OpenSpec.ofChange Rows.lexerTokensSpec) false w args) (Rows.lexerTokensSpec.post enc Tryz.prog Tryz.f3 false true false false) := by
  refine returnsInHanded_of_change_andShaped (C := Tryz.checked) (X := fun w _ => laidMetH Tryz.prog laid9 w) (fun _ _ _ hh h => h.of_heap hh) own started (by kernel_rfl) Tryz.func3
    (ChangeSpec.witness_shaped (enc := enc) (C := Tryz.checked) (os := os) (X := fun w _ => laidMetH Tryz.prog laid9 w) false (World.laidAll Tryz.prog os laid9) #[.string ⟨#[]⟩] 8 (World.laidAll_os _ _ _) (World.shaped_of_ZipB (by kernel_rfl) (by kernel_rfl)) (by kernel_rfl) (by kernel_rfl) (by kernel_rfl) (lay9_met os _)) ?_
  intro W base args ds gs before hval0 hW hcnd hsz hL hsh _
  have hval : ∀ (j : Nat) t v, Tryz.f3.params[j]? = some t → args[j]? = some v → Value.okWide Tryz.prog W .any base t v := hval0
  have hW' := hW
  obtain ⟨p, q, hA0, hV, rfl, hfz, hnd⟩ := hW
  have hA : DataW.TrodAll enc Tryz.prog W 0 (fun _ => true) true Tryz.f3.params.toList args.toList ds p := hA0
  rw [Tryz.params3] at hA hval hsz
  obtain ⟨v0, vs0, d0, ds0, p0, q0, hargs, rfl, rfl, h0, r0⟩ := trodAll_cons hA
  obtain ⟨rfl, rfl, rfl⟩ := trodAll_nil r0
  obtain rfl : args = #[v0] := by cases args; simp_all
  obtain ⟨rfl, rfl⟩ := trodVars_none hV
  obtain ⟨a0, rfl, rfl, rfl, w0⟩ := open_string Tryz.underlying9 (hval 0 9 v0 rfl rfl) h0
  have z0 : a0.size ≤ 140737488355327 := by
    have h := sized_string hsz (j := 0) (t := 9) rfl rfl
    rw [Array.length_toList] at h
    exact Nat.le_trans h (by decide)
  clear hA0 hval0
  refine (walk a0 z0 W (tab9_of hL hsh) ).mono fun e W' ⟨he, bel⟩ => ?_
  subst he
  exact ⟨_, rfl, _, _, _, [], _, [], hW', trodAll_mk1 (shut_bool Tryz.underlying4 _), (trodAll_cons_mk (shut_string Tryz.underlying9 w0) trodAll_mk0), rfl, bel.frame _, fun h => by cases h⟩

theorem over : Rows.lexerTokensRow.holds Tryz.pinned (OpenSpec.ofChange Rows.lexerTokensSpec) :=
  OpenClaim.holds_of_wide 3 Tryz.f3 rfl rfl rfl rfl rfl rfl rfl ⟨rfl, rfl, rfl, rfl, rfl⟩ rfl rfl rfl rfl rfl (by kernel_rfl) Tryz.func3 (by kernel_rfl)
    (of_decide_eq_true (by kernel_rfl)) (by unfold Func.isWrapper; first | (rw [if_pos (by decide +kernel)]; kernel_rfl) | (rw [if_neg (by decide +kernel)]; exact ⟨rfl, rfl⟩))
    (fun os started H enc _ => lifted os started H enc)

/-- THE STATEMENT. -/
theorem proved : Rows.LexerTokensCardSaid :=
  Claim7.holds_tied_plain_at .later [] [.data, .data, .data, .data, .sentinel, .sentinel, .data, .pinned] true Rows.lexerTokensCard.stood.harness true
    over (fun _ h => by cases h) (by kernel_rfl) (fun _ h => by cases h) lexerTokens_row_tie rfl ⟨rfl, rfl⟩ (by kernel_rfl) rfl
    (fun f fn hf hfn => by
      obtain rfl : f = 3 := Option.some.inj ((show Tryz.prog.funcNamed "pipeline/pipelinelaw09.LexerTokens" = some 3 by kernel_rfl).symm.trans hf) |>.symm
      obtain rfl : fn = Tryz.f3 := (Option.some.inj (Tryz.func3.symm.trans hfn)).symm
      exact ⟨by kernel_rfl, fun j t ht => by
        rw [Tryz.params3] at ht
        have hm : t ∈ [9] := by simpa using Array.mem_of_getElem? ht
        have hall : ([9].all fun u => !Tryz.prog.wantsStandIn u) = true := by kernel_rfl
        exact (show Tryz.prog.wantsStandIn t = false by simpa using List.all_eq_true.1 hall t hm)⟩)
    (by kernel_rfl)
#print axioms proved
end Go.Proofs.YtoliiiijbdoliaaGreatDoor.lexerTokens
