/- The tokens of a source are those of its tokens joined. -/
import Derived.Test.YtoliiiijbdoliaaDoorTie
import Derived.Test.YtoliiiijbdoliaaDoorCards
import Derived.Test.YtoliiiijbdoliaaDoorLexTab
import Derived.Test.YtoliiiijbdoliaaDoorLexV
import Derived.Test.YtoliiiijbdoliaaDoorLexX
import Derived.ProofKit
import Derived.OpenShut
import Derived.LaidMore
import Derived.Stop.Joined
import Derived.SevenTiedAt
import Derived.SizedLaws
namespace Go.Proofs.YtoliiiijbdoliaaDoor.lexerBack
open Go.ChangeShapes Go.WideShapes Go.ChangeAt Go.RowKit
open Go.ChangeMaps (open_string shut_string)
set_option linter.unusedVariables false

theorem own : ownKnob Tryd.prog.godebug = none := by kernel_rfl
theorem laidOut : laidOutB Tryd.prog = true := by kernel_rfl

set_option maxHeartbeats 4000000 in
set_option maxRecDepth 100000 in
theorem walk (s : ByteArray) (ha : s.size ≤ 140737488355327) (w : World) (hT : TabL w) :
    Calls Tryd.prog 4 #[.string s] w fun e w' => e = .returned (.bool true) ∧ Below w.heap.size w w' := by
  have HT := Lib.hid hT
  clear hT ha
  rcases tokens_all s with ⟨p, er, hq, -, TL⟩ | ⟨T, hs, hT1, TL⟩
  · obtain ⟨q1, q2⟩ := hq
    have TL := Lib.hid TL
    go_enter Tryd.func4, Tryd.ntmps4
    go_wp2_with fail
    go_fit (TL.out _ HT.out)
    rintro e w1 ⟨rfl, hb⟩
    have B1 := Lib.hid hb
    clear hb
    go_wp2_with fail
    go_fit (awake_any _ (HT.out.below B1.out))
    rintro e w2 ⟨rfl, hb⟩
    have B2 := Lib.hid (B1.out.trans (hb.mono B1.out.size))
    clear hb
    go_wp2_with fail
    go_ret
    exact ⟨rfl, B2.out⟩
  · have hsz := lexF_size hT1
    have hls : s.data.toList.length = s.size := lenB s
    have hwf := lexF_wf _ _ _ _ _ _ (Nat.le_refl _) hT1
    obtain ⟨U, hU, hkt⟩ := join_back T 0 false hwf false 0
    have hjk := joinP_kt U T false hkt
    have hUl : U.length = T.length := by have := congrArg List.length hkt; simpa using this
    have hUt : ∀ t, t ∈ U → t.text.length ≤ 69632 := by
      intro t ht
      have h1 : kt t ∈ U.map kt := List.mem_map_of_mem ht
      rw [hkt] at h1
      obtain ⟨u, hu, e⟩ := List.mem_map.1 h1
      have h2 := hsz.2 u hu
      have h3 : u.text = t.text := congrArg Prod.snd e
      rw [← h3]
      omega
    have hTl : T.length ≤ 65536 := by have := hsz.1; omega
    have TL := Lib.hid TL
    have JN := Lib.hid (fun a c w hr => joinT_any a c T 69632 hTl (fun t ht => by have := hsz.2 t ht; omega) (by omega) w hr)
    have JU := (fun a c w hr => joinT_any a c U 69632 (by omega) hUt (by omega) w hr)
    rw [hjk, hUl] at JU
    have JU := Lib.hid JU
    have SM := (fun a b ca cb w ha hb => sameT_any false T U hUl (agree_kt hkt) a b ca cb (by omega) w ha hb)
    rw [hUl] at SM
    have SM := Lib.hid SM
    have hTI : (T.length : Int) ≤ 65536 := by omega
    obtain ⟨q, hq⟩ : ∃ q : ByteArray, q = ⟨(joinP false T).toArray⟩ := ⟨_, rfl⟩
    have hqd : q.data.toList = joinP false T := by rw [hq]
    rw [← hqd] at hU
    rw [← hq] at JN JU
    have hqq : (q.toList == q.toList) = true := beq_self_eq_true _
    clear hsz hls hwf hkt hjk hUt hqd hT1 hs
    by_cases hlong : (65536 : Int) < (q.size : Int)
    · clear JU SM hU hq hUl
      go_enter Tryd.func4, Tryd.ntmps4
      go_wp2_with fail
      go_fit (TL.out _ HT.out)
      rintro e w1 ⟨⟨a1, n1, rfl, hr1⟩, hb⟩
      have B1 := Lib.hid hb
      have R1 := Lib.hid hr1
      clear hb hr1
      go_wp2_with fail
      go_fit (JN.out a1 n1 _ R1.out)
      rintro e w2 ⟨rfl, hb⟩
      have B2 := Lib.hid (B1.out.trans (hb.mono B1.out.size))
      clear hb
      go_wp2_with fail
      go_fit (awake_any _ (HT.out.below B2.out))
      rintro e w3 ⟨rfl, hb⟩
      have B3 := Lib.hid (B2.out.trans (hb.mono B2.out.size))
      clear hb
      go_wp2_with fail
      go_ret
      exact ⟨rfl, B3.out⟩
    · have TU := (fun w hT => tokens_ok q (by omega) hU w hT)
      rw [hUl] at TU
      have TU := Lib.hid TU
      clear hU hq hUl
      go_enter Tryd.func4, Tryd.ntmps4
      go_wp2_with fail
      go_fit (TL.out _ HT.out)
      rintro e w1 ⟨⟨a1, n1, rfl, hr1⟩, hb⟩
      have B1 := Lib.hid hb
      have R1 := Lib.hid hr1
      clear hb hr1
      go_wp2_with fail
      go_fit (JN.out a1 n1 _ R1.out)
      rintro e w2 ⟨rfl, hb⟩
      have B2 := Lib.hid (B1.out.trans (hb.mono B1.out.size))
      have R2 := Lib.hid (R1.out.below hb)
      clear hb
      go_wp2_with fail
      go_fit (TU.out _ (HT.out.below B2.out))
      rintro e w3 ⟨⟨a3, n3, rfl, hr3⟩, hb⟩
      have B3 := Lib.hid (B2.out.trans (hb.mono B2.out.size))
      have R3 := Lib.hid (R2.out.below hb)
      have M3 := Lib.hid hr3
      clear hb hr3
      go_wp2_with fail
      go_fit (SM.out a1 a3 n1 n3 _ R3.out M3.out)
      rintro e w4 ⟨rfl, hb⟩
      have B4 := Lib.hid (B3.out.trans (hb.mono B3.out.size))
      have M4 := Lib.hid (M3.out.below hb)
      clear hb
      go_wp2_with fail
      go_fit (JU.out a3 n3 _ M4.out)
      rintro e w5 ⟨rfl, hb⟩
      have B5 := Lib.hid (B4.out.trans (hb.mono B4.out.size))
      clear hb
      go_wp2_with fail
      go_fit (awake_any _ (HT.out.below B5.out))
      rintro e w6 ⟨rfl, hb⟩
      have B6 := Lib.hid (B5.out.trans (hb.mono B5.out.size))
      clear hb
      go_wp2_with fail
      go_ret
      exact ⟨rfl, B6.out⟩

set_option maxRecDepth 100000 in
theorem lifted (os : Os) (started : os.Started) (H : Type) (enc : TypeId × Value → H) :
    ReturnsInHanded {} Tryd.checked os 4 .any (fun w args => (Rows.lexerBackSpec.pre enc Tryd.prog Tryd.f4 Rows.lexerBackRow.domain false w args ∧ laidMetH Tryd.prog laid9 w) ∧ sizedMet enc Tryd.prog Tryd.f4 (OpenSpec.ofChange Rows.lexerBackSpec) false w args) (Rows.lexerBackSpec.post enc Tryd.prog Tryd.f4 false true false false) := by
  refine returnsInHanded_of_change_andShaped (C := Tryd.checked) (X := fun w _ => laidMetH Tryd.prog laid9 w) (fun _ _ _ hh h => h.of_heap hh) own started (by kernel_rfl) Tryd.func4
    (ChangeSpec.witness_shaped (enc := enc) (C := Tryd.checked) (os := os) (X := fun w _ => laidMetH Tryd.prog laid9 w) false (World.laidAll Tryd.prog os laid9) #[.string ⟨#[]⟩] 8 (World.laidAll_os _ _ _) (World.shaped_of_ZipB (by kernel_rfl) (by kernel_rfl)) (by kernel_rfl) (by kernel_rfl) (by kernel_rfl) (lay9_met os _)) ?_
  intro W base args ds gs before hval0 hW hcnd hsz hL hsh _
  have hval : ∀ (j : Nat) t v, Tryd.f4.params[j]? = some t → args[j]? = some v → Value.okWide Tryd.prog W .any base t v := hval0
  have hW' := hW
  obtain ⟨p, q, hA0, hV, rfl, hfz, hnd⟩ := hW
  have hA : DataW.TrodAll enc Tryd.prog W 0 (fun _ => true) true Tryd.f4.params.toList args.toList ds p := hA0
  rw [Tryd.params4] at hA hval hsz
  obtain ⟨v0, vs0, d0, ds0, p0, q0, hargs, rfl, rfl, h0, r0⟩ := trodAll_cons hA
  obtain ⟨rfl, rfl, rfl⟩ := trodAll_nil r0
  obtain rfl : args = #[v0] := by cases args; simp_all
  obtain ⟨rfl, rfl⟩ := trodVars_none hV
  obtain ⟨a0, rfl, rfl, rfl, w0⟩ := open_string Tryd.underlying9 (hval 0 9 v0 rfl rfl) h0
  have z0 : a0.size ≤ 140737488355327 := by
    have h := sized_string hsz (j := 0) (t := 9) rfl rfl
    rw [Array.length_toList] at h
    exact Nat.le_trans h (by decide)
  clear hA0 hval0
  refine (walk a0 z0 W (tab9_of hL hsh) ).mono fun e W' ⟨he, bel⟩ => ?_
  subst he
  exact ⟨_, rfl, _, _, _, [], _, [], hW', trodAll_mk1 (shut_bool Tryd.underlying4 _), (trodAll_cons_mk (shut_string Tryd.underlying9 w0) trodAll_mk0), rfl, bel.frame _, fun h => by cases h⟩

theorem over : Rows.lexerBackRow.holds Tryd.pinned (OpenSpec.ofChange Rows.lexerBackSpec) :=
  OpenClaim.holds_of_wide 4 Tryd.f4 rfl rfl rfl rfl rfl rfl rfl ⟨rfl, rfl, rfl, rfl, rfl⟩ rfl rfl rfl rfl rfl (by kernel_rfl) Tryd.func4 (by kernel_rfl)
    (of_decide_eq_true (by kernel_rfl)) (by unfold Func.isWrapper; first | (rw [if_pos (by decide +kernel)]; kernel_rfl) | (rw [if_neg (by decide +kernel)]; exact ⟨rfl, rfl⟩))
    (fun os started H enc _ => lifted os started H enc)

/-- THE STATEMENT. -/
theorem proved : Rows.LexerBackCardSaid :=
  Claim7.holds_tied_plain_at .later [] [.data, .data, .data, .data, .sentinel, .sentinel, .data, .pinned] true Rows.lexerBackCard.stood.harness true
    over (fun _ h => by cases h) (by kernel_rfl) (fun _ h => by cases h) lexerBack_row_tie rfl ⟨rfl, rfl⟩ (by kernel_rfl) rfl
    (fun f fn hf hfn => by
      obtain rfl : f = 4 := Option.some.inj ((show Tryd.prog.funcNamed "pipeline/pipelinelaw09.LexerBack" = some 4 by kernel_rfl).symm.trans hf) |>.symm
      obtain rfl : fn = Tryd.f4 := (Option.some.inj (Tryd.func4.symm.trans hfn)).symm
      exact ⟨by kernel_rfl, fun j t ht => by
        rw [Tryd.params4] at ht
        have hm : t ∈ [9] := by simpa using Array.mem_of_getElem? ht
        have hall : ([9].all fun u => !Tryd.prog.wantsStandIn u) = true := by kernel_rfl
        exact (show Tryd.prog.wantsStandIn t = false by simpa using List.all_eq_true.1 hall t hm)⟩)
    (by kernel_rfl)
#print axioms proved
end Go.Proofs.YtoliiiijbdoliaaDoor.lexerBack
