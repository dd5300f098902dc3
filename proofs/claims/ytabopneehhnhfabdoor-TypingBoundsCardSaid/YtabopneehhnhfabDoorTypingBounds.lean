/- Sub, Join and Meet return what the document gives. -/
import Derived.Test.YtabopneehhnhfabDoorTie
import Derived.Test.YtabopneehhnhfabDoorCards
import Derived.Test.YtabopneehhnhfabDoorTypTab
import Derived.Test.YtabopneehhnhfabDoorTypWalk
import Derived.Test.YtabopneehhnhfabDoorOpT
import Derived.Test.YtabopneehhnhfabDoorTypW
import Derived.ProofKit
import Derived.OpenShut
import Derived.LaidMore
import Derived.Stop.Joined
import Derived.SevenTiedAt
import Derived.SizedLaws
namespace Go.Proofs.YtabopneehhnhfabDoor.typingBounds
open Go.ChangeShapes Go.WideShapes Go.ChangeAt Go.RowKit
set_option linter.unusedVariables false

theorem own : ownKnob Tryd.prog.godebug = none := by kernel_rfl
theorem laidOut : laidOutB Tryd.prog = true := by kernel_rfl

theorem sameR (t : Tc) (A B : Value) (w : World) (hA : IsC w A t) (hB : IsC w B t) :
    Calls Tryd.prog 15 #[A, B] w fun e w' => e = .returned (.bool true) ∧ Below w.heap.size w w' := by
  have M := sameT_any t t A B w hA hB
  rw [sameC_rfl] at M
  exact M
set_option maxHeartbeats 8000000 in
set_option maxRecDepth 100000 in
theorem walk (mA : Nat) (A : Value) (x : Ty) (mB : Nat) (B : Value) (y : Ty) (w : World) (hT : TabT w) (hA : IsT mA w A x) (hB : IsT mB w B y) :
    Calls Tryd.prog 5 #[A, B] w fun e w' => e = .returned (.bool true) ∧ Below w.heap.size w w' := by
  have HA := hA
  have HB := hB
  obtain ⟨k, l, av, c, rfl, rfl, _⟩ := hA
  obtain ⟨k2, l2, av2, c2, rfl, rfl, _⟩ := hB
  have SX := Lib.hid (fun w' (h : S4 w k (.slice av l.length c) k2 (.slice av2 l2.length c2) w') => Sub_any mA mB _ _ _ _ w' (HA.below h.2.2.2.2) (HB.below h.2.2.2.2))
  have SY := Lib.hid (fun w' (h : S4 w k (.slice av l.length c) k2 (.slice av2 l2.length c2) w') => rSub_any mA mB _ _ _ _ w' (HA.below h.2.2.2.2) (HB.below h.2.2.2.2))
  have JX := Lib.hid (fun w' (h : S4 w k (.slice av l.length c) k2 (.slice av2 l2.length c2) w') => Join_any mA mB _ _ _ _ w' (HA.below h.2.2.2.2) (HB.below h.2.2.2.2))
  have JY := Lib.hid (fun w' (h : S4 w k (.slice av l.length c) k2 (.slice av2 l2.length c2) w') => rJoin_any mA mB _ _ _ _ w' (HA.below h.2.2.2.2) (HB.below h.2.2.2.2))
  have MX := Lib.hid (fun w' (h : S4 w k (.slice av l.length c) k2 (.slice av2 l2.length c2) w') => Meet_any mA mB _ _ _ _ w' (HA.below h.2.2.2.2) (HB.below h.2.2.2.2))
  have MY := Lib.hid (fun w' (h : S4 w k (.slice av l.length c) k2 (.slice av2 l2.length c2) w') => rMeet_any mA mB _ _ _ _ w' (HA.below h.2.2.2.2) (HB.below h.2.2.2.2))
  have AW := Lib.hid (fun w' (h : S4 w k (.slice av l.length c) k2 (.slice av2 l2.length c2) w') => awake_any w' (hT.below h.2.2.2.2))
  have SM := Lib.hid (fun t V V' w' hV hV' => sameR t V V' w' hV hV')
  generalize bndT 7 0 (Ty.mk k l) (Ty.mk k2 l2) = T at *
  generalize bndT 0 7 (Ty.mk k l) (Ty.mk k2 l2) = U at *
  generalize subT (Ty.mk k l) (Ty.mk k2 l2) = r at *
  have e1 : (r == r) = true := beq_self_eq_true _
  have hs0 := S4.new w k (.slice av l.length c) k2 (.slice av2 l2.length c2)
  clear hT HA HB
  go_enter Tryd.func5, Tryd.ntmps5
  go_wp2_with fail
  obtain ⟨W0, hW0⟩ : ∃ W0, W0 = (w.alloc (.cells #[.int .i64 k, .slice av l.length c] 24)).alloc (.cells #[.int .i64 k2, .slice av2 l2.length c2] 24) := ⟨_, rfl⟩
  rw [← hW0] at hs0 ⊢
  clear hW0
  go_region_held3 (fun w' => w'.cell? ⟨w.heap.size, 0, none⟩ = some (.int .i64 k) ∧ w'.cell? ⟨w.heap.size, 1, none⟩ = some (.slice av l.length c) ∧ w'.cell? ⟨w.heap.size + 1, 0, none⟩ = some (.int .i64 k2) ∧ w'.cell? ⟨w.heap.size + 1, 1, none⟩ = some (.slice av2 l2.length c2) ∧ Below w.heap.size w w') (first | exact S4.drew hs0 | exact S4.below (by assumption) (by assumption)) (first
    | (go_at_call 19; go_fit (SX.out _ (by assumption)); rintro e w1 ⟨rfl, hb1⟩)
    | (go_at_call 20; go_fit (SY.out _ (by assumption)); rintro e w2 ⟨rfl, hb2⟩)
    | (go_at_call 21; go_fit (JX.out _ (by assumption)); rintro e w3 ⟨V3, rfl, hV3, hb3⟩; have HV3 := Lib.hid hV3; obtain ⟨va3, vc3, rfl, _⟩ := hV3)
    | (go_at_call 22; go_fit (JY.out _ (by assumption)); rintro e w4 ⟨V4, rfl, hV4, hb4⟩; have HV4 := Lib.hid hV4; obtain ⟨va4, vc4, rfl, _⟩ := hV4)
    | (go_at_call 15; go_fit (SM.out T _ _ _ (HV3.out.below hb4) HV4.out); rintro e w5 ⟨rfl, hb5⟩)
    | (go_at_call 23; go_fit (MX.out _ (by assumption)); rintro e w6 ⟨V6, rfl, hV6, hb6⟩; have HV6 := Lib.hid hV6; obtain ⟨va6, vc6, rfl, _⟩ := hV6)
    | (go_at_call 24; go_fit (MY.out _ (by assumption)); rintro e w7 ⟨V7, rfl, hV7, hb7⟩; have HV7 := Lib.hid hV7; obtain ⟨va7, vc7, rfl, _⟩ := hV7)
    | (go_at_call 15; go_fit (SM.out U _ _ _ (HV6.out.below hb7) HV7.out); rintro e w8 ⟨rfl, hb8⟩)
    | (go_at_call 13; go_fit (AW.out _ (by assumption)); rintro e w9 ⟨rfl, hb9⟩))
  all_goals
    have hfin : S4 w k (.slice av l.length c) k2 (.slice av2 l2.length c2) w9 := by assumption
    go_wp2_with fail
    go_ret
    exact ⟨rfl, hfin.2.2.2.2⟩

set_option maxRecDepth 100000 in
theorem lifted (os : Os) (started : os.Started) (H : Type) (enc : TypeId × Value → H) :
    ReturnsInHanded {} Tryd.checked os 5 .any (fun w args => (Rows.typingBoundsSpec.pre enc Tryd.prog Tryd.f5 Rows.typingBoundsRow.domain false w args ∧ laidMetH Tryd.prog laid8 w) ∧ sizedMet enc Tryd.prog Tryd.f5 (OpenSpec.ofChange Rows.typingBoundsSpec) false w args) (Rows.typingBoundsSpec.post enc Tryd.prog Tryd.f5 false true false false) := by
  refine returnsInHanded_of_change_and (C := Tryd.checked) (X := fun w _ => laidMetH Tryd.prog laid8 w) (fun _ _ _ hh h => h.of_heap hh) own started (by kernel_rfl) Tryd.func5
    (ChangeSpec.witness_shaped (enc := enc) (C := Tryd.checked) (os := os) (X := fun w _ => laidMetH Tryd.prog laid8 w) false (World.laidAll Tryd.prog os laid8) #[.agg #[.int .i64 0, .slice none 0 0], .agg #[.int .i64 0, .slice none 0 0]] 8 (World.laidAll_os _ _ _) (World.shaped_of_ZipB (by kernel_rfl) (by kernel_rfl)) (by kernel_rfl) (by kernel_rfl) (by kernel_rfl) (lay8_met os _)) ?_
  intro W base args ds gs before hval0 hW hcnd hsz hL _
  have hval : ∀ (j : Nat) t v, Tryd.f5.params[j]? = some t → args[j]? = some v → Value.okWide Tryd.prog W .any base t v := hval0
  have hW' := hW
  obtain ⟨p, q, hA0, hV, rfl, hfz, hnd⟩ := hW
  have hA : DataW.TrodAll enc Tryd.prog W 0 (fun _ => true) true Tryd.f5.params.toList args.toList ds p := hA0
  rw [Tryd.params5] at hA hval hsz
  obtain ⟨v0, vs0, d0, ds0, p0, q0, hargs, rfl, rfl, h0, r0⟩ := trodAll_cons hA
  obtain ⟨v1, vs1, d1, ds1, p1, q1, rfl, rfl, rfl, h1, r1⟩ := trodAll_cons r0
  obtain ⟨rfl, rfl, rfl⟩ := trodAll_nil r1
  obtain rfl : args = #[v0, v1] := by cases args; simp_all
  obtain ⟨rfl, rfl⟩ := trodVars_none hV
  have k0 := h0
  have lt0 : ∀ x ∈ p0, x.block < W.heap.size := by obtain ⟨m, hm⟩ := k0; exact DataW.trod_lt m _ _ _ hm
  obtain ⟨m0, y0, hr0⟩ := open_type (hval 0 24 v0 rfl rfl) h0
  have k1 := h1
  have lt1 : ∀ x ∈ p1, x.block < W.heap.size := by obtain ⟨m, hm⟩ := k1; exact DataW.trod_lt m _ _ _ hm
  obtain ⟨m1, y1, hr1⟩ := open_type (hval 1 24 v1 rfl rfl) h1
  clear hA0 hval0
  refine (walk m0 v0 y0 m1 v1 y1  W (tab8_of hL) hr0 hr1).mono fun e W' ⟨he, bel⟩ => ?_
  subst he
  exact ⟨_, rfl, _, _, _, [], _, [], hW', trodAll_mk1 (shut_bool Tryd.underlying4 _), (trodAll_cons_mk (Below.trod laidOut (by kernel_rfl) (of_decide_eq_true (by kernel_rfl)) k0 bel lt0) (trodAll_cons_mk (Below.trod laidOut (by kernel_rfl) (of_decide_eq_true (by kernel_rfl)) k1 bel lt1) trodAll_mk0)), rfl, bel.frame _, fun h => by cases h⟩

theorem over : Rows.typingBoundsRow.holds Tryd.pinned (OpenSpec.ofChange Rows.typingBoundsSpec) :=
  OpenClaim.holds_of_wide 5 Tryd.f5 rfl rfl rfl rfl rfl rfl rfl ⟨rfl, rfl, rfl, rfl, rfl⟩ rfl rfl rfl rfl rfl (by kernel_rfl) Tryd.func5 (by kernel_rfl)
    (of_decide_eq_true (by kernel_rfl)) (by unfold Func.isWrapper; first | (rw [if_pos (by decide +kernel)]; kernel_rfl) | (rw [if_neg (by decide +kernel)]; exact ⟨rfl, rfl⟩))
    (fun os started H enc _ => lifted os started H enc)

/-- THE STATEMENT. -/
theorem proved : Rows.TypingBoundsCardSaid :=
  Claim7.holds_tied_plain_at .later [] [.data, .data, .data, .pinned] true Rows.typingBoundsCard.stood.harness false
    over (fun _ h => by cases h) (by kernel_rfl) (fun _ h => by cases h) typingBounds_row_tie rfl ⟨rfl, rfl⟩ (by kernel_rfl) rfl
    (fun f fn hf hfn => by
      obtain rfl : f = 5 := Option.some.inj ((show Tryd.prog.funcNamed "pipeline/pipelinelaw08.TypingBounds" = some 5 by kernel_rfl).symm.trans hf) |>.symm
      obtain rfl : fn = Tryd.f5 := (Option.some.inj (Tryd.func5.symm.trans hfn)).symm
      exact ⟨by kernel_rfl, fun j t ht => by
        rw [Tryd.params5] at ht
        have hm : t ∈ [24, 24] := by simpa using Array.mem_of_getElem? ht
        have hall : ([24, 24].all fun u => !Tryd.prog.wantsStandIn u) = true := by kernel_rfl
        exact (show Tryd.prog.wantsStandIn t = false by simpa using List.all_eq_true.1 hall t hm)⟩)
    (by kernel_rfl)
#print axioms proved
end Go.Proofs.YtabopneehhnhfabDoor.typingBounds
