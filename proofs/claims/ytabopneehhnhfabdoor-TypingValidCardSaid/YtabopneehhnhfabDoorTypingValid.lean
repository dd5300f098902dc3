/- TypingValid: for every type, typing.Valid returns the error that the document gives it. No condition on the inputs. -/
import Derived.Test.YtabopneehhnhfabDoorTie
import Derived.Test.YtabopneehhnhfabDoorCards
import Derived.Test.YtabopneehhnhfabDoorTypTab
import Derived.Test.YtabopneehhnhfabDoorTypWalk
import Derived.Test.YtabopneehhnhfabDoorOpT
import Derived.ProofKit
import Derived.OpenShut
import Derived.LaidMore
import Derived.Stop.Joined
import Derived.SevenTiedAt
import Derived.SizedLaws
namespace Go.Proofs.YtabopneehhnhfabDoor.typingValid
open Go.ChangeShapes Go.WideShapes Go.ChangeAt Go.RowKit
set_option linter.unusedVariables false

theorem own : ownKnob Tryd.prog.godebug = none := by kernel_rfl
theorem laidOut : laidOutB Tryd.prog = true := by kernel_rfl

set_option maxHeartbeats 4000000 in
set_option maxRecDepth 100000 in
theorem walk (m : Nat) (V : Value) (x : Ty) (w : World) (hT : TabT w) (hV : IsT m w V x) :
    Calls Tryd.prog 3 #[V] w fun e w' => e = .returned (.bool true) ∧ Below w.heap.size w w' := by
  have HV := hV
  obtain ⟨k, l, av, c, rfl, rfl, _⟩ := hV
  have X := Lib.hid (fun w' (h : S2 w k (.slice av l.length c) w') => validT_any m _ _ w' (HV.below h.2.2))
  have Y := Lib.hid (fun w' (h : S2 w k (.slice av l.length c) w') => refValidT_any m _ _ w' (HV.below h.2.2))
  have AW := Lib.hid (fun w' (h : S2 w k (.slice av l.length c) w') => awake_any w' (hT.below h.2.2))
  generalize chkT 16 (Ty.mk k l) = ct at *
  have e1 : ((ct : Int) == (ct : Int)) = true := beq_self_eq_true _
  have hs0 := S2.new w k (.slice av l.length c)
  clear hT HV
  go_enter Tryd.func3, Tryd.ntmps3
  go_wp2_with fail
  obtain ⟨W0, hW0⟩ : ∃ W0, W0 = w.alloc (.cells #[.int .i64 k, .slice av l.length c] 24) := ⟨_, rfl⟩
  rw [← hW0] at hs0 ⊢
  clear hW0
  go_region_held3 (fun w' => w'.cell? ⟨w.heap.size, 0, none⟩ = some (.int .i64 k) ∧ w'.cell? ⟨w.heap.size, 1, none⟩ = some (.slice av l.length c) ∧ Below w.heap.size w w') (first | exact S2.drew hs0 | exact S2.below (by assumption) (by assumption)) (first
    | (go_at_call 11; go_fit (X.out _ (by assumption)); rintro e w1 ⟨rfl, hb1⟩)
    | (go_at_call 12; go_fit (Y.out _ (by assumption)); rintro e w2 ⟨rfl, hb2⟩)
    | (go_at_call 13; go_fit (AW.out _ (by assumption)); rintro e w3 ⟨rfl, hb3⟩))
  all_goals
    have hfin : S2 w k (.slice av l.length c) w3 := by assumption
    go_wp2_with fail
    go_ret
    exact ⟨rfl, hfin.2.2⟩


set_option maxRecDepth 100000 in
theorem lifted (os : Os) (started : os.Started) (H : Type) (enc : TypeId × Value → H) :
    ReturnsInHanded {} Tryd.checked os 3 .any (fun w args => (Rows.typingValidSpec.pre enc Tryd.prog Tryd.f3 Rows.typingValidRow.domain false w args ∧ laidMetH Tryd.prog laid8 w) ∧ sizedMet enc Tryd.prog Tryd.f3 (OpenSpec.ofChange Rows.typingValidSpec) false w args) (Rows.typingValidSpec.post enc Tryd.prog Tryd.f3 false true false false) := by
  refine returnsInHanded_of_change_and (C := Tryd.checked) (X := fun w _ => laidMetH Tryd.prog laid8 w) (fun _ _ _ hh h => h.of_heap hh) own started (by kernel_rfl) Tryd.func3
    (ChangeSpec.witness_shaped (enc := enc) (C := Tryd.checked) (os := os) (X := fun w _ => laidMetH Tryd.prog laid8 w) false (World.laidAll Tryd.prog os laid8) #[.agg #[.int .i64 0, .slice none 0 0]] 8 (World.laidAll_os _ _ _) (World.shaped_of_ZipB (by kernel_rfl) (by kernel_rfl)) (by kernel_rfl) (by kernel_rfl) (by kernel_rfl) (lay8_met os _)) ?_
  intro W base args ds gs before hval0 hW hcnd hsz hL _
  have hval : ∀ (j : Nat) t v, Tryd.f3.params[j]? = some t → args[j]? = some v → Value.okWide Tryd.prog W .any base t v := hval0
  have hW' := hW
  obtain ⟨p, q, hA0, hV, rfl, hfz, hnd⟩ := hW
  have hA : DataW.TrodAll enc Tryd.prog W 0 (fun _ => true) true Tryd.f3.params.toList args.toList ds p := hA0
  rw [Tryd.params3] at hA hval hsz
  obtain ⟨v0, vs0, d0, ds0, p0, q0, hargs, rfl, rfl, h0, r0⟩ := trodAll_cons hA
  obtain ⟨rfl, rfl, rfl⟩ := trodAll_nil r0
  obtain rfl : args = #[v0] := by cases args; simp_all
  obtain ⟨rfl, rfl⟩ := trodVars_none hV
  have k0 := h0
  have lt0 : ∀ x ∈ p0, x.block < W.heap.size := by obtain ⟨m, hm⟩ := k0; exact DataW.trod_lt m _ _ _ hm
  obtain ⟨m0, y0, hr0⟩ := open_type (hval 0 24 v0 rfl rfl) h0
  clear hA0 hval0
  refine (walk m0 v0 y0  W (tab8_of hL) hr0).mono fun e W' ⟨he, bel⟩ => ?_
  subst he
  exact ⟨_, rfl, _, _, _, [], _, [], hW', trodAll_mk1 (shut_bool Tryd.underlying4 _), (trodAll_cons_mk (Below.trod laidOut (by kernel_rfl) (of_decide_eq_true (by kernel_rfl)) k0 bel lt0) trodAll_mk0), rfl, bel.frame _, fun h => by cases h⟩

theorem over : Rows.typingValidRow.holds Tryd.pinned (OpenSpec.ofChange Rows.typingValidSpec) :=
  OpenClaim.holds_of_wide 3 Tryd.f3 rfl rfl rfl rfl rfl rfl rfl ⟨rfl, rfl, rfl, rfl, rfl⟩ rfl rfl rfl rfl rfl (by kernel_rfl) Tryd.func3 (by kernel_rfl)
    (of_decide_eq_true (by kernel_rfl)) (by unfold Func.isWrapper; first | (rw [if_pos (by decide +kernel)]; kernel_rfl) | (rw [if_neg (by decide +kernel)]; exact ⟨rfl, rfl⟩))
    (fun os started H enc _ => lifted os started H enc)

/-- THE STATEMENT. -/
theorem proved : Rows.TypingValidCardSaid :=
  Claim7.holds_tied_plain_at .later [] [.data, .data, .data, .pinned] true Rows.typingValidCard.stood.harness false
    over (fun _ h => by cases h) (by kernel_rfl) (fun _ h => by cases h) typingValid_row_tie rfl ⟨rfl, rfl⟩ (by kernel_rfl) rfl
    (fun f fn hf hfn => by
      obtain rfl : f = 3 := Option.some.inj ((show Tryd.prog.funcNamed "pipeline/pipelinelaw08.TypingValid" = some 3 by kernel_rfl).symm.trans hf) |>.symm
      obtain rfl : fn = Tryd.f3 := (Option.some.inj (Tryd.func3.symm.trans hfn)).symm
      exact ⟨by kernel_rfl, fun j t ht => by
        rw [Tryd.params3] at ht
        have hm : t ∈ [24] := by simpa using Array.mem_of_getElem? ht
        have hall : ([24].all fun u => !Tryd.prog.wantsStandIn u) = true := by kernel_rfl
        exact (show Tryd.prog.wantsStandIn t = false by simpa using List.all_eq_true.1 hall t hm)⟩)
    (by kernel_rfl)
#print axioms proved
end Go.Proofs.YtabopneehhnhfabDoor.typingValid
