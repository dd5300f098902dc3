/- TypingBack: a valid type is parsed from its text, and only its text. No condition on the inputs. -/
import Derived.Test.YtabopneehhnhfabDoorTie
import Derived.Test.YtabopneehhnhfabDoorCards
import Derived.Test.YtabopneehhnhfabDoorTypTab
import Derived.Test.YtabopneehhnhfabDoorTypWalk
import Derived.Test.YtabopneehhnhfabDoorOpT
import Derived.ProofKit
import Derived.OpenShut
import Derived.LaidMore
import Derived.Stop.Joined
import Derived.SevenTiedAt
import Derived.SizedLaws
namespace Go.Proofs.YtabopneehhnhfabDoor.typingBack
open Go.ChangeShapes Go.WideShapes Go.ChangeAt Go.RowKit
open Go.ChangeMaps (open_string shut_string)
set_option linter.unusedVariables false

theorem own : ownKnob Tryd.prog.godebug = none := by kernel_rfl
theorem laidOut : laidOutB Tryd.prog = true := by kernel_rfl

theorem PTop.zero {l : List UInt8} {t : Tc} {er : Nat} (h : PTop l t er) (h0 : er = 0) : IsTx l t ∧ t.deep ≤ 16 := by
  rcases h with ⟨_, _, rfl⟩ | ⟨_, _, _, rfl⟩ | ⟨_, t', h2, ⟨_, _, rfl⟩ | ⟨h4, rfl, _⟩⟩
  · cases h0
  · cases h0
  · cases h0
  · exact ⟨h2, h4⟩
set_option maxHeartbeats 8000000 in
set_option maxRecDepth 100000 in
theorem walk (m : Nat) (V : Value) (x : Ty) (s : ByteArray) (_z : s.size ≤ 140737488355327) (w : World) (hT : TabT w) (hV : IsT m w V x) :
    Calls Tryd.prog 9 #[V, .string s] w fun e w' => e = .returned (.bool true) ∧ Below w.heap.size w w' := by
  have HV := hV
  have HT := Lib.hid hT
  have PS := Lib.hid (fun w hT => Parse_any s w hT)
  have X := Lib.hid (fun w' (h : Below w.heap.size w w') => validT_any m V x w' (hV.below h))
  by_cases hq : okB x = true
  · have hz := (natI0 (n := chkT 16 x) (by simpa [okB] using hq)).1
    have hC := isC_ok hV hq
    obtain ⟨hx1, hx2, hx3⟩ := ok_tc hq
    have SH := Lib.hid (fun w' (h : Below w.heap.size w w') => showC (tcOf x) hx2 hx3 _ rfl V w' (hC.below h) (hT.below h))
    have hlen := textC_len (tcOf x)
    have PT := Lib.hid (fun w' (hT : TabT w') => parseC (s := ⟨(textC (tcOf x)).toArray⟩) (show PTop (textC (tcOf x)) (tcOf x) 0 from .inr (.inr ⟨by omega, tcOf x, ⟨hx2, rfl⟩, .inr ⟨hx3, rfl, rfl⟩⟩)) (by simp) w' hT)
    have SM := Lib.hid (fun av c w' (h : Below w.heap.size w w') (hA : TailC w' av (tcOf x)) => sameT_any (tcOf x) (tcOf x) (.agg #[.int .i64 (tcOf x).kd, .slice av (tcOf x).ln c]) V w' ⟨av, c, rfl, hA⟩ (hC.below h))
    rw [sameC_rfl] at SM
    obtain ⟨k, l, av, c, rfl, rfl, _⟩ := hV
    generalize tcOf (Ty.mk k l) = T at *
    generalize (⟨(textC T).toArray⟩ : ByteArray) = tx at *
    generalize chkT 16 (Ty.mk k l) = ct at *
    clear hx1 hx2 hx3 hlen hq hC HV hT
    go_enter Tryd.func9, Tryd.ntmps9
    go_wp2_with fail
    go_fit (X.out _ (by repeat (first | exact Below.refl _ _ | refine Below.setCell ?_ (by simp <;> omega) _ | refine Below.alloc ?_ (by simp <;> omega) _)))
    rintro e w1 ⟨rfl, hb1⟩
    have TA := (TwoAt.new _ 24 (.int .i64 k) (.slice av l.length c)).below hb1
    have B1 := Lib.hid (Below.trans (show Below w.heap.size w _ from (by repeat (first | exact Below.refl _ _ | refine Below.setCell ?_ (by simp <;> omega) _ | refine Below.alloc ?_ (by simp <;> omega) _))) (hb1.mono (by simp <;> omega)))
    have c0 := TA.cell0
    have c1 := TA.cell1
    clear hb1
    go_wp2_with fail
    go_fit (SH.out _ B1.out)
    rintro e w2 ⟨rfl, hb2⟩
    have TA := TA.below hb2
    have B2 := Lib.hid (B1.out.trans (hb2.mono B1.out.size))
    clear hb2 c0 c1
    go_wp2_with fail
    go_fit (PT.out _ (HT.out.below B2.out))
    rintro e w3 ⟨xa, xc, rfl, hX, hb3⟩
    have TA := (TA.below hb3).alloc (.cells #[.int .i64 T.kd, .slice xa T.ln xc] 24)
    have B3 := Lib.hid ((B2.out.trans (hb3.mono B2.out.size)).alloc ((B2.out.trans (hb3.mono B2.out.size))).size (.cells #[.int .i64 T.kd, .slice xa T.ln xc] 24))
    have HX := Lib.hid (TailC.below ((Below.refl w3.heap.size w3).alloc (Nat.le_refl _) (.cells #[.int .i64 T.kd, .slice xa T.ln xc] 24)) _ _ hX)
    have c0 := TA.cell0
    have c1 := TA.cell1
    clear hb3 hX
    go_wp2_with fail
    go_fit (SM.out _ _ _ B3.out HX.out)
    rintro e w4 ⟨rfl, hb4⟩
    have B4 := Lib.hid (B3.out.trans (hb4.mono B3.out.size))
    clear hb4
    go_wp2_with fail
    go_fit (PS.out _ (HT.out.below B4.out))
    rintro e w5 ⟨V5, t5, er5, rfl, hp5, hC5, hb5⟩
    have B5 := Lib.hid (Below.trans (show Below w.heap.size w _ from B4.out) (hb5.mono (B4.out.size)))
    have HP5 := Lib.hid hp5
    have HC5 := Lib.hid hC5
    obtain ⟨xa5, xc5, rfl, _⟩ := hC5
    clear hb5
    by_cases h5 : er5 = 0
    · have HX := Lib.hid (PTop.zero hp5 h5)
      have n5 : ((er5 : Int) != 0) = false := (natI0 h5).2
      have SH := Lib.hid (fun w' hC hT => showC t5 HX.out.1.1 HX.out.2 s (by rw [HX.out.1.2]) (.agg #[.int .i64 t5.kd, .slice xa5 t5.ln xc5]) w' hC hT)
      have hq : (s.toList == s.toList) = true := beq_self_eq_true _
      clear h5 hp5
      go_wp2_with fail
      go_fit (SH.out _ (HC5.out.below ((Below.refl _ _).alloc (Nat.le_refl _) _)) (HT.out.below (B5.out.alloc B5.out.size _)))
      rintro e w6 ⟨rfl, hb6⟩
      have BA := B5.out.alloc B5.out.size (.cells #[.int .i64 t5.kd, .slice xa5 t5.ln xc5] 24)
      have B6 := Lib.hid (BA.trans (hb6.mono BA.size))
      clear hb6 BA
      go_wp2_with fail
      go_fit (awake_any _ (HT.out.below B6.out))
      rintro e w7 ⟨rfl, hb7⟩
      have B7 := Lib.hid (B6.out.trans (hb7.mono B6.out.size))
      clear hb7
      go_wp2_with fail
      go_ret
      exact ⟨rfl, B7.out⟩
    · have n5 : ((er5 : Int) != 0) = true := (natI1 h5).2
      clear h5 hp5
      go_wp2_with fail
      go_fit (awake_any _ (HT.out.below (B5.out.alloc B5.out.size _)))
      rintro e w7 ⟨rfl, hb7⟩
      have BA := B5.out.alloc B5.out.size (.cells #[.int .i64 t5.kd, .slice xa5 t5.ln xc5] 24)
      have B7 := Lib.hid (BA.trans (hb7.mono BA.size))
      clear hb7 BA
      go_wp2_with fail
      go_ret
      exact ⟨rfl, B7.out⟩
  · have hz := (natI1 (n := chkT 16 x) (by simpa [okB] using hq)).1
    obtain ⟨k, l, av, c, rfl, rfl, _⟩ := hV
    generalize chkT 16 (Ty.mk k l) = ct at *
    clear hq HV hT
    go_enter Tryd.func9, Tryd.ntmps9
    go_wp2_with fail
    go_fit (X.out _ (by repeat (first | exact Below.refl _ _ | refine Below.setCell ?_ (by simp <;> omega) _ | refine Below.alloc ?_ (by simp <;> omega) _)))
    rintro e w1 ⟨rfl, hb1⟩
    have B1 := Lib.hid (Below.trans (show Below w.heap.size w _ from (by repeat (first | exact Below.refl _ _ | refine Below.setCell ?_ (by simp <;> omega) _ | refine Below.alloc ?_ (by simp <;> omega) _))) (hb1.mono (by simp <;> omega)))
    clear hb1
    go_wp2_with fail
    go_fit (PS.out _ (HT.out.below B1.out))
    rintro e w5 ⟨V5, t5, er5, rfl, hp5, hC5, hb5⟩
    have B5 := Lib.hid (Below.trans (show Below w.heap.size w _ from B1.out) (hb5.mono (B1.out.size)))
    have HP5 := Lib.hid hp5
    have HC5 := Lib.hid hC5
    obtain ⟨xa5, xc5, rfl, _⟩ := hC5
    clear hb5
    by_cases h5 : er5 = 0
    · have HX := Lib.hid (PTop.zero hp5 h5)
      have n5 : ((er5 : Int) != 0) = false := (natI0 h5).2
      have SH := Lib.hid (fun w' hC hT => showC t5 HX.out.1.1 HX.out.2 s (by rw [HX.out.1.2]) (.agg #[.int .i64 t5.kd, .slice xa5 t5.ln xc5]) w' hC hT)
      have hq : (s.toList == s.toList) = true := beq_self_eq_true _
      clear h5 hp5
      go_wp2_with fail
      go_fit (SH.out _ (HC5.out.below ((Below.refl _ _).alloc (Nat.le_refl _) _)) (HT.out.below (B5.out.alloc B5.out.size _)))
      rintro e w6 ⟨rfl, hb6⟩
      have BA := B5.out.alloc B5.out.size (.cells #[.int .i64 t5.kd, .slice xa5 t5.ln xc5] 24)
      have B6 := Lib.hid (BA.trans (hb6.mono BA.size))
      clear hb6 BA
      go_wp2_with fail
      go_fit (awake_any _ (HT.out.below B6.out))
      rintro e w7 ⟨rfl, hb7⟩
      have B7 := Lib.hid (B6.out.trans (hb7.mono B6.out.size))
      clear hb7
      go_wp2_with fail
      go_ret
      exact ⟨rfl, B7.out⟩
    · have n5 : ((er5 : Int) != 0) = true := (natI1 h5).2
      clear h5 hp5
      go_wp2_with fail
      go_fit (awake_any _ (HT.out.below (B5.out.alloc B5.out.size _)))
      rintro e w7 ⟨rfl, hb7⟩
      have BA := B5.out.alloc B5.out.size (.cells #[.int .i64 t5.kd, .slice xa5 t5.ln xc5] 24)
      have B7 := Lib.hid (BA.trans (hb7.mono BA.size))
      clear hb7 BA
      go_wp2_with fail
      go_ret
      exact ⟨rfl, B7.out⟩


set_option maxRecDepth 100000 in
theorem lifted (os : Os) (started : os.Started) (H : Type) (enc : TypeId × Value → H) :
    ReturnsInHanded {} Tryd.checked os 9 .any (fun w args => (Rows.typingBackSpec.pre enc Tryd.prog Tryd.f9 Rows.typingBackRow.domain false w args ∧ laidMetH Tryd.prog laid8 w) ∧ sizedMet enc Tryd.prog Tryd.f9 (OpenSpec.ofChange Rows.typingBackSpec) false w args) (Rows.typingBackSpec.post enc Tryd.prog Tryd.f9 false true false false) := by
  refine returnsInHanded_of_change_and (C := Tryd.checked) (X := fun w _ => laidMetH Tryd.prog laid8 w) (fun _ _ _ hh h => h.of_heap hh) own started (by kernel_rfl) Tryd.func9
    (ChangeSpec.witness_shaped (enc := enc) (C := Tryd.checked) (os := os) (X := fun w _ => laidMetH Tryd.prog laid8 w) false (World.laidAll Tryd.prog os laid8) #[.agg #[.int .i64 0, .slice none 0 0], .string ⟨#[]⟩] 8 (World.laidAll_os _ _ _) (World.shaped_of_ZipB (by kernel_rfl) (by kernel_rfl)) (by kernel_rfl) (by kernel_rfl) (by kernel_rfl) (lay8_met os _)) ?_
  intro W base args ds gs before hval0 hW hcnd hsz hL _
  have hval : ∀ (j : Nat) t v, Tryd.f9.params[j]? = some t → args[j]? = some v → Value.okWide Tryd.prog W .any base t v := hval0
  have hW' := hW
  obtain ⟨p, q, hA0, hV, rfl, hfz, hnd⟩ := hW
  have hA : DataW.TrodAll enc Tryd.prog W 0 (fun _ => true) true Tryd.f9.params.toList args.toList ds p := hA0
  rw [Tryd.params9] at hA hval hsz
  obtain ⟨v0, vs0, d0, ds0, p0, q0, hargs, rfl, rfl, h0, r0⟩ := trodAll_cons hA
  obtain ⟨v1, vs1, d1, ds1, p1, q1, rfl, rfl, rfl, h1, r1⟩ := trodAll_cons r0
  obtain ⟨rfl, rfl, rfl⟩ := trodAll_nil r1
  obtain rfl : args = #[v0, v1] := by cases args; simp_all
  obtain ⟨rfl, rfl⟩ := trodVars_none hV
  have k0 := h0
  have lt0 : ∀ x ∈ p0, x.block < W.heap.size := by obtain ⟨m, hm⟩ := k0; exact DataW.trod_lt m _ _ _ hm
  obtain ⟨m0, y0, hr0⟩ := open_type (hval 0 24 v0 rfl rfl) h0
  obtain ⟨a1, rfl, rfl, rfl, w1⟩ := open_string Tryd.underlying9 (hval 1 9 v1 rfl rfl) h1
  have z1 : a1.size ≤ 140737488355327 := by
    have h := sized_string hsz (j := 1) (t := 9) rfl rfl
    rw [Array.length_toList] at h
    exact Nat.le_trans h (by decide)
  clear hA0 hval0
  refine (walk m0 v0 y0 a1 z1 W (tab8_of hL) hr0).mono fun e W' ⟨he, bel⟩ => ?_
  subst he
  exact ⟨_, rfl, _, _, _, [], _, [], hW', trodAll_mk1 (shut_bool Tryd.underlying4 _), (trodAll_cons_mk (Below.trod laidOut (by kernel_rfl) (of_decide_eq_true (by kernel_rfl)) k0 bel lt0) (trodAll_cons_mk (shut_string Tryd.underlying9 w1) trodAll_mk0)), rfl, bel.frame _, fun h => by cases h⟩

theorem over : Rows.typingBackRow.holds Tryd.pinned (OpenSpec.ofChange Rows.typingBackSpec) :=
  OpenClaim.holds_of_wide 9 Tryd.f9 rfl rfl rfl rfl rfl rfl rfl ⟨rfl, rfl, rfl, rfl, rfl⟩ rfl rfl rfl rfl rfl (by kernel_rfl) Tryd.func9 (by kernel_rfl)
    (of_decide_eq_true (by kernel_rfl)) (by unfold Func.isWrapper; first | (rw [if_pos (by decide +kernel)]; kernel_rfl) | (rw [if_neg (by decide +kernel)]; exact ⟨rfl, rfl⟩))
    (fun os started H enc _ => lifted os started H enc)

/-- THE STATEMENT. -/
theorem proved : Rows.TypingBackCardSaid :=
  Claim7.holds_tied_plain_at .later [] [.data, .data, .data, .pinned] true Rows.typingBackCard.stood.harness false
    over (fun _ h => by cases h) (by kernel_rfl) (fun _ h => by cases h) typingBack_row_tie rfl ⟨rfl, rfl⟩ (by kernel_rfl) rfl
    (fun f fn hf hfn => by
      obtain rfl : f = 9 := Option.some.inj ((show Tryd.prog.funcNamed "pipeline/pipelinelaw08.TypingBack" = some 9 by kernel_rfl).symm.trans hf) |>.symm
      obtain rfl : fn = Tryd.f9 := (Option.some.inj (Tryd.func9.symm.trans hfn)).symm
      exact ⟨by kernel_rfl, fun j t ht => by
        rw [Tryd.params9] at ht
        have hm : t ∈ [24, 9] := by simpa using Array.mem_of_getElem? ht
        have hall : ([24, 9].all fun u => !Tryd.prog.wantsStandIn u) = true := by kernel_rfl
        exact (show Tryd.prog.wantsStandIn t = false by simpa using List.all_eq_true.1 hall t hm)⟩)
    (by kernel_rfl)
#print axioms proved
end Go.Proofs.YtabopneehhnhfabDoor.typingBack
