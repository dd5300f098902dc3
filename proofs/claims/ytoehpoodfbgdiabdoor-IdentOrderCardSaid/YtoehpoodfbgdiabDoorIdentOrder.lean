/- Natural order is a total order on all strings. -/
import Derived.Test.YtoehpoodfbgdiabDoorTie
import Derived.Test.YtoehpoodfbgdiabDoorCards
import Derived.Test.YtoehpoodfbgdiabDoorIdnTab
import Derived.ProofKit
import Derived.OpenShut
import Derived.LaidMore
import Derived.Stop.Joined
import Derived.SevenTiedAt
namespace Go.Proofs.YtoehpoodfbgdiabDoor.identOrder
open Go.ChangeShapes Go.WideShapes Go.ChangeAt Go.RowKit
open Go.ChangeMaps (open_string shut_string)
set_option linter.unusedVariables false

theorem own : ownKnob Tryd.prog.godebug = none := by kernel_rfl
theorem laidOut : laidOutB Tryd.prog = true := by kernel_rfl

set_option maxHeartbeats 4000000 in
set_option maxRecDepth 100000 in
theorem walk (a b c : ByteArray) (ha : a.size ≤ 140737488355327) (hb : b.size ≤ 140737488355327) (hc : c.size ≤ 140737488355327) (w : World) (hT : Tab4 w) :
    Calls Tryd.prog 8 #[.string a, .string b, .string c] w fun e w' => e = .returned (.bool true) ∧ Below w.heap.size w w' := by
  have HT := Lib.hid hT
  clear hT
  clear ha hb hc
  have hcase : decide ((1000 : Int) < (a.size : Int)) = true ∨ (decide ((1000 : Int) < (a.size : Int)) = false ∧ decide ((1000 : Int) < (b.size : Int)) = true) ∨ (decide ((1000 : Int) < (a.size : Int)) = false ∧ decide ((1000 : Int) < (b.size : Int)) = false ∧ decide ((1000 : Int) < (c.size : Int)) = true) ∨ (a.size ≤ 1000 ∧ b.size ≤ 1000 ∧ c.size ≤ 1000) := by
    simp only [decide_eq_true_eq, decide_eq_false_iff_not]
    omega
  rcases hcase with f1 | ⟨f1, f2⟩ | ⟨f1, f2, f3⟩ | ⟨f1, f2, f3⟩
  · go_enter Tryd.func8, Tryd.ntmps8
    go_wp2_with fail
    go_fit (lives4_any _ HT.out)
    rintro e w3 ⟨rfl, hb⟩
    have B3 := Lib.hid hb
    clear hb
    go_wp2_with fail
    go_ret
    exact ⟨rfl, B3.out⟩
  · go_enter Tryd.func8, Tryd.ntmps8
    go_wp2_with fail
    go_fit (lives4_any _ HT.out)
    rintro e w3 ⟨rfl, hb⟩
    have B3 := Lib.hid hb
    clear hb
    go_wp2_with fail
    go_ret
    exact ⟨rfl, B3.out⟩
  · go_enter Tryd.func8, Tryd.ntmps8
    go_wp2_with fail
    go_fit (lives4_any _ HT.out)
    rintro e w3 ⟨rfl, hb⟩
    have B3 := Lib.hid hb
    clear hb
    go_wp2_with fail
    go_ret
    exact ⟨rfl, B3.out⟩
  · have g1 : decide ((1000 : Int) < (a.size : Int)) = false := by simp; omega
    have g2 : decide ((1000 : Int) < (b.size : Int)) = false := by simp; omega
    have g3 : decide ((1000 : Int) < (c.size : Int)) = false := by simp; omega
    have H1 := Lib.hid (idCompare_any a b (by omega) (by omega))
    have H2 := Lib.hid (idCompare_any b c (by omega) (by omega))
    have H3 := Lib.hid (idCompare_any a c (by omega) (by omega))
    have H4 := Lib.hid (idCompare_any b a (by omega) (by omega))
    have B0 := Lib.hid (Below.refl w.heap.size w)
    have t1 := cmp_tot.tr a.data.toList b.data.toList c.data.toList
    have t2 := cmp_tot.tr c.data.toList b.data.toList a.data.toList
    have r1 := cmp_tot.rng a.data.toList b.data.toList
    have r2 := cmp_tot.rng b.data.toList c.data.toList
    have r3 := cmp_tot.rng a.data.toList c.data.toList
    have n1 := cmp_tot.anti a.data.toList b.data.toList
    have n2 := cmp_tot.anti b.data.toList c.data.toList
    have n3 := cmp_tot.anti a.data.toList c.data.toList
    have he := cmp_tot.eq a.data.toList b.data.toList
    have hq : (a.toList == b.toList) = decide (a.data.toList = b.data.toList) := by
      rw [ByteArray.toList_eq, ByteArray.toList_eq]
      by_cases h : a.data.toList = b.data.toList
      · rw [decide_eq_true h, h]; simp
      · rw [decide_eq_false h, beq_eq_false_iff_ne]
        exact h
    generalize cmpL a.data.toList b.data.toList = x at H1 t1 r1 n1 he
    generalize cmpL b.data.toList c.data.toList = y at H2 t1 r2 n2
    generalize cmpL a.data.toList c.data.toList = z at H3 t1 r3 n3
    generalize cmpL b.data.toList a.data.toList = x' at H4 t2 n1
    generalize cmpL c.data.toList b.data.toList = y' at t2 n2
    generalize cmpL c.data.toList a.data.toList = z' at t2 n3
    have hx : (x = -1 ∧ x' = 1 ∧ (a.toList == b.toList) = false) ∨ (x = 0 ∧ x' = 0 ∧ (a.toList == b.toList) = true) ∨ (x = 1 ∧ x' = -1 ∧ (a.toList == b.toList) = false) := by
      rw [hq, decide_eq_false_iff_not, decide_eq_true_eq, ← he]
      omega
    have u1 : 0 < x ∨ 0 < y ∨ z ≤ 0 := by
      by_cases h1 : x ≤ 0
      · by_cases h2 : y ≤ 0
        · exact Or.inr (Or.inr (t1 h1 h2))
        · omega
      · omega
    have u2 : x < 0 ∨ y < 0 ∨ 0 ≤ z := by
      by_cases h1 : y' ≤ 0
      · by_cases h2 : x' ≤ 0
        · have := t2 h1 h2; omega
        · omega
      · omega
    clear t1 t2 r1 n1 n2 n3 he hq f1 f2 f3
    rcases hx with ⟨rfl, rfl, hq⟩ | ⟨rfl, rfl, hq⟩ | ⟨rfl, rfl, hq⟩ <;> rcases r2 with rfl | rfl | rfl <;> rcases r3 with rfl | rfl | rfl
    all_goals first | (exfalso; clear H1 H2 H3 H4; omega) | skip
    all_goals clear u1 u2
    all_goals
      go_enter Tryd.func8, Tryd.ntmps8
      go_wp2_with fail
      go_fit (H1.out _)
      rintro e w1 ⟨rfl, hb⟩
      have B1 := Lib.hid (B0.out.trans (hb.mono B0.out.size))
      clear hb
      go_wp2_with fail
      go_fit (H2.out _)
      rintro e w2 ⟨rfl, hb⟩
      have B2 := Lib.hid (B1.out.trans (hb.mono B1.out.size))
      clear hb
      go_wp2_with fail
      go_fit (H3.out _)
      rintro e w3 ⟨rfl, hb⟩
      have B3 := Lib.hid (B2.out.trans (hb.mono B2.out.size))
      clear hb
      go_wp2_with fail
      go_fit (H4.out _)
      rintro e w4 ⟨rfl, hb⟩
      have B4 := Lib.hid (B3.out.trans (hb.mono B3.out.size))
      clear hb
      go_wp2_with fail
      go_fit (lives4_any _ (HT.out.below B4.out))
      rintro e w5 ⟨rfl, hb⟩
      have B5 := Lib.hid (B4.out.trans (hb.mono B4.out.size))
      clear hb
      go_wp2_with fail
      go_ret
      exact ⟨rfl, B5.out⟩

set_option maxRecDepth 100000 in
theorem lifted (os : Os) (started : os.Started) (H : Type) (enc : TypeId × Value → H) :
    ReturnsInHanded {} Tryd.checked os 8 .any (fun w args => (Rows.identOrderSpec.pre enc Tryd.prog Tryd.f8 Rows.identOrderRow.domain false w args ∧ laidMetH Tryd.prog laid4 w) ∧ sizedMet enc Tryd.prog Tryd.f8 (OpenSpec.ofChange Rows.identOrderSpec) false w args) (Rows.identOrderSpec.post enc Tryd.prog Tryd.f8 false true false false) := by
  refine returnsInHanded_of_change_andShaped (C := Tryd.checked) (X := fun w _ => laidMetH Tryd.prog laid4 w) (fun _ _ _ hh h => h.of_heap hh) own started (by kernel_rfl) Tryd.func8
    (ChangeSpec.witness_shaped (enc := enc) (C := Tryd.checked) (os := os) (X := fun w _ => laidMetH Tryd.prog laid4 w) false (World.laidAll Tryd.prog os laid4) #[.string ⟨#[]⟩, .string ⟨#[]⟩, .string ⟨#[]⟩] 8 (World.laidAll_os _ _ _) (World.shaped_of_ZipB (by kernel_rfl) (by kernel_rfl)) (by kernel_rfl) (by kernel_rfl) (by kernel_rfl) (lay4_met os _)) ?_
  intro W base args ds gs before hval0 hW hcnd hsz hL hsh _
  have hval : ∀ (j : Nat) t v, Tryd.f8.params[j]? = some t → args[j]? = some v → Value.okWide Tryd.prog W .any base t v := hval0
  have hW' := hW
  obtain ⟨p, q, hA0, hV, rfl, hfz, hnd⟩ := hW
  have hA : DataW.TrodAll enc Tryd.prog W 0 (fun _ => true) true Tryd.f8.params.toList args.toList ds p := hA0
  rw [Tryd.params8] at hA hval hsz
  obtain ⟨v0, vs0, d0, ds0, p0, q0, hargs, rfl, rfl, h0, r0⟩ := trodAll_cons hA
  obtain ⟨v1, vs1, d1, ds1, p1, q1, rfl, rfl, rfl, h1, r1⟩ := trodAll_cons r0
  obtain ⟨v2, vs2, d2, ds2, p2, q2, rfl, rfl, rfl, h2, r2⟩ := trodAll_cons r1
  obtain ⟨rfl, rfl, rfl⟩ := trodAll_nil r2
  obtain rfl : args = #[v0, v1, v2] := by cases args; simp_all
  obtain ⟨rfl, rfl⟩ := trodVars_none hV
  obtain ⟨a0, rfl, rfl, rfl, w0⟩ := open_string Tryd.underlying9 (hval 0 9 v0 rfl rfl) h0
  obtain ⟨a1, rfl, rfl, rfl, w1⟩ := open_string Tryd.underlying9 (hval 1 9 v1 rfl rfl) h1
  obtain ⟨a2, rfl, rfl, rfl, w2⟩ := open_string Tryd.underlying9 (hval 2 9 v2 rfl rfl) h2
  have z0 : a0.size ≤ 140737488355327 := by
    have h := sized_string hsz (j := 0) (t := 9) rfl rfl
    rw [Array.length_toList] at h
    exact Nat.le_trans h (by decide)
  have z1 : a1.size ≤ 140737488355327 := by
    have h := sized_string hsz (j := 1) (t := 9) rfl rfl
    rw [Array.length_toList] at h
    exact Nat.le_trans h (by decide)
  have z2 : a2.size ≤ 140737488355327 := by
    have h := sized_string hsz (j := 2) (t := 9) rfl rfl
    rw [Array.length_toList] at h
    exact Nat.le_trans h (by decide)
  clear hA0 hval0
  refine (walk a0 a1 a2 z0 z1 z2 W (tab4_of hsh) ).mono fun e W' ⟨he, bel⟩ => ?_
  subst he
  exact ⟨_, rfl, _, _, _, [], _, [], hW', trodAll_mk1 (shut_bool Tryd.underlying4 _), (trodAll_cons_mk (shut_string Tryd.underlying9 w0) (trodAll_cons_mk (shut_string Tryd.underlying9 w1) (trodAll_cons_mk (shut_string Tryd.underlying9 w2) trodAll_mk0))), rfl, bel.frame _, fun h => by cases h⟩

theorem over : Rows.identOrderRow.holds Tryd.pinned (OpenSpec.ofChange Rows.identOrderSpec) :=
  OpenClaim.holds_of_wide 8 Tryd.f8 rfl rfl rfl rfl rfl rfl rfl ⟨rfl, rfl, rfl, rfl, rfl⟩ rfl rfl rfl rfl rfl (by kernel_rfl) Tryd.func8 (by kernel_rfl)
    (of_decide_eq_true (by kernel_rfl)) (by unfold Func.isWrapper; first | (rw [if_pos (by decide +kernel)]; kernel_rfl) | (rw [if_neg (by decide +kernel)]; exact ⟨rfl, rfl⟩))
    (fun os started H enc _ => lifted os started H enc)

/-- THE STATEMENT. -/
theorem proved : Rows.IdentOrderCardSaid :=
  Claim7.holds_tied_plain_at .later [] [.data, .pinned] true Rows.identOrderCard.stood.harness false
    over (fun _ h => by cases h) (by kernel_rfl) (fun _ h => by cases h) identOrder_row_tie rfl ⟨rfl, rfl⟩ (by kernel_rfl) rfl
    (fun f fn hf hfn => by
      obtain rfl : f = 8 := Option.some.inj ((show Tryd.prog.funcNamed "pipeline/pipelinelaw04.IdentOrder" = some 8 by kernel_rfl).symm.trans hf) |>.symm
      obtain rfl : fn = Tryd.f8 := (Option.some.inj (Tryd.func8.symm.trans hfn)).symm
      exact ⟨by kernel_rfl, fun j t ht => by
        rw [Tryd.params8] at ht
        have hm : t ∈ [9, 9, 9] := by simpa using Array.mem_of_getElem? ht
        have hall : ([9, 9, 9].all fun u => !Tryd.prog.wantsStandIn u) = true := by kernel_rfl
        exact (show Tryd.prog.wantsStandIn t = false by simpa using List.all_eq_true.1 hall t hm)⟩)
    (by kernel_rfl)
#print axioms proved
end Go.Proofs.YtoehpoodfbgdiabDoor.identOrder
