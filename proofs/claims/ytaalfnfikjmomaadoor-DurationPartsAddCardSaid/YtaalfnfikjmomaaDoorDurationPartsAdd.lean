/- A text that is put together from parts in order stands for their sum. -/
import Derived.Test.YtaalfnfikjmomaaDoorTie
import Derived.Test.YtaalfnfikjmomaaDoorCards
import Derived.Test.YtaalfnfikjmomaaDoorDurLives
import Derived.Test.YtaalfnfikjmomaaDoorDurQ
import Derived.ProofKit
import Derived.OpenShut
import Derived.LaidMore
import Derived.Stop.Joined
import Derived.SevenTiedAt
namespace Go.Proofs.YtaalfnfikjmomaaDoor.durationPartsAdd
open Go.ChangeShapes Go.WideShapes Go.ChangeAt Go.RowKit
set_option linter.unusedVariables false

theorem own : ownKnob Tryd.prog.godebug = none := by kernel_rfl
theorem laidOut : laidOutB Tryd.prog = true := by kernel_rfl

set_option maxHeartbeats 4000000 in
set_option maxRecDepth 100000 in
theorem walk (a0 a1 a2 a3 a4 : Int) (wf : (Lit.int .u16 a0).wf = true ∧ (Lit.int .u16 a1).wf = true ∧ (Lit.int .u16 a2).wf = true ∧ (Lit.int .u16 a3).wf = true ∧ (Lit.int .u16 a4).wf = true) (w : World) (hT : TabD w) :
    Calls Tryd.prog 7 #[.agg #[.int .u16 a0, .int .u16 a1, .int .u16 a2, .int .u16 a3, .int .u16 a4]] w fun e w' => e = .returned (.bool true) ∧ Below w.heap.size w w' := by
  have HT := Lib.hid hT
  obtain ⟨w0, w1, w2, w3, w4⟩ := wf
  obtain ⟨d, rfl, hd⟩ := u16_nat w0
  obtain ⟨h, rfl, hh⟩ := u16_nat w1
  obtain ⟨m, rfl, hm⟩ := u16_nat w2
  obtain ⟨s, rfl, hs⟩ := u16_nat w3
  obtain ⟨x, rfl, hx⟩ := u16_nat w4
  clear hT w0 w1 w2 w3 w4
  have BA := Lib.hid ((Below.refl w.heap.size w).alloc (Nat.le_refl _) (Obj.cells #[.int .u16 d, .int .u16 h, .int .u16 m, .int .u16 s, .int .u16 x] 36))
  have r0 : (0 : Int) ≤ d ∧ (d : Int) ≤ 65535 := by omega
  have r1 : (0 : Int) ≤ h ∧ (h : Int) ≤ 65535 := by omega
  have r2 : (0 : Int) ≤ m ∧ (m : Int) ≤ 65535 := by omega
  have r3 : (0 : Int) ≤ s ∧ (s : Int) ≤ 65535 := by omega
  have r4 : (0 : Int) ≤ x ∧ (x : Int) ≤ 65535 := by omega
  go_enter Tryd.func7, Tryd.ntmps7
  go_wp2_with fail
  go_quiet (fail)
  have BN := Lib.hid (below_drewN BA.out nq)
  obtain ⟨wn, hwn⟩ : ∃ wn, wn = (w.alloc (Obj.cells #[.int .u16 d, .int .u16 h, .int .u16 m, .int .u16 s, .int .u16 x] 36)).drewN nq := ⟨_, rfl⟩
  rw [← hwn] at BN ⊢
  clear hwn
  by_cases c0 : (23 : Int) < h
  · clear hd hh hm hs hx
    go_wp2_with fail
    go_fit (lives5_any _ (HT.out.below BN.out))
    rintro e w4 ⟨rfl, hb⟩
    have B4 := Lib.hid (BN.out.trans (hb.mono BN.out.size))
    clear hb
    go_wp2_with fail
    go_ret
    exact ⟨rfl, B4.out⟩
  by_cases c1 : (59 : Int) < m
  · clear hd hh hm hs hx
    go_wp2_with fail
    go_fit (lives5_any _ (HT.out.below BN.out))
    rintro e w4 ⟨rfl, hb⟩
    have B4 := Lib.hid (BN.out.trans (hb.mono BN.out.size))
    clear hb
    go_wp2_with fail
    go_ret
    exact ⟨rfl, B4.out⟩
  by_cases c2 : (59 : Int) < s
  · clear hd hh hm hs hx
    go_wp2_with fail
    go_fit (lives5_any _ (HT.out.below BN.out))
    rintro e w4 ⟨rfl, hb⟩
    have B4 := Lib.hid (BN.out.trans (hb.mono BN.out.size))
    clear hb
    go_wp2_with fail
    go_ret
    exact ⟨rfl, B4.out⟩
  by_cases c3 : (999 : Int) < x
  · clear hd hh hm hs hx
    go_wp2_with fail
    go_fit (lives5_any _ (HT.out.below BN.out))
    rintro e w4 ⟨rfl, hb⟩
    have B4 := Lib.hid (BN.out.trans (hb.mono BN.out.size))
    clear hb
    go_wp2_with fail
    go_ret
    exact ⟨rfl, B4.out⟩
  have P0 := fun w => part_any d hd [100] (by decide) w
  have P1 := fun w => part_any h hh [104] (by decide) w
  have P2 := fun w => part_any m hm [109] (by decide) w
  have P3 := fun w => part_any s hs [115] (by decide) w
  have P4 := fun w => part_any x hx [109, 115] (by decide) w
  have l0 := partL_len d [100] (by omega)
  have l1 := partL_len h [104] (by omega)
  have l2 := partL_len m [109] (by omega)
  have l3 := partL_len s [115] (by omega)
  have l4 := partL_len x [109, 115] (by omega)
  obtain ⟨q, hq⟩ : ∃ q, q = partL d [100] ++ (partL h [104] ++ (partL m [109] ++ (partL s [115] ++ partL x [109, 115]))) := ⟨_, rfl⟩
  obtain ⟨y0, g0⟩ : ∃ y : ByteArray, y = ⟨(partL d [100]).toArray⟩ := ⟨_, rfl⟩
  obtain ⟨y1, g1⟩ : ∃ y : ByteArray, y = ⟨(partL h [104]).toArray⟩ := ⟨_, rfl⟩
  obtain ⟨y2, g2⟩ : ∃ y : ByteArray, y = ⟨(partL m [109]).toArray⟩ := ⟨_, rfl⟩
  obtain ⟨y3, g3⟩ : ∃ y : ByteArray, y = ⟨(partL s [115]).toArray⟩ := ⟨_, rfl⟩
  obtain ⟨y4, g4⟩ : ∃ y : ByteArray, y = ⟨(partL x [109, 115]).toArray⟩ := ⟨_, rfl⟩
  have z0 : y0.size ≤ 20 := by rw [g0, sizeL]; exact Nat.le_trans l0 (by decide)
  have z1 : y1.size ≤ 20 := by rw [g1, sizeL]; exact Nat.le_trans l1 (by decide)
  have z2 : y2.size ≤ 20 := by rw [g2, sizeL]; exact Nat.le_trans l2 (by decide)
  have z3 : y3.size ≤ 20 := by rw [g3, sizeL]; exact Nat.le_trans l3 (by decide)
  have z4 : y4.size ≤ 20 := by rw [g4, sizeL]; exact Nat.le_trans l4 (by decide)
  have ht : y0 ++ y1 ++ y2 ++ y3 ++ y4 = ⟨q.toArray⟩ := by
    rw [g0, g1, g2, g3, g4, app_strD, app_strD, app_strD, app_strD, hq]
    simp only [List.append_assoc]
  rw [← g0] at P0
  rw [← g1] at P1
  rw [← g2] at P2
  rw [← g3] at P3
  rw [← g4] at P4
  have P0 := Lib.hid P0
  have P1 := Lib.hid P1
  have P2 := Lib.hid P2
  have P3 := Lib.hid P3
  have P4 := Lib.hid P4
  have k1 := fun w => run_string_add_sum (P := Tryd.prog) w y0 y1 (by omega)
  have k2 := fun w => run_string_add_sum (P := Tryd.prog) w (y0 ++ y1) y2 (by rw [ByteArray.size_append]; omega)
  have k3 := fun w => run_string_add_sum (P := Tryd.prog) w (y0 ++ y1 ++ y2) y3 (by rw [ByteArray.size_append, ByteArray.size_append]; omega)
  have k4 := fun w => run_string_add_sum (P := Tryd.prog) w (y0 ++ y1 ++ y2 ++ y3) y4 (by rw [ByteArray.size_append, ByteArray.size_append, ByteArray.size_append]; omega)
  obtain ⟨t, htt⟩ : ∃ t, t = y0 ++ y1 ++ y2 ++ y3 ++ y4 := ⟨_, rfl⟩
  rw [← htt] at k4 ht
  have hts : t.size ≤ 140737488355328 := by
    rw [htt, ByteArray.size_append, ByteArray.size_append, ByteArray.size_append, ByteArray.size_append]
    omega
  have hdoc := parts_doc d h m s x hd (by omega) (by omega) (by omega) (by omega) hq
  have hsum : ((sumP d h m s x : Nat) : Int) = (x : Int) + 1000 * ((s : Int) + 60 * ((m : Int) + 60 * ((h : Int) + 24 * (d : Int)))) := by unfold sumP; omega
  have hql : t.data.toList = q := by rw [ht, toL]
  have D := fun w hT => durParse_any t hts w hT
  rw [prog_is_doc, hql] at D
  clear l0 l1 l2 l3 l4 hq g0 g1 g2 g3 g4 htt hts ht hd hh hm hs hx
  by_cases hq0 : q = []
  · have te : t.toList.isEmpty = true := by rw [Lib.toList_data, hql, hq0]; rfl
    clear D hdoc hsum hql hq0
    go_wp2_with fail
    go_fit (P0.out _)
    rintro e w1 ⟨rfl, rfl⟩
    go_wp2_with fail
    go_fit (P1.out _)
    rintro e w1 ⟨rfl, rfl⟩
    go_wp2_with fail
    go_fit (P2.out _)
    rintro e w1 ⟨rfl, rfl⟩
    go_wp2_with fail
    go_fit (P3.out _)
    rintro e w1 ⟨rfl, rfl⟩
    go_wp2_with fail
    go_fit (P4.out _)
    rintro e w1 ⟨rfl, rfl⟩
    go_wp2_with fail
    go_fit (lives5_any _ (HT.out.below BN.out))
    rintro e w4 ⟨rfl, hb⟩
    have B4 := Lib.hid (BN.out.trans (hb.mono BN.out.size))
    clear hb
    go_wp2_with fail
    go_ret
    exact ⟨rfl, B4.out⟩
  · have te : t.toList.isEmpty = false := by rw [Lib.toList_data, hql]; simpa using hq0
    rw [hdoc hq0] at D
    dsimp only at D
    rw [hsum] at D
    have D := Lib.hid D
    clear hdoc hsum hql hq0
    go_wp2_with fail
    go_fit (P0.out _)
    rintro e w1 ⟨rfl, rfl⟩
    go_wp2_with fail
    go_fit (P1.out _)
    rintro e w1 ⟨rfl, rfl⟩
    go_wp2_with fail
    go_fit (P2.out _)
    rintro e w1 ⟨rfl, rfl⟩
    go_wp2_with fail
    go_fit (P3.out _)
    rintro e w1 ⟨rfl, rfl⟩
    go_wp2_with fail
    go_fit (P4.out _)
    rintro e w1 ⟨rfl, rfl⟩
    go_wp2_with fail
    go_fit (D.out _ (HT.out.below BN.out))
    rintro e w3 ⟨rfl, hb⟩
    have B3 := Lib.hid (BN.out.trans (hb.mono BN.out.size))
    clear hb
    go_wp2_with fail
    go_fit (lives5_any _ (HT.out.below B3.out))
    rintro e w4 ⟨rfl, hb⟩
    have B4 := Lib.hid (B3.out.trans (hb.mono B3.out.size))
    clear hb
    go_wp2_with fail
    go_ret
    exact ⟨rfl, B4.out⟩

set_option maxRecDepth 100000 in
theorem lifted (os : Os) (started : os.Started) (H : Type) (enc : TypeId × Value → H) :
    ReturnsInHanded {} Tryd.checked os 7 .any (fun w args => (Rows.durationPartsAddSpec.pre enc Tryd.prog Tryd.f7 Rows.durationPartsAddRow.domain false w args ∧ laidMetH Tryd.prog laid5 w) ∧ sizedMet enc Tryd.prog Tryd.f7 (OpenSpec.ofChange Rows.durationPartsAddSpec) false w args) (Rows.durationPartsAddSpec.post enc Tryd.prog Tryd.f7 false true false false) := by
  refine returnsInHanded_of_change_and (C := Tryd.checked) (X := fun w _ => laidMetH Tryd.prog laid5 w) (fun _ _ _ hh h => h.of_heap hh) own started (by kernel_rfl) Tryd.func7
    (ChangeSpec.witness_shaped (enc := enc) (C := Tryd.checked) (os := os) (X := fun w _ => laidMetH Tryd.prog laid5 w) false (World.laidAll Tryd.prog os laid5) #[.agg #[.int .u16 0, .int .u16 0, .int .u16 0, .int .u16 0, .int .u16 0]] 8 (World.laidAll_os _ _ _) (World.shaped_of_ZipB (by kernel_rfl) (by kernel_rfl)) (by kernel_rfl) (by kernel_rfl) (by kernel_rfl) (lay5_met os _)) ?_
  intro W base args ds gs before hval0 hW hcnd hsz hL _
  have hval : ∀ (j : Nat) t v, Tryd.f7.params[j]? = some t → args[j]? = some v → Value.okWide Tryd.prog W .any base t v := hval0
  have hW' := hW
  obtain ⟨p, q, hA0, hV, rfl, hfz, hnd⟩ := hW
  have hA : DataW.TrodAll enc Tryd.prog W 0 (fun _ => true) true Tryd.f7.params.toList args.toList ds p := hA0
  rw [Tryd.params7] at hA hval hsz
  obtain ⟨v0, vs0, d0, ds0, p0, q0, hargs, rfl, rfl, h0, r0⟩ := trodAll_cons hA
  obtain ⟨rfl, rfl, rfl⟩ := trodAll_nil r0
  obtain rfl : args = #[v0] := by cases args; simp_all
  obtain ⟨rfl, rfl⟩ := trodVars_none hV
  have k0 := h0
  have lt0 : ∀ x ∈ p0, x.block < W.heap.size := by obtain ⟨m, hm⟩ := k0; exact DataW.trod_lt m _ _ _ hm
  obtain ⟨cs0, rfl, hs0⟩ := okWide_arrK Tryd.underlying36 (hval 0 36 v0 rfl rfl)
  obtain ⟨fuel0, hf0⟩ := h0
  obtain ⟨L0, e0, n0, wf0⟩ := arr_intsK Tryd.underlying36 Tryd.underlying35 (by kernel_rfl) (by kernel_rfl) hf0
  obtain rfl : cs0 = (L0.map (Value.int .u16)).toArray := by simpa [Value.cells, ← Array.toList_inj] using e0
  obtain ⟨x0a, x0b, x0c, x0d, x0e, rfl⟩ : ∃ x0a x0b x0c x0d x0e, L0 = [x0a, x0b, x0c, x0d, x0e] := lenA5 n0
  simp only [List.map_cons, List.map_nil, List.mem_cons, List.not_mem_nil, or_false, forall_eq_or_imp, forall_eq] at wf0 ⊢
  clear hA0 hval0
  refine (walk x0a x0b x0c x0d x0e wf0 W (tab5_of hL) ).mono fun e W' ⟨he, bel⟩ => ?_
  subst he
  exact ⟨_, rfl, _, _, _, [], _, [], hW', trodAll_mk1 (shut_bool Tryd.underlying4 _), (trodAll_cons_mk (Below.trod laidOut (by kernel_rfl) (of_decide_eq_true (by kernel_rfl)) k0 bel lt0) trodAll_mk0), rfl, bel.frame _, fun h => by cases h⟩

theorem over : Rows.durationPartsAddRow.holds Tryd.pinned (OpenSpec.ofChange Rows.durationPartsAddSpec) :=
  OpenClaim.holds_of_wide 7 Tryd.f7 rfl rfl rfl rfl rfl rfl rfl ⟨rfl, rfl, rfl, rfl, rfl⟩ rfl rfl rfl rfl rfl (by kernel_rfl) Tryd.func7 (by kernel_rfl)
    (of_decide_eq_true (by kernel_rfl)) (by unfold Func.isWrapper; first | (rw [if_pos (by decide +kernel)]; kernel_rfl) | (rw [if_neg (by decide +kernel)]; exact ⟨rfl, rfl⟩))
    (fun os started H enc _ => lifted os started H enc)

/-- THE STATEMENT. -/
theorem proved : Rows.DurationPartsAddCardSaid :=
  Claim7.holds_tied_plain_at .later [] [.data, .data, .data, .data, .sentinel, .sentinel, .data, .pinned] true Rows.durationPartsAddCard.stood.harness true
    over (fun _ h => by cases h) (by kernel_rfl) (fun _ h => by cases h) durationPartsAdd_row_tie rfl ⟨rfl, rfl⟩ (by kernel_rfl) rfl
    (fun f fn hf hfn => by
      obtain rfl : f = 7 := Option.some.inj ((show Tryd.prog.funcNamed "pipeline/pipelinelaw05.DurationPartsAdd" = some 7 by kernel_rfl).symm.trans hf) |>.symm
      obtain rfl : fn = Tryd.f7 := (Option.some.inj (Tryd.func7.symm.trans hfn)).symm
      exact ⟨by kernel_rfl, fun j t ht => by
        rw [Tryd.params7] at ht
        have hm : t ∈ [36] := by simpa using Array.mem_of_getElem? ht
        have hall : ([36].all fun u => !Tryd.prog.wantsStandIn u) = true := by kernel_rfl
        exact (show Tryd.prog.wantsStandIn t = false by simpa using List.all_eq_true.1 hall t hm)⟩)
    (by kernel_rfl)
#print axioms proved
end Go.Proofs.YtaalfnfikjmomaaDoor.durationPartsAdd
