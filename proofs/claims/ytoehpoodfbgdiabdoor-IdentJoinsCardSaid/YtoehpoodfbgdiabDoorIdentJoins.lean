/- Different lists of parts have different paths. -/
import Derived.Test.YtoehpoodfbgdiabDoorTie
import Derived.Test.YtoehpoodfbgdiabDoorCards
import Derived.Test.YtoehpoodfbgdiabDoorIdnTab
import Derived.Test.YtoehpoodfbgdiabDoorIdnFew
import Derived.Test.YtoehpoodfbgdiabDoorOpenS
import Derived.ProofKit
import Derived.OpenShut
import Derived.LaidMore
import Derived.Stop.Joined
import Derived.SevenTiedAt
namespace Go.Proofs.YtoehpoodfbgdiabDoor.identJoins
open Go.ChangeShapes Go.WideShapes Go.ChangeAt Go.RowKit
set_option linter.unusedVariables false

theorem own : ownKnob Tryd.prog.godebug = none := by kernel_rfl
theorem laidOut : laidOutB Tryd.prog = true := by kernel_rfl

theorem pathR_bad {L : List (List UInt8)} (h : (pathR L).2 ≠ 0) : pathR L = ([], 1) ∨ pathR L = ([], 3) := by
  unfold pathR at h ⊢
  by_cases h0 : L.length = 0
  · rw [if_pos h0]; exact Or.inl rfl
  · rw [if_neg h0] at h ⊢
    by_cases h1 : L.all nameB = true
    · rw [if_pos h1] at h ⊢
      by_cases h2 : 512 < (joinP L).length
      · rw [if_pos h2]; exact Or.inr rfl
      · rw [if_neg h2] at h; exact absurd rfl h
    · rw [if_neg h1]; exact Or.inl rfl
set_option maxHeartbeats 4000000 in
set_option maxRecDepth 100000 in
theorem walk (v : Option Addr) (cap : Nat) (L : List (List UInt8)) (hlen : L.length ≤ cap) (hcap : cap ≤ 9223372036854775807) (hx : ∀ z ∈ L, z.length ≤ 9223372036854775807)
    (v' : Option Addr) (cap' : Nat) (M : List (List UInt8)) (hlen' : M.length ≤ cap') (hcap' : cap' ≤ 9223372036854775807) (hx' : ∀ z ∈ M, z.length ≤ 9223372036854775807) (w : World) (hT : Tab4 w) (hr : ReadsStr w v L) (hr' : ReadsStr w v' M) :
    Calls Tryd.prog 5 #[.slice v L.length cap, .slice v' M.length cap'] w fun e w' => e = .returned (.bool true) ∧ Below w.heap.size w w' := by
  have HT := Lib.hid hT
  clear hT
  have HR := Lib.hid hr
  have HM := Lib.hid hr'
  have F := Lib.hid (few_any v cap L 100 (by decide))
  have G := Lib.hid (few_any v' cap' M 100 (by decide))
  have PF := Lib.hid (fun (h : fewB L 100 = true) w hr => idPath_any v cap L (by have := (fewB_true h).1; omega) hlen (fun x hx => by have := (fewB_true h).2 x hx; omega) w hr)
  have QF := Lib.hid (fun (h : fewB M 100 = true) w hr => idPath_any v' cap' M (by have := (fewB_true h).1; omega) hlen' (fun x hx => by have := (fewB_true h).2 x hx; omega) w hr)
  have SM := Lib.hid (fun w hr hs => (refSameS_any v v' cap cap' L M (by omega) (by omega) w hr hs).mono fun e w' h => And.intro h.1 (below_dn h.2))
  have hi := @path_inj L M
  have b1 := @pathR_bad L
  have b2 := @pathR_bad M
  have B0 := Lib.hid (Below.refl w.heap.size w)
  clear hr hr' hlen hcap hx hlen' hcap' hx'
  rw [show ((100 : Nat) : Int) = 100 from rfl] at F G
  cases hf : fewB L 100
  · rw [hf] at F
    clear hf
    go_enter Tryd.func5, Tryd.ntmps5
    go_wp2_with fail
    go_fit (F.out _ HR.out)
    rintro e w1 ⟨rfl, hb⟩
    have B1 := Lib.hid (B0.out.trans (hb.mono B0.out.size))
    clear hb
    go_wp2_with fail
    go_fit (lives4_any _ (HT.out.below B1.out))
    rintro e w2 ⟨rfl, hb⟩
    have B2 := Lib.hid (B1.out.trans (hb.mono B1.out.size))
    clear hb
    go_wp2_with fail
    go_ret
    exact ⟨rfl, B2.out⟩
  rw [hf] at F
  cases hg : fewB M 100
  · rw [hg] at G
    clear hf hg
    go_enter Tryd.func5, Tryd.ntmps5
    go_wp2_with fail
    go_fit (F.out _ HR.out)
    rintro e w1 ⟨rfl, hb⟩
    have B1 := Lib.hid (B0.out.trans (hb.mono B0.out.size))
    clear hb
    go_wp2_with fail
    go_fit (G.out _ (HM.out.below B1.out))
    rintro e w2 ⟨rfl, hb⟩
    have B2 := Lib.hid (B1.out.trans (hb.mono B1.out.size))
    clear hb
    go_wp2_with fail
    go_fit (lives4_any _ (HT.out.below B2.out))
    rintro e w3 ⟨rfl, hb⟩
    have B3 := Lib.hid (B2.out.trans (hb.mono B2.out.size))
    clear hb
    go_wp2_with fail
    go_ret
    exact ⟨rfl, B3.out⟩
  rw [hg] at G
  have P := Lib.hid (PF.out hf)
  have Q := Lib.hid (QF.out hg)
  clear hf hg PF QF
  by_cases he : (pathR L).2 = 0
  · by_cases hf : (pathR M).2 = 0
    · have hq := hi he hf
      rw [he] at P
      rw [hf] at Q
      rw [show ((0 : Nat) : Int) = 0 from rfl] at P Q
      have ht : (((⟨(pathR L).1.toArray⟩ : ByteArray).toList == (⟨(pathR M).1.toArray⟩ : ByteArray).toList) == decide (L = M)) = true := by
        rw [ByteArray.toList_eq, ByteArray.toList_eq]
        by_cases h : L = M
        · subst h; simp
        · have h2 : ¬ (pathR L).1 = (pathR M).1 := fun e => h (hq.1 e)
          simp [h, h2]
      generalize (⟨(pathR L).1.toArray⟩ : ByteArray) = p at P ht
      generalize (⟨(pathR M).1.toArray⟩ : ByteArray) = q at Q ht
      generalize decide (L = M) = d at SM ht
      clear hi b1 b2 he hf hq
      go_enter Tryd.func5, Tryd.ntmps5
      go_wp2_with fail
      go_fit (F.out _ HR.out)
      rintro e w1 ⟨rfl, hb⟩
      have B1 := Lib.hid (B0.out.trans (hb.mono B0.out.size))
      clear hb
      go_wp2_with fail
      go_fit (G.out _ (HM.out.below B1.out))
      rintro e w2 ⟨rfl, hb⟩
      have B2 := Lib.hid (B1.out.trans (hb.mono B1.out.size))
      clear hb
      go_wp2_with fail
      go_fit (P.out _ (HR.out.below B2.out))
      rintro e w3 ⟨rfl, hb⟩
      have B3 := Lib.hid (B2.out.trans (hb.mono B2.out.size))
      clear hb
      go_wp2_with fail
      go_fit (Q.out _ (HM.out.below B3.out))
      rintro e w4 ⟨rfl, hb⟩
      have B4 := Lib.hid (B3.out.trans (hb.mono B3.out.size))
      clear hb
      go_wp2_with fail
      go_fit (SM.out _ (HR.out.below B4.out) (HM.out.below B4.out))
      rintro e w5 ⟨rfl, hb⟩
      have B5 := Lib.hid (B4.out.trans (hb.mono B4.out.size))
      clear hb
      go_wp2_with fail
      go_fit (lives4_any _ (HT.out.below B5.out))
      rintro e w6 ⟨rfl, hb⟩
      have B6 := Lib.hid (B5.out.trans (hb.mono B5.out.size))
      clear hb
      go_wp2_with fail
      go_ret
      exact ⟨rfl, B6.out⟩
    · have hb2 := b2 hf
      rw [he] at P
      rw [show ((0 : Nat) : Int) = 0 from rfl] at P
      generalize (⟨(pathR L).1.toArray⟩ : ByteArray) = p at P
      clear hi b1 b2 he hf
      obtain ⟨bp, hbp⟩ : ∃ bp, bp = (p.toList == []) := ⟨_, rfl⟩
      rcases hb2 with h | h <;>
      · rw [h] at Q
        clear h
        go_enter Tryd.func5, Tryd.ntmps5
        go_wp2_with fail
        go_fit (F.out _ HR.out)
        rintro e w1 ⟨rfl, hb⟩
        have B1 := Lib.hid (B0.out.trans (hb.mono B0.out.size))
        clear hb
        go_wp2_with fail
        go_fit (G.out _ (HM.out.below B1.out))
        rintro e w2 ⟨rfl, hb⟩
        have B2 := Lib.hid (B1.out.trans (hb.mono B1.out.size))
        clear hb
        go_wp2_with fail
        go_fit (P.out _ (HR.out.below B2.out))
        rintro e w3 ⟨rfl, hb⟩
        have B3 := Lib.hid (B2.out.trans (hb.mono B2.out.size))
        clear hb
        go_wp2_with fail
        go_fit (Q.out _ (HM.out.below B3.out))
        rintro e w4 ⟨rfl, hb⟩
        have B4 := Lib.hid (B3.out.trans (hb.mono B3.out.size))
        clear hb
        go_wp2_with fail
        all_goals
          go_fit (lives4_any _ (HT.out.below B4.out))
          rintro e w5 ⟨rfl, hb⟩
          have B5 := Lib.hid (B4.out.trans (hb.mono B4.out.size))
          clear hb
          go_wp2_with fail
          go_ret
          exact ⟨rfl, B5.out⟩
  · have hb1 := b1 he
    generalize (⟨(pathR M).1.toArray⟩ : ByteArray) = q at Q
    generalize (((pathR M).2 : Nat) : Int) = n at Q
    clear hi b2
    rcases hb1 with h | h <;>
    · rw [h] at P
      clear h b1 he
      go_enter Tryd.func5, Tryd.ntmps5
      go_wp2_with fail
      go_fit (F.out _ HR.out)
      rintro e w1 ⟨rfl, hb⟩
      have B1 := Lib.hid (B0.out.trans (hb.mono B0.out.size))
      clear hb
      go_wp2_with fail
      go_fit (G.out _ (HM.out.below B1.out))
      rintro e w2 ⟨rfl, hb⟩
      have B2 := Lib.hid (B1.out.trans (hb.mono B1.out.size))
      clear hb
      go_wp2_with fail
      go_fit (P.out _ (HR.out.below B2.out))
      rintro e w3 ⟨rfl, hb⟩
      have B3 := Lib.hid (B2.out.trans (hb.mono B2.out.size))
      clear hb
      go_wp2_with fail
      go_fit (Q.out _ (HM.out.below B3.out))
      rintro e w4 ⟨rfl, hb⟩
      have B4 := Lib.hid (B3.out.trans (hb.mono B3.out.size))
      clear hb
      go_wp2_with fail
      go_fit (lives4_any _ (HT.out.below B4.out))
      rintro e w5 ⟨rfl, hb⟩
      have B5 := Lib.hid (B4.out.trans (hb.mono B4.out.size))
      clear hb
      go_wp2_with fail
      go_ret
      exact ⟨rfl, B5.out⟩

set_option maxRecDepth 100000 in
theorem lifted (os : Os) (started : os.Started) (H : Type) (enc : TypeId × Value → H) :
    ReturnsInHanded {} Tryd.checked os 5 .any (fun w args => (Rows.identJoinsSpec.pre enc Tryd.prog Tryd.f5 Rows.identJoinsRow.domain false w args ∧ laidMetH Tryd.prog laid4 w) ∧ sizedMet enc Tryd.prog Tryd.f5 (OpenSpec.ofChange Rows.identJoinsSpec) false w args) (Rows.identJoinsSpec.post enc Tryd.prog Tryd.f5 false true false false) := by
  refine returnsInHanded_of_change_andShaped (C := Tryd.checked) (X := fun w _ => laidMetH Tryd.prog laid4 w) (fun _ _ _ hh h => h.of_heap hh) own started (by kernel_rfl) Tryd.func5
    (ChangeSpec.witness_shaped (enc := enc) (C := Tryd.checked) (os := os) (X := fun w _ => laidMetH Tryd.prog laid4 w) false (World.laidAll Tryd.prog os laid4) #[.slice none 0 0, .slice none 0 0] 8 (World.laidAll_os _ _ _) (World.shaped_of_ZipB (by kernel_rfl) (by kernel_rfl)) (by kernel_rfl) (by kernel_rfl) (by kernel_rfl) (lay4_met os _)) ?_
  intro W base args ds gs before hval0 hW hcnd hsz hL hsh _
  have hval : ∀ (j : Nat) t v, Tryd.f5.params[j]? = some t → args[j]? = some v → Value.okWide Tryd.prog W .any base t v := hval0
  have hW' := hW
  obtain ⟨p, q, hA0, hV, rfl, hfz, hnd⟩ := hW
  have hA : DataW.TrodAll enc Tryd.prog W 0 (fun _ => true) true Tryd.f5.params.toList args.toList ds p := hA0
  rw [Tryd.params5] at hA hval hsz
  obtain ⟨v0, vs0, d0, ds0, p0, q0, hargs, rfl, rfl, h0, r0⟩ := trodAll_cons hA
  obtain ⟨v1, vs1, d1, ds1, p1, q1, rfl, rfl, rfl, h1, r1⟩ := trodAll_cons r0
  obtain ⟨rfl, rfl, rfl⟩ := trodAll_nil r1
  obtain rfl : args = #[v0, v1] := by cases args; simp_all
  obtain ⟨rfl, rfl⟩ := trodVars_none hV
  obtain ⟨a0, len0, cap0, rfl⟩ := okWide_slice Tryd.underlying27 (hval 0 27 v0 rfl rfl)
  have k0 := h0
  have lt0 : ∀ x ∈ p0, x.block < W.heap.size := by obtain ⟨m, hm⟩ := k0; exact DataW.trod_lt m _ _ _ hm
  obtain ⟨L0, rfl, hL0, hlen0, hx0, hr0⟩ : ∃ L : List (List UInt8), len0 = L.length ∧ L.length ≤ cap0 ∧ cap0 ≤ 9223372036854775807 ∧ (∀ z ∈ L, z.length ≤ 9223372036854775807) ∧ ReadsStr W a0 L := by
    obtain ⟨fuel, hf⟩ := h0
    rcases Go.Deep.open_strs Tryd.underlying27 Tryd.underlying9 (by kernel_rfl) hf with ⟨hcs, _⟩ | ⟨x, l, c, m, Sx, hcs, _, hl, hm, hz, _, hcell⟩
    · simp [Value.cells] at hcs
      obtain ⟨rfl, rfl, rfl⟩ := hcs
      exact ⟨[], rfl, by simp, by simp, by simp, fun k hk => by simp at hk⟩
    · simp [Value.cells] at hcs
      obtain ⟨rfl, rfl, rfl⟩ := hcs
      exact reads_ofS hl hm (by simp at hz; omega) hcell
  obtain ⟨a1, len1, cap1, rfl⟩ := okWide_slice Tryd.underlying27 (hval 1 27 v1 rfl rfl)
  have k1 := h1
  have lt1 : ∀ x ∈ p1, x.block < W.heap.size := by obtain ⟨m, hm⟩ := k1; exact DataW.trod_lt m _ _ _ hm
  obtain ⟨L1, rfl, hL1, hlen1, hx1, hr1⟩ : ∃ L : List (List UInt8), len1 = L.length ∧ L.length ≤ cap1 ∧ cap1 ≤ 9223372036854775807 ∧ (∀ z ∈ L, z.length ≤ 9223372036854775807) ∧ ReadsStr W a1 L := by
    obtain ⟨fuel, hf⟩ := h1
    rcases Go.Deep.open_strs Tryd.underlying27 Tryd.underlying9 (by kernel_rfl) hf with ⟨hcs, _⟩ | ⟨x, l, c, m, Sx, hcs, _, hl, hm, hz, _, hcell⟩
    · simp [Value.cells] at hcs
      obtain ⟨rfl, rfl, rfl⟩ := hcs
      exact ⟨[], rfl, by simp, by simp, by simp, fun k hk => by simp at hk⟩
    · simp [Value.cells] at hcs
      obtain ⟨rfl, rfl, rfl⟩ := hcs
      exact reads_ofS hl hm (by simp at hz; omega) hcell
  clear hA0 hval0
  refine (walk a0 cap0 L0 hL0 hlen0 hx0 a1 cap1 L1 hL1 hlen1 hx1  W (tab4_of hsh) hr0 hr1).mono fun e W' ⟨he, bel⟩ => ?_
  subst he
  exact ⟨_, rfl, _, _, _, [], _, [], hW', trodAll_mk1 (shut_bool Tryd.underlying4 _), (trodAll_cons_mk (Below.trod laidOut (by kernel_rfl) (of_decide_eq_true (by kernel_rfl)) k0 bel lt0) (trodAll_cons_mk (Below.trod laidOut (by kernel_rfl) (of_decide_eq_true (by kernel_rfl)) k1 bel lt1) trodAll_mk0)), rfl, bel.frame _, fun h => by cases h⟩

theorem over : Rows.identJoinsRow.holds Tryd.pinned (OpenSpec.ofChange Rows.identJoinsSpec) :=
  OpenClaim.holds_of_wide 5 Tryd.f5 rfl rfl rfl rfl rfl rfl rfl ⟨rfl, rfl, rfl, rfl, rfl⟩ rfl rfl rfl rfl rfl (by kernel_rfl) Tryd.func5 (by kernel_rfl)
    (of_decide_eq_true (by kernel_rfl)) (by unfold Func.isWrapper; first | (rw [if_pos (by decide +kernel)]; kernel_rfl) | (rw [if_neg (by decide +kernel)]; exact ⟨rfl, rfl⟩))
    (fun os started H enc _ => lifted os started H enc)

/-- THE STATEMENT. -/
theorem proved : Rows.IdentJoinsCardSaid :=
  Claim7.holds_tied_plain_at .later [] [.data, .pinned] true Rows.identJoinsCard.stood.harness false
    over (fun _ h => by cases h) (by kernel_rfl) (fun _ h => by cases h) identJoins_row_tie rfl ⟨rfl, rfl⟩ (by kernel_rfl) rfl
    (fun f fn hf hfn => by
      obtain rfl : f = 5 := Option.some.inj ((show Tryd.prog.funcNamed "pipeline/pipelinelaw04.IdentJoins" = some 5 by kernel_rfl).symm.trans hf) |>.symm
      obtain rfl : fn = Tryd.f5 := (Option.some.inj (Tryd.func5.symm.trans hfn)).symm
      exact ⟨by kernel_rfl, fun j t ht => by
        rw [Tryd.params5] at ht
        have hm : t ∈ [27, 27] := by simpa using Array.mem_of_getElem? ht
        have hall : ([27, 27].all fun u => !Tryd.prog.wantsStandIn u) = true := by kernel_rfl
        exact (show Tryd.prog.wantsStandIn t = false by simpa using List.all_eq_true.1 hall t hm)⟩)
    (by kernel_rfl)
#print axioms proved
end Go.Proofs.YtoehpoodfbgdiabDoor.identJoins
