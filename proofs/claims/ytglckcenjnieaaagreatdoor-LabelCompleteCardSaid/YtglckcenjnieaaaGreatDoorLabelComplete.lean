/- If requirements do not imply others, there are labels with different names that satisfy the former and not the latter. -/
import Derived.Test.YtglckcenjnieaaaGreatDoorTie
import Derived.Test.YtglckcenjnieaaaGreatDoorCards
import Derived.Test.YtglckcenjnieaaaGreatDoorLabTab
import Derived.Test.YtglckcenjnieaaaGreatDoorLaX
import Derived.Test.YtglckcenjnieaaaGreatDoorOpenS
import Derived.Test.YtglckcenjnieaaaGreatDoorLdN
import Derived.ProofKit
import Derived.OpenShut
import Derived.LaidMore
import Derived.Stop.Joined
import Derived.SevenTiedAt
import Derived.SizedLaws
namespace Go.Proofs.YtglckcenjnieaaaGreatDoor.labelComplete
open Go.ChangeShapes Go.WideShapes Go.ChangeAt Go.RowKit
set_option linter.unusedVariables false

theorem own : ownKnob Tryz.prog.godebug = none := by kernel_rfl
theorem laidOut : laidOutB Tryz.prog = true := by kernel_rfl

set_option maxHeartbeats 4000000 in
set_option maxRecDepth 100000 in
theorem walk (v : Option Addr) (cap : Nat) (L : List (List UInt8)) (hlen : L.length ≤ cap) (hcap : cap ≤ 9223372036854775807) (hx : ∀ z ∈ L, z.length ≤ 9223372036854775807) (v' : Option Addr) (cap' : Nat) (M : List (List UInt8)) (hlen' : M.length ≤ cap') (hcap' : cap' ≤ 9223372036854775807) (hx' : ∀ z ∈ M, z.length ≤ 9223372036854775807) (w : World) (hT : TabK w) (hr : ReadsStr w v L) (hr' : ReadsStr w v' M) :
    Calls Tryz.prog 8 #[.slice v L.length cap, .slice v' M.length cap'] w fun e w' => e = .returned (.bool true) ∧ Below w.heap.size w w' := by
  have B0 := Lib.hid (Below.refl w.heap.size w)
  have F := Lib.hid (fun w' (hb : Below w.heap.size w w') => fewK_any v cap L (by omega) w' (hr.below hb))
  have G := Lib.hid (fun w' (hb : Below w.heap.size w w') => fewK_any v' cap' M (by omega) w' (hr'.below hb))
  have A := Lib.hid (fun w' (hb : Below w.heap.size w w') => lives21_any w' (hT.below hb))
  cases hf : fewK L
  · rw [hf] at F
    clear hf hr hr' hlen hlen' hcap hcap' hx hx' hT
    go_enter Tryz.func8, Tryz.ntmps8
    go_wp2_with fail
    go_fit (F.out _ B0.out)
    rintro e w1 ⟨rfl, hb⟩
    have B1 := Lib.hid (B0.out.trans (hb.mono B0.out.size))
    clear hb
    go_wp2_with fail
    go_fit (A.out _ B1.out)
    rintro e w2 ⟨rfl, hb⟩
    have B2 := Lib.hid (B1.out.trans (hb.mono B1.out.size))
    clear hb
    go_wp2_with fail
    go_ret
    exact ⟨rfl, B2.out⟩
  cases hg : fewK M
  · rw [hf] at F
    rw [hg] at G
    clear hf hg hr hr' hlen hlen' hcap hcap' hx hx' hT
    go_enter Tryz.func8, Tryz.ntmps8
    go_wp2_with fail
    go_fit (F.out _ B0.out)
    rintro e w1 ⟨rfl, hb⟩
    have B1 := Lib.hid (B0.out.trans (hb.mono B0.out.size))
    clear hb
    go_wp2_with fail
    go_fit (G.out _ B1.out)
    rintro e w2 ⟨rfl, hb⟩
    have B2 := Lib.hid (B1.out.trans (hb.mono B1.out.size))
    clear hb
    go_wp2_with fail
    go_fit (A.out _ B2.out)
    rintro e w3 ⟨rfl, hb⟩
    have B3 := Lib.hid (B2.out.trans (hb.mono B2.out.size))
    clear hb
    go_wp2_with fail
    go_ret
    exact ⟨rfl, B3.out⟩
  obtain ⟨l1, l2⟩ := fewK_true hf
  obtain ⟨m1, m2⟩ := fewK_true hg
  have I := Lib.hid (fun w' (hb : Below w.heap.size w w') => implies_any v v' cap cap' L M (by omega) (fun x hx => by have := l2 x hx; omega) (by omega) (fun x hx => by have := m2 x hx; omega) w' (hT.below hb) (hr.below hb) (hr'.below hb))
  rw [hf] at F
  rw [hg] at G
  clear hf hg
  cases him : impliesB L M
  · rw [him] at I
    obtain ⟨k1, k2⟩ := complete_doc him
    have hwl := wit_len L M
    have hwm := fun x (h : x ∈ witD L M) => wit_mem (A := L) (B := M) (fun x hx => by have := l2 x hx; omega) (fun x hx => by have := m2 x hx; omega) h
    have WI := Lib.hid (fun w' (hb : Below w.heap.size w w') => wit_any v v' cap cap' L M (by omega) (fun x hx => by have := l2 x hx; omega) (by omega) (fun x hx => by have := m2 x hx; omega) w' (hr.below hb) (hr'.below hb))
    have S1 := Lib.hid (fun a c w' (hb : Below w.heap.size w w') (h : ReadsStr w' a (witD L M)) => satisfies_any a v c cap (witD L M) L (by omega) (fun x hx => by have := hwm x hx; omega) (by omega) (fun x hx => by have := l2 x hx; omega) w' (hT.below hb) h (hr.below hb))
    have S2 := Lib.hid (fun a c w' (hb : Below w.heap.size w w') (h : ReadsStr w' a (witD L M)) => satisfies_any a v' c cap' (witD L M) M (by omega) (fun x hx => by have := hwm x hx; omega) (by omega) (fun x hx => by have := m2 x hx; omega) w' (hT.below hb) h (hr'.below hb))
    rw [k1] at S1
    rw [k2] at S2
    clear him hr hr' hlen hlen' hcap hcap' hx hx' hT l1 l2 m1 m2 k1 k2 hwl hwm
    generalize witD L M = W at *
    go_enter Tryz.func8, Tryz.ntmps8
    go_wp2_with fail
    go_fit (F.out _ B0.out)
    rintro e w1 ⟨rfl, hb⟩
    have B1 := Lib.hid (B0.out.trans (hb.mono B0.out.size))
    clear hb
    go_wp2_with fail
    go_fit (G.out _ B1.out)
    rintro e w2 ⟨rfl, hb⟩
    have B2 := Lib.hid (B1.out.trans (hb.mono B1.out.size))
    clear hb
    go_wp2_with fail
    go_fit (I.out _ B2.out)
    rintro e w3 ⟨rfl, hb⟩
    have B3 := Lib.hid (B2.out.trans (hb.mono B2.out.size))
    clear hb
    go_wp2_with fail
    go_fit (WI.out _ B3.out)
    rintro e w4 ⟨u, rfl, ho, hb⟩
    have B4 := Lib.hid (B3.out.trans (hb.mono B3.out.size))
    obtain ⟨a, c, rfl, hlc, hcm, hrd⟩ := own_readsS ho rfl
    have R4 := Lib.hid hrd
    clear hb ho hlc hcm hrd
    go_wp2_with fail
    go_fit (S1.out _ _ _ B4.out R4.out)
    rintro e w5 ⟨rfl, hb⟩
    have R5 := Lib.hid (R4.out.below hb)
    have B5 := Lib.hid (B4.out.trans (hb.mono B4.out.size))
    clear hb
    go_wp2_with fail
    go_fit (S2.out _ _ _ B5.out R5.out)
    rintro e w6 ⟨rfl, hb⟩
    have B6 := Lib.hid (B5.out.trans (hb.mono B5.out.size))
    clear hb
    go_wp2_with fail
    go_fit (A.out _ B6.out)
    rintro e w7 ⟨rfl, hb⟩
    have B7 := Lib.hid (B6.out.trans (hb.mono B6.out.size))
    clear hb
    go_wp2_with fail
    go_ret
    exact ⟨rfl, B7.out⟩
  · rw [him] at I
    clear him hr hr' hlen hlen' hcap hcap' hx hx' hT l1 l2 m1 m2
    go_enter Tryz.func8, Tryz.ntmps8
    go_wp2_with fail
    go_fit (F.out _ B0.out)
    rintro e w1 ⟨rfl, hb⟩
    have B1 := Lib.hid (B0.out.trans (hb.mono B0.out.size))
    clear hb
    go_wp2_with fail
    go_fit (G.out _ B1.out)
    rintro e w2 ⟨rfl, hb⟩
    have B2 := Lib.hid (B1.out.trans (hb.mono B1.out.size))
    clear hb
    go_wp2_with fail
    go_fit (I.out _ B2.out)
    rintro e w3 ⟨rfl, hb⟩
    have B3 := Lib.hid (B2.out.trans (hb.mono B2.out.size))
    clear hb
    go_wp2_with fail
    go_fit (A.out _ B3.out)
    rintro e w4 ⟨rfl, hb⟩
    have B4 := Lib.hid (B3.out.trans (hb.mono B3.out.size))
    clear hb
    go_wp2_with fail
    go_ret
    exact ⟨rfl, B4.out⟩

set_option maxRecDepth 100000 in
theorem lifted (os : Os) (started : os.Started) (H : Type) (enc : TypeId × Value → H) :
    ReturnsInHanded {} Tryz.checked os 8 .any (fun w args => (Rows.labelCompleteSpec.pre enc Tryz.prog Tryz.f8 Rows.labelCompleteRow.domain false w args ∧ laidMetH Tryz.prog laid21 w) ∧ sizedMet enc Tryz.prog Tryz.f8 (OpenSpec.ofChange Rows.labelCompleteSpec) false w args) (Rows.labelCompleteSpec.post enc Tryz.prog Tryz.f8 false true false false) := by
  refine returnsInHanded_of_change_andShaped (C := Tryz.checked) (X := fun w _ => laidMetH Tryz.prog laid21 w) (fun _ _ _ hh h => h.of_heap hh) own started (by kernel_rfl) Tryz.func8
    (ChangeSpec.witness_shaped (enc := enc) (C := Tryz.checked) (os := os) (X := fun w _ => laidMetH Tryz.prog laid21 w) false (World.laidAll Tryz.prog os laid21) #[.slice none 0 0, .slice none 0 0] 8 (World.laidAll_os _ _ _) (World.shaped_of_ZipB (by kernel_rfl) (by kernel_rfl)) (by kernel_rfl) (by kernel_rfl) (by kernel_rfl) (lay21_met os _)) ?_
  intro W base args ds gs before hval0 hW hcnd hsz hL hsh _
  have hval : ∀ (j : Nat) t v, Tryz.f8.params[j]? = some t → args[j]? = some v → Value.okWide Tryz.prog W .any base t v := hval0
  have hW' := hW
  obtain ⟨p, q, hA0, hV, rfl, hfz, hnd⟩ := hW
  have hA : DataW.TrodAll enc Tryz.prog W 0 (fun _ => true) true Tryz.f8.params.toList args.toList ds p := hA0
  rw [Tryz.params8] at hA hval hsz
  obtain ⟨v0, vs0, d0, ds0, p0, q0, hargs, rfl, rfl, h0, r0⟩ := trodAll_cons hA
  obtain ⟨v1, vs1, d1, ds1, p1, q1, rfl, rfl, rfl, h1, r1⟩ := trodAll_cons r0
  obtain ⟨rfl, rfl, rfl⟩ := trodAll_nil r1
  obtain rfl : args = #[v0, v1] := by cases args; simp_all
  obtain ⟨rfl, rfl⟩ := trodVars_none hV
  obtain ⟨a0, len0, cap0, rfl⟩ := okWide_slice Tryz.underlying22 (hval 0 22 v0 rfl rfl)
  have k0 := h0
  have lt0 : ∀ x ∈ p0, x.block < W.heap.size := by obtain ⟨m, hm⟩ := k0; exact DataW.trod_lt m _ _ _ hm
  obtain ⟨L0, rfl, hL0, hlen0, hx0, hr0⟩ : ∃ L : List (List UInt8), len0 = L.length ∧ L.length ≤ cap0 ∧ cap0 ≤ 9223372036854775807 ∧ (∀ z ∈ L, z.length ≤ 9223372036854775807) ∧ ReadsStr W a0 L := by
    obtain ⟨fuel, hf⟩ := h0
    rcases Go.Deep.open_strs Tryz.underlying22 Tryz.underlying9 (by kernel_rfl) hf with ⟨hcs, _⟩ | ⟨x, l, c, m, Sx, hcs, _, hl, hm, hz, _, hcell⟩
    · simp [Value.cells] at hcs
      obtain ⟨rfl, rfl, rfl⟩ := hcs
      exact ⟨[], rfl, by simp, by simp, by simp, fun k hk => by simp at hk⟩
    · simp [Value.cells] at hcs
      obtain ⟨rfl, rfl, rfl⟩ := hcs
      exact reads_ofS hl hm (by simp at hz; omega) hcell
  obtain ⟨a1, len1, cap1, rfl⟩ := okWide_slice Tryz.underlying22 (hval 1 22 v1 rfl rfl)
  have k1 := h1
  have lt1 : ∀ x ∈ p1, x.block < W.heap.size := by obtain ⟨m, hm⟩ := k1; exact DataW.trod_lt m _ _ _ hm
  obtain ⟨L1, rfl, hL1, hlen1, hx1, hr1⟩ : ∃ L : List (List UInt8), len1 = L.length ∧ L.length ≤ cap1 ∧ cap1 ≤ 9223372036854775807 ∧ (∀ z ∈ L, z.length ≤ 9223372036854775807) ∧ ReadsStr W a1 L := by
    obtain ⟨fuel, hf⟩ := h1
    rcases Go.Deep.open_strs Tryz.underlying22 Tryz.underlying9 (by kernel_rfl) hf with ⟨hcs, _⟩ | ⟨x, l, c, m, Sx, hcs, _, hl, hm, hz, _, hcell⟩
    · simp [Value.cells] at hcs
      obtain ⟨rfl, rfl, rfl⟩ := hcs
      exact ⟨[], rfl, by simp, by simp, by simp, fun k hk => by simp at hk⟩
    · simp [Value.cells] at hcs
      obtain ⟨rfl, rfl, rfl⟩ := hcs
      exact reads_ofS hl hm (by simp at hz; omega) hcell
  clear hA0 hval0
  refine (walk a0 cap0 L0 hL0 hlen0 hx0 a1 cap1 L1 hL1 hlen1 hx1  W (tab21_of hL hsh) hr0 hr1).mono fun e W' ⟨he, bel⟩ => ?_
  subst he
  exact ⟨_, rfl, _, _, _, [], _, [], hW', trodAll_mk1 (shut_bool Tryz.underlying4 _), (trodAll_cons_mk (Below.trod laidOut (by kernel_rfl) (of_decide_eq_true (by kernel_rfl)) k0 bel lt0) (trodAll_cons_mk (Below.trod laidOut (by kernel_rfl) (of_decide_eq_true (by kernel_rfl)) k1 bel lt1) trodAll_mk0)), rfl, bel.frame _, fun h => by cases h⟩

theorem over : Rows.labelCompleteRow.holds Tryz.pinned (OpenSpec.ofChange Rows.labelCompleteSpec) :=
  OpenClaim.holds_of_wide 8 Tryz.f8 rfl rfl rfl rfl rfl rfl rfl ⟨rfl, rfl, rfl, rfl, rfl⟩ rfl rfl rfl rfl rfl (by kernel_rfl) Tryz.func8 (by kernel_rfl)
    (of_decide_eq_true (by kernel_rfl)) (by unfold Func.isWrapper; first | (rw [if_pos (by decide +kernel)]; kernel_rfl) | (rw [if_neg (by decide +kernel)]; exact ⟨rfl, rfl⟩))
    (fun os started H enc _ => lifted os started H enc)

/-- THE STATEMENT. -/
theorem proved : Rows.LabelCompleteCardSaid :=
  Claim7.holds_tied_plain_at .later [] [.data, .data, .data, .data, .sentinel, .sentinel, .data, .pinned] true Rows.labelCompleteCard.stood.harness true
    over (fun _ h => by cases h) (by kernel_rfl) (fun _ h => by cases h) labelComplete_row_tie rfl ⟨rfl, rfl⟩ (by kernel_rfl) rfl
    (fun f fn hf hfn => by
      obtain rfl : f = 8 := Option.some.inj ((show Tryz.prog.funcNamed "pipeline/pipelinelaw21.LabelComplete" = some 8 by kernel_rfl).symm.trans hf) |>.symm
      obtain rfl : fn = Tryz.f8 := (Option.some.inj (Tryz.func8.symm.trans hfn)).symm
      exact ⟨by kernel_rfl, fun j t ht => by
        rw [Tryz.params8] at ht
        have hm : t ∈ [22, 22] := by simpa using Array.mem_of_getElem? ht
        have hall : ([22, 22].all fun u => !Tryz.prog.wantsStandIn u) = true := by kernel_rfl
        exact (show Tryz.prog.wantsStandIn t = false by simpa using List.all_eq_true.1 hall t hm)⟩)
    (by kernel_rfl)
#print axioms proved
end Go.Proofs.YtglckcenjnieaaaGreatDoor.labelComplete
