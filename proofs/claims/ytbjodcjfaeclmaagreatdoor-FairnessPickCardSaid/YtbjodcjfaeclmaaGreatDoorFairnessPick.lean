/- Pick returns the listed project with the smallest ratio, then the smallest name. -/
import Derived.Test.YtbjodcjfaeclmaaGreatDoorTie
import Derived.Test.YtbjodcjfaeclmaaGreatDoorCards
import Derived.Test.YtbjodcjfaeclmaaGreatDoorFrTab
import Derived.Test.YtbjodcjfaeclmaaGreatDoorFsB
import Derived.Test.YtbjodcjfaeclmaaGreatDoorOpH
import Derived.Test.YtbjodcjfaeclmaaGreatDoorOpenS
import Derived.ProofKit
import Derived.OpenShut
import Derived.LaidMore
import Derived.Stop.Joined
import Derived.SevenTiedAt
import Derived.SizedLaws
namespace Go.Proofs.YtbjodcjfaeclmaaGreatDoor.fairnessPick
open Go.ChangeShapes Go.WideShapes Go.ChangeAt Go.RowKit
set_option linter.unusedVariables false

theorem own : ownKnob Tryz.prog.godebug = none := by kernel_rfl
theorem laidOut : laidOutB Tryz.prog = true := by kernel_rfl

theorem outs_eq {L : List Sha} {P N : List (List UInt8)} {i : Int} (hN : OrdR L N) (h : (¬ ValidS L ∧ i = -1) ∨ (ValidS L ∧ BestI L P i)) : pickN N P = outB L i := by
  rcases h with ⟨hn, rfl⟩ | ⟨hV, hb⟩
  · rcases hN with ⟨_, rfl⟩ | ⟨hV, _⟩
    · rw [outB, dif_neg (by omega)]
      rfl
    · exact absurd hV hn
  · exact pick_best hV hN hb
set_option maxHeartbeats 4000000 in
set_option maxRecDepth 100000 in
theorem walk (v : Option Addr) (cap : Nat) (L : List Sha) (hlen : L.length * 32 ≤ 140737488351232) (_ : ∀ j (h : j < L.length), L[j].prj.length ≤ 140737488351232) (vp : Option Addr) (cp : Nat) (P : List (List UInt8)) (hlp : P.length ≤ cp) (hcp : cp ≤ 9223372036854775807) (_ : ∀ z ∈ P, z.length ≤ 9223372036854775807) (w : World) (_ : Tab23 w) (hr : ReadsH w v L) (hp : ReadsStr w vp P) :
    Calls Tryz.prog 5 #[.slice v L.length cap, .slice vp P.length cp] w fun e w' => e = .returned (.bool true) ∧ Below w.heap.size w w' := by
  have F := Lib.hid (fun b hb => few_any v cap L b hb (by omega) w hr)
  have SH := Lib.hid (fun b hb => short_any vp cp P b hb (by omega) w hp)
  have A := Lib.hid (fun w' => awake_any w')
  by_cases hf : FewS L
  · have F1 := Lib.hid (F.out true ⟨fun _ => hf, fun _ => rfl⟩)
    clear F
    by_cases hs : ShortS P
    · have S1 := Lib.hid (SH.out true ⟨fun _ => hs, fun _ => rfl⟩)
      clear SH
      have hx : ∀ x ∈ L, x.prj.length ≤ 1000000 := fun x hx => by
        obtain ⟨i, hi, rfl⟩ := List.getElem_of_mem hx
        have := hf.names i hi
        omega
      have h66 := hf.len
      have h100 := hs.len
      have PK := Lib.hid (pick_any v cap L vp cp P (by omega) hx (by omega) w hr hp)
      have RK := Lib.hid (fun w' (hb : Below w.heap.size w w') => refPick_any v cap L vp cp P (by omega) hx (by omega) w' (hr.below hb) (hp.below hb))
      clear hf hs hr hp hx hlen h66 h100 hlp hcp
      go_enter Tryz.func5, Tryz.ntmps5
      go_wp2_with fail
      go_fit F1.out
      rintro e w1 ⟨rfl, rfl⟩
      go_wp2_with fail
      go_fit S1.out
      rintro e w1 ⟨rfl, rfl⟩
      go_wp2_with fail
      go_fit PK.out
      rintro e w2 ⟨N, hN, rfl, hb2⟩
      have B2 := Lib.hid hb2
      have HN := Lib.hid hN
      clear hb2 hN
      go_wp2_with fail
      go_fit (RK.out _ B2.out)
      rintro e w3 ⟨i, hi, rfl, hb3⟩
      have B3 := Lib.hid (B2.out.trans (hb3.mono B2.out.size))
      rw [outs_eq HN.out hi]
      generalize outB L i = r at *
      obtain ⟨rs, rb⟩ := r
      dsimp only
      generalize (⟨rs.toArray⟩ : ByteArray) = sx at *
      have q1 : (sx.toList == sx.toList) = true := by simp
      have q2 : (rb == rb) = true := by simp
      clear hb3 hi HN
      go_wp2_with fail
      go_fit (A.out _)
      rintro e w5 ⟨rfl, hb5⟩
      have B5 := Lib.hid (B3.out.trans (hb5.mono B3.out.size))
      clear hb5
      go_wp2_with fail
      go_ret
      exact ⟨rfl, B5.out⟩
    · have S0 := Lib.hid (SH.out false ⟨fun h => (by cases h), fun h => absurd h hs⟩)
      clear SH hf hs hr hp hlen hlp hcp
      go_enter Tryz.func5, Tryz.ntmps5
      go_wp2_with fail
      go_fit F1.out
      rintro e w1 ⟨rfl, rfl⟩
      go_wp2_with fail
      go_fit S0.out
      rintro e w1 ⟨rfl, rfl⟩
      go_wp2_with fail
      go_fit (A.out _)
      rintro e w2 ⟨rfl, hb⟩
      have B2 := Lib.hid hb
      clear hb
      go_wp2_with fail
      go_ret
      exact ⟨rfl, B2.out⟩
  · have F0 := Lib.hid (F.out false ⟨fun h => (by cases h), fun h => absurd h hf⟩)
    clear hf hr hp F SH hlen hlp hcp
    go_enter Tryz.func5, Tryz.ntmps5
    go_wp2_with fail
    go_fit F0.out
    rintro e w1 ⟨rfl, rfl⟩
    go_wp2_with fail
    go_fit (A.out _)
    rintro e w2 ⟨rfl, hb⟩
    have B2 := Lib.hid hb
    clear hb
    go_wp2_with fail
    go_ret
    exact ⟨rfl, B2.out⟩

set_option maxRecDepth 100000 in
theorem lifted (os : Os) (started : os.Started) (H : Type) (enc : TypeId × Value → H) :
    ReturnsInHanded {} Tryz.checked os 5 .any (fun w args => (Rows.fairnessPickSpec.pre enc Tryz.prog Tryz.f5 Rows.fairnessPickRow.domain false w args ∧ laidMetH Tryz.prog laid23 w) ∧ sizedMet enc Tryz.prog Tryz.f5 (OpenSpec.ofChange Rows.fairnessPickSpec) false w args) (Rows.fairnessPickSpec.post enc Tryz.prog Tryz.f5 false true false false) := by
  refine returnsInHanded_of_change_andShaped (C := Tryz.checked) (X := fun w _ => laidMetH Tryz.prog laid23 w) (fun _ _ _ hh h => h.of_heap hh) own started (by kernel_rfl) Tryz.func5
    (ChangeSpec.witness_shaped (enc := enc) (C := Tryz.checked) (os := os) (X := fun w _ => laidMetH Tryz.prog laid23 w) false (World.laidAll Tryz.prog os laid23) #[.slice none 0 0, .slice none 0 0] 8 (World.laidAll_os _ _ _) (World.shaped_of_ZipB (by kernel_rfl) (by kernel_rfl)) (by kernel_rfl) (by kernel_rfl) (by kernel_rfl) (lay23_met os _)) ?_
  intro W base args ds gs before hval0 hW hcnd hsz hL hsh _
  have hval : ∀ (j : Nat) t v, Tryz.f5.params[j]? = some t → args[j]? = some v → Value.okWide Tryz.prog W .any base t v := hval0
  have hW' := hW
  obtain ⟨p, q, hA0, hV, rfl, hfz, hnd⟩ := hW
  have hA : DataW.TrodAll enc Tryz.prog W 0 (fun _ => true) true Tryz.f5.params.toList args.toList ds p := hA0
  rw [Tryz.params5] at hA hval hsz
  obtain ⟨v0, vs0, d0, ds0, p0, q0, hargs, rfl, rfl, h0, r0⟩ := trodAll_cons hA
  obtain ⟨v1, vs1, d1, ds1, p1, q1, rfl, rfl, rfl, h1, r1⟩ := trodAll_cons r0
  obtain ⟨rfl, rfl, rfl⟩ := trodAll_nil r1
  obtain rfl : args = #[v0, v1] := by cases args; simp_all
  obtain ⟨rfl, rfl⟩ := trodVars_none hV
  obtain ⟨a0, len0, cap0, rfl⟩ := okWide_slice Tryz.underlying22 (hval 0 22 v0 rfl rfl)
  have k0 := h0
  have lt0 : ∀ x ∈ p0, x.block < W.heap.size := by obtain ⟨m, hm⟩ := k0; exact DataW.trod_lt m _ _ _ hm
  have hw0 : (d0.weights Tryz.prog 22).all (· ≤ reachBytes) = true := List.all_eq_true.2 (fun n hn => List.all_eq_true.1 hsz n (DataW.weights_mem_each (j := 0) (t := 22) rfl rfl n hn))
  obtain ⟨L0, rfl, hlen0, hx0, hr0⟩ : ∃ L : List Sha, len0 = L.length ∧ L.length * 32 ≤ 140737488351232 ∧ (∀ j (h : j < L.length), L[j].prj.length ≤ 140737488351232) ∧ ReadsH W a0 L := by
    obtain ⟨fuel, hf⟩ := h0
    exact open_shares fuel a0 len0 cap0 _ (by simpa [Value.cells] using hf) hw0
  obtain ⟨a1, len1, cap1, rfl⟩ := okWide_slice Tryz.underlying32 (hval 1 32 v1 rfl rfl)
  have k1 := h1
  have lt1 : ∀ x ∈ p1, x.block < W.heap.size := by obtain ⟨m, hm⟩ := k1; exact DataW.trod_lt m _ _ _ hm
  obtain ⟨L1, rfl, hL1, hlen1, hx1, hr1⟩ : ∃ L : List (List UInt8), len1 = L.length ∧ L.length ≤ cap1 ∧ cap1 ≤ 9223372036854775807 ∧ (∀ z ∈ L, z.length ≤ 9223372036854775807) ∧ ReadsStr W a1 L := by
    obtain ⟨fuel, hf⟩ := h1
    rcases Go.Deep.open_strs Tryz.underlying32 Tryz.underlying9 (by kernel_rfl) hf with ⟨hcs, _⟩ | ⟨x, l, c, m, Sx, hcs, _, hl, hm, hz, _, hcell⟩
    · simp [Value.cells] at hcs
      obtain ⟨rfl, rfl, rfl⟩ := hcs
      exact ⟨[], rfl, by simp, by simp, by simp, fun k hk => by simp at hk⟩
    · simp [Value.cells] at hcs
      obtain ⟨rfl, rfl, rfl⟩ := hcs
      exact reads_ofS hl hm (by simp at hz; omega) hcell
  clear hA0 hval0
  refine (walk a0 cap0 L0 hlen0 hx0 a1 cap1 L1 hL1 hlen1 hx1  W (tab23_of hL hsh) hr0 hr1).mono fun e W' ⟨he, bel⟩ => ?_
  subst he
  exact ⟨_, rfl, _, _, _, [], _, [], hW', trodAll_mk1 (shut_bool Tryz.underlying4 _), (trodAll_cons_mk (Below.trod laidOut (by kernel_rfl) (of_decide_eq_true (by kernel_rfl)) k0 bel lt0) (trodAll_cons_mk (Below.trod laidOut (by kernel_rfl) (of_decide_eq_true (by kernel_rfl)) k1 bel lt1) trodAll_mk0)), rfl, bel.frame _, fun h => by cases h⟩

theorem over : Rows.fairnessPickRow.holds Tryz.pinned (OpenSpec.ofChange Rows.fairnessPickSpec) :=
  OpenClaim.holds_of_wide 5 Tryz.f5 rfl rfl rfl rfl rfl rfl rfl ⟨rfl, rfl, rfl, rfl, rfl⟩ rfl rfl rfl rfl rfl (by kernel_rfl) Tryz.func5 (by kernel_rfl)
    (of_decide_eq_true (by kernel_rfl)) (by unfold Func.isWrapper; first | (rw [if_pos (by decide +kernel)]; kernel_rfl) | (rw [if_neg (by decide +kernel)]; exact ⟨rfl, rfl⟩))
    (fun os started H enc _ => lifted os started H enc)

/-- THE STATEMENT. -/
theorem proved : Rows.FairnessPickCardSaid :=
  Claim7.holds_tied_plain_at .later [] [.data, .pinned] true Rows.fairnessPickCard.stood.harness false
    over (fun _ h => by cases h) (by kernel_rfl) (fun _ h => by cases h) fairnessPick_row_tie rfl ⟨rfl, rfl⟩ (by kernel_rfl) rfl
    (fun f fn hf hfn => by
      obtain rfl : f = 5 := Option.some.inj ((show Tryz.prog.funcNamed "pipeline/pipelinelaw23.FairnessPick" = some 5 by kernel_rfl).symm.trans hf) |>.symm
      obtain rfl : fn = Tryz.f5 := (Option.some.inj (Tryz.func5.symm.trans hfn)).symm
      exact ⟨by kernel_rfl, fun j t ht => by
        rw [Tryz.params5] at ht
        have hm : t ∈ [22, 32] := by simpa using Array.mem_of_getElem? ht
        have hall : ([22, 32].all fun u => !Tryz.prog.wantsStandIn u) = true := by kernel_rfl
        exact (show Tryz.prog.wantsStandIn t = false by simpa using List.all_eq_true.1 hall t hm)⟩)
    (by kernel_rfl)
#print axioms proved
end Go.Proofs.YtbjodcjfaeclmaaGreatDoor.fairnessPick
