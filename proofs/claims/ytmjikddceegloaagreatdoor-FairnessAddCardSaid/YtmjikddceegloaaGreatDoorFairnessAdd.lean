/- A project that is added does not come before all others, and a change of the weight keeps the ratio, rounded up. -/
import Derived.Test.YtmjikddceegloaaGreatDoorTie
import Derived.Test.YtmjikddceegloaaGreatDoorCards
import Derived.Test.YtmjikddceegloaaGreatDoorFrTab
import Derived.Test.YtmjikddceegloaaGreatDoorFrY
import Derived.Test.YtmjikddceegloaaGreatDoorFuB
import Derived.ProofKit
import Derived.OpenShut
import Derived.LaidMore
import Derived.Stop.Joined
import Derived.SevenTiedAt
import Derived.SizedLaws
namespace Go.Proofs.YtmjikddceegloaaGreatDoor.fairnessAdd
open Go.ChangeShapes Go.WideShapes Go.ChangeAt Go.RowKit
open Go.ChangeMaps (open_string shut_string)
set_option linter.unusedVariables false

theorem own : ownKnob Tryz.prog.godebug = none := by kernel_rfl
theorem laidOut : laidOutB Tryz.prog = true := by kernel_rfl

set_option maxHeartbeats 4000000 in
set_option maxRecDepth 100000 in
theorem walk (v : Option Addr) (cap : Nat) (L : List Sha) (hc : L.length ≤ cap) (hv : v = none → cap = 0) (hlen : L.length * 32 ≤ 140737488351232) (_ : ∀ j (h : j < L.length), L[j].prj.length ≤ 140737488351232) (p : ByteArray) (c : Int) (hp : p.size ≤ 140737488355327) (_ : (Lit.int IntKind.i64 c).wf = true) (w : World) (_ : Tab23 w) (hr : ReadsH w v L) :
    Calls Tryz.prog 3 #[.slice v L.length cap, .string p, .int .i64 c] w fun e w' => e = .returned (.bool true) ∧ Below w.heap.size w w' := by
  have HR := Lib.hid hr
  have F := Lib.hid (fun b hb => few_any v cap L b hb (by omega) w hr)
  have A := Lib.hid (fun w' => awake_any w')
  by_cases hf : FewS L
  · have F1 := Lib.hid (F.out true ⟨fun _ => hf, fun _ => rfl⟩)
    clear F
    by_cases h100 : p.size ≤ 100
    · have hx : ∀ x ∈ L, x.prj.length ≤ 1000000 := fun x hx => by
        obtain ⟨i, hi, rfl⟩ := List.getElem_of_mem hx
        have := hf.names i hi
        omega
      have h66 := hf.len
      have CH := Lib.hid (fun w' (hb : Below w.heap.size w w') => add_any v cap L p c (by omega) (by omega) hx w' (HR.out.below hb))
      have RC := Lib.hid (fun w' (hb : Below w.heap.size w w') => refAdd_any v cap L p c (by omega) (by omega) hx hc hv w' (HR.out.below hb))
      have SM := Lib.hid (fun a a' k k' R (hR : R.length ≤ 1000000) w' h h' => same_any a a' k k' R hR w' h h')
      have hq : ¬ (100 : Int) < (p.size : Int) := by omega
      have HL := Lib.hid (show ∀ R, AddR L p.data.toList c R → R.1.length ≤ 1000000 from fun R h => by have := h.len; omega)
      clear hf hr hx hlen h66 h100
      go_enter Tryz.func3, Tryz.ntmps3
      go_wp2_with fail
      go_fit F1.out
      rintro e w1 ⟨rfl, rfl⟩
      go_wp2_with fail
      go_fit (CH.out _ (Below.refl _ _))
      rintro e w2 ⟨a2, c2, ⟨R2, E2⟩, rfl, hc2, hr2, hb2⟩
      have B2 := Lib.hid hb2
      have H2 := Lib.hid hr2
      have hl2 := HL.out (R2, E2) hc2
      have HC2 := Lib.hid hc2
      clear hb2 hr2 hc2
      go_wp2_with fail
      go_fit (RC.out _ B2.out)
      rintro e w3 ⟨a3, c3, ⟨R3, E3⟩, rfl, hc3, hr3, hb3⟩
      have B3 := Lib.hid (B2.out.trans (hb3.mono B2.out.size))
      obtain ⟨rfl, rfl⟩ := Prod.mk.inj (HC2.out.one hc3)
      have SM' := Lib.hid (SM.out a2 a3 c2 c3 R2 hl2 w3 (H2.out.below hb3) hr3)
      clear hb3 hr3 hc3 SM
      go_wp2_with fail
      go_fit SM'.out
      rintro e w4 ⟨rfl, hb4⟩
      have B4 := Lib.hid (B3.out.trans (hb4.mono B3.out.size))
      clear hb4 SM'
      go_wp2_with fail
      go_fit (A.out _)
      rintro e w5 ⟨rfl, hb5⟩
      have B5 := Lib.hid (B4.out.trans (hb5.mono B4.out.size))
      clear hb5
      go_wp2_with fail
      go_ret
      exact ⟨rfl, B5.out⟩
    · have hq : (100 : Int) < (p.size : Int) := by omega
      clear hf hr hlen
      go_enter Tryz.func3, Tryz.ntmps3
      go_wp2_with fail
      go_fit F1.out
      rintro e w1 ⟨rfl, rfl⟩
      go_wp2_with fail
      go_fit (A.out _)
      rintro e w2 ⟨rfl, hb⟩
      have B2 := Lib.hid hb
      clear hb
      go_wp2_with fail
      go_ret
      exact ⟨rfl, B2.out⟩
  · have F0 := Lib.hid (F.out false ⟨fun h => (by cases h), fun h => absurd h hf⟩)
    clear hf hr F hlen
    go_enter Tryz.func3, Tryz.ntmps3
    go_wp2_with fail
    go_fit F0.out
    rintro e w1 ⟨rfl, rfl⟩
    go_wp2_with fail
    go_fit (A.out _)
    rintro e w2 ⟨rfl, hb⟩
    have B2 := Lib.hid hb
    clear hb
    go_wp2_with fail
    go_ret
    exact ⟨rfl, B2.out⟩

set_option maxRecDepth 100000 in
theorem lifted (os : Os) (started : os.Started) (H : Type) (enc : TypeId × Value → H) :
    ReturnsInHanded {} Tryz.checked os 3 .any (fun w args => (Rows.fairnessAddSpec.pre enc Tryz.prog Tryz.f3 Rows.fairnessAddRow.domain false w args ∧ laidMetH Tryz.prog laid23 w) ∧ sizedMet enc Tryz.prog Tryz.f3 (OpenSpec.ofChange Rows.fairnessAddSpec) false w args) (Rows.fairnessAddSpec.post enc Tryz.prog Tryz.f3 false true false false) := by
  refine returnsInHanded_of_change_andShaped (C := Tryz.checked) (X := fun w _ => laidMetH Tryz.prog laid23 w) (fun _ _ _ hh h => h.of_heap hh) own started (by kernel_rfl) Tryz.func3
    (ChangeSpec.witness_shaped (enc := enc) (C := Tryz.checked) (os := os) (X := fun w _ => laidMetH Tryz.prog laid23 w) false (World.laidAll Tryz.prog os laid23) #[.slice none 0 0, .string ⟨#[]⟩, .int .i64 0] 8 (World.laidAll_os _ _ _) (World.shaped_of_ZipB (by kernel_rfl) (by kernel_rfl)) (by kernel_rfl) (by kernel_rfl) (by kernel_rfl) (lay23_met os _)) ?_
  intro W base args ds gs before hval0 hW hcnd hsz hL hsh _
  have hval : ∀ (j : Nat) t v, Tryz.f3.params[j]? = some t → args[j]? = some v → Value.okWide Tryz.prog W .any base t v := hval0
  have hW' := hW
  obtain ⟨p, q, hA0, hV, rfl, hfz, hnd⟩ := hW
  have hA : DataW.TrodAll enc Tryz.prog W 0 (fun _ => true) true Tryz.f3.params.toList args.toList ds p := hA0
  rw [Tryz.params3] at hA hval hsz
  obtain ⟨v0, vs0, d0, ds0, p0, q0, hargs, rfl, rfl, h0, r0⟩ := trodAll_cons hA
  obtain ⟨v1, vs1, d1, ds1, p1, q1, rfl, rfl, rfl, h1, r1⟩ := trodAll_cons r0
  obtain ⟨v2, vs2, d2, ds2, p2, q2, rfl, rfl, rfl, h2, r2⟩ := trodAll_cons r1
  obtain ⟨rfl, rfl, rfl⟩ := trodAll_nil r2
  obtain rfl : args = #[v0, v1, v2] := by cases args; simp_all
  obtain ⟨rfl, rfl⟩ := trodVars_none hV
  obtain ⟨a0, len0, cap0, rfl⟩ := okWide_slice Tryz.underlying22 (hval 0 22 v0 rfl rfl)
  have k0 := h0
  have lt0 : ∀ x ∈ p0, x.block < W.heap.size := by obtain ⟨m, hm⟩ := k0; exact DataW.trod_lt m _ _ _ hm
  have hw0 : (d0.weights Tryz.prog 22).all (· ≤ reachBytes) = true := List.all_eq_true.2 (fun n hn => List.all_eq_true.1 hsz n (DataW.weights_mem_each (j := 0) (t := 22) rfl rfl n hn))
  obtain ⟨hc0, hv0⟩ : len0 ≤ cap0 ∧ (a0 = none → cap0 = 0) := by
    obtain ⟨fuel, hf⟩ := h0
    exact open_caps fuel a0 len0 cap0 _ (by simpa [Value.cells] using hf)
  obtain ⟨L0, rfl, hlen0, hx0, hr0⟩ : ∃ L : List Sha, len0 = L.length ∧ L.length * 32 ≤ 140737488351232 ∧ (∀ j (h : j < L.length), L[j].prj.length ≤ 140737488351232) ∧ ReadsH W a0 L := by
    obtain ⟨fuel, hf⟩ := h0
    exact open_shares fuel a0 len0 cap0 _ (by simpa [Value.cells] using hf) hw0
  obtain ⟨a1, rfl, rfl, rfl, w1⟩ := open_string Tryz.underlying9 (hval 1 9 v1 rfl rfl) h1
  obtain ⟨a2, rfl, rfl, rfl, w2⟩ := open_int Tryz.underlying3 (hval 2 3 v2 rfl rfl) h2
  have z1 : a1.size ≤ 140737488355327 := by
    have h := sized_string hsz (j := 1) (t := 9) rfl rfl
    rw [Array.length_toList] at h
    exact Nat.le_trans h (by decide)
  clear hA0 hval0
  refine (walk a0 cap0 L0 hc0 hv0 hlen0 hx0 a1 a2 z1 w2 W (tab23_of hL hsh) hr0).mono fun e W' ⟨he, bel⟩ => ?_
  subst he
  exact ⟨_, rfl, _, _, _, [], _, [], hW', trodAll_mk1 (shut_bool Tryz.underlying4 _), (trodAll_cons_mk (Below.trod laidOut (by kernel_rfl) (of_decide_eq_true (by kernel_rfl)) k0 bel lt0) (trodAll_cons_mk (shut_string Tryz.underlying9 w1) (trodAll_cons_mk (shut_int Tryz.underlying3 w2) trodAll_mk0))), rfl, bel.frame _, fun h => by cases h⟩

theorem over : Rows.fairnessAddRow.holds Tryz.pinned (OpenSpec.ofChange Rows.fairnessAddSpec) :=
  OpenClaim.holds_of_wide 3 Tryz.f3 rfl rfl rfl rfl rfl rfl rfl ⟨rfl, rfl, rfl, rfl, rfl⟩ rfl rfl rfl rfl rfl (by kernel_rfl) Tryz.func3 (by kernel_rfl)
    (of_decide_eq_true (by kernel_rfl)) (by unfold Func.isWrapper; first | (rw [if_pos (by decide +kernel)]; kernel_rfl) | (rw [if_neg (by decide +kernel)]; exact ⟨rfl, rfl⟩))
    (fun os started H enc _ => lifted os started H enc)

/-- THE STATEMENT. -/
theorem proved : Rows.FairnessAddCardSaid :=
  Claim7.holds_tied_plain_at .later [] [.data, .pinned] true Rows.fairnessAddCard.stood.harness false
    over (fun _ h => by cases h) (by kernel_rfl) (fun _ h => by cases h) fairnessAdd_row_tie rfl ⟨rfl, rfl⟩ (by kernel_rfl) rfl
    (fun f fn hf hfn => by
      obtain rfl : f = 3 := Option.some.inj ((show Tryz.prog.funcNamed "pipeline/pipelinelaw23.FairnessAdd" = some 3 by kernel_rfl).symm.trans hf) |>.symm
      obtain rfl : fn = Tryz.f3 := (Option.some.inj (Tryz.func3.symm.trans hfn)).symm
      exact ⟨by kernel_rfl, fun j t ht => by
        rw [Tryz.params3] at ht
        have hm : t ∈ [22, 9, 3] := by simpa using Array.mem_of_getElem? ht
        have hall : ([22, 9, 3].all fun u => !Tryz.prog.wantsStandIn u) = true := by kernel_rfl
        exact (show Tryz.prog.wantsStandIn t = false by simpa using List.all_eq_true.1 hall t hm)⟩)
    (by kernel_rfl)
#print axioms proved
end Go.Proofs.YtmjikddceegloaaGreatDoor.fairnessAdd
