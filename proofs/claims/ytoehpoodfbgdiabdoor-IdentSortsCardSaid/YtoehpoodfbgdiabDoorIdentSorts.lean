/- Any strings sorted, and whether they are ascending, are the document's; what was sorted is ascending. -/
import Derived.Test.YtoehpoodfbgdiabDoorTie
import Derived.Test.YtoehpoodfbgdiabDoorCards
import Derived.Test.YtoehpoodfbgdiabDoorIdnTab
import Derived.Test.YtoehpoodfbgdiabDoorIdnFew
import Derived.Test.YtoehpoodfbgdiabDoorOpenS
import Derived.ProofKit
import Derived.OpenShut
import Derived.LaidMore
import Derived.Stop.Joined
import Derived.SevenTiedAt
namespace Go.Proofs.YtoehpoodfbgdiabDoor.identSorts
open Go.ChangeShapes Go.WideShapes Go.ChangeAt Go.RowKit
set_option linter.unusedVariables false

theorem own : ownKnob Tryd.prog.godebug = none := by kernel_rfl
theorem laidOut : laidOutB Tryd.prog = true := by kernel_rfl

theorem sortR_len (L : List (List UInt8)) : (sortR L).length ≤ L.length := by
  have key : ∀ (L out : List (List UInt8)), (L.foldl (fun out x => insS x out (posI x out out.length)) out).length ≤ out.length + L.length := by
    intro L
    induction L with
    | nil => intro out; simp
    | cons x r ih =>
      intro out
      have h := ih (insS x out (posI x out out.length))
      have h2 := insS_len x out (posI x out out.length)
      rw [List.foldl_cons, List.length_cons]
      omega
  have h := key L []
  rw [List.length_nil, Nat.zero_add] at h
  exact h
set_option maxHeartbeats 4000000 in
set_option maxRecDepth 100000 in
theorem walk (v : Option Addr) (cap : Nat) (L : List (List UInt8)) (hlen : L.length ≤ cap) (hcap : cap ≤ 9223372036854775807) (hx : ∀ z ∈ L, z.length ≤ 9223372036854775807) (w : World) (hT : Tab4 w) (hr : ReadsStr w v L) :
    Calls Tryd.prog 9 #[.slice v L.length cap] w fun e w' => e = .returned (.bool true) ∧ Below w.heap.size w w' := by
  have HT := Lib.hid hT
  clear hT
  have HR := Lib.hid hr
  have F := Lib.hid (few_any v cap L 40 (by decide))
  have B0 := Lib.hid (Below.refl w.heap.size w)
  clear hr hlen hcap hx
  rw [show ((40 : Nat) : Int) = 40 from rfl] at F
  cases hf : fewB L 40
  · rw [hf] at F
    clear hf
    go_enter Tryd.func9, Tryd.ntmps9
    go_wp2_with fail
    go_fit (F.out _ HR.out)
    rintro e w1 ⟨rfl, hb⟩
    have B1 := Lib.hid (B0.out.trans (hb.mono B0.out.size))
    clear hb
    go_wp2_with fail
    go_fit (lives4_any _ (HT.out.below B1.out))
    rintro e w2 ⟨rfl, hb⟩
    have B2 := Lib.hid (B1.out.trans (hb.mono B1.out.size))
    clear hb
    go_wp2_with fail
    go_ret
    exact ⟨rfl, B2.out⟩
  · rw [hf] at F
    obtain ⟨l1, l2⟩ := fewB_true hf
    have hl : L.length ≤ 40 := l1
    have S := Lib.hid (idSorted_any v cap L (by omega) (fun x hx => by have := l2 x hx; omega))
    have SR := Lib.hid (refSorted_any v cap L (by omega) (fun x hx => by have := l2 x hx; omega))
    have AS := Lib.hid (idAscending_any v cap L (by omega) (fun x hx => by have := l2 x hx; omega))
    have AR := Lib.hid (fun w hr => (refAscending_any v cap L (by omega) (fun x hx => by have := l2 x hx; omega) w hr).mono fun e w' h => And.intro h.1 (below_dn h.2))
    have hsl : (sortR L).length ≤ 40 := Nat.le_trans (sortR_len L) hl
    have hsm : ∀ x ∈ sortR L, x.length ≤ 1000 := fun x hx => l2 x ((sortR_mem L x).1 hx)
    have SA := Lib.hid (fun (a : Option Addr) (c : Nat) w hr => idAscending_any a c (sortR L) (by omega) (fun x hx => by have := hsm x hx; omega) w hr)
    have hasc : ascB (sortR L) = true := (asc_iff _).2 (sortR_asc L)
    have SM := Lib.hid (fun (a b : Option Addr) (c d : Nat) w hr hs => (refSameS_any a b c d (sortR L) (sortR L) (by omega) (by omega) w hr hs).mono fun e w' h => And.intro h.1 (below_dn h.2))
    rw [show (decide (sortR L = sortR L)) = true by simp] at SM
    rw [hasc] at SA
    generalize ascB L = g at AS AR
    have tg : (g == g) = true := by simp
    clear hf l1 l2 hsm hasc
    go_enter Tryd.func9, Tryd.ntmps9
    go_wp2_with fail
    go_fit (F.out _ HR.out)
    rintro e w1 ⟨rfl, hb⟩
    have B1 := Lib.hid (B0.out.trans (hb.mono B0.out.size))
    clear hb
    go_wp2_with fail
    go_fit (S.out _ (HR.out.below B1.out))
    rintro e w2 ⟨u2, rfl, ho, hb⟩
    obtain ⟨a2, c2, rfl, _, _, hr2⟩ := own_readsS ho rfl
    have B2 := Lib.hid (B1.out.trans (hb.mono B1.out.size))
    have R2 := Lib.hid hr2
    clear hb ho hr2
    go_wp2_with fail
    go_fit (SR.out _ (HR.out.below B2.out))
    rintro e w3 ⟨u3, rfl, ho, hb⟩
    obtain ⟨a3, c3, rfl, _, _, hr3⟩ := own_readsS ho rfl
    have B3 := Lib.hid (B2.out.trans (hb.mono B2.out.size))
    have R3 := Lib.hid hr3
    have R23 := Lib.hid (R2.out.below hb)
    clear hb ho hr3
    go_wp2_with fail
    go_fit (SM.out _ _ _ _ _ R23.out R3.out)
    rintro e w4 ⟨rfl, hb⟩
    have B4 := Lib.hid (B3.out.trans (hb.mono B3.out.size))
    have R24 := Lib.hid (R23.out.below hb)
    clear hb
    go_wp2_with fail
    go_fit (AS.out _ (HR.out.below B4.out))
    rintro e w5 ⟨rfl, hb⟩
    have B5 := Lib.hid (B4.out.trans (hb.mono B4.out.size))
    have R25 := Lib.hid (R24.out.below hb)
    clear hb
    go_wp2_with fail
    go_fit (AR.out _ (HR.out.below B5.out))
    rintro e w6 ⟨rfl, hb⟩
    have B6 := Lib.hid (B5.out.trans (hb.mono B5.out.size))
    have R26 := Lib.hid (R25.out.below hb)
    clear hb
    go_wp2_with fail
    go_fit (SA.out _ _ _ R26.out)
    rintro e w7 ⟨rfl, hb⟩
    have B7 := Lib.hid (B6.out.trans (hb.mono B6.out.size))
    clear hb
    go_wp2_with fail
    go_fit (lives4_any _ (HT.out.below B7.out))
    rintro e w8 ⟨rfl, hb⟩
    have B8 := Lib.hid (B7.out.trans (hb.mono B7.out.size))
    clear hb
    go_wp2_with fail
    go_ret
    exact ⟨rfl, B8.out⟩

set_option maxRecDepth 100000 in
theorem lifted (os : Os) (started : os.Started) (H : Type) (enc : TypeId × Value → H) :
    ReturnsInHanded {} Tryd.checked os 9 .any (fun w args => (Rows.identSortsSpec.pre enc Tryd.prog Tryd.f9 Rows.identSortsRow.domain false w args ∧ laidMetH Tryd.prog laid4 w) ∧ sizedMet enc Tryd.prog Tryd.f9 (OpenSpec.ofChange Rows.identSortsSpec) false w args) (Rows.identSortsSpec.post enc Tryd.prog Tryd.f9 false true false false) := by
  refine returnsInHanded_of_change_andShaped (C := Tryd.checked) (X := fun w _ => laidMetH Tryd.prog laid4 w) (fun _ _ _ hh h => h.of_heap hh) own started (by kernel_rfl) Tryd.func9
    (ChangeSpec.witness_shaped (enc := enc) (C := Tryd.checked) (os := os) (X := fun w _ => laidMetH Tryd.prog laid4 w) false (World.laidAll Tryd.prog os laid4) #[.slice none 0 0] 8 (World.laidAll_os _ _ _) (World.shaped_of_ZipB (by kernel_rfl) (by kernel_rfl)) (by kernel_rfl) (by kernel_rfl) (by kernel_rfl) (lay4_met os _)) ?_
  intro W base args ds gs before hval0 hW hcnd hsz hL hsh _
  have hval : ∀ (j : Nat) t v, Tryd.f9.params[j]? = some t → args[j]? = some v → Value.okWide Tryd.prog W .any base t v := hval0
  have hW' := hW
  obtain ⟨p, q, hA0, hV, rfl, hfz, hnd⟩ := hW
  have hA : DataW.TrodAll enc Tryd.prog W 0 (fun _ => true) true Tryd.f9.params.toList args.toList ds p := hA0
  rw [Tryd.params9] at hA hval hsz
  obtain ⟨v0, vs0, d0, ds0, p0, q0, hargs, rfl, rfl, h0, r0⟩ := trodAll_cons hA
  obtain ⟨rfl, rfl, rfl⟩ := trodAll_nil r0
  obtain rfl : args = #[v0] := by cases args; simp_all
  obtain ⟨rfl, rfl⟩ := trodVars_none hV
  obtain ⟨a0, len0, cap0, rfl⟩ := okWide_slice Tryd.underlying27 (hval 0 27 v0 rfl rfl)
  have k0 := h0
  have lt0 : ∀ x ∈ p0, x.block < W.heap.size := by obtain ⟨m, hm⟩ := k0; exact DataW.trod_lt m _ _ _ hm
  obtain ⟨L0, rfl, hL0, hlen0, hx0, hr0⟩ : ∃ L : List (List UInt8), len0 = L.length ∧ L.length ≤ cap0 ∧ cap0 ≤ 9223372036854775807 ∧ (∀ z ∈ L, z.length ≤ 9223372036854775807) ∧ ReadsStr W a0 L := by
    obtain ⟨fuel, hf⟩ := h0
    rcases Go.Deep.open_strs Tryd.underlying27 Tryd.underlying9 (by kernel_rfl) hf with ⟨hcs, _⟩ | ⟨x, l, c, m, Sx, hcs, _, hl, hm, hz, _, hcell⟩
    · simp [Value.cells] at hcs
      obtain ⟨rfl, rfl, rfl⟩ := hcs
      exact ⟨[], rfl, by simp, by simp, by simp, fun k hk => by simp at hk⟩
    · simp [Value.cells] at hcs
      obtain ⟨rfl, rfl, rfl⟩ := hcs
      exact reads_ofS hl hm (by simp at hz; omega) hcell
  clear hA0 hval0
  refine (walk a0 cap0 L0 hL0 hlen0 hx0  W (tab4_of hsh) hr0).mono fun e W' ⟨he, bel⟩ => ?_
  subst he
  exact ⟨_, rfl, _, _, _, [], _, [], hW', trodAll_mk1 (shut_bool Tryd.underlying4 _), (trodAll_cons_mk (Below.trod laidOut (by kernel_rfl) (of_decide_eq_true (by kernel_rfl)) k0 bel lt0) trodAll_mk0), rfl, bel.frame _, fun h => by cases h⟩

theorem over : Rows.identSortsRow.holds Tryd.pinned (OpenSpec.ofChange Rows.identSortsSpec) :=
  OpenClaim.holds_of_wide 9 Tryd.f9 rfl rfl rfl rfl rfl rfl rfl ⟨rfl, rfl, rfl, rfl, rfl⟩ rfl rfl rfl rfl rfl (by kernel_rfl) Tryd.func9 (by kernel_rfl)
    (of_decide_eq_true (by kernel_rfl)) (by unfold Func.isWrapper; first | (rw [if_pos (by decide +kernel)]; kernel_rfl) | (rw [if_neg (by decide +kernel)]; exact ⟨rfl, rfl⟩))
    (fun os started H enc _ => lifted os started H enc)

/-- THE STATEMENT. -/
theorem proved : Rows.IdentSortsCardSaid :=
  Claim7.holds_tied_plain_at .later [] [.data, .pinned] true Rows.identSortsCard.stood.harness false
    over (fun _ h => by cases h) (by kernel_rfl) (fun _ h => by cases h) identSorts_row_tie rfl ⟨rfl, rfl⟩ (by kernel_rfl) rfl
    (fun f fn hf hfn => by
      obtain rfl : f = 9 := Option.some.inj ((show Tryd.prog.funcNamed "pipeline/pipelinelaw04.IdentSorts" = some 9 by kernel_rfl).symm.trans hf) |>.symm
      obtain rfl : fn = Tryd.f9 := (Option.some.inj (Tryd.func9.symm.trans hfn)).symm
      exact ⟨by kernel_rfl, fun j t ht => by
        rw [Tryd.params9] at ht
        have hm : t ∈ [27] := by simpa using Array.mem_of_getElem? ht
        have hall : ([27].all fun u => !Tryd.prog.wantsStandIn u) = true := by kernel_rfl
        exact (show Tryd.prog.wantsStandIn t = false by simpa using List.all_eq_true.1 hall t hm)⟩)
    (by kernel_rfl)
#print axioms proved
end Go.Proofs.YtoehpoodfbgdiabDoor.identSorts
