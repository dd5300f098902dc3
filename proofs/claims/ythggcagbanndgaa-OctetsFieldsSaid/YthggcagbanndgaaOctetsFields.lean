/- OctetsFields: for every slice of bytes, octets.Fields returns the fields that the document returns, or its first error. No condition on the inputs. -/
import Derived.Test.YthggcagbanndgaaPrsH
import Derived.Test.YthggcagbanndgaaLives2
import Derived.ProofKit
import Derived.OpenShut
namespace Go.Proofs.Ythggcagbanndgaa.octetsFields
open Go.ChangeShapes Go.WideShapes Go.ChangeAt Go.RowKit
set_option linter.unusedVariables false

theorem own : ownKnob Try.prog.godebug = none := by kernel_rfl
theorem laidOut : laidOutB Try.prog = true := by kernel_rfl

set_option maxHeartbeats 4000000 in
set_option maxRecDepth 100000 in
theorem walk (v : Option Addr) (cap : Nat) (l : List UInt8) (hlen : l.length ≤ cap) (hcap : cap ≤ 9223372036854775807) (w : World) (hr : ReadsBytes w v l) :
    Calls Try.prog 14 #[.slice v l.length cap] w fun e w' => e = .returned (.bool true) ∧ Below w.heap.size w w' := by
  have HR := Lib.hid hr
  clear hr
  by_cases hk : 2000 < l.length
  · go_enter Try.func14, Try.ntmps14
    go_wp2_with fail
    go_fit (lives2_any _)
    rintro e w3 ⟨rfl, hb3⟩
    have B3 := Lib.hid hb3
    clear hb3
    go_wp2_with fail
    go_ret
    exact ⟨rfl, B3.out⟩
  · have T1 := Lib.hid (Fields_any v cap l hlen hcap (by omega) w HR.out)
    have T2 := Lib.hid (fun w' (hb : Below w.heap.size w w') => refFields_any v cap l hlen hcap (by omega) w' (HR.out.below hb))
    obtain ⟨p, hp⟩ : ∃ p, p = pTop l := ⟨_, rfl⟩
    rw [← hp] at T1 T2
    clear hp
    go_enter Try.func14, Try.ntmps14
    go_wp2_with fail
    go_fit (T1.out)
    rintro e w1 ⟨a1, c1, rfl, hb1, hr1, hl1⟩
    have B1 := Lib.hid hb1
    have z1 := hb1.size
    have R1 := Lib.hid hr1
    clear hb1 hr1
    go_wp2_with fail
    go_fit (T2.out _ B1.out)
    rintro e w2 ⟨a2, c2, rfl, hb2, hr2, _⟩
    have B2 := Lib.hid (B1.out.trans (hb2.mono z1))
    have z2 := hb2.size
    have R1' := Lib.hid (ReadsF.below hb2 _ _ _ R1.out)
    have R2 := Lib.hid hr2
    clear hb2 hr2
    go_wp2_with fail
    go_fit (Same_any 128 a1 a2 c1 c2 p.2 w2 (by omega) R1'.out R2.out)
    rintro e w3 ⟨rfl, n0, hw3⟩
    have B3 := Lib.hid (show Below w.heap.size w w3 from hw3 ▸ below_drewN B2.out n0)
    clear hw3
    go_wp2_with fail
    go_fit (lives2_any _)
    rintro e w4 ⟨rfl, hb4⟩
    have B4 := Lib.hid (B3.out.trans (hb4.mono B3.out.size))
    clear hb4
    go_wp2_with fail
    go_ret
    exact ⟨rfl, B4.out⟩

set_option maxRecDepth 100000 in
theorem lifted (os : Os) (started : os.Started) (H : Type) (enc : TypeId × Value → H) :
    ReturnsInHanded {} Try.checked os 14 .any (Rows.octetsFieldsSpec.pre6 enc Try.prog Try.f14 Rows.octetsFieldsRow.domain false) (Rows.octetsFieldsSpec.post enc Try.prog Try.f14 false true false false) := by
  refine returnsInHanded_of_change (C := Try.checked) own started (by kernel_rfl) Try.func14
    (ChangeSpec.witness6 (enc := enc) (C := Try.checked) false ⟨#[], #[.slice none 0 0], []⟩ 8 (by kernel_rfl) (by kernel_rfl) (by kernel_rfl) (by kernel_rfl)) ?_
  intro W base args ds gs before hval0 hW hcnd _
  have hval : ∀ (j : Nat) t v, Try.f14.params[j]? = some t → args[j]? = some v → Value.okWide Try.prog W .any base t v := hval0
  have hW' := hW
  obtain ⟨p, q, hA0, hV, rfl, hfz, hnd⟩ := hW
  have hA : DataW.TrodAll enc Try.prog W 0 (fun _ => true) true Try.f14.params.toList args.toList ds p := hA0
  rw [Try.params14] at hA hval
  obtain ⟨v0, vs0, d0, ds0, p0, q0, hargs, rfl, rfl, h0, r0⟩ := trodAll_cons hA
  obtain ⟨rfl, rfl, rfl⟩ := trodAll_nil r0
  obtain rfl : args = #[v0] := by cases args; simp_all
  obtain ⟨rfl, rfl⟩ := trodVars_none hV
  obtain ⟨a0, len0, cap0, rfl⟩ := okWide_slice Try.underlying45 (hval 0 45 v0 rfl rfl)
  have k0 := h0
  have lt0 : ∀ x ∈ p0, x.block < W.heap.size := by obtain ⟨m, hm⟩ := k0; exact DataW.trod_lt m _ _ _ hm
  obtain ⟨L0, rfl, hL0, hlen0, hr0⟩ : ∃ L : List UInt8, len0 = L.length ∧ L.length ≤ cap0 ∧ cap0 ≤ 9223372036854775807 ∧ ReadsBytes W a0 L := by
    obtain ⟨fuel, hf⟩ := h0
    rcases open_ints Try.underlying45 Try.underlying5 (by kernel_rfl) hf with ⟨hcs, _⟩ | ⟨x, l, c, zs, hcs, _, hl, hm, hz, _, hcell, hwz⟩
    · simp [Value.cells] at hcs
      obtain ⟨rfl, rfl, rfl⟩ := hcs
      exact ⟨[], rfl, by simp, by simp, fun k hk => by simp at hk⟩
    · simp [Value.cells] at hcs
      obtain ⟨rfl, rfl, rfl⟩ := hcs
      exact reads_of8 hl hm (by simpa using hz) hcell hwz
  clear hA0 hval0
  refine (walk a0 cap0 L0 hL0 hlen0  W hr0).mono fun e W' ⟨he, bel⟩ => ?_
  subst he
  exact ⟨_, rfl, _, _, _, [], _, [], hW', trodAll_mk1 (shut_bool Try.underlying4 _), (trodAll_cons_mk (Below.trod laidOut (by kernel_rfl) (of_decide_eq_true (by kernel_rfl)) k0 bel lt0) trodAll_mk0), rfl, bel.frame _, fun h => by cases h⟩

theorem over : Rows.octetsFieldsRow.holds Try.pinned (OpenSpec.ofChange Rows.octetsFieldsSpec) :=
  OpenClaim.holds_of_wide 14 Try.f14 rfl rfl rfl rfl rfl rfl rfl ⟨rfl, rfl, rfl, rfl, rfl⟩ rfl rfl rfl rfl rfl (by kernel_rfl) Try.func14 (by kernel_rfl)
    (of_decide_eq_true (by kernel_rfl)) (by unfold Func.isWrapper; first | (rw [if_pos (by decide +kernel)]; kernel_rfl) | (rw [if_neg (by decide +kernel)]; exact ⟨rfl, rfl⟩))
    (fun os started H enc _ => lifted os started H enc)

/-- THE STATEMENT. -/
theorem proved : Rows.OctetsFieldsSaid :=
  over
#print axioms proved
end Go.Proofs.Ythggcagbanndgaa.octetsFields
