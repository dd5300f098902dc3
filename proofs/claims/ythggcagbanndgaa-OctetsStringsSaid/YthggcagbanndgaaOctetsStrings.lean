/- OctetsStrings: for every string, octets.PutString writes what the document writes, and octets.TakeString takes it back. No condition on the inputs. -/
import Derived.Test.YthggcagbanndgaaOctJ
import Derived.ProofKit
import Derived.OpenShut
namespace Go.Proofs.Ythggcagbanndgaa.octetsStrings
open Go.ChangeShapes Go.WideShapes Go.ChangeAt Go.RowKit
open Go.ChangeMaps (open_string shut_string)
set_option linter.unusedVariables false

theorem own : ownKnob Try.prog.godebug = none := by kernel_rfl
theorem laidOut : laidOutB Try.prog = true := by kernel_rfl

set_option maxHeartbeats 4000000 in
set_option maxRecDepth 100000 in
theorem walk (s : ByteArray) (hs : s.size ≤ maxLen) (w : World) :
    Calls Try.prog 12 #[.string s] w fun e w' => e = .returned (.bool true) ∧ Below w.heap.size w w' := by
  by_cases hk : 70000 < s.size
  · have hk2 : decide ((70000 : Int) < (s.size : Int)) = true := by simp; omega
    go_enter Try.func12, Try.ntmps12
    go_wp2_with fail
    go_fit (lives2_any _)
    rintro e w3 ⟨rfl, hb3⟩
    have B3 := Lib.hid hb3
    clear hb3
    go_wp2_with fail
    go_ret
    exact ⟨rfl, B3.out⟩
  · have hk2 : decide ((70000 : Int) < (s.size : Int)) = false := by simp; omega
    have HSZ := Lib.hid (show s.size ≤ 70000 by omega)
    have TE := Lib.hid (takeS_enc s (by omega))
    clear hk hs
    go_enter Try.func12, Try.ntmps12
    go_wp2_with fail
    go_fit (PutString_any s (by have := HSZ.out; omega) _)
    rintro e w1 ⟨v1, rfl, ho1, hb1, _⟩
    obtain ⟨a1, c1, rfl, hlc1, hcm1, hr1⟩ := own_reads (l := encS s) ho1 (by omega)
    have T5 := TakeString_any a1 c1 (encS s) hlc1 (by unfold maxLen at hcm1; omega) w1 hr1
    rw [TE.out] at T5
    have HT5 := Lib.hid T5
    have B1 := Lib.hid hb1
    have hz1 := hb1.size
    have HR1 := Lib.hid hr1
    clear ho1 hb1 T5 hr1 hlc1 hcm1
    obtain ⟨le, hle⟩ : ∃ le, le = encS s := ⟨_, rfl⟩
    rw [← hle] at HT5 HR1 ⊢
    have HLE := Lib.hid hle
    clear hle TE
    go_wp2_with fail
    go_fit (HT5.out)
    rintro e w2 ⟨rfl, rfl⟩
    go_wp2_with fail
    go_fit (refPutString_any s (by have := HSZ.out; omega) _)
    rintro e w2 ⟨v2, rfl, ho2, hb2, _⟩
    rw [← HLE.out] at ho2
    obtain ⟨a2, c2, rfl, _, _, hr2⟩ := own_reads (l := le) ho2 (by omega)
    have HB2 := Lib.hid (B1.out.trans (hb2.mono hz1))
    have hz2 := hb2.size
    have HR2 := Lib.hid hr2
    have HR3 := Lib.hid (HR1.out.below hb2)
    clear ho2 hb2 hr2
    go_wp2_with fail
    go_fit (Bytes_same a1 a2 c1 c2 le _ HR3.out HR2.out)
    rintro e w4 ⟨rfl, rfl⟩
    go_wp2_with fail
    go_fit (lives2_any _)
    rintro e w3 ⟨rfl, hb3⟩
    have B3 := Lib.hid (HB2.out.trans (hb3.mono (by omega)))
    clear hb3
    go_wp2_with fail
    go_ret
    exact ⟨rfl, B3.out⟩


set_option maxRecDepth 100000 in
theorem lifted (os : Os) (started : os.Started) (H : Type) (enc : TypeId × Value → H) :
    ReturnsInHanded {} Try.checked os 12 .any (Rows.octetsStringsSpec.pre6 enc Try.prog Try.f12 Rows.octetsStringsRow.domain false) (Rows.octetsStringsSpec.post enc Try.prog Try.f12 false true false false) := by
  refine returnsInHanded_of_change (C := Try.checked) own started (by kernel_rfl) Try.func12
    (ChangeSpec.witness6 (enc := enc) (C := Try.checked) false ⟨#[], #[.string ⟨#[]⟩], []⟩ 8 (by kernel_rfl) (by kernel_rfl) (by kernel_rfl) (by kernel_rfl)) ?_
  intro W base args ds gs before hval0 hW hcnd _
  have hval : ∀ (j : Nat) t v, Try.f12.params[j]? = some t → args[j]? = some v → Value.okWide Try.prog W .any base t v := hval0
  have hW' := hW
  obtain ⟨p, q, hA0, hV, rfl, hfz, hnd⟩ := hW
  have hA : DataW.TrodAll enc Try.prog W 0 (fun _ => true) true Try.f12.params.toList args.toList ds p := hA0
  rw [Try.params12] at hA hval
  obtain ⟨v0, vs0, d0, ds0, p0, q0, hargs, rfl, rfl, h0, r0⟩ := trodAll_cons hA
  obtain ⟨rfl, rfl, rfl⟩ := trodAll_nil r0
  obtain rfl : args = #[v0] := by cases args; simp_all
  obtain ⟨rfl, rfl⟩ := trodVars_none hV
  obtain ⟨a0, rfl, rfl, rfl, w0⟩ := open_string Try.underlying9 (hval 0 9 v0 rfl rfl) h0
  clear hA0 hval0
  refine (walk a0 w0 W ).mono fun e W' ⟨he, bel⟩ => ?_
  subst he
  exact ⟨_, rfl, _, _, _, [], _, [], hW', trodAll_mk1 (shut_bool Try.underlying4 _), (trodAll_cons_mk (shut_string Try.underlying9 w0) trodAll_mk0), rfl, bel.frame _, fun h => by cases h⟩

theorem over : Rows.octetsStringsRow.holds Try.pinned (OpenSpec.ofChange Rows.octetsStringsSpec) :=
  OpenClaim.holds_of_wide 12 Try.f12 rfl rfl rfl rfl rfl rfl rfl ⟨rfl, rfl, rfl, rfl, rfl⟩ rfl rfl rfl rfl rfl (by kernel_rfl) Try.func12 (by kernel_rfl)
    (of_decide_eq_true (by kernel_rfl)) (by unfold Func.isWrapper; first | (rw [if_pos (by decide +kernel)]; kernel_rfl) | (rw [if_neg (by decide +kernel)]; exact ⟨rfl, rfl⟩))
    (fun os started H enc _ => lifted os started H enc)

/-- THE STATEMENT. -/
theorem proved : Rows.OctetsStringsSaid :=
  over
#print axioms proved
end Go.Proofs.Ythggcagbanndgaa.octetsStrings
