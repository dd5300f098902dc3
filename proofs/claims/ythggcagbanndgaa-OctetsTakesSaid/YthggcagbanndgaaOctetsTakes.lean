/- OctetsTakes: for every slice of bytes, octets.TakeUint, TakeInt and TakeString return what the document returns, or its first error. No condition on the inputs. -/
import Derived.Test.YthggcagbanndgaaOpenB
import Derived.ProofKit
import Derived.OpenShut
namespace Go.Proofs.Ythggcagbanndgaa.octetsTakes
open Go.ChangeShapes Go.WideShapes Go.ChangeAt Go.RowKit
set_option linter.unusedVariables false

theorem own : ownKnob Try.prog.godebug = none := by kernel_rfl
theorem laidOut : laidOutB Try.prog = true := by kernel_rfl

set_option maxHeartbeats 4000000 in
set_option maxRecDepth 100000 in
theorem walk (v : Option Addr) (cap : Nat) (l : List UInt8) (hlen : l.length ≤ cap) (hcap : cap ≤ 9223372036854775807) (w : World) (hr : ReadsBytes w v l) :
    Calls Try.prog 11 #[.slice v l.length cap] w fun e w' => e = .returned (.bool true) ∧ Below w.heap.size w w' := by
  have HR := Lib.hid hr
  have h9 : l.length ≤ 9223372036854775807 := by omega
  have T1 := Lib.hid (TakeUint_any v cap l h9 w hr)
  have T2 := Lib.hid (refTakeUint_any v cap l h9 w hr)
  have T3 := Lib.hid (TakeInt_any v cap l h9 w hr)
  have T4 := Lib.hid (refTakeInt_any v cap l h9 w hr)
  have T5 := Lib.hid (TakeString_any v cap l hlen hcap w hr)
  have T6 := Lib.hid (refTakeString_any v cap l hlen hcap w hr)
  clear hr
  by_cases hk : 1000 < l.length
  · go_enter Try.func11, Try.ntmps11
    go_wp2_with fail
    go_fit (lives2_any _)
    rintro e w3 ⟨rfl, hb3⟩
    have B3 := Lib.hid hb3
    clear hb3
    go_wp2_with fail
    go_ret
    exact ⟨rfl, B3.out⟩
  · obtain ⟨x1, hx1⟩ : ∃ x : Int, x = ((take l).1 : Nat) := ⟨_, rfl⟩
    obtain ⟨x2, hx2⟩ : ∃ x : Int, x = ((take l).2.1 : Nat) := ⟨_, rfl⟩
    obtain ⟨x3, hx3⟩ : ∃ x : Int, x = ((take l).2.2 : Nat) := ⟨_, rfl⟩
    obtain ⟨y1, hy1⟩ : ∃ x : Int, x = unzig (take l).1 := ⟨_, rfl⟩
    obtain ⟨s1, hs1⟩ : ∃ s : ByteArray, s = ⟨(takeS l).1.toArray⟩ := ⟨_, rfl⟩
    obtain ⟨s2, hs2⟩ : ∃ x : Int, x = ((takeS l).2.1 : Nat) := ⟨_, rfl⟩
    obtain ⟨s3, hs3⟩ : ∃ x : Int, x = ((takeS l).2.2 : Nat) := ⟨_, rfl⟩
    rw [← hx1, ← hx2, ← hx3] at T1 T2
    rw [← hy1, ← hx2, ← hx3] at T3 T4
    rw [← hs1, ← hs2, ← hs3] at T5 T6
    clear hx1 hx2 hx3 hy1 hs1 hs2 hs3
    have a1 : (x1 != x1) = false := by simp
    have a2 : (x2 != x2) = false := by simp
    have a3 : (x3 != x3) = false := by simp
    have a4 : (y1 != y1) = false := by simp
    go_enter Try.func11, Try.ntmps11
    go_wp2_with fail
    go_fit (T1.out)
    rintro e w1 ⟨rfl, rfl⟩
    go_wp2_with fail
    go_fit (T2.out)
    rintro e w1 ⟨rfl, rfl⟩
    go_wp2_with fail
    go_fit (T3.out)
    rintro e w1 ⟨rfl, rfl⟩
    go_wp2_with fail
    go_fit (T4.out)
    rintro e w1 ⟨rfl, rfl⟩
    go_wp2_with fail
    go_fit (T5.out)
    rintro e w1 ⟨rfl, rfl⟩
    go_wp2_with fail
    go_fit (T6.out)
    rintro e w1 ⟨rfl, rfl⟩
    go_wp2_with fail
    go_fit (lives2_any _)
    rintro e w3 ⟨rfl, hb3⟩
    have B3 := Lib.hid hb3
    clear hb3
    go_wp2_with fail
    go_ret
    exact ⟨rfl, B3.out⟩


set_option maxRecDepth 100000 in
theorem lifted (os : Os) (started : os.Started) (H : Type) (enc : TypeId × Value → H) :
    ReturnsInHanded {} Try.checked os 11 .any (Rows.octetsTakesSpec.pre6 enc Try.prog Try.f11 Rows.octetsTakesRow.domain false) (Rows.octetsTakesSpec.post enc Try.prog Try.f11 false true false false) := by
  refine returnsInHanded_of_change (C := Try.checked) own started (by kernel_rfl) Try.func11
    (ChangeSpec.witness6 (enc := enc) (C := Try.checked) false ⟨#[], #[.slice none 0 0], []⟩ 8 (by kernel_rfl) (by kernel_rfl) (by kernel_rfl) (by kernel_rfl)) ?_
  intro W base args ds gs before hval0 hW hcnd _
  have hval : ∀ (j : Nat) t v, Try.f11.params[j]? = some t → args[j]? = some v → Value.okWide Try.prog W .any base t v := hval0
  have hW' := hW
  obtain ⟨p, q, hA0, hV, rfl, hfz, hnd⟩ := hW
  have hA : DataW.TrodAll enc Try.prog W 0 (fun _ => true) true Try.f11.params.toList args.toList ds p := hA0
  rw [Try.params11] at hA hval
  obtain ⟨v0, vs0, d0, ds0, p0, q0, hargs, rfl, rfl, h0, r0⟩ := trodAll_cons hA
  obtain ⟨rfl, rfl, rfl⟩ := trodAll_nil r0
  obtain rfl : args = #[v0] := by cases args; simp_all
  obtain ⟨rfl, rfl⟩ := trodVars_none hV
  obtain ⟨a0, len0, cap0, rfl⟩ := okWide_slice Try.underlying45 (hval 0 45 v0 rfl rfl)
  have k0 := h0
  have lt0 : ∀ x ∈ p0, x.block < W.heap.size := by obtain ⟨m, hm⟩ := k0; exact DataW.trod_lt m _ _ _ hm
  obtain ⟨L0, rfl, hL0, hlen0, hr0⟩ : ∃ L : List UInt8, len0 = L.length ∧ L.length ≤ cap0 ∧ cap0 ≤ 9223372036854775807 ∧ ReadsBytes W a0 L := by
    obtain ⟨fuel, hf⟩ := h0
    rcases open_ints Try.underlying45 Try.underlying5 (by kernel_rfl) hf with ⟨hcs, _⟩ | ⟨x, l, c, zs, hcs, _, hl, hm, hz, _, hcell, hwz⟩
    · simp [Value.cells] at hcs
      obtain ⟨rfl, rfl, rfl⟩ := hcs
      exact ⟨[], rfl, by simp, by simp, fun k hk => by simp at hk⟩
    · simp [Value.cells] at hcs
      obtain ⟨rfl, rfl, rfl⟩ := hcs
      exact reads_of8 hl hm (by simpa using hz) hcell hwz
  clear hA0 hval0
  refine (walk a0 cap0 L0 hL0 hlen0  W hr0).mono fun e W' ⟨he, bel⟩ => ?_
  subst he
  exact ⟨_, rfl, _, _, _, [], _, [], hW', trodAll_mk1 (shut_bool Try.underlying4 _), (trodAll_cons_mk (Below.trod laidOut (by kernel_rfl) (of_decide_eq_true (by kernel_rfl)) k0 bel lt0) trodAll_mk0), rfl, bel.frame _, fun h => by cases h⟩

theorem over : Rows.octetsTakesRow.holds Try.pinned (OpenSpec.ofChange Rows.octetsTakesSpec) :=
  OpenClaim.holds_of_wide 11 Try.f11 rfl rfl rfl rfl rfl rfl rfl ⟨rfl, rfl, rfl, rfl, rfl⟩ rfl rfl rfl rfl rfl (by kernel_rfl) Try.func11 (by kernel_rfl)
    (of_decide_eq_true (by kernel_rfl)) (by unfold Func.isWrapper; first | (rw [if_pos (by decide +kernel)]; kernel_rfl) | (rw [if_neg (by decide +kernel)]; exact ⟨rfl, rfl⟩))
    (fun os started H enc _ => lifted os started H enc)

/-- THE STATEMENT. -/
theorem proved : Rows.OctetsTakesSaid :=
  over
#print axioms proved
end Go.Proofs.Ythggcagbanndgaa.octetsTakes
