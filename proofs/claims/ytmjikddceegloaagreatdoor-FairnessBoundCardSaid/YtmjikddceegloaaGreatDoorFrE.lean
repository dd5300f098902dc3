/- The contracts of the closures of find and Order, and of BinarySearchFunc and find (fairness). -/
import Derived.Test.YtmjikddceegloaaGreatDoorFrD
namespace Go.Proofs.YtmjikddceegloaaGreatDoor
open Go.RowKit Go.Lib
set_option linter.unusedSimpArgs false

def shV (s : Sha) : Value := .agg #[.string ⟨s.prj.toArray⟩, .int .i64 s.wgt, .int .i64 s.srv]
set_option maxHeartbeats 1000000 in
theorem findKey_any (s : Sha) (p : ByteArray) (hs : s.prj.length ≤ 1000000) (hp : p.size ≤ 1000000) (w : World) :
    Calls Tryz.prog 54 #[shV s, .string p] w fun e w' => e = .returned (.int .i64 (cmpL s.prj p.data.toList)) ∧ Below w.heap.size w w' := by
  obtain ⟨pa, ga, va⟩ := s
  dsimp only [shV]
  obtain ⟨sa, hsa⟩ : ∃ s : ByteArray, s = ⟨pa.toArray⟩ := ⟨_, rfl⟩
  have C := fun w => idCompare_any sa p (by rw [hsa]; show pa.toArray.size ≤ _; simp; dsimp only at hs; omega) (by omega) w
  rw [show sa.data.toList = pa by rw [hsa]] at C
  rw [← hsa]
  have C := Lib.hid C
  clear hsa hs
  go_enter Tryz.func54, Tryz.ntmps54
  go_wp2_with fail
  go_fit (C.out _)
  rintro e w1 ⟨rfl, hb⟩
  have BE := Lib.hid (((Below.refl w.heap.size w).alloc (Nat.le_refl _) _).trans (hb.mono (by simp)))
  clear hb
  go_wp2_with fail
  go_ret
  exact ⟨rfl, BE.out⟩
/-- What the closure of Order stands on: both shares' boxes. -/
structure BefH (w w1 : World) (p q : Nat) (sa sb : ByteArray) (a b : Sha) : Prop where
  one : ThH w1 p (.string sa) (.int .i64 a.wgt) (.int .i64 a.srv)
  two : ThH w1 q (.string sb) (.int .i64 b.wgt) (.int .i64 b.srv)
  bel : BelowD w w1
def BefS (w w1 : World) (p q : Nat) (sa sb : ByteArray) (a b : Sha) : Prop :=
  (w1.cell? ⟨p, 0, none⟩ = some (.string sa) ∧ w1.cell? ⟨p, 1, none⟩ = some (.int .i64 a.wgt) ∧ w1.cell? ⟨p, 2, none⟩ = some (.int .i64 a.srv)) ∧
  (w1.cell? ⟨q, 0, none⟩ = some (.string sb) ∧ w1.cell? ⟨q, 1, none⟩ = some (.int .i64 b.wgt) ∧ w1.cell? ⟨q, 2, none⟩ = some (.int .i64 b.srv)) ∧ BefH w w1 p q sa sb a b
theorem BefH.s {w w1 : World} {p q : Nat} {sa sb : ByteArray} {a b : Sha} (h : BefH w w1 p q sa sb a b) : (w1.cell? ⟨p, 0, none⟩ = some (.string sa) ∧ w1.cell? ⟨p, 1, none⟩ = some (.int .i64 a.wgt) ∧ w1.cell? ⟨p, 2, none⟩ = some (.int .i64 a.srv)) ∧
    (w1.cell? ⟨q, 0, none⟩ = some (.string sb) ∧ w1.cell? ⟨q, 1, none⟩ = some (.int .i64 b.wgt) ∧ w1.cell? ⟨q, 2, none⟩ = some (.int .i64 b.srv)) ∧ BefH w w1 p q sa sb a b := ⟨h.one.facts, h.two.facts, h⟩
theorem BefH.t {w w1 w2 : World} {p q : Nat} {sa sb : ByteArray} {a b : Sha} (h : (w1.cell? ⟨p, 0, none⟩ = some (.string sa) ∧ w1.cell? ⟨p, 1, none⟩ = some (.int .i64 a.wgt) ∧ w1.cell? ⟨p, 2, none⟩ = some (.int .i64 a.srv)) ∧
    (w1.cell? ⟨q, 0, none⟩ = some (.string sb) ∧ w1.cell? ⟨q, 1, none⟩ = some (.int .i64 b.wgt) ∧ w1.cell? ⟨q, 2, none⟩ = some (.int .i64 b.srv)) ∧ BefH w w1 p q sa sb a b) (hb : BelowD w1 w2) :
    (w2.cell? ⟨p, 0, none⟩ = some (.string sa) ∧ w2.cell? ⟨p, 1, none⟩ = some (.int .i64 a.wgt) ∧ w2.cell? ⟨p, 2, none⟩ = some (.int .i64 a.srv)) ∧
    (w2.cell? ⟨q, 0, none⟩ = some (.string sb) ∧ w2.cell? ⟨q, 1, none⟩ = some (.int .i64 b.wgt) ∧ w2.cell? ⟨q, 2, none⟩ = some (.int .i64 b.srv)) ∧ BefH w w2 p q sa sb a b :=
  (BefH.mk (h.2.2.one.below hb.1) (h.2.2.two.below hb.1) (h.2.2.bel.trans hb)).s
theorem BefH.b {w w1 : World} {p q : Nat} {sa sb : ByteArray} {a b : Sha} (h : (w1.cell? ⟨p, 0, none⟩ = some (.string sa) ∧ w1.cell? ⟨p, 1, none⟩ = some (.int .i64 a.wgt) ∧ w1.cell? ⟨p, 2, none⟩ = some (.int .i64 a.srv)) ∧
    (w1.cell? ⟨q, 0, none⟩ = some (.string sb) ∧ w1.cell? ⟨q, 1, none⟩ = some (.int .i64 b.wgt) ∧ w1.cell? ⟨q, 2, none⟩ = some (.int .i64 b.srv)) ∧ BefH w w1 p q sa sb a b) : BelowD w w1 := h.2.2.bel
set_option maxHeartbeats 4000000 in
set_option maxRecDepth 100000 in
theorem bef_any (a b : Sha) (ha : NumS a) (hb : NumS b) (la : a.prj.length ≤ 1000000) (lb : b.prj.length ≤ 1000000) (w : World) :
    Calls Tryz.prog 41 #[shV a, shV b] w fun e w' => e = .returned (.int .i64 (befC a b)) ∧ BelowD w w' := by
  obtain ⟨sa, hsa⟩ : ∃ s : ByteArray, s = ⟨a.prj.toArray⟩ := ⟨_, rfl⟩
  obtain ⟨sb, hsb⟩ : ∃ s : ByteArray, s = ⟨b.prj.toArray⟩ := ⟨_, rfl⟩
  have C := fun w => idCompareD_any sa sb (by rw [hsa]; show a.prj.toArray.size ≤ _; simp; omega) (by rw [hsb]; show b.prj.toArray.size ≤ _; simp; omega) w
  rw [show sa.data.toList = a.prj by rw [hsa], show sb.data.toList = b.prj by rw [hsb]] at C
  have R := Lib.hid (fun w => ratios_any a b sa sb ha hb w)
  have C := Lib.hid C
  dsimp only [shV]
  rw [← hsa, ← hsb]
  have HN := Lib.hid (show befC a b = if cmpR a b ≠ 0 then cmpR a b else cmpL a.prj b.prj from rfl)
  have O := Lib.hid (fun g c w h0 h1 => or_any (cmpR a b) (cmpL a.prj b.prj) g c w h0 h1)
  rw [← HN.out] at O
  clear ha hb la lb hsa hsb
  generalize befC a b = r at *
  generalize cmpR a b = x at *
  generalize cmpL a.prj b.prj = y at *
  have h0 : BefH w ((w.alloc (.cells #[.string sa, .int .i64 a.wgt, .int .i64 a.srv] 41)).alloc (.cells #[.string sb, .int .i64 b.wgt, .int .i64 b.srv] 41)) w.heap.size (w.heap.size + 1) sa sb a b := by
    refine ⟨(ThH.new w _ _ _).alloc _, ?_, ((BelowD.refl w).alloc _).alloc _⟩
    have := ThH.new (w.alloc (.cells #[.string sa, .int .i64 a.wgt, .int .i64 a.srv] 41)) (.string sb) (.int .i64 b.wgt) (.int .i64 b.srv)
    rwa [show (w.alloc (.cells #[.string sa, .int .i64 a.wgt, .int .i64 a.srv] 41)).heap.size = w.heap.size + 1 by simp] at this
  go_enter Tryz.func41, Tryz.ntmps41
  go_upto_region 1 with fail
  obtain ⟨wA, hwA⟩ : ∃ wA, wA = (w.alloc (.cells #[.string sa, .int .i64 a.wgt, .int .i64 a.srv] 41)).alloc (.cells #[.string sb, .int .i64 b.wgt, .int .i64 b.srv] 41) := ⟨_, rfl⟩
  rw [← hwA] at h0 ⊢
  have hs1 := BefH.t h0.s (BelowD.refl wA).drew
  clear hwA h0
  generalize hp : w.heap.size = p at *
  go_region_held3 (fun w' => (w'.cell? ⟨p, 0, none⟩ = some (.string sa) ∧ w'.cell? ⟨p, 1, none⟩ = some (.int .i64 a.wgt) ∧ w'.cell? ⟨p, 2, none⟩ = some (.int .i64 a.srv)) ∧ (w'.cell? ⟨p + 1, 0, none⟩ = some (.string sb) ∧ w'.cell? ⟨p + 1, 1, none⟩ = some (.int .i64 b.wgt) ∧ w'.cell? ⟨p + 1, 2, none⟩ = some (.int .i64 b.srv)) ∧ BefH w w' p (p + 1) sa sb a b) (first | exact hs1 | assumption | exact BefH.t (by assumption) (by assumption) | exact BefH.t (by assumption) ((BelowD.refl _).alloc _)) (first | (go_at_call 29; go_fit (R.out _); rintro e w5 ⟨rfl, hb5⟩) | (go_at_call 43; go_fit (C.out _); rintro e w6 ⟨rfl, hb6⟩) | (go_at_call 42; go_fit (O.out _ _ _ (by simp) (by simp)); rintro e w7 ⟨rfl, hb7⟩))
  all_goals
    go_wp2_with fail
    go_ret
    exact ⟨rfl, BefH.b (p := p) (q := p + 1) (sa := sa) (sb := sb) (a := a) (b := b) (by assumption)⟩
end Go.Proofs.YtmjikddceegloaaGreatDoor
