/- Shares as numbers and names (fairness): what is valid, where a project stands, ratios. -/
import Derived.Test.YtmjikddceegloaaGreatDoorIdnH
import Derived.Test.YtmjikddceegloaaGreatDoorIdnA
namespace Go.Proofs.YtmjikddceegloaaGreatDoor
open Go.RowKit Go.Lib

/-- A share: its project, its weight, what it was served. -/
structure Sha where
  prj : List UInt8
  wgt : Int
  srv : Int
def rightS (s : Sha) : Bool := nameB s.prj && decide (1 ≤ s.wgt ∧ s.wgt ≤ 1000) && decide (0 ≤ s.srv ∧ s.srv ≤ 1125899906842624)
/-- Is the share at i right, and behind the one before? -/
def OkAt (L : List Sha) (i : Nat) : Prop := ∀ h : i < L.length, rightS L[i] = true ∧ (∀ _ : 0 < i, cmpL (L[i - 1]'(by omega)).prj L[i].prj < 0)
structure ValidS (L : List Sha) : Prop where
  len : L.length ≤ 64
  ok : ∀ i, OkAt L i
theorem rightS_iff (s : Sha) : rightS s = true ↔ nameB s.prj = true ∧ (1 ≤ s.wgt ∧ s.wgt ≤ 1000) ∧ (0 ≤ s.srv ∧ s.srv ≤ 1125899906842624) := by
  unfold rightS
  rw [Bool.and_eq_true, Bool.and_eq_true, decide_eq_true_eq, decide_eq_true_eq, and_assoc]
theorem ValidS.right {L : List Sha} (h : ValidS L) {i : Nat} (hi : i < L.length) : nameB L[i].prj = true ∧ (1 ≤ L[i].wgt ∧ L[i].wgt ≤ 1000) ∧ (0 ≤ L[i].srv ∧ L[i].srv ≤ 1125899906842624) := (rightS_iff _).1 (h.ok i hi).1
theorem cmp_lt_trans {a b c : List UInt8} (h1 : cmpL a b < 0) (h2 : cmpL b c < 0) : cmpL a c < 0 := by
  have t1 := cmp_tot.tr a b c (by omega) (by omega)
  by_cases e : cmpL a c = 0
  · have e2 := (cmp_tot.eq a c).1 e
    subst e2
    have := cmp_tot.anti a b
    omega
  · omega
theorem ValidS.asc {L : List Sha} (h : ValidS L) : ∀ (d i : Nat) (hj : i + d + 1 < L.length), cmpL (L[i]'(by omega)).prj L[i + d + 1].prj < 0
  | 0, i, hj => (h.ok (i + 1) hj).2 (by omega)
  | d + 1, i, hj => cmp_lt_trans (h.asc d i (by omega)) ((h.ok (i + (d + 1) + 1) hj).2 (by omega))
theorem ValidS.lt {L : List Sha} (h : ValidS L) {i j : Nat} (hij : i < j) (hj : j < L.length) : cmpL (L[i]'(by omega)).prj L[j].prj < 0 := by
  have := h.asc (j - i - 1) i (by omega)
  simpa [show i + (j - i - 1) + 1 = j by omega] using this
theorem ValidS.inj {L : List Sha} (h : ValidS L) {i j : Nat} (hi : i < L.length) (hj : j < L.length) (e : L[i].prj = L[j].prj) : i = j := by
  have z : ∀ a, cmpL a a = 0 := fun a => (cmp_tot.eq a a).2 rfl
  rcases Nat.lt_trichotomy i j with hl | hl | hl
  · have := h.lt hl hj
    rw [e, z] at this
    omega
  · exact hl
  · have := h.lt hl hi
    rw [e, z] at this
    omega
/-- Does a ratio come first? -/
def lessR (a b : Sha) : Bool := decide (a.srv * b.wgt < b.srv * a.wgt)
end Go.Proofs.YtmjikddceegloaaGreatDoor
