/- What the program's elements are, against the document's: their sets of bytes. -/
import Derived.Test.YtaalfnfikjmomaaGlbT
import Derived.Test.YtaalfnfikjmomaaGlbM
namespace Go.Proofs.Ytaalfnfikjmomaa
open Go.RowKit Go.Lib

/-- The bytes of a list of items. -/
def itemSet (its : List (UInt8 × UInt8)) : Nat → Bool := fun c => its.any fun x => decide (x.1.toNat ≤ c) && decide (c ≤ x.2.toNat)
/-- A set with the bytes from lo on and before j. -/
def rng (f : Nat → Bool) (lo j : Nat) : Nat → Bool := fun c => f c || (decide (lo ≤ c) && decide (c < j))
theorem rng_start (f : Nat → Bool) (lo : Nat) : rng f lo lo = f := by
  funext c
  have : (decide (lo ≤ c) && decide (c < lo)) = false := by
    by_cases h : lo ≤ c
    · rw [decide_eq_false (by omega : ¬ c < lo), Bool.and_false]
    · rw [decide_eq_false h, Bool.false_and]
  rw [rng, this, Bool.or_false]
theorem rng_step (f : Nat → Bool) (lo j : Nat) (h : lo ≤ j) : upd (rng f lo j) j true = rng f lo (j + 1) := by
  funext c
  rw [upd, rng, rng]
  by_cases e : c = j
  · subst e
    simp [h]
  · rw [if_neg e]
    have : decide (c < j + 1) = decide (c < j) := decide_eq_decide.2 (by omega)
    rw [this]
theorem rng_end (its : List (UInt8 × UInt8)) (lo hi : UInt8) : rng (itemSet its) lo.toNat (hi.toNat + 1) = itemSet (its ++ [(lo, hi)]) := by
  funext c
  have : decide (c < hi.toNat + 1) = decide (c ≤ hi.toNat) := decide_eq_decide.2 (by omega)
  rw [rng, this, itemSet, itemSet, List.any_append]
  simp
theorem itemSet_nil : itemSet [] = fun _ => false := rfl
/-- The bytes that the program's element accepts, for an element of the document. -/
def accN (e : GE) : Nat → Bool := fun c => fitsB e c.toUInt8
def isLit (e : GE) : Bool := e.kind == 5
def litN (e : GE) : Nat := if e.kind = 5 then (e.items.headD (0, 0)).1.toNat else 0
/-- The cells of the program's element. -/
def elC (e : GE) : List Value := setC (accN e) ++ [Value.bool (manyB e), Value.bool (isLit e), Value.int .u8 (litN e : Nat)]
theorem toU8 (c : Nat) (h : c < 256) : c.toUInt8.toNat = c := by simp; omega
theorem acc_every : setC (accN ⟨1, []⟩) = setC (fun _ => true) := setC_congr fun _ _ => rfl
theorem u8_47 (c : Nat) (h : c < 256) : (c.toUInt8 != 47) = decide (c ≠ 47) := by
  by_cases e : c = 47
  · subst e; rfl
  · rw [decide_eq_true e, bne_iff_ne]
    intro e2
    have := congrArg UInt8.toNat e2
    rw [toU8 c h] at this
    exact e this
theorem acc_noSlash (k : Nat) (hk : k = 2 ∨ k = 3) : setC (accN ⟨k, []⟩) = setC (upd (fun _ => true) 47 false) := setC_congr fun c hc => by
  have h := u8_47 c hc
  unfold accN fitsB upd
  rw [h]
  rcases hk with rfl | rfl <;> by_cases e : c = 47 <;> simp [e]
theorem acc_class (its : List (UInt8 × UInt8)) : setC (accN ⟨4, its⟩) = setC (upd (itemSet its) 47 false) := setC_congr fun c hc => by
  have h := u8_47 c hc
  unfold accN fitsB upd
  rw [h]
  by_cases e : c = 47
  · simp [e]
  · simp [e, inItems, itemSet, toU8 c hc]
theorem acc_lit (d : UInt8) : setC (accN ⟨5, [(d, d)]⟩) = setC (upd (fun _ => false) d.toNat true) := setC_congr fun c hc => by
  unfold accN fitsB upd
  by_cases e : c = d.toNat
  · simp [e, inItems]
  · have : ¬ (d.toNat ≤ c ∧ c ≤ d.toNat) := by omega
    simp [e, inItems, toU8 c hc]
    omega
theorem el_lit (d : UInt8) : elC ⟨5, [(d, d)]⟩ = setC (upd (fun _ => false) d.toNat true) ++ [Value.bool false, Value.bool true, Value.int .u8 d.toNat] := by
  unfold elC
  rw [acc_lit]
  rfl
end Go.Proofs.Ytaalfnfikjmomaa
