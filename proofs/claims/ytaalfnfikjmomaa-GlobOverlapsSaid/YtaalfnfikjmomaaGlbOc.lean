/- What overlaps has seen: a map of sets of states (glob). -/
import Derived.Test.YtaalfnfikjmomaaGlbOb
import Derived.Maps.Own
import Derived.Maps.OwnOps
import Derived.Maps.Views
import Derived.Maps.Keyed
namespace Go.Proofs.Ytaalfnfikjmomaa
open Go.RowKit Go.Lib Go.Maps
/-- How a set of states in the map reads: nil, or the block of its words. -/
def slR (n : Nat) (v : Value) : Option (DataW Unit × List MemPlace) := match v with
  | .slice none 0 0 => some (.lit (.bool false), [])
  | .slice (some ⟨g, 0, none⟩) m c => if m = n ∧ c = n then some (.lit (.int .u64 g), []) else none
  | _ => none
theorem slR_nil (n : Nat) : slR n (.slice none 0 0) = some (.lit (.bool false), []) := rfl
theorem slR_row (n g : Nat) : slR n (.slice (some ⟨g, 0, none⟩) n n) = some (.lit (.int .u64 g), []) := by unfold slR; simp
theorem slR_inv_nil {n : Nat} {v : Value} {ps : List MemPlace} (h : slR n v = some (.lit (.bool false), ps)) : v = .slice none 0 0 := by
  unfold slR at h
  split at h
  · rfl
  · split at h
    · injection h with h; injection h with h _; injection h with h; cases h
    · cases h
  · cases h
theorem slR_inv_row {n g : Nat} {v : Value} {ps : List MemPlace} (h : slR n v = some (.lit (.int .u64 g), ps)) : v = .slice (some ⟨g, 0, none⟩) n n := by
  unfold slR at h
  split at h
  · injection h with h; injection h with h _; injection h with h; cases h
  · split at h
    · rename_i e
      injection h with h; injection h with h _; injection h with h; injection h with _ h
      obtain ⟨rfl, rfl⟩ := e
      rw [Int.ofNat_inj.1 h]
    · cases h
  · cases h
theorem law_int : Keyed Try.prog 3 := int_keyed Try.underlying3
theorem key_at (a : Nat) (h : a ≤ 4097) : keyOf Try.prog 3 (.int .i64 (a : Nat)) = some (.int .i64 (a : Nat)) := keyOf_int_mk Try.underlying3 (by
  have h1 : IntKind.i64.min = -9223372036854775808 := by decide
  have h2 : IntKind.i64.max = 9223372036854775807 := by decide
  simp only [Lit.wf, Bool.and_eq_true, decide_eq_true_eq]
  omega)
/-- What has been seen: a map from states of one machine to sets of states of the other. -/
def SeenAt (n K B : Nat) (w : World) (F : Nat → Option Nat) (S : Nat → Nat → Bool) : Prop :=
  (∃ (D : DataW Unit) (cnt : Nat), cnt ≤ (List.range 4098).countP (fun a => (F a).isSome) ∧ w.ownsMap Try.prog 3 (slR n) K cnt D ∧ IsMap D ∧ ∀ a, a ≤ 4097 → D.atKey (.int .i64 (a : Nat)) (.lit (.bool false)) = match F a with | none => .lit (.bool false) | some g => .lit (.int .u64 g)) ∧
    (∀ a g, a ≤ 4097 → F a = some g → StAt w g n (S a) ∧ B ≤ g) ∧ (∀ a, a ≤ 4097 → F a = none → ∀ b, S a b = false) ∧ (∀ a a' g, a ≤ 4097 → a' ≤ 4097 → F a = some g → F a' = some g → a = a')
end Go.Proofs.Ytaalfnfikjmomaa
