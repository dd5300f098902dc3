/- The document's digits, in numbers alone (label). -/
import Derived.Test.YtglckcenjnieaaaGreatDoorLaA
namespace Go.Proofs.YtglckcenjnieaaaGreatDoor
open Go.RowKit Go.Lib

/-- More than 16 digits, the first not 0, are too large. -/
theorem numL_long {l : List UInt8} (h : 16 < l.length) : numL l = none := by
  unfold numL
  refine if_neg fun ⟨hc, hu⟩ => ?_
  obtain ⟨_, h0, hd⟩ := (canB_iff l).1 hc
  match l, h with
  | c :: r, h =>
    have hcd := (isD_iff c).1 (hd c (List.mem_cons_self ..))
    have hne : c.toNat ≠ 48 := by
      intro e
      refine h0 ⟨by omega, ?_⟩
      rw [List.head?_cons]
      congr 1
      exact UInt8.toNat_inj.1 e
    have hf : (c.toNat - 48) * 10 ^ r.length ≤ unD (c :: r) := by
      unfold unD
      rw [List.foldl_cons]
      have := foldD_ge r (10 * 0 + (c.toNat - 48))
      simpa using this
    have hp : 10 ^ 16 ≤ 10 ^ r.length := Nat.pow_le_pow_right (by decide) (by rw [List.length_cons] at h; omega)
    have h1 : 1 * 10 ^ r.length ≤ (c.toNat - 48) * 10 ^ r.length := Nat.mul_le_mul_right _ (by omega)
    have e16 : 10 ^ 16 = 10000000000000000 := by decide
    omega
/-- Of the digits read so far: no more than this. -/
theorem unD_lt : ∀ (l : List UInt8), (∀ c ∈ l, isD c = true) → unD l < 10 ^ l.length := by
  have key : ∀ (l : List UInt8) (acc : Nat), (∀ c ∈ l, isD c = true) → l.foldl (fun a c => 10 * a + (c.toNat - 48)) acc < (acc + 1) * 10 ^ l.length := by
    intro l
    induction l with
    | nil => intro acc _; simp
    | cons c r ih =>
      intro acc hd
      have hcd := (isD_iff c).1 (hd c (List.mem_cons_self ..))
      have h := ih (10 * acc + (c.toNat - 48)) fun x hx => hd x (List.mem_cons_of_mem _ hx)
      rw [List.foldl_cons, List.length_cons, Nat.pow_succ, Nat.mul_comm (10 ^ r.length) 10, ← Nat.mul_assoc]
      exact Nat.lt_of_lt_of_le h (Nat.mul_le_mul_right _ (by omega))
  intro l hd
  have := key l 0 hd
  simpa [unD] using this
end Go.Proofs.YtglckcenjnieaaaGreatDoor
