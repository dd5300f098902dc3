/- Numbers as labels write them (bytes alone): canonical decimals, and what Atoi and Itoa make of them. -/
import Derived.Test.YtglckcenjnieaaaGreatDoorIdpB
import Derived.Lib.AtoiAll
import Derived.Lib.ItoaNum
namespace Go.Proofs.YtglckcenjnieaaaGreatDoor
open Go.RowKit Go.Lib

def isD (c : UInt8) : Bool := decide (48 ≤ c.toNat) && decide (c.toNat ≤ 57)
def unD (l : List UInt8) : Nat := l.foldl (fun a c => 10 * a + (c.toNat - 48)) 0
theorem unD_snoc (l : List UInt8) (c : UInt8) : unD (l ++ [c]) = 10 * unD l + (c.toNat - 48) := by
  unfold unD
  rw [List.foldl_append]
  rfl
theorem foldD_ge : ∀ (l : List UInt8) (acc : Nat), acc * 10 ^ l.length ≤ l.foldl (fun a c => 10 * a + (c.toNat - 48)) acc
  | [], acc => by simp
  | c :: r, acc => by
    have h := foldD_ge r (10 * acc + (c.toNat - 48))
    rw [List.foldl_cons, List.length_cons, Nat.pow_succ]
    refine Nat.le_trans ?_ h
    rw [Nat.mul_comm (10 ^ r.length) 10, ← Nat.mul_assoc, Nat.mul_comm acc 10]
    exact Nat.mul_le_mul_right _ (Nat.le_add_right _ _)
theorem digD {n : Nat} (h : n < 10) : (UInt8.ofNat (48 + n)).toNat = 48 + n := by
  rw [UInt8.toNat_ofNat']
  omega
theorem isD_iff (c : UInt8) : isD c = true ↔ 48 ≤ c.toNat ∧ c.toNat ≤ 57 := by unfold isD; simp
theorem dec_unD : ∀ n, unD (Lib.decDigits n) = n := by
  intro n
  induction n using Nat.strongRecOn with
  | _ n ih =>
    rw [Lib.decDigits]
    split
    · rename_i h
      show 10 * 0 + ((UInt8.ofNat (48 + n)).toNat - 48) = n
      rw [digD h]
      omega
    · rename_i h
      rw [unD_snoc, ih _ (by omega), digD (by omega)]
      omega
theorem dec_isD : ∀ n c, c ∈ Lib.decDigits n → isD c = true := by
  intro n
  induction n using Nat.strongRecOn with
  | _ n ih =>
    intro c hc
    have hd : ∀ k, k < 10 → isD (UInt8.ofNat (48 + k)) = true := by
      intro k hk
      rw [isD_iff, digD hk]
      omega
    rw [Lib.decDigits] at hc
    split at hc
    · rename_i h
      rw [List.mem_singleton.1 hc]
      exact hd _ h
    · rcases List.mem_append.1 hc with hc | hc
      · exact ih _ (by omega) c hc
      · rw [List.mem_singleton.1 hc]
        exact hd _ (by omega)
theorem dec_ne : ∀ n, Lib.decDigits n ≠ [] := by
  intro n
  rw [Lib.decDigits]
  split <;> simp
theorem head_app {l r : List UInt8} (h : l ≠ []) : (l ++ r).head? = l.head? := by
  cases l with
  | nil => exact absurd rfl h
  | cons a t => rfl
theorem dec_head : ∀ n, 1 ≤ n → (Lib.decDigits n).head? ≠ some 48 := by
  intro n
  induction n using Nat.strongRecOn with
  | _ n ih =>
    intro h1
    rw [Lib.decDigits]
    split
    · rename_i h
      intro e
      injection e with e
      have := congrArg UInt8.toNat e
      rw [digD h] at this
      have h48 : (48 : UInt8).toNat = 48 := rfl
      omega
    · rename_i h
      rw [head_app (dec_ne _)]
      exact ih _ (by omega) (by omega)
/-- A decimal number without leading zeros. -/
def canB (l : List UInt8) : Bool := !l.isEmpty && !(decide (1 < l.length) && decide (l.head? = some 48)) && l.all isD
theorem canB_iff (l : List UInt8) : canB l = true ↔ l ≠ [] ∧ ¬ (1 < l.length ∧ l.head? = some 48) ∧ ∀ c ∈ l, isD c = true := by
  unfold canB
  simp only [Bool.and_eq_true, Bool.not_eq_true', List.isEmpty_eq_false_iff, Bool.and_eq_false_imp, decide_eq_true_eq, decide_eq_false_iff_not, List.all_eq_true, not_and, ne_eq, and_assoc]
theorem dec_can (n : Nat) : canB (Lib.decDigits n) = true := by
  rw [canB_iff]
  refine ⟨dec_ne n, ?_, dec_isD n⟩
  rintro ⟨h1, h2⟩
  by_cases h : 1 ≤ n
  · exact dec_head n h h2
  · obtain rfl : n = 0 := by omega
    rw [Lib.decDigits] at h1
    simp at h1
theorem can_dec : ∀ (k : Nat) (l : List UInt8), l.length = k → canB l = true → Lib.decDigits (unD l) = l := by
  intro k
  induction k with
  | zero =>
    intro l hl h
    rw [List.eq_nil_of_length_eq_zero hl] at h
    cases h
  | succ k ih =>
    intro l hl h
    obtain ⟨h1, h2, h3⟩ := (canB_iff l).1 h
    obtain ⟨i, c, rfl⟩ : ∃ i c, l = i ++ [c] := ⟨l.dropLast, l.getLast h1, (List.dropLast_concat_getLast h1).symm⟩
    have hc := (isD_iff c).1 (h3 c (by simp))
    have hcd : UInt8.ofNat (48 + (c.toNat - 48)) = c := by
      rw [← UInt8.toNat_inj, digD (by omega)]
      omega
    rw [unD_snoc]
    by_cases hi : i = []
    · subst hi
      rw [Lib.decDigits, dif_pos (by show 10 * 0 + (c.toNat - 48) < 10; omega)]
      show [UInt8.ofNat (48 + (10 * 0 + (c.toNat - 48)))] = [c]
      rw [Nat.mul_zero, Nat.zero_add, hcd]
    · have hil : 1 ≤ i.length := by
        cases i with
        | nil => exact absurd rfl hi
        | cons _ _ => simp
      rw [List.length_append, List.length_singleton, head_app hi] at h2
      have h48 : i.head? ≠ some 48 := fun e => h2 ⟨by omega, e⟩
      have hcan : canB i = true := (canB_iff i).2 ⟨hi, fun e => h48 e.2, fun x hx => h3 x (by simp [hx])⟩
      have hpos : 1 ≤ unD i := by
        cases i with
        | nil => exact absurd rfl hi
        | cons a r =>
          have ha := (isD_iff a).1 (h3 a (by simp))
          have ha2 : a.toNat ≠ 48 := fun e => h48 (by rw [List.head?_cons]; exact congrArg some (UInt8.toNat_inj.1 e))
          have hg := foldD_ge r (10 * 0 + (a.toNat - 48))
          have hp : 1 ≤ 10 ^ r.length := Nat.one_le_pow _ _ (by omega)
          have hm : 1 * 1 ≤ (10 * 0 + (a.toNat - 48)) * 10 ^ r.length := Nat.mul_le_mul (by omega) hp
          show 1 ≤ List.foldl _ (10 * 0 + (a.toNat - 48)) r
          omega
      rw [Lib.decDigits, dif_neg (by omega), show (10 * unD i + (c.toNat - 48)) / 10 = unD i by omega, show (10 * unD i + (c.toNat - 48)) % 10 = c.toNat - 48 by omega, ih i (by simp at hl; omega) hcan, hcd]
/-- The number that a text denotes, if it is one. -/
def numL (l : List UInt8) : Option Nat := if canB l = true ∧ unD l ≤ 9007199254740992 then some (unD l) else none
theorem parse_digits : ∀ (l : List UInt8) (acc : Nat), (∀ c ∈ l, 48 ≤ c.toNat ∧ c.toNat ≤ 57) → l.foldl (fun a c => 10 * a + (c.toNat - 48)) acc < 18446744073709551616 →
    Lib.parseUint10 acc l = .ok (l.foldl (fun a c => 10 * a + (c.toNat - 48)) acc)
  | [], acc, _, h => by rw [Lib.parseUint10]; rfl
  | c :: r, acc, hd, h => by
    have hc := hd c (List.mem_cons_self)
    have hg := foldD_ge r (10 * acc + (c.toNat - 48))
    have hp : 1 ≤ 10 ^ r.length := Nat.one_le_pow _ _ (by omega)
    have hm : (10 * acc + (c.toNat - 48)) * 1 ≤ (10 * acc + (c.toNat - 48)) * 10 ^ r.length := Nat.mul_le_mul_left _ hp
    rw [List.foldl_cons] at h ⊢
    rw [Lib.parseUint10, if_pos hc]
    split
    · omega
    · split
      · omega
      · rw [show acc * 10 + (c.toNat - 48) = 10 * acc + (c.toNat - 48) by omega]
        exact parse_digits r _ (fun x hx => hd x (List.mem_cons_of_mem _ hx)) h
theorem atoi_num {l : List UInt8} {n : Nat} (h : numL l = some n) : Lib.atoiAll l = .ok (n : Int) ∧ Lib.itoa (n : Int) = l ∧ n ≤ 9007199254740992 := by
  unfold numL at h
  split at h
  · rename_i hh
    obtain rfl := Option.some.inj h
    obtain ⟨hc, hu⟩ := hh
    obtain ⟨h1, h2, h3⟩ := (canB_iff l).1 hc
    refine ⟨?_, ?_, hu⟩
    · cases l with
      | nil => exact absurd rfl h1
      | cons c r =>
        have hd : ∀ x ∈ c :: r, 48 ≤ x.toNat ∧ x.toNat ≤ 57 := fun x hx => (isD_iff x).1 (h3 x hx)
        have hc0 := hd c (List.mem_cons_self)
        unfold Lib.atoiAll
        simp only []
        rw [if_neg (by omega), Lib.parseMag, if_neg (by simp), parse_digits _ 0 hd (by show unD (c :: r) < _; omega)]
        show (if _ then _ else if _ then _ else _) = Lib.NumEnd.ok ((unD (c :: r) : Nat) : Int)
        rw [if_neg (by show ¬ (¬ c.toNat = 45 ∧ 9223372036854775808 ≤ unD (c :: r)); omega), if_neg (by omega), if_neg (by omega)]
        rfl
    · rw [Lib.itoa, if_neg (by omega), Int.toNat_natCast]
      exact can_dec _ l rfl hc
  · cases h
theorem atoi_no {l : List UInt8} (h : numL l = none) (v : Int) (h0 : 0 ≤ v) (h1 : v ≤ 9007199254740992) : Lib.itoa v ≠ l := by
  intro e
  rw [Lib.itoa, if_neg (by omega)] at e
  subst e
  unfold numL at h
  rw [if_pos ⟨dec_can _, by rw [dec_unD]; omega⟩] at h
  cases h
end Go.Proofs.YtglckcenjnieaaaGreatDoor
