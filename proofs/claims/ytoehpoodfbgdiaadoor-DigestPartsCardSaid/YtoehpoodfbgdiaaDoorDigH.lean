/- What the checksum detects: any change within four bytes. The plain functions alone. -/
import Derived.Test.YtoehpoodfbgdiaaDoorDigG
namespace Go.Proofs.YtoehpoodfbgdiaaDoor
open Go.RowKit Go.Lib

theorem xor_div (a b n : Nat) : (a ^^^ b) / 2 ^ n = a / 2 ^ n ^^^ b / 2 ^ n := by
  rw [← Nat.shiftRight_eq_div_pow, ← Nat.shiftRight_eq_div_pow, ← Nat.shiftRight_eq_div_pow, Nat.shiftRight_xor_distrib]
theorem xor_cancel {a b c : Nat} (h : a ^^^ c = b ^^^ c) : a = b := by
  have h2 : (a ^^^ c) ^^^ c = (b ^^^ c) ^^^ c := by rw [h]
  rwa [Nat.xor_assoc, Nat.xor_assoc, Nat.xor_self, Nat.xor_zero, Nat.xor_zero] at h2
theorem top_set {a : Nat} (h : a < 2147483648) : (a ^^^ 3988292384) / 2 ^ 31 = 1 := by
  rw [xor_div, Nat.div_eq_of_lt (by rw [show (2 : Nat) ^ 31 = 2147483648 by decide]; exact h)]
  decide
theorem top_clear {a : Nat} (h : a < 2147483648) : a / 2 ^ 31 = 0 := Nat.div_eq_of_lt (by rw [show (2 : Nat) ^ 31 = 2147483648 by decide]; exact h)

theorem crcBit_inj {r s c : Nat} (hr : r < 4294967296) (hs : s < 4294967296) (h : crcBit r c = crcBit s c) : r = s := by
  have r2 : r / 2 < 2147483648 := by omega
  have s2 : s / 2 < 2147483648 := by omega
  unfold crcBit at h
  by_cases h1 : r % 2 ≠ c % 2
  · by_cases h2 : s % 2 ≠ c % 2
    · rw [if_pos h1, if_pos h2] at h
      have := xor_cancel h
      omega
    · rw [if_pos h1, if_neg h2] at h
      have := top_set r2
      rw [h, top_clear s2] at this
      omega
  · by_cases h2 : s % 2 ≠ c % 2
    · rw [if_neg h1, if_pos h2] at h
      have := top_set s2
      rw [← h, top_clear r2] at this
      omega
    · rw [if_neg h1, if_neg h2] at h
      omega
theorem crcB_inj : ∀ (k : Nat) {r s c : Nat}, r < 4294967296 → s < 4294967296 → crcB k r c = crcB k s c → r = s
  | 0, _, _, _, _, _, h => h
  | k + 1, _, _, c, hr, hs, h => crcBit_inj hr hs (crcB_inj k (crcBit_lt c hr) (crcBit_lt c hs) h)
theorem crcL_inj : ∀ (l : List UInt8) {r s : Nat}, r < 4294967296 → s < 4294967296 → crcL r l = crcL s l → r = s
  | [], _, _, _, _, h => h
  | b :: l, _, _, hr, hs, h => crcB_inj 8 hr hs (crcL_inj l (crcB_lt 8 b.toNat hr) (crcB_lt 8 b.toNat hs) h)

/-- Two states that differ above their m lowest bits stay apart, one bit less each time. -/
theorem far_step {m x y c d : Nat} (hm : m ≤ 30) (hx : x < 4294967296) (hy : y < 4294967296) (h : x / 2 ^ (m + 1) ≠ y / 2 ^ (m + 1)) : crcBit x c / 2 ^ m ≠ crcBit y d / 2 ^ m := by
  have x2 : x / 2 < 2147483648 := by omega
  have y2 : y / 2 < 2147483648 := by omega
  have ex : x / 2 / 2 ^ m = x / 2 ^ (m + 1) := by rw [Nat.div_div_eq_div_mul, Nat.pow_succ, Nat.mul_comm]
  have ey : y / 2 / 2 ^ m = y / 2 ^ (m + 1) := by rw [Nat.div_div_eq_div_mul, Nat.pow_succ, Nat.mul_comm]
  have up : ∀ a : Nat, a / 2 ^ m / 2 ^ (31 - m) = a / 2 ^ 31 := by
    intro a
    rw [Nat.div_div_eq_div_mul, ← Nat.pow_add, show m + (31 - m) = 31 by omega]
  unfold crcBit
  intro e
  by_cases h1 : x % 2 ≠ c % 2
  · by_cases h2 : y % 2 ≠ d % 2
    · rw [if_pos h1, if_pos h2, xor_div, xor_div, ex, ey] at e
      exact h (xor_cancel e)
    · rw [if_pos h1, if_neg h2] at e
      have e2 : (x / 2 ^^^ 3988292384) / 2 ^ m / 2 ^ (31 - m) = y / 2 / 2 ^ m / 2 ^ (31 - m) := by rw [e]
      rw [up, up, top_set x2, top_clear y2] at e2
      omega
  · by_cases h2 : y % 2 ≠ d % 2
    · rw [if_neg h1, if_pos h2] at e
      have e2 : x / 2 / 2 ^ m / 2 ^ (31 - m) = (y / 2 ^^^ 3988292384) / 2 ^ m / 2 ^ (31 - m) := by rw [e]
      rw [up, up, top_set y2, top_clear x2] at e2
      omega
    · rw [if_neg h1, if_neg h2, ex, ey] at e
      exact h e
theorem far_run : ∀ (j m x y c d : Nat), j ≤ m → m ≤ 31 → x < 4294967296 → y < 4294967296 → x / 2 ^ m ≠ y / 2 ^ m → crcB j x c ≠ crcB j y d
  | 0, m, x, y, c, d, _, _, _, _, h => fun e => h (by rw [show x = y from e])
  | j + 1, 0, _, _, _, _, hj, _, _, _, _ => by omega
  | j + 1, m + 1, x, y, c, d, hj, hm, hx, hy, h => far_run j m _ _ (c / 2) (d / 2) (by omega) (by omega) (crcBit_lt c hx) (crcBit_lt d hy) (far_step (by omega) hx hy h)
theorem far_begin {x c d : Nat} (hx : x < 4294967296) (h : c % 2 ≠ d % 2) : crcBit x c / 2 ^ 31 ≠ crcBit x d / 2 ^ 31 := by
  have x2 : x / 2 < 2147483648 := by omega
  unfold crcBit
  by_cases h1 : x % 2 ≠ c % 2
  · rw [if_pos h1, if_neg (by omega), top_set x2, top_clear x2]; omega
  · rw [if_neg h1, if_pos (by omega), top_set x2, top_clear x2]; omega
/-- Different bits, at most 32 of them, from one state lead to different states. -/
theorem crcB_apart : ∀ (k x c d : Nat), k ≤ 32 → x < 4294967296 → c % 2 ^ k ≠ d % 2 ^ k → crcB k x c ≠ crcB k x d
  | 0, _, _, _, _, _, h => by simp [Nat.mod_one] at h
  | k + 1, x, c, d, hk, hx, h => by
    by_cases h2 : c % 2 = d % 2
    · have e : crcBit x c = crcBit x d := by unfold crcBit; rw [h2]
      have h3 : c / 2 % 2 ^ k ≠ d / 2 % 2 ^ k := by
        intro e3
        apply h
        rw [Nat.pow_succ, Nat.mul_comm, Nat.mod_mul, Nat.mod_mul, e3, h2]
      have := crcB_apart k (crcBit x c) (c / 2) (d / 2) (by omega) (crcBit_lt c hx) h3
      rw [crcB, crcB, ← e]
      exact this
    · exact far_run k 31 _ _ _ _ (by omega) (by omega) (crcBit_lt c hx) (crcBit_lt d hx) (far_begin hx h2)
theorem crcBit_mod (x c k : Nat) : crcBit x (c % 2 ^ (k + 1)) = crcBit x c := by
  unfold crcBit
  rw [Nat.mod_mod_of_dvd c (show 2 ∣ 2 ^ (k + 1) from ⟨2 ^ k, by rw [Nat.pow_succ, Nat.mul_comm]⟩)]
theorem crcB_mod : ∀ (k x c : Nat), crcB k x (c % 2 ^ k) = crcB k x c
  | 0, _, _ => rfl
  | k + 1, x, c => by
    rw [crcB, crcB, crcBit_mod]
    have e : c % 2 ^ (k + 1) / 2 = c / 2 % 2 ^ k := by
      rw [Nat.pow_succ, Nat.mul_comm, Nat.mod_mul]
      omega
    rw [e, crcB_mod k]
theorem crcB_add : ∀ (j k x c : Nat), crcB (j + k) x c = crcB k (crcB j x c) (c / 2 ^ j)
  | 0, k, x, c => by simp [crcB]
  | j + 1, k, x, c => by
    rw [show j + 1 + k = (j + k) + 1 by omega, crcB, crcB_add j k, crcB, Nat.div_div_eq_div_mul, Nat.pow_succ, Nat.mul_comm 2]
/-- Four bytes are 32 bits. -/
theorem crc_four (x b0 b1 b2 b3 : Nat) (h0 : b0 < 256) (h1 : b1 < 256) (h2 : b2 < 256) : crcB 8 (crcB 8 (crcB 8 (crcB 8 x b0) b1) b2) b3 = crcB 32 x (b0 + 256 * b1 + 65536 * b2 + 16777216 * b3) := by
  obtain ⟨N, hN⟩ : ∃ N, N = b0 + 256 * b1 + 65536 * b2 + 16777216 * b3 := ⟨_, rfl⟩
  rw [← hN, show (32 : Nat) = 8 + (8 + (8 + 8)) by decide, crcB_add, crcB_add, crcB_add]
  have e0 : crcB 8 x N = crcB 8 x b0 := by rw [← crcB_mod 8 x N, ← crcB_mod 8 x b0, show N % 2 ^ 8 = b0 % 2 ^ 8 by rw [show (2 : Nat) ^ 8 = 256 by decide]; omega]
  have e1 : ∀ y, crcB 8 y (N / 2 ^ 8) = crcB 8 y b1 := fun y => by rw [← crcB_mod 8 y (N / 2 ^ 8), ← crcB_mod 8 y b1, show N / 2 ^ 8 % 2 ^ 8 = b1 % 2 ^ 8 by rw [show (2 : Nat) ^ 8 = 256 by decide]; omega]
  have e2 : ∀ y, crcB 8 y (N / 2 ^ 8 / 2 ^ 8) = crcB 8 y b2 := fun y => by rw [← crcB_mod 8 y (N / 2 ^ 8 / 2 ^ 8), ← crcB_mod 8 y b2, show N / 2 ^ 8 / 2 ^ 8 % 2 ^ 8 = b2 % 2 ^ 8 by rw [show (2 : Nat) ^ 8 = 256 by decide]; omega]
  have e3 : ∀ y, crcB 8 y (N / 2 ^ 8 / 2 ^ 8 / 2 ^ 8) = crcB 8 y b3 := fun y => by rw [← crcB_mod 8 y (N / 2 ^ 8 / 2 ^ 8 / 2 ^ 8), ← crcB_mod 8 y b3, show N / 2 ^ 8 / 2 ^ 8 / 2 ^ 8 % 2 ^ 8 = b3 % 2 ^ 8 by rw [show (2 : Nat) ^ 8 = 256 by decide]; omega]
  rw [e0, e1, e2, e3]
/-- BURSTS: bytes that differ within four change the checksum. -/
theorem check_burst (pre post : List UInt8) (a0 a1 a2 a3 b0 b1 b2 b3 : UInt8) (h : ¬ (a0 = b0 ∧ a1 = b1 ∧ a2 = b2 ∧ a3 = b3)) :
    checkN (pre ++ [a0, a1, a2, a3] ++ post) ≠ checkN (pre ++ [b0, b1, b2, b3] ++ post) := by
  have hr := crcL_lt pre (r := 4294967295) (by decide)
  obtain ⟨r, hre⟩ : ∃ r, r = crcL 4294967295 pre := ⟨_, rfl⟩
  rw [← hre] at hr
  have four : ∀ c0 c1 c2 c3 : UInt8, crcL 4294967295 (pre ++ [c0, c1, c2, c3] ++ post) = crcL (crcB 32 r (c0.toNat + 256 * c1.toNat + 65536 * c2.toNat + 16777216 * c3.toNat)) post := by
    intro c0 c1 c2 c3
    rw [← crc_four _ _ _ _ _ c0.toNat_lt c1.toNat_lt c2.toNat_lt, hre]
    simp [crcL]
  intro e
  unfold checkN at e
  have l1 := crcL_lt (pre ++ [a0, a1, a2, a3] ++ post) (r := 4294967295) (by decide)
  have l2 := crcL_lt (pre ++ [b0, b1, b2, b3] ++ post) (r := 4294967295) (by decide)
  have e2 : crcL 4294967295 (pre ++ [a0, a1, a2, a3] ++ post) = crcL 4294967295 (pre ++ [b0, b1, b2, b3] ++ post) := by omega
  rw [four, four] at e2
  have e3 := crcL_inj post (crcB_lt 32 _ hr) (crcB_lt 32 _ hr) e2
  refine crcB_apart 32 r _ _ (by omega) hr ?_ e3
  intro e4
  apply h
  have ha0 := a0.toNat_lt; have ha1 := a1.toNat_lt; have ha2 := a2.toNat_lt; have ha3 := a3.toNat_lt
  have hb0 := b0.toNat_lt; have hb1 := b1.toNat_lt; have hb2 := b2.toNat_lt; have hb3 := b3.toNat_lt
  rw [show (2 : Nat) ^ 32 = 4294967296 by decide] at e4
  exact ⟨UInt8.toNat_inj.1 (by omega), UInt8.toNat_inj.1 (by omega), UInt8.toNat_inj.1 (by omega), UInt8.toNat_inj.1 (by omega)⟩
theorem check_ex : checkN [49, 50, 51, 52, 53, 54, 55, 56, 57] = 3421780262 := by decide +kernel
end Go.Proofs.YtoehpoodfbgdiaaDoor
