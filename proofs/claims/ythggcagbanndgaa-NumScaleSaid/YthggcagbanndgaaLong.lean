/- Plain arithmetic: long division bit by bit; no program is read here. -/
namespace Go.NumL

/-- After i rounds: A is the number's first i bits, W the rest of them; A = Q * D + rest. -/
structure Long (N D i A rest wh wl qh ql : Nat) : Prop where
  hN : N * 2 ^ i = A * 340282366920938463463374607431768211456 + (wh * 18446744073709551616 + wl)
  hwh : wh < 18446744073709551616
  hwl : wl < 18446744073709551616
  hA : A = (qh * 18446744073709551616 + ql) * D + rest
  hr : rest < D
  hA2 : A < 2 ^ i
  hqh : qh < 18446744073709551616
  hql : ql < 18446744073709551616

theorem long_start (N D hi lo : Nat) (hN : N = hi * 18446744073709551616 + lo) (h1 : hi < 18446744073709551616) (h2 : lo < 18446744073709551616) (hD : 0 < D) : Long N D 0 0 0 hi lo 0 0 :=
  ⟨by omega, h1, h2, by omega, hD, by omega, by omega, by omega⟩

theorem long_bound {N D i A rest wh wl qh ql : Nat} (h : Long N D i A rest wh wl qh ql) (hi : i < 128) (hD : D ≤ 9223372036854775808) :
    rest < 9223372036854775808 ∧ wh < 18446744073709551616 ∧ wl < 18446744073709551616 ∧ qh < 9223372036854775808 ∧ ql < 18446744073709551616 := by
  have hr := h.hr
  refine ⟨by omega, h.hwh, h.hwl, ?_, h.hql⟩
  have h1 := h.hA
  have h2 := h.hA2
  have h3 : 2 ^ i ≤ 2 ^ 127 := Nat.pow_le_pow_right (by omega) (by omega)
  have h4 : (qh * 18446744073709551616 + ql) * 1 ≤ (qh * 18446744073709551616 + ql) * D := Nat.mul_le_mul_left _ (by omega)
  have h5 : (2 : Nat) ^ 127 = 170141183460469231731687303715884105728 := by decide
  omega

/-- One round: the new values, as the program computes them modulo 2^64. -/
theorem long_step {N D i A rest wh wl qh ql : Nat} (h : Long N D i A rest wh wl qh ql) (hi : i < 128) (hD : D ≤ 9223372036854775808) :
    (rest * 2 + wh / 9223372036854775808 < D → Long N D (i + 1) (2 * A + wh / 9223372036854775808) (rest * 2 + wh / 9223372036854775808) ((wh * 2 + wl / 9223372036854775808) % 18446744073709551616) (wl * 2 % 18446744073709551616) (qh * 2 + ql / 9223372036854775808) (ql * 2 % 18446744073709551616)) ∧
    (D ≤ rest * 2 + wh / 9223372036854775808 → Long N D (i + 1) (2 * A + wh / 9223372036854775808) (rest * 2 + wh / 9223372036854775808 - D) ((wh * 2 + wl / 9223372036854775808) % 18446744073709551616) (wl * 2 % 18446744073709551616) (qh * 2 + ql / 9223372036854775808) (ql * 2 % 18446744073709551616 + 1)) := by
  obtain ⟨b1, b2, b3, b4, b5⟩ := long_bound h hi hD
  obtain ⟨hN, hwh, hwl, hA, hr, hA2, hqh, hql⟩ := h
  have e1 : N * 2 ^ (i + 1) = 2 * (N * 2 ^ i) := by rw [Nat.pow_succ, ← Nat.mul_assoc, Nat.mul_comm]
  have e2 : (2 : Nat) ^ (i + 1) = 2 * 2 ^ i := by rw [Nat.pow_succ, Nat.mul_comm]
  have e3 : (qh * 2 + ql / 9223372036854775808) * 18446744073709551616 + ql * 2 % 18446744073709551616 = 2 * (qh * 18446744073709551616 + ql) := by omega
  have e4 : (2 * (qh * 18446744073709551616 + ql)) * D = 2 * ((qh * 18446744073709551616 + ql) * D) := Nat.mul_assoc _ _ _
  have e5 : (2 * (qh * 18446744073709551616 + ql) + 1) * D = 2 * ((qh * 18446744073709551616 + ql) * D) + D := by rw [Nat.add_mul, e4, Nat.one_mul]
  have e6 : (qh * 2 + ql / 9223372036854775808) * 18446744073709551616 + (ql * 2 % 18446744073709551616 + 1) = 2 * (qh * 18446744073709551616 + ql) + 1 := by omega
  constructor
  · intro hlt
    refine ⟨by rw [e1, hN]; omega, by omega, by omega, ?_, hlt, by rw [e2]; omega, by omega, by omega⟩
    rw [e3, e4]
    generalize (qh * 18446744073709551616 + ql) * D = p at *
    omega
  · intro hge
    refine ⟨by rw [e1, hN]; omega, by omega, by omega, ?_, by omega, by rw [e2]; omega, by omega, by omega⟩
    rw [e6, e5]
    generalize (qh * 18446744073709551616 + ql) * D = p at *
    omega

theorem long_end {N D A rest wh wl qh ql : Nat} (h : Long N D 128 A rest wh wl qh ql) : qh * 18446744073709551616 + ql = N / D ∧ rest = N % D := by
  obtain ⟨hN, hwh, hwl, hA, hr, hA2, hqh, hql⟩ := h
  have e : (2 : Nat) ^ 128 = 340282366920938463463374607431768211456 := by decide
  rw [e] at hN
  have hAN : A = N := by omega
  rw [hAN] at hA
  rw [hA]
  generalize qh * 18446744073709551616 + ql = Q
  have hD : 0 < D := by omega
  constructor
  · rw [Nat.mul_comm, Nat.mul_add_div hD, Nat.div_eq_of_lt hr, Nat.add_zero]
  · rw [Nat.mul_comm, Nat.mul_add_mod, Nat.mod_eq_of_lt hr]

end Go.NumL
