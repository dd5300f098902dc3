/- Plain arithmetic on natural numbers: the long division of a number of 128 bits by one of 64 bits, in two steps of 32 bits; no program is read here. -/
namespace Go.NumM

/-- What the correction loop keeps: q is at least the true digit, and r is what is left of the upper part. -/
structure Est (Y a b u d q r : Nat) : Prop where
  hr : q * a + r = u
  hq : (u * 4294967296 + d) / Y ≤ q

theorem est_start (Y a b u d : Nat) (hY : Y = a * 4294967296 + b) (ha : 0 < a) (hd : d < 4294967296) :
    Est Y a b u d (u / a) (u - u / a * a) := by
  have h1 : u / a * a ≤ u := Nat.div_mul_le_self u a
  refine ⟨by omega, ?_⟩
  have h2 : (u * 4294967296 + d) / Y ≤ (u * 4294967296 + d) / (4294967296 * a) := by
    apply Nat.div_le_div_left
    · rw [hY, Nat.mul_comm]; omega
    · omega
  rw [← Nat.div_div_eq_div_mul] at h2
  have h3 : (u * 4294967296 + d) / 4294967296 = u := by omega
  rw [h3] at h2
  exact h2

theorem digit_lt (Y u d : Nat) (hu : u < Y) (hd : d < 4294967296) : (u * 4294967296 + d) / Y < 4294967296 := by
  apply Nat.div_lt_of_lt_mul
  have : (u + 1) * 4294967296 ≤ Y * 4294967296 := Nat.mul_le_mul_right _ hu
  omega

theorem est_step (Y a b u d q r : Nat) (hY : Y = a * 4294967296 + b) (hu : u < Y) (hd : d < 4294967296)
    (h : Est Y a b u d q r) (hc : 4294967296 ≤ q ∨ 4294967296 * r + d < q * b) : 0 < q ∧ Est Y a b u d (q - 1) (r + a) := by
  have hlt := digit_lt Y u d hu hd
  have hYp : 0 < Y := by omega
  have hq : (u * 4294967296 + d) / Y < q := by
    rcases hc with hc | hc
    · omega
    · apply Nat.div_lt_of_lt_mul
      have e : Y * q = q * a * 4294967296 + q * b := by
        rw [hY, Nat.add_mul, Nat.mul_comm b q, Nat.mul_right_comm, Nat.mul_comm a q]
      have h1 := h.hr
      rw [e]
      generalize q * a = qa at *
      generalize q * b = qb at *
      omega
  have hp : 0 < q := Nat.lt_of_le_of_lt (Nat.zero_le _) hq
  refine ⟨hp, ?_, Nat.le_sub_one_of_lt hq⟩
  have h1 := h.hr
  have e : q * a = (q - 1) * a + a := by
    obtain ⟨k, rfl⟩ : ∃ k, q = k + 1 := ⟨q - 1, by omega⟩
    rw [Nat.add_sub_cancel, Nat.add_mul, Nat.one_mul]
  omega

theorem est_end (Y a b u d q r : Nat) (hY : Y = a * 4294967296 + b) (hu : u < Y)
    (h : Est Y a b u d q r) (hc : q * b ≤ 4294967296 * r + d) : q = (u * 4294967296 + d) / Y := by
  apply Nat.le_antisymm _ h.hq
  have hYp : 0 < Y := by omega
  rw [Nat.le_div_iff_mul_le hYp]
  have e : q * Y = q * a * 4294967296 + q * b := by
    rw [hY, Nat.mul_add, Nat.mul_assoc]
  have h1 := h.hr
  rw [e]
  generalize q * a = qa at *
  generalize q * b = qb at *
  omega

theorem est_break (Y a b u d q r : Nat) (hY : Y = a * 4294967296 + b) (hb : b < 4294967296) (hu : u < Y)
    (h : Est Y a b u d q r) (hq : q ≤ 4294967296) (hr : 4294967296 ≤ r) : q = (u * 4294967296 + d) / Y := by
  apply est_end Y a b u d q r hY hu h
  have h1 : q * b ≤ 4294967296 * b := Nat.mul_le_mul_right _ hq
  have h2 : 4294967296 * b ≤ 4294967296 * r := Nat.mul_le_mul_left _ (by omega)
  omega

theorem start_bound (Y a b u : Nat) (hY : Y = a * 4294967296 + b) (hb : b < 4294967296) (hu : u < Y) (ha : 2147483648 ≤ a) : u / a ≤ 4294967297 := by
  have : u / a < 4294967298 := by
    apply Nat.div_lt_of_lt_mul
    omega
  omega

theorem start_rest (a u : Nat) (ha : 0 < a) (ha' : a < 4294967296) : u - u / a * a < 4294967296 := by
  have h1 := Nat.mod_lt u ha
  have h2 := Nat.div_add_mod' u a
  omega

/-- The rest of one step, as the program computes it modulo 2^64. -/
theorem step_rest (Y u d : Nat) (hu : u < Y) :
    u * 4294967296 + d = (u * 4294967296 + d) / Y * Y + (u * 4294967296 + d) % Y ∧ (u * 4294967296 + d) % Y < Y :=
  ⟨(Nat.div_add_mod' _ _).symm, Nat.mod_lt _ (by omega)⟩

theorem wrap_sub (m : Nat) (x y k : Nat) (hm : 0 < m) (hk : x = y + k) (hkm : k < m) : ((x % m) + m - y % m) % m = k := by
  subst hk
  have h1 : y % m < m := Nat.mod_lt _ hm
  have h2 := Nat.div_add_mod y m
  have h3 : (y + k) % m = (y % m + k) % m := by rw [Nat.mod_add_mod]
  rw [h3]
  by_cases hh : y % m + k < m
  · rw [Nat.mod_eq_of_lt hh]
    have : y % m + k + m - y % m = k + m := by omega
    rw [this, Nat.add_mod_right, Nat.mod_eq_of_lt hkm]
  · have : (y % m + k) % m = y % m + k - m := by
      rw [Nat.mod_eq_sub_mod (by omega), Nat.mod_eq_of_lt (by omega)]
    rw [this]
    have : y % m + k - m + m - y % m = k := by omega
    rw [this, Nat.mod_eq_of_lt hkm]

/-- Two steps make the whole division. -/
theorem two_steps (Y u d1 d0 : Nat) (hu : u < Y) :
    (u * 4294967296 + d1) / Y * 4294967296 + ((u * 4294967296 + d1) % Y * 4294967296 + d0) / Y = (u * 18446744073709551616 + d1 * 4294967296 + d0) / Y ∧
    ((u * 4294967296 + d1) % Y * 4294967296 + d0) % Y = (u * 18446744073709551616 + d1 * 4294967296 + d0) % Y := by
  have hY : 0 < Y := by omega
  have e : u * 18446744073709551616 + d1 * 4294967296 + d0 = ((u * 4294967296 + d1) % Y * 4294967296 + d0) + (u * 4294967296 + d1) / Y * 4294967296 * Y := by
    have h := Nat.div_add_mod' (u * 4294967296 + d1) Y
    have h2 : (u * 4294967296 + d1) / Y * 4294967296 * Y = (u * 4294967296 + d1) / Y * Y * 4294967296 := Nat.mul_right_comm _ _ _
    rw [h2]
    generalize (u * 4294967296 + d1) / Y * Y = p at *
    generalize (u * 4294967296 + d1) % Y = r at *
    omega
  rw [e, Nat.add_mul_div_right _ _ hY, Nat.add_mul_mod_self_right]
  exact ⟨Nat.add_comm _ _, rfl⟩

/-- What the division works on behind the shift that makes the divisor's highest bit 1. -/
structure Norm (hi lo y s Y a b u d1 d0 : Nat) : Prop where
  hY : Y = y * 2 ^ s
  hab : Y = a * 4294967296 + b
  ha0 : 2147483648 ≤ a
  ha1 : a < 4294967296
  hb : b < 4294967296
  hu : u < Y
  hd1 : d1 < 4294967296
  hd0 : d0 < 4294967296
  hU : u * 18446744073709551616 + d1 * 4294967296 + d0 = (hi * 18446744073709551616 + lo) * 2 ^ s

theorem Norm.bounds {hi lo y s Y a b u d1 d0 : Nat} (h : Norm hi lo y s Y a b u d1 d0) :
    2147483648 ≤ a ∧ a < 4294967296 ∧ b < 4294967296 ∧ u < 18446744073709551616 ∧ d1 < 4294967296 ∧ d0 < 4294967296 ∧ Y < 18446744073709551616 := by
  have h1 := h.hab; have h2 := h.ha0; have h3 := h.ha1; have h4 := h.hb; have h5 := h.hu; have h6 := h.hd1; have h7 := h.hd0
  omega

theorem norm_mk (hi lo y s : Nat) (hs : s < 64) (hlo : lo < 18446744073709551616) (hlt : hi < y) (h1 : 9223372036854775808 ≤ y * 2 ^ s) (h2 : y * 2 ^ s < 18446744073709551616) :
    Norm hi lo y s (y * 2 ^ s) (y * 2 ^ s / 4294967296) (y * 2 ^ s % 4294967296) (hi * 2 ^ s + lo / 2 ^ (64 - s))
      (lo * 2 ^ s % 18446744073709551616 / 4294967296) (lo * 2 ^ s % 18446744073709551616 % 4294967296) := by
  have hp : 0 < 2 ^ s := Nat.two_pow_pos s
  have e64 : (18446744073709551616 : Nat) = 2 ^ (64 - s) * 2 ^ s := by rw [← Nat.pow_add, show 64 - s + s = 64 by omega]
  have hdiv : lo / 2 ^ (64 - s) = lo * 2 ^ s / 18446744073709551616 := by
    rw [e64, Nat.mul_div_mul_right _ _ hp]
  have hsm : lo / 2 ^ (64 - s) < 2 ^ s := by
    rw [Nat.div_lt_iff_lt_mul (Nat.two_pow_pos _), Nat.mul_comm, ← e64]; exact hlo
  have hm : hi * 2 ^ s + 2 ^ s ≤ y * 2 ^ s := by
    have := Nat.mul_le_mul_right (2 ^ s) (show hi + 1 ≤ y from hlt)
    rw [Nat.add_mul, Nat.one_mul] at this
    exact this
  refine ⟨rfl, by omega, by omega, by omega, by omega, by omega, by omega, by omega, ?_⟩
  rw [hdiv, Nat.add_mul _ lo, Nat.mul_right_comm hi _ (2 ^ s)]
  generalize lo * 2 ^ s = m
  generalize hi * 2 ^ s = k
  omega

/-- The number of the divisor's leading zeros, and what the shift by it makes of the divisor. -/
theorem shift_range (y s l : Nat) (hl : 1 ≤ l) (hl2 : l ≤ 64) (hs : s = 64 - l) (h1 : y < 2 ^ l) (h2 : 2 ^ (l - 1) ≤ y) :
    9223372036854775808 ≤ y * 2 ^ s ∧ y * 2 ^ s < 18446744073709551616 := by
  subst hs
  have e1 : (9223372036854775808 : Nat) = 2 ^ (l - 1) * 2 ^ (64 - l) := by rw [← Nat.pow_add, show l - 1 + (64 - l) = 63 by omega]
  have e2 : (18446744073709551616 : Nat) = 2 ^ l * 2 ^ (64 - l) := by rw [← Nat.pow_add, show l + (64 - l) = 64 by omega]
  rw [e1, e2]
  exact ⟨Nat.mul_le_mul_right _ h2, (Nat.mul_lt_mul_right (Nat.two_pow_pos _)).2 h1⟩

/-- The two digits are the quotient; the rest, shifted back, is the remainder. -/
theorem norm_end {hi lo y s Y a b u d1 d0 : Nat} (h : Norm hi lo y s Y a b u d1 d0) :
    (u * 4294967296 + d1) / Y * 4294967296 + ((u * 4294967296 + d1) % Y * 4294967296 + d0) / Y = (hi * 18446744073709551616 + lo) / y ∧
    ((u * 4294967296 + d1) % Y * 4294967296 + d0) % Y / 2 ^ s = (hi * 18446744073709551616 + lo) % y := by
  have hp : 0 < 2 ^ s := Nat.two_pow_pos s
  obtain ⟨h1, h2⟩ := two_steps Y u d1 d0 h.hu
  rw [h1, h2, h.hU, h.hY]
  exact ⟨Nat.mul_div_mul_right _ _ hp, by rw [Nat.mul_mod_mul_right, Nat.mul_div_cancel _ hp]⟩

end Go.NumM
