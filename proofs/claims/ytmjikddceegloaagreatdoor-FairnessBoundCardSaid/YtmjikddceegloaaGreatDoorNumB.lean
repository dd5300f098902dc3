/- Contracts of package num: quotient, negativeQuotient, Scale, Mul, Less, Add, Limit: what each call returns, for every argument, said over the integers. -/
import Derived.Test.YtmjikddceegloaaGreatDoorDivW
import Derived.Deep.RegionWith
import Derived.Deep.RegionHeld3
namespace Go.Proofs.YtmjikddceegloaaGreatDoor
open Go.RowKit Go.Lib Go.NumM

/-- The quotient rounded down, if it is an int; and the error's number. -/
def flQ (z d : Int) : Int := if -9223372036854775808 ≤ z / d ∧ z / d ≤ 9223372036854775807 then z / d else 0
def flE (z d : Int) : Int := if -9223372036854775808 ≤ z / d ∧ z / d ≤ 9223372036854775807 then 0 else 11
theorem ret2_ie {a b c d : Int} (h : a = c) (k : b = d) : Ending.returned (.tuple #[.int .i64 a, .int .i64 b]) = .returned (.tuple #[.int .i64 c, .int .i64 d]) := by rw [h, k]

theorem prod_nat (z : Int) (h0 : 0 ≤ z) (h : Mid z) : ∃ hi lo : Nat, prodV z = .agg #[.int .u64 hi, .int .u64 lo] ∧ z = ((hi * 18446744073709551616 + lo : Nat) : Int) ∧ lo < 18446744073709551616 := by
  refine ⟨(hiOf z).toNat, (loOf z).toNat, ?_, ?_, ?_⟩
  · unfold prodV
    rw [Int.toNat_of_nonneg (hiOf_bd z).1, Int.toNat_of_nonneg (loOf_bd z).1]
  all_goals
    simp only [hiOf, loOf, Mid] at *
    omega

set_option maxHeartbeats 1000000 in
theorem quotient_nat (hi lo d : Nat) (hlo : lo < 18446744073709551616) (hd0 : 0 < d) (hd : d < 18446744073709551616) (w : World) :
    Calls Tryz.prog 78 #[.agg #[.int .u64 hi, .int .u64 lo], .int .u64 d] w fun e w' =>
      e = .returned (.tuple #[.int .i64 (flQ ((hi * 18446744073709551616 + lo : Nat) : Int) d), .int .i64 (flE ((hi * 18446744073709551616 + lo : Nat) : Int) d)]) ∧ Below w.heap.size w w' := by
  by_cases hc : d ≤ hi
  · have hq : 18446744073709551616 ≤ (hi * 18446744073709551616 + lo) / d := by
      rw [Nat.le_div_iff_mul_le hd0]
      have := Nat.mul_le_mul_left 18446744073709551616 hc
      omega
    have e1 : flQ ((hi * 18446744073709551616 + lo : Nat) : Int) d = 0 := by unfold flQ; rw [← Int.natCast_ediv, if_neg (by omega)]
    have e2 : flE ((hi * 18446744073709551616 + lo : Nat) : Int) d = 11 := by unfold flE; rw [← Int.natCast_ediv, if_neg (by omega)]
    rw [e1, e2]
    have t1 : decide ((d : Int) ≤ (hi : Int)) = true := by simp; omega
    clear hq e1 e2
    go_enter Tryz.func78, Tryz.ntmps78
    go_wp2_with fail
    go_ret2
    exact ⟨rfl, (Below.refl _ _).alloc (Nat.le_refl _) _⟩
  · have t1 : decide ((d : Int) ≤ (hi : Int)) = false := by simp; omega
    go_enter Tryz.func78, Tryz.ntmps78
    go_wp2_with fail
    go_fit (div64_any hi lo d hlo hd (by omega) _)
    rintro e w' ⟨rfl, hb⟩
    have hb2 := Lib.hid (((Below.refl w.heap.size w).alloc (Nat.le_refl _) _).trans (hb.mono (by simp)))
    clear hb
    obtain ⟨q, hq⟩ : ∃ q, q = (hi * 18446744073709551616 + lo) / d := ⟨_, rfl⟩
    obtain ⟨r, hr⟩ : ∃ r, r = (hi * 18446744073709551616 + lo) % d := ⟨_, rfl⟩
    rw [← hq, ← hr]
    have ez : ((hi * 18446744073709551616 + lo : Nat) : Int) / (d : Int) = (q : Int) := by rw [← Int.natCast_ediv, hq]
    have EZ := Lib.hid ez
    clear hq hr ez
    by_cases hm : q ≤ 9223372036854775807
    · have t2 : decide ((9223372036854775807 : Int) < (q : Int)) = false := by simp; omega
      have hm' : (0 : Int) ≤ q ∧ (q : Int) ≤ 9223372036854775807 := by omega
      clear hm
      go_wp2_with fail
      go_ret2
      exact ⟨ret2_ie (by unfold flQ; rw [EZ.out, if_pos (by omega)]) (by unfold flE; rw [EZ.out, if_pos (by omega)]), hb2.out⟩
    · have t2 : decide ((9223372036854775807 : Int) < (q : Int)) = true := by simp; omega
      have hm' : ¬ ((q : Int) ≤ 9223372036854775807) := by omega
      clear hm
      go_wp2_with fail
      go_ret2
      exact ⟨ret2_ie (by unfold flQ; rw [EZ.out, if_neg (by omega)]) (by unfold flE; rw [EZ.out, if_neg (by omega)]), hb2.out⟩

/-- The quotient of a negated number, rounded down. -/
theorem neg_div (N d q r : Nat) (hd : 0 < d) (hq : q = N / d) (hr : r = N % d) : (-(N : Int)) / (d : Int) = if r = 0 then -(q : Int) else -(q : Int) - 1 := by
  have h1 : N = q * d + r := by rw [hq, hr, Nat.div_add_mod']
  have h2 : r < d := by rw [hr]; exact Nat.mod_lt _ hd
  clear hq hr
  subst h1
  have hd' : (d : Int) ≠ 0 := by omega
  split
  · rename_i h0
    subst h0
    rw [Nat.add_zero, Int.natCast_mul, ← Int.neg_mul, Int.mul_ediv_cancel _ hd']
  · have e : (-((q * d + r : Nat) : Int)) = ((d : Int) - r) + (-(q : Int) - 1) * d := by
      rw [Int.natCast_add, Int.natCast_mul, Int.sub_mul, Int.neg_mul, Int.one_mul]; omega
    rw [e, Int.add_mul_ediv_right _ _ hd', Int.ediv_eq_zero_of_lt (by omega) (by omega), Int.zero_add]
theorem neg_wrap (q : Int) (h0 : 0 ≤ q) (h : q ≤ 9223372036854775808) : wrap64 (IntKind.u64.wrap (-q)) = -q := by
  rw [IntKind.wrap_u64]; unfold wrap64; omega

set_option maxHeartbeats 1000000 in
set_option maxRecDepth 100000 in
theorem negQuotient_nat (hi lo d : Nat) (hlo : lo < 18446744073709551616) (hd0 : 0 < d) (hd : d < 18446744073709551616) (w : World) :
    Calls Tryz.prog 76 #[.agg #[.int .u64 hi, .int .u64 lo], .int .u64 d] w fun e w' =>
      e = .returned (.tuple #[.int .i64 (flQ (-((hi * 18446744073709551616 + lo : Nat) : Int)) d), .int .i64 (flE (-((hi * 18446744073709551616 + lo : Nat) : Int)) d)]) ∧ Below w.heap.size w w' := by
  obtain ⟨q, hq⟩ : ∃ q, q = (hi * 18446744073709551616 + lo) / d := ⟨_, rfl⟩
  obtain ⟨r, hr⟩ : ∃ r, r = (hi * 18446744073709551616 + lo) % d := ⟨_, rfl⟩
  have ez := neg_div _ d q r hd0 hq hr
  by_cases hc : d ≤ hi
  · have hq2 : 18446744073709551616 ≤ q := by
      rw [hq, Nat.le_div_iff_mul_le hd0]
      have := Nat.mul_le_mul_left 18446744073709551616 hc
      omega
    have ez2 : ¬ (-9223372036854775808 ≤ (-((hi * 18446744073709551616 + lo : Nat) : Int)) / (d : Int)) := by rw [ez]; split <;> omega
    have e1 : flQ (-((hi * 18446744073709551616 + lo : Nat) : Int)) d = 0 := by unfold flQ; rw [if_neg (by omega)]
    have e2 : flE (-((hi * 18446744073709551616 + lo : Nat) : Int)) d = 11 := by unfold flE; rw [if_neg (by omega)]
    rw [e1, e2]
    have t1 : decide ((d : Int) ≤ (hi : Int)) = true := by simp; omega
    clear hq hr e1 e2 ez ez2 hq2
    go_enter Tryz.func76, Tryz.ntmps76
    go_wp2_with fail
    go_ret2
    exact ⟨rfl, (Below.refl _ _).alloc (Nat.le_refl _) _⟩
  · have t1 : decide ((d : Int) ≤ (hi : Int)) = false := by simp; omega
    obtain ⟨k, hk⟩ : ∃ k : Int, k = (q : Int) := ⟨_, rfl⟩
    rw [← hk] at ez
    have hk0 : 0 ≤ k := by omega
    have HK := Lib.hid hk
    have HQ := Lib.hid hq
    have HR := Lib.hid hr
    have EZ := Lib.hid ez
    clear hq hr ez hk
    go_enter Tryz.func76, Tryz.ntmps76
    go_wp2_with fail
    go_fit (div64_any hi lo d hlo hd (by omega) _)
    rintro e w' ⟨rfl, hb⟩
    have hb2 := Lib.hid (((Below.refl w.heap.size w).alloc (Nat.le_refl _) _).trans (hb.mono (by simp)))
    clear hb
    rw [← HQ.out, ← HR.out, ← HK.out]
    by_cases h1 : k > 9223372036854775808
    · have t2 : decide ((9223372036854775808 : Int) < k) = true := by simp; omega
      have h1' : (9223372036854775808 : Int) < k := by omega
      clear h1
      go_wp2_with fail
      go_ret2
      exact ⟨ret2_ie (by unfold flQ; rw [EZ.out, if_neg (by split <;> omega)]) (by unfold flE; rw [EZ.out, if_neg (by split <;> omega)]), hb2.out⟩
    · have t2 : decide ((9223372036854775808 : Int) < k) = false := by simp; omega
      have h1' : (0 : Int) ≤ k ∧ k ≤ 9223372036854775808 := by omega
      clear h1
      by_cases h2 : k = 9223372036854775808
      · have t3 : (k == 9223372036854775808) = true := by rw [beq_iff_eq]; omega
        have h2' : (9223372036854775808 : Int) ≤ k := by omega
        clear h2
        by_cases h3 : r = 0
        · subst h3
          go_wp2_with fail
          go_ret2
          exact ⟨ret2_ie (by unfold flQ; rw [EZ.out, if_pos trivial, if_pos (by omega)]; exact neg_wrap _ (by omega) (by omega)) (by unfold flE; rw [EZ.out, if_pos trivial, if_pos (by omega)]), hb2.out⟩
        · have t4 : decide ((0 : Int) < (r : Int)) = true := by simp; omega
          go_wp2_with fail
          go_ret2
          exact ⟨ret2_ie (by unfold flQ; rw [EZ.out, if_neg h3, if_neg (by omega)]) (by unfold flE; rw [EZ.out, if_neg h3, if_neg (by omega)]), hb2.out⟩
      · have t3 : (k == 9223372036854775808) = false := by rw [beq_eq_false_iff_ne]; omega
        have h2' : k < 9223372036854775808 := by omega
        clear h2
        by_cases h3 : r = 0
        · subst h3
          go_wp2_with fail
          go_ret2
          exact ⟨ret2_ie (by unfold flQ; rw [EZ.out, if_pos trivial, if_pos (by omega)]; exact neg_wrap _ (by omega) (by omega)) (by unfold flE; rw [EZ.out, if_pos trivial, if_pos (by omega)]), hb2.out⟩
        · have t4 : decide ((0 : Int) < (r : Int)) = true := by simp; omega
          go_wp2_with fail
          go_ret2
          exact ⟨ret2_ie (by unfold flQ; rw [EZ.out, if_neg h3, if_pos (by omega)]; rw [show -k - 1 = -(k + 1) by omega]; exact neg_wrap _ (by omega) (by omega)) (by unfold flE; rw [EZ.out, if_neg h3, if_pos (by omega)]), hb2.out⟩

def I64 (a : Int) : Prop := -9223372036854775808 ≤ a ∧ a ≤ 9223372036854775807
theorem I64.mk {a : Int} (w : (Lit.int .i64 a).wf = true) : I64 a := by
  simpa [Lit.wf, IntKind.signed, IntKind.min, IntKind.max, IntKind.bits, I64] using w

set_option maxHeartbeats 1000000 in
theorem Less_any (a b c d : Int) (ha : I64 a) (hb : I64 b) (hc : I64 c) (hd : I64 d) (w : World) :
    Calls Tryz.prog 56 #[.int .i64 a, .int .i64 b, .int .i64 c, .int .i64 d] w fun e w' => e = .returned (.bool (decide (a * b < c * d))) ∧ Below w.heap.size w w' := by
  have HA := Lib.hid ha; have HB := Lib.hid hb; have HC := Lib.hid hc; have HD := Lib.hid hd
  clear ha hb hc hd
  go_enter Tryz.func56, Tryz.ntmps56
  go_wp2_with fail
  go_fit (multiply_any _ _ HA.out HB.out _)
  rintro e w1 ⟨rfl, hb1⟩
  go_wp2_with fail
  go_fit (multiply_any _ _ HC.out HD.out _)
  rintro e w2 ⟨rfl, hb2⟩
  go_wp2_with fail
  go_fit (less_any _ _ (mid_mul _ _ HA.out HB.out) (mid_mul _ _ HC.out HD.out) _)
  rintro e w3 ⟨rfl, hb3⟩
  go_wp2_with fail
  go_ret
  exact ⟨rfl, hb1.trans ((hb2.mono hb1.size).trans (hb3.mono (Nat.le_trans hb1.size hb2.size)))⟩

/-- A number limited to the range of int. -/
def limit64 (z : Int) : Int := if z < -9223372036854775808 then -9223372036854775808 else if 9223372036854775807 < z then 9223372036854775807 else z

/-- The nearest number within the bounds. -/
def clamp (n lo hi : Int) : Int := if hi < lo then lo else if n < lo then lo else if hi < n then hi else n
theorem bcell {W w1 : World} (hb : Below W.heap.size W w1) : (∀ b o, b < W.heap.size → w1.cell? ⟨b, o, none⟩ = W.cell? ⟨b, o, none⟩) ∧ (∀ b o, b < W.heap.size → w1.frozen? ⟨b, o, none⟩ = W.frozen? ⟨b, o, none⟩) :=
  ⟨fun b o h => hb.cell (p := ⟨b, o, none⟩) h, fun b o h => hb.frozen (p := ⟨b, o, none⟩) h⟩

/-- A new block of two cells is still there behind calls that only make memory. -/
theorem hold2_new {W w1 : World} (hb : Below W.heap.size W w1) (x y : Value) (T : TypeId) :
    (w1.alloc (.cells #[x, y] T)).cell? ⟨w1.heap.size, 0, none⟩ = some x ∧ (w1.alloc (.cells #[x, y] T)).cell? ⟨w1.heap.size, 1, none⟩ = some y ∧
      w1.heap.size < (w1.alloc (.cells #[x, y] T)).heap.size ∧ W.heap.size ≤ (w1.alloc (.cells #[x, y] T)).heap.size ∧ Below W.heap.size W (w1.alloc (.cells #[x, y] T)) :=
  ⟨by simp [World.cell?_alloc_new], by simp [World.cell?_alloc_new], by simp, by have := hb.size; simp; omega, hb.alloc hb.size _⟩
theorem hold2 {W w1 w2 : World} {B : Nat} {x y : Value} (h : w1.cell? ⟨B, 0, none⟩ = some x ∧ w1.cell? ⟨B, 1, none⟩ = some y ∧ B < w1.heap.size ∧ W.heap.size ≤ w1.heap.size ∧ Below W.heap.size W w1) (hb : Below w1.heap.size w1 w2) :
    w2.cell? ⟨B, 0, none⟩ = some x ∧ w2.cell? ⟨B, 1, none⟩ = some y ∧ B < w2.heap.size ∧ W.heap.size ≤ w2.heap.size ∧ Below W.heap.size W w2 := by
  obtain ⟨h1, h2, h3, h4, h5⟩ := h
  have hz := hb.size
  exact ⟨(hb.cell (p := ⟨B, 0, none⟩) h3).trans h1, (hb.cell (p := ⟨B, 1, none⟩) h3).trans h2, by omega, by omega, h5.trans (hb.mono h4)⟩

end Go.Proofs.YtmjikddceegloaaGreatDoor
