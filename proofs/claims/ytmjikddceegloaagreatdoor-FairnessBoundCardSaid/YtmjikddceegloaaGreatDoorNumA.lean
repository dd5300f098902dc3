/- Contracts of the 128-bit helpers of package num (multiply, negated, negative, less, magnitude) and of math/bits.Mul64: what each call returns, for every argument. -/
import Derived.Test.YtmjikddceegloaaGreatDoorRows
import Derived.WalkKit
import Derived.WalkSpells
import Derived.WalkLawsBesides
import Derived.Lib.Mul64
import Derived.Shelf.Spec.BitsCarry
import Derived.Lib.Hide
import Derived.Deep.DeepFit
import Derived.Outline
namespace Go.Proofs.YtmjikddceegloaaGreatDoor
open Go.RowKit Go.Lib

theorem ret_bool {a b : Bool} (h : a = b) : Ending.returned (.bool a) = .returned (.bool b) := by rw [h]
theorem ret_int {k : IntKind} {a b : Int} (h : a = b) : Ending.returned (.int k a) = .returned (.int k b) := by rw [h]
theorem ret_u64 {a b : Int} (h : a = b) : Ending.returned (.int .u64 a) = .returned (.int .u64 b) := by rw [h]

namespace M64
theorem maskN (a : Nat) (ha : a < 18446744073709551616) : bits .and .u64 (a : Int) 4294967295 = ((a % 4294967296 : Nat) : Int) := by
  have h := bits_and_u64_nat a 4294967295 ha (by omega)
  have e : a &&& 4294967295 = a % 4294967296 := Nat.and_two_pow_sub_one_eq_mod a 32
  rw [e] at h
  exact h
theorem divN (a : Nat) : (a : Int) / 4294967296 = ((a / 4294967296 : Nat) : Int) := by omega
theorem mulN (a b : Nat) : (a : Int) * (b : Int) = ((a * b : Nat) : Int) := (Int.natCast_mul a b).symm
theorem addN (a b : Nat) : (a : Int) + (b : Int) = ((a + b : Nat) : Int) := (Int.natCast_add a b).symm
theorem wrapN (a : Nat) (ha : a < 18446744073709551616) : IntKind.u64.wrap (a : Int) = (a : Int) := by rw [IntKind.wrap_u64]; omega
theorem wrapM (a : Nat) : IntKind.u64.wrap (a : Int) = ((a % 18446744073709551616 : Nat) : Int) := by rw [IntKind.wrap_u64]; omega
end M64

set_option maxHeartbeats 1000000 in
theorem mul64_nat (x y : Nat) (hx : x < 18446744073709551616) (hy : y < 18446744073709551616) (w : World) :
    Calls Tryz.prog 90 #[.int .u64 x, .int .u64 y] w fun e w' => e = .returned (.tuple #[.int .u64 ((x * y / 18446744073709551616 : Nat) : Int), .int .u64 ((x * y % 18446744073709551616 : Nat) : Int)]) ∧ w = w' := by
  obtain ⟨bd, bt, bw, hhi⟩ := Lib.mul64_hi x y hx hy
  have ba := Lib.half_mul_le (a := x / 4294967296) (b := y / 4294967296) (by omega) (by omega)
  have bb := Lib.half_mul_le (a := x / 4294967296) (b := y % 4294967296) (by omega) (by omega)
  have bc := Lib.half_mul_le (a := x % 4294967296) (b := y / 4294967296) (by omega) (by omega)
  have ba' : x / 4294967296 * (y / 4294967296) < 18446744073709551616 := by omega
  have bb' : x / 4294967296 * (y % 4294967296) < 18446744073709551616 := by omega
  have bc' : x % 4294967296 * (y / 4294967296) < 18446744073709551616 := by omega
  have bh1 : x / 4294967296 * (y / 4294967296) + (x / 4294967296 * (y % 4294967296) + x % 4294967296 * (y % 4294967296) / 4294967296) / 4294967296 < 18446744073709551616 := by omega
  have bh : x / 4294967296 * (y / 4294967296) + (x / 4294967296 * (y % 4294967296) + x % 4294967296 * (y % 4294967296) / 4294967296) / 4294967296 + ((x / 4294967296 * (y % 4294967296) + x % 4294967296 * (y % 4294967296) / 4294967296) % 4294967296 + x % 4294967296 * (y / 4294967296)) / 4294967296 < 18446744073709551616 := by omega
  go_enter Tryz.func90, Tryz.ntmps90
  go_wp2
  simp only [M64.maskN x hx, M64.maskN y hy, M64.divN, M64.mulN, M64.addN, M64.wrapN _ bd, M64.wrapN _ bb', M64.wrapN _ bt, M64.maskN _ bt, M64.wrapN _ bc', M64.wrapN _ bw, M64.wrapN _ ba', M64.wrapN _ bh1, M64.wrapN _ bh, M64.wrapM (x * y)]
  rw [hhi]
  go_ret2
  exact ⟨rfl, rfl⟩


/-- The upper and the lower half of an integer in two's complement of 128 bits. -/
def hiOf (z : Int) : Int := z / 18446744073709551616 % 18446744073709551616
def loOf (z : Int) : Int := z % 18446744073709551616
def prodV (z : Int) : Value := .agg #[.int .u64 (hiOf z), .int .u64 (loOf z)]
theorem hiOf_bd (z : Int) : 0 ≤ hiOf z ∧ hiOf z ≤ 18446744073709551615 := by unfold hiOf; omega
theorem loOf_bd (z : Int) : 0 ≤ loOf z ∧ loOf z ≤ 18446744073709551615 := by unfold loOf; omega
/-- What Mul64 hands back, of two integers. -/
def mulHi (x y : Int) : Int := x * y / 18446744073709551616
def mulLo (x y : Int) : Int := x * y % 18446744073709551616
theorem mul64_any (x y : Int) (hx0 : 0 ≤ x) (hx : x ≤ 18446744073709551615) (hy0 : 0 ≤ y) (hy : y ≤ 18446744073709551615) (w : World) :
    Calls Tryz.prog 90 #[.int .u64 x, .int .u64 y] w fun e w' => e = .returned (.tuple #[.int .u64 (mulHi x y), .int .u64 (mulLo x y)]) ∧ w = w' := by
  obtain ⟨a, rfl⟩ := Int.eq_ofNat_of_zero_le hx0
  obtain ⟨b, rfl⟩ := Int.eq_ofNat_of_zero_le hy0
  have h := mul64_nat a b (by omega) (by omega) w
  unfold mulHi mulLo
  simpa [Int.natCast_ediv, Int.natCast_emod, Int.natCast_mul] using h

/-- The arithmetic of multiply: the upper half, corrected for the signs. -/
def mulUp (a b : Int) : Int :=
  let h := mulHi (IntKind.u64.wrap a) (IntKind.u64.wrap b)
  let h1 := if a < 0 then IntKind.u64.wrap (h - IntKind.u64.wrap b) else h
  if b < 0 then IntKind.u64.wrap (h1 - IntKind.u64.wrap a) else h1
theorem two_wraps (a b : Int) (ha : -9223372036854775808 ≤ a ∧ a ≤ 9223372036854775807) (hb : -9223372036854775808 ≤ b ∧ b ≤ 9223372036854775807) :
    mulUp a b = hiOf (a * b) ∧ mulLo (IntKind.u64.wrap a) (IntKind.u64.wrap b) = loOf (a * b) := by
  have ea : IntKind.u64.wrap a = if a < 0 then a + 18446744073709551616 else a := by rw [IntKind.wrap_u64]; split <;> omega
  have eb : IntKind.u64.wrap b = if b < 0 then b + 18446744073709551616 else b := by rw [IntKind.wrap_u64]; split <;> omega
  unfold mulUp mulHi mulLo hiOf loOf
  rw [ea, eb]
  simp only [IntKind.wrap_u64]
  by_cases h1 : a < 0 <;> by_cases h2 : b < 0 <;> simp only [h1, h2, if_true, if_false]
  · have e : (a + 18446744073709551616) * (b + 18446744073709551616) = a * b + 18446744073709551616 * a + 18446744073709551616 * b + 340282366920938463463374607431768211456 := by
      rw [Int.add_mul, Int.mul_add, Int.mul_add, Int.mul_comm a 18446744073709551616]; omega
    rw [e]
    generalize a * b = z
    omega
  · have e : (a + 18446744073709551616) * b = a * b + 18446744073709551616 * b := by rw [Int.add_mul]
    rw [e]
    generalize a * b = z
    omega
  · have e : a * (b + 18446744073709551616) = a * b + 18446744073709551616 * a := by rw [Int.mul_add, Int.mul_comm a 18446744073709551616]
    rw [e]
    generalize a * b = z
    omega
  · have z0 : 0 ≤ a * b := Int.mul_nonneg (by omega) (by omega)
    have z1 : a * b ≤ 9223372036854775807 * 9223372036854775807 := Int.mul_le_mul (by omega) (by omega) (by omega) (by omega)
    generalize a * b = z at *
    rw [and_true]
    omega

set_option maxHeartbeats 1000000 in
theorem multiply_any (a b : Int) (ha : -9223372036854775808 ≤ a ∧ a ≤ 9223372036854775807) (hb : -9223372036854775808 ≤ b ∧ b ≤ 9223372036854775807) (w : World) :
    Calls Tryz.prog 73 #[.int .i64 a, .int .i64 b] w fun e w' => e = .returned (prodV (a * b)) ∧ Below w.heap.size w w' := by
  obtain ⟨h1, h2⟩ := two_wraps a b ha hb
  have H1 := Lib.hid h1
  have H2 := Lib.hid h2
  clear h1 h2
  have m1 : 0 ≤ IntKind.u64.wrap a ∧ IntKind.u64.wrap a ≤ 18446744073709551615 := by rw [IntKind.wrap_u64]; omega
  have m2 : 0 ≤ IntKind.u64.wrap b ∧ IntKind.u64.wrap b ≤ 18446744073709551615 := by rw [IntKind.wrap_u64]; omega
  have M1 := Lib.hid m1
  have M2 := Lib.hid m2
  clear m1 m2
  by_cases c1 : a < 0 <;> by_cases c2 : b < 0
  all_goals
    have h3 := H1.out
    unfold mulUp at h3
    simp only [c1, c2, if_true, if_false] at h3
    have h2 := H2.out
    have m1 := M1.out
    have m2 := M2.out
    clear H1 H2 M1 M2
    try (have ea := IntWalk.u64_in a (by omega); rw [ea] at h3 h2 m1; clear ea)
    try (have eb := IntWalk.u64_in b (by omega); rw [eb] at h3 h2 m2; clear eb)
    have H3 := Lib.hid h3
    have H2 := Lib.hid h2
    have M1 := Lib.hid m1
    have M2 := Lib.hid m2
    clear h3 h2 m1 m2
    go_enter Tryz.func73, Tryz.ntmps73
    go_wp2_with fail
    go_fit (mul64_any _ _ M1.out.1 M1.out.2 M2.out.1 M2.out.2 _)
    rintro e w' ⟨rfl, rfl⟩
    go_wp2_with fail
    refine bodyPost_ret (v := prodV (a * b)) ?_ rfl ⟨rfl, ?_⟩
    · simp [results, Tryz.results73, go_sem, H2.out, H3.out, prodV]
    · exact (Below.refl _ _).alloc (Nat.le_refl _) _

/-- An integer that a product of two ints can be, or its negation. -/
def Mid (z : Int) : Prop := -85070591730234615865843651857942052864 ≤ z ∧ z ≤ 85070591730234615865843651857942052864
theorem mid_mul (a b : Int) (ha : -9223372036854775808 ≤ a ∧ a ≤ 9223372036854775807) (hb : -9223372036854775808 ≤ b ∧ b ≤ 9223372036854775807) : Mid (a * b) := by
  unfold Mid
  have h : (a * b).natAbs ≤ 9223372036854775808 * 9223372036854775808 := by
    rw [Int.natAbs_mul]
    exact Nat.mul_le_mul (by omega) (by omega)
  omega
theorem Mid.neg {z : Int} (h : Mid z) : Mid (-z) := by unfold Mid at *; omega
theorem Mid.int {a : Int} (ha : -9223372036854775808 ≤ a ∧ a ≤ 9223372036854775807) : Mid a := by unfold Mid; omega

/-- The upper half's sign. -/
theorem hi_neg (z : Int) (h : Mid z) : wrap64 (hiOf z) < 0 ↔ z < 0 := by
  unfold Mid at h; unfold wrap64 hiOf; omega
theorem hi_i64 (z : Int) (h : Mid z) : wrap64 (hiOf z) = z / 18446744073709551616 := by
  unfold Mid at h; unfold wrap64 hiOf; omega
theorem hi_lt (z y : Int) (hz : Mid z) (hy : Mid y) (hne : hiOf z ≠ hiOf y) : wrap64 (hiOf z) < wrap64 (hiOf y) ↔ z < y := by
  rw [hi_i64 z hz, hi_i64 y hy]; unfold hiOf Mid at *; omega
theorem lo_lt (z y : Int) (hz : Mid z) (hy : Mid y) (he : hiOf z = hiOf y) : loOf z < loOf y ↔ z < y := by
  unfold hiOf loOf Mid at *; omega
theorem neg_lo (z : Int) : loOf (-z) = (18446744073709551616 - loOf z) % 18446744073709551616 := by unfold loOf; omega
theorem neg_hi (z : Int) : hiOf (-z) = (18446744073709551616 - hiOf z - (if 0 < loOf z then 1 else 0)) % 18446744073709551616 := by
  unfold hiOf loOf; split <;> omega

set_option maxHeartbeats 1000000 in
theorem negative_any (z : Int) (h : Mid z) (w : World) :
    Calls Tryz.prog 75 #[prodV z] w fun e w' => e = .returned (.bool (decide (z < 0))) ∧ Below w.heap.size w w' := by
  have hn := hi_neg z h
  have H := Lib.hid h
  have HN := Lib.hid hn
  clear h hn
  unfold prodV
  go_enter Tryz.func75, Tryz.ntmps75
  go_wp2_with fail
  go_ret
  exact ⟨ret_bool (by simp only [HN.out]), (Below.refl _ _).alloc (Nat.le_refl _) _⟩

set_option maxHeartbeats 1000000 in
theorem less_any (z y : Int) (hz : Mid z) (hy : Mid y) (w : World) :
    Calls Tryz.prog 79 #[prodV z, prodV y] w fun e w' => e = .returned (.bool (decide (z < y))) ∧ Below w.heap.size w w' := by
  by_cases he : hiOf z = hiOf y
  · have hl := lo_lt z y hz hy he
    have HL := Lib.hid hl
    have hb : (hiOf z != hiOf z) = false := by simp
    unfold prodV
    rw [← he]
    clear hl hz hy he
    go_enter Tryz.func79, Tryz.ntmps79
    go_wp2_with fail
    go_ret
    exact ⟨ret_bool (by simp only [HL.out]), ((Below.refl _ _).alloc (Nat.le_refl _) _).alloc (by simp) _⟩
  · have hl := hi_lt z y hz hy he
    have HL := Lib.hid hl
    have hb : (hiOf z != hiOf y) = true := by simpa using he
    unfold prodV
    clear hl hz hy he
    go_enter Tryz.func79, Tryz.ntmps79
    go_wp2_with fail
    go_ret
    exact ⟨ret_bool (by simp only [HL.out]), ((Below.refl _ _).alloc (Nat.le_refl _) _).alloc (by simp) _⟩

set_option maxHeartbeats 1000000 in
theorem magnitude_any (a : Int) (ha : -9223372036854775808 ≤ a ∧ a ≤ 9223372036854775807) (w : World) :
    Calls Tryz.prog 77 #[.int .i64 a] w fun e w' => e = .returned (.int .u64 (a.natAbs : Int)) ∧ w = w' := by
  by_cases c : a < 0
  · have e : IntKind.u64.wrap (-IntKind.u64.wrap a) = (a.natAbs : Int) := by simp only [IntKind.wrap_u64]; omega
    have E := Lib.hid e
    clear e ha
    go_enter Tryz.func77, Tryz.ntmps77
    go_wp2_with fail
    go_ret
    exact ⟨ret_u64 E.out, rfl⟩
  · have e : IntKind.u64.wrap a = (a.natAbs : Int) := by simp only [IntKind.wrap_u64]; omega
    have E := Lib.hid e
    clear e ha
    go_enter Tryz.func77, Tryz.ntmps77
    go_wp2_with fail
    go_ret
    exact ⟨ret_u64 E.out, rfl⟩

/-- Sub64 of three naturals, as the model runs it. -/
theorem sub64_nat (x y b : Nat) (hb : b ≤ 1) (w : World) :
    (callFunc 91 #[.int .u64 (x : Int), .int .u64 (y : Int), .int .u64 (b : Int)]).run Tryz.prog w =
      .ok (.value (.tuple #[.int .u64 (((x + 18446744073709551616 - y - b) % 18446744073709551616 : Nat) : Int), .int .u64 ((if x < y + b then 1 else 0 : Nat) : Int)])) w := by
  rw [run_callFunc_extern Tryz.func91 (by kernel_rfl) (by kernel_rfl) (by kernel_rfl) (e := sub64Entry) (by kernel_rfl), run_sub64 x y b hb]
  rfl
def bw1 (z : Int) : Int := if 0 < loOf z then 1 else 0
def bw2 (z : Int) : Int := if 0 < hiOf z + bw1 z then 1 else 0
theorem sub64_lo (z : Int) (w : World) :
    (callFunc 91 #[.int .u64 0, .int .u64 (loOf z), .int .u64 0]).run Tryz.prog w = .ok (.value (.tuple #[.int .u64 (loOf (-z)), .int .u64 (bw1 z)])) w := by
  obtain ⟨n, hn⟩ := Int.eq_ofNat_of_zero_le (loOf_bd z).1
  have hb := (loOf_bd z).2
  have h := sub64_nat 0 n 0 (by omega) w
  have e1 : (((0 + 18446744073709551616 - n - 0) % 18446744073709551616 : Nat) : Int) = loOf (-z) := by rw [neg_lo, hn]; omega
  have e2 : ((if 0 < n + 0 then 1 else 0 : Nat) : Int) = bw1 z := by unfold bw1; rw [hn]; split <;> split <;> omega
  rw [e1, e2, ← hn] at h
  exact h
theorem bw1_bd (z : Int) : bw1 z = 0 ∨ bw1 z = 1 := by unfold bw1; split <;> simp
theorem sub64_hi (z : Int) (w : World) :
    (callFunc 91 #[.int .u64 0, .int .u64 (hiOf z), .int .u64 (bw1 z)]).run Tryz.prog w = .ok (.value (.tuple #[.int .u64 (hiOf (-z)), .int .u64 (bw2 z)])) w := by
  obtain ⟨n, hn⟩ := Int.eq_ofNat_of_zero_le (hiOf_bd z).1
  have hb := (hiOf_bd z).2
  have hw := bw1_bd z
  obtain ⟨b, hbn⟩ : ∃ b : Nat, bw1 z = b := ⟨(bw1 z).toNat, by omega⟩
  have h := sub64_nat 0 n b (by omega) w
  have e1 : (((0 + 18446744073709551616 - n - b) % 18446744073709551616 : Nat) : Int) = hiOf (-z) := by
    have e := neg_hi z
    have e' : (if 0 < loOf z then 1 else 0 : Int) = bw1 z := rfl
    rw [e, e', hn, hbn]; omega
  have e2 : ((if 0 < n + b then 1 else 0 : Nat) : Int) = bw2 z := by unfold bw2; rw [hn, hbn]; split <;> split <;> omega
  rw [e1, e2, ← hn, ← hbn] at h
  exact h

set_option maxHeartbeats 1000000 in
theorem negated_any (z : Int) (w : World) :
    Calls Tryz.prog 74 #[prodV z] w fun e w' => e = .returned (prodV (-z)) ∧ Below w.heap.size w w' := by
  have s1 := sub64_lo z
  have s2 := sub64_hi z
  unfold prodV
  go_enter Tryz.func74, Tryz.ntmps74
  go_wp2_with fail
  refine bodyPost_ret (v := .agg #[.int .u64 (hiOf (-z)), .int .u64 (loOf (-z))]) ?_ rfl ⟨rfl, ((Below.refl _ _).alloc (Nat.le_refl _) _).alloc (by simp) _⟩
  simp [results, Tryz.results74, go_sem]

end Go.Proofs.YtmjikddceegloaaGreatDoor
