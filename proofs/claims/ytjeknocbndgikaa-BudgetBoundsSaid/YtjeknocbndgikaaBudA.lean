/- What layer 22 calls of package num (Mul, Limit) and of math/bits.Mul64: what each call returns, for every argument. -/
import Derived.Test.YtjeknocbndgikaaRows
import Derived.WalkKit
import Derived.WalkSpells
import Derived.WalkLawsBesides
import Derived.Lib.Mul64
import Derived.Lib.Hide
import Derived.Deep.DeepFit
import Derived.Deep.RegionWith
import Derived.Deep.RegionHeld3
import Derived.Deep.DeepCutAuto
import Derived.Deep.CutBlock
import Derived.BigQuiet
import Derived.Deep.QuietTactic
import Derived.Outline
namespace Go.Proofs.Ytjeknocbndgikaa
open Go.RowKit Go.Lib

theorem ret_bool {a b : Bool} (h : a = b) : Ending.returned (.bool a) = .returned (.bool b) := by rw [h]
theorem ret_int {k : IntKind} {a b : Int} (h : a = b) : Ending.returned (.int k a) = .returned (.int k b) := by rw [h]
theorem ret_u64 {a b : Int} (h : a = b) : Ending.returned (.int .u64 a) = .returned (.int .u64 b) := by rw [h]

namespace M64
theorem maskN (a : Nat) (ha : a < 18446744073709551616) : bits .and .u64 (a : Int) 4294967295 = ((a % 4294967296 : Nat) : Int) := by
  have h := bits_and_u64_nat a 4294967295 ha (by omega)
  have e : a &&& 4294967295 = a % 4294967296 := Nat.and_two_pow_sub_one_eq_mod a 32
  rw [e] at h
  exact h
theorem divN (a : Nat) : (a : Int) / 4294967296 = ((a / 4294967296 : Nat) : Int) := by omega
theorem mulN (a b : Nat) : (a : Int) * (b : Int) = ((a * b : Nat) : Int) := (Int.natCast_mul a b).symm
theorem addN (a b : Nat) : (a : Int) + (b : Int) = ((a + b : Nat) : Int) := (Int.natCast_add a b).symm
theorem wrapN (a : Nat) (ha : a < 18446744073709551616) : IntKind.u64.wrap (a : Int) = (a : Int) := by rw [IntKind.wrap_u64]; omega
theorem wrapM (a : Nat) : IntKind.u64.wrap (a : Int) = ((a % 18446744073709551616 : Nat) : Int) := by rw [IntKind.wrap_u64]; omega
end M64

set_option maxHeartbeats 1000000 in
theorem mul64_nat (x y : Nat) (hx : x < 18446744073709551616) (hy : y < 18446744073709551616) (w : World) :
    Calls Try.prog 30 #[.int .u64 x, .int .u64 y] w fun e w' => e = .returned (.tuple #[.int .u64 ((x * y / 18446744073709551616 : Nat) : Int), .int .u64 ((x * y % 18446744073709551616 : Nat) : Int)]) ∧ w = w' := by
  obtain ⟨bd, bt, bw, hhi⟩ := Lib.mul64_hi x y hx hy
  have ba := Lib.half_mul_le (a := x / 4294967296) (b := y / 4294967296) (by omega) (by omega)
  have bb := Lib.half_mul_le (a := x / 4294967296) (b := y % 4294967296) (by omega) (by omega)
  have bc := Lib.half_mul_le (a := x % 4294967296) (b := y / 4294967296) (by omega) (by omega)
  have ba' : x / 4294967296 * (y / 4294967296) < 18446744073709551616 := by omega
  have bb' : x / 4294967296 * (y % 4294967296) < 18446744073709551616 := by omega
  have bc' : x % 4294967296 * (y / 4294967296) < 18446744073709551616 := by omega
  have bh1 : x / 4294967296 * (y / 4294967296) + (x / 4294967296 * (y % 4294967296) + x % 4294967296 * (y % 4294967296) / 4294967296) / 4294967296 < 18446744073709551616 := by omega
  have bh : x / 4294967296 * (y / 4294967296) + (x / 4294967296 * (y % 4294967296) + x % 4294967296 * (y % 4294967296) / 4294967296) / 4294967296 + ((x / 4294967296 * (y % 4294967296) + x % 4294967296 * (y % 4294967296) / 4294967296) % 4294967296 + x % 4294967296 * (y / 4294967296)) / 4294967296 < 18446744073709551616 := by omega
  go_enter Try.func30, Try.ntmps30
  go_wp2
  simp only [M64.maskN x hx, M64.maskN y hy, M64.divN, M64.mulN, M64.addN, M64.wrapN _ bd, M64.wrapN _ bb', M64.wrapN _ bt, M64.maskN _ bt, M64.wrapN _ bc', M64.wrapN _ bw, M64.wrapN _ ba', M64.wrapN _ bh1, M64.wrapN _ bh, M64.wrapM (x * y)]
  rw [hhi]
  go_ret2
  exact ⟨rfl, rfl⟩


/-- The upper and the lower half of an integer in two's complement of 128 bits. -/
def hiOf (z : Int) : Int := z / 18446744073709551616 % 18446744073709551616
def loOf (z : Int) : Int := z % 18446744073709551616
def prodV (z : Int) : Value := .agg #[.int .u64 (hiOf z), .int .u64 (loOf z)]
theorem hiOf_bd (z : Int) : 0 ≤ hiOf z ∧ hiOf z ≤ 18446744073709551615 := by unfold hiOf; omega
theorem loOf_bd (z : Int) : 0 ≤ loOf z ∧ loOf z ≤ 18446744073709551615 := by unfold loOf; omega
/-- What Mul64 hands back, of two integers. -/
def mulHi (x y : Int) : Int := x * y / 18446744073709551616
def mulLo (x y : Int) : Int := x * y % 18446744073709551616
theorem mul64_any (x y : Int) (hx0 : 0 ≤ x) (hx : x ≤ 18446744073709551615) (hy0 : 0 ≤ y) (hy : y ≤ 18446744073709551615) (w : World) :
    Calls Try.prog 30 #[.int .u64 x, .int .u64 y] w fun e w' => e = .returned (.tuple #[.int .u64 (mulHi x y), .int .u64 (mulLo x y)]) ∧ w = w' := by
  obtain ⟨a, rfl⟩ := Int.eq_ofNat_of_zero_le hx0
  obtain ⟨b, rfl⟩ := Int.eq_ofNat_of_zero_le hy0
  have h := mul64_nat a b (by omega) (by omega) w
  unfold mulHi mulLo
  simpa [Int.natCast_ediv, Int.natCast_emod, Int.natCast_mul] using h

/-- The arithmetic of multiply: the upper half, corrected for the signs. -/
def mulUp (a b : Int) : Int :=
  let h := mulHi (IntKind.u64.wrap a) (IntKind.u64.wrap b)
  let h1 := if a < 0 then IntKind.u64.wrap (h - IntKind.u64.wrap b) else h
  if b < 0 then IntKind.u64.wrap (h1 - IntKind.u64.wrap a) else h1
theorem two_wraps (a b : Int) (ha : -9223372036854775808 ≤ a ∧ a ≤ 9223372036854775807) (hb : -9223372036854775808 ≤ b ∧ b ≤ 9223372036854775807) :
    mulUp a b = hiOf (a * b) ∧ mulLo (IntKind.u64.wrap a) (IntKind.u64.wrap b) = loOf (a * b) := by
  have ea : IntKind.u64.wrap a = if a < 0 then a + 18446744073709551616 else a := by rw [IntKind.wrap_u64]; split <;> omega
  have eb : IntKind.u64.wrap b = if b < 0 then b + 18446744073709551616 else b := by rw [IntKind.wrap_u64]; split <;> omega
  unfold mulUp mulHi mulLo hiOf loOf
  rw [ea, eb]
  simp only [IntKind.wrap_u64]
  by_cases h1 : a < 0 <;> by_cases h2 : b < 0 <;> simp only [h1, h2, if_true, if_false]
  · have e : (a + 18446744073709551616) * (b + 18446744073709551616) = a * b + 18446744073709551616 * a + 18446744073709551616 * b + 340282366920938463463374607431768211456 := by
      rw [Int.add_mul, Int.mul_add, Int.mul_add, Int.mul_comm a 18446744073709551616]; omega
    rw [e]
    generalize a * b = z
    omega
  · have e : (a + 18446744073709551616) * b = a * b + 18446744073709551616 * b := by rw [Int.add_mul]
    rw [e]
    generalize a * b = z
    omega
  · have e : a * (b + 18446744073709551616) = a * b + 18446744073709551616 * a := by rw [Int.mul_add, Int.mul_comm a 18446744073709551616]
    rw [e]
    generalize a * b = z
    omega
  · have z0 : 0 ≤ a * b := Int.mul_nonneg (by omega) (by omega)
    have z1 : a * b ≤ 9223372036854775807 * 9223372036854775807 := Int.mul_le_mul (by omega) (by omega) (by omega) (by omega)
    generalize a * b = z at *
    rw [and_true]
    omega

set_option maxHeartbeats 1000000 in
theorem multiply_any (a b : Int) (ha : -9223372036854775808 ≤ a ∧ a ≤ 9223372036854775807) (hb : -9223372036854775808 ≤ b ∧ b ≤ 9223372036854775807) (w : World) :
    Calls Try.prog 27 #[.int .i64 a, .int .i64 b] w fun e w' => e = .returned (prodV (a * b)) ∧ Below w.heap.size w w' := by
  obtain ⟨h1, h2⟩ := two_wraps a b ha hb
  have H1 := Lib.hid h1
  have H2 := Lib.hid h2
  clear h1 h2
  have m1 : 0 ≤ IntKind.u64.wrap a ∧ IntKind.u64.wrap a ≤ 18446744073709551615 := by rw [IntKind.wrap_u64]; omega
  have m2 : 0 ≤ IntKind.u64.wrap b ∧ IntKind.u64.wrap b ≤ 18446744073709551615 := by rw [IntKind.wrap_u64]; omega
  have M1 := Lib.hid m1
  have M2 := Lib.hid m2
  clear m1 m2
  by_cases c1 : a < 0 <;> by_cases c2 : b < 0
  all_goals
    have h3 := H1.out
    unfold mulUp at h3
    simp only [c1, c2, if_true, if_false] at h3
    have h2 := H2.out
    have m1 := M1.out
    have m2 := M2.out
    clear H1 H2 M1 M2
    try (have ea := IntWalk.u64_in a (by omega); rw [ea] at h3 h2 m1; clear ea)
    try (have eb := IntWalk.u64_in b (by omega); rw [eb] at h3 h2 m2; clear eb)
    have H3 := Lib.hid h3
    have H2 := Lib.hid h2
    have M1 := Lib.hid m1
    have M2 := Lib.hid m2
    clear h3 h2 m1 m2
    go_enter Try.func27, Try.ntmps27
    go_wp2_with fail
    go_fit (mul64_any _ _ M1.out.1 M1.out.2 M2.out.1 M2.out.2 _)
    rintro e w' ⟨rfl, rfl⟩
    go_wp2_with fail
    refine bodyPost_ret (v := prodV (a * b)) ?_ rfl ⟨rfl, ?_⟩
    · simp [results, Try.results27, go_sem, H2.out, H3.out, prodV]
    · exact (Below.refl _ _).alloc (Nat.le_refl _) _

/-- An integer that a product of two ints can be, or its negation. -/
def Mid (z : Int) : Prop := -85070591730234615865843651857942052864 ≤ z ∧ z ≤ 85070591730234615865843651857942052864
theorem mid_mul (a b : Int) (ha : -9223372036854775808 ≤ a ∧ a ≤ 9223372036854775807) (hb : -9223372036854775808 ≤ b ∧ b ≤ 9223372036854775807) : Mid (a * b) := by
  unfold Mid
  have h : (a * b).natAbs ≤ 9223372036854775808 * 9223372036854775808 := by
    rw [Int.natAbs_mul]
    exact Nat.mul_le_mul (by omega) (by omega)
  omega
theorem Mid.neg {z : Int} (h : Mid z) : Mid (-z) := by unfold Mid at *; omega
theorem Mid.int {a : Int} (ha : -9223372036854775808 ≤ a ∧ a ≤ 9223372036854775807) : Mid a := by unfold Mid; omega

/-- The upper half's sign. -/
theorem hi_neg (z : Int) (h : Mid z) : wrap64 (hiOf z) < 0 ↔ z < 0 := by
  unfold Mid at h; unfold wrap64 hiOf; omega
theorem hi_i64 (z : Int) (h : Mid z) : wrap64 (hiOf z) = z / 18446744073709551616 := by
  unfold Mid at h; unfold wrap64 hiOf; omega
theorem hi_lt (z y : Int) (hz : Mid z) (hy : Mid y) (hne : hiOf z ≠ hiOf y) : wrap64 (hiOf z) < wrap64 (hiOf y) ↔ z < y := by
  rw [hi_i64 z hz, hi_i64 y hy]; unfold hiOf Mid at *; omega
theorem lo_lt (z y : Int) (hz : Mid z) (hy : Mid y) (he : hiOf z = hiOf y) : loOf z < loOf y ↔ z < y := by
  unfold hiOf loOf Mid at *; omega
theorem neg_lo (z : Int) : loOf (-z) = (18446744073709551616 - loOf z) % 18446744073709551616 := by unfold loOf; omega
theorem neg_hi (z : Int) : hiOf (-z) = (18446744073709551616 - hiOf z - (if 0 < loOf z then 1 else 0)) % 18446744073709551616 := by
  unfold hiOf loOf; split <;> omega

set_option maxHeartbeats 1000000 in
theorem less_any (z y : Int) (hz : Mid z) (hy : Mid y) (w : World) :
    Calls Try.prog 28 #[prodV z, prodV y] w fun e w' => e = .returned (.bool (decide (z < y))) ∧ Below w.heap.size w w' := by
  by_cases he : hiOf z = hiOf y
  · have hl := lo_lt z y hz hy he
    have HL := Lib.hid hl
    have hb : (hiOf z != hiOf z) = false := by simp
    unfold prodV
    rw [← he]
    clear hl hz hy he
    go_enter Try.func28, Try.ntmps28
    go_wp2_with fail
    go_ret
    exact ⟨ret_bool (by simp only [HL.out]), ((Below.refl _ _).alloc (Nat.le_refl _) _).alloc (by simp) _⟩
  · have hl := hi_lt z y hz hy he
    have HL := Lib.hid hl
    have hb : (hiOf z != hiOf y) = true := by simpa using he
    unfold prodV
    clear hl hz hy he
    go_enter Try.func28, Try.ntmps28
    go_wp2_with fail
    go_ret
    exact ⟨ret_bool (by simp only [HL.out]), ((Below.refl _ _).alloc (Nat.le_refl _) _).alloc (by simp) _⟩
def I64 (a : Int) : Prop := -9223372036854775808 ≤ a ∧ a ≤ 9223372036854775807
theorem I64.mk {a : Int} (w : (Lit.int .i64 a).wf = true) : I64 a := by
  simpa [Lit.wf, IntKind.signed, IntKind.min, IntKind.max, IntKind.bits, I64] using w

/-- A number limited to the range of int. -/
def limit64 (z : Int) : Int := if z < -9223372036854775808 then -9223372036854775808 else if 9223372036854775807 < z then 9223372036854775807 else z

/-- The nearest number within the bounds. -/
def clamp (n lo hi : Int) : Int := if hi < lo then lo else if n < lo then lo else if hi < n then hi else n
set_option maxHeartbeats 1000000 in
theorem Limit_any (n lo hi : Int) (w : World) :
    Calls Try.prog 29 #[.int .i64 n, .int .i64 lo, .int .i64 hi] w fun e w' => e = .returned (.int .i64 (clamp n lo hi)) ∧ w = w' := by
  go_enter Try.func29, Try.ntmps29
  go_wp2_with fail
  all_goals
    go_ret
    exact ⟨ret_int (by unfold clamp; split <;> (try split) <;> (try split) <;> omega), rfl⟩

theorem bcell {W w1 : World} (hb : Below W.heap.size W w1) : (∀ b o, b < W.heap.size → w1.cell? ⟨b, o, none⟩ = W.cell? ⟨b, o, none⟩) ∧ (∀ b o, b < W.heap.size → w1.frozen? ⟨b, o, none⟩ = W.frozen? ⟨b, o, none⟩) :=
  ⟨fun b o h => hb.cell (p := ⟨b, o, none⟩) h, fun b o h => hb.frozen (p := ⟨b, o, none⟩) h⟩

/-- A new block of two cells is still there behind calls that only make memory. -/
theorem hold2_new {W w1 : World} (hb : Below W.heap.size W w1) (x y : Value) (T : TypeId) :
    (w1.alloc (.cells #[x, y] T)).cell? ⟨w1.heap.size, 0, none⟩ = some x ∧ (w1.alloc (.cells #[x, y] T)).cell? ⟨w1.heap.size, 1, none⟩ = some y ∧
      w1.heap.size < (w1.alloc (.cells #[x, y] T)).heap.size ∧ W.heap.size ≤ (w1.alloc (.cells #[x, y] T)).heap.size ∧ Below W.heap.size W (w1.alloc (.cells #[x, y] T)) :=
  ⟨by simp [World.cell?_alloc_new], by simp [World.cell?_alloc_new], by simp, by have := hb.size; simp; omega, hb.alloc hb.size _⟩
theorem hold2 {W w1 w2 : World} {B : Nat} {x y : Value} (h : w1.cell? ⟨B, 0, none⟩ = some x ∧ w1.cell? ⟨B, 1, none⟩ = some y ∧ B < w1.heap.size ∧ W.heap.size ≤ w1.heap.size ∧ Below W.heap.size W w1) (hb : Below w1.heap.size w1 w2) :
    w2.cell? ⟨B, 0, none⟩ = some x ∧ w2.cell? ⟨B, 1, none⟩ = some y ∧ B < w2.heap.size ∧ W.heap.size ≤ w2.heap.size ∧ Below W.heap.size W w2 := by
  obtain ⟨h1, h2, h3, h4, h5⟩ := h
  have hz := hb.size
  exact ⟨(hb.cell (p := ⟨B, 0, none⟩) h3).trans h1, (hb.cell (p := ⟨B, 1, none⟩) h3).trans h2, by omega, by omega, h5.trans (hb.mono h4)⟩
theorem hold2_drew {W w1 : World} {B : Nat} {x y : Value} (h : w1.cell? ⟨B, 0, none⟩ = some x ∧ w1.cell? ⟨B, 1, none⟩ = some y ∧ B < w1.heap.size ∧ W.heap.size ≤ w1.heap.size ∧ Below W.heap.size W w1) :
    w1.drew.cell? ⟨B, 0, none⟩ = some x ∧ w1.drew.cell? ⟨B, 1, none⟩ = some y ∧ B < w1.drew.heap.size ∧ W.heap.size ≤ w1.drew.heap.size ∧ Below W.heap.size W w1.drew :=
  ⟨h.1, h.2.1, h.2.2.1, h.2.2.2.1, h.2.2.2.2.drew⟩

theorem less_any1 (z y : Int) (hz : Mid z) (hy : Mid y) (w : World) :
    Calls Try.prog 28 #[.agg #[.int .u64 (hiOf z), .int .u64 (loOf z)], prodV y] w fun e w' => e = .returned (.bool (decide (z < y))) ∧ Below w.heap.size w w' := less_any z y hz hy w
theorem less_any2 (z y : Int) (hz : Mid z) (hy : Mid y) (w : World) :
    Calls Try.prog 28 #[prodV z, .agg #[.int .u64 (hiOf y), .int .u64 (loOf y)]] w fun e w' => e = .returned (.bool (decide (z < y))) ∧ Below w.heap.size w w' := less_any z y hz hy w
theorem minI : I64 (-9223372036854775808) := by unfold I64; omega
theorem maxI : I64 9223372036854775807 := by unfold I64; omega
theorem oneI : I64 1 := by unfold I64; omega
theorem minM : Mid (-9223372036854775808) := by unfold Mid; omega
theorem maxM : Mid 9223372036854775807 := by unfold Mid; omega
theorem lo_wrap (z : Int) (h1 : ¬ z < -9223372036854775808) (h2 : ¬ 9223372036854775807 < z) : wrap64 (loOf z) = z := by unfold wrap64 loOf; omega

set_option maxHeartbeats 1000000 in
theorem Mul_any (a b : Int) (ha : I64 a) (hb : I64 b) (w : World) :
    Calls Try.prog 20 #[.int .i64 a, .int .i64 b] w fun e w' => e = .returned (.int .i64 (limit64 (a * b))) ∧ Below w.heap.size w w' := by
  have HA := Lib.hid ha; have HB := Lib.hid hb
  have HM := Lib.hid (mid_mul a b ha hb)
  clear ha hb
  go_enter Try.func20, Try.ntmps20
  go_wp2_with fail
  go_fit (multiply_any _ _ HA.out HB.out _)
  rintro e w1 ⟨rfl, hb1⟩
  unfold prodV
  go_upto_region 2 with fail
  have hs0 := hold2_new hb1 (.int .u64 (hiOf (a * b))) (.int .u64 (loOf (a * b))) 50
  obtain ⟨wn, hwn⟩ : ∃ wn, wn = w1.alloc (Obj.cells #[Value.int IntKind.u64 (hiOf (a * b)), Value.int IntKind.u64 (loOf (a * b))] 50) := ⟨_, rfl⟩
  rw [← hwn] at hs0 ⊢
  clear hwn
  obtain ⟨z, hz⟩ : ∃ z, z = a * b := ⟨_, rfl⟩
  rw [← hz] at hs0 HM ⊢
  have HZ := Lib.hid hz
  clear hz
  go_cut [9] (fun s9 wx => s9 = .bool (decide (z < -9223372036854775808)) ∧ (wx.cell? ⟨w1.heap.size, 0, none⟩ = some (.int .u64 (hiOf z)) ∧ wx.cell? ⟨w1.heap.size, 1, none⟩ = some (.int .u64 (loOf z)) ∧ w1.heap.size < wx.heap.size ∧ w.heap.size ≤ wx.heap.size ∧ Below w.heap.size w wx))
  case first =>
    go_region_held3 (fun w' => w'.cell? ⟨w1.heap.size, 0, none⟩ = some (.int .u64 (hiOf z)) ∧ w'.cell? ⟨w1.heap.size, 1, none⟩ = some (.int .u64 (loOf z)) ∧ w1.heap.size < w'.heap.size ∧ w.heap.size ≤ w'.heap.size ∧ Below w.heap.size w w') (first | exact hold2_drew hs0 | exact hold2 (by assumption) (by assumption)) (first
      | (go_at_call 27; go_fit (multiply_any (-9223372036854775808) 1 minI oneI _); rintro e w2 ⟨rfl, hb2⟩)
      | (go_at_call 28; go_fit (less_any1 z (-9223372036854775808) HM.out minM _); rintro e w3 ⟨rfl, hb3⟩))
    go_wp2_with fail
    go_meet
    refine ⟨rfl, ?_⟩
    assumption
  case rest =>
    obtain ⟨rfl, hs1⟩ := hcut
    clear hs0
    by_cases h1 : z < -9223372036854775808
    · have HS := Lib.hid hs1
      clear hs1
      go_wp2_with fail
      go_ret
      exact ⟨ret_int (by unfold limit64; rw [← HZ.out, if_pos h1]), HS.out.2.2.2.2⟩
    · have H1 := Lib.hid h1
      clear h1
      go_upto_region 4 with fail
      go_cut [13] (fun s9 wx => s9 = .bool (decide (9223372036854775807 < z)) ∧ (wx.cell? ⟨w1.heap.size, 0, none⟩ = some (.int .u64 (hiOf z)) ∧ wx.cell? ⟨w1.heap.size, 1, none⟩ = some (.int .u64 (loOf z)) ∧ w1.heap.size < wx.heap.size ∧ w.heap.size ≤ wx.heap.size ∧ Below w.heap.size w wx))
      case first =>
        go_region_held3 (fun w' => w'.cell? ⟨w1.heap.size, 0, none⟩ = some (.int .u64 (hiOf z)) ∧ w'.cell? ⟨w1.heap.size, 1, none⟩ = some (.int .u64 (loOf z)) ∧ w1.heap.size < w'.heap.size ∧ w.heap.size ≤ w'.heap.size ∧ Below w.heap.size w w') (first | exact hold2_drew hs1 | exact hold2 (by assumption) (by assumption)) (first
          | (go_at_call 27; go_fit (multiply_any 9223372036854775807 1 maxI oneI _); rintro e w2 ⟨rfl, hb2⟩)
          | (go_at_call 28; go_fit (less_any2 9223372036854775807 z maxM HM.out _); rintro e w3 ⟨rfl, hb3⟩))
        go_wp2_with fail
        go_meet
        refine ⟨rfl, ?_⟩
        assumption
      case rest =>
        obtain ⟨rfl, hs2⟩ := hcut
        clear hs1
        by_cases h2 : 9223372036854775807 < z
        · have HS := Lib.hid hs2
          clear hs2
          go_wp2_with fail
          go_ret
          exact ⟨ret_int (by have h4 := H1.out; unfold limit64; rw [← HZ.out, if_neg (by omega), if_pos h2]), HS.out.2.2.2.2⟩
        · have H2 := Lib.hid h2
          obtain ⟨g1, g2, g3, g4, g5⟩ := hs2
          have G5 := Lib.hid g5
          have h3 : decide (9223372036854775807 < z) = false := by simpa using h2
          clear g5 h2
          go_wp2_with fail
          go_ret
          exact ⟨ret_int (by have h4 := H1.out; have h5 := H2.out; unfold limit64; rw [← HZ.out, if_neg (by omega), if_neg (by omega)]; exact lo_wrap z (by omega) (by omega)), G5.out⟩
end Go.Proofs.Ytjeknocbndgikaa
