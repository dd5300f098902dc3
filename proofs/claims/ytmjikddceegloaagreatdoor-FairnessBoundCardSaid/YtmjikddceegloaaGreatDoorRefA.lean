/- Contracts of the document's answers of layer 1: Size, Product, below, Below, narrow, Add, Mul, Less, Limit. -/
import Derived.Test.YtmjikddceegloaaGreatDoorNumB
namespace Go.Proofs.YtmjikddceegloaaGreatDoor
open Go.RowKit Go.Lib Go.NumM

set_option maxHeartbeats 1000000 in
theorem Size_any (a : Int) (ha : I64 a) (w : World) :
    Calls Tryz.prog 89 #[.int .i64 a] w fun e w' => e = .returned (.int .u64 (a.natAbs : Int)) ∧ w = w' := by
  obtain ⟨a1, a2⟩ := ha
  by_cases c : a < 0
  · have E := Lib.hid (show -(a + 1) + 1 = (a.natAbs : Int) by omega)
    go_enter Tryz.func89, Tryz.ntmps89
    go_wp2_with fail
    go_ret
    exact ⟨ret_u64 E.out, rfl⟩
  · have E := Lib.hid (show a = (a.natAbs : Int) by omega)
    go_enter Tryz.func89, Tryz.ntmps89
    go_wp2_with fail
    go_ret
    exact ⟨ret_u64 E.out, rfl⟩

/-- The halves of a number's size. -/
def wHi (z : Int) : Nat := z.natAbs / 18446744073709551616
def wLo (z : Int) : Nat := z.natAbs % 18446744073709551616
def wideV (z : Int) : Value := .agg #[.bool (decide (z < 0)), .int .u64 (wHi z), .int .u64 (wLo z)]
theorem natAbs64 {a : Int} (ha : I64 a) : a.natAbs ≤ 9223372036854775808 := by unfold I64 at ha; omega
theorem modN (a b : Nat) : (a : Int) % (b : Int) = ((a % b : Nat) : Int) := by rw [Int.natCast_emod]
theorem modK (a : Nat) : (a : Int) % 4294967296 = ((a % 4294967296 : Nat) : Int) := by omega
theorem mulK (a : Nat) : (a : Int) * 4294967296 = ((a * 4294967296 : Nat) : Int) := by omega

theorem tdivK (a : Nat) : (a : Int).tdiv 4294967296 = ((a / 4294967296 : Nat) : Int) := by rw [Int.tdiv_eq_ediv_of_nonneg (by omega)]; omega
theorem tmodK (a : Nat) : (a : Int).tmod 4294967296 = ((a % 4294967296 : Nat) : Int) := by rw [Int.tmod_eq_emod_of_nonneg (by omega)]; omega
theorem lo_sum (x y : Nat) :
    ((x / 4294967296 * (y % 4294967296) + x % 4294967296 * (y % 4294967296) / 4294967296) % 4294967296 + x % 4294967296 * (y / 4294967296)) % 4294967296 * 4294967296 + x % 4294967296 * (y % 4294967296) % 4294967296 = x * y % 18446744073709551616 := by
  have e : x * y = (x / 4294967296) * (y / 4294967296) * (4294967296 * 4294967296) + ((x / 4294967296) * (y % 4294967296) + (x % 4294967296) * (y / 4294967296)) * 4294967296 + (x % 4294967296) * (y % 4294967296) := by
    rw [← Lib.split_mul, Nat.div_add_mod' x 4294967296, Nat.div_add_mod' y 4294967296]
  rw [e]
  generalize (x / 4294967296) * (y / 4294967296) = a
  generalize (x / 4294967296) * (y % 4294967296) = b
  generalize (x % 4294967296) * (y / 4294967296) = c
  generalize (x % 4294967296) * (y % 4294967296) = d
  omega

theorem mul_sign (a b : Int) : ((a < 0 ↔ b < 0) → ¬ a * b < 0) ∧ (¬ (a < 0 ↔ b < 0) → a * b ≤ 0) := by
  constructor
  · intro h
    by_cases c : a < 0
    · have := Int.mul_nonneg_of_nonpos_of_nonpos (Int.le_of_lt c) (Int.le_of_lt (h.1 c)); omega
    · have := Int.mul_nonneg (show 0 ≤ a by omega) (show 0 ≤ b by omega); omega
  · intro h
    by_cases c : a < 0
    · have := Int.mul_nonpos_of_nonpos_of_nonneg (Int.le_of_lt c) (show 0 ≤ b by omega); omega
    · have := Int.mul_nonpos_of_nonneg_of_nonpos (show 0 ≤ a by omega) (show b ≤ 0 by omega); omega
theorem wide_zero (z : Int) : (wHi z = 0 ∧ wLo z = 0) ↔ z = 0 := by unfold wHi wLo; omega

set_option maxHeartbeats 1000000 in
theorem Product_raw (a b : Int) (ha : I64 a) (hb : I64 b) (x y h l : Nat) (s : Bool) (hx : x = a.natAbs) (hy : y = b.natAbs) (hh : h = x * y / 18446744073709551616) (hl : l = x * y % 18446744073709551616)
    (hs1 : (a < 0 ↔ b < 0) → s = false) (hs2 : ¬ (a < 0 ↔ b < 0) → s = !(h == 0 && l == 0)) (w : World) :
    Calls Tryz.prog 72 #[.int .i64 a, .int .i64 b] w fun e w' => e = .returned (.agg #[.bool s, .int .u64 h, .int .u64 l]) ∧ Below w.heap.size w w' := by
  have HA := Lib.hid ha; have HB := Lib.hid hb
  have HH := Lib.hid hh; have HL := Lib.hid hl
  have S1 := Lib.hid hs1; have S2 := Lib.hid hs2
  clear hh hl hs1 hs2
  have HX := Lib.hid hx; have HY := Lib.hid hy
  have hx0 : x ≤ 9223372036854775808 := by rw [hx]; exact natAbs64 ha
  have hy0 : y ≤ 9223372036854775808 := by rw [hy]; exact natAbs64 hb
  obtain ⟨bd, bt, bw, hhi⟩ := Lib.mul64_hi x y (by omega) (by omega)
  have ba := Lib.half_mul_le (a := x / 4294967296) (b := y / 4294967296) (by omega) (by omega)
  have bb := Lib.half_mul_le (a := x / 4294967296) (b := y % 4294967296) (by omega) (by omega)
  have bc := Lib.half_mul_le (a := x % 4294967296) (b := y / 4294967296) (by omega) (by omega)
  have ba' : x / 4294967296 * (y / 4294967296) < 18446744073709551616 := by omega
  have bb' : x / 4294967296 * (y % 4294967296) < 18446744073709551616 := by omega
  have bc' : x % 4294967296 * (y / 4294967296) < 18446744073709551616 := by omega
  have bh1 : x / 4294967296 * (y / 4294967296) + (x / 4294967296 * (y % 4294967296) + x % 4294967296 * (y % 4294967296) / 4294967296) / 4294967296 < 18446744073709551616 := by omega
  have bh : x / 4294967296 * (y / 4294967296) + (x / 4294967296 * (y % 4294967296) + x % 4294967296 * (y % 4294967296) / 4294967296) / 4294967296 + ((x / 4294967296 * (y % 4294967296) + x % 4294967296 * (y % 4294967296) / 4294967296) % 4294967296 + x % 4294967296 * (y / 4294967296)) / 4294967296 < 18446744073709551616 := by omega
  clear ha hb hx hy
  go_enter Tryz.func72, Tryz.ntmps72
  go_wp2_with fail
  go_fit (Size_any a HA.out _)
  rintro e w1 ⟨rfl, rfl⟩
  rw [← HX.out]
  go_wp2_with fail
  go_fit (Size_any b HB.out _)
  rintro e w1 ⟨rfl, rfl⟩
  rw [← HY.out]
  go_upto_region 8 with fail
  have bl : ((x / 4294967296 * (y % 4294967296) + x % 4294967296 * (y % 4294967296) / 4294967296) % 4294967296 + x % 4294967296 * (y / 4294967296)) % 4294967296 * 4294967296 < 18446744073709551616 := by omega
  have bl2 : ((x / 4294967296 * (y % 4294967296) + x % 4294967296 * (y % 4294967296) / 4294967296) % 4294967296 + x % 4294967296 * (y / 4294967296)) % 4294967296 * 4294967296 + x % 4294967296 * (y % 4294967296) % 4294967296 < 18446744073709551616 := by rw [lo_sum]; exact Nat.mod_lt _ (by omega)
  have bd3 : x % 4294967296 * (y % 4294967296) / 4294967296 < 18446744073709551616 := by omega
  have bt3 : (x / 4294967296 * (y % 4294967296) + x % 4294967296 * (y % 4294967296) / 4294967296) / 4294967296 < 18446744073709551616 := by omega
  have bw3 : ((x / 4294967296 * (y % 4294967296) + x % 4294967296 * (y % 4294967296) / 4294967296) % 4294967296 + x % 4294967296 * (y / 4294967296)) / 4294967296 < 18446744073709551616 := by omega
  have hcm : x % 4294967296 * (y / 4294967296) + (x / 4294967296 * (y % 4294967296) + x % 4294967296 * (y % 4294967296) / 4294967296) % 4294967296 = (x / 4294967296 * (y % 4294967296) + x % 4294967296 * (y % 4294967296) / 4294967296) % 4294967296 + x % 4294967296 * (y / 4294967296) := Nat.add_comm _ _
  simp only [tdivK, tmodK, modK, M64.divN, M64.mulN, mulK, M64.addN, M64.wrapN _ bd, M64.wrapN _ bd3, M64.wrapN _ bb', M64.wrapN _ bt, M64.wrapN _ bt3, M64.wrapN _ bc', M64.wrapN _ bw, hcm, M64.wrapN _ bw3, M64.wrapN _ ba', M64.wrapN _ bh1, M64.wrapN _ bh, M64.wrapN _ bl, M64.wrapN _ bl2]
  rw [hhi, lo_sum, ← HH.out, ← HL.out]
  clear bl bl2 bd3 bt3 bw3 hcm bd bt bw hhi ba bb bc ba' bb' bc' bh1 bh hx0 hy0
  by_cases c1 : a < 0
  · have d1 : decide (a < 0) = true := by simpa using c1
    by_cases c2 : b < 0
    · have d2 : decide (b < 0) = true := by simpa using c2
      have hs : s = false := S1.out (by omega)
      have HS := Lib.hid hs
      clear hs
      go_wp2_with fail
      refine bodyPost_ret (v := .agg #[.bool s, .int .u64 h, .int .u64 l]) ?_ rfl ⟨rfl, ?_⟩
      · simp [results, Tryz.results72, go_sem, HS.out]
      · exact ((Below.refl _ _).alloc (Nat.le_refl _) _).alloc (by simp) _
    · have d2 : decide (b < 0) = false := by simpa using c2
      have hs := S2.out (by omega)
      by_cases h0 : h = 0
      · by_cases l0 : l = 0
        · subst h0 l0
          have HS := Lib.hid hs
          clear hs
          go_wp2_with fail
          refine bodyPost_ret (v := .agg #[.bool s, .int .u64 0, .int .u64 0]) ?_ rfl ⟨rfl, ?_⟩
          · simp [results, Tryz.results72, go_sem, HS.out]
          · exact ((Below.refl _ _).alloc (Nat.le_refl _) _).alloc (by simp) _
        · subst h0
          have t2 : ((l : Int) != 0) = true := by rw [bne_iff_ne]; omega
          have HS := Lib.hid (show s = true by rw [hs]; simp [l0])
          clear hs l0
          go_wp2_with fail
          refine bodyPost_ret (v := .agg #[.bool s, .int .u64 0, .int .u64 l]) ?_ rfl ⟨rfl, ?_⟩
          · simp [results, Tryz.results72, go_sem, HS.out]
          · exact ((Below.refl _ _).alloc (Nat.le_refl _) _).alloc (by simp) _
      · have t1 : ((h : Int) != 0) = true := by rw [bne_iff_ne]; omega
        have HS := Lib.hid (show s = true by rw [hs]; simp [h0])
        clear hs h0
        go_wp2_with fail
        refine bodyPost_ret (v := .agg #[.bool s, .int .u64 h, .int .u64 l]) ?_ rfl ⟨rfl, ?_⟩
        · simp [results, Tryz.results72, go_sem, HS.out]
        · exact ((Below.refl _ _).alloc (Nat.le_refl _) _).alloc (by simp) _
  · have d1 : decide (a < 0) = false := by simpa using c1
    by_cases c2 : b < 0
    · have d2 : decide (b < 0) = true := by simpa using c2
      have hs := S2.out (by omega)
      by_cases h0 : h = 0
      · by_cases l0 : l = 0
        · subst h0 l0
          have HS := Lib.hid hs
          clear hs
          go_wp2_with fail
          refine bodyPost_ret (v := .agg #[.bool s, .int .u64 0, .int .u64 0]) ?_ rfl ⟨rfl, ?_⟩
          · simp [results, Tryz.results72, go_sem, HS.out]
          · exact ((Below.refl _ _).alloc (Nat.le_refl _) _).alloc (by simp) _
        · subst h0
          have t2 : ((l : Int) != 0) = true := by rw [bne_iff_ne]; omega
          have HS := Lib.hid (show s = true by rw [hs]; simp [l0])
          clear hs l0
          go_wp2_with fail
          refine bodyPost_ret (v := .agg #[.bool s, .int .u64 0, .int .u64 l]) ?_ rfl ⟨rfl, ?_⟩
          · simp [results, Tryz.results72, go_sem, HS.out]
          · exact ((Below.refl _ _).alloc (Nat.le_refl _) _).alloc (by simp) _
      · have t1 : ((h : Int) != 0) = true := by rw [bne_iff_ne]; omega
        have HS := Lib.hid (show s = true by rw [hs]; simp [h0])
        clear hs h0
        go_wp2_with fail
        refine bodyPost_ret (v := .agg #[.bool s, .int .u64 h, .int .u64 l]) ?_ rfl ⟨rfl, ?_⟩
        · simp [results, Tryz.results72, go_sem, HS.out]
        · exact ((Below.refl _ _).alloc (Nat.le_refl _) _).alloc (by simp) _
    · have d2 : decide (b < 0) = false := by simpa using c2
      have hs : s = false := S1.out (by omega)
      have HS := Lib.hid hs
      clear hs
      go_wp2_with fail
      refine bodyPost_ret (v := .agg #[.bool s, .int .u64 h, .int .u64 l]) ?_ rfl ⟨rfl, ?_⟩
      · simp [results, Tryz.results72, go_sem, HS.out]
      · exact ((Below.refl _ _).alloc (Nat.le_refl _) _).alloc (by simp) _

theorem Product_any (a b : Int) (ha : I64 a) (hb : I64 b) (w : World) :
    Calls Tryz.prog 72 #[.int .i64 a, .int .i64 b] w fun e w' => e = .returned (wideV (a * b)) ∧ Below w.heap.size w w' := by
  have hsg := mul_sign a b
  have hz := wide_zero (a * b)
  unfold wideV
  refine Product_raw a b ha hb a.natAbs b.natAbs _ _ _ rfl rfl (by unfold wHi; rw [Int.natAbs_mul]) (by unfold wLo; rw [Int.natAbs_mul]) (fun h => ?_) (fun h => ?_) w
  · simpa using hsg.1 h
  · have h1 := hsg.2 h
    by_cases h0 : a * b = 0
    · obtain ⟨h2, h3⟩ := hz.2 h0
      rw [h2, h3, h0]; rfl
    · have h2 : ¬ (wHi (a * b) = 0 ∧ wLo (a * b) = 0) := fun h => h0 (hz.1 h)
      have h3 : a * b < 0 := by omega
      rw [decide_eq_true h3]
      by_cases k : wHi (a * b) = 0
      · have k2 : wLo (a * b) ≠ 0 := fun k2 => h2 ⟨k, k2⟩
        simp [k2]
      · simp [k]
end Go.Proofs.YtmjikddceegloaaGreatDoor
