/- Contracts of the document's answers of layer 1: Below, Add, Mul, Less, Limit. -/
import Derived.Test.YthggcagbanndgaaRefB
namespace Go.Proofs.Ythggcagbanndgaa
open Go.RowKit Go.Lib Go.NumM

set_option maxHeartbeats 1000000 in
theorem Below_raw (s t : Bool) (h l h' l' : Int) (w : World) :
    Calls Try.prog 53 #[.agg #[.bool s, .int .u64 h, .int .u64 l], .agg #[.bool t, .int .u64 h', .int .u64 l']] w fun e w' =>
      e = .returned (.bool (if s = t then (if s then szLt h' l' h l else szLt h l h' l') else s)) ∧ Below w.heap.size w w' := by
  cases s <;> cases t
  · go_enter Try.func53, Try.ntmps53
    go_wp2_with fail
    go_fit (below_raw false false h l h' l' _)
    rintro e w1 ⟨rfl, hb⟩
    go_wp2_with fail
    go_ret
    exact ⟨rfl, (((Below.refl _ _).alloc (Nat.le_refl _) _).alloc (by simp) _).trans (hb.mono (by simp; omega))⟩
  · go_enter Try.func53, Try.ntmps53
    go_wp2_with fail
    go_ret
    exact ⟨rfl, ((Below.refl _ _).alloc (Nat.le_refl _) _).alloc (by simp) _⟩
  · go_enter Try.func53, Try.ntmps53
    go_wp2_with fail
    go_ret
    exact ⟨rfl, ((Below.refl _ _).alloc (Nat.le_refl _) _).alloc (by simp) _⟩
  · go_enter Try.func53, Try.ntmps53
    go_wp2_with fail
    go_fit (below_raw true true h' l' h l _)
    rintro e w1 ⟨rfl, hb⟩
    go_wp2_with fail
    go_ret
    exact ⟨rfl, (((Below.refl _ _).alloc (Nat.le_refl _) _).alloc (by simp) _).trans (hb.mono (by simp; omega))⟩

theorem sz_lt (z y : Int) : szLt (wHi z) (wLo z) (wHi y) (wLo y) = decide (z.natAbs < y.natAbs) := by
  unfold szLt wHi wLo
  rw [decide_eq_decide]
  omega
theorem Below_any (z y : Int) (w : World) :
    Calls Try.prog 53 #[wideV z, wideV y] w fun e w' => e = .returned (.bool (decide (z < y))) ∧ Below w.heap.size w w' := by
  have h := Below_raw (decide (z < 0)) (decide (y < 0)) (wHi z) (wLo z) (wHi y) (wLo y) w
  refine h.mono fun e w' ⟨he, hb⟩ => ⟨he.trans (ret_bool ?_), hb⟩
  rw [sz_lt, sz_lt]
  by_cases c1 : z < 0 <;> by_cases c2 : y < 0 <;> simp [c1, c2] <;> omega
theorem narrow_any (z : Int) (w : World) :
    Calls Try.prog 52 #[wideV z] w fun e w' => e = .returned (.tuple #[.int .i64 (if -9223372036854775808 ≤ z ∧ z ≤ 9223372036854775807 then z else 0), .bool (decide (-9223372036854775808 ≤ z ∧ z ≤ 9223372036854775807))]) ∧ Below w.heap.size w w' := by
  have h := narrow_raw (decide (z < 0)) (wHi z) (wLo z) (by omega) (by unfold wLo; omega) w
  refine h.mono fun e w' ⟨he, hb⟩ => ⟨he.trans (ret2_ib ?_ ?_), hb⟩
  · unfold nrQ wHi wLo
    simp only [decide_eq_true_eq, decide_eq_false_iff_not]
    repeat' split
    all_goals omega
  · unfold nrB wHi wLo
    simp only [decide_eq_false_iff_not]
    split
    · rw [eq_comm, decide_eq_false_iff_not]; omega
    · rw [eq_comm, decide_eq_true_eq]; omega

set_option maxHeartbeats 1000000 in
theorem refAdd_any (a b : Int) (ha : I64 a) (hb : I64 b) (w : World) :
    Calls Try.prog 16 #[.int .i64 a, .int .i64 b] w fun e w' => e = .returned (.int .i64 (limit64 (a + b))) ∧ w = w' := by
  obtain ⟨a1, a2⟩ := ha
  obtain ⟨b1, b2⟩ := hb
  by_cases h1 : 0 < a
  · by_cases h2 : 9223372036854775807 - a < b
    · have e : limit64 (a + b) = 9223372036854775807 := by unfold limit64; rw [if_neg (by omega), if_pos (by omega)]
      rw [e]
      go_enter Try.func16, Try.ntmps16
      go_wp2_with fail
      go_ret
      exact ⟨rfl, rfl⟩
    · have e : limit64 (a + b) = a + b := by unfold limit64; rw [if_neg (by omega), if_neg (by omega)]
      rw [e]
      have h3 : -9223372036854775808 ≤ a + b ∧ a + b ≤ 9223372036854775807 := by omega
      go_enter Try.func16, Try.ntmps16
      go_wp2_with fail
      go_ret
      exact ⟨rfl, rfl⟩
  · by_cases h0 : a < 0
    · by_cases h2 : b < -9223372036854775808 - a
      · have e : limit64 (a + b) = -9223372036854775808 := by unfold limit64; rw [if_pos (by omega)]
        rw [e]
        go_enter Try.func16, Try.ntmps16
        go_wp2_with fail
        go_ret
        exact ⟨rfl, rfl⟩
      · have e : limit64 (a + b) = a + b := by unfold limit64; rw [if_neg (by omega), if_neg (by omega)]
        rw [e]
        have h3 : -9223372036854775808 ≤ a + b ∧ a + b ≤ 9223372036854775807 := by omega
        go_enter Try.func16, Try.ntmps16
        go_wp2_with fail
        go_ret
        exact ⟨rfl, rfl⟩
    · obtain rfl : a = 0 := by omega
      have e : limit64 (0 + b) = b := by unfold limit64; rw [if_neg (by omega), if_neg (by omega)]; omega
      rw [e]
      go_enter Try.func16, Try.ntmps16
      go_wp2_with fail
      go_ret
      exact ⟨ret_int (by omega), rfl⟩

set_option maxHeartbeats 1000000 in
theorem refLess_any (a b c d : Int) (ha : I64 a) (hb : I64 b) (hc : I64 c) (hd : I64 d) (w : World) :
    Calls Try.prog 21 #[.int .i64 a, .int .i64 b, .int .i64 c, .int .i64 d] w fun e w' => e = .returned (.bool (decide (a * b < c * d))) ∧ Below w.heap.size w w' := by
  have HA := Lib.hid ha; have HB := Lib.hid hb; have HC := Lib.hid hc; have HD := Lib.hid hd
  clear ha hb hc hd
  go_enter Try.func21, Try.ntmps21
  go_wp2_with fail
  go_fit (Product_any _ _ HA.out HB.out _)
  rintro e w1 ⟨rfl, hb1⟩
  go_wp2_with fail
  go_fit (Product_any _ _ HC.out HD.out _)
  rintro e w2 ⟨rfl, hb2⟩
  go_wp2_with fail
  go_fit (Below_any _ _ _)
  rintro e w3 ⟨rfl, hb3⟩
  go_wp2_with fail
  go_ret
  exact ⟨rfl, hb1.trans ((hb2.mono hb1.size).trans (hb3.mono (Nat.le_trans hb1.size hb2.size)))⟩

theorem prod_raw' (a b : Int) (ha : I64 a) (hb : I64 b) (w : World) :
    Calls Try.prog 51 #[.int .i64 a, .int .i64 b] w fun e w' => e = .returned (.agg #[.bool (decide (a * b < 0)), .int .u64 (wHi (a * b)), .int .u64 (wLo (a * b))]) ∧ Below w.heap.size w w' := Product_any a b ha hb w
theorem narrow_in (z : Int) (hz : -9223372036854775808 ≤ z ∧ z ≤ 9223372036854775807) (w : World) :
    Calls Try.prog 52 #[.agg #[.bool (decide (z < 0)), .int .u64 (wHi z), .int .u64 (wLo z)]] w fun e w' => e = .returned (.tuple #[.int .i64 z, .bool true]) ∧ Below w.heap.size w w' := by
  have h := narrow_any z w
  rwa [if_pos hz, decide_eq_true hz] at h
theorem narrow_out (z : Int) (hz : ¬ (-9223372036854775808 ≤ z ∧ z ≤ 9223372036854775807)) (w : World) :
    Calls Try.prog 52 #[.agg #[.bool (decide (z < 0)), .int .u64 (wHi z), .int .u64 (wLo z)]] w fun e w' => e = .returned (.tuple #[.int .i64 0, .bool false]) ∧ Below w.heap.size w w' := by
  have h := narrow_any z w
  rwa [if_neg hz, decide_eq_false hz] at h

set_option maxHeartbeats 1000000 in
theorem refMul_any (a b : Int) (ha : I64 a) (hb : I64 b) (w : World) :
    Calls Try.prog 18 #[.int .i64 a, .int .i64 b] w fun e w' => e = .returned (.int .i64 (limit64 (a * b))) ∧ Below w.heap.size w w' := by
  have HA := Lib.hid ha; have HB := Lib.hid hb
  clear ha hb
  go_enter Try.func18, Try.ntmps18
  go_wp2_with fail
  go_fit (prod_raw' _ _ HA.out HB.out _)
  rintro e w1 ⟨rfl, hb1⟩
  have hz1 := hb1.size
  obtain ⟨z, hz⟩ : ∃ z, z = a * b := ⟨_, rfl⟩
  rw [← hz]
  have HZ := Lib.hid hz
  clear hz
  go_wp2_with fail
  by_cases hr : -9223372036854775808 ≤ z ∧ z ≤ 9223372036854775807
  · go_fit (narrow_in z hr _)
    rintro e w2 ⟨rfl, hb2⟩
    go_wp2_with fail
    go_ret
    exact ⟨ret_int (by unfold limit64; rw [← HZ.out, if_neg (by omega), if_neg (by omega)]), (hb1.alloc hz1 _).trans (hb2.mono (by simp; omega))⟩
  · go_fit (narrow_out z hr _)
    rintro e w2 ⟨rfl, hb2⟩
    have hc0 : w2.cell? ⟨w1.heap.size, 0, none⟩ = some (.bool (decide (z < 0))) := (hb2.cell (p := ⟨w1.heap.size, 0, none⟩) (by simp)).trans (by simp [World.cell?_alloc_new])
    have HB2 := Lib.hid ((hb1.alloc hz1 _).trans (hb2.mono (by simp; omega)))
    clear hb1 hb2
    by_cases hn : z < 0
    · rw [decide_eq_true hn] at hc0
      have HR := Lib.hid hr
      have HN := Lib.hid hn
      clear hr hn
      go_wp2_with fail
      go_ret
      exact ⟨ret_int (by have h1 := HR.out; have h2 := HN.out; unfold limit64; rw [← HZ.out, if_pos (by omega)]), HB2.out⟩
    · rw [decide_eq_false hn] at hc0
      have HR := Lib.hid hr
      have HN := Lib.hid hn
      clear hr hn
      go_wp2_with fail
      go_ret
      exact ⟨ret_int (by have h1 := HR.out; have h2 := HN.out; unfold limit64; rw [← HZ.out, if_neg (by omega), if_pos (by omega)]), HB2.out⟩

set_option maxHeartbeats 1000000 in
theorem refLimit_any (n lo hi : Int) (w : World) :
    Calls Try.prog 25 #[.int .i64 n, .int .i64 lo, .int .i64 hi] w fun e w' => e = .returned (.int .i64 (clamp n lo hi)) ∧ w = w' := by
  by_cases h1 : hi < lo
  · have E := Lib.hid (show clamp n lo hi = lo by unfold clamp; rw [if_pos h1])
    rw [E.out]
    go_enter Try.func25, Try.ntmps25
    go_wp2_with fail
    go_ret
    exact ⟨rfl, rfl⟩
  · by_cases h2 : n < lo
    · have E := Lib.hid (show clamp n lo hi = lo by unfold clamp; rw [if_neg h1, if_pos h2])
      rw [E.out]
      go_enter Try.func25, Try.ntmps25
      go_wp2_with fail
      go_ret
      exact ⟨rfl, rfl⟩
    · by_cases h3 : hi < n
      · have E := Lib.hid (show clamp n lo hi = hi by unfold clamp; rw [if_neg h1, if_neg h2, if_pos h3])
        rw [E.out]
        go_enter Try.func25, Try.ntmps25
        go_wp2_with fail
        go_ret
        exact ⟨rfl, rfl⟩
      · have E := Lib.hid (show clamp n lo hi = n by unfold clamp; rw [if_neg h1, if_neg h2, if_neg h3])
        rw [E.out]
        go_enter Try.func25, Try.ntmps25
        go_wp2_with fail
        go_ret
        exact ⟨rfl, rfl⟩
end Go.Proofs.Ythggcagbanndgaa
