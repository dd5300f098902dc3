/- Contracts of the document's answers of layer 1: Below, Add, Mul, Less, Limit. -/
import Derived.Test.YtmjikddceegloaaGreatDoorRefB
namespace Go.Proofs.YtmjikddceegloaaGreatDoor
open Go.RowKit Go.Lib Go.NumM

set_option maxHeartbeats 1000000 in
theorem Below_raw (s t : Bool) (h l h' l' : Int) (w : World) :
    Calls Tryz.prog 71 #[.agg #[.bool s, .int .u64 h, .int .u64 l], .agg #[.bool t, .int .u64 h', .int .u64 l']] w fun e w' =>
      e = .returned (.bool (if s = t then (if s then szLt h' l' h l else szLt h l h' l') else s)) ∧ Below w.heap.size w w' := by
  cases s <;> cases t
  · go_enter Tryz.func71, Tryz.ntmps71
    go_wp2_with fail
    go_fit (below_raw false false h l h' l' _)
    rintro e w1 ⟨rfl, hb⟩
    go_wp2_with fail
    go_ret
    exact ⟨rfl, (((Below.refl _ _).alloc (Nat.le_refl _) _).alloc (by simp) _).trans (hb.mono (by simp; omega))⟩
  · go_enter Tryz.func71, Tryz.ntmps71
    go_wp2_with fail
    go_ret
    exact ⟨rfl, ((Below.refl _ _).alloc (Nat.le_refl _) _).alloc (by simp) _⟩
  · go_enter Tryz.func71, Tryz.ntmps71
    go_wp2_with fail
    go_ret
    exact ⟨rfl, ((Below.refl _ _).alloc (Nat.le_refl _) _).alloc (by simp) _⟩
  · go_enter Tryz.func71, Tryz.ntmps71
    go_wp2_with fail
    go_fit (below_raw true true h' l' h l _)
    rintro e w1 ⟨rfl, hb⟩
    go_wp2_with fail
    go_ret
    exact ⟨rfl, (((Below.refl _ _).alloc (Nat.le_refl _) _).alloc (by simp) _).trans (hb.mono (by simp; omega))⟩

theorem sz_lt (z y : Int) : szLt (wHi z) (wLo z) (wHi y) (wLo y) = decide (z.natAbs < y.natAbs) := by
  unfold szLt wHi wLo
  rw [decide_eq_decide]
  omega
theorem Below_any (z y : Int) (w : World) :
    Calls Tryz.prog 71 #[wideV z, wideV y] w fun e w' => e = .returned (.bool (decide (z < y))) ∧ Below w.heap.size w w' := by
  have h := Below_raw (decide (z < 0)) (decide (y < 0)) (wHi z) (wLo z) (wHi y) (wLo y) w
  refine h.mono fun e w' ⟨he, hb⟩ => ⟨he.trans (ret_bool ?_), hb⟩
  rw [sz_lt, sz_lt]
  by_cases c1 : z < 0 <;> by_cases c2 : y < 0 <;> simp [c1, c2] <;> omega
set_option maxHeartbeats 1000000 in
theorem refLess_any (a b c d : Int) (ha : I64 a) (hb : I64 b) (hc : I64 c) (hd : I64 d) (w : World) :
    Calls Tryz.prog 48 #[.int .i64 a, .int .i64 b, .int .i64 c, .int .i64 d] w fun e w' => e = .returned (.bool (decide (a * b < c * d))) ∧ Below w.heap.size w w' := by
  have HA := Lib.hid ha; have HB := Lib.hid hb; have HC := Lib.hid hc; have HD := Lib.hid hd
  clear ha hb hc hd
  go_enter Tryz.func48, Tryz.ntmps48
  go_wp2_with fail
  go_fit (Product_any _ _ HA.out HB.out _)
  rintro e w1 ⟨rfl, hb1⟩
  go_wp2_with fail
  go_fit (Product_any _ _ HC.out HD.out _)
  rintro e w2 ⟨rfl, hb2⟩
  go_wp2_with fail
  go_fit (Below_any _ _ _)
  rintro e w3 ⟨rfl, hb3⟩
  go_wp2_with fail
  go_ret
  exact ⟨rfl, hb1.trans ((hb2.mono hb1.size).trans (hb3.mono (Nat.le_trans hb1.size hb2.size)))⟩

theorem prod_raw' (a b : Int) (ha : I64 a) (hb : I64 b) (w : World) :
    Calls Tryz.prog 72 #[.int .i64 a, .int .i64 b] w fun e w' => e = .returned (.agg #[.bool (decide (a * b < 0)), .int .u64 (wHi (a * b)), .int .u64 (wLo (a * b))]) ∧ Below w.heap.size w w' := Product_any a b ha hb w
end Go.Proofs.YtmjikddceegloaaGreatDoor
