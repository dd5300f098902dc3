/- Contracts of the document's answers of layer 1: narrow, below, Below, Add, Mul, Less, Limit. -/
import Derived.Test.YthggcagbanndgaaRefA
namespace Go.Proofs.Ythggcagbanndgaa
open Go.RowKit Go.Lib Go.NumM

theorem ret2_ib {a c : Int} {b d : Bool} (h : a = c) (k : b = d) : Ending.returned (.tuple #[.int .i64 a, .bool b]) = .returned (.tuple #[.int .i64 c, .bool d]) := by rw [h, k]

/-- What narrow hands back: of a sign and the halves of a size. -/
def nrQ (s : Bool) (h l : Int) : Int := if h ≠ 0 ∨ 9223372036854775808 < l ∨ (l = 9223372036854775808 ∧ s = false) then 0 else if s then -l else l
def nrB (s : Bool) (h l : Int) : Bool := if h ≠ 0 ∨ 9223372036854775808 < l ∨ (l = 9223372036854775808 ∧ s = false) then false else true

set_option maxHeartbeats 1000000 in
theorem narrow_raw (s : Bool) (h l : Int) (hl0 : 0 ≤ l) (hl : l ≤ 18446744073709551615) (w : World) :
    Calls Try.prog 52 #[.agg #[.bool s, .int .u64 h, .int .u64 l]] w fun e w' => e = .returned (.tuple #[.int .i64 (nrQ s h l), .bool (nrB s h l)]) ∧ Below w.heap.size w w' := by
  by_cases h0 : h = 0
  · subst h0
    by_cases l1 : 9223372036854775808 < l
    · have E1 := Lib.hid (show nrQ s 0 l = 0 by unfold nrQ; rw [if_pos (.inr (.inl l1))])
      have E2 := Lib.hid (show nrB s 0 l = false by unfold nrB; rw [if_pos (.inr (.inl l1))])
      have t1 : decide (9223372036854775808 < l) = true := by simpa using l1
      rw [E1.out, E2.out]
      go_enter Try.func52, Try.ntmps52
      go_wp2_with fail
      go_ret2
      exact ⟨rfl, (Below.refl _ _).alloc (Nat.le_refl _) _⟩
    · have t1 : decide (9223372036854775808 < l) = false := by simpa using l1
      by_cases l2 : l = 9223372036854775808
      · have t2 : (l == 9223372036854775808) = true := by rw [beq_iff_eq]; exact l2
        cases s
        · have E1 := Lib.hid (show nrQ false 0 l = 0 by unfold nrQ; rw [if_pos (.inr (.inr ⟨l2, rfl⟩))])
          have E2 := Lib.hid (show nrB false 0 l = false by unfold nrB; rw [if_pos (.inr (.inr ⟨l2, rfl⟩))])
          rw [E1.out, E2.out]
          clear l1 l2
          go_enter Try.func52, Try.ntmps52
          go_wp2_with fail
          go_ret2
          exact ⟨rfl, (Below.refl _ _).alloc (Nat.le_refl _) _⟩
        · have E1 := Lib.hid (show nrQ true 0 l = -9223372036854775808 by unfold nrQ; rw [if_neg (by simp [l2]), if_pos rfl, l2])
          have E2 := Lib.hid (show nrB true 0 l = true by unfold nrB; rw [if_neg (by simp [l2])])
          rw [E1.out, E2.out]
          clear l1 l2
          go_enter Try.func52, Try.ntmps52
          go_wp2_with fail
          go_ret2
          exact ⟨rfl, (Below.refl _ _).alloc (Nat.le_refl _) _⟩
      · have t2 : (l == 9223372036854775808) = false := by rw [beq_eq_false_iff_ne]; exact l2
        have hb : ¬ ((0 : Int) ≠ 0 ∨ 9223372036854775808 < l ∨ (l = 9223372036854775808 ∧ s = false)) := by
          rintro (h | h | h)
          · exact h rfl
          · exact l1 h
          · exact l2 h.1
        have hl3 : l ≤ 9223372036854775807 := by omega
        cases s
        · have E1 := Lib.hid (show nrQ false 0 l = l by unfold nrQ; rw [if_neg hb]; rfl)
          have E2 := Lib.hid (show nrB false 0 l = true by unfold nrB; rw [if_neg hb])
          rw [E1.out, E2.out]
          clear l1 l2 hb
          go_enter Try.func52, Try.ntmps52
          go_wp2_with fail
          go_ret2
          exact ⟨rfl, (Below.refl _ _).alloc (Nat.le_refl _) _⟩
        · have E1 := Lib.hid (show nrQ true 0 l = -l by unfold nrQ; rw [if_neg hb]; rfl)
          have E2 := Lib.hid (show nrB true 0 l = true by unfold nrB; rw [if_neg hb])
          rw [E1.out, E2.out]
          clear l1 l2 hb
          go_enter Try.func52, Try.ntmps52
          go_wp2_with fail
          go_ret2
          exact ⟨rfl, (Below.refl _ _).alloc (Nat.le_refl _) _⟩
  · have E1 := Lib.hid (show nrQ s h l = 0 by unfold nrQ; rw [if_pos (.inl h0)])
    have E2 := Lib.hid (show nrB s h l = false by unfold nrB; rw [if_pos (.inl h0)])
    have t1 : (h != 0) = true := by rw [bne_iff_ne]; exact h0
    rw [E1.out, E2.out]
    clear h0
    go_enter Try.func52, Try.ntmps52
    go_wp2_with fail
    go_ret2
    exact ⟨rfl, (Below.refl _ _).alloc (Nat.le_refl _) _⟩

/-- Of two sizes. -/
def szLt (h l h' l' : Int) : Bool := decide (h < h' ∨ (h = h' ∧ l < l'))
set_option maxHeartbeats 1000000 in
theorem below_raw (s t : Bool) (h l h' l' : Int) (w : World) :
    Calls Try.prog 71 #[.agg #[.bool s, .int .u64 h, .int .u64 l], .agg #[.bool t, .int .u64 h', .int .u64 l']] w fun e w' => e = .returned (.bool (szLt h l h' l')) ∧ Below w.heap.size w w' := by
  by_cases c1 : h < h'
  · have E := Lib.hid (show szLt h l h' l' = true by unfold szLt; exact decide_eq_true (.inl c1))
    have t1 : decide (h < h') = true := by simpa using c1
    rw [E.out]
    clear c1
    go_enter Try.func71, Try.ntmps71
    go_wp2_with fail
    go_ret
    exact ⟨rfl, ((Below.refl _ _).alloc (Nat.le_refl _) _).alloc (by simp) _⟩
  · have t1 : decide (h < h') = false := by simpa using c1
    by_cases c2 : h = h'
    · have t2 : (h == h') = true := by rw [beq_iff_eq]; exact c2
      have E := Lib.hid (show szLt h l h' l' = decide (l < l') by unfold szLt; rw [decide_eq_decide]; constructor <;> intro <;> omega)
      rw [E.out]
      clear c1 c2
      by_cases c3 : l < l'
      · have t3 : decide (l < l') = true := by simpa using c3
        go_enter Try.func71, Try.ntmps71
        go_wp2_with fail
        go_ret
        exact ⟨ret_bool (by simp [t3]), ((Below.refl _ _).alloc (Nat.le_refl _) _).alloc (by simp) _⟩
      · have t3 : decide (l < l') = false := by simpa using c3
        go_enter Try.func71, Try.ntmps71
        go_wp2_with fail
        go_ret
        exact ⟨ret_bool (by simp), ((Below.refl _ _).alloc (Nat.le_refl _) _).alloc (by simp) _⟩
    · have t2 : (h == h') = false := by rw [beq_eq_false_iff_ne]; exact c2
      have E := Lib.hid (show szLt h l h' l' = false by unfold szLt; exact decide_eq_false (by omega))
      rw [E.out]
      clear c1 c2
      go_enter Try.func71, Try.ntmps71
      go_wp2_with fail
      go_ret
      exact ⟨rfl, ((Below.refl _ _).alloc (Nat.le_refl _) _).alloc (by simp) _⟩
end Go.Proofs.Ythggcagbanndgaa
