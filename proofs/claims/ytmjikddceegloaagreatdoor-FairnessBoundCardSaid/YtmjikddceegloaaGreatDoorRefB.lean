/- Contracts of the document's answers of layer 1: narrow, below, Below, Add, Mul, Less, Limit. -/
import Derived.Test.YtmjikddceegloaaGreatDoorRefA
namespace Go.Proofs.YtmjikddceegloaaGreatDoor
open Go.RowKit Go.Lib Go.NumM

theorem ret2_ib {a c : Int} {b d : Bool} (h : a = c) (k : b = d) : Ending.returned (.tuple #[.int .i64 a, .bool b]) = .returned (.tuple #[.int .i64 c, .bool d]) := by rw [h, k]

/-- What narrow hands back: of a sign and the halves of a size. -/
def nrQ (s : Bool) (h l : Int) : Int := if h ≠ 0 ∨ 9223372036854775808 < l ∨ (l = 9223372036854775808 ∧ s = false) then 0 else if s then -l else l
def nrB (s : Bool) (h l : Int) : Bool := if h ≠ 0 ∨ 9223372036854775808 < l ∨ (l = 9223372036854775808 ∧ s = false) then false else true

/-- Of two sizes. -/
def szLt (h l h' l' : Int) : Bool := decide (h < h' ∨ (h = h' ∧ l < l'))
set_option maxHeartbeats 1000000 in
theorem below_raw (s t : Bool) (h l h' l' : Int) (w : World) :
    Calls Tryz.prog 88 #[.agg #[.bool s, .int .u64 h, .int .u64 l], .agg #[.bool t, .int .u64 h', .int .u64 l']] w fun e w' => e = .returned (.bool (szLt h l h' l')) ∧ Below w.heap.size w w' := by
  by_cases c1 : h < h'
  · have E := Lib.hid (show szLt h l h' l' = true by unfold szLt; exact decide_eq_true (.inl c1))
    have t1 : decide (h < h') = true := by simpa using c1
    rw [E.out]
    clear c1
    go_enter Tryz.func88, Tryz.ntmps88
    go_wp2_with fail
    go_ret
    exact ⟨rfl, ((Below.refl _ _).alloc (Nat.le_refl _) _).alloc (by simp) _⟩
  · have t1 : decide (h < h') = false := by simpa using c1
    by_cases c2 : h = h'
    · have t2 : (h == h') = true := by rw [beq_iff_eq]; exact c2
      have E := Lib.hid (show szLt h l h' l' = decide (l < l') by unfold szLt; rw [decide_eq_decide]; constructor <;> intro <;> omega)
      rw [E.out]
      clear c1 c2
      by_cases c3 : l < l'
      · have t3 : decide (l < l') = true := by simpa using c3
        go_enter Tryz.func88, Tryz.ntmps88
        go_wp2_with fail
        go_ret
        exact ⟨ret_bool (by simp [t3]), ((Below.refl _ _).alloc (Nat.le_refl _) _).alloc (by simp) _⟩
      · have t3 : decide (l < l') = false := by simpa using c3
        go_enter Tryz.func88, Tryz.ntmps88
        go_wp2_with fail
        go_ret
        exact ⟨ret_bool (by simp), ((Below.refl _ _).alloc (Nat.le_refl _) _).alloc (by simp) _⟩
    · have t2 : (h == h') = false := by rw [beq_eq_false_iff_ne]; exact c2
      have E := Lib.hid (show szLt h l h' l' = false by unfold szLt; exact decide_eq_false (by omega))
      rw [E.out]
      clear c1 c2
      go_enter Tryz.func88, Tryz.ntmps88
      go_wp2_with fail
      go_ret
      exact ⟨rfl, ((Below.refl _ _).alloc (Nat.le_refl _) _).alloc (by simp) _⟩
end Go.Proofs.YtmjikddceegloaaGreatDoor
