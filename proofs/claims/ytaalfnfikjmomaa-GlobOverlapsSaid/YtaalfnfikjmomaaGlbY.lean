/- Contract of strings.HasPrefix (glob). -/
import Derived.Test.YtaalfnfikjmomaaGlbX
namespace Go.Proofs.Ytaalfnfikjmomaa
open Go.RowKit Go.Lib
set_option maxHeartbeats 1000000 in
theorem prefix_lite (s p : ByteArray) (w : World) :
    Calls Try.prog 52 #[.string s, .string p] w fun e w' => e = .returned (.bool (decide (p.data.toList <+: s.data.toList))) ∧ w = w' := by
  by_cases h : p.size ≤ s.size
  · have h1 : (p.size : Int) ≤ (s.size : Int) := by omega
    obtain ⟨t, ht⟩ : ∃ t, t = s.extract 0 p.size := ⟨_, rfl⟩
    have hsl := ht.symm
    have H := Lib.hid (show (t.toList == p.toList) = decide (p.data.toList <+: s.data.toList) by
      rw [ByteArray.toList_eq, ByteArray.toList_eq, ht, ext_mk, toL, List.drop_zero]
      rw [Bool.eq_iff_iff, beq_iff_eq, decide_eq_true_iff, List.prefix_iff_eq_take, lenB]
      exact eq_comm)
    clear ht h
    go_enter Try.func52, Try.ntmps52
    go_wp2_with fail
    go_ret
    exact ⟨by rw [← H.out]; rfl, rfl⟩
  · have h1 : ¬ (p.size : Int) ≤ (s.size : Int) := by omega
    have H := Lib.hid (show false = decide (p.data.toList <+: s.data.toList) by
      symm
      rw [decide_eq_false_iff_not]
      intro e
      have := e.length_le
      rw [lenB, lenB] at this
      exact h this)
    clear h
    go_enter Try.func52, Try.ntmps52
    go_wp2_with fail
    go_ret
    exact ⟨by rw [← H.out]; rfl, rfl⟩
set_option maxHeartbeats 1000000 in
theorem prefix_any (s p : ByteArray) (w : World) :
    Calls Try.prog 45 #[.string s, .string p] w fun e w' => e = .returned (.bool (decide (p.data.toList <+: s.data.toList))) ∧ w = w' := by
  have P := Lib.hid (prefix_lite s p)
  go_enter Try.func45, Try.ntmps45
  go_wp2_with fail
  go_fit (P.out _)
  rintro e w1 ⟨rfl, rfl⟩
  go_wp2_with fail
  go_ret
  exact ⟨rfl, rfl⟩
end Go.Proofs.Ytaalfnfikjmomaa
