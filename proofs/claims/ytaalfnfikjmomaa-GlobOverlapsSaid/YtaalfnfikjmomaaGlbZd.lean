/- Contract of the program's Valid (glob). -/
import Derived.Test.YtaalfnfikjmomaaGlbZc
namespace Go.Proofs.Ytaalfnfikjmomaa
open Go.RowKit Go.Lib
theorem valid_of {s : List UInt8} : (∀ L, parseP s = some L → validP s = 0) := by
  intro L h
  unfold parseP at h
  unfold validP
  split at h
  · cases h
  · rename_i h0
    rw [if_neg h0, h]
    rfl
set_option maxHeartbeats 2000000 in
theorem valid_any (s : ByteArray) (w : World) :
    Calls Try.prog 11 #[.string s] w fun e w' => e = .returned (.int .i64 (validP s.data.toList : Nat)) ∧ Below w.heap.size w w' := by
  have P := Lib.hid (parse_any s w)
  have PP := Lib.hid (fun (e : Ending) (w' : World) (h : ParsePost s.data.toList w e w') => show Below w.heap.size w w' ∧ ∃ (a : Option Addr) (l c n : Nat), e = .returned (.tuple #[.slice a l c, .int .i64 n]) ∧ n = validP s.data.toList from by
    obtain ⟨hb, h⟩ := h
    refine ⟨hb, ?_⟩
    cases hq : parseP s.data.toList with
    | none => rw [hq] at h; exact ⟨none, 0, 0, _, h, rfl⟩
    | some L =>
      rw [hq] at h
      obtain ⟨a, c, h1, _⟩ := h
      exact ⟨a, L.length, c, 0, h1, (valid_of L hq).symm⟩)
  go_enter Try.func11, Try.ntmps11
  go_wp2_with fail
  go_fit P.out
  intro e w1 h
  obtain ⟨hb, a, l, c, n, rfl, hn⟩ := PP.out _ _ h
  have HN := Lib.hid hn
  clear h hn
  go_wp2_with fail
  go_ret
  exact ⟨by rw [← HN.out]; rfl, hb⟩
end Go.Proofs.Ytaalfnfikjmomaa
