/- Contracts of octets.appendInt, appendString, PutUint, PutInt, PutString. -/
import Derived.Test.YtfnjemocekgncaaOctA
import Derived.Lib.Zigzag
import Derived.Lib.AppendStr
namespace Go.Proofs.Ytfnjemocekgncaa
open Go.RowKit Go.Lib

theorem Owns.base {B n : Nat} {xs : List Value} {w : World} {l : List UInt8} {e : Ending} {w' : World} (h : Owns B n xs w l e w') : ∃ v', e = .returned v' ∧ w'.ownsRow B 5 1 v' (n + l.length) (xs ++ Lib.byteCells l) ∧ Below B w w' ∧ KeepT w w' := h

set_option maxHeartbeats 4000000 in
theorem appendInt_any (B n : Nat) (x : Int) (h0 : -9223372036854775808 ≤ x) (h1 : x ≤ 9223372036854775807) (sv : Value) (xs : List Value) (w : World) (hown : w.ownsRow B 5 1 sv n xs) (hBw : B ≤ w.heap.size) (hlim : n + 10 ≤ 140737488355328) :
    Calls Try.prog 31 #[sv, .int .i64 x] w (Owns B n xs w (Lib.uvarint (Lib.zigzag x))) := by
  have hlt := Lib.zigzag_lt h0 h1
  have HC := Lib.hid (appendUint_any B n (Lib.zigzag x) hlt sv xs w hown hBw hlim)
  have HO := Lib.hid hown
  clear hown
  by_cases hx : x < 0
  · have e := Lib.hid (Lib.zigzag_neg h0 hx)
    have hc := HC.out
    rw [← e.out] at hc
    have HC2 := Lib.hid hc
    clear hc HC
    go_enter Try.func31, Try.ntmps31
    go_wp2_with fail
    go_fit (HC2.out)
    rintro e w1 ⟨v', rfl, ho, hb⟩
    go_wp2_with fail
    go_ret
    exact ⟨v', rfl, ho, hb⟩
  · have e := Lib.hid (Lib.zigzag_nonneg (show 0 ≤ x by omega))
    have hc := HC.out
    rw [e.out] at hc
    have HC2 := Lib.hid hc
    clear hc HC
    go_enter Try.func31, Try.ntmps31
    go_wp2_with fail
    go_fit (HC2.out)
    rintro e w1 ⟨v', rfl, ho, hb⟩
    go_wp2_with fail
    go_ret
    exact ⟨v', rfl, ho, hb⟩

set_option maxHeartbeats 4000000 in
theorem PutUint_any (x : Nat) (hx : x < 18446744073709551616) (w : World) :
    Calls Try.prog 10 #[.int .u64 x] w (Owns w.heap.size 0 [] w (Lib.uvarint x)) := by
  have HC := Lib.hid (appendUint_any w.heap.size 0 x hx (.slice none 0 0) [] w (World.ownsRow_nil w _ _ _) (Nat.le_refl _) (by omega))
  go_enter Try.func10, Try.ntmps10
  go_wp2_with fail
  go_fit (HC.out)
  rintro e w1 ⟨v', rfl, ho, hb⟩
  go_wp2_with fail
  go_ret
  exact ⟨v', rfl, ho, hb⟩

set_option maxHeartbeats 4000000 in
theorem PutInt_any (x : Int) (h0 : -9223372036854775808 ≤ x) (h1 : x ≤ 9223372036854775807) (w : World) :
    Calls Try.prog 11 #[.int .i64 x] w (Owns w.heap.size 0 [] w (Lib.uvarint (Lib.zigzag x))) := by
  have HC := Lib.hid (appendInt_any w.heap.size 0 x h0 h1 (.slice none 0 0) [] w (World.ownsRow_nil w _ _ _) (Nat.le_refl _) (by omega))
  go_enter Try.func11, Try.ntmps11
  go_wp2_with fail
  go_fit (HC.out)
  rintro e w1 ⟨v', rfl, ho, hb⟩
  go_wp2_with fail
  go_ret
  exact ⟨v', rfl, ho, hb⟩

theorem strCells_bytes (s : ByteArray) : Lib.strCells s = Lib.byteCells s.data.toList := rfl
theorem byteCells_app (a b : List UInt8) : Lib.byteCells (a ++ b) = Lib.byteCells a ++ Lib.byteCells b := Lib.byteCells_append a b

/-- The encoding of a string. -/
def encS (s : ByteArray) : List UInt8 := Lib.uvarint s.size ++ s.data.toList

set_option maxHeartbeats 4000000 in
theorem appendString_any (B n : Nat) (s : ByteArray) (sv : Value) (xs : List Value) (w : World) (hown : w.ownsRow B 5 1 sv n xs) (hBw : B ≤ w.heap.size) (hlim : n + 10 + s.size ≤ 140737488355328) :
    Calls Try.prog 32 #[sv, .string s] w (Owns B n xs w (encS s)) := by
  obtain ⟨i0, hi, hz0, hz1, hz2⟩ := info_parts info8
  have HC := Lib.hid (appendUint_any B n s.size (by omega) sv xs w hown hBw (by omega))
  have hl10 := Lib.uvarint_length64 (x := s.size) (by omega)
  have HO := Lib.hid hown
  have hsz : (s.size : Int) ≤ 140737488355328 := by omega
  clear hown
  go_enter Try.func32, Try.ntmps32
  go_wp2_with fail
  go_fit (HC.out)
  rintro e w1 ⟨v', rfl, ho, hb⟩
  have HK := Lib.hid hb.2
  have HB := Lib.hid hb.1
  have hz := hb.1.size
  clear hb
  go_wp2_with (at_builtin; refine wpList_append_own_string _ rfl _ _ 23 9 rfl B 5 i0 Try.underlying23 Try.underlying9 hi hz0 hz1 hz2 _ _ _ rfl ho s rfl ?c3 ?c4 ?c5 ?_)
  case c3 => unfold maxLen; omega
  case c4 => omega
  case c5 => omega
  intro v2 w2 ho2 hg _
  have hb2 : Below B w w2 := HB.out.grown hg (by omega) (fun k hk => (ho.lt k hk).1)
  go_wp2_with fail
  go_ret
  refine ⟨v2, rfl, ?_, hb2, HK.out.append ho hg⟩
  have e1 : n + (encS s).length = n + (Lib.uvarint s.size).length + s.size := by
    unfold encS; rw [List.length_append, Array.length_toList, Nat.add_assoc]; rfl
  rw [e1]
  unfold encS
  rw [byteCells_app, ← strCells_bytes]
  exact ho2

set_option maxHeartbeats 4000000 in
theorem PutString_any (s : ByteArray) (hlim : 10 + s.size ≤ 140737488355328) (w : World) :
    Calls Try.prog 21 #[.string s] w (Owns w.heap.size 0 [] w (encS s)) := by
  have HC := Lib.hid (appendString_any w.heap.size 0 s (.slice none 0 0) [] w (World.ownsRow_nil w _ _ _) (Nat.le_refl _) (by omega))
  go_enter Try.func21, Try.ntmps21
  go_wp2_with fail
  go_fit (HC.out)
  rintro e w1 ⟨v', rfl, ho, hb⟩
  go_wp2_with fail
  go_ret
  exact ⟨v', rfl, ho, hb⟩
end Go.Proofs.Ytfnjemocekgncaa
