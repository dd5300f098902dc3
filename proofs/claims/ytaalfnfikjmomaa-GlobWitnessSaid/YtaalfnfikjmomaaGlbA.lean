/- Contracts of the document's last and member (glob). -/
import Derived.Test.YtaalfnfikjmomaaGlbM
import Derived.WalkKit
import Derived.WalkSpells
import Derived.WalkLawsBesides
import Derived.OwnWalk
import Derived.Lib.Hide
import Derived.Lib.Strings
import Derived.Deep.DeepFit
import Derived.Outline
import Derived.BigQuiet
import Derived.WalkSmall
import Derived.Deep.RegionWith
import Derived.Deep.RegionHeld3
import Derived.Deep.DeepCutAuto
import Derived.Deep.CutBlock
import Derived.Deep.QuietTactic
namespace Go.Proofs.Ytaalfnfikjmomaa
open Go.RowKit Go.Lib

theorem toL (l : List UInt8) : (⟨l.toArray⟩ : ByteArray).data.toList = l := by simp
theorem sizeL (l : List UInt8) : (⟨l.toArray⟩ : ByteArray).size = l.length := by show l.toArray.size = _; simp
theorem str_of (s : ByteArray) : (⟨s.data.toList.toArray⟩ : ByteArray) = s := by
  apply ByteArray.ext
  simp
theorem lenB (s : ByteArray) : s.data.toList.length = s.size := by rw [Array.length_toList]; rfl
theorem drop_cons (s : ByteArray) (i : Nat) (h : i < s.size) : s.data.toList.drop i = s[i] :: s.data.toList.drop (i + 1) := List.drop_eq_getElem_cons (by rw [Array.length_toList]; exact h)
theorem index_at (s : ByteArray) (i : Nat) (h : i < s.size) (w : World) : (Instr.index 9 (.string s) (.int .i64 (i : Int))).run Try.prog w = .ok (.int .u8 (s[i].toNat : Int)) w := by
  rw [run_index_string w _ _ _ _ Try.underlying9, dif_pos ⟨by omega, by omega⟩]
  rfl
theorem index_at1 (s : ByteArray) (i : Nat) (h : i + 1 < s.size) (w : World) : (Instr.index 9 (.string s) (.int .i64 ((i : Int) + 1))).run Try.prog w = .ok (.int .u8 (s[i + 1].toNat : Int)) w := by
  rw [run_index_string w _ _ _ _ Try.underlying9, dif_pos ⟨by omega, by omega⟩]
  congr 3
theorem u8_lit {c : UInt8} {n : Nat} (h : n < 256) : c.toNat = n ↔ c = n.toUInt8 := by
  rw [← UInt8.toNat_inj]
  have : n.toUInt8.toNat = n := by simp; omega
  rw [this]

/-- The byte at an index, or 0. -/
def lastN (s : ByteArray) (i : Nat) : Nat := if h : i < s.size then s[i].toNat else 0
theorem lastN_lt (s : ByteArray) (i : Nat) : lastN s i < 256 := by
  unfold lastN
  split
  · exact UInt8.toNat_lt _
  · omega
theorem lastN_head (s : ByteArray) (i : Nat) (c : UInt8) (h0 : c.toNat ≠ 0) : (s.data.toList.drop i).head? = some c ↔ lastN s i = c.toNat := by
  unfold lastN
  split
  · rename_i h
    rw [drop_cons s i h, List.head?_cons]
    exact ⟨fun e => by rw [Option.some.inj e], fun e => by congr 1; exact UInt8.toNat_inj.1 e⟩
  · rename_i h
    rw [List.drop_eq_nil_of_le (by rw [lenB]; omega)]
    constructor
    · intro e
      simp at e
    · intro e
      exact absurd e.symm h0
set_option maxHeartbeats 1000000 in
theorem refLast_any (s : ByteArray) (i : Nat) (w : World) :
    Calls Try.prog 28 #[.string s, .int .i64 i] w fun e w' => e = .returned (.int .u8 (lastN s i : Nat)) ∧ w = w' := by
  by_cases h : i < s.size
  · have hv := Lib.hid (show lastN s i = s[i].toNat by unfold lastN; rw [dif_pos h])
    have hix := index_at s i h
    have h1 : (i : Int) < (s.size : Int) := by omega
    generalize s[i].toNat = c at hv hix
    go_enter Try.func28, Try.ntmps28
    go_wp2_with fail
    go_ret
    exact ⟨by rw [hv.out]; rfl, rfl⟩
  · have hv := Lib.hid (show lastN s i = 0 by unfold lastN; rw [dif_neg h])
    have h1 : ¬ (i : Int) < (s.size : Int) := by omega
    clear h
    go_enter Try.func28, Try.ntmps28
    go_wp2_with fail
    go_ret
    exact ⟨by rw [hv.out]; rfl, rfl⟩

/-- What member gives at an index of a text. -/
def MemberPost (s : ByteArray) (i : Nat) (w : World) (e : Ending) (w' : World) : Prop :=
  w = w' ∧ match memberL (s.data.toList.drop i) with
  | some (c, r) => ∃ n : Nat, n + r.length = s.size ∧ r = s.data.toList.drop n ∧ i < n ∧ e = .returned (.tuple #[.int .u8 c.toNat, .int .i64 n, .bool true])
  | none => ∃ (b n : Nat), e = .returned (.tuple #[.int .u8 b, .int .i64 n, .bool false])
set_option maxHeartbeats 1000000 in
theorem refMember_any (s : ByteArray) (i : Nat) (hs : s.size ≤ 140737488355328) (hi : i ≤ s.size + 1) (w : World) :
    Calls Try.prog 50 #[.string s, .int .i64 i] w (MemberPost s i w) := by
  by_cases h : i < s.size
  · have hd := drop_cons s i h
    have hix := index_at s i h
    have h1 : (i : Int) < (s.size : Int) := by omega
    have h2 : (0 : Int) ≤ i ∧ (s.size : Int) ≤ 140737488355328 := by omega
    obtain ⟨c, hc⟩ : ∃ c, c = s[i] := ⟨_, rfl⟩
    rw [← hc] at hd hix
    have hc9 := c.toNat_lt
    have hml : memberL (s.data.toList.drop i) = if c = 92 then (s.data.toList.drop (i + 1)).head?.map fun d => (d, (s.data.toList.drop (i + 1)).tail) else if c = 93 ∨ c = 45 then none else some (c, s.data.toList.drop (i + 1)) := by rw [hd, memberL]
    by_cases c1 : c = 92
    · subst c1
      rw [if_pos rfl] at hml
      have L := Lib.hid (fun w => refLast_any s (i + 1) w)
      by_cases h3 : i + 1 < s.size
      · have HP := Lib.hid (show ∀ w, MemberPost s i w (.returned (.tuple #[.int .u8 (lastN s (i + 1) : Nat), .int .i64 ((i : Int) + 1 + 1), .bool true])) w from fun w => by
          refine ⟨rfl, ?_⟩
          rw [hml, drop_cons s (i + 1) h3]
          refine ⟨i + 1 + 1, ?_, rfl, by omega, ?_⟩
          · rw [List.tail_cons, List.length_drop, lenB]; omega
          · unfold lastN; rw [dif_pos h3]; rfl)
        have h3i : (i : Int) + 1 < (s.size : Int) := by omega
        clear hd hc hc9 hml h h3 hi hs
        go_enter Try.func50, Try.ntmps50
        go_wp2_with fail
        go_fit (L.out _)
        rintro e w1 ⟨rfl, rfl⟩
        go_wp2_with fail
        go_ret3
        exact HP.out _
      · have HP := Lib.hid (show ∀ w, MemberPost s i w (.returned (.tuple #[.int .u8 (lastN s (i + 1) : Nat), .int .i64 ((i : Int) + 1 + 1), .bool (decide ((i : Int) + 1 < (s.size : Int)))])) w from fun w => by
          rw [decide_eq_false (by omega)]
          refine ⟨rfl, ?_⟩
          rw [hml, List.drop_eq_nil_of_le (by rw [lenB]; omega)]
          exact ⟨_, i + 1 + 1, rfl⟩)
        have h3i : ¬ (i : Int) + 1 < (s.size : Int) := by omega
        clear hd hc hc9 hml h h3 hi hs
        go_enter Try.func50, Try.ntmps50
        go_wp2_with fail
        go_fit (L.out _)
        rintro e w1 ⟨rfl, rfl⟩
        go_wp2_with fail
        go_ret3
        exact HP.out _
    · rw [if_neg c1] at hml
      obtain ⟨b, hb⟩ : ∃ b, b = c.toNat := ⟨_, rfl⟩
      have b1 : ((b : Int) == 92) = false := by rw [beq_eq_false_iff_ne]; intro e; exact c1 (UInt8.toNat_inj.1 (by rw [← hb]; show b = 92; omega))
      rw [← hb] at hix
      by_cases c2 : c = 93 ∨ c = 45
      · have HP := Lib.hid (show ∀ w (x : Nat) (n : Nat), MemberPost s i w (.returned (.tuple #[.int .u8 (x : Int), .int .i64 (n : Int), .bool false])) w from fun w x n => by
          refine ⟨rfl, ?_⟩
          rw [hml, if_pos c2]
          exact ⟨x, n, rfl⟩)
        rcases c2 with rfl | rfl
        · have b2 : ((b : Int) == 93) = true := by rw [hb]; rfl
          clear hd hc hc9 hml h hi hs c1 hb
          go_enter Try.func50, Try.ntmps50
          go_wp2_with fail
          go_ret3
          exact HP.out _ 0 i
        · have b2 : ((b : Int) == 93) = false := by rw [hb]; rfl
          have b3 : ((b : Int) == 45) = true := by rw [hb]; rfl
          clear hd hc hc9 hml h hi hs c1 hb
          go_enter Try.func50, Try.ntmps50
          go_wp2_with fail
          go_ret3
          exact HP.out _ 0 i
      · have c3 : c ≠ 93 := fun e => c2 (.inl e)
        have c4 : c ≠ 45 := fun e => c2 (.inr e)
        have b2 : ((b : Int) == 93) = false := by rw [beq_eq_false_iff_ne]; intro e; exact c3 (UInt8.toNat_inj.1 (by rw [← hb]; show b = 93; omega))
        have b3 : ((b : Int) == 45) = false := by rw [beq_eq_false_iff_ne]; intro e; exact c4 (UInt8.toNat_inj.1 (by rw [← hb]; show b = 45; omega))
        have HP := Lib.hid (show ∀ w, MemberPost s i w (.returned (.tuple #[.int .u8 (b : Int), .int .i64 ((i : Int) + 1), .bool true])) w from fun w => by
          refine ⟨rfl, ?_⟩
          rw [hml, if_neg c2]
          refine ⟨i + 1, ?_, rfl, by omega, by rw [hb]; rfl⟩
          rw [List.length_drop, lenB]; omega)
        clear hd hc hc9 hml h hi hs c1 hb c2 c3 c4
        go_enter Try.func50, Try.ntmps50
        go_wp2_with fail
        go_ret3
        exact HP.out _
  · have HP := Lib.hid (show ∀ w, MemberPost s i w (.returned (.tuple #[.int .u8 0, .int .i64 (i : Int), .bool false])) w from fun w => by
      refine ⟨rfl, ?_⟩
      rw [List.drop_eq_nil_of_le (by rw [lenB]; omega), memberL]
      exact ⟨0, i, rfl⟩)
    have h1 : ¬ (i : Int) < (s.size : Int) := by omega
    clear h hi hs
    go_enter Try.func50, Try.ntmps50
    go_wp2_with fail
    go_ret3
    exact HP.out _
end Go.Proofs.Ytaalfnfikjmomaa
