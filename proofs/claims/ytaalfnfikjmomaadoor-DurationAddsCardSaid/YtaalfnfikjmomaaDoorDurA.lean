/- Contracts of the document's Limit, units, number and Decimal (duration). -/
import Derived.Test.YtaalfnfikjmomaaDoorDurM
import Derived.WalkKit
import Derived.WalkSpells
import Derived.WalkLawsBesides
import Derived.OwnWalk
import Derived.Lib.Hide
import Derived.Deep.DeepFit
import Derived.Outline
namespace Go.Proofs.YtaalfnfikjmomaaDoor
open Go.RowKit Go.Lib

def limD (n : Int) : Nat := if n < 0 then 0 else if 1125899906842624 < n then 1125899906842624 else n.toNat
theorem refLimitD_any (n : Int) (w : World) :
    Calls Tryd.prog 13 #[.int .i64 n] w fun e w' => e = .returned (.int .i64 (limD n : Nat)) ∧ w = w' := by
  by_cases h1 : n < 0
  · have hv := Lib.hid (show limD n = 0 by unfold limD; rw [if_pos h1])
    go_enter Tryd.func13, Tryd.ntmps13
    go_wp2_with fail
    go_ret
    exact ⟨by rw [hv.out]; rfl, rfl⟩
  · by_cases h2 : 1125899906842624 < n
    · have hv := Lib.hid (show limD n = 1125899906842624 by unfold limD; rw [if_neg h1, if_pos h2])
      go_enter Tryd.func13, Tryd.ntmps13
      go_wp2_with fail
      go_ret
      exact ⟨by rw [hv.out]; rfl, rfl⟩
    · have hv := Lib.hid (show ((limD n : Nat) : Int) = n by unfold limD; rw [if_neg h1, if_neg h2]; omega)
      go_enter Tryd.func13, Tryd.ntmps13
      go_wp2_with fail
      go_ret
      exact ⟨by rw [hv.out]; rfl, rfl⟩

set_option maxHeartbeats 1000000 in
set_option maxRecDepth 100000 in
theorem refBelow_any (u : Nat) (hu : u ≤ 4) (w : World) :
    Calls Tryd.prog 24 #[.int .i64 u] w fun e w' => e = .returned (.int .i64 (belowU u : Nat)) ∧ Below w.heap.size w w' := by
  have HB := Lib.hid ((Below.refl w.heap.size w).alloc (Nat.le_refl _) (.cells #[.int .i64 0, .int .i64 24, .int .i64 60, .int .i64 60, .int .i64 1000] 3))
  rcases (show u = 0 ∨ u = 1 ∨ u = 2 ∨ u = 3 ∨ u = 4 by omega) with rfl | rfl | rfl | rfl | rfl
  all_goals
    go_enter Tryd.func24, Tryd.ntmps24
    go_wp2_with fail
    go_ret
    exact ⟨rfl, HB.out⟩
set_option maxHeartbeats 1000000 in
set_option maxRecDepth 100000 in
theorem refUnitSize_any (u : Nat) (hu : u ≤ 4) (w : World) :
    Calls Tryd.prog 25 #[.int .i64 u] w fun e w' => e = .returned (.int .i64 (sizeU u : Nat)) ∧ Below w.heap.size w w' := by
  have HB := Lib.hid ((Below.refl w.heap.size w).alloc (Nat.le_refl _) (.cells #[.int .i64 86400000, .int .i64 3600000, .int .i64 60000, .int .i64 1000, .int .i64 1] 3))
  rcases (show u = 0 ∨ u = 1 ∨ u = 2 ∨ u = 3 ∨ u = 4 by omega) with rfl | rfl | rfl | rfl | rfl
  all_goals
    go_enter Tryd.func25, Tryd.ntmps25
    go_wp2_with fail
    go_ret
    exact ⟨rfl, HB.out⟩
set_option maxHeartbeats 1000000 in
set_option maxRecDepth 100000 in
theorem refUnitName_any (u : Nat) (hu : u ≤ 4) (w : World) :
    Calls Tryd.prog 26 #[.int .i64 u] w fun e w' => e = .returned (.string ⟨(nameU u).toArray⟩) ∧ Below w.heap.size w w' := by
  have HB := Lib.hid ((Below.refl w.heap.size w).alloc (Nat.le_refl _) (.cells #[.string ⟨#[100]⟩, .string ⟨#[104]⟩, .string ⟨#[109]⟩, .string ⟨#[115]⟩, .string ⟨#[109, 115]⟩] 9))
  rcases (show u = 0 ∨ u = 1 ∨ u = 2 ∨ u = 3 ∨ u = 4 by omega) with rfl | rfl | rfl | rfl | rfl
  all_goals
    go_enter Tryd.func26, Tryd.ntmps26
    go_wp2_with fail
    go_ret
    exact ⟨rfl, HB.out⟩

theorem numL_cap : ∀ (l : List UInt8) (acc : Nat), acc ≤ 99999999 → (numL acc l).1 ≤ 99999999
  | [], _, h => h
  | c :: r, acc, h => by
    rw [numL]
    split
    · exact numL_cap r _ (Nat.min_le_right _ _)
    · exact h
theorem numL_len : ∀ (l : List UInt8) (acc : Nat), (numL acc l).2.length ≤ l.length
  | [], _ => Nat.le_refl _
  | c :: r, acc => by
    rw [numL]
    split
    · have := numL_len r (min (10 * acc + (c.toNat - 48)) 99999999)
      rw [List.length_cons]; omega
    · exact Nat.le_refl _
theorem numL_drop {l : List UInt8} {j acc : Nat} (h : j < l.length) : numL acc (l.drop j) = if 48 ≤ l[j].toNat ∧ l[j].toNat ≤ 57 then numL (min (10 * acc + (l[j].toNat - 48)) 99999999) (l.drop (j + 1)) else (acc, l.drop j) := by
  rw [List.drop_eq_getElem_cons h, numL]

theorem tuple_ii {a b c d : Int} (h1 : a = b) (h2 : c = d) : Ending.returned (.tuple #[.int .i64 a, .int .i64 c]) = .returned (.tuple #[.int .i64 b, .int .i64 d]) := by rw [h1, h2]
set_option maxHeartbeats 2000000 in
set_option maxRecDepth 100000 in
theorem refNumber_any (s : ByteArray) (i : Nat) (hs : s.size ≤ 140737488355328) (hi : i ≤ s.size) (w : World) :
    Calls Tryd.prog 22 #[.string s, .int .i64 i] w fun e w' => e = .returned (.tuple #[.int .i64 ((numL 0 (s.data.toList.drop i)).1 : Nat), .int .i64 ((s.size - (numL 0 (s.data.toList.drop i)).2.length : Nat) : Nat)]) ∧ w = w' := by
  have hsl : s.data.toList.length = s.size := by rw [Array.length_toList]; rfl
  obtain ⟨q, hq⟩ : ∃ q, q = numL 0 (s.data.toList.drop i) := ⟨_, rfl⟩
  rw [← hq]
  have HQ := Lib.hid hq
  have HSL := Lib.hid hsl
  clear hq hsl
  go_enter Tryd.func22, Tryd.ntmps22
  go_wp2_with fail
  go_loop [1, 6] (fun s1 s6 => ∃ j n : Nat, i ≤ j ∧ j ≤ s.size ∧ n ≤ 99999999 ∧ s1 = .int .i64 (j : Int) ∧ s6 = .int .i64 (n : Int) ∧ q = numL n (s.data.toList.drop j)) (fun s1 _ => s.size - (RowKit.intOf s1).toNat)
  case atStart => exact ⟨i, 0, by omega, hi, by omega, rfl, rfl, HQ.out⟩
  case round =>
    obtain ⟨j, n, hij, hj, hn, rfl, rfl, he⟩ := hrel
    have HE := Lib.hid he
    clear he
    have hn0 : (0 : Int) ≤ n ∧ (n : Int) ≤ 99999999 := by omega
    by_cases hlt : j < s.size
    · have hdr := numL_drop (l := s.data.toList) (j := j) (acc := n) (by have := HSL.out; omega)
      rw [show s.data.toList[j]'(by rw [Array.length_toList]; exact hlt) = s[j] from rfl] at hdr
      have hcb := s[j].toNat_lt
      have HDR := Lib.hid hdr
      have hjs : (j : Int) < (s.size : Int) := by omega
      have hlen : (s.data.toList.drop j).length = s.size - j := by rw [List.length_drop, HSL.out]
      clear hdr
      by_cases h1 : 48 ≤ s[j].toNat
      · by_cases h2 : s[j].toNat ≤ 57
        · have hq1 : q = numL (min (10 * n + (s[j].toNat - 48)) 99999999) (s.data.toList.drop (j + 1)) := by rw [HE.out, HDR.out, if_pos ⟨h1, h2⟩]
          have c0 : (48 : Int) ≤ s[j].toNat ∧ (s[j].toNat : Int) ≤ 57 := by omega
          by_cases h9 : 99999999 < 10 * n + (s[j].toNat - 48)
          · have HQ1 := Lib.hid (show q = numL 99999999 (s.data.toList.drop (j + 1)) by rw [hq1, Nat.min_eq_right (by omega)])
            have h9i : (99999999 : Int) < 10 * (n : Int) + ((s[j].toNat : Int) - 48) := by omega
            clear hq1 hlen
            go_wp2_with fail
            go_round
            case rel => exact ⟨j + 1, 99999999, by omega, by omega, by omega, by go_num, rfl, HQ1.out⟩
            case measure => simp [RowKit.intOf]; omega
          · have HQ1 := Lib.hid (show q = numL (10 * n + (s[j].toNat - 48)) (s.data.toList.drop (j + 1)) by rw [hq1, Nat.min_eq_left (by omega)])
            have h9i : ¬ (99999999 : Int) < 10 * (n : Int) + ((s[j].toNat : Int) - 48) := by omega
            clear hq1 hlen
            go_wp2_with fail
            go_round
            case rel => exact ⟨j + 1, 10 * n + (s[j].toNat - 48), by omega, by omega, by omega, by go_num, by go_num, HQ1.out⟩
            case measure => simp [RowKit.intOf]; omega
        · have HF := Lib.hid (show q = (n, s.data.toList.drop j) by rw [HE.out, HDR.out, if_neg (by omega)])
          have HL := Lib.hid hlen
          have c0 : (48 : Int) ≤ s[j].toNat := by omega
          have c1 : ¬ (s[j].toNat : Int) ≤ 57 := by omega
          clear hlen
          go_wp2_with fail
          go_ret2
          exact ⟨tuple_ii (by rw [HF.out]) (by rw [HF.out, HL.out]; omega), rfl⟩
      · have HF := Lib.hid (show q = (n, s.data.toList.drop j) by rw [HE.out, HDR.out, if_neg (by omega)])
        have HL := Lib.hid hlen
        have c0 : ¬ (48 : Int) ≤ s[j].toNat := by omega
        clear hlen
        go_wp2_with fail
        go_ret2
        exact ⟨tuple_ii (by rw [HF.out]) (by rw [HF.out, HL.out]; omega), rfl⟩
    · obtain rfl : j = s.size := by omega
      have HF := Lib.hid (show q = (n, []) by rw [HE.out, List.drop_eq_nil_of_le (by rw [HSL.out]; exact Nat.le_refl _)]; rfl)
      clear hlt
      go_wp2_with fail
      go_ret2
      exact ⟨tuple_ii (by rw [HF.out]) (by rw [HF.out]; simp), rfl⟩
end Go.Proofs.YtaalfnfikjmomaaDoor
