/- Contracts of the document's digit, Parse and Text (digest), and the plain functions that they compute. -/
import Derived.Test.YtoehpoodfbgdiaaDoorBaseB
namespace Go.Proofs.YtoehpoodfbgdiaaDoor
open Go.RowKit Go.Lib

/-- The value of a hexadecimal digit, or 16. -/
def hexv (c : Nat) : Nat := if 48 ≤ c ∧ c ≤ 57 then c - 48 else if 97 ≤ c ∧ c ≤ 102 then c - 87 else 16
theorem hexv_le (c : Nat) : hexv c ≤ 16 := by unfold hexv; split <;> (try split) <;> omega
def hexd (n : Nat) : UInt8 := if n < 10 then (48 + n).toUInt8 else (87 + n).toUInt8
/-- The k lowest hexadecimal digits, the most significant one first. -/
def hexT : Nat → Nat → List UInt8
  | 0, _ => []
  | k + 1, n => hexT k (n / 16) ++ [hexd (n % 16)]
theorem hexT_len : ∀ k n, (hexT k n).length = k
  | 0, _ => rfl
  | k + 1, n => by rw [hexT, List.length_append, hexT_len]; rfl
theorem hexT_cons : ∀ k n, hexT (k + 1) n = hexd (n / 16 ^ k % 16) :: hexT k n
  | 0, n => by simp [hexT]
  | k + 1, n => by
    rw [hexT, hexT_cons k (n / 16), hexT, Nat.div_div_eq_div_mul, Nat.pow_succ, Nat.mul_comm 16]
    rfl
/-- The number of hexadecimal digits behind others, or none. -/
def hexN (acc : Nat) : List UInt8 → Option Nat
  | [] => some acc
  | c :: r => if hexv c.toNat = 16 then none else hexN (acc * 16 + hexv c.toNat) r
/-- What Parse answers: the digest, and the error's number. -/
def parseD (l : List UInt8) : Nat × Nat := match hexN 0 (l.take 16) with
  | none => (0, 5)
  | some n => if l.length ≠ 16 then (0, 5) else (n, 0)

set_option maxHeartbeats 1000000 in
set_option maxRecDepth 100000 in
theorem refDigit_any (c : Nat) (hc : c < 256) (w : World) :
    Calls Tryd.prog 34 #[.int .u8 c] w fun e w' => e = .returned (.int .u64 (hexv c : Nat)) ∧ w = w' := by
  by_cases h1 : 48 ≤ c ∧ c ≤ 57
  · have hv := Lib.hid (show ((hexv c : Nat) : Int) = (c : Int) - 48 by unfold hexv; rw [if_pos h1]; omega)
    have c0 : (48 : Int) ≤ c ∧ (c : Int) ≤ 57 := by omega
    clear h1
    go_enter Tryd.func34, Tryd.ntmps34
    go_wp2_with fail
    go_ret
    exact ⟨by rw [hv.out]; rfl, rfl⟩
  · by_cases h2 : 97 ≤ c ∧ c ≤ 102
    · have hv := Lib.hid (show ((hexv c : Nat) : Int) = (c : Int) - 97 + 10 by unfold hexv; rw [if_neg h1, if_pos h2]; omega)
      have c0 : (97 : Int) ≤ c ∧ (c : Int) ≤ 102 := by omega
      clear h1 h2
      go_enter Tryd.func34, Tryd.ntmps34
      go_wp2_with fail
      go_ret
      exact ⟨by rw [hv.out]; rfl, rfl⟩
    · have hv := Lib.hid (show ((hexv c : Nat) : Int) = 16 by unfold hexv; rw [if_neg h1, if_neg h2]; rfl)
      have c9 : (0 : Int) ≤ c ∧ (c : Int) ≤ 255 := by omega
      by_cases h3 : 48 ≤ c
      · by_cases h4 : 97 ≤ c
        · have c0 : ¬ (c : Int) ≤ 57 := by omega
          have c1 : ¬ (c : Int) ≤ 102 := by omega
          have c2 : (97 : Int) ≤ c := by omega
          clear h1 h2
          go_enter Tryd.func34, Tryd.ntmps34
          go_wp2_with fail
          go_ret
          exact ⟨by rw [hv.out]; rfl, rfl⟩
        · have c0 : ¬ (c : Int) ≤ 57 := by omega
          have c2 : ¬ (97 : Int) ≤ c := by omega
          clear h1 h2
          go_enter Tryd.func34, Tryd.ntmps34
          go_wp2_with fail
          go_ret
          exact ⟨by rw [hv.out]; rfl, rfl⟩
      · have c0 : ¬ (48 : Int) ≤ c := by omega
        have c2 : ¬ (97 : Int) ≤ c := by omega
        clear h1 h2
        go_enter Tryd.func34, Tryd.ntmps34
        go_wp2_with fail
        go_ret
        exact ⟨by rw [hv.out]; rfl, rfl⟩

theorem hex_slice (a : Nat) (ha : a < 16) (w : World) : (Instr.sliceAt 9 (.string ⟨#[48, 49, 50, 51, 52, 53, 54, 55, 56, 57, 97, 98, 99, 100, 101, 102]⟩) (some (.int .u64 (a : Int))) (some (.int .u64 ((a : Int) + 1))) none).run Tryd.prog w = .ok (.string ⟨#[hexd a]⟩) w := by
  rcases (show a = 0 ∨ a = 1 ∨ a = 2 ∨ a = 3 ∨ a = 4 ∨ a = 5 ∨ a = 6 ∨ a = 7 ∨ a = 8 ∨ a = 9 ∨ a = 10 ∨ a = 11 ∨ a = 12 ∨ a = 13 ∨ a = 14 ∨ a = 15 by omega) with rfl | rfl | rfl | rfl | rfl | rfl | rfl | rfl | rfl | rfl | rfl | rfl | rfl | rfl | rfl | rfl <;> kernel_rfl
theorem cons_str (c : UInt8) (l : List UInt8) : (⟨#[c]⟩ : ByteArray) ++ ⟨l.toArray⟩ = ⟨(c :: l).toArray⟩ := by
  apply ByteArray.ext
  simp

set_option maxHeartbeats 1000000 in
set_option maxRecDepth 100000 in
theorem refText_any (n : Nat) (hn : n < 18446744073709551616) (w : World) :
    Calls Tryd.prog 20 #[.int .u64 n] w fun e w' => e = .returned (.string ⟨(hexT 16 n).toArray⟩) ∧ w = w' := by
  have n0 : (0 : Int) ≤ n ∧ (n : Int) ≤ 18446744073709551615 := by omega
  clear hn
  go_enter Tryd.func20, Tryd.ntmps20
  go_wp2_with fail
  go_loop [3, 4, 5] (fun s3 s4 s5 => ∃ k x : Nat, ∃ s : ByteArray, k ≤ 16 ∧ x ≤ n ∧ x = n / 16 ^ k ∧ s = ⟨(hexT k n).toArray⟩ ∧ s5 = .int .i64 k ∧ s4 = .int .u64 x ∧ s3 = .string s) (fun _ _ s5 => 16 - (RowKit.intOf s5).toNat)
  case atStart => exact ⟨0, n, _, by omega, Nat.le_refl _, by simp, rfl, rfl, rfl, rfl⟩
  case round =>
    obtain ⟨k, x, s, hk, hx, hxe, hse, rfl, rfl, rfl⟩ := hrel
    have HX := Lib.hid hxe
    have HS := Lib.hid hse
    clear hxe hse
    by_cases h16 : k = 16
    · subst h16
      go_wp2_with fail
      go_ret
      exact ⟨by rw [HS.out]; rfl, rfl⟩
    · have hk16 : (k : Int) < 16 := by omega
      have hxa := hex_slice (x % 16) (Nat.mod_lt _ (by decide))
      obtain ⟨y, hy⟩ : ∃ y, y = x % 16 := ⟨_, rfl⟩
      have hy0 : (x : Int) % 16 = (y : Int) := by omega
      have hy9 : (0 : Int) ≤ y ∧ (y : Int) ≤ 15 := by omega
      rw [← hy] at hxa
      have HY := Lib.hid hy
      have s0 : s.size ≤ 16 := by
        rw [HS.out]
        show (hexT k n).toArray.size ≤ 16
        rw [List.size_toArray, hexT_len]
        exact hk
      have s1 : (⟨#[hexd y]⟩ : ByteArray).size ≤ 1 := Nat.le_refl _
      clear hy h16 hk
      go_wp2_with fail
      go_round
      case rel => exact ⟨k + 1, x / 16, _, by omega, by omega, by rw [HX.out, Nat.div_div_eq_div_mul, Nat.pow_succ], by rw [HS.out, cons_str, hexT_cons, ← HX.out, ← HY.out], by go_num, by go_num, rfl⟩
      case measure => simp [RowKit.intOf]; omega
end Go.Proofs.YtoehpoodfbgdiaaDoor
