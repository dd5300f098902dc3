/- A string's encoding is taken back; two slices of the same bytes are found equal. -/
import Derived.Test.YtfnjemocekgncaaOpenB
namespace Go.Proofs.Ytfnjemocekgncaa
open Go.RowKit Go.Lib

theorem take_uvarint : ∀ (x i acc : Nat) (r : List UInt8), i ≤ 9 → x * 128 ^ i < 18446744073709551616 → (0 < i → 0 < x) →
    takeFrom i acc (Lib.uvarint x ++ r) = (acc + x * 128 ^ i, i + (Lib.uvarint x).length, 0) := by
  intro x
  induction x using Nat.strongRecOn with
  | ind x ih =>
    intro i acc r hi hx hp
    have h9 : i = 9 → x ≤ 1 := by
      intro h
      subst h
      have e9 : (128 : Nat) ^ 9 = 9223372036854775808 := by decide
      rw [e9] at hx
      omega
    by_cases hs : x < 128
    · rw [Lib.uvarint_small hs]
      have hb : (x.toUInt8).toNat = x := by simp; omega
      simp only [List.singleton_append]
      unfold takeFrom
      rw [hb, if_neg (by intro h; have := h9 h.1; omega), if_neg (by intro h; have := hp h.1; omega), if_pos hs, Nat.mod_eq_of_lt hs]
      rfl
    · rw [Lib.uvarint_big (by omega)]
      have hb : ((x % 128 + 128).toUInt8).toNat = x % 128 + 128 := by simp; omega
      simp only [List.cons_append]
      unfold takeFrom
      have hi9 : i ≠ 9 := fun h => by have := h9 h; omega
      rw [hb, if_neg (by omega), if_neg (by omega), if_neg (by omega)]
      have e1 : (x % 128 + 128) % 128 = x % 128 := by omega
      have e2 : x / 128 * 128 ^ (i + 1) + x % 128 * 128 ^ i = x * 128 ^ i := by
        rw [Nat.pow_succ, Nat.mul_comm (128 ^ i) 128, ← Nat.mul_assoc, ← Nat.add_mul, Nat.div_add_mod']
      rw [e1, ih (x / 128) (by omega) (i + 1) _ r (by omega) (by omega) (by omega), List.length_cons]
      simp only [Prod.mk.injEq, and_true]
      omega
theorem take_put (x : Nat) (r : List UInt8) (hx : x < 18446744073709551616) : take (Lib.uvarint x ++ r) = (x, (Lib.uvarint x).length, 0) := by
  unfold take
  rw [take_uvarint x 0 0 r (by omega) (by simpa using hx) (by omega)]
  simp
theorem takeS_enc (s : ByteArray) (hs : s.size < 18446744073709551616) : takeS (encS s) = (s.data.toList, (encS s).length, 0) := by
  have e : s.data.toList.length = s.size := by rw [Array.length_toList]; rfl
  unfold takeS encS
  rw [take_put _ _ hs]
  simp only [ne_eq, not_true_eq_false, if_false, List.length_append, e, List.drop_left]
  rw [if_neg (by omega), List.take_of_length_le (by omega)]

set_option maxHeartbeats 4000000 in
theorem Bytes_same (a b : Option Addr) (c d : Nat) (l : List UInt8) (w : World) (ha : ReadsBytes w a l) (hb : ReadsBytes w b l) :
    Calls Try.prog 12 #[.slice a l.length c, .slice b l.length d] w fun e w' => e = .returned (.bool true) ∧ w = w' := by
  have c1 := conv_str a l w ha c
  have c2 := conv_str b l w hb d
  obtain ⟨st, hst⟩ : ∃ st : ByteArray, st = ⟨l.toArray⟩ := ⟨_, rfl⟩
  rw [← hst] at c1 c2
  clear hst ha hb
  go_enter Try.func12, Try.ntmps12
  go_wp2_with fail
  go_ret
  exact ⟨rfl, rfl⟩
end Go.Proofs.Ytfnjemocekgncaa
