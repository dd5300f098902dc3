/- Contracts of the document's Round and Mix (digest), and the plain functions that they compute. -/
import Derived.Test.YtoehpoodfbgdiaaDoorRows
import Derived.WalkKit
import Derived.WalkSpells
import Derived.WalkLawsBesides
import Derived.OwnWalk
import Derived.Lib.Hide
import Derived.Deep.DeepFit
import Derived.Outline
import Derived.Laws.Bits64
namespace Go.Proofs.YtoehpoodfbgdiaaDoor
open Go.RowKit Go.Lib

def rndT (r k i : Nat) : Nat := ((r ^^^ k) * 2654435761 + i) % 4294967296
def rnd (r k i : Nat) : Nat := rndT r k i ^^^ rndT r k i / 65536
def keyOf' (key i : Nat) : Nat := if i % 2 = 0 then key / 4294967296 else key % 4294967296
def mixStep (key : Nat) (p : Nat × Nat) (i : Nat) : Nat × Nat := (p.2, p.1 ^^^ rnd p.2 (keyOf' key i) i)
/-- The halves after n rounds. -/
def mixP (key x : Nat) : Nat → Nat × Nat
  | 0 => (x / 4294967296, x % 4294967296)
  | n + 1 => mixStep key (mixP key x n) (n + 1)
def mixN (key x : Nat) : Nat := (mixP key x 4).1 * 4294967296 + (mixP key x 4).2

theorem xor_lt32 {a b : Nat} (ha : a < 4294967296) (hb : b < 4294967296) : a ^^^ b < 4294967296 := Nat.xor_lt_two_pow (n := 32) ha hb
theorem rndT_lt (r k i : Nat) : rndT r k i < 4294967296 := Nat.mod_lt _ (by decide)
theorem rnd_lt (r k i : Nat) : rnd r k i < 4294967296 := xor_lt32 (rndT_lt r k i) (Nat.lt_of_le_of_lt (Nat.div_le_self _ _) (rndT_lt r k i))
theorem keyOf_lt {key : Nat} (h : key < 18446744073709551616) (i : Nat) : keyOf' key i < 4294967296 := by unfold keyOf'; split <;> omega
theorem mixP_lt {key x : Nat} (hx : x < 18446744073709551616) : ∀ n, (mixP key x n).1 < 4294967296 ∧ (mixP key x n).2 < 4294967296
  | 0 => by simp only [mixP]; omega
  | n + 1 => by
    obtain ⟨h1, h2⟩ := mixP_lt (key := key) hx n
    exact ⟨h2, xor_lt32 h1 (rnd_lt _ _ _)⟩
theorem mixN_lt {key x : Nat} (hx : x < 18446744073709551616) : mixN key x < 18446744073709551616 := by
  obtain ⟨h1, h2⟩ := mixP_lt (key := key) hx 4
  unfold mixN
  omega

set_option maxHeartbeats 1000000 in
set_option maxRecDepth 100000 in
theorem refRound_any (r k i : Nat) (hr : r < 4294967296) (hk : k < 4294967296) (hi : i ≤ 4) (w : World) :
    Calls Tryd.prog 26 #[.int .u64 r, .int .u64 k, .int .u64 i] w fun e w' => e = .returned (.int .u64 (rnd r k i : Nat)) ∧ w = w' := by
  have hx := bits_xor_u64_nat r k (by omega) (by omega)
  have hv := xor_lt32 hr hk
  obtain ⟨v, hvv⟩ : ∃ v, v = r ^^^ k := ⟨_, rfl⟩
  have ht : rndT r k i = (v * 2654435761 + i) % 4294967296 := by rw [hvv]; rfl
  rw [← hvv] at hx hv
  have hy := bits_xor_u64_nat (rndT r k i) (rndT r k i / 65536) (by have := rndT_lt r k i; omega) (by have := rndT_lt r k i; omega)
  have he : rnd r k i = rndT r k i ^^^ rndT r k i / 65536 := rfl
  rw [← he] at hy
  obtain ⟨y, hyy⟩ : ∃ y, y = rnd r k i := ⟨_, rfl⟩
  rw [← hyy] at hy ⊢
  obtain ⟨t, htt⟩ : ∃ t, t = rndT r k i := ⟨_, rfl⟩
  rw [← htt] at hy ht
  have v0 : (0 : Int) ≤ v ∧ (v : Int) ≤ 4294967295 := by omega
  have i0 : (0 : Int) ≤ i ∧ (i : Int) ≤ 4 := by omega
  have tt : ((v : Int) * 2654435761 + (i : Int)) % 4294967296 = (t : Int) := by rw [ht]; omega
  have d0 : ((t / 65536 : Nat) : Int) = (t : Int) / 65536 := by omega
  rw [d0] at hy
  clear hvv ht he hyy htt hv hr hk hi d0
  go_enter Tryd.func26, Tryd.ntmps26
  go_wp2_with fail
  go_ret
  exact ⟨rfl, rfl⟩

set_option maxHeartbeats 1000000 in
set_option maxRecDepth 100000 in
theorem refMix_any (key x : Nat) (hk : key < 18446744073709551616) (hx : x < 18446744073709551616) (w : World) :
    Calls Tryd.prog 11 #[.int .u64 key, .int .u64 x] w fun e w' => e = .returned (.int .u64 (mixN key x : Nat)) ∧ w = w' := by
  have HK := Lib.hid hk
  have HX := Lib.hid hx
  have k0 : (0 : Int) ≤ key ∧ (key : Int) ≤ 18446744073709551615 := by omega
  have x0 : (0 : Int) ≤ x ∧ (x : Int) ≤ 18446744073709551615 := by omega
  clear hk hx
  go_enter Tryd.func11, Tryd.ntmps11
  go_wp2_with fail
  go_loop [5, 6, 7] (fun s5 s6 s7 => ∃ i : Nat, i ≤ 4 ∧ s7 = .int .u64 ((i : Int) + 1) ∧ s5 = .int .u64 ((mixP key x i).1 : Nat) ∧ s6 = .int .u64 ((mixP key x i).2 : Nat)) (fun _ _ s7 => 5 - (RowKit.intOf s7).toNat)
  case atStart => exact ⟨0, by omega, rfl, by simp only [mixP]; go_num, by simp only [mixP]; go_num⟩
  case round =>
    obtain ⟨i, hi, rfl, rfl, rfl⟩ := hrel
    obtain ⟨h1, h2⟩ := mixP_lt (key := key) HX.out i
    have hst : mixP key x (i + 1) = ((mixP key x i).2, (mixP key x i).1 ^^^ rnd (mixP key x i).2 (keyOf' key (i + 1)) (i + 1)) := rfl
    have hkl := keyOf_lt HK.out (i + 1)
    obtain ⟨l, hl⟩ : ∃ l, l = (mixP key x i).1 := ⟨_, rfl⟩
    obtain ⟨r, hr⟩ : ∃ r, r = (mixP key x i).2 := ⟨_, rfl⟩
    by_cases h4 : i = 4
    · subst h4
      have hm : mixN key x = l * 4294967296 + r := by rw [hl, hr]; rfl
      rw [← hl] at h1 ⊢
      rw [← hr] at h2 ⊢
      have HM := Lib.hid hm
      clear hm hl hr hst hkl
      have l0 : (0 : Int) ≤ l ∧ (l : Int) ≤ 4294967295 := by omega
      have r0 : (0 : Int) ≤ r ∧ (r : Int) ≤ 4294967295 := by omega
      clear h1 h2
      go_wp2_with fail
      go_ret
      exact ⟨by rw [HM.out, Int.natCast_add, Int.natCast_mul]; rfl, rfl⟩
    · rw [← hl, ← hr] at hst
      rw [← hl] at h1 ⊢
      rw [← hr] at h2 ⊢
      have hkk : ((keyOf' key (i + 1) : Nat) : Int) = if (i + 1) % 2 = 0 then (key : Int) / 4294967296 else (key : Int) % 4294967296 := by unfold keyOf'; split <;> omega
      have hx := bits_xor_u64_nat l (rnd r (keyOf' key (i + 1)) (i + 1)) (by omega) (by have := rnd_lt r (keyOf' key (i + 1)) (i + 1); omega)
      have R1 := Lib.hid (fun (z : Int) (hz : z = ((keyOf' key (i + 1) : Nat) : Int)) w => hz ▸ refRound_any r (keyOf' key (i + 1)) (i + 1) h2 hkl (by omega) w)
      have HST := Lib.hid hst
      have HKK := Lib.hid hkk
      have hi4 : (i : Int) < 4 := by omega
      clear hl hr hst hkl hkk h1 h2 h4 hi
      by_cases hp : (i + 1) % 2 = 0
      · have p0 : (((i : Int) + 1) % 2 == 0) = true := by rw [beq_iff_eq]; omega
        go_wp2_with fail
        go_fit (R1.out _ (by rw [HKK.out, if_pos hp]) _)
        rintro e w1 ⟨rfl, rfl⟩
        go_wp2_with fail
        go_round
        case rel => exact ⟨i + 1, by omega, by go_num, by rw [HST.out], by rw [HST.out]⟩
        case measure => simp [RowKit.intOf]; omega
      · have p0 : (((i : Int) + 1) % 2 == 0) = false := by rw [beq_eq_false_iff_ne]; omega
        go_wp2_with fail
        go_fit (R1.out _ (by rw [HKK.out, if_neg hp]) _)
        rintro e w1 ⟨rfl, rfl⟩
        go_wp2_with fail
        go_round
        case rel => exact ⟨i + 1, by omega, by go_num, by rw [HST.out], by rw [HST.out]⟩
        case measure => simp [RowKit.intOf]; omega
end Go.Proofs.YtoehpoodfbgdiaaDoor
