/- Contracts of the program's round and Mix (digest): they compute what the document's do. -/
import Derived.Test.YtoehpoodfbgdiaaDoorDigPa
import Derived.Test.YtoehpoodfbgdiaaDoorDigA
import Derived.Deep.RegionWith
namespace Go.Proofs.YtoehpoodfbgdiaaDoor
open Go.RowKit Go.Lib

theorem or_shift (a b : Nat) (ha : a < 4294967296) (hb : b < 4294967296) : bits .or .u64 ((a : Int) * 4294967296) (b : Int) = ((a * 4294967296 + b : Nat) : Int) := by
  have hx : a * 4294967296 ||| b < 2 ^ 64 := Nat.or_lt_two_pow (by omega) (by omega)
  have h1 : (BitVec.ofInt 64 ((a : Int) * 4294967296)).toNat = a * 4294967296 := by
    rw [show (a : Int) * 4294967296 = ((a * 4294967296 : Nat) : Int) by omega, BitVec.ofInt_natCast, BitVec.toNat_ofNat]; exact Nat.mod_eq_of_lt (by omega)
  have h2 : (BitVec.ofInt 64 (b : Int)).toNat = b := by
    rw [BitVec.ofInt_natCast, BitVec.toNat_ofNat]; exact Nat.mod_eq_of_lt (by omega)
  show IntKind.u64.wrap ((BitVec.ofInt 64 ((a : Int) * 4294967296) ||| BitVec.ofInt 64 (b : Int)).toNat : Int) = _
  rw [BitVec.toNat_or, h1, h2, IntKind.wrap_u64]
  have := Nat.two_pow_add_eq_or_of_lt (i := 32) hb a
  rw [show (2 : Nat) ^ 32 = 4294967296 by decide, Nat.mul_comm] at this
  rw [← this]
  omega

set_option maxHeartbeats 1000000 in
set_option maxRecDepth 100000 in
theorem round_any (r k i : Nat) (hr : r < 4294967296) (hk : k < 4294967296) (hi : i ≤ 4) (w : World) :
    Calls Tryd.prog 25 #[.int .u32 r, .int .u32 k, .int .u32 i] w fun e w' => e = .returned (.int .u32 (rnd r k i : Nat)) ∧ w = w' := by
  have hx := bits_xor_u32 r k hr hk
  have hv := xor_lt32 hr hk
  obtain ⟨v, hvv⟩ : ∃ v, v = r ^^^ k := ⟨_, rfl⟩
  have ht : rndT r k i = (v * 2654435761 + i) % 4294967296 := by rw [hvv]; rfl
  rw [← hvv] at hx hv
  have hy := bits_xor_u32 (rndT r k i) (rndT r k i / 65536) (rndT_lt r k i) (Nat.lt_of_le_of_lt (Nat.div_le_self _ _) (rndT_lt r k i))
  have he : rnd r k i = rndT r k i ^^^ rndT r k i / 65536 := rfl
  rw [← he] at hy
  obtain ⟨y, hyy⟩ : ∃ y, y = rnd r k i := ⟨_, rfl⟩
  rw [← hyy] at hy ⊢
  have htl := rndT_lt r k i
  obtain ⟨t, htt⟩ : ∃ t, t = rndT r k i := ⟨_, rfl⟩
  rw [← htt] at hy ht htl
  have v0 : (0 : Int) ≤ v ∧ (v : Int) ≤ 4294967295 := by omega
  have i0 : (0 : Int) ≤ i ∧ (i : Int) ≤ 4 := by omega
  have t0 : (0 : Int) ≤ t ∧ (t : Int) ≤ 4294967295 := by omega
  have tt : ((v : Int) * 2654435761 + (i : Int)) % 4294967296 = (t : Int) := by rw [ht]; omega
  have d0 : ((t / 65536 : Nat) : Int) = (t : Int) / 65536 := by omega
  rw [d0] at hy
  clear hvv ht he hyy htt hv hr hk hi d0 htl
  go_enter Tryd.func25, Tryd.ntmps25
  go_wp2_with fail
  go_ret
  exact ⟨rfl, rfl⟩
theorem upper_any (n : Nat) (hn : n < 18446744073709551616) (w : World) :
    Calls Tryd.prog 24 #[.int .u64 n] w fun e w' => e = .returned (.int .u32 (n / 4294967296 : Nat)) ∧ w = w' := by
  have n0 : (0 : Int) ≤ n ∧ (n : Int) ≤ 18446744073709551615 := by omega
  clear hn
  go_enter Tryd.func24, Tryd.ntmps24
  go_wp2_with fail
  go_ret
  exact ⟨rfl, rfl⟩
theorem lower_any (n : Nat) (hn : n < 18446744073709551616) (w : World) :
    Calls Tryd.prog 23 #[.int .u64 n] w fun e w' => e = .returned (.int .u32 (n % 4294967296 : Nat)) ∧ w = w' := by
  have n0 : (0 : Int) ≤ n ∧ (n : Int) ≤ 18446744073709551615 := by omega
  clear hn
  go_enter Tryd.func23, Tryd.ntmps23
  go_wp2_with fail
  go_ret
  exact ⟨rfl, rfl⟩

theorem mixP_next (key x i l r k y z : Nat) (hl : l = (mixP key x i).1) (hr : r = (mixP key x i).2) (hk : k = keyOf' key (i + 1)) (hy : y = rnd r k (i + 1)) (hz : z = l ^^^ y) : mixP key x (i + 1) = (r, z) := by
  subst hz hy hk hl hr; rfl

set_option maxHeartbeats 4000000 in
set_option maxRecDepth 100000 in
theorem digMix_any (key x : Nat) (hk : key < 18446744073709551616) (hx : x < 18446744073709551616) (w : World) :
    Calls Tryd.prog 10 #[.int .u64 key, .int .u64 x] w fun e w' => e = .returned (.int .u64 (mixN key x : Nat)) ∧ Below w.heap.size w w' := by
  have HX := Lib.hid hx
  have KL := Lib.hid (fun w => lower_any key hk w)
  have KU := Lib.hid (fun w => upper_any key hk w)
  have XL := Lib.hid (fun w => lower_any x hx w)
  have XU := Lib.hid (fun w => upper_any x hx w)
  obtain ⟨kl, hkl⟩ : ∃ kl, kl = key % 4294967296 := ⟨_, rfl⟩
  obtain ⟨ku, hku⟩ : ∃ ku, ku = key / 4294967296 := ⟨_, rfl⟩
  rw [← hkl] at KL
  rw [← hku] at KU
  have HKL := Lib.hid hkl
  have HKU := Lib.hid hku
  have KLl := Lib.hid (show kl < 4294967296 by omega)
  have KUl := Lib.hid (show ku < 4294967296 by omega)
  have HB := Lib.hid ((Below.refl w.heap.size w).alloc (Nat.le_refl _) (.cells #[.int .u32 kl, .int .u32 ku] 47))
  clear hk hx hkl hku
  go_enter Tryd.func10, Tryd.ntmps10
  go_wp2_with fail
  go_fit (KL.out _)
  rintro e w1 ⟨rfl, rfl⟩
  go_wp2_with fail
  go_fit (KU.out _)
  rintro e w1 ⟨rfl, rfl⟩
  go_wp2_with fail
  go_fit (XU.out _)
  rintro e w1 ⟨rfl, rfl⟩
  go_wp2_with fail
  go_fit (XL.out _)
  rintro e w1 ⟨rfl, rfl⟩
  go_wp2_with fail
  go_loop [6, 7, 8, 18, 19, 20, 21, 22, 23, 24, 25, 26, 27, 28, 29, 30, 31, 32] (fun s6 s7 _ s18 _ _ _ _ _ _ _ _ _ _ _ _ _ _ => ∃ i l r : Nat, i ≤ 4 ∧ l = (mixP key x i).1 ∧ r = (mixP key x i).2 ∧ s18 = .int .u32 (i : Int) ∧ s6 = .int .u32 l ∧ s7 = .int .u32 r) (fun _ _ _ s18 _ _ _ _ _ _ _ _ _ _ _ _ _ _ => 5 - (RowKit.intOf s18).toNat)
  case atStart => exact ⟨0, _, _, by omega, rfl, rfl, rfl, rfl, rfl⟩
  case round =>
    obtain ⟨i, l, r, hi, hl, hr, rfl, rfl, rfl⟩ := hrel
    obtain ⟨h1, h2⟩ := mixP_lt (key := key) HX.out i
    rw [← hl] at h1
    rw [← hr] at h2
    rcases (show i = 4 ∨ i = 0 ∨ i = 1 ∨ i = 2 ∨ i = 3 by omega) with rfl | rfl | rfl | rfl | rfl
    · have HM := Lib.hid (show mixN key x = l * 4294967296 + r by rw [hl, hr]; rfl)
      have ho := or_shift l r h1 h2
      obtain ⟨m, hm⟩ : ∃ m, m = l * 4294967296 + r := ⟨_, rfl⟩
      rw [← hm] at ho HM
      have l0 : (0 : Int) ≤ l ∧ (l : Int) ≤ 4294967295 := by omega
      have r0 : (0 : Int) ≤ r ∧ (r : Int) ≤ 4294967295 := by omega
      clear h1 h2 hm hl hr
      go_wp2_with fail
      go_ret
      exact ⟨by rw [HM.out]; rfl, HB.out⟩
    · have R := Lib.hid (fun w => round_any r kl (0 + 1) h2 KLl.out (by omega) w)
      have hyl := rnd_lt r kl (0 + 1)
      obtain ⟨y, hy⟩ : ∃ y, y = rnd r kl (0 + 1) := ⟨_, rfl⟩
      rw [← hy] at R hyl
      have hxx := bits_xor_u32 l y h1 hyl
      obtain ⟨z, hz⟩ : ∃ z, z = l ^^^ y := ⟨_, rfl⟩
      rw [← hz] at hxx
      have HN := Lib.hid (mixP_next key x 0 l r kl y z hl hr (by rw [HKL.out]; rfl) hy hz)
      clear hl hr h1 h2 hyl hy hz
      go_wp2_with fail
      go_fit (R.out _)
      rintro e w1 ⟨rfl, rfl⟩
      go_wp2_with fail
      go_round
      case rel => exact ⟨0 + 1, r, z, by omega, by rw [HN.out], by rw [HN.out], rfl, rfl, rfl⟩
      case measure => simp [RowKit.intOf]
    · have R := Lib.hid (fun w => round_any r ku (1 + 1) h2 KUl.out (by omega) w)
      have hyl := rnd_lt r ku (1 + 1)
      obtain ⟨y, hy⟩ : ∃ y, y = rnd r ku (1 + 1) := ⟨_, rfl⟩
      rw [← hy] at R hyl
      have hxx := bits_xor_u32 l y h1 hyl
      obtain ⟨z, hz⟩ : ∃ z, z = l ^^^ y := ⟨_, rfl⟩
      rw [← hz] at hxx
      have HN := Lib.hid (mixP_next key x 1 l r ku y z hl hr (by rw [HKU.out]; rfl) hy hz)
      clear hl hr h1 h2 hyl hy hz
      go_wp2_with fail
      go_fit (R.out _)
      rintro e w1 ⟨rfl, rfl⟩
      go_wp2_with fail
      go_round
      case rel => exact ⟨1 + 1, r, z, by omega, by rw [HN.out], by rw [HN.out], rfl, rfl, rfl⟩
      case measure => simp [RowKit.intOf]
    · have R := Lib.hid (fun w => round_any r kl (2 + 1) h2 KLl.out (by omega) w)
      have hyl := rnd_lt r kl (2 + 1)
      obtain ⟨y, hy⟩ : ∃ y, y = rnd r kl (2 + 1) := ⟨_, rfl⟩
      rw [← hy] at R hyl
      have hxx := bits_xor_u32 l y h1 hyl
      obtain ⟨z, hz⟩ : ∃ z, z = l ^^^ y := ⟨_, rfl⟩
      rw [← hz] at hxx
      have HN := Lib.hid (mixP_next key x 2 l r kl y z hl hr (by rw [HKL.out]; rfl) hy hz)
      clear hl hr h1 h2 hyl hy hz
      go_wp2_with fail
      go_fit (R.out _)
      rintro e w1 ⟨rfl, rfl⟩
      go_wp2_with fail
      go_round
      case rel => exact ⟨2 + 1, r, z, by omega, by rw [HN.out], by rw [HN.out], rfl, rfl, rfl⟩
      case measure => simp [RowKit.intOf]
    · have R := Lib.hid (fun w => round_any r ku (3 + 1) h2 KUl.out (by omega) w)
      have hyl := rnd_lt r ku (3 + 1)
      obtain ⟨y, hy⟩ : ∃ y, y = rnd r ku (3 + 1) := ⟨_, rfl⟩
      rw [← hy] at R hyl
      have hxx := bits_xor_u32 l y h1 hyl
      obtain ⟨z, hz⟩ : ∃ z, z = l ^^^ y := ⟨_, rfl⟩
      rw [← hz] at hxx
      have HN := Lib.hid (mixP_next key x 3 l r ku y z hl hr (by rw [HKU.out]; rfl) hy hz)
      clear hl hr h1 h2 hyl hy hz
      go_wp2_with fail
      go_fit (R.out _)
      rintro e w1 ⟨rfl, rfl⟩
      go_wp2_with fail
      go_round
      case rel => exact ⟨3 + 1, r, z, by omega, by rw [HN.out], by rw [HN.out], rfl, rfl, rfl⟩
      case measure => simp [RowKit.intOf]
end Go.Proofs.YtoehpoodfbgdiaaDoor
