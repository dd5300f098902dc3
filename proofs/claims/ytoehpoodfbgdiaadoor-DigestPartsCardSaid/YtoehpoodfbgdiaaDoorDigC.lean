/- Contracts of the document's group and Sum (digest), and the plain functions that they compute. -/
import Derived.Test.YtoehpoodfbgdiaaDoorDigA
import Derived.Test.YtoehpoodfbgdiaaDoorBaseB
namespace Go.Proofs.YtoehpoodfbgdiaaDoor
open Go.RowKit Go.Lib

/-- The first n bytes, the least significant one first; bytes behind the end are 0. -/
def leN : Nat → List UInt8 → Nat
  | 0, _ => 0
  | _ + 1, [] => 0
  | n + 1, b :: r => b.toNat + 256 * leN n r
theorem leN_nil : ∀ n, leN n [] = 0
  | 0 => rfl
  | _ + 1 => rfl
theorem leN_in {l : List UInt8} {j : Nat} (n : Nat) (h : j < l.length) : leN (n + 1) (l.drop j) = l[j].toNat + 256 * leN n (l.drop (j + 1)) := by
  rw [List.drop_eq_getElem_cons h, leN]
theorem leN_out {l : List UInt8} {j : Nat} (n : Nat) (h : l.length ≤ j) : leN n (l.drop j) = 0 := by
  rw [List.drop_eq_nil_of_le h, leN_nil]
theorem leN_lt : ∀ (n : Nat) (l : List UInt8), leN n l < 256 ^ n
  | 0, _ => by simp [leN]
  | n + 1, [] => by simp [leN]; exact Nat.pow_pos (by decide)
  | n + 1, b :: r => by
    have h := leN_lt n r
    have hb := b.toNat_lt
    rw [leN, Nat.pow_succ]
    omega
theorem leN_lt7 {n : Nat} (hn : n ≤ 7) (l : List UInt8) : leN n l < 72057594037927936 :=
  Nat.lt_of_lt_of_le (leN_lt n l) (by rw [show (72057594037927936 : Nat) = 256 ^ 7 by decide]; exact Nat.pow_le_pow_right (by decide) hn)
theorem leN_lt8 (l : List UInt8) : leN 8 l < 18446744073709551616 := by have := leN_lt 8 l; rwa [show (256 : Nat) ^ 8 = 18446744073709551616 by decide] at this

set_option maxHeartbeats 1000000 in
set_option maxRecDepth 100000 in
theorem refGroup_any (v : Option Addr) (cap : Nat) (l : List UInt8) (at' : Nat) (hl : l.length ≤ 140737488355328) (ha : at' ≤ 140737488355328) (w : World) (hr : ReadsBytes w v l) :
    Calls Tryd.prog 29 #[.slice v l.length cap, .int .i64 at'] w fun e w' => e = .returned (.int .u64 (leN 8 (l.drop at') : Nat)) ∧ w = w' := by
  have HR := Lib.hid hr
  clear hr
  go_enter Tryd.func29, Tryd.ntmps29
  go_wp2_with fail
  go_loop [5, 6] (fun s5 s6 => ∃ k : Nat, k ≤ 8 ∧ s6 = .int .i64 (7 - (k : Int)) ∧ s5 = .int .u64 (leN k (l.drop (at' + (8 - k))) : Nat)) (fun _ s6 => (1 + RowKit.intOf s6).toNat)
  case atStart => exact ⟨0, by omega, rfl, rfl⟩
  case round =>
    obtain ⟨k, hk, rfl, rfl⟩ := hrel
    by_cases h8 : k = 8
    · subst h8
      go_wp2_with fail
      go_ret
      exact ⟨rfl, rfl⟩
    · have hg := leN_lt7 (show k ≤ 7 by omega) (l.drop (at' + (8 - k)))
      have hk7 : (k : Int) ≤ 7 := by omega
      by_cases hin : at' + (7 - k) < l.length
      · have hs := leN_in k hin
        rw [show at' + (7 - k) + 1 = at' + (8 - k) by omega] at hs
        obtain ⟨b, off, rfl, hlt, hc⟩ := HR.out (at' + (7 - k)) hin
        have hbb := l[at' + (7 - k)].toNat_lt
        obtain ⟨c, hcc⟩ : ∃ c, c = l[at' + (7 - k)].toNat := ⟨_, rfl⟩
        rw [← hcc] at hc hs hbb
        obtain ⟨g, hgg⟩ : ∃ g, g = leN k (l.drop (at' + (8 - k))) := ⟨_, rfl⟩
        rw [← hgg] at hs hg ⊢
        have HS := Lib.hid hs
        have hix : ((at' : Int) + (7 - (k : Int))).toNat = at' + (7 - k) := by omega
        have hix2 : (at' : Int) + (7 - (k : Int)) < (l.length : Int) := by omega
        have hg0 : (0 : Int) ≤ g ∧ (g : Int) ≤ 72057594037927935 := by omega
        have hc0 : (0 : Int) ≤ c ∧ (c : Int) ≤ 255 := by omega
        clear hs hcc hgg h8 hk hg hbb
        go_wp2_with fail
        go_round
        case rel =>
          refine ⟨k + 1, by omega, by go_num, ?_⟩
          rw [show at' + (8 - (k + 1)) = at' + (7 - k) by omega, HS.out]
          go_num
        case measure => simp [RowKit.intOf]; omega
      · have hs0 := leN_out k (show l.length ≤ at' + (8 - k) by omega)
        have hs1 := leN_out (k + 1) (show l.length ≤ at' + (7 - k) by omega)
        rw [hs0]
        have HS := Lib.hid hs1
        have hix2 : ¬ (at' : Int) + (7 - (k : Int)) < (l.length : Int) := by omega
        clear hs0 hs1 h8 hk hg
        go_wp2_with fail
        go_round
        case rel =>
          refine ⟨k + 1, by omega, by go_num, ?_⟩
          rw [show at' + (8 - (k + 1)) = at' + (7 - k) by omega, HS.out]
          rfl
        case measure => simp [RowKit.intOf]; omega

/-- The digest after k groups. -/
def sumK (l : List UInt8) : Nat → Nat
  | 0 => mixN l.length 0
  | k + 1 => mixN (leN 8 (l.drop (8 * k))) (sumK l k) ^^^ leN 8 (l.drop (8 * k))
def sumN (l : List UInt8) : Nat := sumK l ((l.length + 7) / 8)
theorem xor_lt64 {a b : Nat} (ha : a < 18446744073709551616) (hb : b < 18446744073709551616) : a ^^^ b < 18446744073709551616 := Nat.xor_lt_two_pow (n := 64) ha hb
theorem sumK_lt (l : List UInt8) : ∀ k, sumK l k < 18446744073709551616
  | 0 => mixN_lt (by decide)
  | k + 1 => xor_lt64 (mixN_lt (sumK_lt l k)) (leN_lt8 _)

set_option maxHeartbeats 1000000 in
set_option maxRecDepth 100000 in
theorem refSum_any (v : Option Addr) (cap : Nat) (l : List UInt8) (hl : l.length ≤ 140737488355000) (w : World) (hr : ReadsBytes w v l) :
    Calls Tryd.prog 14 #[.slice v l.length cap] w fun e w' => e = .returned (.int .u64 (sumN l : Nat)) ∧ w = w' := by
  have M0 := Lib.hid (fun w => refMix_any l.length 0 (by omega) (by decide) w)
  have G := Lib.hid (fun (a : Nat) (ha : a ≤ 140737488355328) w (hr : ReadsBytes w v l) => refGroup_any v cap l a (by omega) ha w hr)
  have HR := Lib.hid hr
  clear hr
  go_enter Tryd.func14, Tryd.ntmps14
  go_wp2_with fail
  go_fit (M0.out _)
  rintro e w1 ⟨rfl, rfl⟩
  go_wp2_with fail
  go_loop [3, 4] (fun s3 s4 => ∃ k a : Nat, a = 8 * k ∧ a ≤ l.length + 7 ∧ s4 = .int .i64 a ∧ s3 = .int .u64 (sumK l k : Nat)) (fun _ s4 => l.length + 8 - (RowKit.intOf s4).toNat)
  case atStart => exact ⟨0, 0, rfl, by omega, rfl, rfl⟩
  case round =>
    obtain ⟨k, a, hka, hk, rfl, rfl⟩ := hrel
    have HA := Lib.hid hka
    by_cases hlt : a < l.length
    · have hx := sumK_lt l k
      have hs : sumK l (k + 1) = mixN (leN 8 (l.drop a)) (sumK l k) ^^^ leN 8 (l.drop a) := by rw [hka]; rfl
      clear hka
      have hg := leN_lt8 (l.drop a)
      have hxx := bits_xor_u64_nat (mixN (leN 8 (l.drop a)) (sumK l k)) (leN 8 (l.drop a)) (mixN_lt hx) hg
      have M1 := Lib.hid (fun w => refMix_any (leN 8 (l.drop a)) (sumK l k) hg hx w)
      have G1 := Lib.hid (G.out a (by omega) _ HR.out)
      obtain ⟨g, hgg⟩ : ∃ g, g = leN 8 (l.drop a) := ⟨_, rfl⟩
      rw [← hgg] at hxx hs M1 G1
      obtain ⟨x, hxe⟩ : ∃ x, x = sumK l k := ⟨_, rfl⟩
      rw [← hxe] at hxx hs M1 ⊢
      obtain ⟨m, hm⟩ : ∃ m, m = mixN g x := ⟨_, rfl⟩
      rw [← hm] at hxx hs M1
      have HS := Lib.hid hs
      clear hs hm hxe hgg hx hg
      go_wp2_with fail
      go_fit (G1.out)
      rintro e w1 ⟨rfl, rfl⟩
      go_wp2_with fail
      go_fit (M1.out _)
      rintro e w1 ⟨rfl, rfl⟩
      go_wp2_with fail
      go_round
      case rel => exact ⟨k + 1, a + 8, by have := HA.out; omega, by omega, by go_num, by rw [HS.out]⟩
      case measure => simp [RowKit.intOf]; omega
    · have he : sumN l = sumK l k := by unfold sumN; rw [show (l.length + 7) / 8 = k by omega]
      have HE := Lib.hid he
      clear he hka
      go_wp2_with fail
      go_ret
      exact ⟨by rw [HE.out]; rfl, rfl⟩
end Go.Proofs.YtoehpoodfbgdiaaDoor
