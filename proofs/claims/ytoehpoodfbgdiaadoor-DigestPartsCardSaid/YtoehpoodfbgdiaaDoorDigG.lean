/- The contract of the document's Check (digest), and the plain function that it computes. -/
import Derived.Test.YtoehpoodfbgdiaaDoorBaseB
import Derived.Laws.Bits64
namespace Go.Proofs.YtoehpoodfbgdiaaDoor
open Go.RowKit Go.Lib

/-- One bit of the checksum's register. -/
def crcBit (r c : Nat) : Nat := if r % 2 ≠ c % 2 then (r / 2) ^^^ 3988292384 else r / 2
/-- The k lowest bits of c. -/
def crcB : Nat → Nat → Nat → Nat
  | 0, r, _ => r
  | k + 1, r, c => crcB k (crcBit r c) (c / 2)
def crcL (r : Nat) (l : List UInt8) : Nat := l.foldl (fun r b => crcB 8 r b.toNat) r
def checkN (l : List UInt8) : Nat := 4294967295 - crcL 4294967295 l
theorem xor32 {a b : Nat} (ha : a < 4294967296) (hb : b < 4294967296) : a ^^^ b < 4294967296 := Nat.xor_lt_two_pow (n := 32) ha hb
theorem crcBit_lt {r : Nat} (c : Nat) (h : r < 4294967296) : crcBit r c < 4294967296 := by
  unfold crcBit
  split
  · exact xor32 (by omega) (by decide)
  · omega
theorem crcB_lt : ∀ (k : Nat) {r : Nat} (c : Nat), r < 4294967296 → crcB k r c < 4294967296
  | 0, _, _, h => h
  | k + 1, _, c, h => crcB_lt k (c / 2) (crcBit_lt c h)
theorem crcL_lt : ∀ (l : List UInt8) {r : Nat}, r < 4294967296 → crcL r l < 4294967296
  | [], _, h => h
  | b :: l, _, h => crcL_lt l (crcB_lt 8 b.toNat h)
theorem crcL_snoc (r : Nat) (l : List UInt8) (b : UInt8) : crcL r (l ++ [b]) = crcB 8 (crcL r l) b.toNat := by simp [crcL]

set_option maxHeartbeats 4000000 in
set_option maxRecDepth 100000 in
theorem refCheck_any (v : Option Addr) (cap : Nat) (l : List UInt8) (hl : l.length ≤ 9223372036854775807) (w : World) (hr : ReadsBytes w v l) :
    Calls Tryd.prog 22 #[.slice v l.length cap] w fun e w' => e = .returned (.int .i64 (checkN l : Nat)) ∧ w = w' := by
  have HR := Lib.hid hr
  clear hr
  go_enter Tryd.func22, Tryd.ntmps22
  go_wp2_with fail
  go_loop [3, 4, 5, 6, 7] (fun s3 s4 _ _ _ => ∃ i r : Nat, i ≤ l.length ∧ r ≤ 4294967295 ∧ r = crcL 4294967295 (l.take i) ∧ s4 = .int .i64 i ∧ s3 = .int .u64 r) (fun _ s4 _ _ _ => l.length - (RowKit.intOf s4).toNat)
  case atStart => exact ⟨0, 4294967295, by omega, by omega, rfl, rfl, rfl⟩
  case round =>
    obtain ⟨i, r, hi, hr, hre, rfl, rfl⟩ := hrel
    have HRE := Lib.hid hre
    clear hre
    by_cases hlt : i < l.length
    · obtain ⟨b, off, rfl, hb, hc⟩ := HR.out i hlt
      have hcb := l[i].toNat_lt
      have hsn := crcL_snoc 4294967295 (l.take i) l[i]
      rw [← List.take_succ_eq_append_getElem hlt, ← HRE.out] at hsn
      obtain ⟨c, hcc⟩ : ∃ c, c = l[i].toNat := ⟨_, rfl⟩
      rw [← hcc] at hc hcb hsn
      have HSN := Lib.hid hsn
      have hlt' := crcB_lt 8 c (show r < 4294967296 by omega)
      clear hcc hsn
      go_wp2_with fail
      go_loop [3, 5, 6, 7] (fun s3 s5 s6 _ => ∃ k x y : Nat, k ≤ 8 ∧ x ≤ 4294967295 ∧ y ≤ 255 ∧ crcB 8 r c = crcB (8 - k) x y ∧ s6 = .int .i64 k ∧ s3 = .int .u64 x ∧ s5 = .int .u64 y) (fun _ _ s6 _ => 8 - (RowKit.intOf s6).toNat)
      case atStart => exact ⟨0, r, c, by omega, hr, by omega, rfl, rfl, rfl, rfl⟩
      case round =>
        obtain ⟨k, x, y, hk, hx, hy, hxy, rfl, rfl, rfl⟩ := hrel
        have HXY := Lib.hid hxy
        clear hxy
        by_cases h8 : k = 8
        · subst h8
          have HE := Lib.hid (show x = crcL 4294967295 (l.take (i + 1)) by rw [HSN.out, HXY.out]; rfl)
          go_wp2_with fail
          go_round
          case rel => exact ⟨i + 1, x, by omega, hx, HE.out, by go_num, rfl⟩
          case measure => simp [RowKit.intOf]; omega
        · have hst : crcB (8 - k) x y = crcB (8 - (k + 1)) (crcBit x y) (y / 2) := by rw [show 8 - k = (8 - (k + 1)) + 1 by omega]; rfl
          have hk8 : (k : Int) < 8 := by omega
          have hxx := bits_xor_u64_nat (x / 2) 3988292384 (by omega) (by decide)
          have hd2 : ((x / 2 : Nat) : Int) = (x : Int) / 2 := by omega
          rw [hd2] at hxx
          have hcl := crcBit_lt y (show x < 4294967296 by omega)
          by_cases hpar : x % 2 = y % 2
          · have hbit : crcBit x y = x / 2 := by unfold crcBit; rw [if_neg (by omega)]
            rw [hbit] at hst
            have HST := Lib.hid hst
            have u1 : ((x : Int) % 2 != (y : Int) % 2) = false := by rw [bne_eq_false_iff_eq]; omega
            clear hst hbit hpar h8 hk hd2 hxx hcl
            go_wp2_with fail
            go_round
            case rel => exact ⟨k + 1, x / 2, y / 2, by omega, by omega, by omega, by rw [HXY.out, HST.out], by go_num, by go_num, by go_num⟩
            case measure => simp [RowKit.intOf]; omega
          · have hbit : crcBit x y = (x / 2) ^^^ 3988292384 := by unfold crcBit; rw [if_pos hpar]
            rw [hbit] at hst hcl
            obtain ⟨z, hz⟩ : ∃ z, z = (x / 2) ^^^ 3988292384 := ⟨_, rfl⟩
            rw [← hz] at hst hcl hxx
            have HST := Lib.hid hst
            have u1 : ((x : Int) % 2 != (y : Int) % 2) = true := by rw [bne_iff_ne]; omega
            clear hst hbit hpar h8 hk hd2 hz
            go_wp2_with fail
            go_round
            case rel => exact ⟨k + 1, z, y / 2, by omega, by omega, by omega, by rw [HXY.out, HST.out], by go_num, by go_num, by go_num⟩
            case measure => simp [RowKit.intOf]; omega
    · obtain rfl : i = l.length := by omega
      have HE := Lib.hid (show ((checkN l : Nat) : Int) = 4294967295 - (r : Int) by unfold checkN; rw [HRE.out, List.take_length]; have := crcL_lt l (r := 4294967295) (by decide); omega)
      go_wp2_with fail
      go_ret
      exact ⟨by rw [HE.out]; rfl, rfl⟩
end Go.Proofs.YtoehpoodfbgdiaaDoor
