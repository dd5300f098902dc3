/- Contracts of the program's shifted and Check (digest): they compute what the document's do. -/
import Derived.Test.YtoehpoodfbgdiaaDoorDigG
import Derived.Laws.ShiftsVar
namespace Go.Proofs.YtoehpoodfbgdiaaDoor
open Go.RowKit Go.Lib

theorem wrap_u32_mod (n : Int) : IntKind.u32.wrap n = n % 4294967296 := by simp [IntKind.wrap, IntKind.bits, IntKind.signed]
theorem ofInt32 (a : Nat) (ha : a < 4294967296) : (BitVec.ofInt 32 (a : Int)).toNat = a := by
  rw [BitVec.ofInt_natCast, BitVec.toNat_ofNat]; exact Nat.mod_eq_of_lt (by omega)
theorem bits_xor_u32 (a b : Nat) (ha : a < 4294967296) (hb : b < 4294967296) : bits .xor .u32 (a : Int) (b : Int) = ((a ^^^ b : Nat) : Int) := by
  have hx : a ^^^ b < 2 ^ 32 := Nat.xor_lt_two_pow (by omega) (by omega)
  show IntKind.u32.wrap ((BitVec.ofInt 32 (a : Int) ^^^ BitVec.ofInt 32 (b : Int)).toNat : Int) = _
  rw [BitVec.toNat_xor, ofInt32 a ha, ofInt32 b hb, wrap_u32_mod]
  omega
theorem bits_and1_u32 (a : Nat) (ha : a < 4294967296) : bits .and .u32 (a : Int) 1 = ((a % 2 : Nat) : Int) := by
  show IntKind.u32.wrap ((BitVec.ofInt 32 (a : Int) &&& BitVec.ofInt 32 ((1 : Nat) : Int)).toNat : Int) = _
  rw [BitVec.toNat_and, ofInt32 a ha, ofInt32 1 (by omega), Nat.and_one_is_mod, wrap_u32_mod]
  omega

theorem bits_not_u32 (r : Nat) (hr : r < 4294967296) : bits .xor .u32 IntKind.u32.max (r : Int) = 4294967295 - (r : Int) := by
  show IntKind.u32.wrap ((BitVec.ofInt 32 IntKind.u32.max ^^^ BitVec.ofInt 32 (r : Int)).toNat : Int) = _
  rw [show BitVec.ofInt 32 IntKind.u32.max = BitVec.allOnes 32 by decide, BitVec.allOnes_xor, BitVec.toNat_not, ofInt32 r hr, wrap_u32_mod]
  omega

set_option maxHeartbeats 1000000 in
set_option maxRecDepth 100000 in
theorem shifted_any (r b : Nat) (hr : r < 4294967296) (hb : b < 2) (w : World) :
    Calls Tryd.prog 35 #[.int .u32 r, .int .u32 b] w fun e w' => e = .returned (.int .u32 (crcBit r b : Nat)) ∧ w = w' := by
  have h1 := bits_and1_u32 r hr
  obtain ⟨p, hp⟩ : ∃ p, p = r % 2 := ⟨_, rfl⟩
  rw [← hp] at h1
  have hd2 : ((r / 2 : Nat) : Int) = (r : Int) / 2 := by omega
  have r0 : (0 : Int) ≤ r ∧ (r : Int) ≤ 4294967295 := by omega
  by_cases hpb : p = b
  · have hbit : crcBit r b = r / 2 := by unfold crcBit; rw [if_neg (by omega)]
    rw [hbit]
    have h2 : bits .xor .u32 (p : Int) (b : Int) = 0 := by
      subst hpb
      rw [bits_xor_u32 p p (by omega) (by omega), Nat.xor_self]; rfl
    have h3 : bits .xor .u32 ((r : Int) / 2) 0 = (r : Int) / 2 := by
      have h := bits_xor_u32 (r / 2) 0 (by omega) (by omega)
      rw [Nat.xor_zero, hd2] at h
      exact h
    have HD := Lib.hid hd2
    clear hbit hd2 hp hpb hr hb
    go_enter Tryd.func35, Tryd.ntmps35
    go_wp2_with fail
    go_ret
    exact ⟨by rw [HD.out]; rfl, rfl⟩
  · have hbit : crcBit r b = (r / 2) ^^^ 3988292384 := by unfold crcBit; rw [if_pos (by omega)]
    have h2 : bits .xor .u32 (p : Int) (b : Int) = 1 := by
      have : (p = 0 ∧ b = 1) ∨ (p = 1 ∧ b = 0) := by omega
      rcases this with ⟨rfl, rfl⟩ | ⟨rfl, rfl⟩ <;> decide
    have h3 : bits .xor .u32 ((r : Int) / 2) 3988292384 = ((crcBit r b : Nat) : Int) := by
      have h := bits_xor_u32 (r / 2) 3988292384 (by omega) (by decide)
      rw [hd2, ← hbit] at h
      exact h
    obtain ⟨z, hz⟩ : ∃ z, z = crcBit r b := ⟨_, rfl⟩
    rw [← hz] at h3 ⊢
    clear hbit hd2 hp hpb hr hb hz
    go_enter Tryd.func35, Tryd.ntmps35
    go_wp2_with fail
    go_ret
    exact ⟨rfl, rfl⟩

theorem crcBit_modP (r c : Nat) : crcBit r (c % 2) = crcBit r c := by
  unfold crcBit
  rw [Nat.mod_mod]

set_option maxHeartbeats 4000000 in
set_option maxRecDepth 100000 in
theorem digCheck_any (v : Option Addr) (cap : Nat) (l : List UInt8) (hl : l.length ≤ 9223372036854775807) (w : World) (hr : ReadsBytes w v l) :
    Calls Tryd.prog 21 #[.slice v l.length cap] w fun e w' => e = .returned (.int .i64 (checkN l : Nat)) ∧ Below w.heap.size w w' := by
  have HR := Lib.hid hr
  clear hr
  go_enter Tryd.func21, Tryd.ntmps21
  go_wp2_with fail
  go_loop [3, 5, 6, 9, 10, 11, 12, 13, 14, 15, 16, 17, 18, 19, 20, 21, 22, 23, 24] (fun s3 _ _ s9 _ _ _ _ _ _ _ _ _ _ _ _ _ _ _ => ∃ i r : Nat, i ≤ l.length ∧ r ≤ 4294967295 ∧ r = crcL 4294967295 (l.take i) ∧ s9 = .int .i64 i ∧ s3 = .int .u32 r) (fun _ _ _ s9 _ _ _ _ _ _ _ _ _ _ _ _ _ _ _ => l.length - (RowKit.intOf s9).toNat)
  case atStart => exact ⟨0, 4294967295, by omega, by omega, rfl, rfl, rfl⟩
  case round =>
    obtain ⟨i, r, hi, hr, hre, rfl, rfl⟩ := hrel
    have HRE := Lib.hid hre
    clear hre
    by_cases hlt : i < l.length
    · obtain ⟨b, off, rfl, hb, hc⟩ := HR.out i hlt
      have hcb := l[i].toNat_lt
      have hsn := crcL_snoc 4294967295 (l.take i) l[i]
      rw [← List.take_succ_eq_append_getElem hlt, ← HRE.out] at hsn
      obtain ⟨c, hcc⟩ : ∃ c, c = l[i].toNat := ⟨_, rfl⟩
      rw [← hcc] at hc hcb hsn
      have HSN := Lib.hid hsn
      have HC := Lib.hid hcb
      clear hcc hsn
      go_wp2_with fail
      go_loop [3, 6, 13, 14, 15, 16, 17, 18, 19, 20, 21, 22, 23] (fun s3 _ s13 _ _ _ _ _ _ _ _ _ _ => ∃ k x : Nat, k ≤ 8 ∧ x ≤ 4294967295 ∧ crcB 8 r c = crcB (8 - k) x (c / 2 ^ k) ∧ s13 = .int .i64 k ∧ s3 = .int .u32 x) (fun _ _ s13 _ _ _ _ _ _ _ _ _ _ => 8 - (RowKit.intOf s13).toNat)
      case atStart => exact ⟨0, r, by omega, hr, by simp, rfl, rfl⟩
      case round =>
        obtain ⟨k, x, hk, hx, hxy, rfl, rfl⟩ := hrel
        have HXY := Lib.hid hxy
        clear hxy
        by_cases h8 : k = 8
        · subst h8
          have HE := Lib.hid (show x = crcL 4294967295 (l.take (i + 1)) by rw [HSN.out, HXY.out]; rfl)
          go_wp2_with fail
          go_round
          case rel => exact ⟨i + 1, x, by omega, hx, HE.out, by go_num, rfl⟩
          case measure => simp [RowKit.intOf]; omega
        · have hst : crcB (8 - k) x (c / 2 ^ k) = crcB (8 - (k + 1)) (crcBit x (c / 2 ^ k)) (c / 2 ^ k / 2) := by rw [show 8 - k = (8 - (k + 1)) + 1 by omega]; rfl
          have hk8 : (k : Int) < 8 := by omega
          obtain ⟨y, hy⟩ : ∃ y, y = c / 2 ^ k := ⟨_, rfl⟩
          have hye : (c : Int) / 2 ^ k = (y : Int) := by rw [hy]; simp
          have hyl : y < 256 := by rw [hy]; exact Nat.lt_of_le_of_lt (Nat.div_le_self _ _) hcb
          have hy1 : y / 2 = c / 2 ^ (k + 1) := by rw [hy, Nat.div_div_eq_div_mul, Nat.pow_succ]
          rw [← hy] at hst
          rw [hy1] at hst
          have HST := Lib.hid (show crcB 8 r c = crcB (8 - (k + 1)) (crcBit x y) (c / 2 ^ (k + 1)) by rw [HXY.out, ← hst, hy])
          have ha := bits_and1_u32 y (by omega)
          have hcl := crcBit_lt y (show x < 4294967296 by omega)
          have S := Lib.hid (fun w => shifted_any x (y % 2) (by omega) (by omega) w)
          rw [crcBit_modP] at S
          obtain ⟨z, hz⟩ : ∃ z, z = crcBit x y := ⟨_, rfl⟩
          rw [← hz] at S hcl HST
          clear hst hy hy1 h8 hz
          go_wp2_with fail
          go_fit (S.out _)
          rintro e w1 ⟨rfl, rfl⟩
          go_wp2_with fail
          go_round
          case rel => exact ⟨k + 1, z, by omega, by omega, HST.out, by go_num, rfl⟩
          case measure => simp [RowKit.intOf]; omega
    · obtain rfl : i = l.length := by omega
      have hq : ((checkN l : Nat) : Int) = 4294967295 - (r : Int) := by unfold checkN; rw [HRE.out, List.take_length]; have := crcL_lt l (r := 4294967295) (by decide); omega
      have hnot := bits_not_u32 r (by omega)
      rw [← hq] at hnot
      obtain ⟨q, hqq⟩ : ∃ q, q = checkN l := ⟨_, rfl⟩
      rw [← hqq] at hnot hq
      have HQQ := Lib.hid hqq
      have q0 : (0 : Int) ≤ q ∧ (q : Int) ≤ 4294967295 := by omega
      have qw : wrap64 (q : Int) = (q : Int) := by unfold wrap64; omega
      clear hq hqq
      go_wp2_with fail
      go_ret
      exact ⟨by rw [← HQQ.out]; rfl, Below.refl _ _⟩
end Go.Proofs.YtoehpoodfbgdiaaDoor
