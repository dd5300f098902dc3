/- Contracts of octets.TakeUint and of the document's: the number that bytes begin with, its length, or the first error. -/
import Derived.Test.YtfnjemocekgncaaRows
import Derived.WalkKit
import Derived.WalkSpells
import Derived.WalkLawsBesides
import Derived.Lib.Hide
import Derived.Deep.DeepFit
import Derived.Outline
namespace Go.Proofs.Ytfnjemocekgncaa
open Go.RowKit Go.Lib

/-- The number, its length and the error's number: from byte i on, with acc of the groups before. -/
def takeFrom (i acc : Nat) : List UInt8 → Nat × Nat × Nat
  | [] => (0, 0, 4)
  | b :: r => if i = 9 ∧ 1 < b.toNat then (0, 0, 2) else if 0 < i ∧ b.toNat = 0 then (0, 0, 5)
      else if b.toNat < 128 then (acc + b.toNat % 128 * 128 ^ i, i + 1, 0) else takeFrom (i + 1) (acc + b.toNat % 128 * 128 ^ i) r
def take (l : List UInt8) : Nat × Nat × Nat := takeFrom 0 0 l

/-- A slice of bytes reads as a list: nil, or cells in a block that is there. -/
def ReadsBytes (w : World) (v : Option Addr) (l : List UInt8) : Prop :=
  ∀ k (h : k < l.length), ∃ b off, v = some ⟨b, off, none⟩ ∧ b < w.heap.size ∧ w.cell? ⟨b, off + k, none⟩ = some (.int .u8 l[k].toNat)

theorem ret3_uii {a b c a' b' c' : Int} (h1 : a = a') (h2 : b = b') (h3 : c = c') : Ending.returned (.tuple #[.int .u64 a, .int .i64 b, .int .i64 c]) = .returned (.tuple #[.int .u64 a', .int .i64 b', .int .i64 c']) := by rw [h1, h2, h3]

theorem andNot128 : ∀ c : Fin 256, bits .andNot .u8 (c.val : Int) 128 = ((c.val % 128 : Nat) : Int) := by decide +kernel
theorem andNot128' (c : Nat) (h : c < 256) : bits .andNot .u8 (c : Int) 128 = ((c % 128 : Nat) : Int) := andNot128 ⟨c, h⟩
theorem pow7 (i : Nat) : (2 : Nat) ^ (7 * i) = 128 ^ i := by rw [Nat.pow_mul]
theorem or_group (acc v i : Nat) (hi : i ≤ 9) (hv : v < 128) (h9 : i = 9 → v ≤ 1) (ha : acc < 128 ^ i) :
    bits .or .u64 (acc : Int) (IntKind.u64.wrap ((v : Int) * 2 ^ (7 * i))) = ((acc + v * 128 ^ i : Nat) : Int) ∧ acc + v * 128 ^ i < 18446744073709551616 ∧ (i < 9 → acc + v * 128 ^ i < 128 ^ (i + 1)) := by
  have hp : (128 : Nat) ^ i ≤ 128 ^ 9 := Nat.pow_le_pow_right (by omega) hi
  have e9 : (128 : Nat) ^ 9 = 9223372036854775808 := by decide
  have hpos : 0 < (128 : Nat) ^ i := Nat.pow_pos (by omega)
  have hb : acc + v * 128 ^ i < 18446744073709551616 := by
    by_cases h : i = 9
    · subst h
      have := h9 rfl
      rw [e9] at *
      omega
    · have h8 : (128 : Nat) ^ i ≤ 128 ^ 8 := Nat.pow_le_pow_right (by omega) (by omega)
      have e8 : (128 : Nat) ^ 8 = 72057594037927936 := by decide
      have := Nat.mul_le_mul (show v ≤ 127 by omega) h8
      omega
  have hs : (v : Int) * 2 ^ (7 * i) = ((v * 128 ^ i : Nat) : Int) := by
    rw [Int.natCast_mul, ← pow7, Int.natCast_pow]; rfl
  refine ⟨?_, hb, fun _ => ?_⟩
  · rw [hs, show IntKind.u64.wrap ((v * 128 ^ i : Nat) : Int) = ((v * 128 ^ i : Nat) : Int) by rw [IntKind.wrap_u64]; omega]
    rw [bits_or_u64_nat _ _ (by omega) (by omega), Nat.or_comm, Nat.mul_comm v, ← pow7, ← Nat.two_pow_add_eq_or_of_lt (by rw [pow7]; exact ha), Nat.add_comm]
  · rw [Nat.pow_succ]
    have := Nat.mul_le_mul_right (128 ^ i) (show v ≤ 127 by omega)
    omega

set_option maxHeartbeats 4000000 in
set_option maxRecDepth 100000 in
theorem TakeUint_any (v : Option Addr) (cap : Nat) (l : List UInt8) (hlen : l.length ≤ 9223372036854775807) (w : World) (hr : ReadsBytes w v l) :
    Calls Try.prog 15 #[.slice v l.length cap] w fun e w' => e = .returned (.tuple #[.int .u64 (take l).1, .int .i64 (take l).2.1, .int .i64 (take l).2.2]) ∧ w = w' := by
  have HR := Lib.hid hr
  clear hr
  go_enter Try.func15, Try.ntmps15
  go_wp2_with fail
  go_loop [5, 6, 7, 10] (fun s5 _ _ s10 => ∃ i acc : Nat, i ≤ 9 ∧ i ≤ l.length ∧ acc < 128 ^ i ∧ take l = takeFrom i acc (l.drop i) ∧ s5 = .int .u64 acc ∧ s10 = .int .i64 i) (fun _ _ _ s10 => l.length - (RowKit.intOf s10).toNat)
  case atStart => exact ⟨0, 0, by omega, by omega, by decide, rfl, rfl, rfl⟩
  case round =>
    obtain ⟨i, acc, hi9, hil, hacc, hdec, rfl, rfl⟩ := hrel
    have HDEC := Lib.hid hdec
    have HACC := Lib.hid hacc
    clear hdec hacc
    by_cases hlt : i < l.length
    · obtain ⟨b, off, rfl, hb, hc⟩ := HR.out i hlt
      have hdrop : l.drop i = l[i] :: l.drop (i + 1) := List.drop_eq_getElem_cons hlt
      obtain ⟨c, hcn⟩ : ∃ c : Nat, c = l[i].toNat := ⟨_, rfl⟩
      have hc256 : c < 256 := by rw [hcn]; exact l[i].toNat_lt
      rw [← hcn] at hc
      have hd := HDEC.out
      rw [hdrop] at hd
      unfold takeFrom at hd
      rw [← hcn] at hd
      have HD := Lib.hid hd
      have HC := Lib.hid hc256
      clear hcn hd hdrop hb HDEC
      have i1 : (0 : Int) ≤ i ∧ (i : Int) ≤ 9 := by omega
      have i2 : (0 : Int) ≤ c ∧ (c : Int) < 256 := by omega
      by_cases h9 : i = 9 ∧ 1 < c
      · have E := Lib.hid (show take l = (0, 0, 2) by rw [HD.out, if_pos h9])
        have u1 : ((i : Int) == 9) = true := by rw [beq_iff_eq]; omega
        have u2 : decide ((1 : Int) < (c : Int)) = true := by simp; omega
        clear h9
        go_wp2_with fail
        go_ret3
        exact ⟨ret3_uii (by rw [E.out]; rfl) (by rw [E.out]; rfl) (by rw [E.out]; rfl), rfl⟩
      · by_cases h0 : 0 < i ∧ c = 0
        · have E := Lib.hid (show take l = (0, 0, 5) by rw [HD.out, if_neg h9, if_pos h0])
          obtain ⟨h01, rfl⟩ := h0
          have u3 : decide ((0 : Int) < (i : Int)) = true := by simp; omega
          have u2 : decide ((1 : Int) < ((0 : Nat) : Int)) = false := by decide
          by_cases k9 : i = 9
          · have u1 : ((i : Int) == 9) = true := by rw [beq_iff_eq]; omega
            clear h9 k9
            go_wp2_with fail
            go_ret3
            exact ⟨ret3_uii (by rw [E.out]; rfl) (by rw [E.out]; rfl) (by rw [E.out]; rfl), rfl⟩
          · have u1 : ((i : Int) == 9) = false := by rw [beq_eq_false_iff_ne]; omega
            clear h9 k9
            go_wp2_with fail
            go_ret3
            exact ⟨ret3_uii (by rw [E.out]; rfl) (by rw [E.out]; rfl) (by rw [E.out]; rfl), rfl⟩
        · have hor := or_group acc (c % 128) i hi9 (by omega) (by intro h; subst h; have : ¬ 1 < c := fun k => h9 ⟨rfl, k⟩; omega) HACC.out
          obtain ⟨o1, o2, o3⟩ := hor
          have O1 := Lib.hid (show bits .or .u64 (acc : Int) (IntKind.u64.wrap (IntKind.u64.wrap (bits .andNot .u8 (c : Int) 128) * 2 ^ (7 * i))) = ((acc + c % 128 * 128 ^ i : Nat) : Int) by
            rw [andNot128' c HC.out, show IntKind.u64.wrap ((c % 128 : Nat) : Int) = ((c % 128 : Nat) : Int) by rw [IntKind.wrap_u64]; omega]; exact o1)
          have O3 := Lib.hid o3
          have eD := Lib.hid (show take l = if c < 128 then (acc + c % 128 * 128 ^ i, i + 1, 0) else takeFrom (i + 1) (acc + c % 128 * 128 ^ i) (l.drop (i + 1)) by rw [HD.out, if_neg h9, if_neg h0])
          have hlast : ¬ c < 128 → i < 9 := by
            intro k1
            by_cases k : i = 9
            · have : ¬ 1 < c := fun k2 => h9 ⟨k, k2⟩; omega
            · omega
          have HLAST := Lib.hid hlast
          have H9 := Lib.hid h9; have H0 := Lib.hid h0
          clear h9 h0 o1 o2 o3 hlast
          by_cases k1 : c < 128
          · have u5 : decide ((c : Int) < 128) = true := by simp; omega
            have eE := Lib.hid (show take l = (acc + c % 128 * 128 ^ i, i + 1, 0) by rw [eD.out, if_pos k1])
            clear k1
            by_cases k9 : i = 9
            · have u2 : decide ((1 : Int) < (c : Int)) = false := by simp; have : ¬ 1 < c := fun k2 => H9.out ⟨k9, k2⟩; omega
              have u3 : ((c : Int) == 0) = false := by rw [beq_eq_false_iff_ne]; intro k2; exact H0.out ⟨by omega, by omega⟩
              subst k9
              have O9 := Lib.hid (show bits .or .u64 (acc : Int) (IntKind.u64.wrap (IntKind.u64.wrap (bits .andNot .u8 (c : Int) 128) * 9223372036854775808)) = ((acc + c % 128 * 128 ^ 9 : Nat) : Int) from O1.out)
              clear i1
              go_wp2_with fail
              go_ret3
              exact ⟨ret3_uii (by rw [eE.out, O9.out]) (by rw [eE.out]; rfl) (by rw [eE.out]; rfl), rfl⟩
            · have u1 : ((i : Int) == 9) = false := by rw [beq_eq_false_iff_ne]; omega
              by_cases k0 : i = 0
              · subst k0
                have O0 := Lib.hid (show bits .or .u64 (acc : Int) (IntKind.u64.wrap (IntKind.u64.wrap (bits .andNot .u8 (c : Int) 128))) = ((acc + c % 128 * 128 ^ 0 : Nat) : Int) by
                  have := O1.out; rw [show (2 : Int) ^ (7 * 0) = 1 from rfl, Int.mul_one] at this; exact this)
                have hc0 : w.cell? ⟨b, off, none⟩ = some (.int .u8 c) := hc
                clear k9 i1 hc
                go_wp2_with fail
                go_ret3
                exact ⟨ret3_uii (by rw [eE.out, O0.out]) (by rw [eE.out]; rfl) (by rw [eE.out]; rfl), rfl⟩
              · have u4 : decide ((0 : Int) < (i : Int)) = true := by simp; omega
                have u3 : ((c : Int) == 0) = false := by rw [beq_eq_false_iff_ne]; intro k2; exact H0.out ⟨by omega, by omega⟩
                have k0p : 0 < i := by omega
                clear k0 k9
                go_wp2_with fail
                go_ret3
                exact ⟨ret3_uii (by rw [eE.out, O1.out]) (by rw [eE.out]; rfl) (by rw [eE.out]; rfl), rfl⟩
          · have u5 : decide ((c : Int) < 128) = false := by simp; omega
            have k9 := HLAST.out k1
            have u1 : ((i : Int) == 9) = false := by rw [beq_eq_false_iff_ne]; omega
            have u3 : ((c : Int) == 0) = false := by rw [beq_eq_false_iff_ne]; omega
            have eE := Lib.hid (show take l = takeFrom (i + 1) (acc + c % 128 * 128 ^ i) (l.drop (i + 1)) by rw [eD.out, if_neg k1])
            clear k1
            by_cases k0 : i = 0
            · subst k0
              have O0 := Lib.hid (show bits .or .u64 (acc : Int) (IntKind.u64.wrap (IntKind.u64.wrap (bits .andNot .u8 (c : Int) 128))) = ((acc + c % 128 * 128 ^ 0 : Nat) : Int) by
                have := O1.out; rw [show (2 : Int) ^ (7 * 0) = 1 from rfl, Int.mul_one] at this; exact this)
              have hc0 : w.cell? ⟨b, off, none⟩ = some (.int .u8 c) := hc
              clear i1 hc
              go_wp2_with fail
              exact ⟨⟨0 + 1, acc + c % 128 * 128 ^ 0, by omega, by omega, O3.out k9, eE.out, by rw [O0.out], rfl⟩, by simp [RowKit.intOf]; omega⟩
            · have u4 : decide ((0 : Int) < (i : Int)) = true := by simp; omega
              have k0p : 0 < i := by omega
              clear k0
              go_wp2_with fail
              exact ⟨⟨i + 1, acc + c % 128 * 128 ^ i, by omega, by omega, O3.out k9, eE.out, by rw [O1.out], by go_num⟩, by simp [RowKit.intOf]; omega⟩
    · obtain rfl : i = l.length := by omega
      have E := Lib.hid (show take l = (0, 0, 4) by rw [HDEC.out, List.drop_length]; rfl)
      go_wp2_with fail
      go_ret3
      exact ⟨ret3_uii (by rw [E.out]; rfl) (by rw [E.out]; rfl) (by rw [E.out]; rfl), rfl⟩
end Go.Proofs.Ytfnjemocekgncaa
