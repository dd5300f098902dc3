/- Contract of the document's TakeUint. -/
import Derived.Test.YtfnjemocekgncaaOctB
namespace Go.Proofs.Ytfnjemocekgncaa
open Go.RowKit Go.Lib

theorem ref_value (acc c p i : Nat) (hp : p = 128 ^ i) (hi : i ≤ 9) (h9 : i = 9 → c ≤ 1) (ha : acc < p) :
    IntKind.u64.wrap ((acc : Int) + IntKind.u64.wrap ((p : Int) * ((c : Int) % 128))) = ((acc + c % 128 * 128 ^ i : Nat) : Int) := by
  obtain ⟨_, h2, _⟩ := or_group acc (c % 128) i hi (by omega) (by intro h; have := h9 h; omega) (by rw [← hp]; exact ha)
  rw [← hp] at h2 ⊢
  have e : (p : Int) * ((c : Int) % 128) = ((c % 128 * p : Nat) : Int) := by rw [Int.natCast_mul, Int.mul_comm]; congr 1
  rw [e, IntKind.wrap_u64, IntKind.wrap_u64]
  omega

set_option maxHeartbeats 4000000 in
set_option maxRecDepth 100000 in
theorem refTakeUint_any (v : Option Addr) (cap : Nat) (l : List UInt8) (hlen : l.length ≤ 9223372036854775807) (w : World) (hr : ReadsBytes w v l) :
    Calls Try.prog 17 #[.slice v l.length cap] w fun e w' => e = .returned (.tuple #[.int .u64 (take l).1, .int .i64 (take l).2.1, .int .i64 (take l).2.2]) ∧ w = w' := by
  have HR := Lib.hid hr
  clear hr
  go_enter Try.func17, Try.ntmps17
  go_wp2_with fail
  go_loop [5, 6, 7] (fun s5 s6 s7 => ∃ i acc p : Nat, p = 128 ^ i ∧ i ≤ 9 ∧ i ≤ l.length ∧ acc < p ∧ take l = takeFrom i acc (l.drop i) ∧ s5 = .int .u64 acc ∧ s6 = .int .u64 p ∧ s7 = .int .i64 i) (fun _ _ s7 => l.length - (RowKit.intOf s7).toNat)
  case atStart => exact ⟨0, 0, 1, by decide, by omega, by omega, by omega, rfl, rfl, rfl, rfl⟩
  case round =>
    obtain ⟨i, acc, p, hp, hi9, hil, hacc, hdec, rfl, rfl, rfl⟩ := hrel
    have HDEC := Lib.hid hdec
    have HACC := Lib.hid hacc
    have HP := Lib.hid hp
    clear hdec hacc hp
    by_cases hlt : i < l.length
    · obtain ⟨b, off, rfl, hb, hc⟩ := HR.out i hlt
      have hdrop : l.drop i = l[i] :: l.drop (i + 1) := List.drop_eq_getElem_cons hlt
      obtain ⟨c, hcn⟩ : ∃ c : Nat, c = l[i].toNat := ⟨_, rfl⟩
      have hc256 : c < 256 := by rw [hcn]; exact l[i].toNat_lt
      rw [← hcn] at hc
      have hd := HDEC.out
      rw [hdrop] at hd
      unfold takeFrom at hd
      rw [← hcn] at hd
      have HD := Lib.hid hd
      have HLT := Lib.hid hlt
      clear hcn hd hdrop hb HDEC
      have i2 : (0 : Int) ≤ c ∧ (c : Int) < 256 := by omega
      have lt1 : decide (l.length ≤ i) = false := by simp; omega
      by_cases h9 : i = 9
      · by_cases hc1 : 1 < c
        · have E := Lib.hid (show take l = (0, 0, 2) by rw [HD.out, if_pos ⟨h9, hc1⟩])
          have u2 : decide ((1 : Int) < (c : Int)) = true := by simp; omega
          subst h9
          go_wp2_with fail
          go_ret3
          exact ⟨ret3_uii (by rw [E.out]; rfl) (by rw [E.out]; rfl) (by rw [E.out]; rfl), rfl⟩
        · have u2 : decide ((1 : Int) < (c : Int)) = false := by simp; omega
          have V := Lib.hid (ref_value acc c p i HP.out hi9 (by intro _; omega) HACC.out)
          have u5 : decide ((c : Int) < 128) = true := by simp; omega
          by_cases h0 : c = 0
          · have E := Lib.hid (show take l = (0, 0, 5) by rw [HD.out, if_neg (by omega), if_pos ⟨by omega, h0⟩])
            subst h9
            have u3 : ((c : Int) == 0) = true := by rw [beq_iff_eq]; omega
            clear h0 hc1
            go_wp2_with fail
            go_ret3
            exact ⟨ret3_uii (by rw [E.out]; rfl) (by rw [E.out]; rfl) (by rw [E.out]; rfl), rfl⟩
          · have E := Lib.hid (show take l = (acc + c % 128 * 128 ^ i, i + 1, 0) by rw [HD.out, if_neg (by omega), if_neg (by omega), if_pos (by omega)])
            subst h9
            have u3 : ((c : Int) == 0) = false := by rw [beq_eq_false_iff_ne]; omega
            clear h0 hc1
            go_wp2_with fail
            go_ret3
            exact ⟨ret3_uii (by rw [E.out, V.out]) (by rw [E.out]; rfl) (by rw [E.out]; rfl), rfl⟩
      · have V := Lib.hid (ref_value acc c p i HP.out hi9 (by intro h; exact absurd h h9) HACC.out)
        have u1 : ((i : Int) == 9) = false := by rw [beq_eq_false_iff_ne]; omega
        obtain ⟨_, _, o3⟩ := or_group acc (c % 128) i hi9 (by omega) (by intro h; exact absurd h h9) (by rw [← HP.out]; exact HACC.out)
        have O3 := Lib.hid (o3 (by omega))
        have EP := Lib.hid (show IntKind.u64.wrap ((p : Int) * 128) = ((p * 128 : Nat) : Int) by
          have h8 : (128 : Nat) ^ i ≤ 128 ^ 8 := Nat.pow_le_pow_right (by omega) (by omega)
          have e8 : (128 : Nat) ^ 8 = 72057594037927936 := by decide
          rw [← HP.out, e8] at h8
          rw [IntKind.wrap_u64]; omega)
        have EP2 := Lib.hid (show p * 128 = 128 ^ (i + 1) by rw [HP.out, Nat.pow_succ])
        clear o3
        by_cases k1 : c < 128
        · have u5 : decide ((c : Int) < 128) = true := by simp; omega
          by_cases h0 : c = 0
          · have u3 : ((c : Int) == 0) = true := by rw [beq_iff_eq]; omega
            by_cases k0 : i = 0
            · have E := Lib.hid (show take l = (acc + c % 128 * 128 ^ i, i + 1, 0) by rw [HD.out, if_neg (by omega), if_neg (by omega), if_pos (by omega)])
              subst k0
              have hc0 : w.cell? ⟨b, off, none⟩ = some (.int .u8 c) := hc
              have hne : ¬ l = [] := by intro h; rw [h] at hlt; simp at hlt
              clear hc h0 h9 k1
              go_wp2_with fail
              go_ret3
              exact ⟨ret3_uii (by rw [E.out, V.out]) (by rw [E.out]; rfl) (by rw [E.out]; rfl), rfl⟩
            · have E := Lib.hid (show take l = (0, 0, 5) by rw [HD.out, if_neg (by omega), if_pos ⟨by omega, h0⟩])
              have k0p : 0 < i := by omega
              clear h0 h9 k0 k1
              go_wp2_with fail
              go_ret3
              exact ⟨ret3_uii (by rw [E.out]; rfl) (by rw [E.out]; rfl) (by rw [E.out]; rfl), rfl⟩
          · have u3 : ((c : Int) == 0) = false := by rw [beq_eq_false_iff_ne]; omega
            have E := Lib.hid (show take l = (acc + c % 128 * 128 ^ i, i + 1, 0) by rw [HD.out, if_neg (by omega), if_neg (by omega), if_pos (by omega)])
            by_cases k0 : i = 0
            · subst k0
              have hc0 : w.cell? ⟨b, off, none⟩ = some (.int .u8 c) := hc
              have hne : ¬ l = [] := by intro h; rw [h] at hlt; simp at hlt
              clear hc h0 h9 k1
              go_wp2_with fail
              go_ret3
              exact ⟨ret3_uii (by rw [E.out, V.out]) (by rw [E.out]; rfl) (by rw [E.out]; rfl), rfl⟩
            · clear h0 h9 k1 k0
              go_wp2_with fail
              go_ret3
              exact ⟨ret3_uii (by rw [E.out, V.out]) (by rw [E.out]; rfl) (by rw [E.out]; rfl), rfl⟩
        · have u5 : decide ((c : Int) < 128) = false := by simp; omega
          have E := Lib.hid (show take l = takeFrom (i + 1) (acc + c % 128 * 128 ^ i) (l.drop (i + 1)) by rw [HD.out, if_neg (by omega), if_neg (by omega), if_neg k1])
          have hi8 : i < 9 := by omega
          by_cases k0 : i = 0
          · subst k0
            have hc0 : w.cell? ⟨b, off, none⟩ = some (.int .u8 c) := hc
            have hne : ¬ l = [] := by intro h; rw [h] at hlt; simp at hlt
            clear hc h9 k1
            go_wp2_with fail
            exact ⟨⟨0 + 1, acc + c % 128 * 128 ^ 0, p * 128, EP2.out, by omega, by omega, by rw [EP2.out]; exact O3.out, E.out, by rw [V.out], by rw [EP.out], rfl⟩, by simp [RowKit.intOf]; omega⟩
          · clear h9 k1 k0
            go_wp2_with fail
            exact ⟨⟨i + 1, acc + c % 128 * 128 ^ i, p * 128, EP2.out, by omega, by omega, by rw [EP2.out]; exact O3.out, E.out, by rw [V.out], by rw [EP.out], by go_num⟩, by simp [RowKit.intOf]; omega⟩
    · obtain rfl : i = l.length := by omega
      have E := Lib.hid (show take l = (0, 0, 4) by rw [HDEC.out, List.drop_length]; rfl)
      go_wp2_with fail
      go_ret3
      exact ⟨ret3_uii (by rw [E.out]; rfl) (by rw [E.out]; rfl) (by rw [E.out]; rfl), rfl⟩
end Go.Proofs.Ytfnjemocekgncaa
