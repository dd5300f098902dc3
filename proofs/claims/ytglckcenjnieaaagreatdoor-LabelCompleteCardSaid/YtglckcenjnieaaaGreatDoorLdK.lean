/- The contract of the document's decimal (label). -/
import Derived.Test.YtglckcenjnieaaaGreatDoorLdE
import Derived.Test.YtglckcenjnieaaaGreatDoorLdF
namespace Go.Proofs.YtglckcenjnieaaaGreatDoor
open Go.RowKit Go.Lib

theorem ext_one : ∀ i : Fin 10, ((⟨#[48, 49, 50, 51, 52, 53, 54, 55, 56, 57]⟩ : ByteArray).extract i.1 (i.1 + 1)).data = #[UInt8.ofNat (48 + i.1)] := by decide
theorem ext_at {m : Nat} (h : m < 10) : (⟨#[48, 49, 50, 51, 52, 53, 54, 55, 56, 57]⟩ : ByteArray).extract m (m + 1) = ⟨[UInt8.ofNat (48 + m)].toArray⟩ := by
  apply ByteArray.ext
  exact ext_one ⟨m, h⟩
theorem dec_step {m : Nat} (h : 9 < m) : Lib.decDigits m = Lib.decDigits (m / 10) ++ [UInt8.ofNat (48 + m % 10)] := by
  conv => lhs; rw [Lib.decDigits]
  rw [dif_neg (by omega)]
theorem dec_one {m : Nat} (h : ¬ 9 < m) : Lib.decDigits m = [UInt8.ofNat (48 + m)] := by
  conv => lhs; rw [Lib.decDigits]
  rw [dif_pos (by omega)]
theorem app_mk (x y : List UInt8) : (⟨x.toArray⟩ : ByteArray) ++ ⟨y.toArray⟩ = ⟨(x ++ y).toArray⟩ := by
  apply ByteArray.ext
  rw [ByteArray.data_append]
  simp
theorem dec_len : ∀ (k n : Nat), n < 10 ^ (k + 1) → (Lib.decDigits n).length ≤ k + 1
  | 0, n, h => by rw [dec_one (by omega)]; simp
  | k + 1, n, h => by
    by_cases h9 : 9 < n
    · rw [dec_step h9, List.length_append, List.length_singleton]
      have := dec_len k (n / 10) (by rw [Nat.div_lt_iff_lt_mul (by omega)]; rw [Nat.pow_succ] at h; omega)
      omega
    · rw [dec_one h9]; simp
set_option maxHeartbeats 2000000 in
theorem decimal_any (n : Nat) (hn : n ≤ 9007199254740992) (w : World) :
    Calls Tryz.prog 64 #[.int .i64 (n : Int)] w fun e w' => e = .returned (.string ⟨(Lib.decDigits n).toArray⟩) ∧ w = w' := by
  have hL := dec_len 15 n (by rw [show 10 ^ (15 + 1) = 10000000000000000 by decide]; omega)
  obtain ⟨D, hD⟩ : ∃ D, D = Lib.decDigits n := ⟨_, rfl⟩
  rw [← hD] at hL ⊢
  have HD := Lib.hid hD
  clear hD
  go_enter Tryz.func64, Tryz.ntmps64
  go_wp2_with fail
  go_loop [0, 3] (fun s0 s3 => ∃ (m : Nat) (t : List UInt8), s0 = .int .i64 (m : Int) ∧ s3 = .string ⟨t.toArray⟩ ∧ m ≤ 9007199254740992 ∧ Hid (Lib.decDigits m ++ t = D)) (fun s0 _ => (RowKit.intOf s0).toNat)
  case atStart => exact ⟨n, [], rfl, rfl, hn, Lib.hid (by rw [HD.out, List.append_nil])⟩
  case round =>
    obtain ⟨m, t, rfl, rfl, hm, HT⟩ := hrel
    have htl : t.length ≤ 16 := by have := congrArg List.length HT.out; rw [List.length_append] at this; omega
    by_cases h9 : 9 < m
    · have g9 : (9 : Int) < (m : Int) := by omega
      have HS := Lib.hid (show Lib.decDigits (m / 10) ++ (UInt8.ofNat (48 + m % 10) :: t) = D by rw [← HT.out, dec_step h9, List.append_assoc]; rfl)
      have hlt : m % 10 < 10 := by omega
      go_wp2_with fail
      exact ⟨⟨m / 10, _ :: t, by go_num, by rw [ext_at hlt, app_mk]; rfl, by omega, HS⟩, by simp [RowKit.intOf]; omega⟩
    · have HS := Lib.hid (show UInt8.ofNat (48 + m) :: t = D by rw [← HT.out, dec_one h9]; rfl)
      have hlt : m < 10 := by omega
      go_wp2_with fail
      go_ret
      exact ⟨by rw [← HS.out, ext_at hlt, app_mk]; rfl, rfl⟩
end Go.Proofs.YtglckcenjnieaaaGreatDoor
