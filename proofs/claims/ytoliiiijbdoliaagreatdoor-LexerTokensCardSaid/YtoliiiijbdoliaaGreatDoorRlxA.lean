/- Contracts of the document's small functions (pipelineref09): digit, letter, hex, word, digits, Int, character. -/
import Derived.Test.YtoliiiijbdoliaaGreatDoorLexG
namespace Go.Proofs.YtoliiiijbdoliaaGreatDoor
open Go.RowKit Go.Lib
set_option linter.unusedVariables false
set_option linter.unusedSimpArgs false

theorem rDigit_any (c : UInt8) (w : World) : Calls Tryz.prog 29 #[.int .u8 c.toNat] w fun e w' => e = .returned (.bool (dgB c)) ∧ w' = w := by
  have hc := c.toNat_lt
  rcases (show (c.toNat < 48) ∨ (48 ≤ c.toNat ∧ c.toNat ≤ 57) ∨ (57 < c.toNat) by omega) with h | h | h
  · have E := Lib.hid (show dgB c = false by (unfold dgB; simp; omega))
    have g0 : ¬ (48 : Int) ≤ (c.toNat : Int) := by omega
    have hc0 : (0 : Int) ≤ (c.toNat : Int) ∧ (c.toNat : Int) ≤ 255 := by omega
    clear h
    go_enter Tryz.func29, Tryz.ntmps29
    go_wp2_with fail
    go_ret
    exact ⟨by rw [E.out]; rfl, rfl⟩
  · have E := Lib.hid (show dgB c = true by (unfold dgB; simp; omega))
    have g0 : (48 : Int) ≤ (c.toNat : Int) := by omega
    have g1 : (c.toNat : Int) ≤ 57 := by omega
    have hc0 : (0 : Int) ≤ (c.toNat : Int) ∧ (c.toNat : Int) ≤ 255 := by omega
    clear h
    go_enter Tryz.func29, Tryz.ntmps29
    go_wp2_with fail
    go_ret
    exact ⟨by rw [E.out]; rfl, rfl⟩
  · have E := Lib.hid (show dgB c = false by (unfold dgB; simp; omega))
    have g0 : (48 : Int) ≤ (c.toNat : Int) := by omega
    have g1 : ¬ (c.toNat : Int) ≤ 57 := by omega
    have hc0 : (0 : Int) ≤ (c.toNat : Int) ∧ (c.toNat : Int) ≤ 255 := by omega
    clear h
    go_enter Tryz.func29, Tryz.ntmps29
    go_wp2_with fail
    go_ret
    exact ⟨by rw [E.out]; rfl, rfl⟩
theorem rLetter_any (c : UInt8) (w : World) : Calls Tryz.prog 43 #[.int .u8 c.toNat] w fun e w' => e = .returned (.bool (letB c)) ∧ w' = w := by
  have hc := c.toNat_lt
  rcases (show (97 ≤ c.toNat ∧ c.toNat ≤ 122) ∨ (122 < c.toNat) ∨ (65 ≤ c.toNat ∧ c.toNat ≤ 90) ∨ (c.toNat = 95) ∨ (91 ≤ c.toNat ∧ c.toNat ≤ 96 ∧ c.toNat ≠ 95) ∨ (c.toNat < 65) by omega) with h | h | h | h | h | h
  · have E := Lib.hid (show letB c = true by (unfold letB; simp; omega))
    have g0 : (97 : Int) ≤ (c.toNat : Int) := by omega
    have g1 : (c.toNat : Int) ≤ 122 := by omega
    have hc0 : (0 : Int) ≤ (c.toNat : Int) ∧ (c.toNat : Int) ≤ 255 := by omega
    clear h
    go_enter Tryz.func43, Tryz.ntmps43
    go_wp2_with fail
    go_ret
    exact ⟨by rw [E.out]; rfl, rfl⟩
  · have E := Lib.hid (show letB c = false by (unfold letB; simp; omega))
    have g0 : (97 : Int) ≤ (c.toNat : Int) := by omega
    have g1 : ¬ (c.toNat : Int) ≤ 122 := by omega
    have g2 : (65 : Int) ≤ (c.toNat : Int) := by omega
    have g3 : ¬ (c.toNat : Int) ≤ 90 := by omega
    have g4 : ((c.toNat : Int) == 95) = false := by rw [beq_eq_false_iff_ne]; omega
    have hc0 : (0 : Int) ≤ (c.toNat : Int) ∧ (c.toNat : Int) ≤ 255 := by omega
    clear h
    go_enter Tryz.func43, Tryz.ntmps43
    go_wp2_with fail
    go_ret
    exact ⟨by rw [E.out]; rfl, rfl⟩
  · have E := Lib.hid (show letB c = true by (unfold letB; simp; omega))
    have g0 : ¬ (97 : Int) ≤ (c.toNat : Int) := by omega
    have g1 : (65 : Int) ≤ (c.toNat : Int) := by omega
    have g2 : (c.toNat : Int) ≤ 90 := by omega
    have hc0 : (0 : Int) ≤ (c.toNat : Int) ∧ (c.toNat : Int) ≤ 255 := by omega
    clear h
    go_enter Tryz.func43, Tryz.ntmps43
    go_wp2_with fail
    go_ret
    exact ⟨by rw [E.out]; rfl, rfl⟩
  · have E := Lib.hid (show letB c = true by (unfold letB; simp; omega))
    have g0 : ¬ (97 : Int) ≤ (c.toNat : Int) := by omega
    have g1 : (65 : Int) ≤ (c.toNat : Int) := by omega
    have g2 : ¬ (c.toNat : Int) ≤ 90 := by omega
    have g3 : ((c.toNat : Int) == 95) = true := by rw [beq_iff_eq]; omega
    have hc0 : (0 : Int) ≤ (c.toNat : Int) ∧ (c.toNat : Int) ≤ 255 := by omega
    clear h
    go_enter Tryz.func43, Tryz.ntmps43
    go_wp2_with fail
    go_ret
    exact ⟨by rw [E.out]; rfl, rfl⟩
  · have E := Lib.hid (show letB c = false by (unfold letB; simp; omega))
    have g0 : ¬ (97 : Int) ≤ (c.toNat : Int) := by omega
    have g1 : (65 : Int) ≤ (c.toNat : Int) := by omega
    have g2 : ¬ (c.toNat : Int) ≤ 90 := by omega
    have g3 : ((c.toNat : Int) == 95) = false := by rw [beq_eq_false_iff_ne]; omega
    have hc0 : (0 : Int) ≤ (c.toNat : Int) ∧ (c.toNat : Int) ≤ 255 := by omega
    clear h
    go_enter Tryz.func43, Tryz.ntmps43
    go_wp2_with fail
    go_ret
    exact ⟨by rw [E.out]; rfl, rfl⟩
  · have E := Lib.hid (show letB c = false by (unfold letB; simp; omega))
    have g0 : ¬ (97 : Int) ≤ (c.toNat : Int) := by omega
    have g1 : ¬ (65 : Int) ≤ (c.toNat : Int) := by omega
    have g2 : ((c.toNat : Int) == 95) = false := by rw [beq_eq_false_iff_ne]; omega
    have hc0 : (0 : Int) ≤ (c.toNat : Int) ∧ (c.toNat : Int) ≤ 255 := by omega
    clear h
    go_enter Tryz.func43, Tryz.ntmps43
    go_wp2_with fail
    go_ret
    exact ⟨by rw [E.out]; rfl, rfl⟩
/-- The value of a hexadecimal digit, or -1. -/
def hexI (c : UInt8) : Int := match hexV c with
  | some v => (v : Int)
  | none => -1
theorem hexI_eq (c : UInt8) : hexI c = if 48 ≤ c.toNat ∧ c.toNat ≤ 57 then (c.toNat : Int) - 48 else if 97 ≤ c.toNat ∧ c.toNat ≤ 102 then (c.toNat : Int) - 87 else if 65 ≤ c.toNat ∧ c.toNat ≤ 70 then (c.toNat : Int) - 55 else -1 := by
  unfold hexI hexV
  split
  · rename_i v h
    split at h
    · rename_i h1
      rw [if_pos h1]
      injection h with h
      omega
    · rename_i h1
      rw [if_neg h1]
      split at h
      · rename_i h2
        rw [if_pos h2]
        injection h with h
        omega
      · rename_i h2
        rw [if_neg h2]
        split at h
        · rename_i h3
          rw [if_pos h3]
          injection h with h
          omega
        · cases h
  · rename_i h
    split at h
    · cases h
    · rename_i h1
      rw [if_neg h1]
      split at h
      · cases h
      · rename_i h2
        rw [if_neg h2]
        split at h
        · cases h
        · rename_i h3
          rw [if_neg h3]
theorem rHex_any (c : UInt8) (w : World) : Calls Tryz.prog 65 #[.int .u8 c.toNat] w fun e w' => e = .returned (.int .i64 (hexI c)) ∧ w' = w := by
  have hc := c.toNat_lt
  rcases (show (48 ≤ c.toNat ∧ c.toNat ≤ 57) ∨ (97 ≤ c.toNat ∧ c.toNat ≤ 102) ∨ (102 < c.toNat) ∨ (65 ≤ c.toNat ∧ c.toNat ≤ 70) ∨ (71 ≤ c.toNat ∧ c.toNat ≤ 96) ∨ (58 ≤ c.toNat ∧ c.toNat < 65) ∨ (c.toNat < 48) by omega) with h | h | h | h | h | h | h
  · have E := Lib.hid (show hexI c = (c.toNat : Int) - 48 by rw [hexI_eq, if_pos (by omega)])
    have hc0 : (0 : Int) ≤ (c.toNat : Int) ∧ (c.toNat : Int) ≤ 255 := by omega
    have DG := Lib.hid (show ∀ w, Calls Tryz.prog 29 #[.int .u8 c.toNat] w fun e w' => e = .returned (.bool true) ∧ w' = w from fun w => by have h := rDigit_any c w; rwa [show dgB c = true by unfold dgB; simp; omega] at h)
    clear h
    go_enter Tryz.func65, Tryz.ntmps65
    go_wp2_with fail
    go_fit (DG.out _)
    rintro e w1 ⟨rfl, rfl⟩
    go_wp2_with fail
    go_ret
    exact ⟨by rw [E.out]; rfl, rfl⟩
  · have E := Lib.hid (show hexI c = (c.toNat : Int) - 87 by rw [hexI_eq, if_neg (by omega), if_pos (by omega)])
    have g0 : (97 : Int) ≤ (c.toNat : Int) := by omega
    have g1 : (c.toNat : Int) ≤ 102 := by omega
    have hc0 : (0 : Int) ≤ (c.toNat : Int) ∧ (c.toNat : Int) ≤ 255 := by omega
    have DG := Lib.hid (show ∀ w, Calls Tryz.prog 29 #[.int .u8 c.toNat] w fun e w' => e = .returned (.bool false) ∧ w' = w from fun w => by have h := rDigit_any c w; rwa [show dgB c = false by unfold dgB; simp; omega] at h)
    clear h
    go_enter Tryz.func65, Tryz.ntmps65
    go_wp2_with fail
    go_fit (DG.out _)
    rintro e w1 ⟨rfl, rfl⟩
    go_wp2_with fail
    go_ret
    exact ⟨by rw [E.out]; rfl, rfl⟩
  · have E := Lib.hid (show hexI c = -1 by rw [hexI_eq, if_neg (by omega), if_neg (by omega), if_neg (by omega)])
    have g0 : (97 : Int) ≤ (c.toNat : Int) := by omega
    have g1 : ¬ (c.toNat : Int) ≤ 102 := by omega
    have g2 : (65 : Int) ≤ (c.toNat : Int) := by omega
    have g3 : ¬ (c.toNat : Int) ≤ 70 := by omega
    have hc0 : (0 : Int) ≤ (c.toNat : Int) ∧ (c.toNat : Int) ≤ 255 := by omega
    have DG := Lib.hid (show ∀ w, Calls Tryz.prog 29 #[.int .u8 c.toNat] w fun e w' => e = .returned (.bool false) ∧ w' = w from fun w => by have h := rDigit_any c w; rwa [show dgB c = false by unfold dgB; simp; omega] at h)
    clear h
    go_enter Tryz.func65, Tryz.ntmps65
    go_wp2_with fail
    go_fit (DG.out _)
    rintro e w1 ⟨rfl, rfl⟩
    go_wp2_with fail
    go_ret
    exact ⟨by rw [E.out]; rfl, rfl⟩
  · have E := Lib.hid (show hexI c = (c.toNat : Int) - 55 by rw [hexI_eq, if_neg (by omega), if_neg (by omega), if_pos (by omega)])
    have g0 : ¬ (97 : Int) ≤ (c.toNat : Int) := by omega
    have g1 : (65 : Int) ≤ (c.toNat : Int) := by omega
    have g2 : (c.toNat : Int) ≤ 70 := by omega
    have hc0 : (0 : Int) ≤ (c.toNat : Int) ∧ (c.toNat : Int) ≤ 255 := by omega
    have DG := Lib.hid (show ∀ w, Calls Tryz.prog 29 #[.int .u8 c.toNat] w fun e w' => e = .returned (.bool false) ∧ w' = w from fun w => by have h := rDigit_any c w; rwa [show dgB c = false by unfold dgB; simp; omega] at h)
    clear h
    go_enter Tryz.func65, Tryz.ntmps65
    go_wp2_with fail
    go_fit (DG.out _)
    rintro e w1 ⟨rfl, rfl⟩
    go_wp2_with fail
    go_ret
    exact ⟨by rw [E.out]; rfl, rfl⟩
  · have E := Lib.hid (show hexI c = -1 by rw [hexI_eq, if_neg (by omega), if_neg (by omega), if_neg (by omega)])
    have g0 : ¬ (97 : Int) ≤ (c.toNat : Int) := by omega
    have g1 : (65 : Int) ≤ (c.toNat : Int) := by omega
    have g2 : ¬ (c.toNat : Int) ≤ 70 := by omega
    have hc0 : (0 : Int) ≤ (c.toNat : Int) ∧ (c.toNat : Int) ≤ 255 := by omega
    have DG := Lib.hid (show ∀ w, Calls Tryz.prog 29 #[.int .u8 c.toNat] w fun e w' => e = .returned (.bool false) ∧ w' = w from fun w => by have h := rDigit_any c w; rwa [show dgB c = false by unfold dgB; simp; omega] at h)
    clear h
    go_enter Tryz.func65, Tryz.ntmps65
    go_wp2_with fail
    go_fit (DG.out _)
    rintro e w1 ⟨rfl, rfl⟩
    go_wp2_with fail
    go_ret
    exact ⟨by rw [E.out]; rfl, rfl⟩
  · have E := Lib.hid (show hexI c = -1 by rw [hexI_eq, if_neg (by omega), if_neg (by omega), if_neg (by omega)])
    have g0 : ¬ (97 : Int) ≤ (c.toNat : Int) := by omega
    have g1 : ¬ (65 : Int) ≤ (c.toNat : Int) := by omega
    have hc0 : (0 : Int) ≤ (c.toNat : Int) ∧ (c.toNat : Int) ≤ 255 := by omega
    have DG := Lib.hid (show ∀ w, Calls Tryz.prog 29 #[.int .u8 c.toNat] w fun e w' => e = .returned (.bool false) ∧ w' = w from fun w => by have h := rDigit_any c w; rwa [show dgB c = false by unfold dgB; simp; omega] at h)
    clear h
    go_enter Tryz.func65, Tryz.ntmps65
    go_wp2_with fail
    go_fit (DG.out _)
    rintro e w1 ⟨rfl, rfl⟩
    go_wp2_with fail
    go_ret
    exact ⟨by rw [E.out]; rfl, rfl⟩
  · have E := Lib.hid (show hexI c = -1 by rw [hexI_eq, if_neg (by omega), if_neg (by omega), if_neg (by omega)])
    have g0 : ¬ (97 : Int) ≤ (c.toNat : Int) := by omega
    have g1 : ¬ (65 : Int) ≤ (c.toNat : Int) := by omega
    have hc0 : (0 : Int) ≤ (c.toNat : Int) ∧ (c.toNat : Int) ≤ 255 := by omega
    have DG := Lib.hid (show ∀ w, Calls Tryz.prog 29 #[.int .u8 c.toNat] w fun e w' => e = .returned (.bool false) ∧ w' = w from fun w => by have h := rDigit_any c w; rwa [show dgB c = false by unfold dgB; simp; omega] at h)
    clear h
    go_enter Tryz.func65, Tryz.ntmps65
    go_wp2_with fail
    go_fit (DG.out _)
    rintro e w1 ⟨rfl, rfl⟩
    go_wp2_with fail
    go_ret
    exact ⟨by rw [E.out]; rfl, rfl⟩
set_option maxHeartbeats 2000000 in
theorem rDigits_any (s : ByteArray) (k : Nat) (hk : k ≤ s.size) (hs : s.size ≤ 1099511627776) (w : World) : Calls Tryz.prog 40 #[.string s, .int .i64 (k : Int)] w fun e w' => e = .returned (.int .i64 (((s.data.toList.drop k).takeWhile dgB).length : Nat)) ∧ w' = w := by
  have hl := lenB s
  have hsI : (s.size : Int) ≤ 1099511627776 := by omega
  have hkI : (0 : Int) ≤ (k : Int) ∧ (k : Int) ≤ (s.size : Int) := by omega
  go_enter Tryz.func40, Tryz.ntmps40
  go_wp2_with fail
  go_loop [5] (fun s5 => ∃ n : Nat, k + n ≤ s.size ∧ s5 = .int .i64 (n : Int) ∧ Hid (∀ j (_ : j < n) (hl : j < (s.data.toList.drop k).length), dgB (s.data.toList.drop k)[j] = true)) (fun s5 => s.size - k - (RowKit.intOf s5).toNat)
  case atStart => exact ⟨0, by omega, rfl, Lib.hid (fun j h => absurd h (Nat.not_lt_zero _))⟩
  case round =>
    obtain ⟨n, hn, rfl, HN⟩ := hrel
    have hnI : (0 : Int) ≤ (n : Int) ∧ (k : Int) + (n : Int) ≤ (s.size : Int) := by omega
    have hdl : (s.data.toList.drop k).length = s.size - k := by rw [List.length_drop, hl]
    by_cases hlt : k + n < s.size
    · have hltI : (k : Int) + (n : Int) < (s.size : Int) := by omega
      have hat : (s.data.toList.drop k)[n]'(by omega) = s[k + n] := by rw [List.getElem_drop]; rfl
      have hix := fun w => ixS s ((k : Int) + (n : Int)) (k + n) (by omega) hlt w
      have D := Lib.hid (fun w => rDigit_any s[k + n] w)
      cases hd : dgB s[k + n]
      · rw [hd] at D
        have HE := Lib.hid (show ((s.data.toList.drop k).takeWhile dgB).length = n from by
          rw [tw_at _ n HN.out (by omega) (fun h => by rw [hat]; exact hd), List.length_take]
          omega)
        clear hd hat hdl hl
        go_wp2_with fail
        go_fit (D.out _)
        rintro e w1 ⟨rfl, rfl⟩
        go_wp2_with fail
        go_ret
        exact ⟨by rw [HE.out]; rfl, rfl⟩
      · rw [hd] at D
        have HN2 := Lib.hid (show ∀ j (_ : j < n + 1) (hl : j < (s.data.toList.drop k).length), dgB (s.data.toList.drop k)[j] = true from fun j hj hl2 => by
          rcases Nat.lt_succ_iff_lt_or_eq.1 hj with h | rfl
          · exact HN.out j h hl2
          · rw [hat]; exact hd)
        clear hd hat hdl hl
        go_wp2_with fail
        go_fit (D.out _)
        rintro e w1 ⟨rfl, rfl⟩
        go_wp2_with fail
        exact ⟨⟨n + 1, by omega, by go_num, HN2⟩, by simp [RowKit.intOf]; omega⟩
    · have hltI : ¬ (k : Int) + (n : Int) < (s.size : Int) := by omega
      have HE := Lib.hid (show ((s.data.toList.drop k).takeWhile dgB).length = n from by
        rw [tw_at _ n HN.out (by omega) (fun h => by omega), List.length_take]
        omega)
      clear hdl hl
      go_wp2_with fail
      go_ret
      exact ⟨by rw [HE.out]; rfl, rfl⟩
set_option maxHeartbeats 2000000 in
theorem rWord_any (s : ByteArray) (k : Nat) (hk : k ≤ s.size) (hs : s.size ≤ 1099511627776) (w : World) : Calls Tryz.prog 32 #[.string s, .int .i64 (k : Int)] w fun e w' => e = .returned (.int .i64 (((s.data.toList.drop k).takeWhile wrdB).length : Nat)) ∧ w' = w := by
  have hl := lenB s
  have hsI : (s.size : Int) ≤ 1099511627776 := by omega
  have hkI : (0 : Int) ≤ (k : Int) ∧ (k : Int) ≤ (s.size : Int) := by omega
  go_enter Tryz.func32, Tryz.ntmps32
  go_wp2_with fail
  go_loop [5] (fun s5 => ∃ n : Nat, k + n ≤ s.size ∧ s5 = .int .i64 (n : Int) ∧ Hid (∀ j (_ : j < n) (hl : j < (s.data.toList.drop k).length), wrdB (s.data.toList.drop k)[j] = true)) (fun s5 => s.size - k - (RowKit.intOf s5).toNat)
  case atStart => exact ⟨0, by omega, rfl, Lib.hid (fun j h => absurd h (Nat.not_lt_zero _))⟩
  case round =>
    obtain ⟨n, hn, rfl, HN⟩ := hrel
    have hnI : (0 : Int) ≤ (n : Int) ∧ (k : Int) + (n : Int) ≤ (s.size : Int) := by omega
    have hdl : (s.data.toList.drop k).length = s.size - k := by rw [List.length_drop, hl]
    by_cases hlt : k + n < s.size
    · have hltI : (k : Int) + (n : Int) < (s.size : Int) := by omega
      have hat : (s.data.toList.drop k)[n]'(by omega) = s[k + n] := by rw [List.getElem_drop]; rfl
      have hix := fun w => ixS s ((k : Int) + (n : Int)) (k + n) (by omega) hlt w
      have LT := Lib.hid (fun w => rLetter_any s[k + n] w)
      have D := Lib.hid (fun w => rDigit_any s[k + n] w)
      have GO := Lib.hid (fun (hw : wrdB s[k + n] = true) => show ∀ j (_ : j < n + 1) (hl : j < (s.data.toList.drop k).length), wrdB (s.data.toList.drop k)[j] = true from fun j hj hl2 => by
          rcases Nat.lt_succ_iff_lt_or_eq.1 hj with h | rfl
          · exact HN.out j h hl2
          · rw [hat]; exact hw)
      have EX := Lib.hid (fun (hw : wrdB s[k + n] = false) => show ((s.data.toList.drop k).takeWhile wrdB).length = n from by
          rw [tw_at _ n HN.out (by omega) (fun h => by rw [hat]; exact hw), List.length_take]
          omega)
      cases ht : letB s[k + n]
      · rw [ht] at LT
        cases hd : dgB s[k + n]
        · rw [hd] at D
          have HE := Lib.hid (EX.out (by unfold wrdB; rw [ht, hd]; rfl))
          clear hd hat hdl hl ht GO EX
          go_wp2_with fail
          go_fit (LT.out _)
          rintro e w1 ⟨rfl, rfl⟩
          go_wp2_with fail
          go_fit (D.out _)
          rintro e w1 ⟨rfl, rfl⟩
          go_wp2_with fail
          go_ret
          exact ⟨by rw [HE.out]; rfl, rfl⟩
        · rw [hd] at D
          have HN2 := Lib.hid (GO.out (by unfold wrdB; rw [ht, hd]; rfl))
          clear hd hat hdl hl ht GO EX
          go_wp2_with fail
          go_fit (LT.out _)
          rintro e w1 ⟨rfl, rfl⟩
          go_wp2_with fail
          go_fit (D.out _)
          rintro e w1 ⟨rfl, rfl⟩
          go_wp2_with fail
          exact ⟨⟨n + 1, by omega, by go_num, HN2⟩, by simp [RowKit.intOf]; omega⟩
      · rw [ht] at LT
        have HN2 := Lib.hid (GO.out (by unfold wrdB; rw [ht]; rfl))
        clear hat hdl hl ht GO EX
        go_wp2_with fail
        go_fit (LT.out _)
        rintro e w1 ⟨rfl, rfl⟩
        go_wp2_with fail
        exact ⟨⟨n + 1, by omega, by go_num, HN2⟩, by simp [RowKit.intOf]; omega⟩
    · have hltI : ¬ (k : Int) + (n : Int) < (s.size : Int) := by omega
      have HE := Lib.hid (show ((s.data.toList.drop k).takeWhile wrdB).length = n from by
        rw [tw_at _ n HN.out (by omega) (fun h => by omega), List.length_take]
        omega)
      clear hdl hl
      go_wp2_with fail
      go_ret
      exact ⟨by rw [HE.out]; rfl, rfl⟩
end Go.Proofs.YtoliiiijbdoliaaGreatDoor
