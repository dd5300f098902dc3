/- Contracts of the document's Int, escaped, character (pipelineref09). -/
import Derived.Test.YtoliiiijbdoliaaGreatDoorRlxA
namespace Go.Proofs.YtoliiiijbdoliaaGreatDoor
open Go.RowKit Go.Lib
set_option linter.unusedVariables false
set_option linter.unusedSimpArgs false

theorem undec_snoc (l : List UInt8) (c : UInt8) : undec (l ++ [c]) = 10 * undec l + (c.toNat - 48) := by
  unfold undec
  rw [List.foldl_append, List.foldl_cons, List.foldl_nil]
theorem undec_lt : ∀ (n : Nat) (l : List UInt8), l.length = n → l.all dgB = true → undec l < 10 ^ n := by
  intro n
  induction n with
  | zero =>
    intro l hl _
    have e : l = [] := List.eq_nil_of_length_eq_zero hl
    subst e
    exact Nat.one_pos
  | succ n ih =>
    intro l hl ha
    have hne : l ≠ [] := fun e => by rw [e] at hl; simp at hl
    have e := List.dropLast_concat_getLast hne
    have h1 := ih l.dropLast (by rw [List.length_dropLast]; omega) (by
      rw [List.all_eq_true] at ha ⊢
      exact fun x hx => ha x (List.dropLast_subset l hx))
    have h2 := List.all_eq_true.1 ha (l.getLast hne) (List.getLast_mem hne)
    unfold dgB at h2
    simp at h2
    rw [← e, undec_snoc, Nat.pow_succ]
    omega
theorem pow15 : (10 : Nat) ^ 15 = 1000000000000000 := by decide
theorem undec_15 (l : List UInt8) (h : l.length ≤ 15) (ha : l.all dgB = true) : (undec l : Int) < 1000000000000000 := by
  have h1 := undec_lt l.length l rfl ha
  have h2 : 10 ^ l.length ≤ (10 : Nat) ^ 15 := Nat.pow_le_pow_right (by decide) h
  rw [pow15] at h2
  omega
set_option maxHeartbeats 4000000 in
theorem rInt_any (s : ByteArray) (h0 : 0 < s.size) (hd : s.data.toList.all dgB = true) (hz : ¬ (1 < s.size ∧ s[0] = 48)) (hs : s.size ≤ 1099511627776) (w : World) :
    Calls Tryz.prog 41 #[.string s] w fun e w' => (∃ v : Int, e = .returned (.tuple #[.int .i64 v, .bool (intB s.data.toList)])) ∧ w' = w := by
  have hl := lenB s
  have hcons := drop_consB s 0 h0
  rw [List.drop_zero] at hcons
  have hem : s.toList.isEmpty = false := by rw [Lib.toList_data, hcons]; rfl
  have hem2 : (s.toList == []) = false := by rw [Lib.toList_data, hcons]; rfl
  have hc9 := (s[0]).toNat_lt
  have i0 := fun w => ixS s 0 0 rfl h0 w
  have hI : intB s.data.toList = (decide (s.size ≤ 16) && decide (undec s.data.toList ≤ 9007199254740992)) := by
    unfold intB
    rw [hd, hl]
    have e1 : s.data.toList.isEmpty = false := by rw [hcons]; rfl
    have e2 : (decide (1 < s.size) && decide (s.data.toList.head? = some 48)) = false := by
      rw [hcons]
      cases h1 : decide (1 < s.size)
      · rfl
      · simp at h1 ⊢
        intro h
        exact hz ⟨h1, h⟩
    rw [e1, e2]
    simp
  have hsI : (s.size : Int) ≤ 1099511627776 := by omega
  have h0I : (0 : Int) < (s.size : Int) := by omega
  have hcI : (0 : Int) ≤ ((s[0]).toNat : Int) ∧ ((s[0]).toNat : Int) ≤ 255 := by omega
  by_cases h16 : 16 < s.size
  · have g16 : (16 : Int) < (s.size : Int) := by omega
    have HE := Lib.hid (show intB s.data.toList = false from by rw [hI, show decide (s.size ≤ 16) = false by simp; omega]; rfl)
    clear hI hcons hd hz hl h16 hc9
    go_enter Tryz.func41, Tryz.ntmps41
    go_wp2_with fail
    go_ret2
    exact ⟨⟨_, by rw [HE.out]; rfl⟩, rfl⟩
  · have g16 : ¬ (16 : Int) < (s.size : Int) := by omega
    have hI2 : intB s.data.toList = decide ((undec s.data.toList : Int) ≤ 9007199254740992) := by
      rw [hI, show decide (s.size ≤ 16) = true by simp; omega, Bool.true_and]
      by_cases h : undec s.data.toList ≤ 9007199254740992
      · rw [decide_eq_true h, decide_eq_true (by omega)]
      · rw [decide_eq_false h, decide_eq_false (by omega)]
    have HI := Lib.hid hI2
    have HD := Lib.hid hd
    have HL := Lib.hid hl
    have h16' : s.size ≤ 16 := by omega
    have main : (s.size : Int) ≤ 1 ∨ ((1 : Int) < (s.size : Int) ∧ ((s[0].toNat : Int) == 48) = false) := by
      by_cases h : 1 < s.size
      · refine .inr ⟨by omega, ?_⟩
        rw [beq_eq_false_iff_ne]
        intro e
        exact hz ⟨h, u8_of (n := 48) (by decide) (by omega)⟩
      · exact .inl (by omega)
    clear hI hI2 hcons hd hz hl h16 hc9
    have gg : ((1 : Int) < (s.size : Int) ∧ ((s[0].toNat : Int) == 48) = false) ∨ ¬ (1 : Int) < (s.size : Int) := main.elim (fun h => .inr (by omega)) .inl
    clear main
    rcases gg with ⟨g1, g2⟩ | g1
    all_goals
      go_enter Tryz.func41, Tryz.ntmps41
      go_wp2_with fail
      go_loop [4, 5] (fun s4 s5 => ∃ i : Nat, i ≤ s.size ∧ s5 = .int .i64 (i : Int) ∧ ∃ v : Int, s4 = .int .i64 v ∧ Hid (v = (undec (s.data.toList.take i) : Int))) (fun _ s5 => s.size - (RowKit.intOf s5).toNat)
      case atStart => exact ⟨0, Nat.zero_le _, rfl, 0, rfl, Lib.hid (by simp [undec])⟩
      case round =>
        obtain ⟨i, hi, rfl, v, rfl, HV⟩ := hrel
        by_cases hlt : i < s.size
        · have hiI : (0 : Int) ≤ (i : Int) ∧ (i : Int) < (s.size : Int) := by omega
          have hix := fun w => ixS s (i : Int) i rfl hlt w
          have hmem : s[i] ∈ s.data.toList := by
            have h := List.getElem_mem (l := s.data.toList) (n := i) (by rw [HL.out]; exact hlt)
            exact h
          have hdi := List.all_eq_true.1 HD.out _ hmem
          have D := Lib.hid (fun w => by have h := rDigit_any s[i] w; rw [hdi] at h; exact h)
          have hv15 := undec_15 (s.data.toList.take i) (by rw [List.length_take, HL.out]; omega) (by
            rw [List.all_eq_true]
            exact fun x hx => List.all_eq_true.1 HD.out x (List.mem_of_mem_take hx))
          rw [← HV.out] at hv15
          have hv0 : 0 ≤ v := by rw [HV.out]; omega
          unfold dgB at hdi
          simp at hdi
          have hcd : (48 : Int) ≤ (s[i].toNat : Int) ∧ (s[i].toNat : Int) ≤ 57 := by omega
          have HV2 := Lib.hid (show 10 * v + (s[i].toNat : Int) - 48 = (undec (s.data.toList.take (i + 1)) : Int) from by
            rw [List.take_succ_eq_append_getElem (by rw [HL.out]; exact hlt), undec_snoc, HV.out]
            have : (s.data.toList[i]'(by rw [HL.out]; exact hlt)) = s[i] := rfl
            rw [this]
            omega)
          clear hdi hmem
          go_wp2_with fail
          go_fit (D.out _)
          rintro e w1 ⟨rfl, rfl⟩
          go_wp2_with fail
          exact ⟨⟨i + 1, by omega, by go_num, 10 * v + (s[i].toNat : Int) - 48, by go_num, HV2⟩, by simp [RowKit.intOf]; omega⟩
        · obtain rfl : i = s.size := by omega
          have hiI : ¬ (s.size : Int) < (s.size : Int) := by omega
          have HV3 := HV.out
          rw [List.take_of_length_le (by rw [HL.out]; exact Nat.le_refl _)] at HV3
          have HE := Lib.hid (show intB s.data.toList = decide (v ≤ 9007199254740992) from by rw [HI.out, HV3])
          clear hlt HV3
          go_wp2_with fail
          go_ret2
          exact ⟨⟨_, by rw [HE.out]; rfl⟩, rfl⟩
/-- The byte, the length and the error of a character with two hexadecimal digits. -/
def escA (q : List UInt8) : UInt8 × Nat × Nat := if (escL q).2 = 0 then ((escL q).1, 4, 0) else (0, 0, (escL q).2)
theorem hexI_some {c : UInt8} {v : Nat} (h : hexV c = some v) : hexI c = (v : Int) ∧ v ≤ 15 := by
  refine ⟨by unfold hexI; rw [h], ?_⟩
  unfold hexV at h
  split at h
  · injection h with h; omega
  · split at h
    · injection h with h; omega
    · split at h
      · injection h with h; omega
      · cases h
theorem hexI_none {c : UInt8} (h : hexV c = none) : hexI c = -1 := by unfold hexI; rw [h]
set_option maxHeartbeats 4000000 in
theorem rEscaped_any (s : ByteArray) (k : Nat) (hk : k ≤ s.size) (hs : s.size ≤ 1099511627776) (w : World) :
    Calls Tryz.prog 50 #[.string s, .int .i64 (k : Int)] w fun e w' => e = .returned (.tuple #[.int .u8 ((escA (s.data.toList.drop (k + 2))).1.toNat : Int), .int .i64 ((escA (s.data.toList.drop (k + 2))).2.1 : Nat), .int .i64 ((escA (s.data.toList.drop (k + 2))).2.2 : Nat)]) ∧ w' = w := by
  have HLN := Lib.hid (lenB s)
  have hsI : (s.size : Int) ≤ 1099511627776 := by omega
  have hkI : (0 : Int) ≤ (k : Int) ∧ (k : Int) ≤ (s.size : Int) := by omega
  obtain ⟨R, hR⟩ : ∃ R, R = escA (s.data.toList.drop (k + 2)) := ⟨_, rfl⟩
  rw [← hR]
  have HR := Lib.hid hR
  clear hR
  go_enter Tryz.func50, Tryz.ntmps50
  go_wp2_with fail
  go_loop [7, 8] (fun s7 s8 => ∃ m : Nat, m ≤ 2 ∧ s8 = .int .i64 ((k : Int) + 2 + (m : Int)) ∧ ∃ a : Int, s7 = .int .i64 a ∧ Hid (HRel (s.data.toList.drop (k + 2)) m a)) (fun _ s8 => k + 4 - (RowKit.intOf s8).toNat)
  case atStart => exact ⟨0, by omega, by simp, 0, rfl, Lib.hid ⟨fun _ => rfl, fun h => absurd h (by decide), fun h => absurd h (by decide)⟩⟩
  case round =>
    obtain ⟨m, hm, rfl, a, rfl, HA⟩ := hrel
    have hmI : (0 : Int) ≤ (m : Int) ∧ (m : Int) ≤ 2 := by omega
    by_cases hm2 : m = 2
    · obtain ⟨c, hc1, hc2⟩ := HA.out.2.2 hm2
      subst hm2
      have hc9 := c.toNat_lt
      have haI : 0 ≤ a ∧ a ≤ 255 := by omega
      have HE := Lib.hid (show R = (c, 4, 0) from by rw [HR.out]; unfold escA; rw [hc1]; rfl)
      have HC := Lib.hid hc2
      have g1 : ¬ (k : Int) + 2 + ((2 : Nat) : Int) < (k : Int) + 4 := by omega
      clear hc1 hc2 hc9
      go_wp2_with fail
      go_ret3
      exact ⟨by rw [HE.out, HC.out]; rfl, rfl⟩
    · have g1 : (k : Int) + 2 + (m : Int) < (k : Int) + 4 := by omega
      by_cases hlt : k + 2 + m < s.size
      · have g2 : (k : Int) + 2 + (m : Int) < (s.size : Int) := by omega
        have g2' : ¬ (s.size : Int) ≤ (k : Int) + 2 + (m : Int) := by omega
        have hix := fun w => ixS s ((k : Int) + 2 + (m : Int)) (k + 2 + m) (by omega) hlt w
        have hdr : s.data.toList.drop (k + 2 + m) = s[k + 2 + m] :: s.data.toList.drop (k + 2 + m + 1) := drop_consB s (k + 2 + m) hlt
        have HX := Lib.hid (fun w => rHex_any s[k + 2 + m] w)
        have hc9 := (s[k + 2 + m]).toNat_lt
        have hcI : (0 : Int) ≤ (s[k + 2 + m].toNat : Int) ∧ (s[k + 2 + m].toNat : Int) ≤ 255 := by omega
        cases hx : hexV s[k + 2 + m] with
        | none =>
          rw [hexI_none hx] at HX
          have HE := Lib.hid (show R = (0, 0, 5) from by
            rw [HR.out]
            unfold escA
            rcases (show m = 0 ∨ m = 1 by omega) with rfl | rfl
            · have hdr0 : s.data.toList.drop (k + 2) = s[k + 2 + 0] :: s.data.toList.drop (k + 2 + 0 + 1) := hdr
              have e : escL (s.data.toList.drop (k + 2)) = (0, 5) := by
                rw [hdr0]
                simp only [escL, hx]
              rw [e]
              rfl
            · obtain ⟨c, r, v, h1, h2, _, _⟩ := HA.out.2.1 rfl
              have h3 : r = s[k + 2 + 1] :: s.data.toList.drop (k + 2 + 1 + 1) := by
                have h4 := congrArg (List.drop 1) h1
                rw [List.drop_drop, List.drop_succ_cons, List.drop_zero, hdr] at h4
                exact h4.symm
              have e : escL (s.data.toList.drop (k + 2)) = (0, 5) := by
                rw [h1, h3]
                simp only [escL, h2, hx]
              rw [e]
              rfl)
          clear hdr hx hc9
          go_wp2_with fail
          go_fit (HX.out _)
          rintro e w1 ⟨rfl, rfl⟩
          go_wp2_with fail
          go_ret3
          exact ⟨by rw [HE.out]; rfl, rfl⟩
        | some v =>
          obtain ⟨hxi, hv15⟩ := hexI_some hx
          rw [hxi] at HX
          have hvI : (0 : Int) ≤ (v : Int) ∧ (v : Int) ≤ 15 := by omega
          have h2 : (0 ≤ a ∧ a ≤ 15) ∧ Hid (HRel (s.data.toList.drop (k + 2)) (m + 1) (16 * a + (v : Int))) := by
            rcases (show m = 0 ∨ m = 1 by omega) with rfl | rfl
            · have ha := HA.out.1 rfl
              subst ha
              refine ⟨by omega, Lib.hid ⟨fun h => absurd h (by decide), fun _ => ⟨_, _, v, hdr, hx, by omega, hv15⟩, fun h => absurd h (by decide)⟩⟩
            · obtain ⟨c, r, u, h1, h2, h3, h4⟩ := HA.out.2.1 rfl
              have h5 : r = s[k + 2 + 1] :: s.data.toList.drop (k + 2 + 1 + 1) := by
                have h6 := congrArg (List.drop 1) h1
                rw [List.drop_drop, List.drop_succ_cons, List.drop_zero, hdr] at h6
                exact h6.symm
              refine ⟨by omega, Lib.hid ⟨fun h => absurd h (by decide), fun h => absurd h (by decide), fun _ => ⟨UInt8.ofNat (16 * u + v), ?_, ?_⟩⟩⟩
              · rw [h1, h5]
                simp [escL, h2, hx]
              · rw [h3]
                simp
                omega
          obtain ⟨haI, HA2⟩ := h2
          clear hdr hx hc9 hxi
          go_wp2_with fail
          go_fit (HX.out _)
          rintro e w1 ⟨rfl, rfl⟩
          go_wp2_with fail
          go_fit (HX.out _)
          rintro e w1 ⟨rfl, rfl⟩
          go_wp2_with fail
          exact ⟨⟨m + 1, by omega, by go_num, 16 * a + (v : Int), by go_num, HA2⟩, by simp [RowKit.intOf]; omega⟩
      · have g2 : (s.size : Int) ≤ (k : Int) + 2 + (m : Int) := by omega
        have HE := Lib.hid (show R = (0, 0, 4) from by
          rw [HR.out]
          unfold escA
          rcases (show m = 0 ∨ m = 1 by omega) with rfl | rfl
          · rw [List.drop_eq_nil_of_le (by rw [HLN.out]; omega)]
            rfl
          · obtain ⟨c, r, v, h1, h2, _, _⟩ := HA.out.2.1 rfl
            have h3 : r = [] := by
              have h4 := congrArg (List.drop 1) h1
              rw [List.drop_drop, List.drop_succ_cons, List.drop_zero, List.drop_eq_nil_of_le (by rw [HLN.out]; omega)] at h4
              exact h4.symm
            rw [h1, h3]
            simp [escL, h2])
        go_wp2_with fail
        go_ret3
        exact ⟨by rw [HE.out]; rfl, rfl⟩
end Go.Proofs.YtoliiiijbdoliaaGreatDoor
