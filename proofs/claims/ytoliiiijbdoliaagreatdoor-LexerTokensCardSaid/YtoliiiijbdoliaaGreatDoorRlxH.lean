/- Contracts of the document's ignored, opened (pipelineref09). -/
import Derived.Test.YtoliiiijbdoliaaGreatDoorRlxG
namespace Go.Proofs.YtoliiiijbdoliaaGreatDoor
open Go.RowKit Go.Lib
set_option linter.unusedVariables false
set_option linter.unusedSimpArgs false

theorem ignL_cons (b : Bool) (c : UInt8) (r : List UInt8) : ignL b (c :: r) = if c ≠ 10 ∧ (b = true ∨ c = 32 ∨ c = 9 ∨ c = 35) then ignL (b || c == 35) r else c :: r := rfl
set_option maxHeartbeats 8000000 in
set_option maxRecDepth 100000 in
theorem rIgnored_any (s : ByteArray) (k0 : Nat) (hk0 : k0 ≤ s.size) (hs : s.size ≤ 1099511627776) (w : World) :
    Calls Tryz.prog 14 #[.string s, .int .i64 (k0 : Int)] w fun e w' => e = .returned (.int .i64 ((s.size - (ignL false (s.data.toList.drop k0)).length : Nat) : Int)) ∧ w' = w := by
  have HLN := Lib.hid (lenB s)
  have hsI : (s.size : Int) ≤ 1099511627776 := by omega
  obtain ⟨R, hR⟩ : ∃ R, R = ignL false (s.data.toList.drop k0) := ⟨_, rfl⟩
  rw [← hR]
  have HR0 := Lib.hid hR
  clear hR
  go_enter Tryz.func14, Tryz.ntmps14
  go_wp2_with fail
  go_loop [1, 5] (fun s1 s5 => ∃ (k : Nat) (b : Bool), k ≤ s.size ∧ s1 = .int .i64 (k : Int) ∧ s5 = .bool b ∧ Hid (R = ignL b (s.data.toList.drop k))) (fun s1 _ => s.size - (RowKit.intOf s1).toNat)
  case atStart => exact ⟨k0, false, hk0, rfl, rfl, HR0⟩
  case round =>
    obtain ⟨k, b, hk, rfl, rfl, HR⟩ := hrel
    have hkI : (0 : Int) ≤ (k : Int) ∧ (k : Int) ≤ 1099511627776 := by omega
    by_cases hlt : k < s.size
    · have hltI : (k : Int) < (s.size : Int) := by omega
      have hcons := drop_consB s k hlt
      have ix := fun w => ixS s (k : Int) k rfl hlt w
      have hR := HR.out
      rw [hcons, ignL_cons] at hR
      obtain ⟨c, hc⟩ : ∃ c, c = s[k] := ⟨_, rfl⟩
      rw [← hc] at hR ix hcons
      have hc9 := c.toNat_lt
      have hcI : (0 : Int) ≤ (c.toNat : Int) ∧ (c.toNat : Int) ≤ 255 := by omega
      have nb : ∀ (x : UInt8), ((c.toNat : Int) == (x.toNat : Int)) = decide (c = x) := fun x => by
        by_cases h : c = x
        · rw [h]; simp
        · rw [decide_eq_false h, beq_eq_false_iff_ne]
          intro e
          exact h (UInt8.toNat_inj.1 (by omega))
      have n32 : ((c.toNat : Int) == 32) = decide (c = 32) := nb 32
      have n9 : ((c.toNat : Int) == 9) = decide (c = 9) := nb 9
      have n35 : ((c.toNat : Int) == 35) = decide (c = 35) := nb 35
      have n10 : ((c.toNat : Int) != 10) = !decide (c = 10) := by rw [← nb 10]; rfl
      have STOP := Lib.hid (fun (h : ¬ (c ≠ 10 ∧ (b = true ∨ c = 32 ∨ c = 9 ∨ c = 35))) => show s.size - R.length = k from by
        rw [if_neg h] at hR
        rw [hR, ← hcons, List.length_drop, HLN.out]
        omega)
      have GO := Lib.hid (fun (h : c ≠ 10 ∧ (b = true ∨ c = 32 ∨ c = 9 ∨ c = 35)) => show R = ignL (b || c == 35) (s.data.toList.drop (k + 1)) from by
        rw [if_pos h] at hR
        exact hR)
      by_cases h10 : c = 10
      · rw [decide_eq_true h10] at n10
        have HE := Lib.hid (STOP.out (fun h => h.1 h10))
        clear hR hcons hc hc9 nb n32 n9 n35 STOP GO h10
        go_wp2_with fail
        go_ret
        exact ⟨by rw [HE.out]; rfl, rfl⟩
      · rw [decide_eq_false h10] at n10
        cases b
        · by_cases h32 : c = 32
          · rw [decide_eq_true h32] at n32
            have HG := Lib.hid (show R = ignL false (s.data.toList.drop (k + 1)) from by
              rw [GO.out ⟨h10, .inr (.inl h32)⟩, show (false || c == 35) = false by rw [h32]; rfl])
            have q35 : ((c.toNat : Int) == 35) = false := by rw [n35, h32]; rfl
            clear hR hcons hc hc9 nb n9 n35 STOP GO h10 h32 HR
            go_wp2_with fail
            exact ⟨⟨k + 1, false, by omega, by go_num, rfl, HG⟩, by simp [RowKit.intOf]; omega⟩
          · rw [decide_eq_false h32] at n32
            by_cases h9 : c = 9
            · rw [decide_eq_true h9] at n9
              have HG := Lib.hid (show R = ignL false (s.data.toList.drop (k + 1)) from by
                rw [GO.out ⟨h10, .inr (.inr (.inl h9))⟩, show (false || c == 35) = false by rw [h9]; rfl])
              have q35 : ((c.toNat : Int) == 35) = false := by rw [n35, h9]; rfl
              clear hR hcons hc hc9 nb n35 STOP GO h10 h32 h9 HR
              go_wp2_with fail
              exact ⟨⟨k + 1, false, by omega, by go_num, rfl, HG⟩, by simp [RowKit.intOf]; omega⟩
            · rw [decide_eq_false h9] at n9
              by_cases h35 : c = 35
              · rw [decide_eq_true h35] at n35
                have HG := Lib.hid (show R = ignL true (s.data.toList.drop (k + 1)) from by
                  rw [GO.out ⟨h10, .inr (.inr (.inr h35))⟩, show (false || c == 35) = true by rw [h35]; rfl])
                clear hR hcons hc hc9 nb STOP GO h10 h32 h9 h35 HR
                go_wp2_with fail
                exact ⟨⟨k + 1, true, by omega, by go_num, rfl, HG⟩, by simp [RowKit.intOf]; omega⟩
              · rw [decide_eq_false h35] at n35
                have HE := Lib.hid (STOP.out (fun h => by
                  rcases h.2 with e | e | e | e
                  · cases e
                  · exact h32 e
                  · exact h9 e
                  · exact h35 e))
                clear hR hcons hc hc9 nb STOP GO h10 h32 h9 h35 HR
                go_wp2_with fail
                go_ret
                exact ⟨by rw [HE.out]; rfl, rfl⟩
        · have HG := Lib.hid (show R = ignL true (s.data.toList.drop (k + 1)) from by
            rw [GO.out ⟨h10, .inl rfl⟩]
            rfl)
          clear hR hcons hc hc9 nb n32 n9 n35 STOP GO h10 HR
          go_wp2_with fail
          exact ⟨⟨k + 1, true, by omega, by go_num, rfl, HG⟩, by simp [RowKit.intOf]; omega⟩
    · obtain rfl : k = s.size := by omega
      have hkk : ¬ (s.size : Int) < (s.size : Int) := by omega
      have HE := Lib.hid (show s.size - R.length = s.size from by
        rw [HR.out, List.drop_eq_nil_of_le (by rw [HLN.out]; omega)]
        rfl)
      clear hlt
      go_wp2_with fail
      go_ret
      exact ⟨by rw [HE.out]; rfl, rfl⟩
set_option maxHeartbeats 4000000 in
theorem rOpened_any (o : Nat) (ho : o ≤ 1099511627776) (k p : Int) (s : ByteArray) (w : World) :
    Calls Tryz.prog 16 #[.int .i64 (o : Int), .agg #[.int .i64 k, .string s, .int .i64 p]] w fun e w' => e = .returned (.int .i64 (opn o k s.data.toList : Nat)) ∧ Below w.heap.size w w' := by
  have ht := Lib.toList_data s
  have hoI : (0 : Int) ≤ (o : Int) ∧ (o : Int) ≤ 1099511627776 := by omega
  have B0 := Lib.hid ((Below.refl w.heap.size w).alloc (Nat.le_refl _) (Obj.cells #[.int .i64 k, .string s, .int .i64 p] 32))
  obtain ⟨R, hR⟩ : ∃ R, R = opn o k s.data.toList := ⟨_, rfl⟩
  rw [← hR]
  unfold opn at hR
  rw [← ht] at hR
  by_cases h4 : k = 4
  · have k4 : (k == 4) = true := by rw [beq_iff_eq]; exact h4
    cases q1 : (s.toList == [40])
    · cases q2 : (s.toList == [91])
      · have e1 := beq_eq_false_iff_ne.1 q1
        have e2 := beq_eq_false_iff_ne.1 q2
        rw [if_neg (fun h => h.2.elim e1 e2)] at hR
        cases q3 : (s.toList == [41])
        · cases q4 : (s.toList == [93])
          · have e3 := beq_eq_false_iff_ne.1 q3
            have e4 := beq_eq_false_iff_ne.1 q4
            rw [if_neg (fun h => h.2.elim e3 e4)] at hR
            have HE := Lib.hid hR
            clear hR ht e1 e2 e3 e4 h4
            go_enter Tryz.func16, Tryz.ntmps16
            go_wp2_with fail
            go_ret
            exact ⟨by rw [HE.out]; rfl, B0.out⟩
          · have e4 := eq_of_beq q4
            rw [if_pos ⟨h4, .inr e4⟩] at hR
            have HE := Lib.hid hR
            clear hR ht e1 e2 e4 h4
            by_cases h0 : 0 < o
            · have g0 : (0 : Int) < (o : Int) := by omega
              have HO := Lib.hid (show ((o : Int) - 1) = ((o - 1 : Nat) : Int) by omega)
              clear h0
              go_enter Tryz.func16, Tryz.ntmps16
              go_wp2_with fail
              go_ret
              exact ⟨by rw [HE.out, ← HO.out]; rfl, B0.out⟩
            · obtain rfl : o = 0 := by omega
              clear h0
              go_enter Tryz.func16, Tryz.ntmps16
              go_wp2_with fail
              go_ret
              exact ⟨by rw [HE.out]; rfl, B0.out⟩
        · have e3 := eq_of_beq q3
          rw [if_pos ⟨h4, .inl e3⟩] at hR
          have HE := Lib.hid hR
          clear hR ht e1 e2 e3 h4
          by_cases h0 : 0 < o
          · have g0 : (0 : Int) < (o : Int) := by omega
            have HO := Lib.hid (show ((o : Int) - 1) = ((o - 1 : Nat) : Int) by omega)
            clear h0
            go_enter Tryz.func16, Tryz.ntmps16
            go_wp2_with fail
            go_ret
            exact ⟨by rw [HE.out, ← HO.out]; rfl, B0.out⟩
          · obtain rfl : o = 0 := by omega
            clear h0
            go_enter Tryz.func16, Tryz.ntmps16
            go_wp2_with fail
            go_ret
            exact ⟨by rw [HE.out]; rfl, B0.out⟩
      · have e2 := eq_of_beq q2
        rw [if_pos ⟨h4, .inr e2⟩] at hR
        have HE := Lib.hid hR
        clear hR ht e2 h4
        go_enter Tryz.func16, Tryz.ntmps16
        go_wp2_with fail
        go_ret
        exact ⟨by rw [HE.out]; rfl, B0.out⟩
    · have e1 := eq_of_beq q1
      rw [if_pos ⟨h4, .inl e1⟩] at hR
      have HE := Lib.hid hR
      clear hR ht e1 h4
      go_enter Tryz.func16, Tryz.ntmps16
      go_wp2_with fail
      go_ret
      exact ⟨by rw [HE.out]; rfl, B0.out⟩
  · have k4 : (k == 4) = false := by rw [beq_eq_false_iff_ne]; exact h4
    rw [if_neg (fun h => h4 h.1), if_neg (fun h => h4 h.1)] at hR
    have HE := Lib.hid hR
    clear hR ht h4
    go_enter Tryz.func16, Tryz.ntmps16
    go_wp2_with fail
    go_ret
    exact ⟨by rw [HE.out]; rfl, B0.out⟩
end Go.Proofs.YtoliiiijbdoliaaGreatDoor
