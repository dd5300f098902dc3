/- Contracts of the document's character and operator (pipelineref09). -/
import Derived.Test.YtoliiiijbdoliaaGreatDoorRlxB
import Derived.Test.YtoliiiijbdoliaaGreatDoorLexE
import Derived.Deep.QuietTactic
import Derived.BigQuiet
namespace Go.Proofs.YtoliiiijbdoliaaGreatDoor
open Go.RowKit Go.Lib
set_option linter.unusedVariables false
set_option linter.unusedSimpArgs false

theorem chrA_c (c : UInt8) (r : List UInt8) : chrA (c :: r) = if c.toNat < 32 then (0, 0, 5) else if c ≠ 92 then (c, 1, 0) else match r with
      | [] => (0, 0, 4)
      | d :: q => if d = 34 ∨ d = 92 then (d, 2, 0) else if d = 110 then (10, 2, 0) else if d = 116 then (9, 2, 0) else if d = 120 then escA q else (0, 0, 5) := by
  cases r <;> rfl
set_option maxHeartbeats 4000000 in
theorem rChar_any (s : ByteArray) (k : Nat) (hk : k < s.size) (hs : s.size ≤ 1099511627776) (w : World) :
    Calls Tryz.prog 42 #[.string s, .int .i64 (k : Int)] w fun e w' => e = .returned (.tuple #[.int .u8 ((chrA (s.data.toList.drop k)).1.toNat : Int), .int .i64 ((chrA (s.data.toList.drop k)).2.1 : Nat), .int .i64 ((chrA (s.data.toList.drop k)).2.2 : Nat)]) ∧ w' = w := by
  have hsI : (s.size : Int) ≤ 1099511627776 := by omega
  have hkI : (0 : Int) ≤ (k : Int) ∧ (k : Int) < (s.size : Int) := by omega
  have hcons := drop_consB s k hk
  have hl := lenB s
  obtain ⟨R, hR⟩ : ∃ R, R = chrA (s.data.toList.drop k) := ⟨_, rfl⟩
  rw [← hR]
  rw [hcons, chrA_c] at hR
  have hix := fun w => ixS s (k : Int) k rfl hk w
  obtain ⟨c, hc⟩ : ∃ c, c = s[k] := ⟨_, rfl⟩
  rw [← hc] at hR hix
  have hc9 := c.toNat_lt
  have hcI : (0 : Int) ≤ (c.toNat : Int) ∧ (c.toNat : Int) ≤ 255 := by omega
  by_cases h1 : c.toNat < 32
  · rw [if_pos h1] at hR
    have g1 : (c.toNat : Int) < 32 := by omega
    have HE := Lib.hid hR
    clear hR hcons hl hc h1 hc9
    go_enter Tryz.func42, Tryz.ntmps42
    go_wp2_with fail
    go_ret3
    exact ⟨by rw [HE.out]; rfl, rfl⟩
  · rw [if_neg h1] at hR
    have g1 : ¬ (c.toNat : Int) < 32 := by omega
    by_cases h2 : c = 92
    · rw [if_neg (fun h => h h2)] at hR
      have g2 : ((c.toNat : Int) != 92) = false := by rw [h2]; rfl
      by_cases h3 : k + 1 < s.size
      · have g3 : ¬ (s.size : Int) ≤ (k : Int) + 1 := by omega
        have g3' : (k : Int) + 1 < (s.size : Int) := by omega
        have hcons2 := drop_consB s (k + 1) h3
        rw [hcons2] at hR
        have hix2 := fun w => ixS s ((k : Int) + 1) (k + 1) (by omega) h3 w
        obtain ⟨d, hd⟩ : ∃ d, d = s[k + 1] := ⟨_, rfl⟩
        rw [← hd] at hR hix2
        have hd9 := d.toNat_lt
        have hdI : (0 : Int) ≤ (d.toNat : Int) ∧ (d.toNat : Int) ≤ 255 := by omega
        have nb : ∀ (x : UInt8), ((d.toNat : Int) == (x.toNat : Int)) = decide (d = x) := fun x => by
          by_cases h : d = x
          · rw [h]; simp
          · rw [decide_eq_false h, beq_eq_false_iff_ne]
            intro e
            exact h (UInt8.toNat_inj.1 (by omega))
        have n34 : ((d.toNat : Int) == 34) = decide (d = 34) := nb 34
        have n92 : ((d.toNat : Int) == 92) = decide (d = 92) := nb 92
        have n110 : ((d.toNat : Int) == 110) = decide (d = 110) := nb 110
        have n116 : ((d.toNat : Int) == 116) = decide (d = 116) := nb 116
        have n120 : ((d.toNat : Int) == 120) = decide (d = 120) := nb 120
        simp only at hR
        by_cases k34 : d = 34
        · rw [if_pos (.inl k34)] at hR
          rw [decide_eq_true k34] at n34
          have HE := Lib.hid hR
          clear hR hcons hcons2 hl hc h1 hc9 h2 h3 hd hd9 nb n92 n110 n116 n120 k34
          go_enter Tryz.func42, Tryz.ntmps42
          go_wp2_with fail
          go_ret3
          exact ⟨by rw [HE.out]; rfl, rfl⟩
        · rw [decide_eq_false k34] at n34
          by_cases k92 : d = 92
          · rw [if_pos (.inr k92)] at hR
            rw [decide_eq_true k92] at n92
            have HE := Lib.hid hR
            clear hR hcons hcons2 hl hc h1 hc9 h2 h3 hd hd9 nb n110 n116 n120 k34 k92
            go_enter Tryz.func42, Tryz.ntmps42
            go_wp2_with fail
            go_ret3
            exact ⟨by rw [HE.out]; rfl, rfl⟩
          · rw [if_neg (fun h => h.elim k34 k92)] at hR
            rw [decide_eq_false k92] at n92
            by_cases k110 : d = 110
            · rw [if_pos k110] at hR
              rw [decide_eq_true k110] at n110
              have HE := Lib.hid hR
              clear hR hcons hcons2 hl hc h1 hc9 h2 h3 hd hd9 nb n116 n120 k34 k92 k110
              go_enter Tryz.func42, Tryz.ntmps42
              go_wp2_with fail
              go_ret3
              exact ⟨by rw [HE.out]; rfl, rfl⟩
            · rw [if_neg k110] at hR
              rw [decide_eq_false k110] at n110
              by_cases k116 : d = 116
              · rw [if_pos k116] at hR
                rw [decide_eq_true k116] at n116
                have HE := Lib.hid hR
                clear hR hcons hcons2 hl hc h1 hc9 h2 h3 hd hd9 nb n120 k34 k92 k110 k116
                go_enter Tryz.func42, Tryz.ntmps42
                go_wp2_with fail
                go_ret3
                exact ⟨by rw [HE.out]; rfl, rfl⟩
              · rw [if_neg k116] at hR
                rw [decide_eq_false k116] at n116
                by_cases k120 : d = 120
                · rw [if_pos k120] at hR
                  rw [decide_eq_true k120] at n120
                  have ES := Lib.hid (fun w => rEscaped_any s k (by omega) hs w)
                  rw [show s.data.toList.drop (k + 1 + 1) = s.data.toList.drop (k + 2) from rfl] at hR
                  rw [← hR] at ES
                  clear hR hcons hcons2 hl hc h1 hc9 h2 h3 hd hd9 nb k34 k92 k110 k116 k120
                  go_enter Tryz.func42, Tryz.ntmps42
                  go_wp2_with fail
                  go_fit (ES.out _)
                  rintro e w1 ⟨rfl, rfl⟩
                  go_wp2_with fail
                  go_ret3
                  exact ⟨rfl, rfl⟩
                · rw [if_neg k120] at hR
                  rw [decide_eq_false k120] at n120
                  have HE := Lib.hid hR
                  clear hR hcons hcons2 hl hc h1 hc9 h2 h3 hd hd9 nb k34 k92 k110 k116 k120
                  go_enter Tryz.func42, Tryz.ntmps42
                  go_wp2_with fail
                  go_ret3
                  exact ⟨by rw [HE.out]; rfl, rfl⟩
      · have g3 : (s.size : Int) ≤ (k : Int) + 1 := by omega
        rw [List.drop_eq_nil_of_le (by omega)] at hR
        have HE := Lib.hid hR
        clear hR hcons hl hc h1 hc9 h2 h3
        go_enter Tryz.func42, Tryz.ntmps42
        go_wp2_with fail
        go_ret3
        exact ⟨by rw [HE.out]; rfl, rfl⟩
    · rw [if_pos h2] at hR
      have g2 : ((c.toNat : Int) != 92) = true := by
        rw [bne_iff_ne]
        intro e
        exact h2 (u8_of (n := 92) (by decide) (by omega))
      have HE := Lib.hid hR
      clear hR hcons hl hc h1 hc9 h2
      go_enter Tryz.func42, Tryz.ntmps42
      go_wp2_with fail
      go_ret3
      exact ⟨by rw [HE.out]; rfl, rfl⟩
end Go.Proofs.YtoliiiijbdoliaaGreatDoor
