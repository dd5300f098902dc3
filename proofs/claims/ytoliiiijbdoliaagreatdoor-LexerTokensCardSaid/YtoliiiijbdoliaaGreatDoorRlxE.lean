/- Contracts of the document's number, text, token (pipelineref09). -/
import Derived.Test.YtoliiiijbdoliaaGreatDoorRlxD
import Derived.Test.YtoliiiijbdoliaaGreatDoorLexJ
import Derived.OwnWalk
import Derived.Maps.AppendAt
import Derived.Deep.AppendLies
namespace Go.Proofs.YtoliiiijbdoliaaGreatDoor
open Go.RowKit Go.Lib
set_option linter.unusedVariables false
set_option linter.unusedSimpArgs false

theorem tw_take (p : UInt8 → Bool) (l : List UInt8) : l.take (l.takeWhile p).length = l.takeWhile p := (List.prefix_iff_eq_take.1 (List.takeWhile_prefix p)).symm
theorem tw_all (p : UInt8 → Bool) : ∀ l : List UInt8, (l.takeWhile p).all p = true
  | [] => rfl
  | c :: r => by
    rw [List.takeWhile_cons]
    split
    · rename_i h
      rw [List.all_cons, h, tw_all p r]
      rfl
    · rfl
set_option maxHeartbeats 4000000 in
set_option maxRecDepth 100000 in
theorem rNumber_any (s : ByteArray) (k : Nat) (hk : k < s.size) (hd : dgB s[k] = true) (hs : s.size ≤ 1099511627776) (w : World) :
    Calls Tryz.prog 30 #[.string s, .int .i64 (k : Int)] w fun e w' => e = .returned (.tuple #[tkV (tokA (s.data.toList.drop k)).1 (tokA (s.data.toList.drop k)).2.1 0, .int .i64 ((tokA (s.data.toList.drop k)).2.2.1 : Nat), .int .i64 ((tokA (s.data.toList.drop k)).2.2.2 : Nat)]) ∧ Below w.heap.size w w' := by
  have hsI : (s.size : Int) ≤ 1099511627776 := by omega
  have hkI : (0 : Int) ≤ (k : Int) ∧ (k : Int) < (s.size : Int) := by omega
  have hcons := drop_consB s k hk
  have hl := lenB s
  have hA : tokA (s.data.toList.drop k) = numA ((s.data.toList.drop k).takeWhile dgB) ((s.data.toList.drop k).takeWhile wrdB) s[k] := by rw [hcons, tokA_cons, if_pos hd]
  obtain ⟨A, hAe⟩ : ∃ A, A = tokA (s.data.toList.drop k) := ⟨_, rfl⟩
  rw [← hAe]
  rw [← hAe] at hA
  have DG := Lib.hid (fun w => rDigits_any s k (by omega) hs w)
  have WD := Lib.hid (fun w => rWord_any s k (by omega) hs w)
  have hix := fun w => ixS s (k : Int) k rfl hk w
  have hn1 : 1 ≤ ((s.data.toList.drop k).takeWhile dgB).length := by rw [hcons]; exact tw_pos hd
  have hnl := tw_le (p := dgB) (s.data.toList.drop k)
  have hwl := tw_le (p := wrdB) (s.data.toList.drop k)
  rw [List.length_drop, hl] at hnl hwl
  have htk := tw_take dgB (s.data.toList.drop k)
  have hall := tw_all dgB (s.data.toList.drop k)
  have hdc : (s.data.toList.drop k).takeWhile dgB = s[k] :: (s.data.toList.drop (k + 1)).takeWhile dgB := by rw [hcons, List.takeWhile_cons, if_pos hd]
  obtain ⟨D, hD⟩ : ∃ D, D = (s.data.toList.drop k).takeWhile dgB := ⟨_, rfl⟩
  obtain ⟨wn, hwn⟩ : ∃ wn, wn = ((s.data.toList.drop k).takeWhile wrdB).length := ⟨_, rfl⟩
  rw [← hD] at DG hn1 hnl htk hall hdc
  rw [← hwn] at WD hwl
  unfold numA at hA
  rw [← hD, ← hwn] at hA
  obtain ⟨x, hx⟩ : ∃ x : ByteArray, x = ⟨D.toArray⟩ := ⟨_, rfl⟩
  have hxd : x.data.toList = D := by rw [hx]
  have hxs : x.size = D.length := by rw [← lenB, hxd]
  have sl := fun w => sub_mid s (k : Int) ((k : Int) + (x.size : Int)) k (k + x.size) rfl (by omega) (by omega) (by omega) w
  rw [show (⟨((s.data.toList.take (k + x.size)).drop k).toArray⟩ : ByteArray) = x from by
    rw [List.drop_take, show k + x.size - k = x.size by omega, hxs, htk, hx]] at sl
  have hx0 : 0 < x.size := by omega
  have hx0e : x[0] = s[k] := by
    have h1 : x.data.toList[0]'(by rw [lenB]; exact hx0) = s[k] := by simp only [hxd, hdc, List.getElem_cons_zero]
    exact h1
  rw [← hxs] at DG
  obtain ⟨c, hc⟩ : ∃ c, c = s[k] := ⟨_, rfl⟩
  rw [← hc] at hA hix hx0e
  have hc9 := c.toNat_lt
  have hcI : (0 : Int) ≤ (c.toNat : Int) ∧ (c.toNat : Int) ≤ 255 := by omega
  have hnI : (1 : Int) ≤ (x.size : Int) ∧ (k : Int) + (x.size : Int) ≤ 1099511627776 := by omega
  have hwI : (0 : Int) ≤ (wn : Int) ∧ (wn : Int) ≤ 1099511627776 := by omega
  have B0 := Lib.hid (fun o => (Below.refl w.heap.size w).alloc (Nat.le_refl _) o)
  by_cases h1 : D.length < wn ∨ (1 < D.length ∧ c = 48)
  · rw [if_pos h1] at hA
    have HE := Lib.hid hA
    have gg : ((x.size : Int) < (wn : Int)) ∨ (¬ (x.size : Int) < (wn : Int) ∧ (1 : Int) < (x.size : Int) ∧ ((c.toNat : Int) == 48) = true) := by
      by_cases h : D.length < wn
      · exact .inl (by omega)
      · rcases h1 with h2 | ⟨h2, h3⟩
        · exact absurd h2 h
        · exact .inr ⟨by omega, by omega, by rw [h3]; rfl⟩
    clear hA hAe hcons hl hn1 hnl hwl htk hall hdc hD hwn hx hxd hxs hx0 hx0e hc hc9 h1 hd
    rcases gg with g1 | ⟨g1, g2, g3⟩
    all_goals
      go_enter Tryz.func30, Tryz.ntmps30
      go_wp2_with fail
      go_fit (DG.out _)
      rintro e w1 ⟨rfl, rfl⟩
      go_wp2_with fail
      go_fit (WD.out _)
      rintro e w1 ⟨rfl, rfl⟩
      go_wp2_with fail
      (try simp only [Exit.inBlock, Exit.then])
      refine bodyPost_ret (v := .tuple #[.agg #[.int .i64 0, .string ⟨#[]⟩, .int .i64 0], .int .i64 0, .int .i64 5]) ?_ rfl ⟨?_, ?_⟩
      · rw [results_cell_tmp2 rfl]
        go_simp
      · rw [HE.out]
        rfl
      · exact B0.out _
  · rw [if_neg h1] at hA
    have IN := Lib.hid (fun w => rInt_any x hx0 (by rw [hxd]; exact hall) (fun h => h1 (.inr ⟨by omega, by rw [← hx0e]; exact h.2⟩)) (by omega) w)
    have g1 : ¬ (x.size : Int) < (wn : Int) := fun h => h1 (.inl (by omega))
    have gg : ¬ (1 : Int) < (x.size : Int) ∨ ((1 : Int) < (x.size : Int) ∧ ((c.toNat : Int) == 48) = false) := by
      by_cases h : 1 < D.length
      · refine .inr ⟨by omega, ?_⟩
        rw [beq_eq_false_iff_ne]
        intro e
        exact h1 (.inr ⟨h, u8_of (n := 48) (by decide) (by omega)⟩)
      · exact .inl (by omega)
    rw [hxd] at IN
    have HX := Lib.hid hx
    have HXS := Lib.hid hxs
    cases hi : intB D
    · rw [hi, if_neg (by decide)] at hA
      rw [hi] at IN
      have HE := Lib.hid hA
      clear hA hAe hcons hl hn1 hnl hwl htk hall hdc hD hwn hx hxd hxs hx0 hx0e hc hc9 h1 hd hi
      rcases gg with g2 | ⟨g2, g3⟩
      all_goals
        go_enter Tryz.func30, Tryz.ntmps30
        go_wp2_with fail
        go_fit (DG.out _)
        rintro e w1 ⟨rfl, rfl⟩
        go_wp2_with fail
        go_fit (WD.out _)
        rintro e w1 ⟨rfl, rfl⟩
        go_wp2_with fail
        go_fit (IN.out _)
        rintro e w1 ⟨⟨v, rfl⟩, rfl⟩
        go_wp2_with fail
        (try simp only [Exit.inBlock, Exit.then])
        refine bodyPost_ret (v := .tuple #[.agg #[.int .i64 0, .string ⟨#[]⟩, .int .i64 0], .int .i64 0, .int .i64 2]) ?_ rfl ⟨?_, ?_⟩
        · rw [results_cell_tmp2 rfl]
          go_simp
        · rw [HE.out]
          rfl
        · exact B0.out _
    · rw [hi, if_pos rfl] at hA
      rw [hi] at IN
      have HE := Lib.hid hA
      clear hA hAe hcons hl hn1 hnl hwl htk hall hdc hD hwn hx hxd hxs hx0 hx0e hc hc9 h1 hd hi
      rcases gg with g2 | ⟨g2, g3⟩
      all_goals
        go_enter Tryz.func30, Tryz.ntmps30
        go_wp2_with fail
        go_fit (DG.out _)
        rintro e w1 ⟨rfl, rfl⟩
        go_wp2_with fail
        go_fit (WD.out _)
        rintro e w1 ⟨rfl, rfl⟩
        go_wp2_with fail
        go_fit (IN.out _)
        rintro e w1 ⟨⟨v, rfl⟩, rfl⟩
        go_wp2_with fail
        (try simp only [Exit.inBlock, Exit.then])
        refine bodyPost_ret (v := .tuple #[.agg #[.int .i64 2, .string x, .int .i64 0], .int .i64 (x.size : Int), .int .i64 0]) ?_ rfl ⟨?_, ?_⟩
        · rw [results_cell_tmp2 rfl]
          go_simp
        · rw [HE.out, HXS.out, HX.out]
          rfl
        · exact B0.out _
end Go.Proofs.YtoliiiijbdoliaaGreatDoor
