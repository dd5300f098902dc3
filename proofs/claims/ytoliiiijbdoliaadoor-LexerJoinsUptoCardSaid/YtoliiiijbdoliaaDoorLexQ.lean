/- Contracts of the program's appendCharacter and Quote (lexer). -/
import Derived.Test.YtoliiiijbdoliaaDoorLexD
import Derived.Test.YtoliiiijbdoliaaDoorLexS
import Derived.OwnWalk
import Derived.Maps.AppendAt
import Derived.Deep.AppendLies
import Derived.Deep.RegionLaw
import Derived.Laws.BitsAllLaws
import Derived.IntWalk
namespace Go.Proofs.YtoliiiijbdoliaaDoor
open Go.RowKit Go.Lib
set_option linter.unusedVariables false

/-- What comes back owns the cells that were there and, behind them, those of l. -/
def OwnB (B n : Nat) (xs : List Value) (w : World) (l : List UInt8) (e : Ending) (w' : World) : Prop :=
  ∃ v', e = .returned v' ∧ w'.ownsRow B 5 1 v' (n + l.length) (xs ++ Lib.byteCells l) ∧ Below B w w'
theorem OwnB.own {B n : Nat} {xs : List Value} {w' : World} {a b : List UInt8} {v : Value} (h : w'.ownsRow B 5 1 v (n + a.length + b.length) (xs ++ Lib.byteCells a ++ Lib.byteCells b)) : w'.ownsRow B 5 1 v (n + (a ++ b).length) (xs ++ Lib.byteCells (a ++ b)) := by
  rw [byteCells_app, List.length_append, ← List.append_assoc, ← Nat.add_assoc]
  exact h
def hexS : ByteArray := ⟨#[48, 49, 50, 51, 52, 53, 54, 55, 56, 57, 97, 98, 99, 100, 101, 102]⟩
theorem hexAt : ∀ i : Fin 16, (hexS[i.1]'i.2) = hexD i.1 := by decide
theorem hexAt' (z : Int) (n : Nat) (hn : n < 16) (hz : z = n) (h : z.toNat < (⟨#[48, 49, 50, 51, 52, 53, 54, 55, 56, 57, 97, 98, 99, 100, 101, 102]⟩ : ByteArray).size) : (⟨#[48, 49, 50, 51, 52, 53, 54, 55, 56, 57, 97, 98, 99, 100, 101, 102]⟩ : ByteArray)[z.toNat]'h = hexD n := by
  subst hz
  exact hexAt ⟨n, hn⟩
set_option maxHeartbeats 4000000 in
set_option maxRecDepth 100000 in
theorem appHex_any (B n : Nat) (c : Nat) (hc : c < 256) (h3 : c ≠ 10) (h4 : c ≠ 9) (h5 : c < 32 ∨ 126 < c) (sv : Value) (xs : List Value) (w : World) (hown : w.ownsRow B 5 1 sv n xs) (hBw : B ≤ w.heap.size) (hlim : n + 4 ≤ 140737488355328) :
    Calls Tryd.prog 19 #[sv, .int .u8 c] w (OwnB B n xs w [92, 120, hexD (c / 16), hexD (c % 16)]) := by
  obtain ⟨i0, hi, hz0, hz1, hz2⟩ := info_parts info8
  have g3 : ((c : Int) == 10) = false := by rw [beq_eq_false_iff_ne]; omega
  have g4 : ((c : Int) == 9) = false := by rw [beq_eq_false_iff_ne]; omega
  have b0 : (0 : Int) ≤ (c : Int) ∧ (c : Int) ≤ 255 := by omega
  have b1 : (0 : Int) ≤ (c : Int) / 16 ∧ (c : Int) / 16 < 16 := by omega
  have b2 : (0 : Int) ≤ (c : Int) % 16 ∧ (c : Int) % 16 < 16 := by omega
  have x1 := fun h => hexAt' ((c : Int) / 16) (c / 16) (by omega) (by omega) h
  have x2 := fun h => hexAt' ((c : Int) % 16) (c % 16) (by omega) (by omega) h
  have v1 : IntKind.u8.wrap ((c : Int).tdiv 16) = (c : Int) / 16 := IntWalk.u8_quo _ _ (by omega)
  have v1b : IntKind.u8.wrap ((c : Int) / 16) = (c : Int) / 16 := IntWalk.u8_in _ (by omega)
  have v2 : (c : Int).tmod 16 = (c : Int) % 16 := IntWalk.rem_in _ _ (by omega)
  by_cases h6 : c < 32
  · have g5 : (c : Int) < 32 := by omega
    clear h3 h4 h5 h6
    go_enter Tryd.func19, Tryd.ntmps19
    go_wp2_with fail
    go_region_law (refine step_append_lies _ rfl (.tmp 24) (.tmp 31) 35 rfl B 5 i0 (.int .u8 0) 1 1 Tryd.underlying35 hi hz0 hz1 hz2 rfl (by decide) sv n xs rfl (hown.drew.alloc _) ⟨w.heap.size, 0, none⟩ 4 4 [.int .u8 92, .int .u8 120, .int .u8 (hexD (c / 16)).toNat, .int .u8 (hexD (c % 16)).toNat] rfl rfl (World.news_of_block (heap_alloc_new w.drew _)) (by intro u hu; simp at hu; rcases hu with rfl | rfl | rfl | rfl <;> rfl) (by decide) (by unfold maxLen; omega) (by omega) (by simp; omega) _ rfl ?_; intro g1 cap1 w1 ho1 hg1 hl1 hl2)
    all_goals
      go_wp2_with fail
      go_ret
      exact ⟨_, rfl, ho1, ((Below.refl _ w).alloc hBw _).drew.grown hg1 (by simp; omega) (fun k hk => (hown.lt k hk).1)⟩
  · have g5 : ¬ (c : Int) < 32 := by omega
    have g6 : (126 : Int) < c := by omega
    clear h3 h4 h5 h6
    go_enter Tryd.func19, Tryd.ntmps19
    go_wp2_with fail
    go_region_law (refine step_append_lies _ rfl (.tmp 24) (.tmp 31) 35 rfl B 5 i0 (.int .u8 0) 1 1 Tryd.underlying35 hi hz0 hz1 hz2 rfl (by decide) sv n xs rfl (hown.drew.alloc _) ⟨w.heap.size, 0, none⟩ 4 4 [.int .u8 92, .int .u8 120, .int .u8 (hexD (c / 16)).toNat, .int .u8 (hexD (c % 16)).toNat] rfl rfl (World.news_of_block (heap_alloc_new w.drew _)) (by intro u hu; simp at hu; rcases hu with rfl | rfl | rfl | rfl <;> rfl) (by decide) (by unfold maxLen; omega) (by omega) (by simp; omega) _ rfl ?_; intro g1 cap1 w1 ho1 hg1 hl1 hl2)
    all_goals
      go_wp2_with fail
      go_ret
      exact ⟨_, rfl, ho1, ((Below.refl _ w).alloc hBw _).drew.grown hg1 (by simp; omega) (fun k hk => (hown.lt k hk).1)⟩
theorem slash_cells (x : UInt8) : Lib.byteCells [92, x] = [.int .u8 92, .int .u8 x.toNat] := rfl
set_option maxHeartbeats 4000000 in
set_option maxRecDepth 100000 in
theorem appChar_any (B n : Nat) (c : UInt8) (sv : Value) (xs : List Value) (w : World) (hown : w.ownsRow B 5 1 sv n xs) (hBw : B ≤ w.heap.size) (hlim : n + 4 ≤ 140737488355328) :
    Calls Tryd.prog 19 #[sv, .int .u8 c.toNat] w (OwnB B n xs w (chrL c)) := by
  obtain ⟨i0, hi, hz0, hz1, hz2⟩ := info_parts info8
  by_cases h1 : c.toNat = 10
  · have E := Lib.hid (show chrL c = [92, 110] by unfold chrL; rw [if_neg (by omega), if_neg (by omega), if_pos h1])
    rw [show (c.toNat : Int) = 10 by omega]
    clear h1
    go_enter Tryd.func19, Tryd.ntmps19
    go_wp2_with (at_builtin; refine wpList_append_own _ rfl _ _ 35 rfl B 5 i0 (.int .u8 0) 1 1 Tryd.underlying35 hi hz0 hz1 hz2 rfl (by decide) _ _ _ rfl (hown.alloc _) ⟨w.heap.size, 0, none⟩ 2 2 [.int .u8 92, .int .u8 110] rfl rfl (World.news_of_block (heap_alloc_new _ _)) (by intro u hu; simp at hu; (first | (rcases hu with rfl | rfl <;> rfl) | (subst hu; rfl))) (by unfold maxLen; omega) (by omega) (by simp; omega) ?_)
    intro v' w1 ho1 hg1 _
    go_wp2_with fail
    go_ret
    exact ⟨_, rfl, by rw [E.out]; exact ho1, ((Below.refl _ w).alloc hBw _).grown hg1 (by simp; omega) (fun k hk => (hown.lt k hk).1)⟩
  have g1 : ((c.toNat : Int) == 10) = false := by rw [beq_eq_false_iff_ne]; omega
  by_cases h2 : c.toNat = 9
  · have E := Lib.hid (show chrL c = [92, 116] by unfold chrL; rw [if_neg (by omega), if_neg (by omega), if_neg h1, if_pos h2])
    rw [show (c.toNat : Int) = 9 by omega]
    clear h1 h2 g1
    go_enter Tryd.func19, Tryd.ntmps19
    go_wp2_with (at_builtin; refine wpList_append_own _ rfl _ _ 35 rfl B 5 i0 (.int .u8 0) 1 1 Tryd.underlying35 hi hz0 hz1 hz2 rfl (by decide) _ _ _ rfl (hown.alloc _) ⟨w.heap.size, 0, none⟩ 2 2 [.int .u8 92, .int .u8 116] rfl rfl (World.news_of_block (heap_alloc_new _ _)) (by intro u hu; simp at hu; (first | (rcases hu with rfl | rfl <;> rfl) | (subst hu; rfl))) (by unfold maxLen; omega) (by omega) (by simp; omega) ?_)
    intro v' w1 ho1 hg1 _
    go_wp2_with fail
    go_ret
    exact ⟨_, rfl, by rw [E.out]; exact ho1, ((Below.refl _ w).alloc hBw _).grown hg1 (by simp; omega) (fun k hk => (hown.lt k hk).1)⟩
  have g2 : ((c.toNat : Int) == 9) = false := by rw [beq_eq_false_iff_ne]; omega
  by_cases h5 : 32 ≤ c.toNat ∧ c.toNat ≤ 126
  · have g5 : ¬ (c.toNat : Int) < 32 := by omega
    have g6 : ¬ (126 : Int) < (c.toNat : Int) := by omega
    by_cases h3 : c.toNat = 34 ∨ c.toNat = 92
    · rcases h3 with h3 | h3
      · have E := Lib.hid (show chrL c = [92, 34] by unfold chrL; rw [if_pos h3])
        rw [show (c.toNat : Int) = 34 by omega]
        clear h1 h2 h3 h5 g1 g2 g5 g6
        go_enter Tryd.func19, Tryd.ntmps19
        go_wp2_with (at_builtin; refine wpList_append_own _ rfl _ _ 35 rfl B 5 i0 (.int .u8 0) 1 1 Tryd.underlying35 hi hz0 hz1 hz2 rfl (by decide) _ _ _ rfl (hown.alloc _) ⟨w.heap.size, 0, none⟩ 1 1 [.int .u8 92] rfl rfl (World.news_of_block (heap_alloc_new _ _)) (by intro u hu; simp at hu; (first | (rcases hu with rfl | rfl <;> rfl) | (subst hu; rfl))) (by unfold maxLen; omega) (by omega) (by simp; omega) ?_)
        intro v1 w1 ho1 hg1 _
        have B1 : Below B w w1 := ((Below.refl _ w).alloc hBw _).grown hg1 (by simp; omega) (fun k hk => (hown.lt k hk).1)
        have hBw1 : B ≤ w1.heap.size := Nat.le_trans hBw B1.size
        have H1 := Lib.hid ho1
        have HB1 := Lib.hid B1
        clear ho1 hg1 B1
        go_wp2_with (at_builtin; refine wpList_append_own _ rfl _ _ 35 rfl B 5 i0 (.int .u8 0) 1 1 Tryd.underlying35 hi hz0 hz1 hz2 rfl (by decide) _ _ _ rfl (H1.out.alloc _) ⟨w1.heap.size, 0, none⟩ 1 1 [.int .u8 34] rfl rfl (World.news_of_block (heap_alloc_new _ _)) (by intro u hu; simp at hu; (first | (rcases hu with rfl | rfl <;> rfl) | (subst hu; rfl))) (by unfold maxLen; omega) (by omega) (by simp; omega) ?_)
        intro v2 w2 ho2 hg2 _
        go_wp2_with fail
        go_ret
        exact ⟨_, rfl, by rw [E.out]; simpa [Lib.byteCells] using ho2, (HB1.out.alloc hBw1 _).grown hg2 (by simp; omega) (fun k hk => (H1.out.lt k hk).1)⟩
      · have E := Lib.hid (show chrL c = [92, 92] by unfold chrL; rw [if_neg (by omega), if_pos h3])
        rw [show (c.toNat : Int) = 92 by omega]
        clear h1 h2 h3 h5 g1 g2 g5 g6
        go_enter Tryd.func19, Tryd.ntmps19
        go_wp2_with (at_builtin; refine wpList_append_own _ rfl _ _ 35 rfl B 5 i0 (.int .u8 0) 1 1 Tryd.underlying35 hi hz0 hz1 hz2 rfl (by decide) _ _ _ rfl (hown.alloc _) ⟨w.heap.size, 0, none⟩ 1 1 [.int .u8 92] rfl rfl (World.news_of_block (heap_alloc_new _ _)) (by intro u hu; simp at hu; (first | (rcases hu with rfl | rfl <;> rfl) | (subst hu; rfl))) (by unfold maxLen; omega) (by omega) (by simp; omega) ?_)
        intro v1 w1 ho1 hg1 _
        have B1 : Below B w w1 := ((Below.refl _ w).alloc hBw _).grown hg1 (by simp; omega) (fun k hk => (hown.lt k hk).1)
        have hBw1 : B ≤ w1.heap.size := Nat.le_trans hBw B1.size
        have H1 := Lib.hid ho1
        have HB1 := Lib.hid B1
        clear ho1 hg1 B1
        go_wp2_with (at_builtin; refine wpList_append_own _ rfl _ _ 35 rfl B 5 i0 (.int .u8 0) 1 1 Tryd.underlying35 hi hz0 hz1 hz2 rfl (by decide) _ _ _ rfl (H1.out.alloc _) ⟨w1.heap.size, 0, none⟩ 1 1 [.int .u8 92] rfl rfl (World.news_of_block (heap_alloc_new _ _)) (by intro u hu; simp at hu; (first | (rcases hu with rfl | rfl <;> rfl) | (subst hu; rfl))) (by unfold maxLen; omega) (by omega) (by simp; omega) ?_)
        intro v2 w2 ho2 hg2 _
        go_wp2_with fail
        go_ret
        exact ⟨_, rfl, by rw [E.out]; simpa [Lib.byteCells] using ho2, (HB1.out.alloc hBw1 _).grown hg2 (by simp; omega) (fun k hk => (H1.out.lt k hk).1)⟩
    · have g3 : ((c.toNat : Int) == 34) = false := by rw [beq_eq_false_iff_ne]; omega
      have g4 : ((c.toNat : Int) == 92) = false := by rw [beq_eq_false_iff_ne]; omega
      have E := Lib.hid (show chrL c = [c] by unfold chrL; rw [if_neg (by omega), if_neg (by omega), if_neg h1, if_neg h2, if_pos h5])
      clear h1 h2 h3 h5
      go_enter Tryd.func19, Tryd.ntmps19
      go_wp2_with (at_builtin; refine wpList_append_own _ rfl _ _ 35 rfl B 5 i0 (.int .u8 0) 1 1 Tryd.underlying35 hi hz0 hz1 hz2 rfl (by decide) _ _ _ rfl (hown.alloc _) ⟨w.heap.size, 0, none⟩ 1 1 [.int .u8 c.toNat] rfl rfl (World.news_of_block (heap_alloc_new _ _)) (by intro u hu; simp at hu; (first | (rcases hu with rfl | rfl <;> rfl) | (subst hu; rfl))) (by unfold maxLen; omega) (by omega) (by simp; omega) ?_)
      intro v' w1 ho1 hg1 _
      go_wp2_with fail
      go_ret
      exact ⟨_, rfl, by rw [E.out]; exact ho1, ((Below.refl _ w).alloc hBw _).grown hg1 (by simp; omega) (fun k hk => (hown.lt k hk).1)⟩
  · have e : chrL c = [92, 120, hexD (c.toNat / 16), hexD (c.toNat % 16)] := by unfold chrL; rw [if_neg (by omega), if_neg (by omega), if_neg h1, if_neg h2, if_neg h5]
    rw [e]
    exact appHex_any B n c.toNat c.toNat_lt h1 h2 (by omega) sv xs w hown hBw hlim
theorem flat_snoc (s : List UInt8) (j : Nat) (h : j < s.length) : (s.take (j + 1)).flatMap chrL = (s.take j).flatMap chrL ++ chrL s[j] := by
  rw [List.take_succ_eq_append_getElem h, List.flatMap_append]
  simp
theorem str_at (s : ByteArray) (j : Nat) (h : j < s.size) : s.data.toList[j]'(by rw [lenB]; exact h) = s[j] := rfl
theorem flat_le {α β : Type} (f : α → List β) (l : List α) (j : Nat) (hj : j < l.length) : ((l.take j).flatMap f).length + (f l[j]).length ≤ (l.flatMap f).length := by
  have e : (l.flatMap f).length = ((l.take (j + 1) ++ l.drop (j + 1)).flatMap f).length := by rw [List.take_append_drop]
  rw [e, List.flatMap_append, List.length_append, List.take_succ_eq_append_getElem hj, List.flatMap_append, List.length_append]
  simp
theorem chrL_four (c : UInt8) : (chrL c).length ≤ 4 := by
  unfold chrL
  repeat' split
  all_goals simp
end Go.Proofs.YtoliiiijbdoliaaDoor
