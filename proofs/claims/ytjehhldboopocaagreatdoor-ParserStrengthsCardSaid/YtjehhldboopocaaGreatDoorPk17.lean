/- Contracts of functions of the program, and what they are made of (parser; Pk17). -/
import Derived.Test.YtjehhldboopocaaGreatDoorPk03
import Derived.Test.YtjehhldboopocaaGreatDoorPk04
import Derived.Test.YtjehhldboopocaaGreatDoorPk06
import Derived.Test.YtjehhldboopocaaGreatDoorPk16
import Derived.OneCell
import Derived.OwnWalk
import Derived.Maps.AppendAt
import Derived.Deep.AppendLies
import Derived.Deep.RegionLaw
import Derived.Laws.BitsAllLaws
import Derived.IntWalk
import Derived.Shelf.Strings.BuilderK
import Derived.Test.YtjehhldboopocaaGreatDoorProg
namespace Go.Proofs.YtjehhldboopocaaGreatDoor.Lx
open Go.RowKit Go.Lib
set_option linter.unusedVariables false
theorem StkE.els {Z : Nat → Prop} {R : Nat} {G : Value} {L : List Xp} {w : World} (h : StkE Z R G L w) : ∃ Cs, w.ownsRow (R + 1) 29 10 G L.length Cs.flatten ∧ Els (OkB Z R G) w Cs L := by
  obtain ⟨Cs, h1, h2, h3⟩ := h
  exact ⟨Cs, h1, h2, h3⟩
theorem build_fin {w0 : World} {ta : Option Addr} {tc : Nat} {toks : List Tm} {Z : Nat → Prop} {R i : Nat} {G : Value} {L A : List Xp} {w : World} (h : RS w0 ta tc toks Z R i G (L ++ A) w) (hZ : ∀ k, Z k → k < w.heap.size) (hL1 : L.length + 1 ≤ i)
    (hAl : A.length * 160 ≤ 140737488351232) (k : Int) (n : List UInt8) (hk : -9223372036854775808 ≤ k ∧ k ≤ 9223372036854775807) (hn : n.length ≤ 140737488351232) {Cs Ds : List (List Value)} (he : Els (OkB Z R G) w (Cs ++ Ds) (L ++ A)) (hCl : Cs.length = L.length)
    {wA : World} {av : Value} (hA : Below w.heap.size w wA) (hav : wA.ownsRow w.heap.size 29 10 av A.length Ds.flatten) {wX : World} (hX : Below wA.heap.size wA wX) {v6 G1 : Value} {w6 : World} {g cap : Nat} (hG1 : G1.ownBlock = G.ownBlock)
    (hg6 : wX.grownBy w6 G1.ownBlock) (hv6 : v6 = .slice (some ⟨g, 0, none⟩) (L.length + 1) cap) (ho6 : w6.ownsRow (R + 1) 29 10 v6 (L.length + 1) (Cs.flatten ++ zeroC)) (hat : v6.ownBlock = G1.ownBlock ∨ v6.ownBlock = some wX.heap.size)
    (W : World) (hW : W = (((w6.setCell ⟨R, 5, none⟩ v6).setCell ⟨g, L.length * 10, none⟩ (.int .i64 k)).setCell ⟨g, L.length * 10 + 1, none⟩ (.string ⟨n.toArray⟩)).setCell ⟨g, L.length * 10 + 8, none⟩ av) :
    RS w0 ta tc toks Z R i v6 (L ++ [.mk k zeroV n A []]) W ∧ Fm R G v6 w W := by
  have hz1 := hA.size
  have hz2 := hX.size
  have hz3 := hg6.size
  have hzW : W.heap.size = w6.heap.size := by rw [hW]; simp
  have hRlt := h.Rlt
  have hGlt := h.glt
  have hvb : v6.ownBlock = some g := by rw [hv6]; rfl
  have hgR : g ≠ R := by
    have := (World.ownsRow.lt ho6 g hvb).1
    omega
  have hgcase : G.ownBlock = some g ∨ g = wX.heap.size := by
    rcases hat with e | e
    · rw [hvb, hG1] at e; exact .inl e.symm
    · rw [hvb] at e; injection e with e; exact .inr e
  have hw6 : ∀ j, j < w.heap.size → some j ≠ G.ownBlock → w6.heap[j]? = w.heap[j]? := fun j h1 h2 =>
    (hg6.block j (by omega) (by rw [hG1]; exact h2)).trans ((hX.block j (by omega)).trans (hA.block j h1))
  have hWo : ∀ j, j ≠ R → j ≠ g → W.heap[j]? = w6.heap[j]? := fun j h1 h2 => by
    rw [hW, Below.heap_setCell _ _ _ j h2, Below.heap_setCell _ _ _ j h2, Below.heap_setCell _ _ _ j h2, Below.heap_setCell _ _ _ j h1]
  have hkeep : ∀ j, j < w.heap.size → j ≠ R → some j ≠ G.ownBlock → W.heap[j]? = w.heap[j]? := fun j h1 h2 h3 => by
    rw [hWo j h2 (by
      intro e
      subst e
      rcases hgcase with e | e
      · exact h3 e.symm
      · omega)]
    exact hw6 j h1 h3
  have hten : ∀ C, C ∈ Cs → C.length = 10 := fun C hC => he.ten C (List.mem_append_left _ hC)
  have hfl : Cs.flatten.length = L.length * 10 := by rw [flat10_len Cs hten, hCl]
  have hOk : ∀ j, j < w.heap.size → OkB Z R G j → OkB Z R v6 j := fun j h1 h2 => by
    refine ⟨h2.1, ?_, h2.2.2⟩
    rw [hvb]
    intro e
    injection e with e
    subst e
    rcases hgcase with e | e
    · exact h2.2.1 e.symm
    · omega
  have hEls : Els (OkB Z R v6) W (Cs ++ Ds) (L ++ A) := he.on (by omega) fun j h1 h2 => ⟨hkeep j h1 h2.1 h2.2.1, hOk j h1 h2⟩
  have hArgs : ∀ ga, av.ownBlock = some ga → ga ≠ R ∧ ga ≠ g ∧ ga < wA.heap.size ∧ w.heap.size ≤ ga := fun ga hga => by
    obtain ⟨h1, h2⟩ := World.ownsRow.lt hav ga hga
    refine ⟨by omega, ?_, h2, h1⟩
    rcases hgcase with e | e
    · have := (hGlt g e).2
      omega
    · omega
  have havW : W.ownsRow w.heap.size 29 10 av A.length Ds.flatten := own_stays hav fun ga hga => by
    obtain ⟨h1, h2, h3, h4⟩ := hArgs ga hga
    rw [hWo ga h1 h2, hg6.block ga (by omega) (by
      rw [hG1]
      intro e
      have := (hGlt ga e.symm).2
      omega), hX.block ga h3]
  obtain ⟨m, hm⟩ := new_node k n hk hn (hEls.right hCl) hAl havW fun ga hga => by
    obtain ⟨h1, h2, h3, h4⟩ := hArgs ga hga
    refine ⟨h1, ?_, fun hz => by have := hZ ga hz; omega⟩
    rw [hvb]
    intro e
    injection e with e
    exact h2 e
  have hrow : W.ownsRow (R + 1) 29 10 v6 (L.length + 1) (Cs ++ [[.int .i64 k, .string ⟨n.toArray⟩, .int .i64 0, .bool false, .int .i64 0, .string ⟨#[]⟩, .slice none 0 0, .slice none 0 0, av, .slice none 0 0]]).flatten := by
    have h1 : (w6.setCell ⟨R, 5, none⟩ v6).ownsRow (R + 1) 29 10 v6 (L.length + 1) (Cs.flatten ++ zeroC) := ownsRow_setCell_other ho6 (by rw [hvb]; intro e; injection e with e; exact hgR e) v6
    rw [hv6] at h1 ⊢
    have h2 := own_set (own_set (own_set h1 (L.length * 10) (.int .i64 k)) (L.length * 10 + 1) (.string ⟨n.toArray⟩)) (L.length * 10 + 8) av
    rw [← hv6] at h2
    rw [hW]
    rw [List.flatten_append, List.flatten_cons, List.flatten_nil, List.append_nil]
    have e1 : (Cs.flatten ++ zeroC).set (L.length * 10) (.int .i64 k) = Cs.flatten ++ zeroC.set 0 (.int .i64 k) := by
      have := append_set Cs.flatten zeroC 0 (.int .i64 k)
      rw [hfl, Nat.add_zero] at this
      exact this
    have e2 := append_set Cs.flatten (zeroC.set 0 (.int .i64 k)) 1 (.string ⟨n.toArray⟩)
    rw [hfl] at e2
    have e3 := append_set Cs.flatten ((zeroC.set 0 (.int .i64 k)).set 1 (.string ⟨n.toArray⟩)) 8 av
    rw [hfl] at e3
    rw [e1, e2, e3] at h2
    rw [← hv6]
    exact h2
  refine ⟨⟨?_, h.hR, h.hi, by rw [List.length_append, List.length_singleton]; exact hL1, ?_, ?_⟩, ?_⟩
  · have hb := h.below
    have hR := h.hR
    refine ⟨?_, ?_, ?_, by have := hb.size; omega, fun j hj => ?_⟩
    · rw [hW]; exact hg6.os.trans (hX.os.trans (hA.os.trans hb.os))
    · rw [hW]; exact hg6.tape.trans (hX.tape.trans (hA.tape.trans hb.tape))
    · rw [hW]; exact hg6.output.trans (hX.output.trans (hA.output.trans hb.output))
    · have hz := hb.size
      refine (hkeep j (by omega) (by omega) fun e => ?_).trans (hb.block j hj)
      have := (hGlt j e.symm).1
      omega
  · obtain ⟨na, hc⟩ := h.box
    have hc6 : CellsAt w6 R 61 _ := hc.of_block (hw6 R hRlt fun e => by have := (hGlt R e.symm).1; omega)
    refine ⟨na, ?_⟩
    rw [hW]
    exact (((hc6.set 5 v6).other (Ne.symm hgR) _ _).other (Ne.symm hgR) _ _).other (Ne.symm hgR) _ _
  · refine ⟨_, by rw [List.length_append, List.length_singleton]; exact hrow, ?_⟩
    exact (hEls.left hCl).snoc hm
  · refine ⟨?_, ?_, ?_, by omega, hkeep, ?_⟩
    · rw [hW]; exact hg6.os.trans (hX.os.trans hA.os)
    · rw [hW]; exact hg6.tape.trans (hX.tape.trans hA.tape)
    · rw [hW]; exact hg6.output.trans (hX.output.trans hA.output)
    · rcases hgcase with e | e
      · exact .inl (by rw [hvb, e])
      · exact .inr ⟨g, hvb, by omega⟩
end Go.Proofs.YtjehhldboopocaaGreatDoor.Lx
namespace Go.Proofs.YtjehhldboopocaaGreatDoor.Lx
open Go.RowKit Go.Lib
set_option linter.unusedVariables false
/-- What comes back owns the cells that were there and, behind them, those of l. -/
def OwnB (B n : Nat) (xs : List Value) (w : World) (l : List UInt8) (e : Ending) (w' : World) : Prop :=
  ∃ v', e = .returned v' ∧ w'.ownsRow B 5 1 v' (n + l.length) (xs ++ Lib.byteCells l) ∧ Below B w w'
theorem OwnB.own {B n : Nat} {xs : List Value} {w' : World} {a b : List UInt8} {v : Value} (h : w'.ownsRow B 5 1 v (n + a.length + b.length) (xs ++ Lib.byteCells a ++ Lib.byteCells b)) : w'.ownsRow B 5 1 v (n + (a ++ b).length) (xs ++ Lib.byteCells (a ++ b)) := by
  rw [byteCells_app, List.length_append, ← List.append_assoc, ← Nat.add_assoc]
  exact h
def hexS : ByteArray := ⟨#[48, 49, 50, 51, 52, 53, 54, 55, 56, 57, 97, 98, 99, 100, 101, 102]⟩
theorem hexAt : ∀ i : Fin 16, (hexS[i.1]'i.2) = hexD i.1 := by decide
theorem hexAt' (z : Int) (n : Nat) (hn : n < 16) (hz : z = n) (h : z.toNat < (⟨#[48, 49, 50, 51, 52, 53, 54, 55, 56, 57, 97, 98, 99, 100, 101, 102]⟩ : ByteArray).size) : (⟨#[48, 49, 50, 51, 52, 53, 54, 55, 56, 57, 97, 98, 99, 100, 101, 102]⟩ : ByteArray)[z.toNat]'h = hexD n := by
  subst hz
  exact hexAt ⟨n, hn⟩
set_option maxHeartbeats 4000000 in
set_option maxRecDepth 100000 in
theorem appHex_any (B n : Nat) (c : Nat) (hc : c < 256) (h3 : c ≠ 10) (h4 : c ≠ 9) (h5 : c < 32 ∨ 126 < c) (sv : Value) (xs : List Value) (w : World) (hown : w.ownsRow B 5 1 sv n xs) (hBw : B ≤ w.heap.size) (hlim : n + 4 ≤ 140737488355328) :
    Calls Tryz.prog 145 #[sv, .int .u8 c] w (OwnB B n xs w [92, 120, hexD (c / 16), hexD (c % 16)]) := by
  obtain ⟨i0, hi, hz0, hz1, hz2⟩ := info_parts info8
  have g3 : ((c : Int) == 10) = false := by rw [beq_eq_false_iff_ne]; omega
  have g4 : ((c : Int) == 9) = false := by rw [beq_eq_false_iff_ne]; omega
  have b0 : (0 : Int) ≤ (c : Int) ∧ (c : Int) ≤ 255 := by omega
  have b1 : (0 : Int) ≤ (c : Int) / 16 ∧ (c : Int) / 16 < 16 := by omega
  have b2 : (0 : Int) ≤ (c : Int) % 16 ∧ (c : Int) % 16 < 16 := by omega
  have x1 := fun h => hexAt' ((c : Int) / 16) (c / 16) (by omega) (by omega) h
  have x2 := fun h => hexAt' ((c : Int) % 16) (c % 16) (by omega) (by omega) h
  have v1 : IntKind.u8.wrap ((c : Int).tdiv 16) = (c : Int) / 16 := IntWalk.u8_quo _ _ (by omega)
  have v1b : IntKind.u8.wrap ((c : Int) / 16) = (c : Int) / 16 := IntWalk.u8_in _ (by omega)
  have v2 : (c : Int).tmod 16 = (c : Int) % 16 := IntWalk.rem_in _ _ (by omega)
  by_cases h6 : c < 32
  · have g5 : (c : Int) < 32 := by omega
    clear h3 h4 h5 h6
    go_enter Tryz.func145, Tryz.ntmps145
    go_wp2_with fail
    go_region_law (refine step_append_lies _ rfl (.tmp 24) (.tmp 31) 46 rfl B 5 i0 (.int .u8 0) 1 1 Tryz.underlying46 hi hz0 hz1 hz2 rfl (by decide) sv n xs rfl (hown.drew.alloc _) ⟨w.heap.size, 0, none⟩ 4 4 [.int .u8 92, .int .u8 120, .int .u8 (hexD (c / 16)).toNat, .int .u8 (hexD (c % 16)).toNat] rfl rfl (World.news_of_block (heap_alloc_new w.drew _)) (by intro u hu; simp at hu; rcases hu with rfl | rfl | rfl | rfl <;> rfl) (by decide) (by unfold maxLen; omega) (by omega) (by simp; omega) _ rfl ?_; intro g1 cap1 w1 ho1 hg1 hl1 hl2)
    all_goals
      go_wp2_with fail
      go_ret
      exact ⟨_, rfl, ho1, ((Below.refl _ w).alloc hBw _).drew.grown hg1 (by simp; omega) (fun k hk => (hown.lt k hk).1)⟩
  · have g5 : ¬ (c : Int) < 32 := by omega
    have g6 : (126 : Int) < c := by omega
    clear h3 h4 h5 h6
    go_enter Tryz.func145, Tryz.ntmps145
    go_wp2_with fail
    go_region_law (refine step_append_lies _ rfl (.tmp 24) (.tmp 31) 46 rfl B 5 i0 (.int .u8 0) 1 1 Tryz.underlying46 hi hz0 hz1 hz2 rfl (by decide) sv n xs rfl (hown.drew.alloc _) ⟨w.heap.size, 0, none⟩ 4 4 [.int .u8 92, .int .u8 120, .int .u8 (hexD (c / 16)).toNat, .int .u8 (hexD (c % 16)).toNat] rfl rfl (World.news_of_block (heap_alloc_new w.drew _)) (by intro u hu; simp at hu; rcases hu with rfl | rfl | rfl | rfl <;> rfl) (by decide) (by unfold maxLen; omega) (by omega) (by simp; omega) _ rfl ?_; intro g1 cap1 w1 ho1 hg1 hl1 hl2)
    all_goals
      go_wp2_with fail
      go_ret
      exact ⟨_, rfl, ho1, ((Below.refl _ w).alloc hBw _).drew.grown hg1 (by simp; omega) (fun k hk => (hown.lt k hk).1)⟩
set_option maxHeartbeats 4000000 in
set_option maxRecDepth 100000 in
theorem appChar_any (B n : Nat) (c : UInt8) (sv : Value) (xs : List Value) (w : World) (hown : w.ownsRow B 5 1 sv n xs) (hBw : B ≤ w.heap.size) (hlim : n + 4 ≤ 140737488355328) :
    Calls Tryz.prog 145 #[sv, .int .u8 c.toNat] w (OwnB B n xs w (chrL c)) := by
  obtain ⟨i0, hi, hz0, hz1, hz2⟩ := info_parts info8
  by_cases h1 : c.toNat = 10
  · have E := Lib.hid (show chrL c = [92, 110] by unfold chrL; rw [if_neg (by omega), if_neg (by omega), if_pos h1])
    rw [show (c.toNat : Int) = 10 by omega]
    clear h1
    go_enter Tryz.func145, Tryz.ntmps145
    go_wp2_with (at_builtin; refine wpList_append_own _ rfl _ _ 46 rfl B 5 i0 (.int .u8 0) 1 1 Tryz.underlying46 hi hz0 hz1 hz2 rfl (by decide) _ _ _ rfl (hown.alloc _) ⟨w.heap.size, 0, none⟩ 2 2 [.int .u8 92, .int .u8 110] rfl rfl (World.news_of_block (heap_alloc_new _ _)) (by intro u hu; simp at hu; (first | (rcases hu with rfl | rfl <;> rfl) | (subst hu; rfl))) (by unfold maxLen; omega) (by omega) (by simp; omega) ?_)
    intro v' w1 ho1 hg1 _
    go_wp2_with fail
    go_ret
    exact ⟨_, rfl, by rw [E.out]; exact ho1, ((Below.refl _ w).alloc hBw _).grown hg1 (by simp; omega) (fun k hk => (hown.lt k hk).1)⟩
  have g1 : ((c.toNat : Int) == 10) = false := by rw [beq_eq_false_iff_ne]; omega
  by_cases h2 : c.toNat = 9
  · have E := Lib.hid (show chrL c = [92, 116] by unfold chrL; rw [if_neg (by omega), if_neg (by omega), if_neg h1, if_pos h2])
    rw [show (c.toNat : Int) = 9 by omega]
    clear h1 h2 g1
    go_enter Tryz.func145, Tryz.ntmps145
    go_wp2_with (at_builtin; refine wpList_append_own _ rfl _ _ 46 rfl B 5 i0 (.int .u8 0) 1 1 Tryz.underlying46 hi hz0 hz1 hz2 rfl (by decide) _ _ _ rfl (hown.alloc _) ⟨w.heap.size, 0, none⟩ 2 2 [.int .u8 92, .int .u8 116] rfl rfl (World.news_of_block (heap_alloc_new _ _)) (by intro u hu; simp at hu; (first | (rcases hu with rfl | rfl <;> rfl) | (subst hu; rfl))) (by unfold maxLen; omega) (by omega) (by simp; omega) ?_)
    intro v' w1 ho1 hg1 _
    go_wp2_with fail
    go_ret
    exact ⟨_, rfl, by rw [E.out]; exact ho1, ((Below.refl _ w).alloc hBw _).grown hg1 (by simp; omega) (fun k hk => (hown.lt k hk).1)⟩
  have g2 : ((c.toNat : Int) == 9) = false := by rw [beq_eq_false_iff_ne]; omega
  by_cases h5 : 32 ≤ c.toNat ∧ c.toNat ≤ 126
  · have g5 : ¬ (c.toNat : Int) < 32 := by omega
    have g6 : ¬ (126 : Int) < (c.toNat : Int) := by omega
    by_cases h3 : c.toNat = 34 ∨ c.toNat = 92
    · rcases h3 with h3 | h3
      · have E := Lib.hid (show chrL c = [92, 34] by unfold chrL; rw [if_pos h3])
        rw [show (c.toNat : Int) = 34 by omega]
        clear h1 h2 h3 h5 g1 g2 g5 g6
        go_enter Tryz.func145, Tryz.ntmps145
        go_wp2_with (at_builtin; refine wpList_append_own _ rfl _ _ 46 rfl B 5 i0 (.int .u8 0) 1 1 Tryz.underlying46 hi hz0 hz1 hz2 rfl (by decide) _ _ _ rfl (hown.alloc _) ⟨w.heap.size, 0, none⟩ 1 1 [.int .u8 92] rfl rfl (World.news_of_block (heap_alloc_new _ _)) (by intro u hu; simp at hu; (first | (rcases hu with rfl | rfl <;> rfl) | (subst hu; rfl))) (by unfold maxLen; omega) (by omega) (by simp; omega) ?_)
        intro v1 w1 ho1 hg1 _
        have B1 : Below B w w1 := ((Below.refl _ w).alloc hBw _).grown hg1 (by simp; omega) (fun k hk => (hown.lt k hk).1)
        have hBw1 : B ≤ w1.heap.size := Nat.le_trans hBw B1.size
        have H1 := Lib.hid ho1
        have HB1 := Lib.hid B1
        clear ho1 hg1 B1
        go_wp2_with (at_builtin; refine wpList_append_own _ rfl _ _ 46 rfl B 5 i0 (.int .u8 0) 1 1 Tryz.underlying46 hi hz0 hz1 hz2 rfl (by decide) _ _ _ rfl (H1.out.alloc _) ⟨w1.heap.size, 0, none⟩ 1 1 [.int .u8 34] rfl rfl (World.news_of_block (heap_alloc_new _ _)) (by intro u hu; simp at hu; (first | (rcases hu with rfl | rfl <;> rfl) | (subst hu; rfl))) (by unfold maxLen; omega) (by omega) (by simp; omega) ?_)
        intro v2 w2 ho2 hg2 _
        go_wp2_with fail
        go_ret
        exact ⟨_, rfl, by rw [E.out]; simpa [Lib.byteCells] using ho2, (HB1.out.alloc hBw1 _).grown hg2 (by simp; omega) (fun k hk => (H1.out.lt k hk).1)⟩
      · have E := Lib.hid (show chrL c = [92, 92] by unfold chrL; rw [if_neg (by omega), if_pos h3])
        rw [show (c.toNat : Int) = 92 by omega]
        clear h1 h2 h3 h5 g1 g2 g5 g6
        go_enter Tryz.func145, Tryz.ntmps145
        go_wp2_with (at_builtin; refine wpList_append_own _ rfl _ _ 46 rfl B 5 i0 (.int .u8 0) 1 1 Tryz.underlying46 hi hz0 hz1 hz2 rfl (by decide) _ _ _ rfl (hown.alloc _) ⟨w.heap.size, 0, none⟩ 1 1 [.int .u8 92] rfl rfl (World.news_of_block (heap_alloc_new _ _)) (by intro u hu; simp at hu; (first | (rcases hu with rfl | rfl <;> rfl) | (subst hu; rfl))) (by unfold maxLen; omega) (by omega) (by simp; omega) ?_)
        intro v1 w1 ho1 hg1 _
        have B1 : Below B w w1 := ((Below.refl _ w).alloc hBw _).grown hg1 (by simp; omega) (fun k hk => (hown.lt k hk).1)
        have hBw1 : B ≤ w1.heap.size := Nat.le_trans hBw B1.size
        have H1 := Lib.hid ho1
        have HB1 := Lib.hid B1
        clear ho1 hg1 B1
        go_wp2_with (at_builtin; refine wpList_append_own _ rfl _ _ 46 rfl B 5 i0 (.int .u8 0) 1 1 Tryz.underlying46 hi hz0 hz1 hz2 rfl (by decide) _ _ _ rfl (H1.out.alloc _) ⟨w1.heap.size, 0, none⟩ 1 1 [.int .u8 92] rfl rfl (World.news_of_block (heap_alloc_new _ _)) (by intro u hu; simp at hu; (first | (rcases hu with rfl | rfl <;> rfl) | (subst hu; rfl))) (by unfold maxLen; omega) (by omega) (by simp; omega) ?_)
        intro v2 w2 ho2 hg2 _
        go_wp2_with fail
        go_ret
        exact ⟨_, rfl, by rw [E.out]; simpa [Lib.byteCells] using ho2, (HB1.out.alloc hBw1 _).grown hg2 (by simp; omega) (fun k hk => (H1.out.lt k hk).1)⟩
    · have g3 : ((c.toNat : Int) == 34) = false := by rw [beq_eq_false_iff_ne]; omega
      have g4 : ((c.toNat : Int) == 92) = false := by rw [beq_eq_false_iff_ne]; omega
      have E := Lib.hid (show chrL c = [c] by unfold chrL; rw [if_neg (by omega), if_neg (by omega), if_neg h1, if_neg h2, if_pos h5])
      clear h1 h2 h3 h5
      go_enter Tryz.func145, Tryz.ntmps145
      go_wp2_with (at_builtin; refine wpList_append_own _ rfl _ _ 46 rfl B 5 i0 (.int .u8 0) 1 1 Tryz.underlying46 hi hz0 hz1 hz2 rfl (by decide) _ _ _ rfl (hown.alloc _) ⟨w.heap.size, 0, none⟩ 1 1 [.int .u8 c.toNat] rfl rfl (World.news_of_block (heap_alloc_new _ _)) (by intro u hu; simp at hu; (first | (rcases hu with rfl | rfl <;> rfl) | (subst hu; rfl))) (by unfold maxLen; omega) (by omega) (by simp; omega) ?_)
      intro v' w1 ho1 hg1 _
      go_wp2_with fail
      go_ret
      exact ⟨_, rfl, by rw [E.out]; exact ho1, ((Below.refl _ w).alloc hBw _).grown hg1 (by simp; omega) (fun k hk => (hown.lt k hk).1)⟩
  · have e : chrL c = [92, 120, hexD (c.toNat / 16), hexD (c.toNat % 16)] := by unfold chrL; rw [if_neg (by omega), if_neg (by omega), if_neg h1, if_neg h2, if_neg h5]
    rw [e]
    exact appHex_any B n c.toNat c.toNat_lt h1 h2 (by omega) sv xs w hown hBw hlim
theorem flat_snoc (s : List UInt8) (j : Nat) (h : j < s.length) : (s.take (j + 1)).flatMap chrL = (s.take j).flatMap chrL ++ chrL s[j] := by
  rw [List.take_succ_eq_append_getElem h, List.flatMap_append]
  simp
theorem str_at (s : ByteArray) (j : Nat) (h : j < s.size) : s.data.toList[j]'(by rw [lenB]; exact h) = s[j] := rfl
theorem flat_le {α β : Type} (f : α → List β) (l : List α) (j : Nat) (hj : j < l.length) : ((l.take j).flatMap f).length + (f l[j]).length ≤ (l.flatMap f).length := by
  have e : (l.flatMap f).length = ((l.take (j + 1) ++ l.drop (j + 1)).flatMap f).length := by rw [List.take_append_drop]
  rw [e, List.flatMap_append, List.length_append, List.take_succ_eq_append_getElem hj, List.flatMap_append, List.length_append]
  simp
theorem chrL_four (c : UInt8) : (chrL c).length ≤ 4 := by
  unfold chrL
  repeat' split
  all_goals simp
end Go.Proofs.YtjehhldboopocaaGreatDoor.Lx
namespace Go.Proofs.YtjehhldboopocaaGreatDoor.Lx
open Go.RowKit Go.Lib
set_option linter.unusedVariables false
set_option maxHeartbeats 4000000 in
set_option maxRecDepth 100000 in
theorem Quote_any (s : ByteArray) (hlim : (quoL s.data.toList).length ≤ 140737488351232) (w : World) :
    Calls Tryz.prog 105 #[.string s] w fun e w' => e = .returned (.string ⟨(quoL s.data.toList).toArray⟩) ∧ Below w.heap.size w w' := by
  obtain ⟨i0, hi, hz0, hz1, hz2⟩ := info_parts info8
  have hsl := lenB s
  have hq : (quoL s.data.toList).length = (s.data.toList.flatMap chrL).length + 2 := by simp [quoL]
  have hs : s.size ≤ 140737488351232 := by
    have := flat_pos s.data.toList
    omega
  have hB : w.heap.size ≤ w.heap.size := Nat.le_refl _
  have hwr : IntKind.i64.wrap ((s.size : Int) + 2) = (s.size : Int) + 2 := by rw [IntKind.wrap_i64]; omega
  go_enter Tryz.func105, Tryz.ntmps105
  go_wp2_with (at_make; refine wpList_make_own _ rfl _ _ 46 rfl w.heap.size 5 i0 (.int .u8 0) 1 Tryz.underlying46 hi hz0 hz1 .i64 .i64 ((s.size : Int) + 2) (s.size + 2) rfl rfl (by omega) (by rw [hz2]; omega) (by unfold maxLen; omega) (Nat.le_refl _) ?_)
  intro w1 ho1 hg1
  have B1 := Lib.hid ((Below.refl w.heap.size w).grown hg1 (Nat.le_refl _) (fun k hk => by cases hk))
  have H1 := Lib.hid ho1
  have hs1 : w.heap.size ≤ w1.heap.size := B1.out.size
  clear ho1 hg1
  go_wp2_with (at_builtin; refine wpList_append_own _ rfl _ _ 46 rfl w.heap.size 5 i0 (.int .u8 0) 1 1 Tryz.underlying46 hi hz0 hz1 hz2 rfl (by decide) _ _ _ rfl (H1.out.alloc _) ⟨w1.heap.size, 0, none⟩ 1 1 [.int .u8 34] rfl rfl (World.news_of_block (heap_alloc_new _ _)) (by intro u hu; simp at hu; subst hu; rfl) (by unfold maxLen; omega) (by omega) (by simp; omega) ?_)
  intro v2 w2 ho2 hg2 _
  have B2 := Lib.hid ((B1.out.alloc hs1 _).grown hg2 (by simp; omega) (fun k hk => (H1.out.lt k hk).1))
  have H2 := Lib.hid ho2
  clear ho2 hg2 H1
  go_wp2_with fail
  go_loopw [3, 14] (fun s0 s11 wr => ∃ j : Nat, j ≤ s.size ∧ s11 = .int .i64 (j : Int) ∧ Hid (wr.ownsRow w.heap.size 5 1 s0 (1 + ((s.data.toList.take j).flatMap chrL).length) ([.int .u8 34] ++ Lib.byteCells ((s.data.toList.take j).flatMap chrL))) ∧ Hid (Below w.heap.size w wr)) (fun _ s11 _ => s.size - (RowKit.intOf s11).toNat)
  case atStart => exact ⟨0, by omega, rfl, Lib.hid (by simpa [Lib.byteCells] using H2.out), B2⟩
  case round =>
    obtain ⟨j, hj, rfl, HO, HB⟩ := hrel
    clear H2 B2 B1 hs1
    have hbw : w.heap.size ≤ wr.heap.size := HB.out.size
    by_cases hlt : j < s.size
    · have hlt' : j < s.data.toList.length := by omega
      have hsn := flat_snoc s.data.toList j hlt'
      have hle := flat_le chrL s.data.toList j hlt'
      have hc := chrL_four s.data.toList[j]
      have F := Lib.hid (appChar_any w.heap.size _ s.data.toList[j] _ _ wr HO.out hbw (by omega))
      rw [str_at s j hlt] at F hsn
      have HSN := Lib.hid hsn
      have hjI : (0 : Int) ≤ (j : Int) ∧ (j : Int) < (s.size : Int) := by omega
      clear hsn hle hc
      go_wp2_with fail
      go_fit F.out
      rintro e w2 ⟨v2, rfl, h1, h2⟩
      have H1 := Lib.hid h1
      have H2 := Lib.hid (HB.out.trans h2)
      clear h1 h2
      go_wp2_with fail
      refine ⟨⟨j + 1, by omega, by go_num, Lib.hid ?_, H2⟩, by simp [RowKit.intOf]; omega⟩
      rw [HSN.out]
      exact OwnB.own H1.out
    · obtain rfl : j = s.size := by omega
      have hfl : s.data.toList.take s.size = s.data.toList := List.take_of_length_le (by omega)
      have HO2 := HO.out
      rw [hfl] at HO2
      have HO2 := Lib.hid HO2
      clear hlt hfl HO
      go_wp2_with (at_builtin; refine wpList_append_own _ rfl _ _ 46 rfl w.heap.size 5 i0 (.int .u8 0) 1 1 Tryz.underlying46 hi hz0 hz1 hz2 rfl (by decide) _ _ _ rfl (HO2.out.alloc _) ⟨wr.heap.size, 0, none⟩ 1 1 [.int .u8 34] rfl rfl (World.news_of_block (heap_alloc_new _ _)) (by intro u hu; simp at hu; subst hu; rfl) (by unfold maxLen; omega) (by omega) (by simp; omega) ?_)
      intro v3 w3 ho3 hg3 _
      have B3 := Lib.hid ((HB.out.alloc hbw _).grown hg3 (by simp; omega) (fun k hk => (HO2.out.lt k hk).1))
      have e2 : [Value.int .u8 34] ++ Lib.byteCells (s.data.toList.flatMap chrL) ++ [Value.int .u8 34] = Lib.byteCells (quoL s.data.toList) := by
        unfold quoL
        rw [show (34 : UInt8) :: (s.data.toList.flatMap chrL ++ [34]) = [34] ++ (s.data.toList.flatMap chrL ++ [34]) from rfl, byteCells_app, byteCells_app]
        simp [Lib.byteCells]
      have ho4 : w3.ownsRow w.heap.size 5 1 v3 (quoL s.data.toList).length (Lib.byteCells (quoL s.data.toList)) := by
        rw [← e2, hq, show (s.data.toList.flatMap chrL).length + 2 = 1 + (s.data.toList.flatMap chrL).length + 1 by omega, List.length_flatMap]
        exact ho3
      clear ho3
      obtain ⟨a, c, hv, _, _, hr⟩ := own_reads ho4 rfl
      have CV := conv_str a (quoL s.data.toList) w3 hr c
      obtain ⟨L, hL⟩ : ∃ L, quoL s.data.toList = L := ⟨_, rfl⟩
      have HL := Lib.hid hL
      rw [hL] at CV
      rw [hL] at hv
      subst hv
      clear ho4
      clear hg3 e2 hr hq hlim hL
      go_wp2_with fail
      go_ret
      exact ⟨by rw [HL.out]; rfl, B3.out⟩

set_option maxHeartbeats 4000000 in
set_option maxRecDepth 100000 in
theorem source_any (t : Tm) (hl : (srcM t).length ≤ 140737488351232) (w : World) :
    Calls Tryz.prog 166 #[.agg #[.int .i64 t.kind, .string ⟨t.text.toArray⟩, .int .i64 t.pos]] w fun e w' => e = .returned (.string ⟨(srcM t).toArray⟩) ∧ Below w.heap.size w w' := by
  obtain ⟨k, tx, ps⟩ := t
  show Calls Tryz.prog 166 #[.agg #[.int .i64 k, .string ⟨tx.toArray⟩, .int .i64 ps]] w _
  by_cases h3 : k = 3
  · subst h3
    have E := Lib.hid (show srcM ⟨3, tx, ps⟩ = quoL tx by unfold srcM; rw [if_pos rfl])
    have hl' : (quoL tx).length ≤ 140737488351232 := by rw [← E.out]; exact hl
    have Q := Lib.hid (fun w => Quote_any ⟨tx.toArray⟩ hl' w)
    rw [show (⟨tx.toArray⟩ : ByteArray).data.toList = tx from rfl] at Q
    rw [E.out]
    generalize quoL tx = q at *
    generalize (⟨tx.toArray⟩ : ByteArray) = s at *
    clear hl hl' E
    go_enter Tryz.func166, Tryz.ntmps166
    go_wp2_with fail
    go_fit (Q.out _)
    rintro e w1 ⟨rfl, hb⟩
    have B := Lib.hid (((Below.refl w.heap.size w).alloc (Nat.le_refl _) _).trans (hb.mono (by simp)))
    clear hb
    go_wp2_with fail
    go_ret
    exact ⟨rfl, B.out⟩
  · have g3 : (k == 3) = false := by rw [beq_eq_false_iff_ne]; exact h3
    by_cases h5 : k = 5
    · subst h5
      have E := Lib.hid (show srcM ⟨5, tx, ps⟩ = [10] by unfold srcM; rw [if_neg (show ¬ (5 : Int) = 3 by decide), if_pos rfl])
      rw [E.out]
      generalize (⟨tx.toArray⟩ : ByteArray) = s
      clear hl E h3
      go_enter Tryz.func166, Tryz.ntmps166
      go_wp2_with fail
      go_ret
      exact ⟨rfl, (Below.refl w.heap.size w).alloc (Nat.le_refl _) _⟩
    · have g5 : (k == 5) = false := by rw [beq_eq_false_iff_ne]; exact h5
      have E := Lib.hid (show srcM ⟨k, tx, ps⟩ = tx by unfold srcM; rw [if_neg h3, if_neg h5])
      rw [E.out]
      generalize (⟨tx.toArray⟩ : ByteArray) = s
      clear hl E h3 h5
      go_enter Tryz.func166, Tryz.ntmps166
      go_wp2_with fail
      go_ret
      exact ⟨rfl, (Below.refl w.heap.size w).alloc (Nat.le_refl _) _⟩
end Go.Proofs.YtjehhldboopocaaGreatDoor.Lx
namespace Go.Proofs
open Go.Shelf
def Tryz.laysB_ren : Go.Shelf.Ren := ⟨fun | 166 => 147 | 167 => 165 | 240 => 181 | 276 => 211 | n => n, fun | 0 => 0 | 3 => 3 | 4 => 4 | 5 => 5 | 9 => 9 | 20 => 20 | 37 => 46 | 70 => 144 | 72 => 146 | 75 => 148 | 80 => 133 | 164 => 180 | 127 => 162 | n => n, fun | n => n⟩
theorem Tryz.laysB167 : Go.Proofs.Lays.n167 Tryz.prog Tryz.laysB_ren := {
  mixed := by kernel_rfl
  f167 := Tryz.func165.trans (congrArg some (by kernel_rfl))
  f240 := Tryz.func181.trans (congrArg some (by kernel_rfl))
  f276 := Tryz.func211.trans (congrArg some (by kernel_rfl))
  t0 := Tryz.underlying0
  a0 := Tryz.isAgg0
  z0 := Tryz.sizeOf0
  v0 := Tryz.zeroValue0
  t4 := Tryz.underlying4
  a4 := Tryz.isAgg4
  z4 := Tryz.sizeOf4
  v4 := Tryz.zeroValue4
  t5 := Tryz.underlying5
  a5 := Tryz.isAgg5
  z5 := Tryz.sizeOf5
  v5 := Tryz.zeroValue5
  t9 := Tryz.underlying9
  a9 := Tryz.isAgg9
  z9 := Tryz.sizeOf9
  v9 := Tryz.zeroValue9
  t20 := Tryz.underlying20
  a20 := Tryz.isAgg20
  z20 := Tryz.sizeOf20
  v20 := Tryz.zeroValue20
  t37 := Tryz.underlying46
  a37 := Tryz.isAgg46
  z37 := Tryz.sizeOf46
  v37 := Tryz.zeroValue46
  t70 := Tryz.underlying144
  a70 := Tryz.isAgg144
  z70 := Tryz.sizeOf144
  v70 := Tryz.zeroValue144
  t72 := Tryz.underlying146
  a72 := Tryz.isAgg146
  z72 := Tryz.sizeOf146
  v72 := Tryz.zeroValue146
  t75 := Tryz.underlying148
  a75 := Tryz.isAgg148
  z75 := Tryz.sizeOf148
  v75 := Tryz.zeroValue148
  t164 := Tryz.underlying180
  a164 := Tryz.isAgg180
  z164 := Tryz.sizeOf180
  v164 := Tryz.zeroValue180 }
theorem Tryz.laysB166 : Go.Proofs.Lays.n166 Tryz.prog Tryz.laysB_ren := {
  mixed := by kernel_rfl
  f166 := Tryz.func147.trans (congrArg some (by kernel_rfl))
  f240 := Tryz.func181.trans (congrArg some (by kernel_rfl))
  f276 := Tryz.func211.trans (congrArg some (by kernel_rfl))
  t0 := Tryz.underlying0
  a0 := Tryz.isAgg0
  z0 := Tryz.sizeOf0
  v0 := Tryz.zeroValue0
  t3 := Tryz.underlying3
  a3 := Tryz.isAgg3
  z3 := Tryz.sizeOf3
  v3 := Tryz.zeroValue3
  t4 := Tryz.underlying4
  a4 := Tryz.isAgg4
  z4 := Tryz.sizeOf4
  v4 := Tryz.zeroValue4
  t9 := Tryz.underlying9
  a9 := Tryz.isAgg9
  z9 := Tryz.sizeOf9
  v9 := Tryz.zeroValue9
  t20 := Tryz.underlying20
  a20 := Tryz.isAgg20
  z20 := Tryz.sizeOf20
  v20 := Tryz.zeroValue20
  t37 := Tryz.underlying46
  a37 := Tryz.isAgg46
  z37 := Tryz.sizeOf46
  v37 := Tryz.zeroValue46
  t70 := Tryz.underlying144
  a70 := Tryz.isAgg144
  z70 := Tryz.sizeOf144
  v70 := Tryz.zeroValue144
  t72 := Tryz.underlying146
  a72 := Tryz.isAgg146
  z72 := Tryz.sizeOf146
  v72 := Tryz.zeroValue146
  t75 := Tryz.underlying148
  a75 := Tryz.isAgg148
  z75 := Tryz.sizeOf148
  v75 := Tryz.zeroValue148
  t164 := Tryz.underlying180
  a164 := Tryz.isAgg180
  z164 := Tryz.sizeOf180
  v164 := Tryz.zeroValue180 }
theorem Tryz.BuilderB_Extra : Builder.Extra Tryz.prog Tryz.laysB_ren := {
  sizeBuilder := by kernel_rfl
  liesBuilder := by kernel_rfl
  t5 := Tryz.underlying5
  a5 := Tryz.isAgg5
  z5 := Tryz.sizeOf5
  v5 := Tryz.zeroValue5
  infoByte := by kernel_rfl
  cellsByte := by kernel_rfl
  sizeByte := by kernel_rfl
  neB5 := by decide }
open Go.RowKit in
theorem Tryz.Builder_WriteByte_k (B b : Nat) (bs : List Value) (c : Int) (w : World) (h : Lib.IsBuilderF 146 5 B b bs w) (hlen : bs.length + 1 ≤ 140737488355328) (hBw : B ≤ w.heap.size) :
    Calls Tryz.prog 165 #[.pointer (some ⟨b, 0, none⟩), .int .u8 c] w fun e w' => e = .returned .nilIface ∧ (Lib.BuilderAtF 146 5 B b (.pointer (some ⟨b, 0, none⟩)) (bs ++ [.int .u8 c]) w' ∧ Below B w w' ∧ Lib.OthersKept 5 (some b) w w') := Any.Builder_WriteByte_k Tryz.laysB167 Tryz.BuilderB_Extra B b bs c w h hlen hBw
open Go.RowKit in
theorem Tryz.Builder_WriteString_k (B b : Nat) (bs : List Value) (s : ByteArray) (w : World) (h : Lib.IsBuilderF 146 5 B b bs w) (hlen : bs.length + s.size ≤ 140737488355328) (hBw : B ≤ w.heap.size) :
    Calls Tryz.prog 147 #[.pointer (some ⟨b, 0, none⟩), .string s] w fun e w' => e = .returned (.tuple #[.int .i64 s.size, .nilIface]) ∧ (Lib.BuilderAtF 146 5 B b (.pointer (some ⟨b, 0, none⟩)) (bs ++ Lib.strCells s) w' ∧ Below B w w' ∧ Lib.OthersKept 5 (some b) w w') := Any.Builder_WriteString_k Tryz.laysB166 Tryz.BuilderB_Extra B b bs s w h hlen hBw
open Go.RowKit in
theorem Tryz.Builder_String_any_k (B b : Nat) (l : List UInt8) (w : World) (h : Lib.IsBuilderF 146 5 B b (Lib.byteCells l) w) (hBw : B ≤ w.heap.size) :
    Calls Tryz.prog 148 #[.pointer (some ⟨b, 0, none⟩)] w fun e w' => e = .returned (.string ⟨l.toArray⟩) ∧ (Lib.IsBuilderF 146 5 B b (Lib.byteCells l) w' ∧ Below B w w' ∧ Lib.OthersKept 5 (some b) w w') := Any.Builder_String_any_k Tryz.lays169 Tryz.Builder_Extra_169 B b l w h hBw
end Go.Proofs
