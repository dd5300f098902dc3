/- Contracts of the document's read and Parse (pipelineref08). -/
import Derived.Test.YtabopneehhnhfabDoorTypZ
import Derived.Test.YtabopneehhnhfabDoorTypL
import Derived.Deep.QuietTactic
import Derived.BigQuiet
namespace Go.Proofs.YtabopneehhnhfabDoor
open Go.RowKit Go.Lib

/-- What the document asks of the text of a list or a map. -/
def nodeQ (p : List UInt8) (l : List UInt8) : Prop := p.length + 2 < l.length ∧ l.take p.length = p ∧ l.getD p.length 0 = 40 ∧ l.getD (l.length - 1) 0 = 41
theorem nodeQ_mk (p q : List UInt8) (hq : 1 ≤ q.length) : nodeQ p (p ++ 40 :: (q ++ [41])) := by
  refine ⟨by simp; omega, by simp, ?_, ?_⟩
  · rw [List.getD_eq_getElem?_getD, List.getElem?_append_right (Nat.le_refl _)]
    simp
  · rw [List.getD_eq_getElem?_getD, List.getElem?_append_right (by simp)]
    rw [show (p ++ 40 :: (q ++ [41]) : List UInt8).length - 1 - p.length = q.length + 1 by simp]
    rw [List.getElem?_cons_succ, List.getElem?_append_right (Nat.le_refl _)]
    simp
theorem nodeQ_form {p l : List UInt8} (h : nodeQ p l) : l = p ++ 40 :: (((l.take (l.length - 1)).drop (p.length + 1)) ++ [41]) := by
  obtain ⟨h1, h2, h3, h4⟩ := h
  have e1 : l = l.take p.length ++ l.drop p.length := (List.take_append_drop _ l).symm
  have e2 : l.drop p.length = 40 :: l.drop (p.length + 1) := by
    rw [List.drop_eq_getElem_cons (by omega)]
    congr 1
    rw [List.getD_eq_getElem?_getD, List.getElem?_eq_getElem (by omega)] at h3
    simpa using h3
  have e3 : l.drop (p.length + 1) = ((l.take (l.length - 1)).drop (p.length + 1)) ++ [41] := by
    have hn : l = l.take (l.length - 1) ++ [41] := by
      have h5 : l.take (l.length - 1 + 1) = l.take (l.length - 1) ++ [l[l.length - 1]'(by omega)] := List.take_succ_eq_append_getElem (by omega)
      rw [show l.length - 1 + 1 = l.length by omega, List.take_length] at h5
      rw [List.getD_eq_getElem?_getD, List.getElem?_eq_getElem (by omega)] at h4
      have h6 : l[l.length - 1]'(by omega) = 41 := by simpa using h4
      rw [h6] at h5
      exact h5
    have h7 : (l.take (l.length - 1) ++ [41]).drop (p.length + 1) = (l.take (l.length - 1)).drop (p.length + 1) ++ [41] := List.drop_append_of_le_length (by rw [List.length_take]; omega)
    rw [← hn] at h7
    exact h7
  rw [e2, e3, h2] at e1
  exact e1
theorem nameL_pos (k : Int) : 1 ≤ (nameL k).length := by
  unfold nameL
  repeat' split
  all_goals decide
theorem textC_pos : ∀ t : Tc, 1 ≤ (textC t).length
  | .leaf k => nameL_pos k
  | .node k t => by
    show 1 ≤ (nameL k ++ 40 :: (textC t ++ [41])).length
    simp
    omega
theorem tx_nodeQ {s : List UInt8} {t : Tc} {i : Int} (hi : nodeK i) (h : IsTx s t) (hk : t.kd = i) : nodeQ (nameL i) s := by
  obtain ⟨h, ht⟩ := h
  cases t with
  | leaf k => exact absurd hk (leaf_node h hi)
  | node k t =>
    have : k = i := hk
    subst this
    rw [← ht]
    exact nodeQ_mk _ _ (textC_pos t)
theorem rd_ix (s : ByteArray) (k : Int) (i : Nat) (hk : k = (i : Int)) (h : i < s.size) (w : World) : (Instr.index 9 (.string s) (.int .i64 k)).run Tryd.prog w = .ok (.int .u8 ((s.data.toList.getD i 0).toNat : Int)) w := by
  subst hk
  rw [run_index_string w _ _ _ _ Tryd.underlying9, dif_pos ⟨by omega, by omega⟩]
  congr 3
  rw [List.getD_eq_getElem?_getD, List.getElem?_eq_getElem (by rw [Array.length_toList]; exact h)]
  rfl
theorem rd_to (s : ByteArray) (k : Int) (n : Nat) (hk : k = (n : Int)) (h : n ≤ s.size) (w : World) : (Instr.sliceAt 9 (.string s) none (some (.int .i64 k)) none).run Tryd.prog w = .ok (.string ⟨(s.data.toList.take n).toArray⟩) w := by
  subst hk
  rw [run_sliceAt_string _ _ _ _ _ _ Tryd.underlying9, run_slice_string_to_if w 9 s .i64 (n : Int) Tryd.underlying9]
  rw [if_pos (by omega)]
  congr 2
  apply ByteArray.ext
  rw [ByteArray.data_extract]
  apply Array.ext'
  simp
theorem rd_mid (s : ByteArray) (a b : Int) (i j : Nat) (ha : a = (i : Int)) (hb : b = (j : Int)) (h1 : i ≤ j) (h2 : j ≤ s.size) (w : World) : (Instr.sliceAt 9 (.string s) (some (.int .i64 a)) (some (.int .i64 b)) none).run Tryd.prog w = .ok (.string ⟨((s.data.toList.take j).drop i).toArray⟩) w := by
  subst ha hb
  rw [run_sliceAt_string _ _ _ _ _ _ Tryd.underlying9, run_slice_string w _ s .i64 .i64 (i : Int) (j : Int) Tryd.underlying9 (by omega) (by omega) (by omega)]
  congr 2
  rw [Int.toNat_natCast, Int.toNat_natCast]
  apply ByteArray.ext
  rw [ByteArray.data_extract]
  apply Array.ext'
  rw [Array.toList_extract, List.extract_eq_take_drop]
  simp [List.drop_take]
theorem lenS (s : ByteArray) : s.data.toList.length = s.size := by rw [Array.length_toList]; rfl

set_option maxHeartbeats 8000000 in
set_option maxRecDepth 100000 in
theorem read_step (s : ByteArray) (hs : s.size ≤ 4096) (ih : ∀ x : ByteArray, x.size < s.size → ∀ w, Calls Tryd.prog 50 #[.string x] w (PSpec x.data.toList w)) (w : World) :
    Calls Tryd.prog 50 #[.string s] w (PSpec s.data.toList w) := by
  have CP := Lib.hid (fun k w => rHolds_any k w)
  have HIH := Lib.hid ih
  have hsI : (s.size : Int) ≤ 4096 := by omega
  clear ih hs
  go_enter Tryd.func50, Tryd.ntmps50
  go_wp2_with fail
  go_loopw [4] (fun s11 wr => ∃ i : Nat, i ≤ 8 ∧ s11 = .int .i64 (i : Int) ∧ Hid (∀ t, IsTx s.data.toList t → (i : Int) ≤ t.kd) ∧ Hid (TwoAt wr w.heap.size 24 (.int .i64 0) (.slice none 0 0)) ∧ Hid (Below w.heap.size w wr)) (fun s11 _ => 9 - (RowKit.intOf s11).toNat)
  case atStart => exact ⟨0, by omega, rfl, Lib.hid (fun t ht => (tx_kd ht).1), Lib.hid (TwoAt.new _ _ _ _), Lib.hid ((Below.refl _ _).alloc (Nat.le_refl _) _)⟩
  case round =>
    obtain ⟨i, hi, rfl, HK, TR, HB⟩ := hrel
    have hz := TR.out.lt
    have t0 := TR.out.cell0
    have t1 := TR.out.cell1
    have f0 := TR.out.frozen 0
    have f1 := TR.out.frozen 1
    by_cases h8 : i = 8
    · subst h8
      have HN := Lib.hid (show ∀ t, ¬ IsTx s.data.toList t from fun t ht => by have h1 := HK.out t ht; have h2 := (tx_kd ht).2; omega)
      go_wp2_with fail
      have TR2 := (TR.out.set0 (.int .i64 0)).set1 (.slice none 0 0)
      have u0 := TR2.cell0
      have u1 := TR2.cell1
      exact bodyPost_ret (v := .tuple #[.agg #[.int .i64 0, .slice none 0 0], .bool false]) (by simp [results, Tryd.f50, go_sem, u0, u1]) rfl ⟨_, _, rfl, ⟨(fun h => nomatch h), fun _ => HN.out, _, _, _, _, rfl⟩, (HB.out.setCell (by simp) _).setCell (by simp) _⟩
    rcases (show i = 0 ∨ i = 1 ∨ i = 2 ∨ i = 3 ∨ i = 4 ∨ i = 5 ∨ i = 6 ∨ i = 7 by omega) with rfl | rfl | rfl | rfl | rfl | rfl | rfl | rfl
    · have hlf : leafK 0 := by unfold leafK; omega
      have CP1 := Lib.hid (fun w => CP.out 0 w)
      rw [leaf_no hlf] at CP1
      have NM1 := Lib.hid (fun w => show Calls Tryd.prog 61 #[.int .i64 0] w fun e w' => e = .returned (.string ⟨#[97, 110, 121]⟩) ∧ w = w' from rName_any 0 (by omega) (by omega) w)
      have SI1 := Lib.hid (fun w => rPlain_any 0 w)
      cases hq : (s.toList == [97, 110, 121])
      · have HN := Lib.hid (kd_step HK.out (fun t => tx_leaf hlf (show s.data.toList ≠ nameL 0 from fun e => by
          rw [Lib.toList_data, e] at hq
          exact absurd hq (by decide))))
        clear h8
        go_wp2_with fail
        go_fit (CP1.out _)
        rintro e w1 ⟨rfl, rfl⟩
        go_wp2_with fail
        go_fit (NM1.out _)
        rintro e w1 ⟨rfl, rfl⟩
        go_wp2_with fail
        exact ⟨⟨0 + 1, by omega, by go_num, HN, TR, HB⟩, by simp [RowKit.intOf]⟩
      · have HQ := Lib.hid (show IsTx s.data.toList (.leaf 0) from ⟨hlf, by
          rw [Lib.toList_data] at hq
          exact (beq_iff_eq.1 hq).symm⟩)
        clear h8
        go_wp2_with fail
        go_fit (CP1.out _)
        rintro e w1 ⟨rfl, rfl⟩
        go_wp2_with fail
        go_fit (NM1.out _)
        rintro e w1 ⟨rfl, rfl⟩
        go_wp2_with fail
        go_fit (SI1.out _)
        rintro e w1 ⟨rfl, hb1⟩
        have TR1 := TR.out.below hb1
        have B1 := Lib.hid (HB.out.trans (hb1.mono HB.out.size))
        have v0 := TR1.cell0
        have v1 := TR1.cell1
        have g0 := TR1.frozen 0
        have g1 := TR1.frozen 1
        clear hb1
        go_wp2_with fail
        have TR2 := (TR1.set0 (.int .i64 0)).set1 (.slice none 0 0)
        have u0 := TR2.cell0
        have u1 := TR2.cell1
        exact bodyPost_ret (v := .tuple #[.agg #[.int .i64 0, .slice none 0 0], .bool true]) (by simp [results, Tryd.f50, go_sem, u0, u1]) rfl ⟨_, _, rfl, ⟨fun _ => ⟨.leaf 0, HQ.out, none, 0, rfl, trivial⟩, (fun h => nomatch h), _, _, _, _, rfl⟩, (B1.out.setCell (by simp) _).setCell (by simp) _⟩
    · have hlf : leafK 1 := by unfold leafK; omega
      have CP1 := Lib.hid (fun w => CP.out 1 w)
      rw [leaf_no hlf] at CP1
      have NM1 := Lib.hid (fun w => show Calls Tryd.prog 61 #[.int .i64 1] w fun e w' => e = .returned (.string ⟨#[110, 117, 108, 108]⟩) ∧ w = w' from rName_any 1 (by omega) (by omega) w)
      have SI1 := Lib.hid (fun w => rPlain_any 1 w)
      cases hq : (s.toList == [110, 117, 108, 108])
      · have HN := Lib.hid (kd_step HK.out (fun t => tx_leaf hlf (show s.data.toList ≠ nameL 1 from fun e => by
          rw [Lib.toList_data, e] at hq
          exact absurd hq (by decide))))
        clear h8
        go_wp2_with fail
        go_fit (CP1.out _)
        rintro e w1 ⟨rfl, rfl⟩
        go_wp2_with fail
        go_fit (NM1.out _)
        rintro e w1 ⟨rfl, rfl⟩
        go_wp2_with fail
        exact ⟨⟨1 + 1, by omega, by go_num, HN, TR, HB⟩, by simp [RowKit.intOf]⟩
      · have HQ := Lib.hid (show IsTx s.data.toList (.leaf 1) from ⟨hlf, by
          rw [Lib.toList_data] at hq
          exact (beq_iff_eq.1 hq).symm⟩)
        clear h8
        go_wp2_with fail
        go_fit (CP1.out _)
        rintro e w1 ⟨rfl, rfl⟩
        go_wp2_with fail
        go_fit (NM1.out _)
        rintro e w1 ⟨rfl, rfl⟩
        go_wp2_with fail
        go_fit (SI1.out _)
        rintro e w1 ⟨rfl, hb1⟩
        have TR1 := TR.out.below hb1
        have B1 := Lib.hid (HB.out.trans (hb1.mono HB.out.size))
        have v0 := TR1.cell0
        have v1 := TR1.cell1
        have g0 := TR1.frozen 0
        have g1 := TR1.frozen 1
        clear hb1
        go_wp2_with fail
        have TR2 := (TR1.set0 (.int .i64 1)).set1 (.slice none 0 0)
        have u0 := TR2.cell0
        have u1 := TR2.cell1
        exact bodyPost_ret (v := .tuple #[.agg #[.int .i64 1, .slice none 0 0], .bool true]) (by simp [results, Tryd.f50, go_sem, u0, u1]) rfl ⟨_, _, rfl, ⟨fun _ => ⟨.leaf 1, HQ.out, none, 0, rfl, trivial⟩, (fun h => nomatch h), _, _, _, _, rfl⟩, (B1.out.setCell (by simp) _).setCell (by simp) _⟩
    · have hlf : leafK 2 := by unfold leafK; omega
      have CP1 := Lib.hid (fun w => CP.out 2 w)
      rw [leaf_no hlf] at CP1
      have NM1 := Lib.hid (fun w => show Calls Tryd.prog 61 #[.int .i64 2] w fun e w' => e = .returned (.string ⟨#[98, 111, 111, 108]⟩) ∧ w = w' from rName_any 2 (by omega) (by omega) w)
      have SI1 := Lib.hid (fun w => rPlain_any 2 w)
      cases hq : (s.toList == [98, 111, 111, 108])
      · have HN := Lib.hid (kd_step HK.out (fun t => tx_leaf hlf (show s.data.toList ≠ nameL 2 from fun e => by
          rw [Lib.toList_data, e] at hq
          exact absurd hq (by decide))))
        clear h8
        go_wp2_with fail
        go_fit (CP1.out _)
        rintro e w1 ⟨rfl, rfl⟩
        go_wp2_with fail
        go_fit (NM1.out _)
        rintro e w1 ⟨rfl, rfl⟩
        go_wp2_with fail
        exact ⟨⟨2 + 1, by omega, by go_num, HN, TR, HB⟩, by simp [RowKit.intOf]⟩
      · have HQ := Lib.hid (show IsTx s.data.toList (.leaf 2) from ⟨hlf, by
          rw [Lib.toList_data] at hq
          exact (beq_iff_eq.1 hq).symm⟩)
        clear h8
        go_wp2_with fail
        go_fit (CP1.out _)
        rintro e w1 ⟨rfl, rfl⟩
        go_wp2_with fail
        go_fit (NM1.out _)
        rintro e w1 ⟨rfl, rfl⟩
        go_wp2_with fail
        go_fit (SI1.out _)
        rintro e w1 ⟨rfl, hb1⟩
        have TR1 := TR.out.below hb1
        have B1 := Lib.hid (HB.out.trans (hb1.mono HB.out.size))
        have v0 := TR1.cell0
        have v1 := TR1.cell1
        have g0 := TR1.frozen 0
        have g1 := TR1.frozen 1
        clear hb1
        go_wp2_with fail
        have TR2 := (TR1.set0 (.int .i64 2)).set1 (.slice none 0 0)
        have u0 := TR2.cell0
        have u1 := TR2.cell1
        exact bodyPost_ret (v := .tuple #[.agg #[.int .i64 2, .slice none 0 0], .bool true]) (by simp [results, Tryd.f50, go_sem, u0, u1]) rfl ⟨_, _, rfl, ⟨fun _ => ⟨.leaf 2, HQ.out, none, 0, rfl, trivial⟩, (fun h => nomatch h), _, _, _, _, rfl⟩, (B1.out.setCell (by simp) _).setCell (by simp) _⟩
    · have hlf : leafK 3 := by unfold leafK; omega
      have CP1 := Lib.hid (fun w => CP.out 3 w)
      rw [leaf_no hlf] at CP1
      have NM1 := Lib.hid (fun w => show Calls Tryd.prog 61 #[.int .i64 3] w fun e w' => e = .returned (.string ⟨#[105, 110, 116]⟩) ∧ w = w' from rName_any 3 (by omega) (by omega) w)
      have SI1 := Lib.hid (fun w => rPlain_any 3 w)
      cases hq : (s.toList == [105, 110, 116])
      · have HN := Lib.hid (kd_step HK.out (fun t => tx_leaf hlf (show s.data.toList ≠ nameL 3 from fun e => by
          rw [Lib.toList_data, e] at hq
          exact absurd hq (by decide))))
        clear h8
        go_wp2_with fail
        go_fit (CP1.out _)
        rintro e w1 ⟨rfl, rfl⟩
        go_wp2_with fail
        go_fit (NM1.out _)
        rintro e w1 ⟨rfl, rfl⟩
        go_wp2_with fail
        exact ⟨⟨3 + 1, by omega, by go_num, HN, TR, HB⟩, by simp [RowKit.intOf]⟩
      · have HQ := Lib.hid (show IsTx s.data.toList (.leaf 3) from ⟨hlf, by
          rw [Lib.toList_data] at hq
          exact (beq_iff_eq.1 hq).symm⟩)
        clear h8
        go_wp2_with fail
        go_fit (CP1.out _)
        rintro e w1 ⟨rfl, rfl⟩
        go_wp2_with fail
        go_fit (NM1.out _)
        rintro e w1 ⟨rfl, rfl⟩
        go_wp2_with fail
        go_fit (SI1.out _)
        rintro e w1 ⟨rfl, hb1⟩
        have TR1 := TR.out.below hb1
        have B1 := Lib.hid (HB.out.trans (hb1.mono HB.out.size))
        have v0 := TR1.cell0
        have v1 := TR1.cell1
        have g0 := TR1.frozen 0
        have g1 := TR1.frozen 1
        clear hb1
        go_wp2_with fail
        have TR2 := (TR1.set0 (.int .i64 3)).set1 (.slice none 0 0)
        have u0 := TR2.cell0
        have u1 := TR2.cell1
        exact bodyPost_ret (v := .tuple #[.agg #[.int .i64 3, .slice none 0 0], .bool true]) (by simp [results, Tryd.f50, go_sem, u0, u1]) rfl ⟨_, _, rfl, ⟨fun _ => ⟨.leaf 3, HQ.out, none, 0, rfl, trivial⟩, (fun h => nomatch h), _, _, _, _, rfl⟩, (B1.out.setCell (by simp) _).setCell (by simp) _⟩
    · have hlf : leafK 4 := by unfold leafK; omega
      have CP1 := Lib.hid (fun w => CP.out 4 w)
      rw [leaf_no hlf] at CP1
      have NM1 := Lib.hid (fun w => show Calls Tryd.prog 61 #[.int .i64 4] w fun e w' => e = .returned (.string ⟨#[115, 116, 114, 105, 110, 103]⟩) ∧ w = w' from rName_any 4 (by omega) (by omega) w)
      have SI1 := Lib.hid (fun w => rPlain_any 4 w)
      cases hq : (s.toList == [115, 116, 114, 105, 110, 103])
      · have HN := Lib.hid (kd_step HK.out (fun t => tx_leaf hlf (show s.data.toList ≠ nameL 4 from fun e => by
          rw [Lib.toList_data, e] at hq
          exact absurd hq (by decide))))
        clear h8
        go_wp2_with fail
        go_fit (CP1.out _)
        rintro e w1 ⟨rfl, rfl⟩
        go_wp2_with fail
        go_fit (NM1.out _)
        rintro e w1 ⟨rfl, rfl⟩
        go_wp2_with fail
        exact ⟨⟨4 + 1, by omega, by go_num, HN, TR, HB⟩, by simp [RowKit.intOf]⟩
      · have HQ := Lib.hid (show IsTx s.data.toList (.leaf 4) from ⟨hlf, by
          rw [Lib.toList_data] at hq
          exact (beq_iff_eq.1 hq).symm⟩)
        clear h8
        go_wp2_with fail
        go_fit (CP1.out _)
        rintro e w1 ⟨rfl, rfl⟩
        go_wp2_with fail
        go_fit (NM1.out _)
        rintro e w1 ⟨rfl, rfl⟩
        go_wp2_with fail
        go_fit (SI1.out _)
        rintro e w1 ⟨rfl, hb1⟩
        have TR1 := TR.out.below hb1
        have B1 := Lib.hid (HB.out.trans (hb1.mono HB.out.size))
        have v0 := TR1.cell0
        have v1 := TR1.cell1
        have g0 := TR1.frozen 0
        have g1 := TR1.frozen 1
        clear hb1
        go_wp2_with fail
        have TR2 := (TR1.set0 (.int .i64 4)).set1 (.slice none 0 0)
        have u0 := TR2.cell0
        have u1 := TR2.cell1
        exact bodyPost_ret (v := .tuple #[.agg #[.int .i64 4, .slice none 0 0], .bool true]) (by simp [results, Tryd.f50, go_sem, u0, u1]) rfl ⟨_, _, rfl, ⟨fun _ => ⟨.leaf 4, HQ.out, none, 0, rfl, trivial⟩, (fun h => nomatch h), _, _, _, _, rfl⟩, (B1.out.setCell (by simp) _).setCell (by simp) _⟩
    · have hlf : nodeK 5 := by unfold nodeK; omega
      have CP1 := Lib.hid (fun w => CP.out 5 w)
      rw [node_yes' hlf] at CP1
      have NM1 := Lib.hid (fun w => show Calls Tryd.prog 61 #[.int .i64 5] w fun e w' => e = .returned (.string ⟨#[108, 105, 115, 116]⟩) ∧ w = w' from rName_any 5 (by omega) (by omega) w)
      have NMQ := Lib.hid (fun w => show Calls Tryd.prog 61 #[.int .i64 5] w fun e w' => e = .returned (.string ⟨#[108, 105, 115, 116]⟩) ∧ w' = w from (rName_any 5 (by omega) (by omega) w).mono (fun e w' h => ⟨h.1, h.2.symm⟩))
      have hln := lenS s
      have TXQ := Lib.hid (fun t (ht : IsTx s.data.toList t) (e : t.kd = 5) => (show nodeQ [108, 105, 115, 116] s.data.toList from tx_nodeQ hlf ht e))
      have hs0 : (0 : Int) ≤ (s.size : Int) := by omega
      by_cases q1 : 4 + 2 < s.size
      · have q1I : (6 : Int) < (s.size : Int) := by omega
        have st := fun w => rd_to s 4 4 rfl (by omega) w
        obtain ⟨x, hx⟩ : ∃ x : ByteArray, x = ⟨(s.data.toList.take 4).toArray⟩ := ⟨_, rfl⟩
        rw [← hx] at st
        cases q2 : (x.toList == [108, 105, 115, 116])
        · have HN := Lib.hid (kd_step HK.out (fun t ht e => by
            have h2 : s.data.toList.take 4 = [108, 105, 115, 116] := (TXQ.out t ht e).2.1
            rw [Lib.toList_data, hx, show (⟨(s.data.toList.take 4).toArray⟩ : ByteArray).data.toList = s.data.toList.take 4 from rfl, h2] at q2
            exact absurd q2 (by decide)))
          clear h8 hx hln q1
          go_wp2_with fail
          go_fit (CP1.out _)
          rintro e w1 ⟨rfl, rfl⟩
          go_wp2_with fail
          go_fit (NM1.out _)
          rintro e w1 ⟨rfl, rfl⟩
          go_wp2_with fail
          go_quiet (first | (go_at_call 61; exact Calls.quiet_of_same (NMQ.out _)))
          have TRq := Lib.hid (TR.out.below (below_drewN (Below.refl _ _) nq))
          have HBq := Lib.hid (below_drewN HB.out nq)
          go_wp2_with fail
          exact ⟨⟨5 + 1, by omega, by go_num, HN, TRq, HBq⟩, by simp [RowKit.intOf]⟩
        have ix := fun w => rd_ix s 4 4 rfl (by omega) w
        obtain ⟨b, hb⟩ : ∃ b, b = (s.data.toList.getD 4 0).toNat := ⟨_, rfl⟩
        rw [← hb] at ix
        have hb9 : b < 256 := by rw [hb]; exact UInt8.toNat_lt _
        have hbI : (0 : Int) ≤ (b : Int) ∧ (b : Int) ≤ 255 := by omega
        cases q3 : ((b : Int) == 40)
        · have HN := Lib.hid (kd_step HK.out (fun t ht e => by
            have h2 : s.data.toList.getD 4 0 = 40 := (TXQ.out t ht e).2.2.1
            rw [hb, h2] at q3
            exact absurd q3 (by decide)))
          clear h8 hx hln q1 hb hb9
          go_wp2_with fail
          go_fit (CP1.out _)
          rintro e w1 ⟨rfl, rfl⟩
          go_wp2_with fail
          go_fit (NM1.out _)
          rintro e w1 ⟨rfl, rfl⟩
          go_wp2_with fail
          go_quiet (first | (go_at_call 61; exact Calls.quiet_of_same (NMQ.out _)))
          have TRq := Lib.hid (TR.out.below (below_drewN (Below.refl _ _) nq))
          have HBq := Lib.hid (below_drewN HB.out nq)
          go_wp2_with fail
          exact ⟨⟨5 + 1, by omega, by go_num, HN, TRq, HBq⟩, by simp [RowKit.intOf]⟩
        have iy := fun w => rd_ix s ((s.size : Int) - 1) (s.size - 1) (by omega) (by omega) w
        obtain ⟨d, hd⟩ : ∃ d, d = (s.data.toList.getD (s.size - 1) 0).toNat := ⟨_, rfl⟩
        rw [← hd] at iy
        have hd9 : d < 256 := by rw [hd]; exact UInt8.toNat_lt _
        have hdI : (0 : Int) ≤ (d : Int) ∧ (d : Int) ≤ 255 := by omega
        have hix : (0 : Int) ≤ (s.size : Int) - 1 ∧ (s.size : Int) - 1 < (s.size : Int) := by omega
        cases q4 : ((d : Int) == 41)
        · have HN := Lib.hid (kd_step HK.out (fun t ht e => by
            have h2 : s.data.toList.getD (s.data.toList.length - 1) 0 = 41 := (TXQ.out t ht e).2.2.2
            rw [hln] at h2
            rw [hd, h2] at q4
            exact absurd q4 (by decide)))
          clear h8 hx hln q1 hb hb9 hd hd9
          go_wp2_with fail
          go_fit (CP1.out _)
          rintro e w1 ⟨rfl, rfl⟩
          go_wp2_with fail
          go_fit (NM1.out _)
          rintro e w1 ⟨rfl, rfl⟩
          go_wp2_with fail
          go_quiet (first | (go_at_call 61; exact Calls.quiet_of_same (NMQ.out _)))
          have TRq := Lib.hid (TR.out.below (below_drewN (Below.refl _ _) nq))
          have HBq := Lib.hid (below_drewN HB.out nq)
          go_wp2_with fail
          exact ⟨⟨5 + 1, by omega, by go_num, HN, TRq, HBq⟩, by simp [RowKit.intOf]⟩
        have hQ : nodeQ [108, 105, 115, 116] s.data.toList := by
          refine ⟨by rw [hln]; exact q1, ?_, ?_, ?_⟩
          · rw [Lib.toList_data, hx] at q2
            exact beq_iff_eq.1 q2
          · apply UInt8.toNat_inj.1
            have := beq_iff_eq.1 q3
            show (s.data.toList.getD 4 0).toNat = 40
            omega
          · apply UInt8.toNat_inj.1
            have := beq_iff_eq.1 q4
            rw [hln]
            show (s.data.toList.getD (s.size - 1) 0).toNat = 41
            omega
        have sm := fun w => rd_mid s 5 ((s.size : Int) - 1) 5 (s.size - 1) rfl (by omega) (by omega) (by omega) w
        obtain ⟨r, hr⟩ : ∃ r, r = (s.data.toList.take (s.size - 1)).drop 5 := ⟨_, rfl⟩
        rw [← hr] at sm
        have hl : s.data.toList = nameL 5 ++ 40 :: (r ++ [41]) := by
          have h := nodeQ_form hQ
          rw [hln] at h
          rw [hr]
          exact h
        have hsz : (⟨r.toArray⟩ : ByteArray).size < s.size := by
          rw [← hln, hl]
          show r.length < _
          simp
          omega
        have IH := Lib.hid (fun w => HIH.out ⟨r.toArray⟩ hsz w)
        rw [show (⟨r.toArray⟩ : ByteArray).data.toList = r by simp] at IH
        have Z := Lib.hid (fun a v n c w => rWith_any 5 a v n c w)
        have HL := Lib.hid hl
        obtain ⟨y, hy⟩ : ∃ y : ByteArray, y = ⟨r.toArray⟩ := ⟨_, rfl⟩
        rw [← hy] at sm IH
        clear h8 hx hln q1 hb hb9 hd hd9 hQ hr hl hsz hy
        go_wp2_with fail
        go_fit (CP1.out _)
        rintro e w1 ⟨rfl, rfl⟩
        go_wp2_with fail
        go_fit (NM1.out _)
        rintro e w1 ⟨rfl, rfl⟩
        go_wp2_with fail
        go_quiet (first | (go_at_call 61; exact Calls.quiet_of_same (NMQ.out _)))
        have TRq := Lib.hid (TR.out.below (below_drewN (Below.refl _ _) nq))
        have HBq := Lib.hid (below_drewN HB.out nq)
        clear st ix iy q2 q3 q4
        go_wp2_with fail
        go_fit (IH.out _)
        rintro e w2 ⟨V, ok, rfl, hpp, hb2⟩
        have TR2 := TRq.out.below hb2
        have B2 := Lib.hid (HBq.out.trans (hb2.mono HBq.out.size))
        have HPP := Lib.hid hpp
        have HB2 := Lib.hid hb2
        have hzq := TRq.out.lt
        obtain ⟨p1, p2, k2, av2, m2, cc2, rfl⟩ := hpp
        clear hb2
        cases ok
        · have HN := Lib.hid (kd_step HK.out (fun t ht e => by
            rw [HL.out] at ht
            obtain ⟨t', rfl, h3⟩ := tx_form hlf ht
            exact p2 rfl t' h3))
          clear p1 p2
          have TRa := Lib.hid (TR2.alloc (.cells #[.int .i64 k2, .slice av2 m2 cc2] 24))
          have Ba := Lib.hid (B2.out.alloc B2.out.size (.cells #[.int .i64 k2, .slice av2 m2 cc2] 24))
          go_wp2_with fail
          exact ⟨⟨5 + 1, by omega, by go_num, HN, TRa, Ba⟩, by simp [RowKit.intOf]⟩
        · clear p1 p2
          go_wp2_with fail
          go_fit (Z.out _ _ _ _ _)
          rintro e w3 ⟨g, rfl, hg, hc0, hc1, hb3⟩
          have BA := B2.out.alloc B2.out.size (.cells #[.int .i64 k2, .slice av2 m2 cc2] 24)
          have TR3 := (TR2.alloc _).below hb3
          have B3 := Lib.hid (BA.trans (hb3.mono BA.size))
          have HE := Lib.hid (parse_end (w := w) hlf HL.out (HPP.out.below ((Below.refl _ _).alloc (Nat.le_refl _) _)) hzq (HB2.out.alloc HB2.out.size _) hg hc0 hc1 hb3 (.int .i64 5) (.slice (some ⟨g, 0, none⟩) 1 1))
          have v0 := TR3.cell0
          have v1 := TR3.cell1
          have g0 := TR3.frozen 0
          have g1 := TR3.frozen 1
          clear hg hc0 hc1 hb3 BA
          go_wp2_with fail
          have TR4 := (TR3.set0 (.int .i64 5)).set1 (.slice (some ⟨g, 0, none⟩) 1 1)
          have u0 := TR4.cell0
          have u1 := TR4.cell1
          exact bodyPost_ret (v := .tuple #[.agg #[.int .i64 5, .slice (some ⟨g, 0, none⟩) 1 1], .bool true]) (by simp [results, Tryd.f50, go_sem, u0, u1]) rfl ⟨_, _, rfl, HE.out, (B3.out.setCell (by simp) _).setCell (by simp) _⟩
      · have q1I : decide ((6 : Int) < (s.size : Int)) = false := by rw [decide_eq_false_iff_not]; omega
        have HN := Lib.hid (kd_step HK.out (fun t ht e => by
          have h : 4 + 2 < s.data.toList.length := (TXQ.out t ht e).1
          omega))
        clear h8 hln q1
        go_wp2_with fail
        go_fit (CP1.out _)
        rintro e w1 ⟨rfl, rfl⟩
        go_wp2_with fail
        go_fit (NM1.out _)
        rintro e w1 ⟨rfl, rfl⟩
        go_wp2_with fail
        go_quiet (fail)
        have TRq := Lib.hid (TR.out.below (below_drewN (Below.refl _ _) nq))
        have HBq := Lib.hid (below_drewN HB.out nq)
        go_wp2_with fail
        exact ⟨⟨5 + 1, by omega, by go_num, HN, TRq, HBq⟩, by simp [RowKit.intOf]⟩
    · have hlf : nodeK 6 := by unfold nodeK; omega
      have CP1 := Lib.hid (fun w => CP.out 6 w)
      rw [node_yes' hlf] at CP1
      have NM1 := Lib.hid (fun w => show Calls Tryd.prog 61 #[.int .i64 6] w fun e w' => e = .returned (.string ⟨#[109, 97, 112]⟩) ∧ w = w' from rName_any 6 (by omega) (by omega) w)
      have NMQ := Lib.hid (fun w => show Calls Tryd.prog 61 #[.int .i64 6] w fun e w' => e = .returned (.string ⟨#[109, 97, 112]⟩) ∧ w' = w from (rName_any 6 (by omega) (by omega) w).mono (fun e w' h => ⟨h.1, h.2.symm⟩))
      have hln := lenS s
      have TXQ := Lib.hid (fun t (ht : IsTx s.data.toList t) (e : t.kd = 6) => (show nodeQ [109, 97, 112] s.data.toList from tx_nodeQ hlf ht e))
      have hs0 : (0 : Int) ≤ (s.size : Int) := by omega
      by_cases q1 : 3 + 2 < s.size
      · have q1I : (5 : Int) < (s.size : Int) := by omega
        have st := fun w => rd_to s 3 3 rfl (by omega) w
        obtain ⟨x, hx⟩ : ∃ x : ByteArray, x = ⟨(s.data.toList.take 3).toArray⟩ := ⟨_, rfl⟩
        rw [← hx] at st
        cases q2 : (x.toList == [109, 97, 112])
        · have HN := Lib.hid (kd_step HK.out (fun t ht e => by
            have h2 : s.data.toList.take 3 = [109, 97, 112] := (TXQ.out t ht e).2.1
            rw [Lib.toList_data, hx, show (⟨(s.data.toList.take 3).toArray⟩ : ByteArray).data.toList = s.data.toList.take 3 from rfl, h2] at q2
            exact absurd q2 (by decide)))
          clear h8 hx hln q1
          go_wp2_with fail
          go_fit (CP1.out _)
          rintro e w1 ⟨rfl, rfl⟩
          go_wp2_with fail
          go_fit (NM1.out _)
          rintro e w1 ⟨rfl, rfl⟩
          go_wp2_with fail
          go_quiet (first | (go_at_call 61; exact Calls.quiet_of_same (NMQ.out _)))
          have TRq := Lib.hid (TR.out.below (below_drewN (Below.refl _ _) nq))
          have HBq := Lib.hid (below_drewN HB.out nq)
          go_wp2_with fail
          exact ⟨⟨6 + 1, by omega, by go_num, HN, TRq, HBq⟩, by simp [RowKit.intOf]⟩
        have ix := fun w => rd_ix s 3 3 rfl (by omega) w
        obtain ⟨b, hb⟩ : ∃ b, b = (s.data.toList.getD 3 0).toNat := ⟨_, rfl⟩
        rw [← hb] at ix
        have hb9 : b < 256 := by rw [hb]; exact UInt8.toNat_lt _
        have hbI : (0 : Int) ≤ (b : Int) ∧ (b : Int) ≤ 255 := by omega
        cases q3 : ((b : Int) == 40)
        · have HN := Lib.hid (kd_step HK.out (fun t ht e => by
            have h2 : s.data.toList.getD 3 0 = 40 := (TXQ.out t ht e).2.2.1
            rw [hb, h2] at q3
            exact absurd q3 (by decide)))
          clear h8 hx hln q1 hb hb9
          go_wp2_with fail
          go_fit (CP1.out _)
          rintro e w1 ⟨rfl, rfl⟩
          go_wp2_with fail
          go_fit (NM1.out _)
          rintro e w1 ⟨rfl, rfl⟩
          go_wp2_with fail
          go_quiet (first | (go_at_call 61; exact Calls.quiet_of_same (NMQ.out _)))
          have TRq := Lib.hid (TR.out.below (below_drewN (Below.refl _ _) nq))
          have HBq := Lib.hid (below_drewN HB.out nq)
          go_wp2_with fail
          exact ⟨⟨6 + 1, by omega, by go_num, HN, TRq, HBq⟩, by simp [RowKit.intOf]⟩
        have iy := fun w => rd_ix s ((s.size : Int) - 1) (s.size - 1) (by omega) (by omega) w
        obtain ⟨d, hd⟩ : ∃ d, d = (s.data.toList.getD (s.size - 1) 0).toNat := ⟨_, rfl⟩
        rw [← hd] at iy
        have hd9 : d < 256 := by rw [hd]; exact UInt8.toNat_lt _
        have hdI : (0 : Int) ≤ (d : Int) ∧ (d : Int) ≤ 255 := by omega
        have hix : (0 : Int) ≤ (s.size : Int) - 1 ∧ (s.size : Int) - 1 < (s.size : Int) := by omega
        cases q4 : ((d : Int) == 41)
        · have HN := Lib.hid (kd_step HK.out (fun t ht e => by
            have h2 : s.data.toList.getD (s.data.toList.length - 1) 0 = 41 := (TXQ.out t ht e).2.2.2
            rw [hln] at h2
            rw [hd, h2] at q4
            exact absurd q4 (by decide)))
          clear h8 hx hln q1 hb hb9 hd hd9
          go_wp2_with fail
          go_fit (CP1.out _)
          rintro e w1 ⟨rfl, rfl⟩
          go_wp2_with fail
          go_fit (NM1.out _)
          rintro e w1 ⟨rfl, rfl⟩
          go_wp2_with fail
          go_quiet (first | (go_at_call 61; exact Calls.quiet_of_same (NMQ.out _)))
          have TRq := Lib.hid (TR.out.below (below_drewN (Below.refl _ _) nq))
          have HBq := Lib.hid (below_drewN HB.out nq)
          go_wp2_with fail
          exact ⟨⟨6 + 1, by omega, by go_num, HN, TRq, HBq⟩, by simp [RowKit.intOf]⟩
        have hQ : nodeQ [109, 97, 112] s.data.toList := by
          refine ⟨by rw [hln]; exact q1, ?_, ?_, ?_⟩
          · rw [Lib.toList_data, hx] at q2
            exact beq_iff_eq.1 q2
          · apply UInt8.toNat_inj.1
            have := beq_iff_eq.1 q3
            show (s.data.toList.getD 3 0).toNat = 40
            omega
          · apply UInt8.toNat_inj.1
            have := beq_iff_eq.1 q4
            rw [hln]
            show (s.data.toList.getD (s.size - 1) 0).toNat = 41
            omega
        have sm := fun w => rd_mid s 4 ((s.size : Int) - 1) 4 (s.size - 1) rfl (by omega) (by omega) (by omega) w
        obtain ⟨r, hr⟩ : ∃ r, r = (s.data.toList.take (s.size - 1)).drop 4 := ⟨_, rfl⟩
        rw [← hr] at sm
        have hl : s.data.toList = nameL 6 ++ 40 :: (r ++ [41]) := by
          have h := nodeQ_form hQ
          rw [hln] at h
          rw [hr]
          exact h
        have hsz : (⟨r.toArray⟩ : ByteArray).size < s.size := by
          rw [← hln, hl]
          show r.length < _
          simp
          omega
        have IH := Lib.hid (fun w => HIH.out ⟨r.toArray⟩ hsz w)
        rw [show (⟨r.toArray⟩ : ByteArray).data.toList = r by simp] at IH
        have Z := Lib.hid (fun a v n c w => rWith_any 6 a v n c w)
        have HL := Lib.hid hl
        obtain ⟨y, hy⟩ : ∃ y : ByteArray, y = ⟨r.toArray⟩ := ⟨_, rfl⟩
        rw [← hy] at sm IH
        clear h8 hx hln q1 hb hb9 hd hd9 hQ hr hl hsz hy
        go_wp2_with fail
        go_fit (CP1.out _)
        rintro e w1 ⟨rfl, rfl⟩
        go_wp2_with fail
        go_fit (NM1.out _)
        rintro e w1 ⟨rfl, rfl⟩
        go_wp2_with fail
        go_quiet (first | (go_at_call 61; exact Calls.quiet_of_same (NMQ.out _)))
        have TRq := Lib.hid (TR.out.below (below_drewN (Below.refl _ _) nq))
        have HBq := Lib.hid (below_drewN HB.out nq)
        clear st ix iy q2 q3 q4
        go_wp2_with fail
        go_fit (IH.out _)
        rintro e w2 ⟨V, ok, rfl, hpp, hb2⟩
        have TR2 := TRq.out.below hb2
        have B2 := Lib.hid (HBq.out.trans (hb2.mono HBq.out.size))
        have HPP := Lib.hid hpp
        have HB2 := Lib.hid hb2
        have hzq := TRq.out.lt
        obtain ⟨p1, p2, k2, av2, m2, cc2, rfl⟩ := hpp
        clear hb2
        cases ok
        · have HN := Lib.hid (kd_step HK.out (fun t ht e => by
            rw [HL.out] at ht
            obtain ⟨t', rfl, h3⟩ := tx_form hlf ht
            exact p2 rfl t' h3))
          clear p1 p2
          have TRa := Lib.hid (TR2.alloc (.cells #[.int .i64 k2, .slice av2 m2 cc2] 24))
          have Ba := Lib.hid (B2.out.alloc B2.out.size (.cells #[.int .i64 k2, .slice av2 m2 cc2] 24))
          go_wp2_with fail
          exact ⟨⟨6 + 1, by omega, by go_num, HN, TRa, Ba⟩, by simp [RowKit.intOf]⟩
        · clear p1 p2
          go_wp2_with fail
          go_fit (Z.out _ _ _ _ _)
          rintro e w3 ⟨g, rfl, hg, hc0, hc1, hb3⟩
          have BA := B2.out.alloc B2.out.size (.cells #[.int .i64 k2, .slice av2 m2 cc2] 24)
          have TR3 := (TR2.alloc _).below hb3
          have B3 := Lib.hid (BA.trans (hb3.mono BA.size))
          have HE := Lib.hid (parse_end (w := w) hlf HL.out (HPP.out.below ((Below.refl _ _).alloc (Nat.le_refl _) _)) hzq (HB2.out.alloc HB2.out.size _) hg hc0 hc1 hb3 (.int .i64 6) (.slice (some ⟨g, 0, none⟩) 1 1))
          have v0 := TR3.cell0
          have v1 := TR3.cell1
          have g0 := TR3.frozen 0
          have g1 := TR3.frozen 1
          clear hg hc0 hc1 hb3 BA
          go_wp2_with fail
          have TR4 := (TR3.set0 (.int .i64 6)).set1 (.slice (some ⟨g, 0, none⟩) 1 1)
          have u0 := TR4.cell0
          have u1 := TR4.cell1
          exact bodyPost_ret (v := .tuple #[.agg #[.int .i64 6, .slice (some ⟨g, 0, none⟩) 1 1], .bool true]) (by simp [results, Tryd.f50, go_sem, u0, u1]) rfl ⟨_, _, rfl, HE.out, (B3.out.setCell (by simp) _).setCell (by simp) _⟩
      · have q1I : decide ((5 : Int) < (s.size : Int)) = false := by rw [decide_eq_false_iff_not]; omega
        have HN := Lib.hid (kd_step HK.out (fun t ht e => by
          have h : 3 + 2 < s.data.toList.length := (TXQ.out t ht e).1
          omega))
        clear h8 hln q1
        go_wp2_with fail
        go_fit (CP1.out _)
        rintro e w1 ⟨rfl, rfl⟩
        go_wp2_with fail
        go_fit (NM1.out _)
        rintro e w1 ⟨rfl, rfl⟩
        go_wp2_with fail
        go_quiet (fail)
        have TRq := Lib.hid (TR.out.below (below_drewN (Below.refl _ _) nq))
        have HBq := Lib.hid (below_drewN HB.out nq)
        go_wp2_with fail
        exact ⟨⟨6 + 1, by omega, by go_num, HN, TRq, HBq⟩, by simp [RowKit.intOf]⟩
    · have hlf : leafK 7 := by unfold leafK; omega
      have CP1 := Lib.hid (fun w => CP.out 7 w)
      rw [leaf_no hlf] at CP1
      have NM1 := Lib.hid (fun w => show Calls Tryd.prog 61 #[.int .i64 7] w fun e w' => e = .returned (.string ⟨#[110, 101, 118, 101, 114]⟩) ∧ w = w' from rName_any 7 (by omega) (by omega) w)
      have SI1 := Lib.hid (fun w => rPlain_any 7 w)
      cases hq : (s.toList == [110, 101, 118, 101, 114])
      · have HN := Lib.hid (kd_step HK.out (fun t => tx_leaf hlf (show s.data.toList ≠ nameL 7 from fun e => by
          rw [Lib.toList_data, e] at hq
          exact absurd hq (by decide))))
        clear h8
        go_wp2_with fail
        go_fit (CP1.out _)
        rintro e w1 ⟨rfl, rfl⟩
        go_wp2_with fail
        go_fit (NM1.out _)
        rintro e w1 ⟨rfl, rfl⟩
        go_wp2_with fail
        exact ⟨⟨7 + 1, by omega, by go_num, HN, TR, HB⟩, by simp [RowKit.intOf]⟩
      · have HQ := Lib.hid (show IsTx s.data.toList (.leaf 7) from ⟨hlf, by
          rw [Lib.toList_data] at hq
          exact (beq_iff_eq.1 hq).symm⟩)
        clear h8
        go_wp2_with fail
        go_fit (CP1.out _)
        rintro e w1 ⟨rfl, rfl⟩
        go_wp2_with fail
        go_fit (NM1.out _)
        rintro e w1 ⟨rfl, rfl⟩
        go_wp2_with fail
        go_fit (SI1.out _)
        rintro e w1 ⟨rfl, hb1⟩
        have TR1 := TR.out.below hb1
        have B1 := Lib.hid (HB.out.trans (hb1.mono HB.out.size))
        have v0 := TR1.cell0
        have v1 := TR1.cell1
        have g0 := TR1.frozen 0
        have g1 := TR1.frozen 1
        clear hb1
        go_wp2_with fail
        have TR2 := (TR1.set0 (.int .i64 7)).set1 (.slice none 0 0)
        have u0 := TR2.cell0
        have u1 := TR2.cell1
        exact bodyPost_ret (v := .tuple #[.agg #[.int .i64 7, .slice none 0 0], .bool true]) (by simp [results, Tryd.f50, go_sem, u0, u1]) rfl ⟨_, _, rfl, ⟨fun _ => ⟨.leaf 7, HQ.out, none, 0, rfl, trivial⟩, (fun h => nomatch h), _, _, _, _, rfl⟩, (B1.out.setCell (by simp) _).setCell (by simp) _⟩
theorem read_any (s : ByteArray) (hs : s.size ≤ 4096) (w : World) : Calls Tryd.prog 50 #[.string s] w (PSpec s.data.toList w) := by
  obtain ⟨n, hn⟩ : ∃ n, n = s.size := ⟨_, rfl⟩
  induction n using Nat.strongRecOn generalizing s w with
  | ind n ih =>
    subst hn
    exact read_step s hs (fun x hx w => ih x.size hx x (by omega) w rfl) w
set_option maxHeartbeats 2000000 in
theorem rParse_any (s : ByteArray) (w : World) : Calls Tryd.prog 27 #[.string s] w (PTopSpec s.data.toList w) := by
  have hsl : s.data.toList.length = s.size := by rw [Array.length_toList]; rfl
  by_cases hz : 4096 < s.size
  · have hzI : (4096 : Int) < (s.size : Int) := by omega
    have HP := Lib.hid (show PTop s.data.toList (.leaf 0) 3 from .inl ⟨by omega, rfl, rfl⟩)
    clear hz hsl
    go_enter Tryd.func27, Tryd.ntmps27
    go_wp2_with fail
    exact bodyPost_ret (v := .tuple #[.agg #[.int .i64 0, .slice none 0 0], .int .i64 3]) (by simp [results, Tryd.f27, go_sem]) rfl ⟨_, _, 3, rfl, HP.out, ⟨none, 0, rfl, trivial⟩, (by repeat (first | exact Below.refl _ _ | refine Below.setCell ?_ (by simp <;> omega) _ | refine Below.alloc ?_ (by simp <;> omega) _))⟩
  · have hzI : ¬ (4096 : Int) < (s.size : Int) := by omega
    have P := Lib.hid (fun w => read_any s (by omega) w)
    have HZ := Lib.hid (show s.data.toList.length ≤ 4096 by omega)
    clear hz hsl
    go_enter Tryd.func27, Tryd.ntmps27
    go_wp2_with fail
    go_fit (P.out _)
    rintro e w1 ⟨V, ok, rfl, hpp, hb1⟩
    have TR := (TwoAt.new _ 24 (.int .i64 0) (.slice none 0 0)).below hb1
    have B1 := Lib.hid (Below.trans (show Below w.heap.size w _ from (by repeat (first | exact Below.refl _ _ | refine Below.setCell ?_ (by simp <;> omega) _ | refine Below.alloc ?_ (by simp <;> omega) _))) (hb1.mono (by simp <;> omega)))
    have HPP := Lib.hid hpp
    obtain ⟨h1, h2, k2, av2, m2, cc2, rfl⟩ := hpp
    have hzz := TR.lt
    have t0 := TR.cell0
    have t1 := TR.cell1
    have f0 := TR.frozen 0
    have f1 := TR.frozen 1
    clear hb1
    cases ok
    · have HN := Lib.hid (show PTop s.data.toList (.leaf 0) 5 from .inr (.inl ⟨HZ.out, h2 rfl, rfl, rfl⟩))
      clear h1 h2
      go_wp2_with fail
      have TR2 := ((TR.set0 (.int .i64 0)).set1 (.slice none 0 0)).alloc (.cells #[.int .i64 k2, .slice av2 m2 cc2] 24)
      have u0 := TR2.cell0
      have u1 := TR2.cell1
      have B2 := (B1.out.setCell (p := ⟨w.heap.size, 0, none⟩) (Nat.le_refl _) (.int .i64 0)).setCell (p := ⟨w.heap.size, 1, none⟩) (Nat.le_refl _) (.slice none 0 0)
      exact bodyPost_ret (v := .tuple #[.agg #[.int .i64 0, .slice none 0 0], .int .i64 5]) (by simp [results, Tryd.f27, go_sem, u0, u1]) rfl ⟨.agg #[.int .i64 0, .slice none 0 0], _, 5, rfl, HN.out, ⟨none, 0, rfl, trivial⟩, B2.alloc B2.size _⟩
    · obtain ⟨t, ht, hC⟩ := h1 rfl
      have HV := Lib.hid (fun w' (hb : Below w1.heap.size w1 w') => refValidT_any t.deep (.agg #[.int .i64 k2, .slice av2 m2 cc2]) t.ty w' ((isT_C ht.1 hC.toC).below hb))
      rw [chkT_ty t 16 ht.1] at HV
      have HC := Lib.hid (IsP.below (P' := fun b => b < 0 ∨ (w.alloc (.cells #[.int .i64 0, .slice none 0 0] 24)).heap.size ≤ b) hC (fun _ h => .inr h) (Below.refl _ _))
      by_cases hd : t.deep ≤ 16
      · have HN := Lib.hid (show PTop s.data.toList t 0 from .inr (.inr ⟨HZ.out, t, ht, .inr ⟨hd, rfl, rfl⟩⟩))
        rw [if_pos hd] at HV
        clear h1 h2 hd hC
        go_wp2_with fail
        go_fit (HV.out _ ((Below.refl _ _).alloc (Nat.le_refl _) _))
        rintro e w2 ⟨rfl, hb2⟩
        have TA := (TR.alloc (.cells #[.int .i64 k2, .slice av2 m2 cc2] 24)).below hb2
        have TL := (TwoAt.new w1 24 (.int .i64 k2) (.slice av2 m2 cc2)).below hb2
        have BA := (B1.out.alloc B1.out.size (.cells #[.int .i64 k2, .slice av2 m2 cc2] 24))
        have B2 := Lib.hid (BA.trans (hb2.mono BA.size))
        have HC2 := Lib.hid (HC.out.below (P' := fun b => b < 0 ∨ (w.alloc (.cells #[.int .i64 0, .slice none 0 0] 24)).heap.size ≤ b) (fun _ h => h) (((Below.refl _ _).alloc (Nat.le_refl _) (.cells #[.int .i64 k2, .slice av2 m2 cc2] 24)).trans (hb2.mono (by simp))))
        have t0 := TA.cell0
        have t1 := TA.cell1
        have f0 := TA.frozen 0
        have f1 := TA.frozen 1
        have l0 := TL.cell0
        have l1 := TL.cell1
        clear hb2 BA
        go_wp2_with fail
        have TR2 := (TA.set0 (.int .i64 k2)).set1 (.slice av2 m2 cc2)
        have u0 := TR2.cell0
        have u1 := TR2.cell1
        exact bodyPost_ret (v := .tuple #[.agg #[.int .i64 k2, .slice av2 m2 cc2], .int .i64 0]) (by simp [results, Tryd.f27, go_sem, u0, u1]) rfl ⟨_, _, 0, rfl, HN.out, isC_store HC2.out (Nat.zero_le _) (by simp) _ _, (B2.out.setCell (by simp) _).setCell (by simp) _⟩
      · have HN := Lib.hid (show PTop s.data.toList (.leaf 0) 13 from .inr (.inr ⟨HZ.out, t, ht, .inl ⟨by omega, rfl, rfl⟩⟩))
        rw [if_neg hd] at HV
        clear h1 h2 hd hC
        go_wp2_with fail
        go_fit (HV.out _ ((Below.refl _ _).alloc (Nat.le_refl _) _))
        rintro e w2 ⟨rfl, hb2⟩
        have TA := (TR.alloc (.cells #[.int .i64 k2, .slice av2 m2 cc2] 24)).below hb2
        have BA := (B1.out.alloc B1.out.size (.cells #[.int .i64 k2, .slice av2 m2 cc2] 24))
        have B2 := Lib.hid (BA.trans (hb2.mono BA.size))
        have t0 := TA.cell0
        have t1 := TA.cell1
        have f0 := TA.frozen 0
        have f1 := TA.frozen 1
        clear hb2 BA
        go_wp2_with fail
        have TR2 := (TA.set0 (.int .i64 0)).set1 (.slice none 0 0)
        have u0 := TR2.cell0
        have u1 := TR2.cell1
        exact bodyPost_ret (v := .tuple #[.agg #[.int .i64 0, .slice none 0 0], .int .i64 13]) (by simp [results, Tryd.f27, go_sem, u0, u1]) rfl ⟨.agg #[.int .i64 0, .slice none 0 0], _, 13, rfl, HN.out, ⟨none, 0, rfl, trivial⟩, (B2.out.setCell (by simp) _).setCell (by simp) _⟩

end Go.Proofs.YtabopneehhnhfabDoor
