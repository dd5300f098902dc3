/- Contracts of the program's between and parse (typing). -/
import Derived.Test.YtabopneehhnhfabDoorTypJ
import Derived.Test.YtabopneehhnhfabDoorShelf
import Derived.Lib.Strings
namespace Go.Proofs.YtabopneehhnhfabDoor
open Go.RowKit Go.Lib

/-- What stands between the beginning and the end of a text. -/
def btw (l p e : List UInt8) : List UInt8 × Bool := (trimSuffix (trimPrefix l p) e, hasPrefix l p && hasSuffix (trimPrefix l p) e)
theorem btw_of (p q e : List UInt8) : btw (p ++ (q ++ e)) p e = (q, true) := by
  unfold btw trimPrefix trimSuffix hasPrefix hasSuffix
  have h1 : p.isPrefixOf (p ++ (q ++ e)) = true := by simp
  rw [h1]
  simp
theorem btw_true {l p e : List UInt8} (h : (btw l p e).2 = true) : l = p ++ ((btw l p e).1 ++ e) := by
  unfold btw at h ⊢
  rw [Bool.and_eq_true] at h
  obtain ⟨h1, h2⟩ := h
  unfold hasPrefix at h1
  rw [List.isPrefixOf_iff_prefix] at h1
  obtain ⟨r, rfl⟩ := h1
  have e1 : trimPrefix (p ++ r) p = r := by unfold trimPrefix hasPrefix; simp
  rw [e1] at h2 ⊢
  unfold hasSuffix at h2
  rw [List.isSuffixOf_iff_suffix] at h2
  obtain ⟨q, rfl⟩ := h2
  unfold trimSuffix hasSuffix
  simp
theorem btw_le (l p e : List UInt8) : (btw l p e).1.length ≤ l.length := Nat.le_trans (trimSuffix_le _ _) (trimPrefix_le _ _)

theorem between_any (s p e : ByteArray) (hs : s.size ≤ 4096) (w : World) :
    Calls Tryd.prog 60 #[.string s, .string p, .string e] w fun en w' => en = .returned (.tuple #[.string ⟨(btw s.data.toList p.data.toList e.data.toList).1.toArray⟩, .bool (btw s.data.toList p.data.toList e.data.toList).2]) ∧ w = w' := by
  have hle := trimPrefix_le s.data.toList p.data.toList
  have hsl : s.data.toList.length = s.size := by rw [Array.length_toList]; rfl
  have C1 := Lib.hid (fun w => Tryd.strings_CutPrefix s p w)
  have C2 := Lib.hid (fun w => Tryd.strings_CutSuffix ⟨(trimPrefix s.data.toList p.data.toList).toArray⟩ e w (by show (trimPrefix s.data.toList p.data.toList).length ≤ _; omega))
  have E := Lib.hid (show btw s.data.toList p.data.toList e.data.toList = (trimSuffix (trimPrefix s.data.toList p.data.toList) e.data.toList, hasPrefix s.data.toList p.data.toList && hasSuffix (trimPrefix s.data.toList p.data.toList) e.data.toList) from rfl)
  rw [show (⟨(trimPrefix s.data.toList p.data.toList).toArray⟩ : ByteArray).data.toList = trimPrefix s.data.toList p.data.toList from rfl] at C2
  clear hle hsl hs
  generalize hasPrefix s.data.toList p.data.toList = q1 at *
  generalize trimPrefix s.data.toList p.data.toList = r1 at *
  generalize (⟨r1.toArray⟩ : ByteArray) = x1 at *
  generalize hasSuffix r1 e.data.toList = q2 at *
  generalize trimSuffix r1 e.data.toList = r2 at *
  generalize btw s.data.toList p.data.toList e.data.toList = bt at *
  go_enter Tryd.func60, Tryd.ntmps60
  go_wp2_with fail
  go_fit (C1.out _)
  rintro en w1 ⟨rfl, rfl⟩
  go_wp2_with fail
  go_fit (C2.out _)
  rintro en w1 ⟨rfl, rfl⟩
  cases q1 <;> cases q2
  all_goals
    go_wp2_with fail
    go_ret2
    exact ⟨by rw [E.out]; rfl, rfl⟩

theorem names_ix0 (w : World) : (Instr.index 62 (.agg #[.string ⟨#[97, 110, 121]⟩, .string ⟨#[110, 117, 108, 108]⟩, .string ⟨#[98, 111, 111, 108]⟩, .string ⟨#[105, 110, 116]⟩, .string ⟨#[115, 116, 114, 105, 110, 103]⟩, .string ⟨#[108, 105, 115, 116]⟩, .string ⟨#[109, 97, 112]⟩, .string ⟨#[110, 101, 118, 101, 114]⟩]) (.int .i64 0)).run Tryd.prog w = .ok (.string ⟨#[97, 110, 121]⟩) w := by kernel_rfl
theorem names_ix1 (w : World) : (Instr.index 62 (.agg #[.string ⟨#[97, 110, 121]⟩, .string ⟨#[110, 117, 108, 108]⟩, .string ⟨#[98, 111, 111, 108]⟩, .string ⟨#[105, 110, 116]⟩, .string ⟨#[115, 116, 114, 105, 110, 103]⟩, .string ⟨#[108, 105, 115, 116]⟩, .string ⟨#[109, 97, 112]⟩, .string ⟨#[110, 101, 118, 101, 114]⟩]) (.int .i64 1)).run Tryd.prog w = .ok (.string ⟨#[110, 117, 108, 108]⟩) w := by kernel_rfl
theorem names_ix2 (w : World) : (Instr.index 62 (.agg #[.string ⟨#[97, 110, 121]⟩, .string ⟨#[110, 117, 108, 108]⟩, .string ⟨#[98, 111, 111, 108]⟩, .string ⟨#[105, 110, 116]⟩, .string ⟨#[115, 116, 114, 105, 110, 103]⟩, .string ⟨#[108, 105, 115, 116]⟩, .string ⟨#[109, 97, 112]⟩, .string ⟨#[110, 101, 118, 101, 114]⟩]) (.int .i64 2)).run Tryd.prog w = .ok (.string ⟨#[98, 111, 111, 108]⟩) w := by kernel_rfl
theorem names_ix3 (w : World) : (Instr.index 62 (.agg #[.string ⟨#[97, 110, 121]⟩, .string ⟨#[110, 117, 108, 108]⟩, .string ⟨#[98, 111, 111, 108]⟩, .string ⟨#[105, 110, 116]⟩, .string ⟨#[115, 116, 114, 105, 110, 103]⟩, .string ⟨#[108, 105, 115, 116]⟩, .string ⟨#[109, 97, 112]⟩, .string ⟨#[110, 101, 118, 101, 114]⟩]) (.int .i64 3)).run Tryd.prog w = .ok (.string ⟨#[105, 110, 116]⟩) w := by kernel_rfl
theorem names_ix4 (w : World) : (Instr.index 62 (.agg #[.string ⟨#[97, 110, 121]⟩, .string ⟨#[110, 117, 108, 108]⟩, .string ⟨#[98, 111, 111, 108]⟩, .string ⟨#[105, 110, 116]⟩, .string ⟨#[115, 116, 114, 105, 110, 103]⟩, .string ⟨#[108, 105, 115, 116]⟩, .string ⟨#[109, 97, 112]⟩, .string ⟨#[110, 101, 118, 101, 114]⟩]) (.int .i64 4)).run Tryd.prog w = .ok (.string ⟨#[115, 116, 114, 105, 110, 103]⟩) w := by kernel_rfl
theorem names_ix5 (w : World) : (Instr.index 62 (.agg #[.string ⟨#[97, 110, 121]⟩, .string ⟨#[110, 117, 108, 108]⟩, .string ⟨#[98, 111, 111, 108]⟩, .string ⟨#[105, 110, 116]⟩, .string ⟨#[115, 116, 114, 105, 110, 103]⟩, .string ⟨#[108, 105, 115, 116]⟩, .string ⟨#[109, 97, 112]⟩, .string ⟨#[110, 101, 118, 101, 114]⟩]) (.int .i64 5)).run Tryd.prog w = .ok (.string ⟨#[108, 105, 115, 116]⟩) w := by kernel_rfl
theorem names_ix6 (w : World) : (Instr.index 62 (.agg #[.string ⟨#[97, 110, 121]⟩, .string ⟨#[110, 117, 108, 108]⟩, .string ⟨#[98, 111, 111, 108]⟩, .string ⟨#[105, 110, 116]⟩, .string ⟨#[115, 116, 114, 105, 110, 103]⟩, .string ⟨#[108, 105, 115, 116]⟩, .string ⟨#[109, 97, 112]⟩, .string ⟨#[110, 101, 118, 101, 114]⟩]) (.int .i64 6)).run Tryd.prog w = .ok (.string ⟨#[109, 97, 112]⟩) w := by kernel_rfl
theorem names_ix7 (w : World) : (Instr.index 62 (.agg #[.string ⟨#[97, 110, 121]⟩, .string ⟨#[110, 117, 108, 108]⟩, .string ⟨#[98, 111, 111, 108]⟩, .string ⟨#[105, 110, 116]⟩, .string ⟨#[115, 116, 114, 105, 110, 103]⟩, .string ⟨#[108, 105, 115, 116]⟩, .string ⟨#[109, 97, 112]⟩, .string ⟨#[110, 101, 118, 101, 114]⟩]) (.int .i64 7)).run Tryd.prog w = .ok (.string ⟨#[110, 101, 118, 101, 114]⟩) w := by kernel_rfl

/-- What parse answers of a text. -/
def PPost (l : List UInt8) (n : Nat) (V : Value) (ok : Bool) (w' : World) : Prop := (ok = true → ∃ t, IsTx l t ∧ IsP (fun b => n ≤ b) w' V t) ∧ (ok = false → ∀ t, ¬ IsTx l t) ∧ (∃ k av m c, V = .agg #[.int .i64 k, .slice av m c])
theorem PPost.below {l : List UInt8} {n : Nat} {V : Value} {ok : Bool} {w w' : World} (h : PPost l n V ok w) (hb : Below w.heap.size w w') : PPost l n V ok w' :=
  ⟨fun e => by obtain ⟨t, h1, h2⟩ := h.1 e; exact ⟨t, h1, h2.below (fun _ h => h) hb⟩, h.2.1, h.2.2⟩
def PSpec (l : List UInt8) (w : World) (e : Ending) (w' : World) : Prop := ∃ V ok, e = .returned (.tuple #[V, .bool ok]) ∧ PPost l w.heap.size V ok w' ∧ Below w.heap.size w w'

theorem kd_step {l : List UInt8} {i : Int} (h : ∀ t, IsTx l t → i ≤ t.kd) (hn : ∀ t, IsTx l t → t.kd ≠ i) : ∀ t, IsTx l t → i + 1 ≤ t.kd := fun t ht => by
  have h1 := h t ht
  have h2 := hn t ht
  omega

theorem parse_end {l r : List UInt8} {w wr w2 w3 : World} {i k2 : Int} {m2 cc2 g : Nat} {av2 : Option Addr} {ok : Bool} (hi : nodeK i) (hl : l = nameL i ++ 40 :: (r ++ [41])) (hpp : PPost r wr.heap.size (.agg #[.int .i64 k2, .slice av2 m2 cc2]) ok w2)
    (hn : w.heap.size < wr.heap.size) (hb2 : Below wr.heap.size wr w2) (hg : w2.heap.size ≤ g ∧ g < w3.heap.size) (hc0 : w3.cell? ⟨g, 0, none⟩ = some (.int .i64 k2)) (hc1 : w3.cell? ⟨g, 1, none⟩ = some (.slice av2 m2 cc2)) (hb3 : Below w2.heap.size w2 w3) (u v : Value) :
    PPost l w.heap.size (.agg #[.int .i64 i, .slice (some ⟨g, 0, none⟩) 1 1]) ok ((w3.setCell ⟨w.heap.size, 0, none⟩ u).setCell ⟨w.heap.size, 1, none⟩ v) := by
  obtain ⟨h1, h2, _⟩ := hpp
  have z2 := hb2.size
  refine ⟨fun h => ?_, fun h t ht => ?_, _, _, _, _, rfl⟩
  · obtain ⟨t, ht, av, c, e, hT⟩ := h1 h
    injection e with e
    simp only [Array.mk.injEq, List.cons.injEq, Value.int.injEq, Value.slice.injEq, true_and, and_true] at e
    obtain ⟨rfl, rfl, rfl, rfl⟩ := e
    have hs : ∀ b, b ≠ w.heap.size → ((w3.setCell ⟨w.heap.size, 0, none⟩ u).setCell ⟨w.heap.size, 1, none⟩ v).heap[b]? = w3.heap[b]? := fun b h => (Below.heap_setCell _ _ _ b h).trans (Below.heap_setCell _ _ _ b h)
    refine ⟨.node i t, by rw [hl]; exact tx_make hi ht, some ⟨g, 0, none⟩, 1, rfl, g, 0, av2, cc2, rfl, by omega, ?_, ?_, ?_, ?_⟩
    · simp [World.setCell]; exact hg.2
    · exact (cell_block (hs g (by omega))).trans hc0
    · exact (cell_block (hs g (by omega))).trans hc1
    · refine TailP.kept (fun b h => by omega) (fun b h hlt => ?_) t _ hT
      rw [hs b (by omega)]
      exact hb3.block b hlt
  · rw [hl] at ht
    obtain ⟨t', rfl, h3⟩ := tx_form hi ht
    exact h2 h t' h3

set_option maxHeartbeats 8000000 in
set_option maxRecDepth 100000 in
theorem parse_step (s : ByteArray) (hs : s.size ≤ 4096) (ih : ∀ x : ByteArray, x.size < s.size → ∀ w, TabT w → Calls Tryd.prog 49 #[.string x] w (PSpec x.data.toList w)) (w : World) (hT : TabT w) :
    Calls Tryd.prog 49 #[.string s] w (PSpec s.data.toList w) := by
  obtain ⟨c0, c1, c2, c3, c4, c5, c6, c7⟩ := names_cells hT
  have hg := World.block_lt_of_cell? w _ c0
  have HT := Lib.hid hT
  have BT := Lib.hid (fun p => between_any s p ⟨#[41]⟩ hs)
  have CP := Lib.hid (fun k w => tyCompound_any k w)
  have SI := Lib.hid (fun k w => tySimple_any k w)
  have HIH := Lib.hid ih
  clear hT ih hs
  go_enter Tryd.func49, Tryd.ntmps49
  go_wp2_with fail
  go_loopw [11] (fun s11 wr => ∃ i : Nat, i ≤ 8 ∧ s11 = .int .i64 (i : Int) ∧ Hid (∀ t, IsTx s.data.toList t → (i : Int) ≤ t.kd) ∧ Hid (TwoAt wr w.heap.size 24 (.int .i64 0) (.slice none 0 0)) ∧ Hid (Below w.heap.size w wr)) (fun s11 _ => 9 - (RowKit.intOf s11).toNat)
  case atStart => exact ⟨0, by omega, rfl, Lib.hid (fun t ht => (tx_kd ht).1), Lib.hid (TwoAt.new _ _ _ _), Lib.hid ((Below.refl _ _).alloc (Nat.le_refl _) _)⟩
  case round =>
    obtain ⟨i, hi, rfl, HK, TR, HB⟩ := hrel
    clear c0 c1 c2 c3 c4 c5 c6 c7 hg
    have hz := TR.out.lt
    have t0 := TR.out.cell0
    have t1 := TR.out.cell1
    have f0 := TR.out.frozen 0
    have f1 := TR.out.frozen 1
    by_cases h8 : i = 8
    · subst h8
      have HN := Lib.hid (show ∀ t, ¬ IsTx s.data.toList t from fun t ht => by have h1 := HK.out t ht; have h2 := (tx_kd ht).2; omega)
      go_wp2_with fail
      have TR2 := (TR.out.set0 (.int .i64 0)).set1 (.slice none 0 0)
      have u0 := TR2.cell0
      have u1 := TR2.cell1
      exact bodyPost_ret (v := .tuple #[.agg #[.int .i64 0, .slice none 0 0], .bool false]) (by simp [results, Tryd.f49, go_sem, u0, u1]) rfl ⟨_, _, rfl, ⟨(fun h => nomatch h), fun _ => HN.out, _, _, _, _, rfl⟩, (HB.out.setCell (by simp) _).setCell (by simp) _⟩
    rcases (show i = 0 ∨ i = 1 ∨ i = 2 ∨ i = 3 ∨ i = 4 ∨ i = 5 ∨ i = 6 ∨ i = 7 by omega) with rfl | rfl | rfl | rfl | rfl | rfl | rfl | rfl
    · have ix := names_ix0
      have hlf : leafK 0 := by unfold leafK; omega
      have CP1 := Lib.hid (fun w => CP.out 0 w)
      rw [leaf_no hlf] at CP1
      have SI1 := Lib.hid (fun w => SI.out 0 w)
      cases hq : (s.toList == [97, 110, 121])
      · have HN := Lib.hid (kd_step HK.out (fun t => tx_leaf hlf (show s.data.toList ≠ nameL 0 from fun e => by
          rw [Lib.toList_data, e] at hq
          exact absurd hq (by decide))))
        have s1 := fun w => run_string_add_sum (P := Tryd.prog) w ⟨#[97, 110, 121]⟩ ⟨#[40]⟩ (by decide)
        have BT1 := Lib.hid (fun w => BT.out (⟨#[97, 110, 121]⟩ ++ ⟨#[40]⟩) w)
        obtain ⟨⟨r, b⟩, hbt⟩ : ∃ bt, bt = btw s.data.toList (⟨#[97, 110, 121]⟩ ++ ⟨#[40]⟩ : ByteArray).data.toList (⟨#[41]⟩ : ByteArray).data.toList := ⟨_, rfl⟩
        rw [← hbt] at BT1
        clear hbt h8
        go_wp2_with fail
        go_fit (CP1.out _)
        rintro e w1 ⟨rfl, rfl⟩
        go_wp2_with fail
        go_fit (BT1.out _)
        rintro e w1 ⟨rfl, rfl⟩
        cases b
        · go_wp2_with fail
          exact ⟨⟨0 + 1, by omega, by go_num, HN, TR, HB⟩, by simp [RowKit.intOf]⟩
        · go_wp2_with fail
          go_fit (CP1.out _)
          rintro e w1 ⟨rfl, rfl⟩
          go_wp2_with fail
          exact ⟨⟨0 + 1, by omega, by go_num, HN, TR, HB⟩, by simp [RowKit.intOf]⟩
      · have HQ := Lib.hid (show IsTx s.data.toList (.leaf 0) from ⟨hlf, by
          rw [Lib.toList_data] at hq
          exact (beq_iff_eq.1 hq).symm⟩)
        clear h8
        go_wp2_with fail
        go_fit (CP1.out _)
        rintro e w1 ⟨rfl, rfl⟩
        go_wp2_with fail
        go_fit (SI1.out _)
        rintro e w1 ⟨rfl, hb1⟩
        have TR1 := TR.out.below hb1
        have B1 := Lib.hid (HB.out.trans (hb1.mono HB.out.size))
        have v0 := TR1.cell0
        have v1 := TR1.cell1
        have g0 := TR1.frozen 0
        have g1 := TR1.frozen 1
        clear hb1
        go_wp2_with fail
        have TR2 := (TR1.set0 (.int .i64 0)).set1 (.slice none 0 0)
        have u0 := TR2.cell0
        have u1 := TR2.cell1
        exact bodyPost_ret (v := .tuple #[.agg #[.int .i64 0, .slice none 0 0], .bool true]) (by simp [results, Tryd.f49, go_sem, u0, u1]) rfl ⟨_, _, rfl, ⟨fun _ => ⟨.leaf 0, HQ.out, none, 0, rfl, trivial⟩, (fun h => nomatch h), _, _, _, _, rfl⟩, (B1.out.setCell (by simp) _).setCell (by simp) _⟩
    · have ix := names_ix1
      have hlf : leafK 1 := by unfold leafK; omega
      have CP1 := Lib.hid (fun w => CP.out 1 w)
      rw [leaf_no hlf] at CP1
      have SI1 := Lib.hid (fun w => SI.out 1 w)
      cases hq : (s.toList == [110, 117, 108, 108])
      · have HN := Lib.hid (kd_step HK.out (fun t => tx_leaf hlf (show s.data.toList ≠ nameL 1 from fun e => by
          rw [Lib.toList_data, e] at hq
          exact absurd hq (by decide))))
        have s1 := fun w => run_string_add_sum (P := Tryd.prog) w ⟨#[110, 117, 108, 108]⟩ ⟨#[40]⟩ (by decide)
        have BT1 := Lib.hid (fun w => BT.out (⟨#[110, 117, 108, 108]⟩ ++ ⟨#[40]⟩) w)
        obtain ⟨⟨r, b⟩, hbt⟩ : ∃ bt, bt = btw s.data.toList (⟨#[110, 117, 108, 108]⟩ ++ ⟨#[40]⟩ : ByteArray).data.toList (⟨#[41]⟩ : ByteArray).data.toList := ⟨_, rfl⟩
        rw [← hbt] at BT1
        clear hbt h8
        go_wp2_with fail
        go_fit (CP1.out _)
        rintro e w1 ⟨rfl, rfl⟩
        go_wp2_with fail
        go_fit (BT1.out _)
        rintro e w1 ⟨rfl, rfl⟩
        cases b
        · go_wp2_with fail
          exact ⟨⟨1 + 1, by omega, by go_num, HN, TR, HB⟩, by simp [RowKit.intOf]⟩
        · go_wp2_with fail
          go_fit (CP1.out _)
          rintro e w1 ⟨rfl, rfl⟩
          go_wp2_with fail
          exact ⟨⟨1 + 1, by omega, by go_num, HN, TR, HB⟩, by simp [RowKit.intOf]⟩
      · have HQ := Lib.hid (show IsTx s.data.toList (.leaf 1) from ⟨hlf, by
          rw [Lib.toList_data] at hq
          exact (beq_iff_eq.1 hq).symm⟩)
        clear h8
        go_wp2_with fail
        go_fit (CP1.out _)
        rintro e w1 ⟨rfl, rfl⟩
        go_wp2_with fail
        go_fit (SI1.out _)
        rintro e w1 ⟨rfl, hb1⟩
        have TR1 := TR.out.below hb1
        have B1 := Lib.hid (HB.out.trans (hb1.mono HB.out.size))
        have v0 := TR1.cell0
        have v1 := TR1.cell1
        have g0 := TR1.frozen 0
        have g1 := TR1.frozen 1
        clear hb1
        go_wp2_with fail
        have TR2 := (TR1.set0 (.int .i64 1)).set1 (.slice none 0 0)
        have u0 := TR2.cell0
        have u1 := TR2.cell1
        exact bodyPost_ret (v := .tuple #[.agg #[.int .i64 1, .slice none 0 0], .bool true]) (by simp [results, Tryd.f49, go_sem, u0, u1]) rfl ⟨_, _, rfl, ⟨fun _ => ⟨.leaf 1, HQ.out, none, 0, rfl, trivial⟩, (fun h => nomatch h), _, _, _, _, rfl⟩, (B1.out.setCell (by simp) _).setCell (by simp) _⟩
    · have ix := names_ix2
      have hlf : leafK 2 := by unfold leafK; omega
      have CP1 := Lib.hid (fun w => CP.out 2 w)
      rw [leaf_no hlf] at CP1
      have SI1 := Lib.hid (fun w => SI.out 2 w)
      cases hq : (s.toList == [98, 111, 111, 108])
      · have HN := Lib.hid (kd_step HK.out (fun t => tx_leaf hlf (show s.data.toList ≠ nameL 2 from fun e => by
          rw [Lib.toList_data, e] at hq
          exact absurd hq (by decide))))
        have s1 := fun w => run_string_add_sum (P := Tryd.prog) w ⟨#[98, 111, 111, 108]⟩ ⟨#[40]⟩ (by decide)
        have BT1 := Lib.hid (fun w => BT.out (⟨#[98, 111, 111, 108]⟩ ++ ⟨#[40]⟩) w)
        obtain ⟨⟨r, b⟩, hbt⟩ : ∃ bt, bt = btw s.data.toList (⟨#[98, 111, 111, 108]⟩ ++ ⟨#[40]⟩ : ByteArray).data.toList (⟨#[41]⟩ : ByteArray).data.toList := ⟨_, rfl⟩
        rw [← hbt] at BT1
        clear hbt h8
        go_wp2_with fail
        go_fit (CP1.out _)
        rintro e w1 ⟨rfl, rfl⟩
        go_wp2_with fail
        go_fit (BT1.out _)
        rintro e w1 ⟨rfl, rfl⟩
        cases b
        · go_wp2_with fail
          exact ⟨⟨2 + 1, by omega, by go_num, HN, TR, HB⟩, by simp [RowKit.intOf]⟩
        · go_wp2_with fail
          go_fit (CP1.out _)
          rintro e w1 ⟨rfl, rfl⟩
          go_wp2_with fail
          exact ⟨⟨2 + 1, by omega, by go_num, HN, TR, HB⟩, by simp [RowKit.intOf]⟩
      · have HQ := Lib.hid (show IsTx s.data.toList (.leaf 2) from ⟨hlf, by
          rw [Lib.toList_data] at hq
          exact (beq_iff_eq.1 hq).symm⟩)
        clear h8
        go_wp2_with fail
        go_fit (CP1.out _)
        rintro e w1 ⟨rfl, rfl⟩
        go_wp2_with fail
        go_fit (SI1.out _)
        rintro e w1 ⟨rfl, hb1⟩
        have TR1 := TR.out.below hb1
        have B1 := Lib.hid (HB.out.trans (hb1.mono HB.out.size))
        have v0 := TR1.cell0
        have v1 := TR1.cell1
        have g0 := TR1.frozen 0
        have g1 := TR1.frozen 1
        clear hb1
        go_wp2_with fail
        have TR2 := (TR1.set0 (.int .i64 2)).set1 (.slice none 0 0)
        have u0 := TR2.cell0
        have u1 := TR2.cell1
        exact bodyPost_ret (v := .tuple #[.agg #[.int .i64 2, .slice none 0 0], .bool true]) (by simp [results, Tryd.f49, go_sem, u0, u1]) rfl ⟨_, _, rfl, ⟨fun _ => ⟨.leaf 2, HQ.out, none, 0, rfl, trivial⟩, (fun h => nomatch h), _, _, _, _, rfl⟩, (B1.out.setCell (by simp) _).setCell (by simp) _⟩
    · have ix := names_ix3
      have hlf : leafK 3 := by unfold leafK; omega
      have CP1 := Lib.hid (fun w => CP.out 3 w)
      rw [leaf_no hlf] at CP1
      have SI1 := Lib.hid (fun w => SI.out 3 w)
      cases hq : (s.toList == [105, 110, 116])
      · have HN := Lib.hid (kd_step HK.out (fun t => tx_leaf hlf (show s.data.toList ≠ nameL 3 from fun e => by
          rw [Lib.toList_data, e] at hq
          exact absurd hq (by decide))))
        have s1 := fun w => run_string_add_sum (P := Tryd.prog) w ⟨#[105, 110, 116]⟩ ⟨#[40]⟩ (by decide)
        have BT1 := Lib.hid (fun w => BT.out (⟨#[105, 110, 116]⟩ ++ ⟨#[40]⟩) w)
        obtain ⟨⟨r, b⟩, hbt⟩ : ∃ bt, bt = btw s.data.toList (⟨#[105, 110, 116]⟩ ++ ⟨#[40]⟩ : ByteArray).data.toList (⟨#[41]⟩ : ByteArray).data.toList := ⟨_, rfl⟩
        rw [← hbt] at BT1
        clear hbt h8
        go_wp2_with fail
        go_fit (CP1.out _)
        rintro e w1 ⟨rfl, rfl⟩
        go_wp2_with fail
        go_fit (BT1.out _)
        rintro e w1 ⟨rfl, rfl⟩
        cases b
        · go_wp2_with fail
          exact ⟨⟨3 + 1, by omega, by go_num, HN, TR, HB⟩, by simp [RowKit.intOf]⟩
        · go_wp2_with fail
          go_fit (CP1.out _)
          rintro e w1 ⟨rfl, rfl⟩
          go_wp2_with fail
          exact ⟨⟨3 + 1, by omega, by go_num, HN, TR, HB⟩, by simp [RowKit.intOf]⟩
      · have HQ := Lib.hid (show IsTx s.data.toList (.leaf 3) from ⟨hlf, by
          rw [Lib.toList_data] at hq
          exact (beq_iff_eq.1 hq).symm⟩)
        clear h8
        go_wp2_with fail
        go_fit (CP1.out _)
        rintro e w1 ⟨rfl, rfl⟩
        go_wp2_with fail
        go_fit (SI1.out _)
        rintro e w1 ⟨rfl, hb1⟩
        have TR1 := TR.out.below hb1
        have B1 := Lib.hid (HB.out.trans (hb1.mono HB.out.size))
        have v0 := TR1.cell0
        have v1 := TR1.cell1
        have g0 := TR1.frozen 0
        have g1 := TR1.frozen 1
        clear hb1
        go_wp2_with fail
        have TR2 := (TR1.set0 (.int .i64 3)).set1 (.slice none 0 0)
        have u0 := TR2.cell0
        have u1 := TR2.cell1
        exact bodyPost_ret (v := .tuple #[.agg #[.int .i64 3, .slice none 0 0], .bool true]) (by simp [results, Tryd.f49, go_sem, u0, u1]) rfl ⟨_, _, rfl, ⟨fun _ => ⟨.leaf 3, HQ.out, none, 0, rfl, trivial⟩, (fun h => nomatch h), _, _, _, _, rfl⟩, (B1.out.setCell (by simp) _).setCell (by simp) _⟩
    · have ix := names_ix4
      have hlf : leafK 4 := by unfold leafK; omega
      have CP1 := Lib.hid (fun w => CP.out 4 w)
      rw [leaf_no hlf] at CP1
      have SI1 := Lib.hid (fun w => SI.out 4 w)
      cases hq : (s.toList == [115, 116, 114, 105, 110, 103])
      · have HN := Lib.hid (kd_step HK.out (fun t => tx_leaf hlf (show s.data.toList ≠ nameL 4 from fun e => by
          rw [Lib.toList_data, e] at hq
          exact absurd hq (by decide))))
        have s1 := fun w => run_string_add_sum (P := Tryd.prog) w ⟨#[115, 116, 114, 105, 110, 103]⟩ ⟨#[40]⟩ (by decide)
        have BT1 := Lib.hid (fun w => BT.out (⟨#[115, 116, 114, 105, 110, 103]⟩ ++ ⟨#[40]⟩) w)
        obtain ⟨⟨r, b⟩, hbt⟩ : ∃ bt, bt = btw s.data.toList (⟨#[115, 116, 114, 105, 110, 103]⟩ ++ ⟨#[40]⟩ : ByteArray).data.toList (⟨#[41]⟩ : ByteArray).data.toList := ⟨_, rfl⟩
        rw [← hbt] at BT1
        clear hbt h8
        go_wp2_with fail
        go_fit (CP1.out _)
        rintro e w1 ⟨rfl, rfl⟩
        go_wp2_with fail
        go_fit (BT1.out _)
        rintro e w1 ⟨rfl, rfl⟩
        cases b
        · go_wp2_with fail
          exact ⟨⟨4 + 1, by omega, by go_num, HN, TR, HB⟩, by simp [RowKit.intOf]⟩
        · go_wp2_with fail
          go_fit (CP1.out _)
          rintro e w1 ⟨rfl, rfl⟩
          go_wp2_with fail
          exact ⟨⟨4 + 1, by omega, by go_num, HN, TR, HB⟩, by simp [RowKit.intOf]⟩
      · have HQ := Lib.hid (show IsTx s.data.toList (.leaf 4) from ⟨hlf, by
          rw [Lib.toList_data] at hq
          exact (beq_iff_eq.1 hq).symm⟩)
        clear h8
        go_wp2_with fail
        go_fit (CP1.out _)
        rintro e w1 ⟨rfl, rfl⟩
        go_wp2_with fail
        go_fit (SI1.out _)
        rintro e w1 ⟨rfl, hb1⟩
        have TR1 := TR.out.below hb1
        have B1 := Lib.hid (HB.out.trans (hb1.mono HB.out.size))
        have v0 := TR1.cell0
        have v1 := TR1.cell1
        have g0 := TR1.frozen 0
        have g1 := TR1.frozen 1
        clear hb1
        go_wp2_with fail
        have TR2 := (TR1.set0 (.int .i64 4)).set1 (.slice none 0 0)
        have u0 := TR2.cell0
        have u1 := TR2.cell1
        exact bodyPost_ret (v := .tuple #[.agg #[.int .i64 4, .slice none 0 0], .bool true]) (by simp [results, Tryd.f49, go_sem, u0, u1]) rfl ⟨_, _, rfl, ⟨fun _ => ⟨.leaf 4, HQ.out, none, 0, rfl, trivial⟩, (fun h => nomatch h), _, _, _, _, rfl⟩, (B1.out.setCell (by simp) _).setCell (by simp) _⟩
    · have ix := names_ix5
      have hlf : nodeK 5 := by unfold nodeK; omega
      have CP1 := Lib.hid (fun w => CP.out 5 w)
      rw [node_yes hlf] at CP1
      have s1 := fun w => run_string_add_sum (P := Tryd.prog) w ⟨#[108, 105, 115, 116]⟩ ⟨#[40]⟩ (by decide)
      have BT1 := Lib.hid (fun w => BT.out (⟨#[108, 105, 115, 116]⟩ ++ ⟨#[40]⟩) w)
      obtain ⟨⟨r, b⟩, hbt⟩ : ∃ bt, bt = btw s.data.toList (⟨#[108, 105, 115, 116]⟩ ++ ⟨#[40]⟩ : ByteArray).data.toList (⟨#[41]⟩ : ByteArray).data.toList := ⟨_, rfl⟩
      rw [← hbt] at BT1
      cases b
      · have HN := Lib.hid (kd_step HK.out (fun t ht e => by
          obtain ⟨q, hq⟩ := tx_node hlf ht e
          rw [hq] at hbt
          have h2 := btw_of (nameL 5 ++ [40]) q [41]
          rw [List.append_assoc] at h2
          have h3 := hbt.trans h2
          cases h3))
        clear hbt h8
        go_wp2_with fail
        go_fit (CP1.out _)
        rintro e w1 ⟨rfl, rfl⟩
        go_wp2_with fail
        go_fit (BT1.out _)
        rintro e w1 ⟨rfl, rfl⟩
        go_wp2_with fail
        exact ⟨⟨5 + 1, by omega, by go_num, HN, TR, HB⟩, by simp [RowKit.intOf]⟩
      · have hl : s.data.toList = nameL 5 ++ 40 :: (r ++ [41]) := by
          have h2 := btw_true (l := s.data.toList) (p := nameL 5 ++ [40]) (e := [41]) (by exact congrArg Prod.snd hbt.symm)
          rw [show (btw s.data.toList (nameL 5 ++ [40]) [41]).1 = r from (congrArg Prod.fst hbt).symm, List.append_assoc] at h2
          exact h2
        have hsz : (⟨r.toArray⟩ : ByteArray).size < s.size := by
          have h3 : s.data.toList.length = s.size := by rw [Array.length_toList]; rfl
          rw [← h3, hl]
          show r.length < _
          simp
          omega
        have IH := Lib.hid (fun w hT => HIH.out ⟨r.toArray⟩ hsz w hT)
        rw [show (⟨r.toArray⟩ : ByteArray).data.toList = r by simp] at IH
        have Z := Lib.hid (fun a v n c w => tyOf_any 5 a v n c w)
        have HL := Lib.hid hl
        clear hbt h8 hl hsz
        go_wp2_with fail
        go_fit (CP1.out _)
        rintro e w1 ⟨rfl, rfl⟩
        go_wp2_with fail
        go_fit (BT1.out _)
        rintro e w1 ⟨rfl, rfl⟩
        go_wp2_with fail
        go_fit (CP1.out _)
        rintro e w1 ⟨rfl, rfl⟩
        go_wp2_with fail
        go_fit (IH.out _ (HT.out.below HB.out))
        rintro e w2 ⟨V, ok, rfl, hpp, hb2⟩
        have TR2 := TR.out.below hb2
        have B2 := Lib.hid (HB.out.trans (hb2.mono HB.out.size))
        have HPP := Lib.hid hpp
        have HB2 := Lib.hid hb2
        obtain ⟨-, -, k2, av2, m2, cc2, rfl⟩ := hpp
        clear hb2
        go_wp2_with fail
        go_fit (Z.out _ _ _ _ _)
        rintro e w3 ⟨g, rfl, hg, hc0, hc1, hb3⟩
        have BA := B2.out.alloc B2.out.size (.cells #[.int .i64 k2, .slice av2 m2 cc2] 24)
        have TR3 := (TR2.alloc _).below hb3
        have B3 := Lib.hid (BA.trans (hb3.mono BA.size))
        have HE := Lib.hid (parse_end (w := w) hlf HL.out (HPP.out.below ((Below.refl _ _).alloc (Nat.le_refl _) _)) hz (HB2.out.alloc HB2.out.size _) hg hc0 hc1 hb3 (.int .i64 5) (.slice (some ⟨g, 0, none⟩) 1 1))
        have v0 := TR3.cell0
        have v1 := TR3.cell1
        have g0 := TR3.frozen 0
        have g1 := TR3.frozen 1
        clear hg hc0 hc1 hb3 BA
        go_wp2_with fail
        have TR4 := (TR3.set0 (.int .i64 5)).set1 (.slice (some ⟨g, 0, none⟩) 1 1)
        have u0 := TR4.cell0
        have u1 := TR4.cell1
        exact bodyPost_ret (v := .tuple #[.agg #[.int .i64 5, .slice (some ⟨g, 0, none⟩) 1 1], .bool ok]) (by simp [results, Tryd.f49, go_sem, u0, u1]) rfl ⟨_, _, rfl, HE.out, (B3.out.setCell (by simp) _).setCell (by simp) _⟩
    · have ix := names_ix6
      have hlf : nodeK 6 := by unfold nodeK; omega
      have CP1 := Lib.hid (fun w => CP.out 6 w)
      rw [node_yes hlf] at CP1
      have s1 := fun w => run_string_add_sum (P := Tryd.prog) w ⟨#[109, 97, 112]⟩ ⟨#[40]⟩ (by decide)
      have BT1 := Lib.hid (fun w => BT.out (⟨#[109, 97, 112]⟩ ++ ⟨#[40]⟩) w)
      obtain ⟨⟨r, b⟩, hbt⟩ : ∃ bt, bt = btw s.data.toList (⟨#[109, 97, 112]⟩ ++ ⟨#[40]⟩ : ByteArray).data.toList (⟨#[41]⟩ : ByteArray).data.toList := ⟨_, rfl⟩
      rw [← hbt] at BT1
      cases b
      · have HN := Lib.hid (kd_step HK.out (fun t ht e => by
          obtain ⟨q, hq⟩ := tx_node hlf ht e
          rw [hq] at hbt
          have h2 := btw_of (nameL 6 ++ [40]) q [41]
          rw [List.append_assoc] at h2
          have h3 := hbt.trans h2
          cases h3))
        clear hbt h8
        go_wp2_with fail
        go_fit (CP1.out _)
        rintro e w1 ⟨rfl, rfl⟩
        go_wp2_with fail
        go_fit (BT1.out _)
        rintro e w1 ⟨rfl, rfl⟩
        go_wp2_with fail
        exact ⟨⟨6 + 1, by omega, by go_num, HN, TR, HB⟩, by simp [RowKit.intOf]⟩
      · have hl : s.data.toList = nameL 6 ++ 40 :: (r ++ [41]) := by
          have h2 := btw_true (l := s.data.toList) (p := nameL 6 ++ [40]) (e := [41]) (by exact congrArg Prod.snd hbt.symm)
          rw [show (btw s.data.toList (nameL 6 ++ [40]) [41]).1 = r from (congrArg Prod.fst hbt).symm, List.append_assoc] at h2
          exact h2
        have hsz : (⟨r.toArray⟩ : ByteArray).size < s.size := by
          have h3 : s.data.toList.length = s.size := by rw [Array.length_toList]; rfl
          rw [← h3, hl]
          show r.length < _
          simp
          omega
        have IH := Lib.hid (fun w hT => HIH.out ⟨r.toArray⟩ hsz w hT)
        rw [show (⟨r.toArray⟩ : ByteArray).data.toList = r by simp] at IH
        have Z := Lib.hid (fun a v n c w => tyOf_any 6 a v n c w)
        have HL := Lib.hid hl
        clear hbt h8 hl hsz
        go_wp2_with fail
        go_fit (CP1.out _)
        rintro e w1 ⟨rfl, rfl⟩
        go_wp2_with fail
        go_fit (BT1.out _)
        rintro e w1 ⟨rfl, rfl⟩
        go_wp2_with fail
        go_fit (CP1.out _)
        rintro e w1 ⟨rfl, rfl⟩
        go_wp2_with fail
        go_fit (IH.out _ (HT.out.below HB.out))
        rintro e w2 ⟨V, ok, rfl, hpp, hb2⟩
        have TR2 := TR.out.below hb2
        have B2 := Lib.hid (HB.out.trans (hb2.mono HB.out.size))
        have HPP := Lib.hid hpp
        have HB2 := Lib.hid hb2
        obtain ⟨-, -, k2, av2, m2, cc2, rfl⟩ := hpp
        clear hb2
        go_wp2_with fail
        go_fit (Z.out _ _ _ _ _)
        rintro e w3 ⟨g, rfl, hg, hc0, hc1, hb3⟩
        have BA := B2.out.alloc B2.out.size (.cells #[.int .i64 k2, .slice av2 m2 cc2] 24)
        have TR3 := (TR2.alloc _).below hb3
        have B3 := Lib.hid (BA.trans (hb3.mono BA.size))
        have HE := Lib.hid (parse_end (w := w) hlf HL.out (HPP.out.below ((Below.refl _ _).alloc (Nat.le_refl _) _)) hz (HB2.out.alloc HB2.out.size _) hg hc0 hc1 hb3 (.int .i64 6) (.slice (some ⟨g, 0, none⟩) 1 1))
        have v0 := TR3.cell0
        have v1 := TR3.cell1
        have g0 := TR3.frozen 0
        have g1 := TR3.frozen 1
        clear hg hc0 hc1 hb3 BA
        go_wp2_with fail
        have TR4 := (TR3.set0 (.int .i64 6)).set1 (.slice (some ⟨g, 0, none⟩) 1 1)
        have u0 := TR4.cell0
        have u1 := TR4.cell1
        exact bodyPost_ret (v := .tuple #[.agg #[.int .i64 6, .slice (some ⟨g, 0, none⟩) 1 1], .bool ok]) (by simp [results, Tryd.f49, go_sem, u0, u1]) rfl ⟨_, _, rfl, HE.out, (B3.out.setCell (by simp) _).setCell (by simp) _⟩
    · have ix := names_ix7
      have hlf : leafK 7 := by unfold leafK; omega
      have CP1 := Lib.hid (fun w => CP.out 7 w)
      rw [leaf_no hlf] at CP1
      have SI1 := Lib.hid (fun w => SI.out 7 w)
      cases hq : (s.toList == [110, 101, 118, 101, 114])
      · have HN := Lib.hid (kd_step HK.out (fun t => tx_leaf hlf (show s.data.toList ≠ nameL 7 from fun e => by
          rw [Lib.toList_data, e] at hq
          exact absurd hq (by decide))))
        have s1 := fun w => run_string_add_sum (P := Tryd.prog) w ⟨#[110, 101, 118, 101, 114]⟩ ⟨#[40]⟩ (by decide)
        have BT1 := Lib.hid (fun w => BT.out (⟨#[110, 101, 118, 101, 114]⟩ ++ ⟨#[40]⟩) w)
        obtain ⟨⟨r, b⟩, hbt⟩ : ∃ bt, bt = btw s.data.toList (⟨#[110, 101, 118, 101, 114]⟩ ++ ⟨#[40]⟩ : ByteArray).data.toList (⟨#[41]⟩ : ByteArray).data.toList := ⟨_, rfl⟩
        rw [← hbt] at BT1
        clear hbt h8
        go_wp2_with fail
        go_fit (CP1.out _)
        rintro e w1 ⟨rfl, rfl⟩
        go_wp2_with fail
        go_fit (BT1.out _)
        rintro e w1 ⟨rfl, rfl⟩
        cases b
        · go_wp2_with fail
          exact ⟨⟨7 + 1, by omega, by go_num, HN, TR, HB⟩, by simp [RowKit.intOf]⟩
        · go_wp2_with fail
          go_fit (CP1.out _)
          rintro e w1 ⟨rfl, rfl⟩
          go_wp2_with fail
          exact ⟨⟨7 + 1, by omega, by go_num, HN, TR, HB⟩, by simp [RowKit.intOf]⟩
      · have HQ := Lib.hid (show IsTx s.data.toList (.leaf 7) from ⟨hlf, by
          rw [Lib.toList_data] at hq
          exact (beq_iff_eq.1 hq).symm⟩)
        clear h8
        go_wp2_with fail
        go_fit (CP1.out _)
        rintro e w1 ⟨rfl, rfl⟩
        go_wp2_with fail
        go_fit (SI1.out _)
        rintro e w1 ⟨rfl, hb1⟩
        have TR1 := TR.out.below hb1
        have B1 := Lib.hid (HB.out.trans (hb1.mono HB.out.size))
        have v0 := TR1.cell0
        have v1 := TR1.cell1
        have g0 := TR1.frozen 0
        have g1 := TR1.frozen 1
        clear hb1
        go_wp2_with fail
        have TR2 := (TR1.set0 (.int .i64 7)).set1 (.slice none 0 0)
        have u0 := TR2.cell0
        have u1 := TR2.cell1
        exact bodyPost_ret (v := .tuple #[.agg #[.int .i64 7, .slice none 0 0], .bool true]) (by simp [results, Tryd.f49, go_sem, u0, u1]) rfl ⟨_, _, rfl, ⟨fun _ => ⟨.leaf 7, HQ.out, none, 0, rfl, trivial⟩, (fun h => nomatch h), _, _, _, _, rfl⟩, (B1.out.setCell (by simp) _).setCell (by simp) _⟩
theorem parse_any (s : ByteArray) (hs : s.size ≤ 4096) (w : World) (hT : TabT w) : Calls Tryd.prog 49 #[.string s] w (PSpec s.data.toList w) := by
  obtain ⟨n, hn⟩ : ∃ n, n = s.size := ⟨_, rfl⟩
  induction n using Nat.strongRecOn generalizing s w with
  | ind n ih =>
    subst hn
    exact parse_step s hs (fun x hx w hT => ih x.size hx x (by omega) w hT rfl) w hT
end Go.Proofs.YtabopneehhnhfabDoor
