/- The contracts of slices.Clone, with and Charge (fairness). -/
import Derived.Test.YtmjikddceegloaaGreatDoorFrG
import Derived.Laws.OwnMore
import Derived.Laws.AppendOwnNone
import Derived.Maps.AppendAt
import Derived.Deep.Onto
namespace Go.Proofs.YtmjikddceegloaaGreatDoor
open Go.RowKit Go.Lib
set_option linter.unusedSimpArgs false

theorem flat_set : ∀ (L : List Sha) (k : Nat) (s : Sha), k < L.length → (((L.flatMap shC).set (k * 3) (.string ⟨s.prj.toArray⟩)).set (k * 3 + 1) (.int .i64 s.wgt)).set (k * 3 + 2) (.int .i64 s.srv) = (L.set k s).flatMap shC
  | t :: L, 0, s, _ => by simp [shC]
  | t :: L, k + 1, s, h => by
    have ih := flat_set L k s (by simpa using h)
    rw [List.set_cons_succ, List.flatMap_cons, List.flatMap_cons, ← ih, show (k + 1) * 3 = k * 3 + 1 + 1 + 1 by omega]
    simp [shC]
set_option maxRecDepth 100000 in
set_option maxHeartbeats 2000000 in
theorem cloneH_own (p : Addr) (L : List Sha) (c : Nat) (hl : L.length ≤ 1000000) (w : World) (hr : ReadsH w (some p) L) :
    Calls Tryz.prog 32 #[.slice (some p) L.length c] w fun e w' => ∃ v', e = .returned v' ∧ RowH w' w.heap.size v' L ∧ Below w.heap.size w w' := by
  obtain ⟨i0, hi, hz0, hz1, hz2⟩ := info_parts infoH
  have A : Aside (∀ j u, (L.flatMap shC)[j]? = some u → w.cell? (p.add j) = some u) := by
    intro j u hj
    obtain ⟨hlt, _⟩ := List.getElem?_eq_some_iff.1 hj
    rw [flatH_len] at hlt
    obtain ⟨b, off, e, _, _⟩ := hr 0 (by omega)
    cases e
    exact readsH_cells hr j u hj
  clear hr
  have q23 : ∀ (w : World) (a : Option Addr) (n c n' c' : Nat), (binOp .eql 22 (.slice a n c) (.slice none n' c')).run Tryz.prog w = .ok (.bool a.isNone) w := fun w a n c n' c' => Lib.run_eql_slice_nil w _ _ a n c n' c' Tryz.underlying22
  go_enter Tryz.func32, Tryz.ntmps32
  go_wp2_with (at_builtin; refine wpList_append_own _ rfl _ _ 22 rfl w.heap.size 41 i0 _ 3 32 Tryz.underlying22 hi hz0 hz1 hz2 rfl (by decide) _ _ _ rfl (World.ownsRow_made w #[] 0 (Nat.le_refl _) (Nat.zero_le _) (by simp)) p L.length c (L.flatMap shC) rfl ?qc1 ?qc2 ?qc3 ?qc4 ?qc5 ?qc6 ?_)
  case qc1 => exact flatH_len L
  case qc2 =>
    intro j u hj
    exact Lib.cell?_alloc_some _ (A.out j u hj)
  case qc3 => exact shC_one L
  case qc4 => rw [Nat.zero_add]; unfold maxLen; omega
  case qc5 => rw [Nat.zero_add]; omega
  case qc6 => simp
  intro v' w1 hown hgrow hnil
  go_wp2_with fail
  go_ret
  refine ⟨v', rfl, ?_, ?_⟩
  · unfold RowH
    simpa using hown
  · exact ((Below.refl _ w).alloc (Nat.le_refl _) _).grown hgrow (by simp) (by intro k hk; simp [Value.ownBlock] at hk; omega)
set_option maxRecDepth 100000 in
set_option maxHeartbeats 1000000 in
theorem cloneH_any (v : Option Addr) (L : List Sha) (c : Nat) (hl : L.length ≤ 1000000) (w : World) (hr : ReadsH w v L) :
    Calls Tryz.prog 32 #[.slice v L.length c] w fun e w' => ∃ v', e = .returned v' ∧ RowH w' w.heap.size v' L ∧ Below w.heap.size w w' := by
  cases v with
  | some p => exact cloneH_own p L c hl w hr
  | none =>
    obtain rfl : L = [] := by
      cases L with
      | nil => rfl
      | cons x r => obtain ⟨_, _, e, _⟩ := hr 0 (by simp); cases e
    have q23 : ∀ (w : World) (a : Option Addr) (n c n' c' : Nat), (binOp .eql 22 (.slice a n c) (.slice none n' c')).run Tryz.prog w = .ok (.bool a.isNone) w := fun w a n c n' c' => Lib.run_eql_slice_nil w _ _ a n c n' c' Tryz.underlying22
    clear hr hl
    go_enter Tryz.func32, Tryz.ntmps32
    go_wp2_with fail
    go_ret
    exact ⟨_, rfl, RowH.nil _ _, Below.refl _ _⟩
set_option maxRecDepth 100000 in
set_option maxHeartbeats 2000000 in
theorem with_any (v : Option Addr) (L : List Sha) (c k : Nat) (s : Sha) (hk : k < L.length) (hl : L.length ≤ 1000000) (w : World) (hr : ReadsH w v L) :
    Calls Tryz.prog 30 #[.slice v L.length c, .int .i64 (k : Int), shV s] w fun e w' => ∃ v', e = .returned v' ∧ RowH w' w.heap.size v' (L.set k s) ∧ Below w.heap.size w w' := by
  obtain ⟨sa, hsa⟩ : ∃ t : ByteArray, t = ⟨s.prj.toArray⟩ := ⟨_, rfl⟩
  have HFS := Lib.hid (flat_set L k s hk)
  unfold shV
  rw [← hsa] at HFS ⊢
  have hbx := (Below.refl w.heap.size w).alloc (Nat.le_refl _) (.cells #[.string sa, .int .i64 s.wgt, .int .i64 s.srv] 41)
  have CL := Lib.hid (cloneH_any v L c hl _ (hr.below hbx))
  have HBX := Lib.hid hbx
  have T0 := Lib.hid (ThH.new w (.string sa) (.int .i64 s.wgt) (.int .i64 s.srv))
  clear hbx hr hsa
  go_enter Tryz.func30, Tryz.ntmps30
  go_wp2_with fail
  go_fit CL.out
  rintro e w1 ⟨v', rfl, hrow, hb⟩
  have T1 := T0.out.below hb
  obtain ⟨t0, t1, t2⟩ := T1.facts
  have B1 := Lib.hid (HBX.out.trans (hb.mono HBX.out.size))
  have hrow' : w1.ownsRow (w.alloc (.cells #[.string sa, .int .i64 s.wgt, .int .i64 s.srv] 41)).heap.size 41 3 v' L.length (L.flatMap shC) := hrow
  rw [show (w.alloc (.cells #[.string sa, .int .i64 s.wgt, .int .i64 s.srv] 41)).heap.size = w.heap.size + 1 by simp] at hrow'
  rcases hrow'.2 with ⟨_, h0⟩ | ⟨g, cap, cur, rfl, hg, hh, h3, h4, h5, h6⟩
  · omega
  · have f0 := hrow'.frozenAt (k * 3)
    have f1 := hrow'.frozenAt (k * 3 + 1)
    have f2 := hrow'.frozenAt (k * 3 + 2)
    have hcl := flatH_len L
    obtain ⟨y0, d0⟩ : ∃ y, w1.cell? ⟨g, k * 3, none⟩ = some y := ⟨_, (hrow'.cellAt _ (by omega)).trans (List.getElem?_eq_getElem (by omega))⟩
    obtain ⟨y1, d1⟩ : ∃ y, w1.cell? ⟨g, k * 3 + 1, none⟩ = some y := ⟨_, (hrow'.cellAt _ (by omega)).trans (List.getElem?_eq_getElem (by omega))⟩
    obtain ⟨y2, d2⟩ : ∃ y, w1.cell? ⟨g, k * 3 + 2, none⟩ = some y := ⟨_, (hrow'.cellAt _ (by omega)).trans (List.getElem?_eq_getElem (by omega))⟩
    have ho := ((((hrow'.stored (k * 3) (.string sa)).1.stored (k * 3 + 1) (.int .i64 s.wgt)).1).stored (k * 3 + 2) (.int .i64 s.srv)).1
    rw [HFS.out] at ho
    have HO := Lib.hid ho
    have hkI : (k : Int) < (L.length : Int) := by omega
    have hk0 : (0 : Int) ≤ (k : Int) := by omega
    have hgw : w.heap.size ≤ g := by omega
    clear hb T1 hrow hrow' ho hh h6
    go_wp2_with fail
    go_ret
    refine ⟨_, rfl, ?_, ?_⟩
    · unfold RowH
      rw [List.length_set]
      exact World.ownsRow.mono HO.out (by omega)
    · exact ((B1.out.setCell hgw _).setCell hgw _).setCell hgw _
end Go.Proofs.YtmjikddceegloaaGreatDoor
