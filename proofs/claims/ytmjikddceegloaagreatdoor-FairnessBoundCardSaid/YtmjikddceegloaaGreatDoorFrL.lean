/- The contracts of slices.AppendSeq, Collect and SortedFunc over shares (fairness). -/
import Derived.Test.YtmjikddceegloaaGreatDoorFrK
namespace Go.Proofs.YtmjikddceegloaaGreatDoor
open Go.RowKit Go.Shelf

attribute [local go_sem] Oper.semAt_some

/-- The loop variable's block. -/
theorem thH_own (x y z : Value) (b : Nat) : Own (fun (_ : Unit) W => ThH W b x y z) := fun _ X Y row hs hg hr => by
  refine ⟨(hg.block b hs.lt (fun e => ?_)).trans hs.blk⟩
  obtain ⟨o, ho, hc⟩ := hr b e.symm
  rw [hs.blk] at ho
  cases ho
  cases hc
theorem ThH.grown {X Y : World} {b : Nat} {x y z : Value} {row : Option Nat} (hs : ThH X b x y z) (hg : X.grownBy Y row) (hr : row ≠ some b) : ThH Y b x y z := ⟨(hg.block b hs.lt (fun e => hr e.symm)).trans hs.blk⟩
theorem cells_three_new (w : World) (x y z : Value) (t : TypeId) : ∀ j u, [x, y, z][j]? = some u → (w.alloc (.cells #[x, y, z] t)).cell? ((⟨w.heap.size, 0, none⟩ : Addr).add j) = some u := by
  intro j u h
  have hb : (w.alloc (.cells #[x, y, z] t)).heap[w.heap.size]? = some (.cells #[x, y, z] t (0, 0)) := World.alloc_heap_new w _
  have hc : ∀ k, (w.alloc (.cells #[x, y, z] t)).cell? ⟨w.heap.size, k, none⟩ = [x, y, z][k]? := by
    intro k
    simp only [World.cell?, hb]
    simp
  rw [addr_add, Nat.zero_add, hc]
  exact h

set_option maxRecDepth 100000 in
set_option maxHeartbeats 4000000 in
theorem appendSeq_any (Bs cap : Nat) (v : Option Addr) (L : List Sha) (hlen : L.length ≤ 1000000) (w : World) (hs2 : Bs < w.heap.size) (hBs : w.cell? ⟨Bs, 0, none⟩ = some (.slice v L.length cap)) (hr : LowH w.heap.size w v L) :
    Calls Tryz.prog 84 #[.slice none 0 0, .func (.func 66) #[] #[.pointer (some ⟨Bs, 0, none⟩)]] w fun e w' => ∃ v', e = .returned v' ∧ RowH w' w.heap.size v' L ∧ Below w.heap.size w w' := by
  obtain ⟨i0, hi, hz0, hz1, hz2⟩ := info_parts infoH
  refine (callsIn_wide (n := 3)).1 ?_
  refine callsIn_of_wp_marks Tryz.func84 rfl trivial ?_ rfl
  simp only [Tryz.ntmps84, List.size_toArray, List.length_cons, List.length_nil, Nat.reduceAdd, Nat.reduceSub, Array.replicate_succ, Array.replicate_zero, List.push_toArray, List.append_toArray, List.nil_append, List.cons_append]
  gi_wp2
  have bO := Boxed.new w 22 (.slice none 0 0)
  have hB0 : Below w.heap.size w (w.alloc (.cells #[.slice none 0 0] 22)) := (Below.refl _ w).alloc (Nat.le_refl _) _
  have hc0 : (w.alloc (.cells #[.slice none 0 0] 22)).cell? ⟨Bs, 0, none⟩ = some (.slice v L.length cap) := (hB0.cell (p := ⟨Bs, 0, none⟩) hs2).trans hBs
  have hst := vals_stops Fence.wide (3 - 1) trivial rfl (by omega) Bs w.heap.size cap v L hlen (w.alloc (.cells #[.slice none 0 0] 22)) (by simp; omega) (by simp) hc0 (hr.keep hB0)
  refine wpIn_rangeFunc_ownH rfl (by omega) (gf := 66) (lb := #[.pointer (some ⟨Bs, 0, none⟩)]) rfl trivial (enters_of Tryz.func66 (by kernel_rfl) rfl)
    hst belowK_t (belowK_b (by simp)) (Below.refl _ _) (fun _ => rfl)
    (fun (pre : List Sha) W => (∃ u, Boxed W w.heap.size 22 u ∧ W.ownsRow w.heap.size 41 3 u pre.length (pre.flatMap shC) ∧ True) ∧ Below w.heap.size w W)
    (fun _ _ _ => False)
    (OwnFrom.and (Own.from (holdsRow_own w.heap.size w.heap.size 22 41 3 (fun pre : List Sha => pre.length) (fun pre : List Sha => pre.flatMap shC) (fun _ _ => True)) _) (ownFrom_below (Nat.le_refl _) (by simp)))
    (fun _ _ _ _ _ hs _ _ => hs)
    ⟨⟨_, bO, World.ownsRow_nil _ _ _ _, trivial⟩, hB0⟩
    (fun x a' W => ∃ b, ThH W b (.string ⟨x.prj.toArray⟩) (.int .i64 x.wgt) (.int .i64 x.srv) ∧ a' = { tmps := #[.slice none 0 0, .func (.func 66) #[] #[.pointer (some ⟨Bs, 0, none⟩)], .pointer (some ⟨w.heap.size, 0, none⟩), undef, .slice none 0 0, .pointer (some ⟨b, 0, none⟩), .func (.func 66) #[] #[.pointer (some ⟨Bs, 0, none⟩)], shV x, undef, undef, undef, undef, undef], defers := [] })
    (fun x a' => fun s X Y row hs hg hr => by
      obtain ⟨b, hb, e⟩ := hs
      exact ⟨b, thH_own _ _ _ b s X Y row hb hg (fun r h => (hr r h).2), e⟩)
    ?assign ?body ?done ?stop
  case assign =>
    rintro lp pre x W K ⟨⟨u, hv, hrow, _⟩, hB⟩ hK
    have hB1 := hB.alloc hB.size (.cells #[.string ⟨x.prj.toArray⟩, .int .i64 x.wgt, .int .i64 x.srv] 41)
    unfold shV at hK ⊢
    gi_wp2
    exact hK _ _ ((KeepsOthers.alloc W _).from _) ((Below.refl _ _).alloc hB.size _) ⟨⟨u, hv.alloc _, hrow.alloc _, trivial⟩, hB1⟩ ⟨W.heap.size, ThH.new W _ _ _, rfl⟩
  case body =>
    rintro lp pre x a' W _ _ ⟨⟨u, hv, hrow, _⟩, hB⟩ ⟨b, hb, rfl⟩ hlt
    have hc := hv.cell
    obtain ⟨t0, t1, t2⟩ := hb.facts
    unfold shV
    have hpl : pre.length ≤ 1000000 := by omega
    gi_wp2_with (gi_at_builtin; refine wpListIn_append_own _ rfl _ _ 22 rfl w.heap.size 41 i0 _ 3 32 Tryz.underlying22 hi hz0 hz1 hz2 rfl (by decide) _ _ _ rfl (hrow.alloc _) ⟨W.heap.size, 0, none⟩ 1 1 [.string ⟨x.prj.toArray⟩, .int .i64 x.wgt, .int .i64 x.srv] rfl rfl (cells_three_new _ _ _ _ _) (by simp [Value.oneCell']) (by unfold maxLen; omega) (by omega) (by have := hB.size; simp; omega) ?_; intro v' w1 hown' hgrow _; obtain ⟨g', cap', rfl⟩ := ownsRow_succ hown'; obtain ⟨hv1, hv2, hr2, hk2, hb2⟩ := hv.appended (by decide) hrow hB.size (Nat.le_refl _) hown' hgrow; have hc1 := hv1.cell; have hf1 := hv1.frozen)
    exact ⟨hk2.from _, hb2, ⟨_, hv2, by simpa [List.flatMap_append, shC] using hr2, trivial⟩, hB.trans hb2⟩
  case done =>
    rintro D ys W hD rfl ⟨⟨u, hv, hrow, _⟩, hB⟩ hK
    have hc := hv.cell
    gi_wp2
    refine ⟨by simp, .inl ⟨_, _, rfl, run_takeDeferred hK, ?_⟩⟩
    exact ⟨_, results_tmp rfl _ _ _, u, rfl, ownsRow_putObj hrow _ hK rfl, hB.trans (belowK_b (w := w) (Nat.le_refl _) W D _ _ (by simp at hD; omega) hK rfl rfl)⟩
  case stop =>
    rintro D c pre W _ _ h _
    exact h.elim

set_option maxHeartbeats 1000000 in
theorem collect_any (Bs cap : Nat) (v : Option Addr) (L : List Sha) (hlen : L.length ≤ 1000000) (w : World) (hs2 : Bs < w.heap.size) (hBs : w.cell? ⟨Bs, 0, none⟩ = some (.slice v L.length cap)) (hr : LowH w.heap.size w v L) :
    Calls Tryz.prog 64 #[.func (.func 66) #[] #[.pointer (some ⟨Bs, 0, none⟩)]] w fun e w' => ∃ v', e = .returned v' ∧ RowH w' w.heap.size v' L ∧ Below w.heap.size w w' := by
  have A := Lib.hid (appendSeq_any Bs cap v L hlen w hs2 hBs hr)
  clear hr hBs hs2
  go_enter Tryz.func64, Tryz.ntmps64
  go_wp2_with fail
  go_fit A.out
  rintro e w1 ⟨v', rfl, hrow, hb⟩
  go_wp2_with fail
  go_ret
  exact ⟨v', rfl, hrow, hb⟩
end Go.Proofs.YtmjikddceegloaaGreatDoor
