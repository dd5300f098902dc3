/- The contracts of servedAlike, slices.MinFunc at one share, slices.Insert at the end (fairness). -/
import Derived.Test.YtmjikddceegloaaGreatDoorFrP
import Derived.Test.YtmjikddceegloaaGreatDoorNumD
namespace Go.Proofs.YtmjikddceegloaaGreatDoor
open Go.RowKit Go.Lib
set_option linter.unusedSimpArgs false

set_option maxHeartbeats 1000000 in
theorem alike_any (s : Sha) (m q : Int) (h0 : 0 ≤ s.srv ∧ s.srv ≤ 1125899906842624) (hg : I64 s.wgt) (hm : I64 m) (hq : scQ (-s.srv) m s.wgt = -q) (hqI : 0 ≤ q ∧ q ≤ 1152921504606846976) (w : World) :
    Calls Tryz.prog 27 #[shV s, .int .i64 m] w fun e w' => e = .returned (.int .i64 q) ∧ Below w.heap.size w w' := by
  obtain ⟨pl, g, v⟩ := s
  unfold shV
  dsimp only at h0 hg hq ⊢
  have S := fun w => Scale_any (-v) m g (by unfold I64; omega) hm hg w
  rw [hq] at S
  have S := Lib.hid S
  have HB := Lib.hid ((Below.refl w.heap.size w).alloc (Nat.le_refl _) (.cells #[.string ⟨pl.toArray⟩, .int .i64 g, .int .i64 v] 41))
  have T := ThH.new w (.string ⟨pl.toArray⟩) (.int .i64 g) (.int .i64 v)
  obtain ⟨t0, t1, t2⟩ := T.facts
  have n1 : wrap64 (-v) = -v := by unfold wrap64; omega
  have n2' : wrap64 q = q := by unfold wrap64; omega
  generalize (⟨pl.toArray⟩ : ByteArray) = sx at *
  clear hq T
  go_enter Tryz.func27, Tryz.ntmps27
  go_wp2_with fail
  go_fit (S.out _)
  rintro e w2 ⟨rfl, hb⟩
  have HB2 := Lib.hid (HB.out.trans (hb.mono HB.out.size))
  clear hb
  go_wp2_with fail
  go_ret
  exact ⟨rfl, HB2.out⟩
theorem setCell_blk {w : World} {b : Nat} {cs : Array Value} {t : TypeId} (k : Nat) (h : w.heap[b]? = some (.cells cs t (0, 0))) (v : Value) : (w.setCell ⟨b, k, none⟩ v).heap[b]? = some (.cells (cs.setIfInBounds k v) t (0, 0)) := by
  obtain ⟨hlt, hk⟩ := Array.getElem?_eq_some_iff.1 h
  show (w.heap.modify b _)[b]? = _
  rw [Array.getElem?_eq_getElem (by rw [Array.size_modify]; exact hlt), Array.getElem_modify_self, hk]
  rfl
theorem ThH.store {w : World} {b : Nat} {x y z : Value} (h : ThH w b x y z) (x' y' z' : Value) : ThH (((w.setCell ⟨b, 0, none⟩ x').setCell ⟨b, 1, none⟩ y').setCell ⟨b, 2, none⟩ z') b x' y' z' := ⟨setCell_blk 2 (setCell_blk 1 (setCell_blk 0 h.blk x') y') z'⟩
theorem results_cellL {fn : Func} {p : Tmp} {ty : TypeId} (h : fn.results = #[.cell p ty]) (tmps : Array Value) (P : Program) (w : World) :
    (results fn tmps).run P w = ((asAddr (tmps.getD p undef)).run P w).andThen fun a w₁ => (loadVar ty a).run P w₁ := by
  simp only [results, h]
  simp [Sem.run_bind]
set_option maxHeartbeats 1000000 in
theorem minOne_any (b off cap : Nat) (s : Sha) (fv : Value) (w : World) (hr : ReadsH w (some ⟨b, off, none⟩) [s]) :
    Calls Tryz.prog 28 #[.slice (some ⟨b, off, none⟩) 1 cap, fv] w fun e w' => e = .returned (shV s) ∧ Below w.heap.size w w' := by
  obtain ⟨b', off', e, hbl, c0, c1, c2⟩ := hr 0 (by simp)
  cases e
  obtain ⟨pl, g, v⟩ := s
  unfold shV
  simp only [List.getElem_cons_zero, Nat.zero_mul, Nat.add_zero] at c0 c1 c2 ⊢
  clear hr
  generalize (⟨pl.toArray⟩ : ByteArray) = sx at *
  have HB := Lib.hid (((Below.refl w.heap.size w).alloc (Nat.le_refl _) (.cells #[.string ⟨#[]⟩, .int .i64 0, .int .i64 0] 41)).alloc (by simp) (.cells #[.string sx, .int .i64 g, .int .i64 v] 41))
  have T0 := (ThH.new w (.string ⟨#[]⟩) (.int .i64 0) (.int .i64 0)).alloc (.cells #[.string sx, .int .i64 g, .int .i64 v] 41)
  have T1 := ThH.new (w.alloc (.cells #[.string ⟨#[]⟩, .int .i64 0, .int .i64 0] 41)) (.string sx) (.int .i64 g) (.int .i64 v)
  rw [World.size_alloc] at T1
  go_enter Tryz.func28, Tryz.ntmps28
  go_wp2_with fail
  generalize (w.alloc (.cells #[.string ⟨#[]⟩, .int .i64 0, .int .i64 0] 41)).alloc (.cells #[.string sx, .int .i64 g, .int .i64 v] 41) = W1 at *
  go_loopw [6] (fun s6 wr => s6 = .int .i64 1 ∧ Hid (wr = W1)) (fun _ _ => 0)
  case atStart => exact ⟨rfl, Lib.hid rfl⟩
  case round =>
    obtain ⟨rfl, HW⟩ := hrel
    obtain rfl := HW.out
    obtain ⟨t0, t1, t2⟩ := T1.facts
    obtain ⟨z0, z1, z2⟩ := T0.facts
    obtain ⟨f0, f1, f2⟩ := T0.froz
    go_wp2_with fail
    have T3 := T0.store (.string sx) (.int .i64 g) (.int .i64 v)
    obtain ⟨t0, t1, t2⟩ := T3.facts
    refine bodyPost_ret (v := .agg #[.string sx, .int .i64 g, .int .i64 v]) ?_ rfl ⟨rfl, ?_⟩
    · rw [results_cellL rfl]
      go_simp
    · exact ((HB.out.setCell (Nat.le_refl _) _).setCell (Nat.le_refl _) _).setCell (Nat.le_refl _) _
theorem thH_cells {w : World} {b : Nat} {x y z : Value} (h : ThH w b x y z) : ∀ j u, [x, y, z][j]? = some u → w.cell? ((⟨b, 0, none⟩ : Addr).add j) = some u := by
  intro j u hj
  have hc : ∀ k, w.cell? ⟨b, k, none⟩ = [x, y, z][k]? := by
    intro k
    simp only [World.cell?, h.blk]
    simp
  rw [addr_add, Nat.zero_add, hc]
  exact hj
set_option maxRecDepth 100000 in
set_option maxHeartbeats 2000000 in
theorem insertEnd_any (u : Value) (L : List Sha) (s : Sha) (B pb : Nat) (hl : L.length ≤ 1000000) (w : World) (hB : B ≤ w.heap.size) (hrow : RowH w B u L) (hp : ThH w pb (.string ⟨s.prj.toArray⟩) (.int .i64 s.wgt) (.int .i64 s.srv)) :
    Calls Tryz.prog 31 #[u, .int .i64 (L.length : Int), .slice (some ⟨pb, 0, none⟩) 1 1] w fun e w' => ∃ v', e = .returned v' ∧ RowH w' B v' (L ++ [s]) ∧ Below B w w' := by
  obtain ⟨i0, hi, hz0, hz1, hz2⟩ := info_parts infoH
  have hrow' : w.ownsRow B 41 3 u L.length (L.flatMap shC) := hrow
  have HROW := Lib.hid hrow'
  have HC := Lib.hid (thH_cells hp)
  obtain ⟨sx, hsx⟩ : ∃ t : ByteArray, t = ⟨s.prj.toArray⟩ := ⟨_, rfl⟩
  have HFL := Lib.hid (show (L ++ [s]).flatMap shC = L.flatMap shC ++ [.string sx, .int .i64 s.wgt, .int .i64 s.srv] by rw [List.flatMap_append, hsx]; rfl)
  rw [← hsx] at HC
  generalize s.wgt = g at *
  generalize s.srv = v at *
  have fin : ∀ (b : Option Addr) (cp : Nat) (v' : Value) (w1 : World), w1.ownsRow B 41 3 v' (L.length + 1) (L.flatMap shC ++ [.string sx, .int .i64 g, .int .i64 v]) → w.grownBy w1 u.ownBlock → RowH w1 B v' (L ++ [s]) ∧ Below B w w1 := by
    intro _ _ v' w1 ho hg
    refine ⟨?_, (Below.refl B w).grown hg hB (fun k hk => (World.ownsRow.lt hrow' k hk).1)⟩
    unfold RowH
    rw [HFL.out, List.length_append]
    exact ho
  have FIN := Lib.hid fin
  clear hp hsx fin
  rcases hrow'.2 with ⟨rfl, h0⟩ | ⟨q, cap', cur, rfl, hg, hh, h3, h4, h5, h6⟩
  · obtain rfl : L = [] := List.eq_nil_of_length_eq_zero (by simpa using h0)
    clear hrow hrow'
    go_enter Tryz.func31, Tryz.ntmps31
    go_wp2_with (at_builtin; refine wpList_append_own _ rfl _ _ 22 rfl B 41 i0 _ 3 32 Tryz.underlying22 hi hz0 hz1 hz2 rfl (by decide) _ _ _ rfl HROW.out ⟨pb, 0, none⟩ 1 1 [.string sx, .int .i64 g, .int .i64 v] rfl rfl HC.out (by simp [Value.oneCell']) (by unfold maxLen; decide) (by decide) hB ?_)
    intro v' w1 ho hgr _
    have HX := Lib.hid (FIN.out none 0 v' w1 ho hgr)
    clear ho hgr
    go_wp2_with fail
    go_ret
    exact ⟨v', rfl, HX.out⟩
  · clear hrow hrow' hh h6
    go_enter Tryz.func31, Tryz.ntmps31
    go_wp2_with (at_builtin; refine wpList_append_own _ rfl _ _ 22 rfl B 41 i0 _ 3 32 Tryz.underlying22 hi hz0 hz1 hz2 rfl (by decide) _ _ _ rfl HROW.out ⟨pb, 0, none⟩ 1 1 [.string sx, .int .i64 g, .int .i64 v] rfl rfl HC.out (by simp [Value.oneCell']) (by unfold maxLen; omega) (by omega) hB ?_)
    all_goals
      intro v' w1 ho hgr _
      have HX := Lib.hid (FIN.out none 0 v' w1 ho hgr)
      clear ho hgr
      go_wp2_with fail
      go_ret
      exact ⟨v', rfl, HX.out⟩
end Go.Proofs.YtmjikddceegloaaGreatDoor
