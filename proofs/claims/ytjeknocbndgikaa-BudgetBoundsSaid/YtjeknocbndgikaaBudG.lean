/- Contracts of the document's New, Spend and Refund (reference 22), for every bucket. -/
import Derived.Test.YtjeknocbndgikaaBudF
namespace Go.Proofs.Ytjeknocbndgikaa
open Go.RowKit Go.Lib

theorem Bk.drew {W w : World} {r u l a x y z v : Value} (h : Bk W w r u l a x y z v) : Bk W w.drew r u l a x y z v := ⟨⟨h.p.blk⟩, ⟨h.q.blk⟩, h.bel.drew⟩
theorem Bk.set2 {W w : World} {r u l a x y z v : Value} (h : Bk W w r u l a x y z v) (X : Value) : Bk W (w.setCell ⟨W.heap.size, 2, none⟩ X) r u X a x y z v := by
  refine ⟨⟨?_⟩, h.q.of_block (Below.heap_setCell _ _ _ _ (by show W.heap.size + 1 ≠ W.heap.size; omega)), h.bel.setCell (Nat.le_refl _) _⟩
  have h := h.p.blk
  simp [World.setCell, Array.getElem?_modify, h]
theorem bk_s {W w : World} {r u l a x y z v : Value} (h : Bk W w r u l a x y z v) :
    w.cell? ⟨W.heap.size, 0, none⟩ = some r ∧ w.cell? ⟨W.heap.size, 1, none⟩ = some u ∧ w.cell? ⟨W.heap.size, 2, none⟩ = some l ∧ w.cell? ⟨W.heap.size, 3, none⟩ = some a ∧ w.frozen? ⟨W.heap.size, 2, none⟩ = false ∧ Bk W w r u l a x y z v := by
  obtain ⟨c0, c1, c2, c3, c4, c5, c6, c7⟩ := h.p.facts
  exact ⟨c0, c1, c2, c3, c6, h⟩
theorem bk_t {W w1 w2 : World} {r u l a x y z v : Value} (h : w1.cell? ⟨W.heap.size, 0, none⟩ = some r ∧ w1.cell? ⟨W.heap.size, 1, none⟩ = some u ∧ w1.cell? ⟨W.heap.size, 2, none⟩ = some l ∧ w1.cell? ⟨W.heap.size, 3, none⟩ = some a ∧ w1.frozen? ⟨W.heap.size, 2, none⟩ = false ∧ Bk W w1 r u l a x y z v) (hb : Below w1.heap.size w1 w2) :
    w2.cell? ⟨W.heap.size, 0, none⟩ = some r ∧ w2.cell? ⟨W.heap.size, 1, none⟩ = some u ∧ w2.cell? ⟨W.heap.size, 2, none⟩ = some l ∧ w2.cell? ⟨W.heap.size, 3, none⟩ = some a ∧ w2.frozen? ⟨W.heap.size, 2, none⟩ = false ∧ Bk W w2 r u l a x y z v := bk_s (h.2.2.2.2.2.below hb)

set_option maxHeartbeats 1000000 in
theorem rNew_any (r u t : Int) (w : World) :
    Calls Try.prog 10 #[.int .i64 r, .int .i64 u, .int .i64 t] w fun e w' => e = .returned (.tuple #[.agg #[.int .i64 (nwV r u t r), .int .i64 (nwV r u t u), .int .i64 (nwV r u t (1000 * u)), .int .i64 (nwV r u t t)], .int .i64 (nwE r u t)]) ∧ Below w.heap.size w w' := by
  have f0 := FourAt.new w 23 (.int .i64 0) (.int .i64 0) (.int .i64 0) (.int .i64 0)
  have B0 := Lib.hid ((Below.refl w.heap.size w).alloc (Nat.le_refl _) (.cells #[.int .i64 0, .int .i64 0, .int .i64 0, .int .i64 0] 23))
  by_cases h1 : 0 ≤ r
  case neg =>
    have h9 : nwB r u t = false := by unfold nwB; rw [show decide (0 ≤ r ∧ r ≤ 1000) = false by rw [decide_eq_false_iff_not]; omega]; rfl
    have E := Lib.hid (And.intro (show nwE r u t = 2 by unfold nwE; rw [h9]; rfl) (show ∀ x, nwV r u t x = 0 from fun x => by unfold nwV; rw [h9]; rfl))
    clear h9 f0
    go_enter Try.func10, Try.ntmps10
    go_wp2_with fail
    refine bodyPost_ret (v := .tuple #[.agg #[.int .i64 (nwV r u t r), .int .i64 (nwV r u t u), .int .i64 (nwV r u t (1000 * u)), .int .i64 (nwV r u t t)], .int .i64 (nwE r u t)]) ?_ rfl ⟨rfl, ?_⟩
    · rw [results_cell_tmp rfl]
      rw [E.out.1, E.out.2, E.out.2, E.out.2, E.out.2]
      go_simp
    · exact (Below.refl _ _).alloc (Nat.le_refl _) _
  by_cases h2 : r ≤ 1000
  case neg =>
    have h9 : nwB r u t = false := by unfold nwB; rw [show decide (0 ≤ r ∧ r ≤ 1000) = false by rw [decide_eq_false_iff_not]; omega]; rfl
    have E := Lib.hid (And.intro (show nwE r u t = 2 by unfold nwE; rw [h9]; rfl) (show ∀ x, nwV r u t x = 0 from fun x => by unfold nwV; rw [h9]; rfl))
    clear h9 f0
    go_enter Try.func10, Try.ntmps10
    go_wp2_with fail
    refine bodyPost_ret (v := .tuple #[.agg #[.int .i64 (nwV r u t r), .int .i64 (nwV r u t u), .int .i64 (nwV r u t (1000 * u)), .int .i64 (nwV r u t t)], .int .i64 (nwE r u t)]) ?_ rfl ⟨rfl, ?_⟩
    · rw [results_cell_tmp rfl]
      rw [E.out.1, E.out.2, E.out.2, E.out.2, E.out.2]
      go_simp
    · exact (Below.refl _ _).alloc (Nat.le_refl _) _
  cases h3 : csB u
  case false =>
    have C := Lib.hid (fun w => h3 ▸ rcost_any u w)
    have h9 : nwB r u t = false := by unfold nwB; rw [h3, Bool.false_and, Bool.and_false]
    have E := Lib.hid (And.intro (show nwE r u t = 2 by unfold nwE; rw [h9]; rfl) (show ∀ x, nwV r u t x = 0 from fun x => by unfold nwV; rw [h9]; rfl))
    clear h9 h3 f0
    go_enter Try.func10, Try.ntmps10
    go_wp2_with fail
    go_fit (C.out _)
    rintro e w1 ⟨rfl, rfl⟩
    go_wp2_with fail
    refine bodyPost_ret (v := .tuple #[.agg #[.int .i64 (nwV r u t r), .int .i64 (nwV r u t u), .int .i64 (nwV r u t (1000 * u)), .int .i64 (nwV r u t t)], .int .i64 (nwE r u t)]) ?_ rfl ⟨rfl, ?_⟩
    · rw [results_cell_tmp rfl]
      rw [E.out.1, E.out.2, E.out.2, E.out.2, E.out.2]
      go_simp
    · exact (Below.refl _ _).alloc (Nat.le_refl _) _
  have C := Lib.hid (fun w => h3 ▸ rcost_any u w)
  have hu := csB_of h3
  have k1 : wrap64 (1000 * u) = 1000 * u := by unfold wrap64; omega
  cases h4 : tmB t
  case false =>
    have T := Lib.hid (fun w => h4 ▸ rtime_any t w)
    have h9 : nwB r u t = false := by unfold nwB; rw [h4, Bool.and_false, Bool.and_false]
    have E := Lib.hid (And.intro (show nwE r u t = 2 by unfold nwE; rw [h9]; rfl) (show ∀ x, nwV r u t x = 0 from fun x => by unfold nwV; rw [h9]; rfl))
    clear h9 h3 h4 hu f0
    go_enter Try.func10, Try.ntmps10
    go_wp2_with fail
    go_fit (C.out _)
    rintro e w1 ⟨rfl, rfl⟩
    go_wp2_with fail
    go_fit (T.out _)
    rintro e w1 ⟨rfl, rfl⟩
    go_wp2_with fail
    refine bodyPost_ret (v := .tuple #[.agg #[.int .i64 (nwV r u t r), .int .i64 (nwV r u t u), .int .i64 (nwV r u t (1000 * u)), .int .i64 (nwV r u t t)], .int .i64 (nwE r u t)]) ?_ rfl ⟨rfl, ?_⟩
    · rw [results_cell_tmp rfl]
      rw [E.out.1, E.out.2, E.out.2, E.out.2, E.out.2]
      go_simp
    · exact (Below.refl _ _).alloc (Nat.le_refl _) _
  case true =>
    have T := Lib.hid (fun w => h4 ▸ rtime_any t w)
    have h9 : nwB r u t = true := by unfold nwB; rw [h3, h4]; simpa using And.intro h1 h2
    have E := Lib.hid (And.intro (show nwE r u t = 0 by unfold nwE; rw [h9]; rfl) (show ∀ x, nwV r u t x = x from fun x => by unfold nwV; rw [h9]; rfl))
    clear h9 h3 h4 hu f0
    go_enter Try.func10, Try.ntmps10
    go_wp2_with fail
    go_fit (C.out _)
    rintro e w1 ⟨rfl, rfl⟩
    go_wp2_with fail
    go_fit (T.out _)
    rintro e w1 ⟨rfl, rfl⟩
    go_wp2_with fail
    refine bodyPost_ret (v := .tuple #[.agg #[.int .i64 (nwV r u t r), .int .i64 (nwV r u t u), .int .i64 (nwV r u t (1000 * u)), .int .i64 (nwV r u t t)], .int .i64 (nwE r u t)]) ?_ rfl ⟨rfl, ?_⟩
    · rw [results_cell_tmp rfl]
      rw [E.out.1, E.out.2, E.out.2, E.out.2, E.out.2]
      go_simp
    · exact (Below.refl _ _).alloc (Nat.le_refl _) _

set_option maxHeartbeats 1000000 in
theorem rSpend_any (r u l a t c : Int) (w : World) :
    Calls Try.prog 15 #[.agg #[.int .i64 r, .int .i64 u, .int .i64 l, .int .i64 a], .int .i64 t, .int .i64 c] w fun e w' => e = .returned (.tuple #[.agg #[.int .i64 r, .int .i64 u, .int .i64 (spL r u l a t c), .int .i64 (spA r u l a t c)], .int .i64 (spE r u l a t c)]) ∧ Below w.heap.size w w' := by
  have hs0 := Bk.new w (.int .i64 r) (.int .i64 u) (.int .i64 l) (.int .i64 a) (.int .i64 0) (.int .i64 0) (.int .i64 0) (.int .i64 0)
  cases h1 : okB r u l a
  case false =>
    have V := Lib.hid (fun w => h1 ▸ Right_any r u l a w)
    have hb0 : spB r u l a t c = false := by unfold spB; rw [h1]; rfl
    have E := Lib.hid (And.intro (show spE r u l a t c = 1 by unfold spE; rw [hb0, h1]; rfl) (sp_no hb0))
    clear h1 hb0
    go_enter Try.func15, Try.ntmps15
    go_wp2_with fail
    go_fit (V.out _)
    rintro e w1 ⟨rfl, hb⟩
    have hs1 := hs0.below hb
    obtain ⟨c0, c1, c2, c3, c4, c5, c6, c7⟩ := hs1.p.facts
    obtain ⟨d0, d1, d2, d3, d4, d5, d6, d7⟩ := hs1.q.facts
    have z3 := hs1.q.lt
    have z4 := hs1.p.lt
    have B1 := Lib.hid hs1
    clear hb hs0 hs1
    go_wp2_with fail
    refine bodyPost_ret (v := .tuple #[.agg #[.int .i64 r, .int .i64 u, .int .i64 (spL r u l a t c), .int .i64 (spA r u l a t c)], .int .i64 (spE r u l a t c)]) ?_ rfl ⟨rfl, ?_⟩
    · rw [results_cell_tmp rfl]
      rw [E.out.1, E.out.2.1, E.out.2.2]
      go_simp
    · exact (((B1.out.bel.setCell (by simp) _).setCell (by simp) _).setCell (by simp) _).setCell (by simp) _
  cases h2 : tmB t
  case false =>
    have hb0 : spB r u l a t c = false := by unfold spB; rw [h1, h2]; rfl
    have E := Lib.hid (And.intro (show spE r u l a t c = 2 by unfold spE; rw [hb0, h1, h2]; rfl) (sp_no hb0))
    have V := Lib.hid (fun w => h1 ▸ Right_any r u l a w)
    have T := Lib.hid (fun w => h2 ▸ rtime_any t w)
    clear h1 h2 hb0
    go_enter Try.func15, Try.ntmps15
    go_wp2_with fail
    go_fit (V.out _)
    rintro e w1 ⟨rfl, hb⟩
    have hs1 := hs0.below hb
    obtain ⟨c0, c1, c2, c3, c4, c5, c6, c7⟩ := hs1.p.facts
    obtain ⟨d0, d1, d2, d3, d4, d5, d6, d7⟩ := hs1.q.facts
    have z3 := hs1.q.lt
    have z4 := hs1.p.lt
    have B1 := Lib.hid hs1
    clear hb hs0 hs1
    go_wp2_with fail
    go_fit (T.out _)
    rintro e w1 ⟨rfl, rfl⟩
    go_wp2_with fail
    refine bodyPost_ret (v := .tuple #[.agg #[.int .i64 r, .int .i64 u, .int .i64 (spL r u l a t c), .int .i64 (spA r u l a t c)], .int .i64 (spE r u l a t c)]) ?_ rfl ⟨rfl, ?_⟩
    · rw [results_cell_tmp rfl]
      rw [E.out.1, E.out.2.1, E.out.2.2]
      go_simp
    · exact (((B1.out.bel.setCell (by simp) _).setCell (by simp) _).setCell (by simp) _).setCell (by simp) _
  cases h3 : csB c
  case false =>
    have hb0 : spB r u l a t c = false := by unfold spB; rw [h1, h2, h3]; rfl
    have E := Lib.hid (And.intro (show spE r u l a t c = 2 by unfold spE; rw [hb0, h1, h2, h3]; rfl) (sp_no hb0))
    have V := Lib.hid (fun w => h1 ▸ Right_any r u l a w)
    have T := Lib.hid (fun w => h2 ▸ rtime_any t w)
    have C := Lib.hid (fun w => h3 ▸ rcost_any c w)
    clear h1 h2 h3 hb0
    go_enter Try.func15, Try.ntmps15
    go_wp2_with fail
    go_fit (V.out _)
    rintro e w1 ⟨rfl, hb⟩
    have hs1 := hs0.below hb
    obtain ⟨c0, c1, c2, c3, c4, c5, c6, c7⟩ := hs1.p.facts
    obtain ⟨d0, d1, d2, d3, d4, d5, d6, d7⟩ := hs1.q.facts
    have z3 := hs1.q.lt
    have z4 := hs1.p.lt
    have B1 := Lib.hid hs1
    clear hb hs0 hs1
    go_wp2_with fail
    go_fit (T.out _)
    rintro e w1 ⟨rfl, rfl⟩
    go_wp2_with fail
    go_fit (C.out _)
    rintro e w1 ⟨rfl, rfl⟩
    go_wp2_with fail
    refine bodyPost_ret (v := .tuple #[.agg #[.int .i64 r, .int .i64 u, .int .i64 (spL r u l a t c), .int .i64 (spA r u l a t c)], .int .i64 (spE r u l a t c)]) ?_ rfl ⟨rfl, ?_⟩
    · rw [results_cell_tmp rfl]
      rw [E.out.1, E.out.2.1, E.out.2.2]
      go_simp
    · exact (((B1.out.bel.setCell (by simp) _).setCell (by simp) _).setCell (by simp) _).setCell (by simp) _
  have hc := csB_of h3
  have hu := okB_of h1
  have hl := lvl_bd h1 h2
  have k1 : wrap64 (1000 * c) = 1000 * c := by unfold wrap64; omega
  have V := Lib.hid (fun w => h1 ▸ Right_any r u l a w)
  have T := Lib.hid (fun w => h2 ▸ rtime_any t w)
  have C := Lib.hid (fun w => h3 ▸ rcost_any c w)
  have F0 := fun w => rLevel_any r u l a t w
  rw [show lvD r u l a t = lvl r u l a t by unfold lvD; rw [h1, h2]; rfl] at F0
  by_cases h4 : 1000 * c ≤ lvl r u l a t
  · have hb0 : spB r u l a t c = true := by unfold spB; rw [h1, h2, h3]; simpa using h4
    have E0 := And.intro (show spE r u l a t c = 0 by unfold spE; rw [hb0]; rfl) (And.intro (show spL r u l a t c = lvl r u l a t - 1000 * c by unfold spL; rw [hb0]; rfl) (show spA r u l a t c = max a t by unfold spA; rw [hb0]; rfl))
    generalize lvl r u l a t = L at F0 E0 hl h4
    have k2 : wrap64 (L - 1000 * c) = L - 1000 * c := by unfold wrap64; omega
    have F := Lib.hid F0
    have h5 : ¬ L < 1000 * c := by omega
    by_cases h6 : a < t
    · rw [show max a t = t by omega] at E0
      have E := Lib.hid E0
      clear h1 h2 h3 h4 hb0 hl hc hu F0 E0
      go_enter Try.func15, Try.ntmps15
      go_wp2_with fail
      go_fit (V.out _)
      rintro e w1 ⟨rfl, hb⟩
      have hs1 := hs0.below hb
      obtain ⟨c0, c1, c2, c3, c4, c5, c6, c7⟩ := hs1.p.facts
      obtain ⟨d0, d1, d2, d3, d4, d5, d6, d7⟩ := hs1.q.facts
      have z3 := hs1.q.lt
      have z4 := hs1.p.lt
      have B1 := Lib.hid hs1
      clear hb hs0 hs1
      go_wp2_with fail
      go_fit (T.out _)
      rintro e w1 ⟨rfl, rfl⟩
      go_wp2_with fail
      go_fit (C.out _)
      rintro e w1 ⟨rfl, rfl⟩
      go_wp2_with fail
      go_fit (F.out _)
      rintro e w3 ⟨rfl, hb⟩
      have hs3 := B1.out.below hb
      clear c0 c1 c2 c3 c4 c5 c6 c7 d0 d1 d2 d3 d4 d5 d6 d7 z3 z4
      obtain ⟨c0, c1, c2, c3, c4, c5, c6, c7⟩ := hs3.p.facts
      obtain ⟨d0, d1, d2, d3, d4, d5, d6, d7⟩ := hs3.q.facts
      have z3 := hs3.q.lt
      have z4 := hs3.p.lt
      have B3 := Lib.hid hs3
      clear hb hs3
      go_wp2_with fail
      refine bodyPost_ret (v := .tuple #[.agg #[.int .i64 r, .int .i64 u, .int .i64 (spL r u l a t c), .int .i64 (spA r u l a t c)], .int .i64 (spE r u l a t c)]) ?_ rfl ⟨rfl, ?_⟩
      · rw [results_cell_tmp rfl]
        rw [E.out.1, E.out.2.1, E.out.2.2]
        go_simp
      · exact (((((B3.out.bel.setCell (by simp) _).setCell (by simp) _).setCell (by simp) _).setCell (by simp) _).setCell (by simp) _).setCell (by simp) _
    · rw [show max a t = a by omega] at E0
      have E := Lib.hid E0
      clear h1 h2 h3 h4 hb0 hl hc hu F0 E0
      go_enter Try.func15, Try.ntmps15
      go_wp2_with fail
      go_fit (V.out _)
      rintro e w1 ⟨rfl, hb⟩
      have hs1 := hs0.below hb
      obtain ⟨c0, c1, c2, c3, c4, c5, c6, c7⟩ := hs1.p.facts
      obtain ⟨d0, d1, d2, d3, d4, d5, d6, d7⟩ := hs1.q.facts
      have z3 := hs1.q.lt
      have z4 := hs1.p.lt
      have B1 := Lib.hid hs1
      clear hb hs0 hs1
      go_wp2_with fail
      go_fit (T.out _)
      rintro e w1 ⟨rfl, rfl⟩
      go_wp2_with fail
      go_fit (C.out _)
      rintro e w1 ⟨rfl, rfl⟩
      go_wp2_with fail
      go_fit (F.out _)
      rintro e w3 ⟨rfl, hb⟩
      have hs3 := B1.out.below hb
      clear c0 c1 c2 c3 c4 c5 c6 c7 d0 d1 d2 d3 d4 d5 d6 d7 z3 z4
      obtain ⟨c0, c1, c2, c3, c4, c5, c6, c7⟩ := hs3.p.facts
      obtain ⟨d0, d1, d2, d3, d4, d5, d6, d7⟩ := hs3.q.facts
      have z3 := hs3.q.lt
      have z4 := hs3.p.lt
      have B3 := Lib.hid hs3
      clear hb hs3
      go_wp2_with fail
      refine bodyPost_ret (v := .tuple #[.agg #[.int .i64 r, .int .i64 u, .int .i64 (spL r u l a t c), .int .i64 (spA r u l a t c)], .int .i64 (spE r u l a t c)]) ?_ rfl ⟨rfl, ?_⟩
      · rw [results_cell_tmp rfl]
        rw [E.out.1, E.out.2.1, E.out.2.2]
        go_simp
      · exact (((((B3.out.bel.setCell (by simp) _).setCell (by simp) _).setCell (by simp) _).setCell (by simp) _).setCell (by simp) _).setCell (by simp) _
  · have hb0 : spB r u l a t c = false := by unfold spB; rw [h1, h2, h3]; simpa using h4
    have E := Lib.hid (And.intro (show spE r u l a t c = 15 by unfold spE; rw [hb0, h1, h2, h3]; rfl) (sp_no hb0))
    generalize lvl r u l a t = L at F0 hl h4
    have F := Lib.hid F0
    have h5 : L < 1000 * c := by omega
    clear h1 h2 h3 h4 hb0 hl hc hu F0
    go_enter Try.func15, Try.ntmps15
    go_wp2_with fail
    go_fit (V.out _)
    rintro e w1 ⟨rfl, hb⟩
    have hs1 := hs0.below hb
    obtain ⟨c0, c1, c2, c3, c4, c5, c6, c7⟩ := hs1.p.facts
    obtain ⟨d0, d1, d2, d3, d4, d5, d6, d7⟩ := hs1.q.facts
    have z3 := hs1.q.lt
    have z4 := hs1.p.lt
    have B1 := Lib.hid hs1
    clear hb hs0 hs1
    go_wp2_with fail
    go_fit (T.out _)
    rintro e w1 ⟨rfl, rfl⟩
    go_wp2_with fail
    go_fit (C.out _)
    rintro e w1 ⟨rfl, rfl⟩
    go_wp2_with fail
    go_fit (F.out _)
    rintro e w3 ⟨rfl, hb⟩
    have hs3 := B1.out.below hb
    clear c0 c1 c2 c3 c4 c5 c6 c7 d0 d1 d2 d3 d4 d5 d6 d7 z3 z4
    obtain ⟨c0, c1, c2, c3, c4, c5, c6, c7⟩ := hs3.p.facts
    obtain ⟨d0, d1, d2, d3, d4, d5, d6, d7⟩ := hs3.q.facts
    have z3 := hs3.q.lt
    have z4 := hs3.p.lt
    have B3 := Lib.hid hs3
    clear hb hs3
    go_wp2_with fail
    refine bodyPost_ret (v := .tuple #[.agg #[.int .i64 r, .int .i64 u, .int .i64 (spL r u l a t c), .int .i64 (spA r u l a t c)], .int .i64 (spE r u l a t c)]) ?_ rfl ⟨rfl, ?_⟩
    · rw [results_cell_tmp rfl]
      rw [E.out.1, E.out.2.1, E.out.2.2]
      go_simp
    · exact (((B3.out.bel.setCell (by simp) _).setCell (by simp) _).setCell (by simp) _).setCell (by simp) _

set_option maxHeartbeats 1000000 in
theorem rRefund_any (r u l a t c : Int) (w : World) :
    Calls Try.prog 17 #[.agg #[.int .i64 r, .int .i64 u, .int .i64 l, .int .i64 a], .int .i64 t, .int .i64 c] w fun e w' => e = .returned (.agg #[.int .i64 r, .int .i64 u, .int .i64 (rfL r u l a t c), .int .i64 (rfA r u l a t c)]) ∧ Below w.heap.size w w' := by
  have hs0 := Bk.new w (.int .i64 r) (.int .i64 u) (.int .i64 l) (.int .i64 a) (.int .i64 0) (.int .i64 0) (.int .i64 0) (.int .i64 0)
  cases h1 : okB r u l a
  case false =>
    have V := Lib.hid (fun w => h1 ▸ Right_any r u l a w)
    have E := Lib.hid (And.intro (show rfL r u l a t c = l by unfold rfL; rw [h1]; rfl) (show rfA r u l a t c = a by unfold rfA; rw [h1]; rfl))
    clear h1
    go_enter Try.func17, Try.ntmps17
    go_wp2_with fail
    go_fit (V.out _)
    rintro e w1 ⟨rfl, hb⟩
    have hs1 := hs0.below hb
    obtain ⟨c0, c1, c2, c3, c4, c5, c6, c7⟩ := hs1.p.facts
    obtain ⟨d0, d1, d2, d3, d4, d5, d6, d7⟩ := hs1.q.facts
    have z3 := hs1.q.lt
    have z4 := hs1.p.lt
    have B1 := Lib.hid hs1
    clear hb hs0 hs1
    go_wp2_with fail
    refine bodyPost_ret (v := .agg #[.int .i64 r, .int .i64 u, .int .i64 (rfL r u l a t c), .int .i64 (rfA r u l a t c)]) ?_ rfl ⟨rfl, ?_⟩
    · rw [results_cell1 rfl]
      rw [E.out.1, E.out.2]
      go_simp
    · exact (((B1.out.bel.setCell (by simp) _).setCell (by simp) _).setCell (by simp) _).setCell (by simp) _
  cases h2 : tmB t
  case false =>
    have V := Lib.hid (fun w => h1 ▸ Right_any r u l a w)
    have T := Lib.hid (fun w => h2 ▸ rtime_any t w)
    have E := Lib.hid (And.intro (show rfL r u l a t c = l by unfold rfL; rw [h1, h2]; rfl) (show rfA r u l a t c = a by unfold rfA; rw [h1, h2]; rfl))
    clear h1 h2
    go_enter Try.func17, Try.ntmps17
    go_wp2_with fail
    go_fit (V.out _)
    rintro e w1 ⟨rfl, hb⟩
    have hs1 := hs0.below hb
    obtain ⟨c0, c1, c2, c3, c4, c5, c6, c7⟩ := hs1.p.facts
    obtain ⟨d0, d1, d2, d3, d4, d5, d6, d7⟩ := hs1.q.facts
    have z3 := hs1.q.lt
    have z4 := hs1.p.lt
    have B1 := Lib.hid hs1
    clear hb hs0 hs1
    go_wp2_with fail
    go_fit (T.out _)
    rintro e w1 ⟨rfl, rfl⟩
    go_wp2_with fail
    refine bodyPost_ret (v := .agg #[.int .i64 r, .int .i64 u, .int .i64 (rfL r u l a t c), .int .i64 (rfA r u l a t c)]) ?_ rfl ⟨rfl, ?_⟩
    · rw [results_cell1 rfl]
      rw [E.out.1, E.out.2]
      go_simp
    · exact (((B1.out.bel.setCell (by simp) _).setCell (by simp) _).setCell (by simp) _).setCell (by simp) _
  cases h3 : csB c
  case false =>
    have V := Lib.hid (fun w => h1 ▸ Right_any r u l a w)
    have T := Lib.hid (fun w => h2 ▸ rtime_any t w)
    have C := Lib.hid (fun w => h3 ▸ rcost_any c w)
    have E := Lib.hid (And.intro (show rfL r u l a t c = l by unfold rfL; rw [h1, h2, h3]; rfl) (show rfA r u l a t c = a by unfold rfA; rw [h1, h2, h3]; rfl))
    clear h1 h2 h3
    go_enter Try.func17, Try.ntmps17
    go_wp2_with fail
    go_fit (V.out _)
    rintro e w1 ⟨rfl, hb⟩
    have hs1 := hs0.below hb
    obtain ⟨c0, c1, c2, c3, c4, c5, c6, c7⟩ := hs1.p.facts
    obtain ⟨d0, d1, d2, d3, d4, d5, d6, d7⟩ := hs1.q.facts
    have z3 := hs1.q.lt
    have z4 := hs1.p.lt
    have B1 := Lib.hid hs1
    clear hb hs0 hs1
    go_wp2_with fail
    go_fit (T.out _)
    rintro e w1 ⟨rfl, rfl⟩
    go_wp2_with fail
    go_fit (C.out _)
    rintro e w1 ⟨rfl, rfl⟩
    go_wp2_with fail
    refine bodyPost_ret (v := .agg #[.int .i64 r, .int .i64 u, .int .i64 (rfL r u l a t c), .int .i64 (rfA r u l a t c)]) ?_ rfl ⟨rfl, ?_⟩
    · rw [results_cell1 rfl]
      rw [E.out.1, E.out.2]
      go_simp
    · exact (((B1.out.bel.setCell (by simp) _).setCell (by simp) _).setCell (by simp) _).setCell (by simp) _
  have hc := csB_of h3
  have hu := okB_of h1
  have hl := lvl_bd h1 h2
  have k1 : wrap64 (1000 * c) = 1000 * c := by unfold wrap64; omega
  have k0 : wrap64 (1000 * u) = 1000 * u := by unfold wrap64; omega
  have V := Lib.hid (fun w => h1 ▸ Right_any r u l a w)
  have T := Lib.hid (fun w => h2 ▸ rtime_any t w)
  have C := Lib.hid (fun w => h3 ▸ rcost_any c w)
  have F0 := fun w => rLevel_any r u l a t w
  rw [show lvD r u l a t = lvl r u l a t by unfold lvD; rw [h1, h2]; rfl] at F0
  have E0 : rfL r u l a t c = min (1000 * u) (lvl r u l a t + 1000 * c) := by unfold rfL; rw [h1, h2, h3]; rfl
  have E1 : rfA r u l a t c = max a t := by unfold rfA; rw [h1, h2, h3]; rfl
  generalize lvl r u l a t = L at F0 E0 hl
  have k2 : wrap64 (L + 1000 * c) = L + 1000 * c := by unfold wrap64; omega
  have F := Lib.hid F0
  have hwx : (if IntKind.i64.wrap (L + IntKind.i64.wrap (1000 * c)) < IntKind.i64.wrap (1000 * u) then IntKind.i64.wrap (L + IntKind.i64.wrap (1000 * c)) else IntKind.i64.wrap (1000 * u)) = min (1000 * u) (L + 1000 * c) := by
    have hw (x : Int) : IntKind.i64.wrap x = wrap64 x := by simp [IntKind.wrap, wrap64, IntKind.bits, IntKind.signed]; try omega
    rw [hw, hw, hw, k1, k0, k2]
    split <;> omega
  clear h1 h2 h3 F0 hl hc hu
  obtain ⟨X, hX⟩ : ∃ X, X = min (1000 * u) (L + 1000 * c) := ⟨_, rfl⟩
  rw [← hX] at E0 hwx
  have HX := Lib.hid hwx
  clear hwx hX
  have E := Lib.hid (And.intro E0 E1)
  clear E0 E1
  go_enter Try.func17, Try.ntmps17
  go_wp2_with fail
  go_fit (V.out _)
  rintro e w1 ⟨rfl, hb⟩
  have hs1 := hs0.below hb
  have hs2 := bk_s hs1.drew
  obtain ⟨c0, c1, c2, c3, c4, c5, c6, c7⟩ := hs1.p.facts
  clear hb hs0
  go_wp2_with fail
  go_fit (T.out _)
  rintro e w2 ⟨rfl, rfl⟩
  go_wp2_with fail
  go_fit (C.out _)
  rintro e w2 ⟨rfl, rfl⟩
  go_upto_region 3 with fail
  have HS2 := Lib.hid hs1.drew
  clear c4 c5 c6 c7 hs1 hs2
  have ck := fun w (h : Bk w1 w (.int .i64 r) (.int .i64 u) (.int .i64 l) (.int .i64 a) (.int .i64 0) (.int .i64 0) (.int .i64 0) (.int .i64 0)) => bk_s h
  clear ck
  go_cut [] (fun wx => Bk w wx (.int .i64 r) (.int .i64 u) (.int .i64 X) (.int .i64 a) (.int .i64 0) (.int .i64 0) (.int .i64 0) (.int .i64 0))
  case first =>
    go_region_with (go_at_call 13; go_fit (F.out _); rintro e w2 ⟨rfl, hb2⟩; have hs4 := HS2.out.below hb2; obtain ⟨y0, y1, y2, y3, y4, _⟩ := bk_s hs4; have HS4 := Lib.hid hs4; clear hs4 hb2; go_wp2_with fail)
    all_goals
      rw [HX.out]
      go_wp2_with fail
      refine Met.intro ?_
      go_step
      (repeat apply Exists.intro)
      refine ⟨?_, rfl⟩
      exact HS4.out.set2 (.int .i64 X)
  case rest =>
    clear c0 c1 c2 c3
    obtain ⟨c0, c1, c2, c3, c4, c5, c6, c7⟩ := hcut.p.facts
    obtain ⟨d0, d1, d2, d3, d4, d5, d6, d7⟩ := hcut.q.facts
    have z3 := hcut.q.lt
    have z4 := hcut.p.lt
    have B3 := Lib.hid hcut
    clear hcut
    by_cases h6 : a < t
    · have h7 := Lib.hid (show max a t = t by omega)
      go_wp2_with fail
      refine bodyPost_ret (v := .agg #[.int .i64 r, .int .i64 u, .int .i64 (rfL r u l a t c), .int .i64 (rfA r u l a t c)]) ?_ rfl ⟨rfl, ?_⟩
      · rw [results_cell1 rfl]
        rw [E.out.1, E.out.2, h7.out]
        go_simp
      · exact ((((B3.out.bel.setCell (by simp) _).setCell (by simp) _).setCell (by simp) _).setCell (by simp) _).setCell (by simp) _
    · have h7 := Lib.hid (show max a t = a by omega)
      go_wp2_with fail
      refine bodyPost_ret (v := .agg #[.int .i64 r, .int .i64 u, .int .i64 (rfL r u l a t c), .int .i64 (rfA r u l a t c)]) ?_ rfl ⟨rfl, ?_⟩
      · rw [results_cell1 rfl]
        rw [E.out.1, E.out.2, h7.out]
        go_simp
      · exact ((((B3.out.bel.setCell (by simp) _).setCell (by simp) _).setCell (by simp) _).setCell (by simp) _).setCell (by simp) _

end Go.Proofs.Ytjeknocbndgikaa
