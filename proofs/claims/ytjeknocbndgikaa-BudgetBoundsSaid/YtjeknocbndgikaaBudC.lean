/- Contracts of package budget: New, Level, Spend, When and Refund, for every bucket. -/
import Derived.Test.YtjeknocbndgikaaBudB
namespace Go.Proofs.Ytjeknocbndgikaa
open Go.RowKit Go.Lib

theorem min64 {p q : Int} (hp : wrap64 p = p) (hq : wrap64 q = q) : wrap64 (min p q) = min p q := by
  rcases Int.le_total p q with h | h
  · rw [Int.min_eq_left h, hp]
  · rw [Int.min_eq_right h, hq]
theorem field0 (a b c d : Int) (w : World) : (Instr.field 23 (.agg #[.int .i64 a, .int .i64 b, .int .i64 c, .int .i64 d]) 0).run Try.prog w = .ok (.int .i64 a) w := by kernel_rfl
theorem field1 (a b c d : Int) (w : World) : (Instr.field 23 (.agg #[.int .i64 a, .int .i64 b, .int .i64 c, .int .i64 d]) 1).run Try.prog w = .ok (.int .i64 b) w := by kernel_rfl
theorem field2 (a b c d : Int) (w : World) : (Instr.field 23 (.agg #[.int .i64 a, .int .i64 b, .int .i64 c, .int .i64 d]) 2).run Try.prog w = .ok (.int .i64 c) w := by kernel_rfl
theorem field3 (a b c d : Int) (w : World) : (Instr.field 23 (.agg #[.int .i64 a, .int .i64 b, .int .i64 c, .int .i64 d]) 3).run Try.prog w = .ok (.int .i64 d) w := by kernel_rfl
/-- What Level returns. -/
def lvD (r u l a t : Int) : Int := if okB r u l a && tmB t then lvl r u l a t else 0
theorem lvl_bd {r u l a t : Int} (h : okB r u l a = true) (ht : tmB t = true) : 0 ≤ lvl r u l a t ∧ lvl r u l a t ≤ 1000 * u := by
  obtain ⟨h1, h2, h3, h4, h5, h6, h7, h8⟩ := okB_of h
  obtain ⟨t1, t2⟩ := tmB_of ht
  unfold lvl
  have hp := rate_bd (r := r) (x := max a t - a) ⟨h1, h2⟩ (by omega)
  omega

set_option maxHeartbeats 1000000 in
theorem Level_any (r u l a t : Int) (w : World) :
    Calls Try.prog 12 #[.agg #[.int .i64 r, .int .i64 u, .int .i64 l, .int .i64 a], .int .i64 t] w fun e w' => e = .returned (.int .i64 (lvD r u l a t)) ∧ Below w.heap.size w w' := by
  have hs0 := hold4_new w (.int .i64 r) (.int .i64 u) (.int .i64 l) (.int .i64 a) 23
  cases h1 : okB r u l a
  · have V := Lib.hid (fun w => h1 ▸ valid_any r u l a w)
    have E := Lib.hid (show lvD r u l a t = 0 by unfold lvD; rw [h1]; rfl)
    clear h1
    go_enter Try.func12, Try.ntmps12
    go_wp2_with fail
    go_fit (V.out _)
    rintro e w1 ⟨rfl, hb⟩
    have B1 := Lib.hid (hold4_below (hold4 hs0 hb))
    clear hb hs0
    go_wp2_with fail
    go_ret
    exact ⟨ret_int E.out.symm, B1.out⟩
  cases h2 : tmB t
  · have V := Lib.hid (fun w => h1 ▸ valid_any r u l a w)
    have T := Lib.hid (fun w => h2 ▸ isTime_any t w)
    have E := Lib.hid (show lvD r u l a t = 0 by unfold lvD; rw [h1, h2]; rfl)
    clear h1 h2
    go_enter Try.func12, Try.ntmps12
    go_wp2_with fail
    go_fit (V.out _)
    rintro e w1 ⟨rfl, hb⟩
    have B1 := Lib.hid (hold4_below (hold4 hs0 hb))
    clear hb hs0
    go_wp2_with fail
    go_fit (T.out _)
    rintro e w2 ⟨rfl, rfl⟩
    go_wp2_with fail
    go_ret
    exact ⟨ret_int E.out.symm, B1.out⟩
  · have V := Lib.hid (fun w => h1 ▸ valid_any r u l a w)
    have T := Lib.hid (fun w => h2 ▸ isTime_any t w)
    have E := Lib.hid (show lvD r u l a t = lvl r u l a t by unfold lvD; rw [h1, h2]; rfl)
    have F := Lib.hid (fun w => filled_any r u l a t h1 h2 w)
    have q2 := field2 r u (lvl r u l a t) (max a t)
    clear h1 h2
    go_enter Try.func12, Try.ntmps12
    go_wp2_with fail
    go_fit (V.out _)
    rintro e w1 ⟨rfl, hb⟩
    obtain ⟨c0, c1, c2, c3, z1, z2, hb1⟩ := hold4 hs0 hb
    have B1 := Lib.hid hb1
    clear hb hb1 hs0
    go_wp2_with fail
    go_fit (T.out _)
    rintro e w2 ⟨rfl, rfl⟩
    go_wp2_with fail
    go_fit (F.out _)
    rintro e w3 ⟨rfl, hb⟩
    have B3 := Lib.hid (B1.out.trans (hb.mono B1.out.size))
    clear hb
    go_wp2_with fail
    go_ret
    exact ⟨ret_int E.out.symm, B3.out⟩

/-- A block of four cells. -/
structure FourAt (w : World) (b : Nat) (t : TypeId) (x y z v : Value) : Prop where
  blk : w.heap[b]? = some (.cells #[x, y, z, v] t (0, 0))
theorem FourAt.lt {w : World} {b : Nat} {t : TypeId} {x y z v : Value} (h : FourAt w b t x y z v) : b < w.heap.size := (Array.getElem?_eq_some_iff.1 h.blk).1
theorem FourAt.facts {w : World} {b : Nat} {t : TypeId} {x y z v : Value} (h : FourAt w b t x y z v) :
    w.cell? ⟨b, 0, none⟩ = some x ∧ w.cell? ⟨b, 1, none⟩ = some y ∧ w.cell? ⟨b, 2, none⟩ = some z ∧ w.cell? ⟨b, 3, none⟩ = some v ∧
    w.frozen? ⟨b, 0, none⟩ = false ∧ w.frozen? ⟨b, 1, none⟩ = false ∧ w.frozen? ⟨b, 2, none⟩ = false ∧ w.frozen? ⟨b, 3, none⟩ = false := by
  have h := h.blk
  refine ⟨?_, ?_, ?_, ?_, ?_, ?_, ?_, ?_⟩ <;> simp [World.cell?, World.frozen?, h]
theorem FourAt.of_block {w w' : World} {b : Nat} {t : TypeId} {x y z v : Value} (h : FourAt w b t x y z v) (e : w'.heap[b]? = w.heap[b]?) : FourAt w' b t x y z v := ⟨e.trans h.blk⟩
theorem FourAt.below {w w' : World} {b : Nat} {t : TypeId} {x y z v : Value} (h : FourAt w b t x y z v) (hb : Below w.heap.size w w') : FourAt w' b t x y z v := h.of_block (hb.block b h.lt)
theorem FourAt.alloc {w : World} {b : Nat} {t : TypeId} {x y z v : Value} (h : FourAt w b t x y z v) (o : Obj) : FourAt (w.alloc o) b t x y z v := h.of_block (Below.heap_alloc w o b h.lt)
theorem FourAt.new (w : World) (t : TypeId) (x y z v : Value) : FourAt (w.alloc (.cells #[x, y, z, v] t)) w.heap.size t x y z v := ⟨heap_alloc_new w _⟩
theorem results_cell_tmp {fn : Func} {p u : Tmp} {ty : TypeId} (h : fn.results = #[.cell p ty, .tmp u]) (tmps : Array Value) (P : Program) (w : World) :
    (results fn tmps).run P w =
      ((asAddr (tmps.getD p undef)).run P w).andThen fun a w₁ => ((loadVar ty a).run P w₁).andThen fun x w₂ => .ok (.tuple #[x, tmps.getD u undef]) w₂ := by
  simp only [results, h]
  simp [Sem.run_bind, Result.andThen]
/-- The box of a bucket that came in, the box behind it, and all that lay before them. -/
structure Bk (W w : World) (r u l a x y z v : Value) : Prop where
  p : FourAt w W.heap.size 23 r u l a
  q : FourAt w (W.heap.size + 1) 23 x y z v
  bel : Below W.heap.size W w
theorem Bk.below {W w w' : World} {r u l a x y z v : Value} (h : Bk W w r u l a x y z v) (hb : Below w.heap.size w w') : Bk W w' r u l a x y z v :=
  ⟨h.p.below hb, h.q.below hb, h.bel.trans (hb.mono h.bel.size)⟩
theorem Bk.new (W : World) (r u l a x y z v : Value) : Bk W ((W.alloc (.cells #[r, u, l, a] 23)).alloc (.cells #[x, y, z, v] 23)) r u l a x y z v := by
  refine ⟨(FourAt.new W _ _ _ _ _).alloc _, ?_, ((Below.refl _ _).alloc (Nat.le_refl _) _).alloc (by simp) _⟩
  have h := FourAt.new (W.alloc (.cells #[r, u, l, a] 23)) 23 x y z v
  rwa [show (W.alloc (.cells #[r, u, l, a] 23)).heap.size = W.heap.size + 1 by simp] at h

/-- What Spend returns. -/
def spB (r u l a t c : Int) : Bool := okB r u l a && tmB t && csB c && decide (1000 * c ≤ lvl r u l a t)
def spL (r u l a t c : Int) : Int := if spB r u l a t c then lvl r u l a t - 1000 * c else l
def spA (r u l a t c : Int) : Int := if spB r u l a t c then max a t else a
def spE (r u l a t c : Int) : Int := if spB r u l a t c then 0 else if !okB r u l a then 1 else if !(tmB t && csB c) then 2 else 15
theorem sp_no {r u l a t c : Int} (h : spB r u l a t c = false) : spL r u l a t c = l ∧ spA r u l a t c = a := by
  unfold spL spA; rw [h]; exact ⟨rfl, rfl⟩

set_option maxHeartbeats 1000000 in
theorem Spend_any (r u l a t c : Int) (w : World) :
    Calls Try.prog 14 #[.agg #[.int .i64 r, .int .i64 u, .int .i64 l, .int .i64 a], .int .i64 t, .int .i64 c] w fun e w' => e = .returned (.tuple #[.agg #[.int .i64 r, .int .i64 u, .int .i64 (spL r u l a t c), .int .i64 (spA r u l a t c)], .int .i64 (spE r u l a t c)]) ∧ Below w.heap.size w w' := by
  have hs0 := Bk.new w (.int .i64 r) (.int .i64 u) (.int .i64 l) (.int .i64 a) (.int .i64 0) (.int .i64 0) (.int .i64 0) (.int .i64 0)
  cases h1 : okB r u l a
  · have V := Lib.hid (fun w => h1 ▸ valid_any r u l a w)
    have hb0 : spB r u l a t c = false := by unfold spB; rw [h1]; rfl
    have E := Lib.hid (And.intro (show spE r u l a t c = 1 by unfold spE; rw [hb0, h1]; rfl) (sp_no hb0))
    clear h1 hb0
    go_enter Try.func14, Try.ntmps14
    go_wp2_with fail
    go_fit (V.out _)
    rintro e w1 ⟨rfl, hb⟩
    have hs1 := hs0.below hb
    obtain ⟨c0, c1, c2, c3, c4, c5, c6, c7⟩ := hs1.p.facts
    obtain ⟨d0, d1, d2, d3, d4, d5, d6, d7⟩ := hs1.q.facts
    have B1 := Lib.hid hs1
    clear hb hs0 hs1
    go_wp2_with fail
    refine bodyPost_ret (v := .tuple #[.agg #[.int .i64 r, .int .i64 u, .int .i64 (spL r u l a t c), .int .i64 (spA r u l a t c)], .int .i64 (spE r u l a t c)]) ?_ rfl ⟨rfl, ?_⟩
    · rw [results_cell_tmp rfl]
      rw [E.out.1, E.out.2.1, E.out.2.2]
      go_simp
    · exact (((B1.out.bel.setCell (by simp) _).setCell (by simp) _).setCell (by simp) _).setCell (by simp) _
  cases h2 : tmB t
  · have hb0 : spB r u l a t c = false := by unfold spB; rw [h1, h2]; rfl
    have E := Lib.hid (And.intro (show spE r u l a t c = 2 by unfold spE; rw [hb0, h1, h2]; rfl) (sp_no hb0))
    have V := Lib.hid (fun w => h1 ▸ valid_any r u l a w)
    have T := Lib.hid (fun w => h2 ▸ isTime_any t w)
    clear h1 h2 hb0
    go_enter Try.func14, Try.ntmps14
    go_wp2_with fail
    go_fit (V.out _)
    rintro e w1 ⟨rfl, hb⟩
    have hs1 := hs0.below hb
    obtain ⟨c0, c1, c2, c3, c4, c5, c6, c7⟩ := hs1.p.facts
    obtain ⟨d0, d1, d2, d3, d4, d5, d6, d7⟩ := hs1.q.facts
    have B1 := Lib.hid hs1
    clear hb hs0 hs1
    go_wp2_with fail
    go_fit (T.out _)
    rintro e w2 ⟨rfl, rfl⟩
    go_wp2_with fail
    refine bodyPost_ret (v := .tuple #[.agg #[.int .i64 r, .int .i64 u, .int .i64 (spL r u l a t c), .int .i64 (spA r u l a t c)], .int .i64 (spE r u l a t c)]) ?_ rfl ⟨rfl, ?_⟩
    · rw [results_cell_tmp rfl]
      rw [E.out.1, E.out.2.1, E.out.2.2]
      go_simp
    · exact (((B1.out.bel.setCell (by simp) _).setCell (by simp) _).setCell (by simp) _).setCell (by simp) _
  cases h3 : csB c
  · have hb0 : spB r u l a t c = false := by unfold spB; rw [h1, h2, h3]; rfl
    have E := Lib.hid (And.intro (show spE r u l a t c = 2 by unfold spE; rw [hb0, h1, h2, h3]; rfl) (sp_no hb0))
    have V := Lib.hid (fun w => h1 ▸ valid_any r u l a w)
    have T := Lib.hid (fun w => h2 ▸ isTime_any t w)
    have C := Lib.hid (fun w => h3 ▸ isCost_any c w)
    clear h1 h2 h3 hb0
    go_enter Try.func14, Try.ntmps14
    go_wp2_with fail
    go_fit (V.out _)
    rintro e w1 ⟨rfl, hb⟩
    have hs1 := hs0.below hb
    obtain ⟨c0, c1, c2, c3, c4, c5, c6, c7⟩ := hs1.p.facts
    obtain ⟨d0, d1, d2, d3, d4, d5, d6, d7⟩ := hs1.q.facts
    have B1 := Lib.hid hs1
    clear hb hs0 hs1
    go_wp2_with fail
    go_fit (T.out _)
    rintro e w2 ⟨rfl, rfl⟩
    go_wp2_with fail
    go_fit (C.out _)
    rintro e w2 ⟨rfl, rfl⟩
    go_wp2_with fail
    refine bodyPost_ret (v := .tuple #[.agg #[.int .i64 r, .int .i64 u, .int .i64 (spL r u l a t c), .int .i64 (spA r u l a t c)], .int .i64 (spE r u l a t c)]) ?_ rfl ⟨rfl, ?_⟩
    · rw [results_cell_tmp rfl]
      rw [E.out.1, E.out.2.1, E.out.2.2]
      go_simp
    · exact (((B1.out.bel.setCell (by simp) _).setCell (by simp) _).setCell (by simp) _).setCell (by simp) _
  have hc := csB_of h3
  have hu := okB_of h1
  have hl := lvl_bd h1 h2
  have w1 : wrap64 (c * 1000) = 1000 * c := by unfold wrap64; omega
  have w2 : wrap64 (lvl r u l a t - 1000 * c) = lvl r u l a t - 1000 * c := by unfold wrap64; omega
  obtain ⟨L, hL⟩ : ∃ L, L = lvl r u l a t := ⟨_, rfl⟩
  obtain ⟨M, hM⟩ : ∃ M, M = max a t := ⟨_, rfl⟩
  by_cases h4 : 1000 * c ≤ lvl r u l a t
  · have hb0 : spB r u l a t c = true := by unfold spB; rw [h1, h2, h3]; simpa using h4
    have E := Lib.hid (And.intro (show spE r u l a t c = 0 by unfold spE; rw [hb0]; rfl) (And.intro (show spL r u l a t c = lvl r u l a t - 1000 * c by unfold spL; rw [hb0]; rfl) (show spA r u l a t c = max a t by unfold spA; rw [hb0]; rfl)))
    have V := Lib.hid (fun w => h1 ▸ valid_any r u l a w)
    have T := Lib.hid (fun w => h2 ▸ isTime_any t w)
    have C := Lib.hid (fun w => h3 ▸ isCost_any c w)
    have F := Lib.hid (fun w => filled_any r u l a t h1 h2 w)
    rw [← hL, ← hM] at F E
    rw [← hL] at w2 h4
    have h5 : ¬ (L - 1000 * c < 0) := by omega
    clear h1 h2 h3 h4 hb0 hL hM hl hc hu
    go_enter Try.func14, Try.ntmps14
    go_wp2_with fail
    go_fit (V.out _)
    rintro e w1 ⟨rfl, hb⟩
    have hs1 := hs0.below hb
    obtain ⟨c0, c1, c2, c3, c4, c5, c6, c7⟩ := hs1.p.facts
    obtain ⟨d0, d1, d2, d3, d4, d5, d6, d7⟩ := hs1.q.facts
    have B1 := Lib.hid hs1
    clear hb hs0 hs1
    go_wp2_with fail
    go_fit (T.out _)
    rintro e w2 ⟨rfl, rfl⟩
    go_wp2_with fail
    go_fit (C.out _)
    rintro e w2 ⟨rfl, rfl⟩
    go_wp2_with fail
    go_fit (F.out _)
    rintro e w3 ⟨rfl, hb⟩
    have hs3 := B1.out.below hb
    clear c0 c1 c2 c3 c4 c5 c6 c7 d0 d1 d2 d3 d4 d5 d6 d7
    obtain ⟨c0, c1, c2, c3, c4, c5, c6, c7⟩ := hs3.p.facts
    obtain ⟨d0, d1, d2, d3, d4, d5, d6, d7⟩ := hs3.q.facts
    have z3 := hs3.q.lt
    have z4 := hs3.p.lt
    have B3 := Lib.hid hs3
    clear hb hs3
    go_wp2_with fail
    refine bodyPost_ret (v := .tuple #[.agg #[.int .i64 r, .int .i64 u, .int .i64 (spL r u l a t c), .int .i64 (spA r u l a t c)], .int .i64 (spE r u l a t c)]) ?_ rfl ⟨rfl, ?_⟩
    · rw [results_cell_tmp rfl]
      rw [E.out.1, E.out.2.1, E.out.2.2]
      go_simp
    · exact ((((B3.out.bel.setCell (by simp) _).setCell (by simp) _).setCell (by simp) _).setCell (by simp) _).alloc (by have := B3.out.bel.size; simpa using this) _
  · have hb0 : spB r u l a t c = false := by unfold spB; rw [h1, h2, h3]; simpa using h4
    have E := Lib.hid (And.intro (show spE r u l a t c = 15 by unfold spE; rw [hb0, h1, h2, h3]; rfl) (sp_no hb0))
    have V := Lib.hid (fun w => h1 ▸ valid_any r u l a w)
    have T := Lib.hid (fun w => h2 ▸ isTime_any t w)
    have C := Lib.hid (fun w => h3 ▸ isCost_any c w)
    have F := Lib.hid (fun w => filled_any r u l a t h1 h2 w)
    rw [← hL, ← hM] at F
    rw [← hL] at w2 h4
    have h5 : L - 1000 * c < 0 := by omega
    clear h1 h2 h3 h4 hb0 hL hM hl hc hu
    go_enter Try.func14, Try.ntmps14
    go_wp2_with fail
    go_fit (V.out _)
    rintro e w1 ⟨rfl, hb⟩
    have hs1 := hs0.below hb
    obtain ⟨c0, c1, c2, c3, c4, c5, c6, c7⟩ := hs1.p.facts
    obtain ⟨d0, d1, d2, d3, d4, d5, d6, d7⟩ := hs1.q.facts
    have B1 := Lib.hid hs1
    clear hb hs0 hs1
    go_wp2_with fail
    go_fit (T.out _)
    rintro e w2 ⟨rfl, rfl⟩
    go_wp2_with fail
    go_fit (C.out _)
    rintro e w2 ⟨rfl, rfl⟩
    go_wp2_with fail
    go_fit (F.out _)
    rintro e w3 ⟨rfl, hb⟩
    have hs3 := B1.out.below hb
    clear c0 c1 c2 c3 c4 c5 c6 c7 d0 d1 d2 d3 d4 d5 d6 d7
    obtain ⟨c0, c1, c2, c3, c4, c5, c6, c7⟩ := hs3.p.facts
    obtain ⟨d0, d1, d2, d3, d4, d5, d6, d7⟩ := hs3.q.facts
    have z3 := hs3.q.lt
    have z4 := hs3.p.lt
    have B3 := Lib.hid hs3
    clear hb hs3
    go_wp2_with fail
    refine bodyPost_ret (v := .tuple #[.agg #[.int .i64 r, .int .i64 u, .int .i64 (spL r u l a t c), .int .i64 (spA r u l a t c)], .int .i64 (spE r u l a t c)]) ?_ rfl ⟨rfl, ?_⟩
    · rw [results_cell_tmp rfl]
      rw [E.out.1, E.out.2.1, E.out.2.2]
      go_simp
    · exact ((((B3.out.bel.setCell (by simp) _).setCell (by simp) _).setCell (by simp) _).setCell (by simp) _).alloc (by have := B3.out.bel.size; simpa using this) _

end Go.Proofs.Ytjeknocbndgikaa
