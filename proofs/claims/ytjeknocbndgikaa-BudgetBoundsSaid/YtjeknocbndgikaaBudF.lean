/- Contracts of package budget: Refund; and of the document's Right and Level, for every bucket. -/
import Derived.Test.YtjeknocbndgikaaBudE
namespace Go.Proofs.Ytjeknocbndgikaa
open Go.RowKit Go.Lib

theorem results_cell1 {fn : Func} {p : Tmp} {ty : TypeId} (h : fn.results = #[.cell p ty]) (tmps : Array Value) (P : Program) (w : World) :
    (results fn tmps).run P w = ((asAddr (tmps.getD p undef)).run P w).andThen fun a w₁ => (loadVar ty a).run P w₁ := by
  simp only [results, h]
  simp [Sem.run_bind]
/-- What Refund returns. -/
def rfL (r u l a t c : Int) : Int := if okB r u l a && (tmB t && csB c) then min (1000 * u) (lvl r u l a t + 1000 * c) else l
def rfA (r u l a t c : Int) : Int := if okB r u l a && (tmB t && csB c) then max a t else a

set_option maxHeartbeats 1000000 in
theorem Refund_any (r u l a t c : Int) (w : World) :
    Calls Try.prog 16 #[.agg #[.int .i64 r, .int .i64 u, .int .i64 l, .int .i64 a], .int .i64 t, .int .i64 c] w fun e w' => e = .returned (.agg #[.int .i64 r, .int .i64 u, .int .i64 (rfL r u l a t c), .int .i64 (rfA r u l a t c)]) ∧ Below w.heap.size w w' := by
  have hs0 := Bk.new w (.int .i64 r) (.int .i64 u) (.int .i64 l) (.int .i64 a) (.int .i64 0) (.int .i64 0) (.int .i64 0) (.int .i64 0)
  cases h1 : okB r u l a
  · have V := Lib.hid (fun w => h1 ▸ valid_any r u l a w)
    have E := Lib.hid (And.intro (show rfL r u l a t c = l by unfold rfL; rw [h1]; rfl) (show rfA r u l a t c = a by unfold rfA; rw [h1]; rfl))
    clear h1
    go_enter Try.func16, Try.ntmps16
    go_wp2_with fail
    go_fit (V.out _)
    rintro e w1 ⟨rfl, hb⟩
    have hs1 := hs0.below hb
    obtain ⟨c0, c1, c2, c3, c4, c5, c6, c7⟩ := hs1.p.facts
    obtain ⟨d0, d1, d2, d3, d4, d5, d6, d7⟩ := hs1.q.facts
    have B1 := Lib.hid hs1
    clear hb hs0 hs1
    go_wp2_with fail
    refine bodyPost_ret (v := .agg #[.int .i64 r, .int .i64 u, .int .i64 (rfL r u l a t c), .int .i64 (rfA r u l a t c)]) ?_ rfl ⟨rfl, ?_⟩
    · rw [results_cell1 rfl]
      rw [E.out.1, E.out.2]
      go_simp
    · exact (((B1.out.bel.setCell (by simp) _).setCell (by simp) _).setCell (by simp) _).setCell (by simp) _
  cases h2 : tmB t
  · have V := Lib.hid (fun w => h1 ▸ valid_any r u l a w)
    have T := Lib.hid (fun w => h2 ▸ isTime_any t w)
    have E := Lib.hid (And.intro (show rfL r u l a t c = l by unfold rfL; rw [h1, h2]; rfl) (show rfA r u l a t c = a by unfold rfA; rw [h1, h2]; rfl))
    clear h1 h2
    go_enter Try.func16, Try.ntmps16
    go_wp2_with fail
    go_fit (V.out _)
    rintro e w1 ⟨rfl, hb⟩
    have hs1 := hs0.below hb
    obtain ⟨c0, c1, c2, c3, c4, c5, c6, c7⟩ := hs1.p.facts
    obtain ⟨d0, d1, d2, d3, d4, d5, d6, d7⟩ := hs1.q.facts
    have B1 := Lib.hid hs1
    clear hb hs0 hs1
    go_wp2_with fail
    go_fit (T.out _)
    rintro e w2 ⟨rfl, rfl⟩
    go_wp2_with fail
    refine bodyPost_ret (v := .agg #[.int .i64 r, .int .i64 u, .int .i64 (rfL r u l a t c), .int .i64 (rfA r u l a t c)]) ?_ rfl ⟨rfl, ?_⟩
    · rw [results_cell1 rfl]
      rw [E.out.1, E.out.2]
      go_simp
    · exact (((B1.out.bel.setCell (by simp) _).setCell (by simp) _).setCell (by simp) _).setCell (by simp) _
  cases h3 : csB c
  · have V := Lib.hid (fun w => h1 ▸ valid_any r u l a w)
    have T := Lib.hid (fun w => h2 ▸ isTime_any t w)
    have C := Lib.hid (fun w => h3 ▸ isCost_any c w)
    have E := Lib.hid (And.intro (show rfL r u l a t c = l by unfold rfL; rw [h1, h2, h3]; rfl) (show rfA r u l a t c = a by unfold rfA; rw [h1, h2, h3]; rfl))
    clear h1 h2 h3
    go_enter Try.func16, Try.ntmps16
    go_wp2_with fail
    go_fit (V.out _)
    rintro e w1 ⟨rfl, hb⟩
    have hs1 := hs0.below hb
    obtain ⟨c0, c1, c2, c3, c4, c5, c6, c7⟩ := hs1.p.facts
    obtain ⟨d0, d1, d2, d3, d4, d5, d6, d7⟩ := hs1.q.facts
    have B1 := Lib.hid hs1
    clear hb hs0 hs1
    go_wp2_with fail
    go_fit (T.out _)
    rintro e w2 ⟨rfl, rfl⟩
    go_wp2_with fail
    go_fit (C.out _)
    rintro e w2 ⟨rfl, rfl⟩
    go_wp2_with fail
    refine bodyPost_ret (v := .agg #[.int .i64 r, .int .i64 u, .int .i64 (rfL r u l a t c), .int .i64 (rfA r u l a t c)]) ?_ rfl ⟨rfl, ?_⟩
    · rw [results_cell1 rfl]
      rw [E.out.1, E.out.2]
      go_simp
    · exact (((B1.out.bel.setCell (by simp) _).setCell (by simp) _).setCell (by simp) _).setCell (by simp) _
  have hc := csB_of h3
  have hu := okB_of h1
  have hl := lvl_bd h1 h2
  have k1 : wrap64 (c * 1000) = 1000 * c := by unfold wrap64; omega
  have k0 : wrap64 (u * 1000) = 1000 * u := by unfold wrap64; omega
  have V := Lib.hid (fun w => h1 ▸ valid_any r u l a w)
  have T := Lib.hid (fun w => h2 ▸ isTime_any t w)
  have C := Lib.hid (fun w => h3 ▸ isCost_any c w)
  have F := Lib.hid (fun w => filled_any r u l a t h1 h2 w)
  have E0 : rfL r u l a t c = min (1000 * u) (lvl r u l a t + 1000 * c) := by unfold rfL; rw [h1, h2, h3]; rfl
  have E1 : rfA r u l a t c = max a t := by unfold rfA; rw [h1, h2, h3]; rfl
  generalize lvl r u l a t = L at F E0 hl
  generalize max a t = M at F E1
  have k2 : wrap64 (L + 1000 * c) = L + 1000 * c := by unfold wrap64; omega
  clear h1 h2 h3
  by_cases h4 : 1000 * u ≤ L + 1000 * c
  · rw [Int.min_eq_left h4] at E0
    have E := Lib.hid (And.intro E0 E1)
    clear E0 E1 hc hu hl
    go_enter Try.func16, Try.ntmps16
    go_wp2_with fail
    go_fit (V.out _)
    rintro e w1 ⟨rfl, hb⟩
    have hs1 := hs0.below hb
    obtain ⟨c0, c1, c2, c3, c4, c5, c6, c7⟩ := hs1.p.facts
    obtain ⟨d0, d1, d2, d3, d4, d5, d6, d7⟩ := hs1.q.facts
    have B1 := Lib.hid hs1
    clear hb hs0 hs1
    go_wp2_with fail
    go_fit (T.out _)
    rintro e w2 ⟨rfl, rfl⟩
    go_wp2_with fail
    go_fit (C.out _)
    rintro e w2 ⟨rfl, rfl⟩
    go_wp2_with fail
    go_fit (F.out _)
    rintro e w3 ⟨rfl, hb⟩
    have hs3 := B1.out.below hb
    clear c0 c1 c2 c3 c4 c5 c6 c7 d0 d1 d2 d3 d4 d5 d6 d7
    obtain ⟨c0, c1, c2, c3, c4, c5, c6, c7⟩ := hs3.p.facts
    obtain ⟨d0, d1, d2, d3, d4, d5, d6, d7⟩ := hs3.q.facts
    have z3 := hs3.q.lt
    have z4 := hs3.p.lt
    have B3 := Lib.hid hs3
    clear hb hs3
    go_wp2_with fail
    refine bodyPost_ret (v := .agg #[.int .i64 r, .int .i64 u, .int .i64 (rfL r u l a t c), .int .i64 (rfA r u l a t c)]) ?_ rfl ⟨rfl, ?_⟩
    · rw [results_cell1 rfl]
      rw [E.out.1, E.out.2]
      go_simp
    · exact ((((B3.out.bel.setCell (by simp) _).setCell (by simp) _).setCell (by simp) _).setCell (by simp) _).alloc (by have := B3.out.bel.size; simpa using this) _
  · rw [Int.min_eq_right (by omega)] at E0
    have E := Lib.hid (And.intro E0 E1)
    clear E0 E1 hc hu hl
    go_enter Try.func16, Try.ntmps16
    go_wp2_with fail
    go_fit (V.out _)
    rintro e w1 ⟨rfl, hb⟩
    have hs1 := hs0.below hb
    obtain ⟨c0, c1, c2, c3, c4, c5, c6, c7⟩ := hs1.p.facts
    obtain ⟨d0, d1, d2, d3, d4, d5, d6, d7⟩ := hs1.q.facts
    have B1 := Lib.hid hs1
    clear hb hs0 hs1
    go_wp2_with fail
    go_fit (T.out _)
    rintro e w2 ⟨rfl, rfl⟩
    go_wp2_with fail
    go_fit (C.out _)
    rintro e w2 ⟨rfl, rfl⟩
    go_wp2_with fail
    go_fit (F.out _)
    rintro e w3 ⟨rfl, hb⟩
    have hs3 := B1.out.below hb
    clear c0 c1 c2 c3 c4 c5 c6 c7 d0 d1 d2 d3 d4 d5 d6 d7
    obtain ⟨c0, c1, c2, c3, c4, c5, c6, c7⟩ := hs3.p.facts
    obtain ⟨d0, d1, d2, d3, d4, d5, d6, d7⟩ := hs3.q.facts
    have z3 := hs3.q.lt
    have z4 := hs3.p.lt
    have B3 := Lib.hid hs3
    clear hb hs3
    go_wp2_with fail
    refine bodyPost_ret (v := .agg #[.int .i64 r, .int .i64 u, .int .i64 (rfL r u l a t c), .int .i64 (rfA r u l a t c)]) ?_ rfl ⟨rfl, ?_⟩
    · rw [results_cell1 rfl]
      rw [E.out.1, E.out.2]
      go_simp
    · exact ((((B3.out.bel.setCell (by simp) _).setCell (by simp) _).setCell (by simp) _).setCell (by simp) _).alloc (by have := B3.out.bel.size; simpa using this) _

set_option maxHeartbeats 1000000 in
theorem Right_any (r u l a : Int) (w : World) :
    Calls Try.prog 19 #[.agg #[.int .i64 r, .int .i64 u, .int .i64 l, .int .i64 a]] w fun e w' => e = .returned (.bool (okB r u l a)) ∧ Below w.heap.size w w' := by
  by_cases h1 : 0 ≤ r
  case neg =>
    have E := Lib.hid (show okB r u l a = false by unfold okB; rw [decide_eq_false_iff_not]; omega)
    go_enter Try.func19, Try.ntmps19
    go_wp2_with fail
    go_ret
    exact ⟨ret_bool E.out.symm, (Below.refl _ _).alloc (Nat.le_refl _) _⟩
  by_cases h2 : r ≤ 1000
  case neg =>
    have E := Lib.hid (show okB r u l a = false by unfold okB; rw [decide_eq_false_iff_not]; omega)
    go_enter Try.func19, Try.ntmps19
    go_wp2_with fail
    go_ret
    exact ⟨ret_bool E.out.symm, (Below.refl _ _).alloc (Nat.le_refl _) _⟩
  cases h3 : csB u
  case false =>
    have C := Lib.hid (fun w => h3 ▸ rcost_any u w)
    have h3' : ¬ (0 ≤ u ∧ u ≤ 1000000) := of_decide_eq_false h3
    have E := Lib.hid (show okB r u l a = false by unfold okB; rw [decide_eq_false_iff_not]; omega)
    clear h3 h3'
    go_enter Try.func19, Try.ntmps19
    go_wp2_with fail
    go_fit (C.out _)
    rintro e w1 ⟨rfl, rfl⟩
    go_wp2_with fail
    go_ret
    exact ⟨ret_bool E.out.symm, (Below.refl _ _).alloc (Nat.le_refl _) _⟩
  have C := Lib.hid (fun w => h3 ▸ rcost_any u w)
  have hu := csB_of h3
  clear h3
  have k : wrap64 (1000 * u) = 1000 * u := by unfold wrap64; omega
  by_cases h4 : 0 ≤ l
  case neg =>
    have E := Lib.hid (show okB r u l a = false by unfold okB; rw [decide_eq_false_iff_not]; omega)
    clear hu k
    go_enter Try.func19, Try.ntmps19
    go_wp2_with fail
    go_fit (C.out _)
    rintro e w1 ⟨rfl, rfl⟩
    go_wp2_with fail
    go_ret
    exact ⟨ret_bool E.out.symm, (Below.refl _ _).alloc (Nat.le_refl _) _⟩
  by_cases h5 : l ≤ 1000 * u
  case neg =>
    have E := Lib.hid (show okB r u l a = false by unfold okB; rw [decide_eq_false_iff_not]; omega)
    clear hu
    go_enter Try.func19, Try.ntmps19
    go_wp2_with fail
    go_fit (C.out _)
    rintro e w1 ⟨rfl, rfl⟩
    go_wp2_with fail
    go_ret
    exact ⟨ret_bool E.out.symm, (Below.refl _ _).alloc (Nat.le_refl _) _⟩
  cases h6 : tmB a
  case false =>
    have T := Lib.hid (fun w => h6 ▸ rtime_any a w)
    have h6' : ¬ (0 ≤ a ∧ a ≤ 1125899906842624) := of_decide_eq_false h6
    have E := Lib.hid (show okB r u l a = false by unfold okB; rw [decide_eq_false_iff_not]; omega)
    clear h6 h6' hu
    go_enter Try.func19, Try.ntmps19
    go_wp2_with fail
    go_fit (C.out _)
    rintro e w1 ⟨rfl, rfl⟩
    go_wp2_with fail
    go_fit (T.out _)
    rintro e w1 ⟨rfl, rfl⟩
    go_wp2_with fail
    go_ret
    exact ⟨ret_bool E.out.symm, (Below.refl _ _).alloc (Nat.le_refl _) _⟩
  case true =>
    have T := Lib.hid (fun w => h6 ▸ rtime_any a w)
    have h6' := tmB_of h6
    have E := Lib.hid (show okB r u l a = true by unfold okB; rw [decide_eq_true_eq]; omega)
    clear h6 h6' hu
    go_enter Try.func19, Try.ntmps19
    go_wp2_with fail
    go_fit (C.out _)
    rintro e w1 ⟨rfl, rfl⟩
    go_wp2_with fail
    go_fit (T.out _)
    rintro e w1 ⟨rfl, rfl⟩
    go_wp2_with fail
    go_ret
    exact ⟨ret_bool E.out.symm, (Below.refl _ _).alloc (Nat.le_refl _) _⟩

set_option maxHeartbeats 1000000 in
theorem rLevel_any (r u l a t : Int) (w : World) :
    Calls Try.prog 13 #[.agg #[.int .i64 r, .int .i64 u, .int .i64 l, .int .i64 a], .int .i64 t] w fun e w' => e = .returned (.int .i64 (lvD r u l a t)) ∧ Below w.heap.size w w' := by
  have hs0 := hold4_new w (.int .i64 r) (.int .i64 u) (.int .i64 l) (.int .i64 a) 23
  cases h1 : okB r u l a
  · have V := Lib.hid (fun w => h1 ▸ Right_any r u l a w)
    have E := Lib.hid (show lvD r u l a t = 0 by unfold lvD; rw [h1]; rfl)
    clear h1
    go_enter Try.func13, Try.ntmps13
    go_wp2_with fail
    go_fit (V.out _)
    rintro e w1 ⟨rfl, hb⟩
    have B1 := Lib.hid (hold4_below (hold4 hs0 hb))
    clear hb hs0
    go_wp2_with fail
    go_ret
    exact ⟨ret_int E.out.symm, B1.out⟩
  cases h2 : tmB t
  · have V := Lib.hid (fun w => h1 ▸ Right_any r u l a w)
    have T := Lib.hid (fun w => h2 ▸ rtime_any t w)
    have E := Lib.hid (show lvD r u l a t = 0 by unfold lvD; rw [h1, h2]; rfl)
    clear h1 h2
    go_enter Try.func13, Try.ntmps13
    go_wp2_with fail
    go_fit (V.out _)
    rintro e w1 ⟨rfl, hb⟩
    have B1 := Lib.hid (hold4_below (hold4 hs0 hb))
    clear hb hs0
    go_wp2_with fail
    go_fit (T.out _)
    rintro e w2 ⟨rfl, rfl⟩
    go_wp2_with fail
    go_ret
    exact ⟨ret_int E.out.symm, B1.out⟩
  · have V := Lib.hid (fun w => h1 ▸ Right_any r u l a w)
    have T := Lib.hid (fun w => h2 ▸ rtime_any t w)
    have E0 : lvD r u l a t = lvl r u l a t := by unfold lvD; rw [h1, h2]; rfl
    have hu := okB_of h1
    have ht := tmB_of h2
    have k1 : wrap64 (1000 * u) = 1000 * u := by unfold wrap64; omega
    have k2 : wrap64 (t - a) = t - a := by unfold wrap64; omega
    have hp := rate_bd (r := r) (x := max a t - a) ⟨hu.1, hu.2.1⟩ (by omega)
    unfold lvl at E0
    by_cases h3 : 0 < t - a
    · rw [show max a t - a = t - a by omega] at E0 hp
      generalize hpe : r * (t - a) = p at E0 hp
      have k3 : wrap64 (r * (t - a)) = p := by rw [hpe]; unfold wrap64; omega
      have k4 : wrap64 (l + p) = l + p := by unfold wrap64; omega
      have E := Lib.hid E0
      clear h1 h2 E0 hu ht hp hpe
      go_enter Try.func13, Try.ntmps13
      go_wp2_with fail
      go_fit (V.out _)
      rintro e w1 ⟨rfl, hb⟩
      obtain ⟨c0, c1, c2, c3, z1, z2, hb1⟩ := hold4 hs0 hb
      have B1 := Lib.hid hb1
      clear hb hb1 hs0
      go_wp2_with fail
      go_fit (T.out _)
      rintro e w2 ⟨rfl, rfl⟩
      go_wp2_with fail
      all_goals
        go_ret
        exact ⟨ret_int (by rw [E.out]; omega), B1.out⟩
    · rw [show max a t - a = 0 by omega, Int.mul_zero, Int.add_zero] at E0
      have k4 : wrap64 l = l := by unfold wrap64; omega
      have E := Lib.hid E0
      clear h1 h2 E0 hu ht hp
      go_enter Try.func13, Try.ntmps13
      go_wp2_with fail
      go_fit (V.out _)
      rintro e w1 ⟨rfl, hb⟩
      obtain ⟨c0, c1, c2, c3, z1, z2, hb1⟩ := hold4 hs0 hb
      have B1 := Lib.hid hb1
      clear hb hb1 hs0
      go_wp2_with fail
      go_fit (T.out _)
      rintro e w2 ⟨rfl, rfl⟩
      go_wp2_with fail
      all_goals
        go_ret
        exact ⟨ret_int (by rw [E.out]; omega), B1.out⟩
end Go.Proofs.Ytjeknocbndgikaa
