/- Contracts of package budget: New, When and Refund, for every bucket. -/
import Derived.Test.YtjeknocbndgikaaBudC
namespace Go.Proofs.Ytjeknocbndgikaa
open Go.RowKit Go.Lib

/-- What New returns. -/
def nwB (r u t : Int) : Bool := decide (0 ≤ r ∧ r ≤ 1000) && (csB u && tmB t)
def nwE (r u t : Int) : Int := if nwB r u t then 0 else 2
def nwV (r u t x : Int) : Int := if nwB r u t then x else 0
theorem new_ok (r u t : Int) (hu : I64 u) : okB r u (limit64 (u * 1000)) t = nwB r u t := by
  unfold I64 at hu
  rw [Bool.eq_iff_iff]
  unfold okB nwB csB tmB limit64
  simp only [decide_eq_true_eq, Bool.and_eq_true]
  split
  · omega
  split <;> omega
theorem new_lim {r u t : Int} (h : nwB r u t = true) : limit64 (u * 1000) = 1000 * u := by
  unfold nwB csB at h
  simp only [decide_eq_true_eq, Bool.and_eq_true] at h
  unfold limit64
  split
  · omega
  split <;> omega
theorem thouI : I64 1000 := by unfold I64; omega

set_option maxHeartbeats 1000000 in
theorem New_any (r u t : Int) (hu : I64 u) (w : World) :
    Calls Try.prog 9 #[.int .i64 r, .int .i64 u, .int .i64 t] w fun e w' => e = .returned (.tuple #[.agg #[.int .i64 (nwV r u t r), .int .i64 (nwV r u t u), .int .i64 (nwV r u t (1000 * u)), .int .i64 (nwV r u t t)], .int .i64 (nwE r u t)]) ∧ Below w.heap.size w w' := by
  have M := Lib.hid (fun w => Mul_any u 1000 hu thouI w)
  cases h1 : nwB r u t
  · have V := Lib.hid (fun w => (new_ok r u t hu).trans h1 ▸ valid_any r u (limit64 (u * 1000)) t w)
    have E := Lib.hid (And.intro (show nwE r u t = 2 by unfold nwE; rw [h1]; rfl) (show ∀ x, nwV r u t x = 0 from fun x => by unfold nwV; rw [h1]; rfl))
    generalize limit64 (u * 1000) = L at M V
    clear h1 hu
    go_enter Try.func9, Try.ntmps9
    go_wp2_with fail
    go_fit (M.out _)
    rintro e w1 ⟨rfl, hb⟩
    have r1 := (FourAt.new w 23 (.int .i64 0) (.int .i64 0) (.int .i64 0) (.int .i64 0)).below hb
    have b1 := ((Below.refl w.heap.size w).alloc (Nat.le_refl _) _).trans (hb.mono (by simp))
    have z1 := r1.lt
    have R1 := Lib.hid (And.intro r1 b1)
    clear hb r1 b1
    go_wp2_with fail
    go_fit (V.out _)
    rintro e w2 ⟨rfl, hb⟩
    have r1 := (R1.out.1.alloc _).below hb
    have r2 := (FourAt.new w1 23 (.int .i64 r) (.int .i64 u) (.int .i64 L) (.int .i64 t)).below hb
    have b1 := (R1.out.2.alloc R1.out.2.size _).trans (hb.mono (by have := R1.out.2.size; simp; omega))
    obtain ⟨c0, c1, c2, c3, c4, c5, c6, c7⟩ := r1.facts
    obtain ⟨d0, d1, d2, d3, d4, d5, d6, d7⟩ := r2.facts
    have z2 := r1.lt
    have z3 := r2.lt
    have B2 := Lib.hid b1
    clear hb r1 r2 b1
    go_wp2_with fail
    refine bodyPost_ret (v := .tuple #[.agg #[.int .i64 (nwV r u t r), .int .i64 (nwV r u t u), .int .i64 (nwV r u t (1000 * u)), .int .i64 (nwV r u t t)], .int .i64 (nwE r u t)]) ?_ rfl ⟨rfl, ?_⟩
    · rw [results_cell_tmp rfl]
      rw [E.out.1, E.out.2, E.out.2, E.out.2, E.out.2]
      go_simp
    · exact (((B2.out.setCell (by simp) _).setCell (by simp) _).setCell (by simp) _).setCell (by simp) _
  · have hl := new_lim h1
    have V := Lib.hid (fun w => (new_ok r u t hu).trans h1 ▸ valid_any r u (limit64 (u * 1000)) t w)
    have E := Lib.hid (And.intro (show nwE r u t = 0 by unfold nwE; rw [h1]; rfl) (show ∀ x, nwV r u t x = x from fun x => by unfold nwV; rw [h1]; rfl))
    rw [hl] at M V
    obtain ⟨L, hL⟩ : ∃ L, L = 1000 * u := ⟨_, rfl⟩
    rw [← hL] at M V ⊢
    clear h1 hu hl hL
    go_enter Try.func9, Try.ntmps9
    go_wp2_with fail
    go_fit (M.out _)
    rintro e w1 ⟨rfl, hb⟩
    have r1 := (FourAt.new w 23 (.int .i64 0) (.int .i64 0) (.int .i64 0) (.int .i64 0)).below hb
    have b1 := ((Below.refl w.heap.size w).alloc (Nat.le_refl _) _).trans (hb.mono (by simp))
    have z1 := r1.lt
    have R1 := Lib.hid (And.intro r1 b1)
    clear hb r1 b1
    go_wp2_with fail
    go_fit (V.out _)
    rintro e w2 ⟨rfl, hb⟩
    have r1 := (R1.out.1.alloc _).below hb
    have r2 := (FourAt.new w1 23 (.int .i64 r) (.int .i64 u) (.int .i64 L) (.int .i64 t)).below hb
    have b1 := (R1.out.2.alloc R1.out.2.size _).trans (hb.mono (by have := R1.out.2.size; simp; omega))
    obtain ⟨c0, c1, c2, c3, c4, c5, c6, c7⟩ := r1.facts
    obtain ⟨d0, d1, d2, d3, d4, d5, d6, d7⟩ := r2.facts
    have z2 := r1.lt
    have z3 := r2.lt
    have B2 := Lib.hid b1
    clear hb r1 r2 b1
    go_wp2_with fail
    refine bodyPost_ret (v := .tuple #[.agg #[.int .i64 (nwV r u t r), .int .i64 (nwV r u t u), .int .i64 (nwV r u t L), .int .i64 (nwV r u t t)], .int .i64 (nwE r u t)]) ?_ rfl ⟨rfl, ?_⟩
    · rw [results_cell_tmp rfl]
      rw [E.out.1, E.out.2, E.out.2, E.out.2, E.out.2]
      go_simp
    · exact (((B2.out.setCell (by simp) _).setCell (by simp) _).setCell (by simp) _).setCell (by simp) _
end Go.Proofs.Ytjeknocbndgikaa
