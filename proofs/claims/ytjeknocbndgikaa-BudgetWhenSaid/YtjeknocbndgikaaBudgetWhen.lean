/- BudgetWhen: for every bucket and every two integers, When returns the first time at which the cost can be spent, if there is one. No condition on the inputs. -/
import Derived.Test.YtjeknocbndgikaaBudO
import Derived.ProofKit
import Derived.OpenShut
namespace Go.Proofs.Ytjeknocbndgikaa.budgetWhen
open Go.ChangeShapes Go.WideShapes Go.ChangeAt Go.RowKit
set_option linter.unusedVariables false

theorem own : ownKnob Try.prog.godebug = none := by kernel_rfl
theorem laidOut : laidOutB Try.prog = true := by kernel_rfl

/-- A level in two steps is the level in one. -/
theorem lvl_two {r u l a t x : Int} (h : okB r u l a = true) (h1 : tmB t = true) (h2 : tmB x = true) (h3 : t ≤ x) : lvl r u (lvl r u l a t) (max a t) x = lvl r u l a x := by
  obtain ⟨r1, r2, u1, u2, l1, l2, a1, a2⟩ := okB_of h
  obtain ⟨t1, t2⟩ := tmB_of h1
  obtain ⟨x1, x2⟩ := tmB_of h2
  unfold lvl
  rw [show max (max a t) x = max a x by omega]
  have e : r * (max a x - a) = r * (max a t - a) + r * (max a x - max a t) := by rw [← Int.mul_add]; congr 1; omega
  have p1 := rate_bd (r := r) (x := max a x - max a t) ⟨r1, r2⟩ (by omega)
  have p2 := rate_bd (r := r) (x := max a t - a) ⟨r1, r2⟩ (by omega)
  rw [e]
  generalize r * (max a x - max a t) = p at *
  generalize r * (max a t - a) = q at *
  omega
/-- A quotient rounded up: it suffices, and one less does not. -/
theorem up_div {d r : Int} (hr : 0 < r) (_ : 0 < d) : d ≤ r * ((d + r - 1) / r) ∧ r * ((d + r - 1) / r - 1) < d := by
  have h1 := Int.mul_ediv_add_emod (d + r - 1) r
  have h2 := Int.emod_nonneg (d + r - 1) (by omega : r ≠ 0)
  have h3 := Int.emod_lt_of_pos (d + r - 1) hr
  rw [Int.mul_sub, Int.mul_one]
  omega
theorem when_none {r u l a t c : Int} (h1 : okB r u l a = true) (h2 : tmB t = true) (h3 : csB c = true) (h : whO r u l a t c = none) : lvD r u l a 1125899906842624 < 1000 * c := by
  have hM : tmB 1125899906842624 = true := by decide
  obtain ⟨r1, r2, u1, u2, l1, l2, a1, a2⟩ := okB_of h1
  obtain ⟨t1, t2⟩ := tmB_of h2
  have hl := lvl_bd h1 h2
  have h5 : lvD r u l a 1125899906842624 = lvl r u (lvl r u l a t) (max a t) 1125899906842624 := by
    rw [lvl_two h1 h2 hM (by omega)]; unfold lvD; rw [h1, hM]; rfl
  rw [h5]
  unfold whO at h
  rw [h1, h2, h3] at h
  simp only [Bool.and_self, Bool.not_true, Bool.false_eq_true, if_false] at h
  generalize lvl r u l a t = L at *
  split at h
  · cases h
  rename_i k1
  split at h
  · rename_i k2
    unfold lvl
    rcases k2 with k2 | k2
    · omega
    · rw [k2, Int.zero_mul]; omega
  rename_i k2
  split at h
  · cases h
  rename_i k3
  have hu := up_div (d := 1000 * c - L) (r := r) (by omega) (by omega)
  have hq0 : 0 ≤ (1000 * c - L + r - 1) / r := Int.ediv_nonneg (by omega) (by omega)
  generalize (1000 * c - L + r - 1) / r = q at *
  have k4 : 1125899906842624 < max a t + q := by
    have : ¬ (0 ≤ max a t + q ∧ max a t + q ≤ 1125899906842624) := fun h => k3 (decide_eq_true h)
    omega
  unfold lvl
  have hm : r * (max (max a t) 1125899906842624 - max a t) ≤ r * (q - 1) := Int.mul_le_mul_of_nonneg_left (by omega) (by omega)
  omega
theorem when_some {r u l a t c x : Int} (h1 : okB r u l a = true) (h2 : tmB t = true) (h3 : csB c = true) (h : whO r u l a t c = some x) :
    t ≤ x ∧ a ≤ x ∧ x ≤ 1125899906842624 ∧ spE r u l a x c = 0 ∧ (x = t ∨ (x = a ∧ t ≤ x) ∨ lvD r u l a (x - 1) < 1000 * c) := by
  obtain ⟨r1, r2, u1, u2, l1, l2, a1, a2⟩ := okB_of h1
  obtain ⟨t1, t2⟩ := tmB_of h2
  have hl := lvl_bd h1 h2
  have key : ∀ y, t ≤ y → tmB y = true → lvl r u l a y = lvl r u (lvl r u l a t) (max a t) y := fun y hy hy2 => (lvl_two h1 h2 hy2 hy).symm
  have sp : ∀ y, tmB y = true → 1000 * c ≤ lvl r u l a y → spE r u l a y c = 0 := fun y hy hy2 => by
    unfold spE spB; rw [h1, hy, h3]; simp [hy2]
  unfold whO at h
  rw [h1, h2, h3] at h
  simp only [Bool.and_self, Bool.not_true, Bool.false_eq_true, if_false] at h
  generalize lvl r u l a t = L at *
  split at h
  · rename_i k1
    obtain rfl : max a t = x := Option.some.inj h
    have hm : tmB (max a t) = true := decide_eq_true (by omega)
    refine ⟨by omega, by omega, by omega, sp _ hm ?_, by omega⟩
    rw [key _ (by omega) hm]
    unfold lvl
    rw [Int.max_self, Int.sub_self, Int.mul_zero]
    omega
  rename_i k1
  split at h
  · cases h
  rename_i k2
  split at h
  · rename_i k3
    obtain rfl := Option.some.inj h
    have hu := up_div (d := 1000 * c - L) (r := r) (by omega) (by omega)
    have hq0 : 0 ≤ (1000 * c - L + r - 1) / r := Int.ediv_nonneg (by omega) (by omega)
    generalize (1000 * c - L + r - 1) / r = q at *
    have hq1 : q ≠ 0 := fun e => by rw [e, Int.mul_zero] at hu; omega
    have k4 := tmB_of k3
    refine ⟨by omega, by omega, by omega, sp _ k3 ?_, Or.inr (Or.inr ?_)⟩
    · rw [key _ (by omega) k3]
      unfold lvl
      rw [show max (max a t) (max a t + q) - max a t = q by omega]
      omega
    · have hy : tmB (max a t + q - 1) = true := decide_eq_true (by omega)
      unfold lvD
      rw [h1, hy, key _ (by omega) hy]
      simp only [Bool.and_self, if_true]
      unfold lvl
      rw [show max (max a t) (max a t + q - 1) - max a t = q - 1 by omega]
      omega
  · cases h

set_option maxHeartbeats 1000000 in
theorem walk (r u l a t c : Int) (g : I64 r ∧ I64 u ∧ I64 l ∧ I64 a) (w1 : (Lit.int .i64 t).wf = true) (w2 : (Lit.int .i64 c).wf = true) (w : World) :
    Calls Try.prog 6 #[.agg #[.int .i64 r, .int .i64 u, .int .i64 l, .int .i64 a], .int .i64 t, .int .i64 c] w fun e w' => e = .returned (.bool true) ∧ Below w.heap.size w w' := by
  have N := Lib.hid (fun w => When_any r u l a t c w)
  have V := Lib.hid (fun w => Right_any r u l a w)
  clear g w1 w2
  have hs0 := hold4_new w (.int .i64 r) (.int .i64 u) (.int .i64 l) (.int .i64 a) 23
  cases h1 : okB r u l a
  · rw [h1] at V
    have hO : whO r u l a t c = none := by unfold whO; rw [h1]; rfl
    rw [hO] at N
    clear hO
    clear h1
    go_enter Try.func6, Try.ntmps6
    go_wp2_with fail
    go_fit (N.out _)
    rintro e w1 ⟨rfl, hb⟩
    obtain ⟨c0, c1, c2, c3, z1, z2, hb1⟩ := hold4 hs0 hb
    have H1 := Lib.hid (hold4 hs0 hb)
    clear hb hb1 hs0
    go_wp2_with fail
    go_fit (V.out _)
    rintro e w2 ⟨rfl, hb⟩
    obtain ⟨d0, d1, d2, d3, y1, y2, hb1⟩ := hold4 H1.out hb
    have H2 := Lib.hid (hold4 H1.out hb)
    clear hb hb1 c0 c1 c2 c3 z1 z2
    go_wp2_with fail
    go_fit (lives22_any _)
    rintro e w9 ⟨rfl, hb⟩
    have B9 := Lib.hid (hold4_below (hold4 H2.out hb))
    clear hb
    go_wp2_with fail
    go_ret
    exact ⟨rfl, B9.out⟩
  rw [h1] at V
  by_cases k1 : t < 0
  · have h2 : tmB t = false := decide_eq_false (by omega)
    have hO : whO r u l a t c = none := by unfold whO; rw [h1, h2]; rfl
    rw [hO] at N
    clear hO
    clear h1 h2
    go_enter Try.func6, Try.ntmps6
    go_wp2_with fail
    go_fit (N.out _)
    rintro e w1 ⟨rfl, hb⟩
    obtain ⟨c0, c1, c2, c3, z1, z2, hb1⟩ := hold4 hs0 hb
    have H1 := Lib.hid (hold4 hs0 hb)
    clear hb hb1 hs0
    go_wp2_with fail
    go_fit (V.out _)
    rintro e w2 ⟨rfl, hb⟩
    obtain ⟨d0, d1, d2, d3, y1, y2, hb1⟩ := hold4 H1.out hb
    have H2 := Lib.hid (hold4 H1.out hb)
    clear hb hb1 c0 c1 c2 c3 z1 z2
    go_wp2_with fail
    go_fit (lives22_any _)
    rintro e w9 ⟨rfl, hb⟩
    have B9 := Lib.hid (hold4_below (hold4 H2.out hb))
    clear hb
    go_wp2_with fail
    go_ret
    exact ⟨rfl, B9.out⟩
  by_cases k2 : 1125899906842624 < t
  · have h2 : tmB t = false := decide_eq_false (by omega)
    have hO : whO r u l a t c = none := by unfold whO; rw [h1, h2]; rfl
    rw [hO] at N
    clear hO
    clear h1 h2
    go_enter Try.func6, Try.ntmps6
    go_wp2_with fail
    go_fit (N.out _)
    rintro e w1 ⟨rfl, hb⟩
    obtain ⟨c0, c1, c2, c3, z1, z2, hb1⟩ := hold4 hs0 hb
    have H1 := Lib.hid (hold4 hs0 hb)
    clear hb hb1 hs0
    go_wp2_with fail
    go_fit (V.out _)
    rintro e w2 ⟨rfl, hb⟩
    obtain ⟨d0, d1, d2, d3, y1, y2, hb1⟩ := hold4 H1.out hb
    have H2 := Lib.hid (hold4 H1.out hb)
    clear hb hb1 c0 c1 c2 c3 z1 z2
    go_wp2_with fail
    go_fit (lives22_any _)
    rintro e w9 ⟨rfl, hb⟩
    have B9 := Lib.hid (hold4_below (hold4 H2.out hb))
    clear hb
    go_wp2_with fail
    go_ret
    exact ⟨rfl, B9.out⟩
  have h2 : tmB t = true := decide_eq_true (by omega)
  by_cases k3 : c < 0
  · have h3 : csB c = false := decide_eq_false (by omega)
    have hO : whO r u l a t c = none := by unfold whO; rw [h1, h2, h3]; rfl
    rw [hO] at N
    clear hO
    clear h1 h2 h3
    go_enter Try.func6, Try.ntmps6
    go_wp2_with fail
    go_fit (N.out _)
    rintro e w1 ⟨rfl, hb⟩
    obtain ⟨c0, c1, c2, c3, z1, z2, hb1⟩ := hold4 hs0 hb
    have H1 := Lib.hid (hold4 hs0 hb)
    clear hb hb1 hs0
    go_wp2_with fail
    go_fit (V.out _)
    rintro e w2 ⟨rfl, hb⟩
    obtain ⟨d0, d1, d2, d3, y1, y2, hb1⟩ := hold4 H1.out hb
    have H2 := Lib.hid (hold4 H1.out hb)
    clear hb hb1 c0 c1 c2 c3 z1 z2
    go_wp2_with fail
    go_fit (lives22_any _)
    rintro e w9 ⟨rfl, hb⟩
    have B9 := Lib.hid (hold4_below (hold4 H2.out hb))
    clear hb
    go_wp2_with fail
    go_ret
    exact ⟨rfl, B9.out⟩
  by_cases k4 : 1000000 < c
  · have h3 : csB c = false := decide_eq_false (by omega)
    have hO : whO r u l a t c = none := by unfold whO; rw [h1, h2, h3]; rfl
    rw [hO] at N
    clear hO
    clear h1 h2 h3
    go_enter Try.func6, Try.ntmps6
    go_wp2_with fail
    go_fit (N.out _)
    rintro e w1 ⟨rfl, hb⟩
    obtain ⟨c0, c1, c2, c3, z1, z2, hb1⟩ := hold4 hs0 hb
    have H1 := Lib.hid (hold4 hs0 hb)
    clear hb hb1 hs0
    go_wp2_with fail
    go_fit (V.out _)
    rintro e w2 ⟨rfl, hb⟩
    obtain ⟨d0, d1, d2, d3, y1, y2, hb1⟩ := hold4 H1.out hb
    have H2 := Lib.hid (hold4 H1.out hb)
    clear hb hb1 c0 c1 c2 c3 z1 z2
    go_wp2_with fail
    go_fit (lives22_any _)
    rintro e w9 ⟨rfl, hb⟩
    have B9 := Lib.hid (hold4_below (hold4 H2.out hb))
    clear hb
    go_wp2_with fail
    go_ret
    exact ⟨rfl, B9.out⟩
  have h3 : csB c = true := decide_eq_true (by omega)
  have k5 : wrap64 (1000 * c) = 1000 * c := by unfold wrap64; omega
  cases hO : whO r u l a t c with
  | none =>
    have hn := when_none h1 h2 h3 hO
    have L := Lib.hid (fun w => Level_any r u l a 1125899906842624 w)
    rw [hO] at N
    generalize lvD r u l a 1125899906842624 = D at hn L
    clear hO h1 h2 h3
    go_enter Try.func6, Try.ntmps6
    go_wp2_with fail
    go_fit (N.out _)
    rintro e w1 ⟨rfl, hb⟩
    obtain ⟨c0, c1, c2, c3, z1, z2, hb1⟩ := hold4 hs0 hb
    have H1 := Lib.hid (hold4 hs0 hb)
    clear hb hb1 hs0
    go_wp2_with fail
    go_fit (V.out _)
    rintro e w2 ⟨rfl, hb⟩
    obtain ⟨d0, d1, d2, d3, y1, y2, hb1⟩ := hold4 H1.out hb
    have H2 := Lib.hid (hold4 H1.out hb)
    clear hb hb1 c0 c1 c2 c3 z1 z2
    go_wp2_with fail
    go_fit (L.out _)
    rintro e w3 ⟨rfl, hb⟩
    have H3 := Lib.hid (hold4 H2.out hb)
    clear hb d0 d1 d2 d3 y1 y2
    go_wp2_with fail
    go_fit (lives22_any _)
    rintro e w9 ⟨rfl, hb⟩
    have B9 := Lib.hid (hold4_below (hold4 H3.out hb))
    clear hb
    go_wp2_with fail
    go_ret
    exact ⟨rfl, B9.out⟩
  | some x =>
    obtain ⟨m1, m2, m3, m4, m5⟩ := when_some h1 h2 h3 hO
    have P := Lib.hid (fun w => Spend_any r u l a x c w)
    rw [m4] at P
    generalize spL r u l a x c = pl at P
    generalize spA r u l a x c = pa at P
    rw [hO] at N
    clear hO h1 h2 h3 m4
    by_cases n1 : x = t
    · subst n1
      clear m5
      go_enter Try.func6, Try.ntmps6
      go_wp2_with fail
      go_fit (N.out _)
      rintro e w1 ⟨rfl, hb⟩
      obtain ⟨c0, c1, c2, c3, z1, z2, hb1⟩ := hold4 hs0 hb
      have H1 := Lib.hid (hold4 hs0 hb)
      clear hb hb1 hs0
      go_wp2_with fail
      go_fit (V.out _)
      rintro e w2 ⟨rfl, hb⟩
      obtain ⟨d0, d1, d2, d3, y1, y2, hb1⟩ := hold4 H1.out hb
      have H2 := Lib.hid (hold4 H1.out hb)
      clear hb hb1 c0 c1 c2 c3 z1 z2
      go_wp2_with fail
      go_fit (P.out _)
      rintro e w3 ⟨rfl, hb⟩
      obtain ⟨c0, c1, c2, c3, z1, z2, hb1⟩ := hold4 H2.out hb
      have H3 := Lib.hid (hold4 H2.out hb)
      clear hb hb1 d0 d1 d2 d3 y1 y2
      go_wp2_with fail
      go_fit (lives22_any _)
      rintro e w9 ⟨rfl, hb⟩
      have B9 := Lib.hid (hold4_below (hold4 (hold4 H3.out ((Below.refl w3.heap.size w3).alloc (Nat.le_refl _) _)) hb))
      clear hb
      go_wp2_with fail
      go_ret
      exact ⟨rfl, B9.out⟩
    have n3 : (x == t) = false := by simpa using n1
    by_cases n2 : x = a
    · subst n2
      clear m5
      go_enter Try.func6, Try.ntmps6
      go_wp2_with fail
      go_fit (N.out _)
      rintro e w1 ⟨rfl, hb⟩
      obtain ⟨c0, c1, c2, c3, z1, z2, hb1⟩ := hold4 hs0 hb
      have H1 := Lib.hid (hold4 hs0 hb)
      clear hb hb1 hs0
      go_wp2_with fail
      go_fit (V.out _)
      rintro e w2 ⟨rfl, hb⟩
      obtain ⟨d0, d1, d2, d3, y1, y2, hb1⟩ := hold4 H1.out hb
      have H2 := Lib.hid (hold4 H1.out hb)
      clear hb hb1 c0 c1 c2 c3 z1 z2
      go_wp2_with fail
      go_fit (P.out _)
      rintro e w3 ⟨rfl, hb⟩
      obtain ⟨c0, c1, c2, c3, z1, z2, hb1⟩ := hold4 H2.out hb
      have H3 := Lib.hid (hold4 H2.out hb)
      clear hb hb1 d0 d1 d2 d3 y1 y2
      go_wp2_with fail
      go_fit (lives22_any _)
      rintro e w9 ⟨rfl, hb⟩
      have B9 := Lib.hid (hold4_below (hold4 (hold4 H3.out ((Below.refl w3.heap.size w3).alloc (Nat.le_refl _) _)) hb))
      clear hb
      go_wp2_with fail
      go_ret
      exact ⟨rfl, B9.out⟩
    · have n4 : (x == a) = false := by simpa using n2
      have n5 : lvD r u l a (x - 1) < 1000 * c := by rcases m5 with h | h | h; exact absurd h n1; exact absurd h.1 n2; exact h
      have L := Lib.hid (fun w => Level_any r u l a (x - 1) w)
      generalize lvD r u l a (x - 1) = D at n5 L
      have n6 : wrap64 (x - 1) = x - 1 := by unfold wrap64; omega
      clear m5
      go_enter Try.func6, Try.ntmps6
      go_wp2_with fail
      go_fit (N.out _)
      rintro e w1 ⟨rfl, hb⟩
      obtain ⟨c0, c1, c2, c3, z1, z2, hb1⟩ := hold4 hs0 hb
      have H1 := Lib.hid (hold4 hs0 hb)
      clear hb hb1 hs0
      go_wp2_with fail
      go_fit (V.out _)
      rintro e w2 ⟨rfl, hb⟩
      obtain ⟨d0, d1, d2, d3, y1, y2, hb1⟩ := hold4 H1.out hb
      have H2 := Lib.hid (hold4 H1.out hb)
      clear hb hb1 c0 c1 c2 c3 z1 z2
      go_wp2_with fail
      go_fit (P.out _)
      rintro e w3 ⟨rfl, hb⟩
      obtain ⟨c0, c1, c2, c3, z1, z2, hb1⟩ := hold4 H2.out hb
      have H3 := Lib.hid (hold4 H2.out hb)
      clear hb hb1 d0 d1 d2 d3 y1 y2
      go_wp2_with fail
      go_fit (L.out _)
      rintro e w4 ⟨rfl, hb⟩
      have H4 := Lib.hid (hold4 (hold4 H3.out ((Below.refl w3.heap.size w3).alloc (Nat.le_refl _) _)) hb)
      clear hb c0 c1 c2 c3 z1 z2
      obtain ⟨c0, c1, c2, c3, z1, z2, -⟩ := H4.out
      go_wp2_with fail
      go_fit (lives22_any _)
      rintro e w9 ⟨rfl, hb⟩
      have B9 := Lib.hid (hold4_below (hold4 H4.out hb))
      clear hb
      go_wp2_with fail
      go_ret
      exact ⟨rfl, B9.out⟩


set_option maxRecDepth 100000 in
theorem lifted (os : Os) (started : os.Started) (H : Type) (enc : TypeId × Value → H) :
    ReturnsInHanded {} Try.checked os 6 .any (Rows.budgetWhenSpec.pre6 enc Try.prog Try.f6 Rows.budgetWhenRow.domain false) (Rows.budgetWhenSpec.post enc Try.prog Try.f6 false true false false) := by
  refine returnsInHanded_of_change (C := Try.checked) own started (by kernel_rfl) Try.func6
    (ChangeSpec.witness6 (enc := enc) (C := Try.checked) false ⟨#[], #[.agg #[.int .i64 0, .int .i64 0, .int .i64 0, .int .i64 0], .int .i64 0, .int .i64 0], []⟩ 8 (by kernel_rfl) (by kernel_rfl) (by kernel_rfl) (by kernel_rfl)) ?_
  intro W base args ds gs before hval0 hW hcnd _
  have hval : ∀ (j : Nat) t v, Try.f6.params[j]? = some t → args[j]? = some v → Value.okWide Try.prog W .any base t v := hval0
  have hW' := hW
  obtain ⟨p, q, hA0, hV, rfl, hfz, hnd⟩ := hW
  have hA : DataW.TrodAll enc Try.prog W 0 (fun _ => true) true Try.f6.params.toList args.toList ds p := hA0
  rw [Try.params6] at hA hval
  obtain ⟨v0, vs0, d0, ds0, p0, q0, hargs, rfl, rfl, h0, r0⟩ := trodAll_cons hA
  obtain ⟨v1, vs1, d1, ds1, p1, q1, rfl, rfl, rfl, h1, r1⟩ := trodAll_cons r0
  obtain ⟨v2, vs2, d2, ds2, p2, q2, rfl, rfl, rfl, h2, r2⟩ := trodAll_cons r1
  obtain ⟨rfl, rfl, rfl⟩ := trodAll_nil r2
  obtain rfl : args = #[v0, v1, v2] := by cases args; simp_all
  obtain ⟨rfl, rfl⟩ := trodVars_none hV
  have k0 := h0
  have lt0 : ∀ x ∈ p0, x.block < W.heap.size := by obtain ⟨m, hm⟩ := k0; exact DataW.trod_lt m _ _ _ hm
  obtain ⟨x0a, x0b, x0c, x0d, rfl, g0⟩ := open_bucket (hval 0 23 v0 rfl rfl) h0
  obtain ⟨a1, rfl, rfl, rfl, w1⟩ := open_int Try.underlying3 (hval 1 3 v1 rfl rfl) h1
  obtain ⟨a2, rfl, rfl, rfl, w2⟩ := open_int Try.underlying3 (hval 2 3 v2 rfl rfl) h2
  clear hA0 hval0
  refine (walk x0a x0b x0c x0d a1 a2 g0 w1 w2 W ).mono fun e W' ⟨he, bel⟩ => ?_
  subst he
  exact ⟨_, rfl, _, _, _, [], _, [], hW', trodAll_mk1 (shut_bool Try.underlying4 _), (trodAll_cons_mk (Below.trod laidOut (by kernel_rfl) (of_decide_eq_true (by kernel_rfl)) k0 bel lt0) (trodAll_cons_mk (shut_int Try.underlying3 w1) (trodAll_cons_mk (shut_int Try.underlying3 w2) trodAll_mk0))), rfl, bel.frame _, fun h => by cases h⟩

theorem over : Rows.budgetWhenRow.holds Try.pinned (OpenSpec.ofChange Rows.budgetWhenSpec) :=
  OpenClaim.holds_of_wide 6 Try.f6 rfl rfl rfl rfl rfl rfl rfl ⟨rfl, rfl, rfl, rfl, rfl⟩ rfl rfl rfl rfl rfl (by kernel_rfl) Try.func6 (by kernel_rfl)
    (of_decide_eq_true (by kernel_rfl)) (by unfold Func.isWrapper; first | (rw [if_pos (by decide +kernel)]; kernel_rfl) | (rw [if_neg (by decide +kernel)]; exact ⟨rfl, rfl⟩))
    (fun os started H enc _ => lifted os started H enc)

/-- THE STATEMENT. -/
theorem proved : Rows.BudgetWhenSaid :=
  over
#print axioms proved
end Go.Proofs.Ytjeknocbndgikaa.budgetWhen
