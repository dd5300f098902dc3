/- Contracts of package budget: what valid, isTime, isCost and filled return, for every bucket. -/
import Derived.Test.YtjeknocbndgikaaBudA
namespace Go.Proofs.Ytjeknocbndgikaa
open Go.RowKit Go.Lib

/-- A bucket that the document calls valid. -/
def okB (r u l a : Int) : Bool := decide (0 ≤ r ∧ r ≤ 1000 ∧ 0 ≤ u ∧ u ≤ 1000000 ∧ 0 ≤ l ∧ l ≤ 1000 * u ∧ 0 ≤ a ∧ a ≤ 1125899906842624)
def tmB (t : Int) : Bool := decide (0 ≤ t ∧ t ≤ 1125899906842624)
def csB (c : Int) : Bool := decide (0 ≤ c ∧ c ≤ 1000000)
/-- The level at a time. -/
def lvl (r u l a t : Int) : Int := min (1000 * u) (l + r * (max a t - a))
/-- A bucket as a value. -/
theorem clamp_iff (n lo hi : Int) (h : lo ≤ hi) : n = clamp n lo hi ↔ lo ≤ n ∧ n ≤ hi := by unfold clamp; split <;> (try split) <;> (try split) <;> omega
theorem clamp_in (n lo hi : Int) (h : lo ≤ hi) : lo ≤ clamp n lo hi ∧ clamp n lo hi ≤ hi := by unfold clamp; split <;> (try split) <;> (try split) <;> omega
theorem okB_iff (r u l a : Int) : okB r u l a = (((r == clamp r 0 1000) && (u == clamp u 0 1000000)) && (l == clamp l 0 (clamp u 0 1000000 * 1000)) && (a == clamp a 0 1125899906842624)) := by
  have hu := clamp_in u 0 1000000 (by omega)
  rw [Bool.eq_iff_iff]
  unfold okB
  simp only [decide_eq_true_eq, Bool.and_eq_true, beq_iff_eq]
  rw [clamp_iff r 0 1000 (by omega), clamp_iff u 0 1000000 (by omega), clamp_iff l 0 _ (by omega), clamp_iff a 0 _ (by omega)]
  constructor
  · rintro ⟨h1, h2, h3, h4, h5, h6, h7, h8⟩
    have := (clamp_iff u 0 1000000 (by omega)).2 ⟨h3, h4⟩
    omega
  · rintro ⟨⟨⟨h1, h3⟩, h5⟩, h7⟩
    have := (clamp_iff u 0 1000000 (by omega)).2 h3
    omega

set_option maxHeartbeats 1000000 in
theorem isTime_any (t : Int) (w : World) : Calls Try.prog 24 #[.int .i64 t] w fun e w' => e = .returned (.bool (tmB t)) ∧ w = w' := by
  go_enter Try.func24, Try.ntmps24
  go_wp2_with fail
  all_goals
    go_ret
    exact ⟨ret_bool (by unfold tmB; rw [Bool.eq_iff_iff]; simp; omega), rfl⟩
set_option maxHeartbeats 1000000 in
theorem isCost_any (t : Int) (w : World) : Calls Try.prog 26 #[.int .i64 t] w fun e w' => e = .returned (.bool (csB t)) ∧ w = w' := by
  go_enter Try.func26, Try.ntmps26
  go_wp2_with fail
  all_goals
    go_ret
    exact ⟨ret_bool (by unfold csB; rw [Bool.eq_iff_iff]; simp; omega), rfl⟩
set_option maxHeartbeats 1000000 in
theorem rtime_any (t : Int) (w : World) : Calls Try.prog 23 #[.int .i64 t] w fun e w' => e = .returned (.bool (tmB t)) ∧ w = w' := by
  go_enter Try.func23, Try.ntmps23
  go_wp2_with fail
  all_goals
    go_ret
    exact ⟨ret_bool (by unfold tmB; rw [Bool.eq_iff_iff]; simp; omega), rfl⟩
set_option maxHeartbeats 1000000 in
theorem rcost_any (t : Int) (w : World) : Calls Try.prog 22 #[.int .i64 t] w fun e w' => e = .returned (.bool (csB t)) ∧ w = w' := by
  go_enter Try.func22, Try.ntmps22
  go_wp2_with fail
  all_goals
    go_ret
    exact ⟨ret_bool (by unfold csB; rw [Bool.eq_iff_iff]; simp; omega), rfl⟩

theorem hold4 {W w1 w2 : World} {B : Nat} {x y z t : Value} (h : w1.cell? ⟨B, 0, none⟩ = some x ∧ w1.cell? ⟨B, 1, none⟩ = some y ∧ w1.cell? ⟨B, 2, none⟩ = some z ∧ w1.cell? ⟨B, 3, none⟩ = some t ∧ B < w1.heap.size ∧ W.heap.size ≤ w1.heap.size ∧ Below W.heap.size W w1) (hb : Below w1.heap.size w1 w2) :
    w2.cell? ⟨B, 0, none⟩ = some x ∧ w2.cell? ⟨B, 1, none⟩ = some y ∧ w2.cell? ⟨B, 2, none⟩ = some z ∧ w2.cell? ⟨B, 3, none⟩ = some t ∧ B < w2.heap.size ∧ W.heap.size ≤ w2.heap.size ∧ Below W.heap.size W w2 := by
  obtain ⟨h1, h2, h5, h6, h3, h4, h7⟩ := h
  have hz := hb.size
  exact ⟨(hb.cell (p := ⟨B, 0, none⟩) h3).trans h1, (hb.cell (p := ⟨B, 1, none⟩) h3).trans h2, (hb.cell (p := ⟨B, 2, none⟩) h3).trans h5, (hb.cell (p := ⟨B, 3, none⟩) h3).trans h6, by omega, by omega, h7.trans (hb.mono h4)⟩
theorem hold4_drew {W w1 : World} {B : Nat} {x y z t : Value} (h : w1.cell? ⟨B, 0, none⟩ = some x ∧ w1.cell? ⟨B, 1, none⟩ = some y ∧ w1.cell? ⟨B, 2, none⟩ = some z ∧ w1.cell? ⟨B, 3, none⟩ = some t ∧ B < w1.heap.size ∧ W.heap.size ≤ w1.heap.size ∧ Below W.heap.size W w1) :
    w1.drew.cell? ⟨B, 0, none⟩ = some x ∧ w1.drew.cell? ⟨B, 1, none⟩ = some y ∧ w1.drew.cell? ⟨B, 2, none⟩ = some z ∧ w1.drew.cell? ⟨B, 3, none⟩ = some t ∧ B < w1.drew.heap.size ∧ W.heap.size ≤ w1.drew.heap.size ∧ Below W.heap.size W w1.drew :=
  ⟨h.1, h.2.1, h.2.2.1, h.2.2.2.1, h.2.2.2.2.1, h.2.2.2.2.2.1, h.2.2.2.2.2.2.drew⟩
theorem hold4_new (W : World) (x y z t : Value) (T : TypeId) :
    (W.alloc (.cells #[x, y, z, t] T)).cell? ⟨W.heap.size, 0, none⟩ = some x ∧ (W.alloc (.cells #[x, y, z, t] T)).cell? ⟨W.heap.size, 1, none⟩ = some y ∧
    (W.alloc (.cells #[x, y, z, t] T)).cell? ⟨W.heap.size, 2, none⟩ = some z ∧ (W.alloc (.cells #[x, y, z, t] T)).cell? ⟨W.heap.size, 3, none⟩ = some t ∧
      W.heap.size < (W.alloc (.cells #[x, y, z, t] T)).heap.size ∧ W.heap.size ≤ (W.alloc (.cells #[x, y, z, t] T)).heap.size ∧ Below W.heap.size W (W.alloc (.cells #[x, y, z, t] T)) :=
  ⟨by simp [World.cell?_alloc_new], by simp [World.cell?_alloc_new], by simp [World.cell?_alloc_new], by simp [World.cell?_alloc_new], by simp, by simp, (Below.refl _ _).alloc (Nat.le_refl _) _⟩
theorem hold4_below {W w1 : World} {B : Nat} {x y z t : Value} (h : w1.cell? ⟨B, 0, none⟩ = some x ∧ w1.cell? ⟨B, 1, none⟩ = some y ∧ w1.cell? ⟨B, 2, none⟩ = some z ∧ w1.cell? ⟨B, 3, none⟩ = some t ∧ B < w1.heap.size ∧ W.heap.size ≤ w1.heap.size ∧ Below W.heap.size W w1) : Below W.heap.size W w1 := h.2.2.2.2.2.2

theorem eqB (a b c d x y z t : Int) (w : World) : (Op.equalIn 10000 23 (.agg #[.int .i64 a, .int .i64 b, .int .i64 c, .int .i64 d]) (.agg #[.int .i64 x, .int .i64 y, .int .i64 z, .int .i64 t])).run Try.prog w = .ok (a == x && b == y && c == z && d == t) w := by
  have u3 := Try.underlying3
  have a3 := Try.isAgg3
  have z3 := Try.sizeOf3
  rw [show (10000 : Nat) = 9999 + 1 from rfl, Op.equalIn]
  simp only [Sem.run_bind, run_underlying Try.underlying23, Result.andThen_ok]
  go_simp
  by_cases h1 : a = x <;> by_cases h2 : b = y <;> by_cases h3 : c = z <;> by_cases h4 : d = t <;> simp [h1, h2, h3, h4]

set_option maxHeartbeats 1000000 in
theorem valid_any (r u l a : Int) (w : World) :
    Calls Try.prog 21 #[.agg #[.int .i64 r, .int .i64 u, .int .i64 l, .int .i64 a]] w fun e w' => e = .returned (.bool (okB r u l a)) ∧ Below w.heap.size w w' := by
  obtain ⟨k, hk⟩ : ∃ k, k = clamp u 0 1000000 := ⟨_, rfl⟩
  have hk2 := clamp_in u 0 1000000 (by omega)
  rw [← hk] at hk2
  have L1 := fun w => Limit_any u 0 1000000 w
  have E := Lib.hid (okB_iff r u l a)
  rw [← hk] at L1 E
  have hkw : IntKind.i64.wrap (k * 1000) = k * 1000 := by simp [IntKind.wrap, IntKind.bits, IntKind.signed]; omega
  rw [← hkw] at E
  clear hk hkw
  have hs0 := hold4_new w (.int .i64 r) (.int .i64 u) (.int .i64 l) (.int .i64 a) 23
  go_enter Try.func21, Try.ntmps21
  go_wp2_with fail
  go_fit (L1 _)
  rintro e w1 ⟨rfl, rfl⟩
  go_wp2_with fail
  obtain ⟨wn, hwn⟩ : ∃ wn, wn = w.alloc (Obj.cells #[Value.int IntKind.i64 r, Value.int IntKind.i64 u, Value.int IntKind.i64 l, Value.int IntKind.i64 a] 23) := ⟨_, rfl⟩
  rw [← hwn] at hs0 ⊢
  clear hwn
  have E4 := fun x y z t w => eqB r u l a x y z t w
  go_region_held3 (fun w' => w'.cell? ⟨w.heap.size, 0, none⟩ = some (.int .i64 r) ∧ w'.cell? ⟨w.heap.size, 1, none⟩ = some (.int .i64 u) ∧ w'.cell? ⟨w.heap.size, 2, none⟩ = some (.int .i64 l) ∧ w'.cell? ⟨w.heap.size, 3, none⟩ = some (.int .i64 a) ∧ w.heap.size < w'.heap.size ∧ w.heap.size ≤ w'.heap.size ∧ Below w.heap.size w w') (first | exact hold4_drew hs0 | assumption | exact hold4 (by assumption) (by assumption)) (first
      | (go_at_call 29; go_fit (Limit_any r 0 1000 _); rintro e w2 ⟨rfl, rfl⟩)
      | (go_at_call 29; go_fit (Limit_any l 0 _ _); rintro e w2 ⟨rfl, rfl⟩)
      | (go_at_call 29; go_fit (Limit_any a 0 1125899906842624 _); rintro e w2 ⟨rfl, rfl⟩))
  all_goals
    go_wp2_with fail
    go_ret
    refine ⟨ret_bool E.out.symm, ?_⟩
    exact hold4_below (B := w.heap.size) (x := .int .i64 r) (y := .int .i64 u) (z := .int .i64 l) (t := .int .i64 a) (by assumption)

theorem okB_of {r u l a : Int} (h : okB r u l a = true) : 0 ≤ r ∧ r ≤ 1000 ∧ 0 ≤ u ∧ u ≤ 1000000 ∧ 0 ≤ l ∧ l ≤ 1000 * u ∧ 0 ≤ a ∧ a ≤ 1125899906842624 := of_decide_eq_true h
theorem tmB_of {t : Int} (h : tmB t = true) : 0 ≤ t ∧ t ≤ 1125899906842624 := of_decide_eq_true h
theorem csB_of {t : Int} (h : csB t = true) : 0 ≤ t ∧ t ≤ 1000000 := of_decide_eq_true h
/-- What has come in since a bucket's time. -/
theorem rate_bd {r x : Int} (hr : 0 ≤ r ∧ r ≤ 1000) (hx : 0 ≤ x ∧ x ≤ 1125899906842624) : 0 ≤ r * x ∧ r * x ≤ 1125899906842624000 :=
  ⟨Int.mul_nonneg hr.1 hx.1, Int.le_trans (Int.mul_le_mul hr.2 hx.2 hx.1 (by omega)) (by omega)⟩
theorem fill_a {r u l a t : Int} (h : okB r u l a = true) (ht : tmB t = true) (c : a < t) :
    wrap64 (u * 1000) = 1000 * u ∧ wrap64 (l + wrap64 (r * wrap64 (t - a))) = l + r * (t - a) ∧ lvl r u l a t = min (1000 * u) (l + r * (t - a)) ∧ max a t = t := by
  obtain ⟨h1, h2, h3, h4, h5, h6, h7, h8⟩ := okB_of h
  obtain ⟨t1, t2⟩ := tmB_of ht
  have e1 : wrap64 (t - a) = t - a := by unfold wrap64; omega
  have hm : max a t = t := by omega
  unfold lvl
  rw [e1, hm]
  have hp := rate_bd (r := r) (x := t - a) ⟨h1, h2⟩ (by omega)
  generalize r * (t - a) = p at hp ⊢
  have e2 : wrap64 p = p := by unfold wrap64; omega
  rw [e2]
  refine ⟨by unfold wrap64; omega, by unfold wrap64; omega, rfl, rfl⟩
theorem fill_b {r u l a t : Int} (h : okB r u l a = true) (_ : tmB t = true) (c : t ≤ a) :
    wrap64 (u * 1000) = 1000 * u ∧ wrap64 l = l ∧ lvl r u l a t = min (1000 * u) l ∧ max a t = a := by
  obtain ⟨h1, h2, h3, h4, h5, h6, h7, h8⟩ := okB_of h
  have hm : max a t = a := by omega
  unfold lvl
  rw [hm, Int.sub_self, Int.mul_zero, Int.add_zero]
  refine ⟨by unfold wrap64; omega, by unfold wrap64; omega, rfl, rfl⟩
theorem ret_bkt {a b c d x y z t : Int} (h1 : a = x) (h2 : b = y) (h3 : c = z) (h4 : d = t) : Ending.returned (.agg #[.int .i64 a, .int .i64 b, .int .i64 c, .int .i64 d]) = .returned (.agg #[.int .i64 x, .int .i64 y, .int .i64 z, .int .i64 t]) := by rw [h1, h2, h3, h4]

set_option maxHeartbeats 1000000 in
theorem filled_any (r u l a t : Int) (h : okB r u l a = true) (ht : tmB t = true) (w : World) :
    Calls Try.prog 25 #[.agg #[.int .i64 r, .int .i64 u, .int .i64 l, .int .i64 a], .int .i64 t] w fun e w' => e = .returned (.agg #[.int .i64 r, .int .i64 u, .int .i64 (lvl r u l a t), .int .i64 (max a t)]) ∧ Below w.heap.size w w' := by
  by_cases c : a < t
  · obtain ⟨e1, e2, e3, e4⟩ := fill_a h ht c
    clear h ht
    have E3 := Lib.hid e3
    have E4 := Lib.hid e4
    clear e3 e4
    go_enter Try.func25, Try.ntmps25
    go_wp2_with fail
    all_goals
      refine bodyPost_ret (v := .agg #[.int .i64 r, .int .i64 u, .int .i64 (lvl r u l a t), .int .i64 (max a t)]) ?_ rfl ⟨rfl, ?_⟩
      · rw [E4.out, E3.out]
        first
          | (rw [Int.min_eq_left (by omega)]; simp [results, Try.results25, go_sem]; done)
          | (rw [Int.min_eq_right (by omega)]; simp [results, Try.results25, go_sem]; done)
      · exact ((Below.refl _ _).alloc (Nat.le_refl _) _).alloc (by simp) _
  · obtain ⟨e1, e2, e3, e4⟩ := fill_b h ht (by omega)
    clear h ht
    have E3 := Lib.hid e3
    have E4 := Lib.hid e4
    clear e3 e4
    go_enter Try.func25, Try.ntmps25
    go_wp2_with fail
    all_goals
      refine bodyPost_ret (v := .agg #[.int .i64 r, .int .i64 u, .int .i64 (lvl r u l a t), .int .i64 (max a t)]) ?_ rfl ⟨rfl, ?_⟩
      · rw [E4.out, E3.out]
        first
          | (rw [Int.min_eq_left (by omega)]; simp [results, Try.results25, go_sem]; done)
          | (rw [Int.min_eq_right (by omega)]; simp [results, Try.results25, go_sem]; done)
      · exact ((Below.refl _ _).alloc (Nat.le_refl _) _).alloc (by simp) _
end Go.Proofs.Ytjeknocbndgikaa
