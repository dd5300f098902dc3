/- The contract of the document's Scale: long division bit by bit. -/
import Derived.Test.YthggcagbanndgaaRefC
import Derived.Test.YthggcagbanndgaaLong
import Derived.Test.YthggcagbanndgaaNumD
namespace Go.Proofs.Ythggcagbanndgaa
open Go.RowKit Go.Lib Go.NumM Go.NumL

/-- Two numbers of three cells, in two blocks of the call's own, and nothing else turned. -/
def Duo (w : World) (B C : Nat) (s t : Bool) (wh wl qh ql : Int) (w1 : World) : Prop :=
  w1.cell? ⟨B, 0, none⟩ = some (.bool s) ∧ w1.cell? ⟨B, 1, none⟩ = some (.int .u64 wh) ∧ w1.cell? ⟨B, 2, none⟩ = some (.int .u64 wl) ∧
  w1.cell? ⟨C, 0, none⟩ = some (.bool t) ∧ w1.cell? ⟨C, 1, none⟩ = some (.int .u64 qh) ∧ w1.cell? ⟨C, 2, none⟩ = some (.int .u64 ql) ∧
  w1.frozen? ⟨B, 1, none⟩ = false ∧ w1.frozen? ⟨B, 2, none⟩ = false ∧ w1.frozen? ⟨C, 1, none⟩ = false ∧ w1.frozen? ⟨C, 2, none⟩ = false ∧
  w.heap.size ≤ B ∧ B < C ∧ C < w1.heap.size ∧ Below w.heap.size w w1

theorem Duo.setWh {w w1 : World} {B C : Nat} {s t : Bool} {wh wl qh ql : Int} (h : Duo w B C s t wh wl qh ql w1) (v : Int) : Duo w B C s t v wl qh ql (w1.setCell ⟨B, 1, none⟩ (.int .u64 v)) := by
  obtain ⟨h0, h1, h2, h3, h4, h5, f1, f2, f3, f4, hB, hBC, hC, hb⟩ := h
  exact ⟨(World.cell?_setCell_other _ _ _ _ (by simp)).trans h0, World.cell?_setCell_same _ _ _ h1, (World.cell?_setCell_other _ _ _ _ (by simp)).trans h2, (World.cell?_setCell_other _ _ _ _ (by simp <;> omega)).trans h3, (World.cell?_setCell_other _ _ _ _ (by simp <;> omega)).trans h4, (World.cell?_setCell_other _ _ _ _ (by simp <;> omega)).trans h5, (World.frozen?_setCell _ _ _ _).trans f1, (World.frozen?_setCell _ _ _ _).trans f2, (World.frozen?_setCell _ _ _ _).trans f3, (World.frozen?_setCell _ _ _ _).trans f4, hB, hBC, by simpa [World.setCell] using hC, hb.setCell (p := ⟨B, 1, none⟩) (by simp; omega) _⟩
theorem Duo.setWl {w w1 : World} {B C : Nat} {s t : Bool} {wh wl qh ql : Int} (h : Duo w B C s t wh wl qh ql w1) (v : Int) : Duo w B C s t wh v qh ql (w1.setCell ⟨B, 2, none⟩ (.int .u64 v)) := by
  obtain ⟨h0, h1, h2, h3, h4, h5, f1, f2, f3, f4, hB, hBC, hC, hb⟩ := h
  exact ⟨(World.cell?_setCell_other _ _ _ _ (by simp)).trans h0, (World.cell?_setCell_other _ _ _ _ (by simp)).trans h1, World.cell?_setCell_same _ _ _ h2, (World.cell?_setCell_other _ _ _ _ (by simp <;> omega)).trans h3, (World.cell?_setCell_other _ _ _ _ (by simp <;> omega)).trans h4, (World.cell?_setCell_other _ _ _ _ (by simp <;> omega)).trans h5, (World.frozen?_setCell _ _ _ _).trans f1, (World.frozen?_setCell _ _ _ _).trans f2, (World.frozen?_setCell _ _ _ _).trans f3, (World.frozen?_setCell _ _ _ _).trans f4, hB, hBC, by simpa [World.setCell] using hC, hb.setCell (p := ⟨B, 2, none⟩) (by simp; omega) _⟩
theorem Duo.setQh {w w1 : World} {B C : Nat} {s t : Bool} {wh wl qh ql : Int} (h : Duo w B C s t wh wl qh ql w1) (v : Int) : Duo w B C s t wh wl v ql (w1.setCell ⟨C, 1, none⟩ (.int .u64 v)) := by
  obtain ⟨h0, h1, h2, h3, h4, h5, f1, f2, f3, f4, hB, hBC, hC, hb⟩ := h
  exact ⟨(World.cell?_setCell_other _ _ _ _ (by simp <;> omega)).trans h0, (World.cell?_setCell_other _ _ _ _ (by simp <;> omega)).trans h1, (World.cell?_setCell_other _ _ _ _ (by simp <;> omega)).trans h2, (World.cell?_setCell_other _ _ _ _ (by simp)).trans h3, World.cell?_setCell_same _ _ _ h4, (World.cell?_setCell_other _ _ _ _ (by simp)).trans h5, (World.frozen?_setCell _ _ _ _).trans f1, (World.frozen?_setCell _ _ _ _).trans f2, (World.frozen?_setCell _ _ _ _).trans f3, (World.frozen?_setCell _ _ _ _).trans f4, hB, hBC, by simpa [World.setCell] using hC, hb.setCell (p := ⟨C, 1, none⟩) (by simp; omega) _⟩
theorem Duo.setQl {w w1 : World} {B C : Nat} {s t : Bool} {wh wl qh ql : Int} (h : Duo w B C s t wh wl qh ql w1) (v : Int) : Duo w B C s t wh wl qh v (w1.setCell ⟨C, 2, none⟩ (.int .u64 v)) := by
  obtain ⟨h0, h1, h2, h3, h4, h5, f1, f2, f3, f4, hB, hBC, hC, hb⟩ := h
  exact ⟨(World.cell?_setCell_other _ _ _ _ (by simp <;> omega)).trans h0, (World.cell?_setCell_other _ _ _ _ (by simp <;> omega)).trans h1, (World.cell?_setCell_other _ _ _ _ (by simp <;> omega)).trans h2, (World.cell?_setCell_other _ _ _ _ (by simp)).trans h3, (World.cell?_setCell_other _ _ _ _ (by simp)).trans h4, World.cell?_setCell_same _ _ _ h5, (World.frozen?_setCell _ _ _ _).trans f1, (World.frozen?_setCell _ _ _ _).trans f2, (World.frozen?_setCell _ _ _ _).trans f3, (World.frozen?_setCell _ _ _ _).trans f4, hB, hBC, by simpa [World.setCell] using hC, hb.setCell (p := ⟨C, 2, none⟩) (by simp; omega) _⟩
theorem Duo.below {w w1 : World} {B C : Nat} {s t : Bool} {wh wl qh ql : Int} (h : Duo w B C s t wh wl qh ql w1) : Below w.heap.size w w1 ∧ w.heap.size ≤ w1.heap.size := by
  obtain ⟨h0, h1, h2, h3, h4, h5, f1, f2, f3, f4, hB, hBC, hC, hb⟩ := h
  exact ⟨hb, by omega⟩
theorem Duo.new {w w1 : World} (hb : Below w.heap.size w w1) (s t : Bool) (wh wl : Int) (T : TypeId) :
    Duo w w1.heap.size (w1.heap.size + 1) s t wh wl 0 0 ((w1.alloc (.cells #[.bool s, .int .u64 wh, .int .u64 wl] T)).alloc (.cells #[.bool t, .int .u64 0, .int .u64 0] T)) := by
  have hz := hb.size
  refine ⟨?_, ?_, ?_, ?_, ?_, ?_, ?_, ?_, ?_, ?_, hz, by omega, by simp, (hb.alloc hz _).alloc (by simp; omega) _⟩
  all_goals simp [go_sem]

set_option maxHeartbeats 1000000 in
theorem refScale_zero (n m : Int) (w : World) :
    Calls Try.prog 23 #[.int .i64 n, .int .i64 m, .int .i64 0] w fun e w' => e = .returned (.tuple #[.int .i64 0, .int .i64 2]) ∧ w = w' := by
  go_enter Try.func23, Try.ntmps23
  go_wp2_with fail
  go_ret2
  exact ⟨rfl, rfl⟩

/-- The number that a sign and two halves stand for. -/
def sval (t : Bool) (V : Nat) : Int := if t then -(V : Int) else V
def In64 (y : Int) : Prop := -9223372036854775808 ≤ y ∧ y ≤ 9223372036854775807
theorem narrow_yes (t : Bool) (h l : Nat) (hl : l < 18446744073709551616) (hy : In64 (sval t (h * 18446744073709551616 + l))) (w : World) :
    Calls Try.prog 52 #[.agg #[.bool t, .int .u64 h, .int .u64 l]] w fun e w' => e = .returned (.tuple #[.int .i64 (sval t (h * 18446744073709551616 + l)), .bool true]) ∧ Below w.heap.size w w' := by
  have := narrow_raw t h l (by omega) (by omega) w
  have e1 : nrQ t h l = sval t (h * 18446744073709551616 + l) := by
    unfold In64 sval at *; unfold nrQ
    cases t <;> simp at hy ⊢ <;> omega
  have e2 : nrB t h l = true := by
    unfold In64 sval at *; unfold nrB
    cases t <;> simp at hy ⊢ <;> omega
  rwa [e1, e2] at this
theorem narrow_no (t : Bool) (h l : Nat) (hl : l < 18446744073709551616) (hy : ¬ In64 (sval t (h * 18446744073709551616 + l))) (w : World) :
    Calls Try.prog 52 #[.agg #[.bool t, .int .u64 h, .int .u64 l]] w fun e w' => e = .returned (.tuple #[.int .i64 0, .bool false]) ∧ Below w.heap.size w w' := by
  have := narrow_raw t h l (by omega) (by omega) w
  have e1 : nrQ t h l = 0 := by
    unfold In64 sval at *; unfold nrQ
    cases t <;> simp at hy ⊢ <;> omega
  have e2 : nrB t h l = false := by
    unfold In64 sval at *; unfold nrB
    cases t <;> simp at hy ⊢ <;> omega
  rwa [e1, e2] at this

theorem carry_up (q : Nat) : q * 18446744073709551616 + 18446744073709551615 + 1 = (q + 1) * 18446744073709551616 + 0 := by omega
/-- The rounded quotient of a product, out of the quotient and the remainder of its size. -/
theorem scale_value (n m d : Int) (h0 : d ≠ 0) : ∃ y : Int, y = scZ n m d / (d.natAbs : Int) ∧
    y = sval (decide (n * m < 0) != decide (d < 0) && (wHi (n * m) != 0 || wLo (n * m) != 0))
      (if (decide (n * m < 0) != decide (d < 0) && (wHi (n * m) != 0 || wLo (n * m) != 0)) = true ∧ (wHi (n * m) * 18446744073709551616 + wLo (n * m)) % d.natAbs ≠ 0
        then (wHi (n * m) * 18446744073709551616 + wLo (n * m)) / d.natAbs + 1 else (wHi (n * m) * 18446744073709551616 + wLo (n * m)) / d.natAbs) := by
  refine ⟨_, rfl, ?_⟩
  unfold scZ
  have e1 : wHi (n * m) * 18446744073709551616 + wLo (n * m) = (n * m).natAbs := by unfold wHi wLo; omega
  have hz := wide_zero (n * m)
  rw [e1]
  generalize n * m = z at *
  have hD : 0 < d.natAbs := by omega
  generalize d.natAbs = D at *
  by_cases hs : (decide (z < 0) != decide (d < 0) && (wHi z != 0 || wLo z != 0)) = true
  · rw [hs]
    have hzn : (if d < 0 then -z else z) = -(z.natAbs : Int) := by
      simp only [Bool.and_eq_true, bne_iff_ne, ne_eq, decide_eq_decide] at hs
      split <;> omega
    rw [hzn, neg_div z.natAbs D _ _ hD rfl rfl]
    unfold sval
    by_cases hr : z.natAbs % D = 0
    · rw [if_pos hr, if_pos rfl, if_neg (by simp [hr])]
    · rw [if_neg hr, if_pos rfl, if_pos ⟨rfl, hr⟩]; omega
  · have hs' : (decide (z < 0) != decide (d < 0) && (wHi z != 0 || wLo z != 0)) = false := by simpa using hs
    rw [hs']
    have hzn : (if d < 0 then -z else z) = (z.natAbs : Int) := by
      by_cases k : z = 0
      · subst k; split <;> rfl
      · have k2 : (wHi z != 0 || wLo z != 0) = true := by
          by_cases k3 : wHi z = 0
          · have k4 : wLo z ≠ 0 := fun k4 => k (hz.1 ⟨k3, k4⟩)
            simp [k4]
          · simp [k3]
        rw [k2, Bool.and_true] at hs'
        have k5 : (z < 0 ↔ d < 0) := by simpa using hs'
        split <;> omega
    rw [hzn]
    unfold sval
    simp

/-- What is asked of the loop's values in the walk's spelling. -/
theorem w_hi (wh wl : Nat) : IntKind.u64.wrap (IntKind.u64.wrap ((wh : Int) * 2) + (wl : Int) / 9223372036854775808) = (((wh * 2 + wl / 9223372036854775808) % 18446744073709551616 : Nat) : Int) := by
  simp only [IntKind.wrap_u64]; omega
theorem w_q (qh ql : Nat) : (qh : Int) * 2 + (ql : Int) / 9223372036854775808 = ((qh * 2 + ql / 9223372036854775808 : Nat) : Int) := by omega
theorem w_q1 (ql : Nat) : IntKind.u64.wrap (IntKind.u64.wrap ((ql : Int) * 2) + 1) = ((ql * 2 % 18446744073709551616 + 1 : Nat) : Int) := by
  simp only [IntKind.wrap_u64]; omega
theorem w_lo (wl : Nat) : IntKind.u64.wrap ((wl : Int) * 2) = ((wl * 2 % 18446744073709551616 : Nat) : Int) := by
  simp only [IntKind.wrap_u64]; omega

set_option maxHeartbeats 1000000 in
set_option maxRecDepth 100000 in
theorem refScale_raw (n m d : Int) (hn : I64 n) (hm : I64 m) (hd : I64 d) (h0 : d ≠ 0) (s t : Bool) (hs : decide (n * m < 0) = s) (hi lo D : Nat) (hhi : wHi (n * m) = hi) (hlo : wLo (n * m) = lo) (hD : d.natAbs = D)
    (ht : t = (s != decide (d < 0) && (hi != 0 || lo != 0))) (Q E y : Int) (hy : y = sval t (if t = true ∧ (hi * 18446744073709551616 + lo) % D ≠ 0 then (hi * 18446744073709551616 + lo) / D + 1 else (hi * 18446744073709551616 + lo) / D))
    (hQ : In64 y → Q = y ∧ E = 0) (hQ2 : ¬ In64 y → Q = 0 ∧ E = 11) (w : World) :
    Calls Try.prog 23 #[.int .i64 n, .int .i64 m, .int .i64 d] w fun e w' => e = .returned (.tuple #[.int .i64 Q, .int .i64 E]) ∧ Below w.heap.size w w' := by
  have HA := Lib.hid hn; have HB := Lib.hid hm; have HD := Lib.hid hd
  have e0 : (d == 0) = false := by rw [beq_eq_false_iff_ne]; exact h0
  have H0 := Lib.hid h0
  have HT := Lib.hid ht
  have HS := Lib.hid hs; have HHI := Lib.hid hhi; have HLO := Lib.hid hlo; have HDD := Lib.hid hD
  have hD0 := Lib.hid (show 0 < D ∧ D ≤ 9223372036854775808 by unfold I64 at hd; omega)
  have HHIB := Lib.hid (show hi < 9223372036854775808 by rw [← hhi]; unfold wHi; have := mid_mul n m hn hm; unfold Mid at this; omega)
  have hNb := Lib.hid (show hi < 18446744073709551616 ∧ lo < 18446744073709551616 by rw [← hhi, ← hlo]; unfold wHi wLo; have := mid_mul n m hn hm; unfold Mid at this; omega)
  have HQ := Lib.hid hQ; have HQ2 := Lib.hid hQ2; have HYY := Lib.hid hy
  clear hn hm hd ht h0 hs hhi hlo hD hQ hQ2 hy
  go_enter Try.func23, Try.ntmps23
  go_wp2_with fail
  go_fit (prod_raw' _ _ HA.out HB.out _)
  rintro e w1 ⟨rfl, hb1⟩
  have B1 := Lib.hid hb1
  clear hb1
  rw [HS.out, HHI.out, HLO.out]
  go_wp2_with fail
  go_fit (Size_any _ HD.out _)
  rintro e w2 ⟨rfl, rfl⟩
  rw [HDD.out]
  go_upto_region 5 with fail
  go_cut [10] (fun s10 wx => s10 = .pointer (some ⟨w1.heap.size + 1, 0, none⟩) ∧ Duo w w1.heap.size (w1.heap.size + 1) s t hi lo 0 0 wx)
  case first =>
    have D0 := fun t' => Lib.hid (Duo.new B1.out s t' hi lo 83)
    have hd1 := HT.out
    have HT2 := Lib.hid hd1
    clear hd1
    cases s
    · by_cases c : d < 0
      · have u1 : decide (d < 0) = true := by simpa using c
        by_cases k1 : hi = 0
        · by_cases k2 : lo = 0
          · subst k1 k2
            have ht := Lib.hid (show t = false by rw [HT2.out]; simp)
            go_wp2_with fail
            go_meet
            exact ⟨rfl, by rw [ht.out]; exact (D0 false).out⟩
          · subst k1
            have u2 : ((lo : Int) != 0) = true := by rw [bne_iff_ne]; omega
            have ht := Lib.hid (show t = true by rw [HT2.out, u1]; simp [k2])
            clear k2
            go_wp2_with fail
            go_meet
            exact ⟨rfl, by rw [ht.out]; exact (D0 true).out⟩
        · have u2 : ((hi : Int) != 0) = true := by rw [bne_iff_ne]; omega
          have ht := Lib.hid (show t = true by rw [HT2.out, u1]; simp [k1])
          clear k1
          go_wp2_with fail
          go_meet
          exact ⟨rfl, by rw [ht.out]; exact (D0 true).out⟩
      · have u1 : decide (d < 0) = false := by simpa using c
        have ht := Lib.hid (show t = false by rw [HT2.out, u1]; simp)
        go_wp2_with fail
        go_meet
        exact ⟨rfl, by rw [ht.out]; exact (D0 false).out⟩
    · by_cases c : d < 0
      · have u1 : decide (d < 0) = true := by simpa using c
        have ht := Lib.hid (show t = false by rw [HT2.out, u1]; simp)
        go_wp2_with fail
        go_meet
        exact ⟨rfl, by rw [ht.out]; exact (D0 false).out⟩
      · have u1 : decide (d < 0) = false := by simpa using c
        by_cases k1 : hi = 0
        · by_cases k2 : lo = 0
          · subst k1 k2
            have ht := Lib.hid (show t = false by rw [HT2.out]; simp)
            go_wp2_with fail
            go_meet
            exact ⟨rfl, by rw [ht.out]; exact (D0 false).out⟩
          · subst k1
            have u2 : ((lo : Int) != 0) = true := by rw [bne_iff_ne]; omega
            have ht := Lib.hid (show t = true by rw [HT2.out, u1]; simp [k2])
            clear k2
            go_wp2_with fail
            go_meet
            exact ⟨rfl, by rw [ht.out]; exact (D0 true).out⟩
        · have u2 : ((hi : Int) != 0) = true := by rw [bne_iff_ne]; omega
          have ht := Lib.hid (show t = true by rw [HT2.out, u1]; simp [k1])
          clear k1
          go_wp2_with fail
          go_meet
          exact ⟨rfl, by rw [ht.out]; exact (D0 true).out⟩
  case rest =>
    obtain ⟨rfl, hD⟩ := hcut
    have DD := Lib.hid hD
    clear hD
    have hst := long_start (hi * 18446744073709551616 + lo) D hi lo rfl hNb.out.1 hNb.out.2 hD0.out.1
    obtain ⟨N, hN⟩ : ∃ N, N = hi * 18446744073709551616 + lo := ⟨_, rfl⟩
    rw [← hN] at hst
    have HN := Lib.hid hN
    have HST := Lib.hid hst
    clear hN hst
    go_wp2_with fail
    go_loopw [11, 12, 13] (fun s11 s12 _ wr => ∃ i A rest wh wl qh ql : Nat, i ≤ 128 ∧ Long N D i A rest wh wl qh ql ∧ s11 = .int .u64 rest ∧ s12 = .int .i64 i ∧ Duo w w1.heap.size (w1.heap.size + 1) s t wh wl qh ql wr) (fun _ s12 _ _ => 128 - (RowKit.intOf s12).toNat)
    case atStart => exact ⟨0, 0, 0, hi, lo, 0, 0, by omega, HST.out, rfl, rfl, DD.out⟩
    case round =>
      obtain ⟨i, A, rest, wh, wl, qh, ql, hi128, hL, rfl, rfl, hDuo⟩ := hrel
      have HDuo := Lib.hid hDuo
      clear DD HST hDuo
      by_cases hlt : i < 128
      · obtain ⟨b1, b2, b3, b4, b5⟩ := long_bound hL hlt hD0.out.2
        obtain ⟨st1, st2⟩ := long_step hL hlt hD0.out.2
        have ST1 := Lib.hid st1; have ST2 := Lib.hid st2
        obtain ⟨h0, h1, h2, h3, h4, h5, f1, f2, f3, f4, hB, hBC, hC, hbel⟩ := HDuo.out
        have i1 : (0 : Int) ≤ rest ∧ (rest : Int) < 9223372036854775808 := by omega
        have i2 : (0 : Int) ≤ wh ∧ (wh : Int) < 18446744073709551616 := by omega
        have i3 : (0 : Int) ≤ wl ∧ (wl : Int) < 18446744073709551616 := by omega
        have i4 : (0 : Int) ≤ qh ∧ (qh : Int) < 9223372036854775808 := by omega
        have i5 : (0 : Int) ≤ ql ∧ (ql : Int) < 18446744073709551616 := by omega
        have i6 : (0 : Int) ≤ i ∧ (i : Int) < 128 := by omega
        have i7 : (0 : Int) < D ∧ (D : Int) ≤ 9223372036854775808 := by have := hD0.out; omega
        have u1 : decide ((9223372036854775808 : Int) ≤ (rest : Int)) = false := by simp; omega
        clear st1 st2 hL b1 b2 b3 b4 b5 hlt hi128 hbel hB hBC hC
        by_cases hc : (D : Int) ≤ (rest : Int) * 2 + (wh : Int) / 9223372036854775808
        · have u2 : decide ((D : Int) ≤ (rest : Int) * 2 + (wh : Int) / 9223372036854775808) = true := by simpa using hc
          go_wp2_with fail
          refine ⟨⟨i + 1, _, _, _, _, _, _, by omega, ST2.out (by omega), by congr 1 <;> omega, by go_num, ?_⟩, by simp [RowKit.intOf] <;> omega⟩
          rw [w_hi, w_q1, w_lo, w_lo, w_q]
          exact ((((HDuo.out.setWh _).setWl _).setQh _).setQl _).setQl _
        · have u2 : decide ((D : Int) ≤ (rest : Int) * 2 + (wh : Int) / 9223372036854775808) = false := by simpa using hc
          go_wp2_with fail
          refine ⟨⟨i + 1, _, _, _, _, _, _, by omega, ST1.out (by omega), by congr 1 <;> omega, by go_num, ?_⟩, by simp [RowKit.intOf] <;> omega⟩
          rw [w_hi, w_lo, w_lo, w_q]
          exact (((HDuo.out.setWh _).setWl _).setQh _).setQl _
      · obtain rfl : i = 128 := by omega
        obtain ⟨q1, q2⟩ := long_end hL
        have hqh : (qh : Int) < 9223372036854775808 := by
          have := hL.hA2; have h1 := hL.hA; have h2 := hL.hN; have h3 := hNb.out; have h4 := hD0.out; have h5 := HHIB.out; have h6 := HN.out
          have h7 : (qh * 18446744073709551616 + ql) ≤ N := by rw [q1]; exact Nat.div_le_self _ _
          omega
        have hql := hL.hql
        have Q1 := Lib.hid q1; have Q2 := Lib.hid q2; have HQL := Lib.hid hql
        have hqh0 : (0 : Int) ≤ qh := by omega
        clear q1 q2 hL hlt hi128 hql
        obtain ⟨h0, h1, h2, h3, h4, h5, f1, f2, f3, f4, hB, hBC, hC, hbel⟩ := HDuo.out
        have HBel := Lib.hid hbel
        clear hbel h0 h1 h2 f1 f2
        by_cases ct : t = true ∧ rest ≠ 0
        · obtain ⟨rfl, hr⟩ := ct
          have u1 : ((rest : Int) != 0) = true := by rw [bne_iff_ne]; omega
          have YY := Lib.hid (show y = sval true (qh * 18446744073709551616 + ql + 1) by rw [HYY.out, ← HN.out, if_pos ⟨rfl, by rw [← Q2.out]; exact hr⟩, Q1.out])
          clear hr
          by_cases cc : ql = 18446744073709551615
          · have ev := Lib.hid (show IntKind.u64.wrap ((ql : Int) + 1) = 0 by rw [cc]; decide)
            have u2 : (IntKind.u64.wrap ((ql : Int) + 1) == 0) = true := by rw [ev.out]; decide
            have YY2 := Lib.hid (show y = sval true ((qh + 1) * 18446744073709551616 + 0) by rw [YY.out, cc, carry_up])
            clear cc YY
            go_wp2_with fail
            rw [ev.out]
            by_cases cy : In64 y
            · have cy2 := cy
              rw [YY2.out] at cy2
              have CY := Lib.hid cy
              clear cy
              go_fit (narrow_yes true (qh + 1) 0 (by omega) cy2 _)
              rintro e w5 ⟨rfl, hb5⟩
              go_wp2_with fail
              go_ret2
              exact ⟨ret2_ie (by rw [(HQ.out CY.out).1, YY2.out]; exact congrArg (sval true) (Nat.add_zero _).symm) (by rw [(HQ.out CY.out).2]), ((HBel.out.setCell (p := ⟨w1.heap.size + 1, 2, none⟩) (show w.heap.size ≤ w1.heap.size + 1 by omega) _).setCell (p := ⟨w1.heap.size + 1, 1, none⟩) (show w.heap.size ≤ w1.heap.size + 1 by omega) _).trans (hb5.mono (by first | (simp [World.setCell]; omega) | omega))⟩
            · have cy2 := cy
              rw [YY2.out] at cy2
              have CY := Lib.hid cy
              clear cy
              go_fit (narrow_no true (qh + 1) 0 (by omega) cy2 _)
              rintro e w5 ⟨rfl, hb5⟩
              go_wp2_with fail
              go_ret2
              exact ⟨ret2_ie (by rw [(HQ2.out CY.out).1]) (by rw [(HQ2.out CY.out).2]), ((HBel.out.setCell (p := ⟨w1.heap.size + 1, 2, none⟩) (show w.heap.size ≤ w1.heap.size + 1 by omega) _).setCell (p := ⟨w1.heap.size + 1, 1, none⟩) (show w.heap.size ≤ w1.heap.size + 1 by omega) _).trans (hb5.mono (by first | (simp [World.setCell]; omega) | omega))⟩
          · have hne : ql + 1 < 18446744073709551616 := by have := HQL.out; omega
            have ev := Lib.hid (show IntKind.u64.wrap ((ql : Int) + 1) = ((ql + 1 : Nat) : Int) by rw [IntKind.wrap_u64]; omega)
            have u2 : (IntKind.u64.wrap ((ql : Int) + 1) == 0) = false := by rw [ev.out, beq_eq_false_iff_ne]; omega
            have YY2 := Lib.hid (show y = sval true (qh * 18446744073709551616 + (ql + 1)) by rw [YY.out, Nat.add_assoc])
            have HNE := Lib.hid hne
            clear cc YY hne
            go_wp2_with fail
            rw [ev.out]
            by_cases cy : In64 y
            · have cy2 := cy
              rw [YY2.out] at cy2
              have CY := Lib.hid cy
              clear cy
              go_fit (narrow_yes true qh (ql + 1) HNE.out cy2 _)
              rintro e w5 ⟨rfl, hb5⟩
              go_wp2_with fail
              go_ret2
              exact ⟨ret2_ie (by rw [(HQ.out CY.out).1, YY2.out]) (by rw [(HQ.out CY.out).2]), (HBel.out.setCell (p := ⟨w1.heap.size + 1, 2, none⟩) (show w.heap.size ≤ w1.heap.size + 1 by omega) _).trans (hb5.mono (by first | (simp [World.setCell]; omega) | omega))⟩
            · have cy2 := cy
              rw [YY2.out] at cy2
              have CY := Lib.hid cy
              clear cy
              go_fit (narrow_no true qh (ql + 1) HNE.out cy2 _)
              rintro e w5 ⟨rfl, hb5⟩
              go_wp2_with fail
              go_ret2
              exact ⟨ret2_ie (by rw [(HQ2.out CY.out).1]) (by rw [(HQ2.out CY.out).2]), (HBel.out.setCell (p := ⟨w1.heap.size + 1, 2, none⟩) (show w.heap.size ≤ w1.heap.size + 1 by omega) _).trans (hb5.mono (by first | (simp [World.setCell]; omega) | omega))⟩
        · have YY := Lib.hid (show y = sval t (qh * 18446744073709551616 + ql) by rw [HYY.out, ← HN.out, if_neg (by rw [← Q2.out]; exact ct), Q1.out])
          cases t
          · clear ct
            go_wp2_with fail
            by_cases cy : In64 y
            · have cy2 := cy
              rw [YY.out] at cy2
              have CY := Lib.hid cy
              clear cy
              go_fit (narrow_yes false qh ql HQL.out cy2 _)
              rintro e w5 ⟨rfl, hb5⟩
              go_wp2_with fail
              go_ret2
              exact ⟨ret2_ie (by rw [(HQ.out CY.out).1, YY.out]) (by rw [(HQ.out CY.out).2]), HBel.out.trans (hb5.mono (by first | (simp [World.setCell]; omega) | omega))⟩
            · have cy2 := cy
              rw [YY.out] at cy2
              have CY := Lib.hid cy
              clear cy
              go_fit (narrow_no false qh ql HQL.out cy2 _)
              rintro e w5 ⟨rfl, hb5⟩
              go_wp2_with fail
              go_ret2
              exact ⟨ret2_ie (by rw [(HQ2.out CY.out).1]) (by rw [(HQ2.out CY.out).2]), HBel.out.trans (hb5.mono (by first | (simp [World.setCell]; omega) | omega))⟩
          · have hr : rest = 0 := by
              by_cases hr : rest = 0
              · exact hr
              · exact absurd ⟨rfl, hr⟩ ct
            have u1 : ((rest : Int) != 0) = false := by rw [hr]; decide
            clear ct hr
            go_wp2_with fail
            by_cases cy : In64 y
            · have cy2 := cy
              rw [YY.out] at cy2
              have CY := Lib.hid cy
              clear cy
              go_fit (narrow_yes true qh ql HQL.out cy2 _)
              rintro e w5 ⟨rfl, hb5⟩
              go_wp2_with fail
              go_ret2
              exact ⟨ret2_ie (by rw [(HQ.out CY.out).1, YY.out]) (by rw [(HQ.out CY.out).2]), HBel.out.trans (hb5.mono (by first | (simp [World.setCell]; omega) | omega))⟩
            · have cy2 := cy
              rw [YY.out] at cy2
              have CY := Lib.hid cy
              clear cy
              go_fit (narrow_no true qh ql HQL.out cy2 _)
              rintro e w5 ⟨rfl, hb5⟩
              go_wp2_with fail
              go_ret2
              exact ⟨ret2_ie (by rw [(HQ2.out CY.out).1]) (by rw [(HQ2.out CY.out).2]), HBel.out.trans (hb5.mono (by first | (simp [World.setCell]; omega) | omega))⟩

/-- The document's Scale, for every three integers. -/
theorem refScale_any (n m d : Int) (hn : I64 n) (hm : I64 m) (hd : I64 d) (w : World) :
    Calls Try.prog 23 #[.int .i64 n, .int .i64 m, .int .i64 d] w fun e w' => e = .returned (.tuple #[.int .i64 (scQ n m d), .int .i64 (scE n m d)]) ∧ Below w.heap.size w w' := by
  by_cases h0 : d = 0
  · subst h0
    rw [show scQ n m 0 = 0 from if_pos rfl, show scE n m 0 = 2 from if_pos rfl]
    exact (refScale_zero n m w).mono fun e w' ⟨he, hw⟩ => ⟨he, hw ▸ Below.refl _ _⟩
  · obtain ⟨y, hy, hyv⟩ := scale_value n m d h0
    refine refScale_raw n m d hn hm hd h0 _ _ rfl _ _ _ rfl rfl rfl rfl _ _ y hyv (fun h => ?_) (fun h => ?_) w
    · unfold scQ scE flQ flE
      rw [if_neg h0, if_neg h0, ← hy]
      exact ⟨if_pos h, if_pos h⟩
    · unfold scQ scE flQ flE
      rw [if_neg h0, if_neg h0, ← hy]
      exact ⟨if_neg h, if_neg h⟩
end Go.Proofs.Ythggcagbanndgaa
