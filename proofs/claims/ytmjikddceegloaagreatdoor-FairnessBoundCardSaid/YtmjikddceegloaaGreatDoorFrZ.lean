/- The document's Less and before over shares (fairness). -/
import Derived.Test.YtmjikddceegloaaGreatDoorFrY
import Derived.Test.YtmjikddceegloaaGreatDoorRefC
namespace Go.Proofs.YtmjikddceegloaaGreatDoor
open Go.RowKit Go.Lib Go.Sort
set_option linter.unusedSimpArgs false

set_option maxHeartbeats 1000000 in
theorem refLessS_any (a b : Sha) (ha : NumS a) (hb : NumS b) (w : World) :
    Calls Tryz.prog 22 #[shV a, shV b] w fun e w' => e = .returned (.bool (lessR a b)) ∧ Below w.heap.size w w' := by
  have S := fun w => refLess_any a.srv b.wgt b.srv a.wgt ha.2 hb.1 hb.2 ha.1 w
  have HL := Lib.hid (show lessR a b = decide (a.srv * b.wgt < b.srv * a.wgt) from rfl)
  rw [← HL.out] at S
  unfold shV
  obtain ⟨pa, ga, va⟩ := a
  obtain ⟨pb, gb, vb⟩ := b
  dsimp only at S ⊢
  generalize (⟨pa.toArray⟩ : ByteArray) = sa at *
  generalize (⟨pb.toArray⟩ : ByteArray) = sb at *
  have HB := Lib.hid (((Below.refl w.heap.size w).alloc (Nat.le_refl _) (.cells #[.string sa, .int .i64 ga, .int .i64 va] 41)).alloc (by simp) (.cells #[.string sb, .int .i64 gb, .int .i64 vb] 41))
  have T0 := (ThH.new w (.string sa) (.int .i64 ga) (.int .i64 va)).alloc (.cells #[.string sb, .int .i64 gb, .int .i64 vb] 41)
  have T1 := ThH.new (w.alloc (.cells #[.string sa, .int .i64 ga, .int .i64 va] 41)) (.string sb) (.int .i64 gb) (.int .i64 vb)
  rw [World.size_alloc] at T1
  obtain ⟨t0, t1, t2⟩ := T0.facts
  obtain ⟨u0, u1, u2⟩ := T1.facts
  generalize lessR _ _ = r at *
  have S := Lib.hid S
  clear ha hb HL T0 T1
  go_enter Tryz.func22, Tryz.ntmps22
  go_wp2_with fail
  go_fit (S.out _)
  rintro e w2 ⟨rfl, hb⟩
  have HB2 := Lib.hid (HB.out.trans (hb.mono HB.out.size))
  clear hb
  go_wp2_with fail
  go_ret
  exact ⟨rfl, HB2.out⟩

theorem befC_less (a b : Sha) : decide (befC a b < 0) = (lessR a b || (!lessR b a && decide (cmpL a.prj b.prj < 0))) := by
  have h := bef_neg a b
  unfold RLe at h
  unfold lessR
  by_cases h1 : a.srv * b.wgt < b.srv * a.wgt
  · have : befC a b < 0 := h.2 (.inl (by omega))
    simp [h1, this]
  · by_cases h2 : b.srv * a.wgt < a.srv * b.wgt
    · have : ¬ befC a b < 0 := fun hh => by rcases h.1 hh with h' | ⟨h', _⟩ <;> omega
      simp [h1, h2]
      omega
    · by_cases h3 : cmpL a.prj b.prj < 0
      · have : befC a b < 0 := h.2 (.inr ⟨by omega, by omega, h3⟩)
        simp [h1, h2, h3, this]
      · have : ¬ befC a b < 0 := fun hh => by rcases h.1 hh with h' | ⟨_, _, h'⟩ <;> omega
        simp [h1, h2, h3]
        omega
set_option maxRecDepth 100000 in
set_option maxHeartbeats 4000000 in
theorem before_any (a b : Sha) (ha : NumS a) (hb : NumS b) (la : a.prj.length ≤ 1000000) (lb : b.prj.length ≤ 1000000) (w : World) :
    Calls Tryz.prog 40 #[shV a, shV b] w fun e w' => e = .returned (.bool (decide (befC a b < 0))) ∧ Below w.heap.size w w' := by
  have S := fun w => refLessS_any a b ha hb w
  have R := fun w => refLessS_any b a hb ha w
  have HL := befC_less a b
  have C := fun w => refCompare_any ⟨a.prj.toArray⟩ ⟨b.prj.toArray⟩ (by show a.prj.toArray.size ≤ _; simp; omega) (by show b.prj.toArray.size ≤ _; simp; omega) w
  rw [show (⟨a.prj.toArray⟩ : ByteArray).data.toList = a.prj from rfl, show (⟨b.prj.toArray⟩ : ByteArray).data.toList = b.prj from rfl] at C
  unfold shV at S R ⊢
  rw [HL]
  generalize lessR a b = r1 at *
  generalize lessR b a = r2 at *
  generalize cmpL a.prj b.prj = cv at *
  clear HL ha hb la lb
  obtain ⟨pa, ga, va⟩ := a
  obtain ⟨pb, gb, vb⟩ := b
  dsimp only at S R C ⊢
  generalize (⟨pa.toArray⟩ : ByteArray) = sa at *
  generalize (⟨pb.toArray⟩ : ByteArray) = sb at *
  have HB := Lib.hid (((Below.refl w.heap.size w).alloc (Nat.le_refl _) (.cells #[.string sa, .int .i64 ga, .int .i64 va] 41)).alloc (by simp) (.cells #[.string sb, .int .i64 gb, .int .i64 vb] 41))
  have T0 := (ThH.new w (.string sa) (.int .i64 ga) (.int .i64 va)).alloc (.cells #[.string sb, .int .i64 gb, .int .i64 vb] 41)
  have T1 := ThH.new (w.alloc (.cells #[.string sa, .int .i64 ga, .int .i64 va] 41)) (.string sb) (.int .i64 gb) (.int .i64 vb)
  rw [World.size_alloc] at T1
  have S := Lib.hid S
  have R := Lib.hid R
  have C := Lib.hid C
  have T0 := Lib.hid T0
  have T1 := Lib.hid T1
  obtain ⟨t0, t1, t2⟩ := T0.out.facts
  obtain ⟨u0, u1, u2⟩ := T1.out.facts
  cases r1
  · go_enter Tryz.func40, Tryz.ntmps40
    go_wp2_with fail
    go_fit (S.out _)
    rintro e w2 ⟨rfl, hb⟩
    have HB2 := Lib.hid (HB.out.trans (hb.mono HB.out.size))
    have X0 := Lib.hid (T0.out.below hb)
    have X1 := Lib.hid (T1.out.below hb)
    clear hb t0 t1 t2 u0 u1 u2
    obtain ⟨t0, t1, t2⟩ := X0.out.facts
    obtain ⟨u0, u1, u2⟩ := X1.out.facts
    go_wp2_with fail
    go_fit (R.out _)
    rintro e w3 ⟨rfl, hb⟩
    have HB3 := Lib.hid (HB2.out.trans (hb.mono HB2.out.size))
    have Y0 := X0.out.below hb
    have Y1 := X1.out.below hb
    clear hb t0 t1 t2 u0 u1 u2
    obtain ⟨t0, t1, t2⟩ := Y0.facts
    obtain ⟨u0, u1, u2⟩ := Y1.facts
    clear Y0 Y1
    cases r2
    · go_wp2_with fail
      go_fit (C.out _)
      rintro e w4 ⟨rfl, n, rfl⟩
      have HB4 := Lib.hid (below_drewN HB3.out n)
      go_wp2_with fail
      go_ret
      exact ⟨rfl, HB4.out⟩
    · go_wp2_with fail
      go_ret
      exact ⟨rfl, HB3.out⟩
  · go_enter Tryz.func40, Tryz.ntmps40
    go_wp2_with fail
    go_fit (S.out _)
    rintro e w2 ⟨rfl, hb⟩
    have HB2 := Lib.hid (HB.out.trans (hb.mono HB.out.size))
    clear hb
    go_wp2_with fail
    go_ret
    exact ⟨rfl, HB2.out⟩
end Go.Proofs.YtmjikddceegloaaGreatDoor
