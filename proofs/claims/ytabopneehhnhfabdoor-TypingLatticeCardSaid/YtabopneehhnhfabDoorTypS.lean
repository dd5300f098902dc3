/- Contract of the document's Same, of types that lie as chains. -/
import Derived.Test.YtabopneehhnhfabDoorTypR
import Derived.Deep.RegionHeld3
namespace Go.Proofs.YtabopneehhnhfabDoor
open Go.RowKit Go.Lib

theorem same_kd {a b : Tc} (h : a.kd ≠ b.kd) : sameC a b = false := by
  cases a with
  | leaf k =>
    cases b with
    | leaf j => show (k == j) = false; rw [beq_eq_false_iff_ne]; exact h
    | node j t => rfl
  | node k s =>
    cases b with
    | leaf j => rfl
    | node j t =>
      show (k == j && sameC s t) = false
      have h' : ¬ k = j := h
      rw [beq_eq_false_iff_ne.2 h', Bool.false_and]
theorem same_ln {a b : Tc} (h : a.ln ≠ b.ln) : sameC a b = false := by
  cases a with
  | leaf k =>
    cases b with
    | leaf j => exact absurd rfl h
    | node j t => rfl
  | node k s =>
    cases b with
    | leaf j => rfl
    | node j t => exact absurd rfl h

/-- What Same's region holds: two boxes of types and their element types. -/
def S6 (n ba oa ca bb ob cb : Nat) (x0 x1 y0 y1 : Value) (w' : World) : Prop :=
  w'.cell? ⟨n, 1, none⟩ = some (.slice (some ⟨ba, oa, none⟩) 1 ca) ∧ w'.cell? ⟨n + 1, 1, none⟩ = some (.slice (some ⟨bb, ob, none⟩) 1 cb) ∧ w'.cell? ⟨ba, oa, none⟩ = some x0 ∧ w'.cell? ⟨ba, oa + 1, none⟩ = some x1 ∧ w'.cell? ⟨bb, ob, none⟩ = some y0 ∧ w'.cell? ⟨bb, ob + 1, none⟩ = some y1
theorem S6.below {n ba oa ca bb ob cb : Nat} {x0 x1 y0 y1 : Value} {w1 w2 : World} (h : S6 n ba oa ca bb ob cb x0 x1 y0 y1 w1) (hb : Below w1.heap.size w1 w2) : S6 n ba oa ca bb ob cb x0 x1 y0 y1 w2 := by
  obtain ⟨a1, a2, a3, a4, a5, a6⟩ := h
  have z1 := World.block_lt_of_cell? w1 _ a1
  have z2 := World.block_lt_of_cell? w1 _ a2
  have z3 := World.block_lt_of_cell? w1 _ a3
  have z5 := World.block_lt_of_cell? w1 _ a5
  exact ⟨(hb.cell (p := ⟨_, _, none⟩) z1).trans a1, (hb.cell (p := ⟨_, _, none⟩) z2).trans a2, (hb.cell (p := ⟨_, _, none⟩) z3).trans a3, (hb.cell (p := ⟨ba, oa + 1, none⟩) z3).trans a4, (hb.cell (p := ⟨_, _, none⟩) z5).trans a5, (hb.cell (p := ⟨bb, ob + 1, none⟩) z5).trans a6⟩

set_option maxHeartbeats 2000000 in
set_option maxRecDepth 100000 in
theorem sameT_any : ∀ (a b : Tc) (A B : Value) (w : World), IsC w A a → IsC w B b →
    Calls Tryd.prog 15 #[A, B] w fun e w' => e = .returned (.bool (sameC a b)) ∧ Below w.heap.size w w' := by
  intro a
  have diff : ∀ (a b : Tc) (A B : Value) (w : World), IsC w A a → IsC w B b → (a.kd ≠ b.kd ∨ a.ln ≠ b.ln) →
      Calls Tryd.prog 15 #[A, B] w fun e w' => e = .returned (.bool (sameC a b)) ∧ Below w.heap.size w w' := by
    intro a b A B w hA hB hne
    obtain ⟨av, ca, rfl, hTA⟩ := hA
    obtain ⟨bv, cb, rfl, hTB⟩ := hB
    by_cases h1 : a.kd = b.kd
    · have h2 : a.ln ≠ b.ln := by rcases hne with h | h; exact absurd h1 h; exact h
      have E := Lib.hid (same_ln h2)
      have e2 : ((a.ln : Int) != (b.ln : Int)) = true := by
        have : ((a.ln : Int) == (b.ln : Int)) = false := by rw [beq_eq_false_iff_ne]; omega
        unfold bne
        rw [this]
        rfl
      have e1 : (a.kd != b.kd) = false := by rw [h1]; simp
      clear hne h1 h2 hTA hTB
      generalize a.kd = ka at *
      generalize b.kd = kb at *
      generalize a.ln = na at *
      generalize b.ln = nb at *
      go_enter Tryd.func15, Tryd.ntmps15
      go_wp2_with fail
      go_ret
      exact ⟨by rw [E.out]; rfl, (by repeat (first | exact Below.refl _ _ | refine Below.setCell ?_ (by simp <;> omega) _ | refine Below.alloc ?_ (by simp <;> omega) _))⟩
    · have E := Lib.hid (same_kd h1)
      have e1 : (a.kd != b.kd) = true := by simpa using h1
      clear hne h1 hTA hTB
      generalize a.kd = ka at *
      generalize b.kd = kb at *
      generalize a.ln = na at *
      generalize b.ln = nb at *
      go_enter Tryd.func15, Tryd.ntmps15
      go_wp2_with fail
      go_ret
      exact ⟨by rw [E.out]; rfl, (by repeat (first | exact Below.refl _ _ | refine Below.setCell ?_ (by simp <;> omega) _ | refine Below.alloc ?_ (by simp <;> omega) _))⟩
  induction a with
  | leaf k =>
    intro b A B w hA hB
    by_cases h1 : k ≠ b.kd ∨ 0 ≠ b.ln
    · exact diff (.leaf k) b A B w hA hB h1
    · obtain ⟨j, rfl⟩ : ∃ j, b = .leaf j := by
        cases b with
        | leaf j => exact ⟨j, rfl⟩
        | node j t => exact absurd (Or.inr (show 0 ≠ 1 by decide)) h1
      obtain ⟨av, ca, rfl, hTA⟩ := hA
      obtain ⟨bv, cb, rfl, hTB⟩ := hB
      have hj : k = j := by
        apply Classical.byContradiction
        exact fun h => h1 (.inl h)
      clear h1 hTA hTB
      subst hj
      have E := Lib.hid (show sameC (.leaf k) (.leaf k) = true from sameC_rfl _)
      clear diff
      show Calls Tryd.prog 15 #[.agg #[.int .i64 k, .slice av 0 ca], .agg #[.int .i64 k, .slice bv 0 cb]] w _
      have TA := (TwoAt.new w 24 (.int .i64 k) (.slice av 0 ca)).alloc (.cells #[.int .i64 k, .slice bv 0 cb] 24)
      have B0 : Below w.heap.size w ((w.alloc (.cells #[.int .i64 k, .slice av 0 ca] 24)).alloc (.cells #[.int .i64 k, .slice bv 0 cb] 24)) := (by repeat (first | exact Below.refl _ _ | refine Below.setCell ?_ (by simp <;> omega) _ | refine Below.alloc ?_ (by simp <;> omega) _))
      go_enter Tryd.func15, Tryd.ntmps15
      go_wp2_with fail
      obtain ⟨W0, hW0⟩ : ∃ W0, W0 = (w.alloc (.cells #[.int .i64 k, .slice av 0 ca] 24)).alloc (.cells #[.int .i64 k, .slice bv 0 cb] 24) := ⟨_, rfl⟩
      rw [← hW0] at TA B0 ⊢
      have c1 := TA.cell1
      have B0 := Lib.hid B0
      clear hW0 TA
      go_loopw [5] (fun s5 wr => s5 = .int .i64 0 ∧ wr = W0) (fun s5 _ => 0)
      case atStart => exact ⟨rfl, rfl⟩
      case round =>
        obtain ⟨rfl, rfl⟩ := hrel
        go_wp2_with fail
        go_ret
        exact ⟨by rw [E.out]; rfl, B0.out⟩
  | node k s ih =>
    intro b A B w hA hB
    by_cases h1 : k ≠ b.kd ∨ 1 ≠ b.ln
    · exact diff (.node k s) b A B w hA hB h1
    · obtain ⟨j, t, rfl⟩ : ∃ j t, b = .node j t := by
        cases b with
        | leaf j => exact absurd (Or.inr (show 1 ≠ 0 by decide)) h1
        | node j t => exact ⟨j, t, rfl⟩
      have hj : k = j := by
        apply Classical.byContradiction
        exact fun h => h1 (.inl h)
      subst hj
      have E := Lib.hid (show sameC (.node k s) (.node k t) = sameC s t by show (k == k && sameC s t) = _; simp)
      obtain ⟨av, ca, rfl, ba, oa, xa, ya, rfl, za, p0, p1, hTA⟩ := hA
      obtain ⟨bv, cb, rfl, bb, ob, xb, yb, rfl, zb, q0, q1, hTB⟩ := hB
      have IH := Lib.hid (fun w' (h : Below w.heap.size w w') => ih t (.agg #[.int .i64 s.kd, .slice xa s.ln ya]) (.agg #[.int .i64 t.kd, .slice xb t.ln yb]) w' ⟨xa, ya, rfl, TailC.below h s xa hTA⟩ ⟨xb, yb, rfl, TailC.below h t xb hTB⟩)
      clear h1 hTA hTB ih diff
      generalize sameC s t = r at IH E
      generalize s.kd = ks at *
      generalize s.ln = ns at *
      generalize t.kd = kt at *
      generalize t.ln = nt at *
      show Calls Tryd.prog 15 #[.agg #[.int .i64 k, .slice (some ⟨ba, oa, none⟩) 1 ca], .agg #[.int .i64 k, .slice (some ⟨bb, ob, none⟩) 1 cb]] w _
      have TA := (TwoAt.new w 24 (.int .i64 k) (.slice (some ⟨ba, oa, none⟩) 1 ca)).alloc (.cells #[.int .i64 k, .slice (some ⟨bb, ob, none⟩) 1 cb] 24)
      have TB := TwoAt.new (w.alloc (.cells #[.int .i64 k, .slice (some ⟨ba, oa, none⟩) 1 ca] 24)) 24 (.int .i64 k) (.slice (some ⟨bb, ob, none⟩) 1 cb)
      have B0 : Below w.heap.size w ((w.alloc (.cells #[.int .i64 k, .slice (some ⟨ba, oa, none⟩) 1 ca] 24)).alloc (.cells #[.int .i64 k, .slice (some ⟨bb, ob, none⟩) 1 cb] 24)) := (by repeat (first | exact Below.refl _ _ | refine Below.setCell ?_ (by simp <;> omega) _ | refine Below.alloc ?_ (by simp <;> omega) _))
      simp only [World.size_alloc] at TB
      go_enter Tryd.func15, Tryd.ntmps15
      go_wp2_with fail
      obtain ⟨W0, hW0⟩ : ∃ W0, W0 = (w.alloc (.cells #[.int .i64 k, .slice (some ⟨ba, oa, none⟩) 1 ca] 24)).alloc (.cells #[.int .i64 k, .slice (some ⟨bb, ob, none⟩) 1 cb] 24) := ⟨_, rfl⟩
      rw [← hW0] at TA TB B0 ⊢
      have TA := Lib.hid TA
      have TB := Lib.hid TB
      have B0 := Lib.hid B0
      clear hW0
      go_loopw [5] (fun s5 wr => ∃ i : Nat, i ≤ 1 ∧ s5 = .int .i64 (i : Int) ∧ Hid (i = 1 → r = true) ∧ Hid (TwoAt wr w.heap.size 24 (.int .i64 k) (.slice (some ⟨ba, oa, none⟩) 1 ca)) ∧ Hid (TwoAt wr (w.heap.size + 1) 24 (.int .i64 k) (.slice (some ⟨bb, ob, none⟩) 1 cb)) ∧ Hid (Below w.heap.size w wr)) (fun s5 _ => 2 - (RowKit.intOf s5).toNat)
      case atStart => exact ⟨0, by omega, rfl, Lib.hid (fun h => by cases h), TA, TB, B0⟩
      case round =>
        obtain ⟨i, hi, rfl, HR, TA, TB, HB⟩ := hrel
        have c1 := TA.out.cell1
        have d1 := TB.out.cell1
        rcases (show i = 0 ∨ i = 1 by omega) with rfl | rfl
        · have r0 := (HB.out.cell (p := ⟨ba, _, none⟩) za).trans p0
          have r1 := (HB.out.cell (p := ⟨ba, _, none⟩) za).trans p1
          have s0 := (HB.out.cell (p := ⟨bb, _, none⟩) zb).trans q0
          have s1 := (HB.out.cell (p := ⟨bb, _, none⟩) zb).trans q1
          have hs0 : S6 w.heap.size ba oa ca bb ob cb (.int .i64 ks) (.slice xa ns ya) (.int .i64 kt) (.slice xb nt yb) wr.drew := ⟨c1, d1, r0, r1, s0, s1⟩
          clear p0 p1 q0 q1
          go_wp2_with fail
          go_region_held3 (fun w' => w'.cell? ⟨w.heap.size, 1, none⟩ = some (.slice (some ⟨ba, oa, none⟩) 1 ca) ∧ w'.cell? ⟨w.heap.size + 1, 1, none⟩ = some (.slice (some ⟨bb, ob, none⟩) 1 cb) ∧ w'.cell? ⟨ba, oa, none⟩ = some (.int .i64 ks) ∧ w'.cell? ⟨ba, oa + 1, none⟩ = some (.slice xa ns ya) ∧ w'.cell? ⟨bb, ob, none⟩ = some (.int .i64 kt) ∧ w'.cell? ⟨bb, ob + 1, none⟩ = some (.slice xb nt yb)) (first | exact hs0 | exact S6.below (by assumption) (by assumption)) (first | (go_at_call 15; go_fit (IH.out _ HB.out.drew); rintro e w2 ⟨rfl, hb2⟩))
          have TA2 := Lib.hid (TA.out.drew.below hb2)
          have TB2 := Lib.hid (TB.out.drew.below hb2)
          have B2 := Lib.hid (HB.out.drew.trans (hb2.mono HB.out.drew.size))
          clear hb2
          cases r
          · go_wp2_with fail
            go_ret
            exact ⟨by rw [E.out]; rfl, B2.out⟩
          · go_wp2_with fail
            exact ⟨⟨1, by omega, rfl, Lib.hid (fun _ => by first | rfl | trivial), TA2, TB2, B2⟩, by simp [RowKit.intOf]⟩
        · have HR1 := Lib.hid (HR.out rfl)
          clear p0 p1 q0 q1
          go_wp2_with fail
          go_ret
          exact ⟨by rw [E.out, HR1.out]; rfl, HB.out⟩
end Go.Proofs.YtabopneehhnhfabDoor
