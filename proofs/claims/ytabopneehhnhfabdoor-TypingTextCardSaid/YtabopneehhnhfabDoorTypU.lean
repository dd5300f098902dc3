/- Contracts of the document's good, contained, join, meet (pipelineref08). -/
import Derived.Test.YtabopneehhnhfabDoorTypR
import Derived.Test.YtabopneehhnhfabDoorTypS
import Derived.Test.YtabopneehhnhfabDoorTypI
import Derived.Deep.QuietTactic
import Derived.BigQuiet
namespace Go.Proofs.YtabopneehhnhfabDoor
open Go.RowKit Go.Lib

theorem rGood_any (mA mB : Nat) (A B : Value) (x y : Ty) (w : World) (hA : IsT mA w A x) (hB : IsT mB w B y) :
    Calls Tryd.prog 42 #[A, B] w fun e w' => e = .returned (.bool (okB x && okB y)) ∧ Below w.heap.size w w' := by
  have X1 := Lib.hid (fun w (h : IsT mA w A x) => refValidT_any mA A x w h)
  have X2 := Lib.hid (fun w (h : IsT mB w B y) => refValidT_any mB B y w h)
  have HA := Lib.hid hA
  have HB := Lib.hid hB
  obtain ⟨k, l, av, c, rfl, rfl, _, _, _⟩ := hA
  obtain ⟨k2, l2, av2, c2, rfl, rfl, _, _, _⟩ := hB
  have E := Lib.hid (show (okB (.mk k l) && okB (.mk k2 l2)) = (((chkT 16 (.mk k l) : Nat) : Int) == 0 && ((chkT 16 (.mk k2 l2) : Nat) : Int) == 0) by unfold okB; rw [nat_zero0, nat_zero0])
  generalize chkT 16 (.mk k l) = p at X1 E
  generalize chkT 16 (.mk k2 l2) = q at X2 E
  cases hp : ((p : Int) == 0)
  · rw [hp, Bool.false_and] at E
    go_enter Tryd.func42, Tryd.ntmps42
    go_wp2_with fail
    go_fit (X1.out _ (HA.out.below (by repeat (first | exact Below.refl _ _ | refine Below.setCell ?_ (by simp <;> omega) _ | refine Below.alloc ?_ (by simp <;> omega) _))))
    rintro e w1 ⟨rfl, hb1⟩
    have B1 := Lib.hid (Below.trans (show Below w.heap.size w _ from (by repeat (first | exact Below.refl _ _ | refine Below.setCell ?_ (by simp <;> omega) _ | refine Below.alloc ?_ (by simp <;> omega) _))) (hb1.mono (by simp <;> omega)))
    clear hb1
    go_wp2_with fail
    go_ret
    exact ⟨by rw [E.out]; rfl, B1.out⟩
  · rw [hp, Bool.true_and] at E
    obtain ⟨r, hr⟩ : ∃ r, r = ((q : Int) == 0) := ⟨_, rfl⟩
    rw [← hr] at E
    have hr2 := hr.symm
    clear hr
    go_enter Tryd.func42, Tryd.ntmps42
    go_wp2_with fail
    go_fit (X1.out _ (HA.out.below (by repeat (first | exact Below.refl _ _ | refine Below.setCell ?_ (by simp <;> omega) _ | refine Below.alloc ?_ (by simp <;> omega) _))))
    rintro e w1 ⟨rfl, hb1⟩
    have B1 := Lib.hid (Below.trans (show Below w.heap.size w _ from (by repeat (first | exact Below.refl _ _ | refine Below.setCell ?_ (by simp <;> omega) _ | refine Below.alloc ?_ (by simp <;> omega) _))) (hb1.mono (by simp <;> omega)))
    have TB := (TwoAt.new _ 24 (.int .i64 k2) (.slice av2 l2.length c2)).below hb1
    simp only [World.size_alloc] at TB
    have d0 := TB.cell0
    have d1 := TB.cell1
    clear hb1
    go_wp2_with fail
    go_fit (X2.out _ (HB.out.below B1.out))
    rintro e w2 ⟨rfl, hb2⟩
    have B2 := Lib.hid (B1.out.trans (hb2.mono B1.out.size))
    clear hb2
    go_wp2_with fail
    go_ret
    exact ⟨by rw [E.out]; rfl, B2.out⟩


theorem leaf_no {k : Int} (h : leafK k) : nodeB k = false := by
  unfold leafK at h
  rcases h with rfl | rfl | rfl | rfl | rfl | rfl <;> rfl
theorem flat_leaf {k : Int} (h : leafK k) (j : Int) : (k == j && nodeB k) = false := by rw [leaf_no h, Bool.and_false]
theorem flat_ne {k j : Int} (h : k ≠ j) : (k == j && nodeB k) = false := by rw [beq_false_of_ne h, Bool.false_and]
/-- Two boxes of types and their element types. -/
def S7 (n ba oa ca bb ob cb : Nat) (k : Int) (x0 x1 y0 y1 : Value) (w' : World) : Prop :=
  w'.cell? ⟨n, 0, none⟩ = some (.int .i64 k) ∧ w'.cell? ⟨n, 1, none⟩ = some (.slice (some ⟨ba, oa, none⟩) 1 ca) ∧ w'.cell? ⟨n + 1, 1, none⟩ = some (.slice (some ⟨bb, ob, none⟩) 1 cb) ∧ w'.cell? ⟨ba, oa, none⟩ = some x0 ∧ w'.cell? ⟨ba, oa + 1, none⟩ = some x1 ∧ w'.cell? ⟨bb, ob, none⟩ = some y0 ∧ w'.cell? ⟨bb, ob + 1, none⟩ = some y1
theorem S7.below {n ba oa ca bb ob cb : Nat} {k : Int} {x0 x1 y0 y1 : Value} {w1 w2 : World} (h : S7 n ba oa ca bb ob cb k x0 x1 y0 y1 w1) (hb : Below w1.heap.size w1 w2) : S7 n ba oa ca bb ob cb k x0 x1 y0 y1 w2 := by
  obtain ⟨a0, a1, a2, a3, a4, a5, a6⟩ := h
  have z1 := World.block_lt_of_cell? w1 _ a1
  have z2 := World.block_lt_of_cell? w1 _ a2
  have z3 := World.block_lt_of_cell? w1 _ a3
  have z5 := World.block_lt_of_cell? w1 _ a5
  exact ⟨(hb.cell (p := ⟨n, 0, none⟩) z1).trans a0, (hb.cell (p := ⟨_, _, none⟩) z1).trans a1, (hb.cell (p := ⟨_, _, none⟩) z2).trans a2, (hb.cell (p := ⟨_, _, none⟩) z3).trans a3, (hb.cell (p := ⟨ba, oa + 1, none⟩) z3).trans a4, (hb.cell (p := ⟨_, _, none⟩) z5).trans a5, (hb.cell (p := ⟨bb, ob + 1, none⟩) z5).trans a6⟩

set_option maxHeartbeats 4000000 in
theorem rContained_flat (a b : Tc) (A B : Value) (w : World) (ha : a.ok) (hb : b.ok) (hA : IsC w A a) (hB : IsC w B b) (hq : (a.kd == b.kd && nodeB a.kd) = false) :
    Calls Tryd.prog 40 #[A, B] w fun e w' => e = .returned (.bool (subC a b)) ∧ Below w.heap.size w w' := by
  have E := Lib.hid (sub_exit ha hb hq)
  obtain ⟨av, ca, rfl, _⟩ := hA
  obtain ⟨bv, cb, rfl, _⟩ := hB
  have Y := Lib.hid (fun w => rHolds_any a.kd w)
  clear ha hb
  generalize subC a b = r at *
  generalize a.kd = ka at *
  generalize b.kd = kb at *
  generalize a.ln = na at *
  generalize b.ln = nb at *
  cases he : (ka == kb)
  · have hne : (ka != kb) = true := by simp [bne, he]
    rw [he, Bool.or_false] at E
    clear Y hq
    cases h7 : (ka == 7) <;> cases h0 : (kb == 0)
    all_goals
      rw [h7, h0] at E
      go_enter Tryd.func40, Tryd.ntmps40
      go_wp2_with fail
      go_ret
      exact ⟨by rw [E.out]; rfl, (by repeat (first | exact Below.refl _ _ | refine Below.setCell ?_ (by simp <;> omega) _ | refine Below.alloc ?_ (by simp <;> omega) _))⟩
  · have hne : (ka != kb) = false := by simp [bne, he]
    rw [he, Bool.true_and] at hq
    rw [hq] at Y
    rw [he, Bool.or_true] at E
    clear hq
    cases h70 : (ka == 7 || kb == 0)
    · rw [Bool.or_eq_false_iff] at h70
      obtain ⟨h7, h0⟩ := h70
      go_enter Tryd.func40, Tryd.ntmps40
      go_wp2_with fail
      have YQ := Lib.hid (fun w => (Y.out w).mono (R' := fun e w' => e = .returned (.bool false) ∧ w' = w) (fun _ _ h => ⟨h.1, h.2.symm⟩))
      go_quiet ((go_at_call 53; exact Calls.quiet_of_same (YQ.out _)))
      go_wp2_with fail
      go_ret
      exact ⟨by rw [E.out]; rfl, below_drewN (by repeat (first | exact Below.refl _ _ | refine Below.setCell ?_ (by simp <;> omega) _ | refine Below.alloc ?_ (by simp <;> omega) _)) _⟩
    · cases h7 : (ka == 7) <;> cases h0 : (kb == 0)
      · rw [h7, h0] at h70; cases h70
      all_goals
        go_enter Tryd.func40, Tryd.ntmps40
        go_wp2_with fail
        go_ret
        exact ⟨by rw [E.out]; rfl, (by repeat (first | exact Below.refl _ _ | refine Below.setCell ?_ (by simp <;> omega) _ | refine Below.alloc ?_ (by simp <;> omega) _))⟩

set_option maxHeartbeats 4000000 in
theorem rContained_any : ∀ (a b : Tc) (A B : Value) (w : World), a.ok → b.ok → IsC w A a → IsC w B b →
    Calls Tryd.prog 40 #[A, B] w fun e w' => e = .returned (.bool (subC a b)) ∧ Below w.heap.size w w' := by
  intro a
  induction a with
  | leaf k => exact fun b A B w ha hb hA hB => rContained_flat (.leaf k) b A B w ha hb hA hB (flat_leaf ha b.kd)
  | node k s ih =>
    intro b A B w ha hb hA hB
    cases b with
    | leaf j => exact rContained_flat (.node k s) (.leaf j) A B w ha hb hA hB (flat_ne (fun e => leaf_node hb ha.1 e.symm))
    | node j t =>
      by_cases hj : k = j
      · subst hj
        have E := Lib.hid (show subC (.node k s) (.node k t) = subC s t from sub_same)
        have Y := Lib.hid (fun w => rHolds_any k w)
        rw [node_yes' ha.1] at Y
        obtain ⟨av, ca, rfl, ba, oa, xa, ya, rfl, za, p0, p1, hTA⟩ := hA
        obtain ⟨bv, cb, rfl, bb, ob, xb, yb, rfl, zb, q0, q1, hTB⟩ := hB
        have hk : k = 5 ∨ k = 6 := ha.1
        have IH := Lib.hid (fun w' (h : Below w.heap.size w w') => ih t (.agg #[.int .i64 s.kd, .slice xa s.ln ya]) (.agg #[.int .i64 t.kd, .slice xb t.ln yb]) w' ha.2 hb.2 ⟨xa, ya, rfl, TailC.below h s xa hTA⟩ ⟨xb, yb, rfl, TailC.below h t xb hTB⟩)
        have h7 : (k == 7) = false := by rw [beq_eq_false_iff_ne]; omega
        have h0 : (k == 0) = false := by rw [beq_eq_false_iff_ne]; omega
        have hne : (k != k) = false := by simp
        clear hTA hTB ih ha hb hk
        generalize subC s t = r at IH E
        generalize s.kd = ks at *
        generalize s.ln = ns at *
        generalize t.kd = kt at *
        generalize t.ln = nt at *
        show Calls Tryd.prog 40 #[.agg #[.int .i64 k, .slice (some ⟨ba, oa, none⟩) 1 ca], .agg #[.int .i64 k, .slice (some ⟨bb, ob, none⟩) 1 cb]] w _
        have TA := (TwoAt.new w 24 (.int .i64 k) (.slice (some ⟨ba, oa, none⟩) 1 ca)).alloc (.cells #[.int .i64 k, .slice (some ⟨bb, ob, none⟩) 1 cb] 24)
        have TB := TwoAt.new (w.alloc (.cells #[.int .i64 k, .slice (some ⟨ba, oa, none⟩) 1 ca] 24)) 24 (.int .i64 k) (.slice (some ⟨bb, ob, none⟩) 1 cb)
        have B0 : Below w.heap.size w ((w.alloc (.cells #[.int .i64 k, .slice (some ⟨ba, oa, none⟩) 1 ca] 24)).alloc (.cells #[.int .i64 k, .slice (some ⟨bb, ob, none⟩) 1 cb] 24)) := (by repeat (first | exact Below.refl _ _ | refine Below.setCell ?_ (by simp <;> omega) _ | refine Below.alloc ?_ (by simp <;> omega) _))
        simp only [World.size_alloc] at TB
        go_enter Tryd.func40, Tryd.ntmps40
        go_wp2_with fail
        obtain ⟨W0, hW0⟩ : ∃ W0, W0 = (w.alloc (.cells #[.int .i64 k, .slice (some ⟨ba, oa, none⟩) 1 ca] 24)).alloc (.cells #[.int .i64 k, .slice (some ⟨bb, ob, none⟩) 1 cb] 24) := ⟨_, rfl⟩
        rw [← hW0] at TA TB B0 ⊢
        have B0 := Lib.hid B0
        have hs0 : S7 w.heap.size ba oa ca bb ob cb k (.int .i64 ks) (.slice xa ns ya) (.int .i64 kt) (.slice xb nt yb) W0.drew := S7.below ⟨TA.cell0, TA.cell1, TB.cell1, (B0.out.cell (p := ⟨ba, _, none⟩) za).trans p0, (B0.out.cell (p := ⟨ba, _, none⟩) za).trans p1, (B0.out.cell (p := ⟨bb, _, none⟩) zb).trans q0, (B0.out.cell (p := ⟨bb, _, none⟩) zb).trans q1⟩ (Below.refl _ _).drew
        clear hW0 TA TB p0 p1 q0 q1
        go_region_held3 (fun w' => w'.cell? ⟨w.heap.size, 0, none⟩ = some (.int .i64 k) ∧ w'.cell? ⟨w.heap.size, 1, none⟩ = some (.slice (some ⟨ba, oa, none⟩) 1 ca) ∧ w'.cell? ⟨w.heap.size + 1, 1, none⟩ = some (.slice (some ⟨bb, ob, none⟩) 1 cb) ∧ w'.cell? ⟨ba, oa, none⟩ = some (.int .i64 ks) ∧ w'.cell? ⟨ba, oa + 1, none⟩ = some (.slice xa ns ya) ∧ w'.cell? ⟨bb, ob, none⟩ = some (.int .i64 kt) ∧ w'.cell? ⟨bb, ob + 1, none⟩ = some (.slice xb nt yb)) (first | exact hs0 | exact S7.below (by assumption) (by assumption)) (first
          | (go_at_call 53; go_fit (Y.out _); rintro e w1 ⟨rfl, rfl⟩)
          | (go_at_call 40; go_fit (IH.out _ B0.out.drew); rintro e w2 ⟨rfl, hb2⟩))
        have B2 := B0.out.drew.trans (hb2.mono B0.out.drew.size)
        go_wp2_with fail
        go_ret
        exact ⟨by rw [E.out]; rfl, B2⟩
      · exact rContained_flat (.node k s) (.node j t) A B w ha hb hA hB (flat_ne hj)

set_option maxHeartbeats 4000000 in
theorem rjoin_flat (a b : Tc) (A B : Value) (w : World) (P : Nat → Prop) (ha : a.ok) (hb : b.ok) (hA : IsP P w A a) (hB : IsP P w B b) (hq : (a.kd == b.kd && nodeB a.kd) = false) :
    Calls Tryd.prog 45 #[A, B] w fun e w' => ∃ V, e = .returned V ∧ IsP (fun b => P b ∨ w.heap.size ≤ b) w' V (bndC 7 0 a b) ∧ Below w.heap.size w w' := by
  have HA := Lib.hid hA
  have HB := Lib.hid hB
  obtain ⟨av, ca, rfl, _⟩ := hA
  obtain ⟨bv, cb, rfl, _⟩ := hB
  have Y := Lib.hid (fun w => rHolds_any a.kd w)
  have Z := Lib.hid (fun w => rPlain_any 0 w)
  by_cases h1 : a.kd = 7
  · have E := Lib.hid (bnd_u pair70 ha h1 (b := b))
    have h1b : (a.kd == 7) = true := by simp [h1]
    clear h1 ha hb hq
    generalize bndC 7 0 a b = r at *
    generalize a.kd = ka at *
    generalize b.kd = kb at *
    generalize a.ln = na at *
    generalize b.ln = nb at *
    go_enter Tryd.func45, Tryd.ntmps45
    go_wp2_with fail
    exact bodyPost_ret (v := .agg #[.int .i64 kb, .slice bv nb cb]) (by simp [results, Tryd.f45, go_sem]) rfl ⟨_, rfl, by rw [E.out]; exact HB.out.below (fun _ h => .inl h) (by repeat (first | exact Below.refl _ _ | refine Below.setCell ?_ (by simp <;> omega) _ | refine Below.alloc ?_ (by simp <;> omega) _)), (by repeat (first | exact Below.refl _ _ | refine Below.setCell ?_ (by simp <;> omega) _ | refine Below.alloc ?_ (by simp <;> omega) _))⟩
  · have h1b : (a.kd == 7) = false := by simp [h1]
    by_cases h2 : b.kd = 7
    · have E := Lib.hid (bnd_v pair70 hb h2 (a := a))
      have h2b : (b.kd == 7) = true := by simp [h2]
      clear h1 h2 ha hb hq
      generalize bndC 7 0 a b = r at *
      generalize a.kd = ka at *
      generalize b.kd = kb at *
      generalize a.ln = na at *
      generalize b.ln = nb at *
      go_enter Tryd.func45, Tryd.ntmps45
      go_wp2_with fail
      exact bodyPost_ret (v := .agg #[.int .i64 ka, .slice av na ca]) (by simp [results, Tryd.f45, go_sem]) rfl ⟨_, rfl, by rw [E.out]; exact HA.out.below (fun _ h => .inl h) (by repeat (first | exact Below.refl _ _ | refine Below.setCell ?_ (by simp <;> omega) _ | refine Below.alloc ?_ (by simp <;> omega) _)), (by repeat (first | exact Below.refl _ _ | refine Below.setCell ?_ (by simp <;> omega) _ | refine Below.alloc ?_ (by simp <;> omega) _))⟩
    · have h2b : (b.kd == 7) = false := by simp [h2]
      by_cases h3 : a.kd = b.kd
      · have hn : nodeB a.kd = false := by rw [beq_iff_eq.2 h3, Bool.true_and] at hq; exact hq
        have E := Lib.hid (bnd_leaf (u := 7) (x := 0) ha hb h3 hn)
        rw [hn] at Y
        have h3b : (a.kd != b.kd) = false := by simp [h3]
        clear h1 h2 h3 ha hb hq hn
        generalize bndC 7 0 a b = r at *
        generalize a.kd = ka at *
        generalize b.kd = kb at *
        generalize a.ln = na at *
        generalize b.ln = nb at *
        go_enter Tryd.func45, Tryd.ntmps45
        go_wp2_with fail
        go_fit (Y.out _)
        rintro e w1 ⟨rfl, rfl⟩
        go_wp2_with fail
        exact bodyPost_ret (v := .agg #[.int .i64 ka, .slice av na ca]) (by simp [results, Tryd.f45, go_sem]) rfl ⟨_, rfl, by rw [E.out]; exact HA.out.below (fun _ h => .inl h) (by repeat (first | exact Below.refl _ _ | refine Below.setCell ?_ (by simp <;> omega) _ | refine Below.alloc ?_ (by simp <;> omega) _)), (by repeat (first | exact Below.refl _ _ | refine Below.setCell ?_ (by simp <;> omega) _ | refine Below.alloc ?_ (by simp <;> omega) _))⟩
      · have E := Lib.hid (bnd_ne (u := 7) (x := 0) h1 h2 h3)
        have h3b : (a.kd != b.kd) = true := by simp [h3]
        clear h1 h2 h3 ha hb hq Y
        generalize bndC 7 0 a b = r at *
        generalize a.kd = ka at *
        generalize b.kd = kb at *
        generalize a.ln = na at *
        generalize b.ln = nb at *
        go_enter Tryd.func45, Tryd.ntmps45
        go_wp2_with fail
        go_fit (Z.out _)
        rintro e w1 ⟨rfl, hb1⟩
        have TR := (TwoAt.new _ 24 (.int .i64 0) (.slice none 0 0)).below hb1
        have B1 := Lib.hid (Below.trans (show Below w.heap.size w _ from (by repeat (first | exact Below.refl _ _ | refine Below.setCell ?_ (by simp <;> omega) _ | refine Below.alloc ?_ (by simp <;> omega) _))) (hb1.mono (by simp <;> omega)))
        simp only [World.size_alloc] at TR
        have t0 := TR.cell0
        have t1 := TR.cell1
        have tf0 := TR.frozen 0
        have tf1 := TR.frozen 1
        clear hb1
        go_wp2_with fail
        have TR2 := (TR.set0 (.int .i64 0)).set1 (.slice none 0 0)
        have u0 := TR2.cell0
        have u1 := TR2.cell1
        exact bodyPost_ret (v := .agg #[.int .i64 0, .slice none 0 0]) (by simp [results, Tryd.f45, go_sem, u0, u1]) rfl ⟨_, rfl, by rw [E.out]; exact ⟨none, 0, rfl, trivial⟩, (B1.out.setCell (by simp <;> omega) _).setCell (by simp <;> omega) _⟩

set_option maxHeartbeats 4000000 in
theorem rjoin_any : ∀ (a b : Tc) (A B : Value) (w : World) (P : Nat → Prop), (∀ b, P b → b < w.heap.size) → a.ok → b.ok → IsP P w A a → IsP P w B b →
    Calls Tryd.prog 45 #[A, B] w fun e w' => ∃ V, e = .returned V ∧ IsP (fun b => P b ∨ w.heap.size ≤ b) w' V (bndC 7 0 a b) ∧ Below w.heap.size w w' := by
  intro a
  induction a with
  | leaf k => exact fun b A B w P _ ha hb hA hB => rjoin_flat (.leaf k) b A B w P ha hb hA hB (flat_leaf ha b.kd)
  | node k s ih =>
    intro b A B w P hP ha hb hA hB
    by_cases hx : k = b.kd
    · have hk : nodeB k = true := by
        have ha' : k = 5 ∨ k = 6 := ha.1
        simp [nodeB]
        omega
      obtain ⟨t, ht, hto⟩ := node_form hb (by rw [← hx]; exact hk)
      rw [← hx] at ht
      subst ht
      have HIH := Lib.hid ih
      have E := Lib.hid (show bndC 7 0 (.node k s) (.node k t) = .node k (bndC 7 0 s t) by rw [bnd_nn, if_pos rfl])
      have hso := ha.2
      have hk2 : k = 5 ∨ k = 6 := ha.1
      have hu : (k == 7) = false := by rw [beq_eq_false_iff_ne]; omega
      clear hk2
      have Y := Lib.hid (fun w => rHolds_any k w)
      rw [hk] at Y
      have hne : (k != k) = false := by simp
      have Z := Lib.hid (fun a v n c w => rWith_any k a v n c w)
      obtain ⟨av, ca, rfl, ba, oa, xa, ya, rfl, pa, za, p0, p1, hTA2⟩ := hA
      obtain ⟨bv, cb, rfl, bb, ob, xb, yb, rfl, pb, zb, q0, q1, hTB2⟩ := hB
      have HTA := Lib.hid hTA2
      have HPP := Lib.hid hP
      clear hP
      have HTB := Lib.hid hTB2
      clear hTA2 hTB2 hx ha hb ih hk
      show Calls Tryd.prog 45 #[.agg #[.int .i64 k, .slice (some ⟨ba, oa, none⟩) 1 ca], .agg #[.int .i64 k, .slice (some ⟨bb, ob, none⟩) 1 cb]] w _
      go_enter Tryd.func45, Tryd.ntmps45
      go_wp2_with fail
      go_fit (Y.out _)
      rintro e w1 ⟨rfl, rfl⟩
      go_wp2_with fail
      have TA := ((TwoAt.new w 24 (.int .i64 k) (.slice (some ⟨ba, oa, none⟩) 1 ca)).alloc (.cells #[.int .i64 k, .slice (some ⟨bb, ob, none⟩) 1 cb] 24)).alloc (.cells #[.int .i64 0, .slice none 0 0] 24)
      have TB := (TwoAt.new (w.alloc (.cells #[.int .i64 k, .slice (some ⟨ba, oa, none⟩) 1 ca] 24)) 24 (.int .i64 k) (.slice (some ⟨bb, ob, none⟩) 1 cb)).alloc (.cells #[.int .i64 0, .slice none 0 0] 24)
      have TR := TwoAt.new ((w.alloc (.cells #[.int .i64 k, .slice (some ⟨ba, oa, none⟩) 1 ca] 24)).alloc (.cells #[.int .i64 k, .slice (some ⟨bb, ob, none⟩) 1 cb] 24)) 24 (.int .i64 0) (.slice none 0 0)
      have B0 : Below w.heap.size w (((w.alloc (.cells #[.int .i64 k, .slice (some ⟨ba, oa, none⟩) 1 ca] 24)).alloc (.cells #[.int .i64 k, .slice (some ⟨bb, ob, none⟩) 1 cb] 24)).alloc (.cells #[.int .i64 0, .slice none 0 0] 24)) := by
        repeat (first | exact Below.refl _ _ | refine Below.alloc ?_ (by simp <;> omega) _)
      obtain ⟨W0, hW0⟩ : ∃ W0, W0 = ((w.alloc (.cells #[.int .i64 k, .slice (some ⟨ba, oa, none⟩) 1 ca] 24)).alloc (.cells #[.int .i64 k, .slice (some ⟨bb, ob, none⟩) 1 cb] 24)).alloc (.cells #[.int .i64 0, .slice none 0 0] 24) := ⟨_, rfl⟩
      rw [← hW0] at TA TB TR B0 ⊢
      simp only [World.size_alloc] at TB TR
      clear hW0
      have hs0 : S8 w k ba oa ca bb ob cb (.int .i64 s.kd) (.slice xa s.ln ya) (.int .i64 t.kd) (.slice xb t.ln yb) W0 := ⟨TA.cell0, TA.cell1, TB.cell1, (B0.cell (p := ⟨ba, _, none⟩) za).trans p0, (B0.cell (p := ⟨ba, _, none⟩) za).trans p1, (B0.cell (p := ⟨bb, _, none⟩) zb).trans q0, (B0.cell (p := ⟨bb, _, none⟩) zb).trans q1, B0, _, _, TR⟩
      have IH := Lib.hid (fun w' (h : S8 w k ba oa ca bb ob cb (.int .i64 s.kd) (.slice xa s.ln ya) (.int .i64 t.kd) (.slice xb t.ln yb) w') => HIH.out t (.agg #[.int .i64 s.kd, .slice xa s.ln ya]) (.agg #[.int .i64 t.kd, .slice xb t.ln yb]) w' P (fun b hb => Nat.lt_of_lt_of_le (HPP.out b hb) h.2.2.2.2.2.2.2.1.size) hso hto ⟨xa, ya, rfl, TailP.kept (fun _ h => h) (fun b _ hlt => h.2.2.2.2.2.2.2.1.block b hlt) s xa HTA.out⟩ ⟨xb, yb, rfl, TailP.kept (fun _ h => h) (fun b _ hlt => h.2.2.2.2.2.2.2.1.block b hlt) t xb HTB.out⟩)
      clear B0 p0 p1 q0 q1 TA TB TR HIH Y
      go_region_held3 (fun w' => w'.cell? ⟨w.heap.size, 0, none⟩ = some (.int .i64 k) ∧ w'.cell? ⟨w.heap.size, 1, none⟩ = some (.slice (some ⟨ba, oa, none⟩) 1 ca) ∧ w'.cell? ⟨w.heap.size + 1, 1, none⟩ = some (.slice (some ⟨bb, ob, none⟩) 1 cb) ∧ w'.cell? ⟨ba, oa, none⟩ = some (.int .i64 s.kd) ∧ w'.cell? ⟨ba, oa + 1, none⟩ = some (.slice xa s.ln ya) ∧ w'.cell? ⟨bb, ob, none⟩ = some (.int .i64 t.kd) ∧ w'.cell? ⟨bb, ob + 1, none⟩ = some (.slice xb t.ln yb) ∧ Below w.heap.size w w' ∧ (∃ x y, TwoAt w' (w.heap.size + 1 + 1) 24 x y)) (first | exact S8.drew hs0 | exact S8.below za zb (by assumption) (by assumption) | exact S8.set2 za zb _ _ (by assumption)) (first
        | (go_at_call 45; go_fit (IH.out _ (by assumption)); rintro e w2 ⟨V, rfl, ⟨av2, cx2, rfl, hT2⟩, hb2⟩)
        | (go_at_call 33; go_fit (Z.out _ _ _ _ _); rintro e w3 ⟨g, rfl, hg, hc0, hc1, hb3⟩; obtain ⟨_, _, TR3⟩ := two_of (S8.tw (w := w) (k := k) (ba := ba) (oa := oa) (ca := ca) (bb := bb) (ob := ob) (cb := cb) (x0 := .int .i64 s.kd) (x1 := .slice xa s.ln ya) (y0 := .int .i64 t.kd) (y1 := .slice xb t.ln yb) (by assumption)) hb3; have k0 := TR3.cell0; have k1 := TR3.cell1; have kf0 := TR3.frozen 0; have kf1 := TR3.frozen 1))
      go_wp2_with fail
      have TR4 := (TR3.set0 (.int .i64 k)).set1 (.slice (some ⟨g, 0, none⟩) 1 1)
      have u0 := TR4.cell0
      have u1 := TR4.cell1
      have hend := bound_end (k := k) HPP.out hs0.drew.2.2.2.2.2.2.2.1 (by have := hs0.drew.tw; obtain ⟨_, _, h⟩ := this; exact h.lt) hb2 hT2 hg hc0 hc1 hb3 (.int .i64 k) (.slice (some ⟨g, 0, none⟩) 1 1)
      clear hb2 hT2 hg hc0 hc1 hb3 IH Z
      exact bodyPost_ret (v := .agg #[.int .i64 k, .slice (some ⟨g, 0, none⟩) 1 1]) (by simp [results, Tryd.f45, go_sem, u0, u1]) rfl ⟨_, rfl, by rw [E.out]; exact hend.1, hend.2⟩
    · exact rjoin_flat (.node k s) b A B w P ha hb hA hB (flat_ne hx)

set_option maxHeartbeats 4000000 in
theorem rmeet_flat (a b : Tc) (A B : Value) (w : World) (P : Nat → Prop) (ha : a.ok) (hb : b.ok) (hA : IsP P w A a) (hB : IsP P w B b) (hq : (a.kd == b.kd && nodeB a.kd) = false) :
    Calls Tryd.prog 47 #[A, B] w fun e w' => ∃ V, e = .returned V ∧ IsP (fun b => P b ∨ w.heap.size ≤ b) w' V (bndC 0 7 a b) ∧ Below w.heap.size w w' := by
  have HA := Lib.hid hA
  have HB := Lib.hid hB
  obtain ⟨av, ca, rfl, _⟩ := hA
  obtain ⟨bv, cb, rfl, _⟩ := hB
  have Y := Lib.hid (fun w => rHolds_any a.kd w)
  have Z := Lib.hid (fun w => rPlain_any 7 w)
  by_cases h1 : a.kd = 0
  · have E := Lib.hid (bnd_u pair07 ha h1 (b := b))
    have h1b : (a.kd == 0) = true := by simp [h1]
    clear h1 ha hb hq
    generalize bndC 0 7 a b = r at *
    generalize a.kd = ka at *
    generalize b.kd = kb at *
    generalize a.ln = na at *
    generalize b.ln = nb at *
    go_enter Tryd.func47, Tryd.ntmps47
    go_wp2_with fail
    exact bodyPost_ret (v := .agg #[.int .i64 kb, .slice bv nb cb]) (by simp [results, Tryd.f47, go_sem]) rfl ⟨_, rfl, by rw [E.out]; exact HB.out.below (fun _ h => .inl h) (by repeat (first | exact Below.refl _ _ | refine Below.setCell ?_ (by simp <;> omega) _ | refine Below.alloc ?_ (by simp <;> omega) _)), (by repeat (first | exact Below.refl _ _ | refine Below.setCell ?_ (by simp <;> omega) _ | refine Below.alloc ?_ (by simp <;> omega) _))⟩
  · have h1b : (a.kd == 0) = false := by simp [h1]
    by_cases h2 : b.kd = 0
    · have E := Lib.hid (bnd_v pair07 hb h2 (a := a))
      have h2b : (b.kd == 0) = true := by simp [h2]
      clear h1 h2 ha hb hq
      generalize bndC 0 7 a b = r at *
      generalize a.kd = ka at *
      generalize b.kd = kb at *
      generalize a.ln = na at *
      generalize b.ln = nb at *
      go_enter Tryd.func47, Tryd.ntmps47
      go_wp2_with fail
      exact bodyPost_ret (v := .agg #[.int .i64 ka, .slice av na ca]) (by simp [results, Tryd.f47, go_sem]) rfl ⟨_, rfl, by rw [E.out]; exact HA.out.below (fun _ h => .inl h) (by repeat (first | exact Below.refl _ _ | refine Below.setCell ?_ (by simp <;> omega) _ | refine Below.alloc ?_ (by simp <;> omega) _)), (by repeat (first | exact Below.refl _ _ | refine Below.setCell ?_ (by simp <;> omega) _ | refine Below.alloc ?_ (by simp <;> omega) _))⟩
    · have h2b : (b.kd == 0) = false := by simp [h2]
      by_cases h3 : a.kd = b.kd
      · have hn : nodeB a.kd = false := by rw [beq_iff_eq.2 h3, Bool.true_and] at hq; exact hq
        have E := Lib.hid (bnd_leaf (u := 0) (x := 7) ha hb h3 hn)
        rw [hn] at Y
        have h3b : (a.kd != b.kd) = false := by simp [h3]
        clear h1 h2 h3 ha hb hq hn
        generalize bndC 0 7 a b = r at *
        generalize a.kd = ka at *
        generalize b.kd = kb at *
        generalize a.ln = na at *
        generalize b.ln = nb at *
        go_enter Tryd.func47, Tryd.ntmps47
        go_wp2_with fail
        go_fit (Y.out _)
        rintro e w1 ⟨rfl, rfl⟩
        go_wp2_with fail
        exact bodyPost_ret (v := .agg #[.int .i64 ka, .slice av na ca]) (by simp [results, Tryd.f47, go_sem]) rfl ⟨_, rfl, by rw [E.out]; exact HA.out.below (fun _ h => .inl h) (by repeat (first | exact Below.refl _ _ | refine Below.setCell ?_ (by simp <;> omega) _ | refine Below.alloc ?_ (by simp <;> omega) _)), (by repeat (first | exact Below.refl _ _ | refine Below.setCell ?_ (by simp <;> omega) _ | refine Below.alloc ?_ (by simp <;> omega) _))⟩
      · have E := Lib.hid (bnd_ne (u := 0) (x := 7) h1 h2 h3)
        have h3b : (a.kd != b.kd) = true := by simp [h3]
        clear h1 h2 h3 ha hb hq Y
        generalize bndC 0 7 a b = r at *
        generalize a.kd = ka at *
        generalize b.kd = kb at *
        generalize a.ln = na at *
        generalize b.ln = nb at *
        go_enter Tryd.func47, Tryd.ntmps47
        go_wp2_with fail
        go_fit (Z.out _)
        rintro e w1 ⟨rfl, hb1⟩
        have TR := (TwoAt.new _ 24 (.int .i64 0) (.slice none 0 0)).below hb1
        have B1 := Lib.hid (Below.trans (show Below w.heap.size w _ from (by repeat (first | exact Below.refl _ _ | refine Below.setCell ?_ (by simp <;> omega) _ | refine Below.alloc ?_ (by simp <;> omega) _))) (hb1.mono (by simp <;> omega)))
        simp only [World.size_alloc] at TR
        have t0 := TR.cell0
        have t1 := TR.cell1
        have tf0 := TR.frozen 0
        have tf1 := TR.frozen 1
        clear hb1
        go_wp2_with fail
        have TR2 := (TR.set0 (.int .i64 7)).set1 (.slice none 0 0)
        have u0 := TR2.cell0
        have u1 := TR2.cell1
        exact bodyPost_ret (v := .agg #[.int .i64 7, .slice none 0 0]) (by simp [results, Tryd.f47, go_sem, u0, u1]) rfl ⟨_, rfl, by rw [E.out]; exact ⟨none, 0, rfl, trivial⟩, (B1.out.setCell (by simp <;> omega) _).setCell (by simp <;> omega) _⟩

set_option maxHeartbeats 4000000 in
theorem rmeet_any : ∀ (a b : Tc) (A B : Value) (w : World) (P : Nat → Prop), (∀ b, P b → b < w.heap.size) → a.ok → b.ok → IsP P w A a → IsP P w B b →
    Calls Tryd.prog 47 #[A, B] w fun e w' => ∃ V, e = .returned V ∧ IsP (fun b => P b ∨ w.heap.size ≤ b) w' V (bndC 0 7 a b) ∧ Below w.heap.size w w' := by
  intro a
  induction a with
  | leaf k => exact fun b A B w P _ ha hb hA hB => rmeet_flat (.leaf k) b A B w P ha hb hA hB (flat_leaf ha b.kd)
  | node k s ih =>
    intro b A B w P hP ha hb hA hB
    by_cases hx : k = b.kd
    · have hk : nodeB k = true := by
        have ha' : k = 5 ∨ k = 6 := ha.1
        simp [nodeB]
        omega
      obtain ⟨t, ht, hto⟩ := node_form hb (by rw [← hx]; exact hk)
      rw [← hx] at ht
      subst ht
      have HIH := Lib.hid ih
      have E := Lib.hid (show bndC 0 7 (.node k s) (.node k t) = .node k (bndC 0 7 s t) by rw [bnd_nn, if_pos rfl])
      have hso := ha.2
      have hk2 : k = 5 ∨ k = 6 := ha.1
      have hu : (k == 0) = false := by rw [beq_eq_false_iff_ne]; omega
      clear hk2
      have Y := Lib.hid (fun w => rHolds_any k w)
      rw [hk] at Y
      have hne : (k != k) = false := by simp
      have Z := Lib.hid (fun a v n c w => rWith_any k a v n c w)
      obtain ⟨av, ca, rfl, ba, oa, xa, ya, rfl, pa, za, p0, p1, hTA2⟩ := hA
      obtain ⟨bv, cb, rfl, bb, ob, xb, yb, rfl, pb, zb, q0, q1, hTB2⟩ := hB
      have HTA := Lib.hid hTA2
      have HPP := Lib.hid hP
      clear hP
      have HTB := Lib.hid hTB2
      clear hTA2 hTB2 hx ha hb ih hk
      show Calls Tryd.prog 47 #[.agg #[.int .i64 k, .slice (some ⟨ba, oa, none⟩) 1 ca], .agg #[.int .i64 k, .slice (some ⟨bb, ob, none⟩) 1 cb]] w _
      go_enter Tryd.func47, Tryd.ntmps47
      go_wp2_with fail
      go_fit (Y.out _)
      rintro e w1 ⟨rfl, rfl⟩
      go_wp2_with fail
      have TA := ((TwoAt.new w 24 (.int .i64 k) (.slice (some ⟨ba, oa, none⟩) 1 ca)).alloc (.cells #[.int .i64 k, .slice (some ⟨bb, ob, none⟩) 1 cb] 24)).alloc (.cells #[.int .i64 0, .slice none 0 0] 24)
      have TB := (TwoAt.new (w.alloc (.cells #[.int .i64 k, .slice (some ⟨ba, oa, none⟩) 1 ca] 24)) 24 (.int .i64 k) (.slice (some ⟨bb, ob, none⟩) 1 cb)).alloc (.cells #[.int .i64 0, .slice none 0 0] 24)
      have TR := TwoAt.new ((w.alloc (.cells #[.int .i64 k, .slice (some ⟨ba, oa, none⟩) 1 ca] 24)).alloc (.cells #[.int .i64 k, .slice (some ⟨bb, ob, none⟩) 1 cb] 24)) 24 (.int .i64 0) (.slice none 0 0)
      have B0 : Below w.heap.size w (((w.alloc (.cells #[.int .i64 k, .slice (some ⟨ba, oa, none⟩) 1 ca] 24)).alloc (.cells #[.int .i64 k, .slice (some ⟨bb, ob, none⟩) 1 cb] 24)).alloc (.cells #[.int .i64 0, .slice none 0 0] 24)) := by
        repeat (first | exact Below.refl _ _ | refine Below.alloc ?_ (by simp <;> omega) _)
      obtain ⟨W0, hW0⟩ : ∃ W0, W0 = ((w.alloc (.cells #[.int .i64 k, .slice (some ⟨ba, oa, none⟩) 1 ca] 24)).alloc (.cells #[.int .i64 k, .slice (some ⟨bb, ob, none⟩) 1 cb] 24)).alloc (.cells #[.int .i64 0, .slice none 0 0] 24) := ⟨_, rfl⟩
      rw [← hW0] at TA TB TR B0 ⊢
      simp only [World.size_alloc] at TB TR
      clear hW0
      have hs0 : S8 w k ba oa ca bb ob cb (.int .i64 s.kd) (.slice xa s.ln ya) (.int .i64 t.kd) (.slice xb t.ln yb) W0 := ⟨TA.cell0, TA.cell1, TB.cell1, (B0.cell (p := ⟨ba, _, none⟩) za).trans p0, (B0.cell (p := ⟨ba, _, none⟩) za).trans p1, (B0.cell (p := ⟨bb, _, none⟩) zb).trans q0, (B0.cell (p := ⟨bb, _, none⟩) zb).trans q1, B0, _, _, TR⟩
      have IH := Lib.hid (fun w' (h : S8 w k ba oa ca bb ob cb (.int .i64 s.kd) (.slice xa s.ln ya) (.int .i64 t.kd) (.slice xb t.ln yb) w') => HIH.out t (.agg #[.int .i64 s.kd, .slice xa s.ln ya]) (.agg #[.int .i64 t.kd, .slice xb t.ln yb]) w' P (fun b hb => Nat.lt_of_lt_of_le (HPP.out b hb) h.2.2.2.2.2.2.2.1.size) hso hto ⟨xa, ya, rfl, TailP.kept (fun _ h => h) (fun b _ hlt => h.2.2.2.2.2.2.2.1.block b hlt) s xa HTA.out⟩ ⟨xb, yb, rfl, TailP.kept (fun _ h => h) (fun b _ hlt => h.2.2.2.2.2.2.2.1.block b hlt) t xb HTB.out⟩)
      clear B0 p0 p1 q0 q1 TA TB TR HIH Y
      go_region_held3 (fun w' => w'.cell? ⟨w.heap.size, 0, none⟩ = some (.int .i64 k) ∧ w'.cell? ⟨w.heap.size, 1, none⟩ = some (.slice (some ⟨ba, oa, none⟩) 1 ca) ∧ w'.cell? ⟨w.heap.size + 1, 1, none⟩ = some (.slice (some ⟨bb, ob, none⟩) 1 cb) ∧ w'.cell? ⟨ba, oa, none⟩ = some (.int .i64 s.kd) ∧ w'.cell? ⟨ba, oa + 1, none⟩ = some (.slice xa s.ln ya) ∧ w'.cell? ⟨bb, ob, none⟩ = some (.int .i64 t.kd) ∧ w'.cell? ⟨bb, ob + 1, none⟩ = some (.slice xb t.ln yb) ∧ Below w.heap.size w w' ∧ (∃ x y, TwoAt w' (w.heap.size + 1 + 1) 24 x y)) (first | exact S8.drew hs0 | exact S8.below za zb (by assumption) (by assumption) | exact S8.set2 za zb _ _ (by assumption)) (first
        | (go_at_call 47; go_fit (IH.out _ (by assumption)); rintro e w2 ⟨V, rfl, ⟨av2, cx2, rfl, hT2⟩, hb2⟩)
        | (go_at_call 33; go_fit (Z.out _ _ _ _ _); rintro e w3 ⟨g, rfl, hg, hc0, hc1, hb3⟩; obtain ⟨_, _, TR3⟩ := two_of (S8.tw (w := w) (k := k) (ba := ba) (oa := oa) (ca := ca) (bb := bb) (ob := ob) (cb := cb) (x0 := .int .i64 s.kd) (x1 := .slice xa s.ln ya) (y0 := .int .i64 t.kd) (y1 := .slice xb t.ln yb) (by assumption)) hb3; have k0 := TR3.cell0; have k1 := TR3.cell1; have kf0 := TR3.frozen 0; have kf1 := TR3.frozen 1))
      go_wp2_with fail
      have TR4 := (TR3.set0 (.int .i64 k)).set1 (.slice (some ⟨g, 0, none⟩) 1 1)
      have u0 := TR4.cell0
      have u1 := TR4.cell1
      have hend := bound_end (k := k) HPP.out hs0.drew.2.2.2.2.2.2.2.1 (by have := hs0.drew.tw; obtain ⟨_, _, h⟩ := this; exact h.lt) hb2 hT2 hg hc0 hc1 hb3 (.int .i64 k) (.slice (some ⟨g, 0, none⟩) 1 1)
      clear hb2 hT2 hg hc0 hc1 hb3 IH Z
      exact bodyPost_ret (v := .agg #[.int .i64 k, .slice (some ⟨g, 0, none⟩) 1 1]) (by simp [results, Tryd.f47, go_sem, u0, u1]) rfl ⟨_, rfl, by rw [E.out]; exact hend.1, hend.2⟩
    · exact rmeet_flat (.node k s) b A B w P ha hb hA hB (flat_ne hx)
end Go.Proofs.YtabopneehhnhfabDoor
