/- Contracts of the program's Of and Fits (typing). -/
import Derived.Test.YtabopneehhnhfabDoorTypN
import Derived.Deep.RegionHeld3
namespace Go.Proofs.YtabopneehhnhfabDoor
open Go.RowKit Go.Lib

def ofV (m : Nat) (x : Vl) : Tc := if errV 16 x = 0 then tyV m x else .leaf 0
theorem ofV_good (m : Nat) (x : Vl) : (ofV m x).ok ∧ (ofV m x).deep ≤ 16 := by
  unfold ofV
  by_cases h : errV 16 x = 0
  · rw [if_pos h]; exact tyV_good 16 m x h
  · rw [if_neg h]; exact ⟨leaf0, by simp [Tc.deep]⟩
def fitV (m : Nat) (x : Vl) (y : Ty) : Bool := decide (errV 16 x = 0) && okB y && subC (tyV m x) (tcOf y)
theorem natI0 {n : Nat} (h : n = 0) : ((n : Int) == 0) = true ∧ ((n : Int) != 0) = false := by subst h; exact ⟨rfl, rfl⟩
theorem natI1 {n : Nat} (h : n ≠ 0) : ((n : Int) == 0) = false ∧ ((n : Int) != 0) = true := by
  have h1 : ((n : Int) == 0) = false := by rw [beq_eq_false_iff_ne]; omega
  refine ⟨h1, ?_⟩
  unfold bne
  rw [h1]
  rfl

set_option maxHeartbeats 4000000 in
theorem Of_any (m : Nat) (V : Value) (x : Vl) (w : World) (hV : IsV m w V x) (hT : TabT w) :
    Calls Tryd.prog 14 #[V] w fun e w' => ∃ R, e = .returned R ∧ IsC w' R (ofV m x) ∧ Below w.heap.size w w' := by
  have X := Lib.hid (fun w' (h : Below w.heap.size w w') => validV_any m V x w' (hV.below h))
  by_cases h0 : errV 16 x = 0
  · have Y := Lib.hid (fun w' (h : Below w.heap.size w w') => one_any m 16 V x w' h0 (hV.below h) (hT.below h))
    have E := Lib.hid (show ofV m x = tyV m x by unfold ofV; rw [if_pos h0])
    obtain ⟨hz, hz2⟩ := natI0 h0
    obtain ⟨k, t, i, s, l, ks, av, c, kv, kc, rfl, rfl, _⟩ := hV
    generalize errV 16 (Vl.mk k t i s l ks) = er at *
    generalize tyV m (Vl.mk k t i s l ks) = T at *
    clear h0 hT
    go_enter Tryd.func14, Tryd.ntmps14
    go_wp2_with fail
    go_fit (X.out _ (by repeat (first | exact Below.refl _ _ | refine Below.setCell ?_ (by simp <;> omega) _ | refine Below.alloc ?_ (by simp <;> omega) _)))
    rintro e w1 ⟨rfl, hb1⟩
    have VV := ((V6_new w k t i s (.slice av l.length c) (.slice kv ks.length kc)).below (by simp) ((Below.refl _ _).alloc (Nat.le_refl _) (.cells #[.int .i64 0, .slice none 0 0] 24))).below (by simp <;> omega) hb1
    have TR := (TwoAt.new _ 24 (.int .i64 0) (.slice none 0 0)).below hb1
    have B1 := Lib.hid (Below.trans (show Below w.heap.size w _ from (by repeat (first | exact Below.refl _ _ | refine Below.setCell ?_ (by simp <;> omega) _ | refine Below.alloc ?_ (by simp <;> omega) _))) (hb1.mono (by simp <;> omega)))
    simp only [World.size_alloc] at TR
    obtain ⟨-, v0, v1, v2, v3, v4, v5⟩ := VV
    clear hb1
    go_wp2_with fail
    go_fit (Y.out _ B1.out)
    rintro e w2 ⟨R, rfl, hR, hb2⟩
    have hlt := TR.lt
    have TR := TR.below hb2
    have B2 := Lib.hid (B1.out.trans (hb2.mono B1.out.size))
    have HR := Lib.hid (hR.below (P' := fun b => b < 0 ∨ w1.heap.size ≤ b) (fun b h => .inr h) (Below.refl _ _))
    obtain ⟨ra, rc, rfl, _⟩ := hR
    have t0 := TR.cell0
    have t1 := TR.cell1
    have tf0 := TR.frozen 0
    have tf1 := TR.frozen 1
    clear hb2
    go_wp2_with fail
    have TR2 := (TR.set0 (.int .i64 T.kd)).set1 (.slice ra T.ln rc)
    have u0 := TR2.cell0
    have u1 := TR2.cell1
    exact bodyPost_ret (v := .agg #[.int .i64 T.kd, .slice ra T.ln rc]) (by simp [results, Tryd.f14, go_sem, u0, u1]) rfl ⟨_, rfl, by rw [E.out]; exact isC_store HR.out (Nat.zero_le _) hlt _ _, (B2.out.setCell (by simp <;> omega) _).setCell (by simp <;> omega) _⟩
  · have E := Lib.hid (show ofV m x = .leaf 0 by unfold ofV; rw [if_neg h0])
    obtain ⟨hz, hz2⟩ := natI1 h0
    have Z := Lib.hid (fun w => tySimple_any 0 w)
    obtain ⟨k, t, i, s, l, ks, av, c, kv, kc, rfl, rfl, _⟩ := hV
    generalize errV 16 (Vl.mk k t i s l ks) = er at *
    clear h0 hT
    go_enter Tryd.func14, Tryd.ntmps14
    go_wp2_with fail
    go_fit (X.out _ (by repeat (first | exact Below.refl _ _ | refine Below.setCell ?_ (by simp <;> omega) _ | refine Below.alloc ?_ (by simp <;> omega) _)))
    rintro e w1 ⟨rfl, hb1⟩
    have TR := (TwoAt.new _ 24 (.int .i64 0) (.slice none 0 0)).below hb1
    have B1 := Lib.hid (Below.trans (show Below w.heap.size w _ from (by repeat (first | exact Below.refl _ _ | refine Below.setCell ?_ (by simp <;> omega) _ | refine Below.alloc ?_ (by simp <;> omega) _))) (hb1.mono (by simp <;> omega)))
    simp only [World.size_alloc] at TR
    clear hb1
    go_wp2_with fail
    go_fit (Z.out _)
    rintro e w2 ⟨rfl, hb2⟩
    have TR := TR.below hb2
    have B2 := Lib.hid (B1.out.trans (hb2.mono B1.out.size))
    have t0 := TR.cell0
    have t1 := TR.cell1
    have tf0 := TR.frozen 0
    have tf1 := TR.frozen 1
    clear hb2
    go_wp2_with fail
    have TR2 := (TR.set0 (.int .i64 0)).set1 (.slice none 0 0)
    have u0 := TR2.cell0
    have u1 := TR2.cell1
    exact bodyPost_ret (v := .agg #[.int .i64 0, .slice none 0 0]) (by simp [results, Tryd.f14, go_sem, u0, u1]) rfl ⟨.agg #[.int .i64 0, .slice none 0 0], rfl, by rw [E.out]; exact ⟨none, 0, rfl, trivial⟩, (B2.out.setCell (by simp <;> omega) _).setCell (by simp <;> omega) _⟩

/-- What Fits's region holds: the boxes of the value and of the type. -/
def S9 (w : World) (k : Int) (t : Bool) (i : Int) (s : ByteArray) (sl kl : Value) (k2 : Int) (tl : Value) (w' : World) : Prop :=
  w'.cell? ⟨w.heap.size, 0, none⟩ = some (.int .i64 k) ∧ w'.cell? ⟨w.heap.size, 1, none⟩ = some (.bool t) ∧ w'.cell? ⟨w.heap.size, 2, none⟩ = some (.int .i64 i) ∧ w'.cell? ⟨w.heap.size, 3, none⟩ = some (.string s) ∧ w'.cell? ⟨w.heap.size, 4, none⟩ = some sl ∧ w'.cell? ⟨w.heap.size, 5, none⟩ = some kl ∧
    w'.cell? ⟨w.heap.size + 1, 0, none⟩ = some (.int .i64 k2) ∧ w'.cell? ⟨w.heap.size + 1, 1, none⟩ = some tl ∧ (w.heap.size + 1 < w'.heap.size ∧ Below w.heap.size w w')
theorem S9.drew {w : World} {k : Int} {t : Bool} {i : Int} {s : ByteArray} {sl kl : Value} {k2 : Int} {tl : Value} {w1 : World} (h : S9 w k t i s sl kl k2 tl w1) : S9 w k t i s sl kl k2 tl w1.drew := by
  obtain ⟨a1, a2, a3, a4, a5, a6, a7, a8, a9, h8⟩ := h
  exact ⟨a1, a2, a3, a4, a5, a6, a7, a8, a9, h8.drew⟩
theorem S9.below {w : World} {k : Int} {t : Bool} {i : Int} {s : ByteArray} {sl kl : Value} {k2 : Int} {tl : Value} {w1 w2 : World} (h : S9 w k t i s sl kl k2 tl w1) (hb : Below w1.heap.size w1 w2) : S9 w k t i s sl kl k2 tl w2 := by
  obtain ⟨a1, a2, a3, a4, a5, a6, a7, a8, a9, h8⟩ := h
  have hz := hb.size
  exact ⟨(hb.cell (p := ⟨_, _, none⟩) (show w.heap.size < w1.heap.size by omega)).trans a1, (hb.cell (p := ⟨_, _, none⟩) (show w.heap.size < w1.heap.size by omega)).trans a2, (hb.cell (p := ⟨_, _, none⟩) (show w.heap.size < w1.heap.size by omega)).trans a3, (hb.cell (p := ⟨_, _, none⟩) (show w.heap.size < w1.heap.size by omega)).trans a4, (hb.cell (p := ⟨_, _, none⟩) (show w.heap.size < w1.heap.size by omega)).trans a5, (hb.cell (p := ⟨_, _, none⟩) (show w.heap.size < w1.heap.size by omega)).trans a6,
    (hb.cell (p := ⟨_, _, none⟩) a9).trans a7, (hb.cell (p := ⟨_, _, none⟩) a9).trans a8, by omega, h8.trans (hb.mono (by omega))⟩

set_option maxHeartbeats 4000000 in
theorem Fits_any (m mT : Nat) (V TV : Value) (x : Vl) (y : Ty) (w : World) (hV : IsV m w V x) (hY : IsT mT w TV y) (hT : TabT w) :
    Calls Tryd.prog 17 #[V, TV] w fun e w' => e = .returned (.bool (fitV m x y)) ∧ Below w.heap.size w w' := by
  have HV := hV
  have HY := hY
  obtain ⟨k, t, i, s, l, ks, av, c, kv, kc, rfl, rfl, _⟩ := hV
  obtain ⟨k2, l2, av2, c2, rfl, rfl, _⟩ := hY
  have X := Lib.hid (fun w' (h : S9 w k t i s (.slice av l.length c) (.slice kv ks.length kc) k2 (.slice av2 l2.length c2) w') => validV_any m _ _ w' (HV.below h.2.2.2.2.2.2.2.2.2))
  have XT := Lib.hid (fun w' (h : S9 w k t i s (.slice av l.length c) (.slice kv ks.length kc) k2 (.slice av2 l2.length c2) w') => validT_any mT _ _ w' (HY.below h.2.2.2.2.2.2.2.2.2))
  by_cases h0 : errV 16 (Vl.mk k t i s l ks) = 0
  · obtain ⟨hz, hz2⟩ := natI0 h0
    cases hq : okB (Ty.mk k2 l2)
    · have E := Lib.hid (show fitV m (Vl.mk k t i s l ks) (Ty.mk k2 l2) = false by unfold fitV; rw [hq, Bool.and_false]; rfl)
      obtain ⟨hy, hy2⟩ := natI1 (n := chkT 16 (Ty.mk k2 l2)) (by simpa [okB] using hq)
      generalize errV 16 (Vl.mk k t i s l ks) = er at *
      generalize chkT 16 (Ty.mk k2 l2) = ct at *
      clear h0 hT hq HV HY
      have hs0 : S9 w k t i s (.slice av l.length c) (.slice kv ks.length kc) k2 (.slice av2 l2.length c2) ((w.alloc (.cells #[.int .i64 k, .bool t, .int .i64 i, .string s, .slice av l.length c, .slice kv ks.length kc] 33)).alloc (.cells #[.int .i64 k2, .slice av2 l2.length c2] 24)) := by
        have VV := (V6_new w k t i s (.slice av l.length c) (.slice kv ks.length kc)).below (by simp) ((Below.refl _ _).alloc (Nat.le_refl _) (.cells #[.int .i64 k2, .slice av2 l2.length c2] 24))
        have TT := TwoAt.new (w.alloc (.cells #[.int .i64 k, .bool t, .int .i64 i, .string s, .slice av l.length c, .slice kv ks.length kc] 33)) 24 (.int .i64 k2) (.slice av2 l2.length c2)
        simp only [World.size_alloc] at TT
        exact ⟨VV.2.1, VV.2.2.1, VV.2.2.2.1, VV.2.2.2.2.1, VV.2.2.2.2.2.1, VV.2.2.2.2.2.2, TT.cell0, TT.cell1, by simp, (by repeat (first | exact Below.refl _ _ | refine Below.setCell ?_ (by simp <;> omega) _ | refine Below.alloc ?_ (by simp <;> omega) _))⟩
      go_enter Tryd.func17, Tryd.ntmps17
      go_wp2_with fail
      obtain ⟨W0, hW0⟩ : ∃ W0, W0 = (w.alloc (.cells #[.int .i64 k, .bool t, .int .i64 i, .string s, .slice av l.length c, .slice kv ks.length kc] 33)).alloc (.cells #[.int .i64 k2, .slice av2 l2.length c2] 24) := ⟨_, rfl⟩
      rw [← hW0] at hs0 ⊢
      clear hW0
      obtain ⟨a0, a1, a2, a3, a4, a5, a6, a7, _, _⟩ := id hs0
      go_region_with (first
        | (go_at_call 34; go_fit (X.out _ hs0.drew); rintro e w1 ⟨rfl, hb1⟩; have hs1 := S9.below hs0.drew hb1; have d0 := hs1.2.2.2.2.2.2.1; have d1 := hs1.2.2.2.2.2.2.2.1)
        | (go_at_call 11; go_fit (XT.out _ hs1); rintro e w2 ⟨rfl, hb2⟩; have hs2 := S9.below hs1 hb2))
      all_goals
        have hfin := hs2
        clear hs0 hs1 hs2
        go_wp2_with fail
        go_ret
        exact ⟨by rw [E.out]; rfl, hfin.2.2.2.2.2.2.2.2.2⟩
    · have E := Lib.hid (show fitV m (Vl.mk k t i s l ks) (Ty.mk k2 l2) = subC (tyV m (Vl.mk k t i s l ks)) (tcOf (Ty.mk k2 l2)) by unfold fitV; rw [hq, decide_eq_true h0]; rfl)
      obtain ⟨hy, hy2⟩ := natI0 (n := chkT 16 (Ty.mk k2 l2)) (by simpa [okB] using hq)
      have Y := Lib.hid (fun w' (h : S9 w k t i s (.slice av l.length c) (.slice kv ks.length kc) k2 (.slice av2 l2.length c2) w') => one_any m 16 _ _ w' h0 (HV.below h.2.2.2.2.2.2.2.2.2) (hT.below h.2.2.2.2.2.2.2.2.2))
      have C := Lib.hid (fun R w' (h : S9 w k t i s (.slice av l.length c) (.slice kv ks.length kc) k2 (.slice av2 l2.length c2) w') (hR : IsC w' R (tyV m (Vl.mk k t i s l ks))) => contained_any (tyV m (Vl.mk k t i s l ks)) (tcOf (Ty.mk k2 l2)) R _ w' (tyV_good 16 m _ h0).1 (ok_tc hq).2.1 hR ((isC_ok HY hq).below h.2.2.2.2.2.2.2.2.2))
      generalize errV 16 (Vl.mk k t i s l ks) = er at *
      generalize chkT 16 (Ty.mk k2 l2) = ct at *
      generalize tyV m (Vl.mk k t i s l ks) = T at *
      clear h0 hT hq HV HY
      have hs0 : S9 w k t i s (.slice av l.length c) (.slice kv ks.length kc) k2 (.slice av2 l2.length c2) ((w.alloc (.cells #[.int .i64 k, .bool t, .int .i64 i, .string s, .slice av l.length c, .slice kv ks.length kc] 33)).alloc (.cells #[.int .i64 k2, .slice av2 l2.length c2] 24)) := by
        have VV := (V6_new w k t i s (.slice av l.length c) (.slice kv ks.length kc)).below (by simp) ((Below.refl _ _).alloc (Nat.le_refl _) (.cells #[.int .i64 k2, .slice av2 l2.length c2] 24))
        have TT := TwoAt.new (w.alloc (.cells #[.int .i64 k, .bool t, .int .i64 i, .string s, .slice av l.length c, .slice kv ks.length kc] 33)) 24 (.int .i64 k2) (.slice av2 l2.length c2)
        simp only [World.size_alloc] at TT
        exact ⟨VV.2.1, VV.2.2.1, VV.2.2.2.1, VV.2.2.2.2.1, VV.2.2.2.2.2.1, VV.2.2.2.2.2.2, TT.cell0, TT.cell1, by simp, (by repeat (first | exact Below.refl _ _ | refine Below.setCell ?_ (by simp <;> omega) _ | refine Below.alloc ?_ (by simp <;> omega) _))⟩
      go_enter Tryd.func17, Tryd.ntmps17
      go_wp2_with fail
      obtain ⟨W0, hW0⟩ : ∃ W0, W0 = (w.alloc (.cells #[.int .i64 k, .bool t, .int .i64 i, .string s, .slice av l.length c, .slice kv ks.length kc] 33)).alloc (.cells #[.int .i64 k2, .slice av2 l2.length c2] 24) := ⟨_, rfl⟩
      rw [← hW0] at hs0 ⊢
      clear hW0
      go_region_held3 (fun w' => w'.cell? ⟨w.heap.size, 0, none⟩ = some (.int .i64 k) ∧ w'.cell? ⟨w.heap.size, 1, none⟩ = some (.bool t) ∧ w'.cell? ⟨w.heap.size, 2, none⟩ = some (.int .i64 i) ∧ w'.cell? ⟨w.heap.size, 3, none⟩ = some (.string s) ∧ w'.cell? ⟨w.heap.size, 4, none⟩ = some (.slice av l.length c) ∧ w'.cell? ⟨w.heap.size, 5, none⟩ = some (.slice kv ks.length kc) ∧ w'.cell? ⟨w.heap.size + 1, 0, none⟩ = some (.int .i64 k2) ∧ w'.cell? ⟨w.heap.size + 1, 1, none⟩ = some (.slice av2 l2.length c2) ∧ (w.heap.size + 1 < w'.heap.size ∧ Below w.heap.size w w')) (first | exact S9.drew hs0 | exact S9.below (by assumption) (by assumption)) (first
        | (go_at_call 34; go_fit (X.out _ (by assumption)); rintro e w1 ⟨rfl, hb1⟩)
        | (go_at_call 11; go_fit (XT.out _ (by assumption)); rintro e w2 ⟨rfl, hb2⟩)
        | (go_at_call 36; go_fit (Y.out _ (by assumption)); rintro e w3 ⟨R, rfl, hR, hb3⟩; have HR := Lib.hid hR.toC; obtain ⟨ra, rc, rfl, _⟩ := hR)
        | (go_at_call 39; go_fit (C.out _ _ (by assumption) HR.out); rintro e w4 ⟨rfl, hb4⟩))
      have hfin : S9 w k t i s (.slice av l.length c) (.slice kv ks.length kc) k2 (.slice av2 l2.length c2) w4 := by assumption
      go_wp2_with fail
      go_ret
      exact ⟨by rw [E.out]; rfl, hfin.2.2.2.2.2.2.2.2.2⟩
  · obtain ⟨hz, hz2⟩ := natI1 h0
    have E := Lib.hid (show fitV m (Vl.mk k t i s l ks) (Ty.mk k2 l2) = false by unfold fitV; rw [decide_eq_false h0]; rfl)
    generalize errV 16 (Vl.mk k t i s l ks) = er at *
    clear h0 hT HV HY
    have hs0 : S9 w k t i s (.slice av l.length c) (.slice kv ks.length kc) k2 (.slice av2 l2.length c2) ((w.alloc (.cells #[.int .i64 k, .bool t, .int .i64 i, .string s, .slice av l.length c, .slice kv ks.length kc] 33)).alloc (.cells #[.int .i64 k2, .slice av2 l2.length c2] 24)) := by
      have VV := (V6_new w k t i s (.slice av l.length c) (.slice kv ks.length kc)).below (by simp) ((Below.refl _ _).alloc (Nat.le_refl _) (.cells #[.int .i64 k2, .slice av2 l2.length c2] 24))
      have TT := TwoAt.new (w.alloc (.cells #[.int .i64 k, .bool t, .int .i64 i, .string s, .slice av l.length c, .slice kv ks.length kc] 33)) 24 (.int .i64 k2) (.slice av2 l2.length c2)
      simp only [World.size_alloc] at TT
      exact ⟨VV.2.1, VV.2.2.1, VV.2.2.2.1, VV.2.2.2.2.1, VV.2.2.2.2.2.1, VV.2.2.2.2.2.2, TT.cell0, TT.cell1, by simp, (by repeat (first | exact Below.refl _ _ | refine Below.setCell ?_ (by simp <;> omega) _ | refine Below.alloc ?_ (by simp <;> omega) _))⟩
    go_enter Tryd.func17, Tryd.ntmps17
    go_wp2_with fail
    obtain ⟨W0, hW0⟩ : ∃ W0, W0 = (w.alloc (.cells #[.int .i64 k, .bool t, .int .i64 i, .string s, .slice av l.length c, .slice kv ks.length kc] 33)).alloc (.cells #[.int .i64 k2, .slice av2 l2.length c2] 24) := ⟨_, rfl⟩
    rw [← hW0] at hs0 ⊢
    clear hW0
    obtain ⟨a0, a1, a2, a3, a4, a5, a6, a7, _, _⟩ := id hs0
    go_region_with (first
      | (go_at_call 34; go_fit (X.out _ hs0.drew); rintro e w1 ⟨rfl, hb1⟩; have hs1 := S9.below hs0.drew hb1)
      | fail)
    all_goals
      have hfin := hs1
      clear hs0 hs1
      go_wp2_with fail
      go_ret
      exact ⟨by rw [E.out]; rfl, hfin.2.2.2.2.2.2.2.2.2⟩
end Go.Proofs.YtabopneehhnhfabDoor
