/- Join and Meet of types, by the blocks of their results: they are new. What is kept where boxes are stored into. -/
import Derived.Test.YtabopneehhnhfabDoorTypI
namespace Go.Proofs.YtabopneehhnhfabDoor
open Go.RowKit Go.Lib

theorem isN_store {n W1s r : Nat} {w1 : World} {V : Value} {t : Tc} (h : IsP (fun b => b < 0 ∨ W1s ≤ b) w1 V t) (h2 : r < W1s) (hn : n ≤ W1s) (u v : Value) : IsP (fun b => n ≤ b) ((w1.setCell ⟨r, 0, none⟩ u).setCell ⟨r, 1, none⟩ v) V t := by
  obtain ⟨av, c, e, h⟩ := h
  refine ⟨av, c, e, TailP.kept (fun b hb => by omega) (fun b hb hlt => ?_) t av h⟩
  have hne : b ≠ r := by omega
  exact (Below.heap_setCell _ _ _ b hne).trans (Below.heap_setCell _ _ _ b hne)
/-- The blocks n to m are as they were. -/
def KeepN (n m : Nat) (w w' : World) : Prop := ∀ b, n ≤ b → b < m → w'.heap[b]? = w.heap[b]?
theorem KeepN.of_below {n : Nat} {w w' : World} (h : Below w.heap.size w w') : KeepN n w.heap.size w w' := fun b _ hb => h.block b hb
theorem KeepN.refl (n m : Nat) (w : World) : KeepN n m w w := fun _ _ _ => rfl
theorem KeepN.alloc {n m : Nat} {w w' : World} (h : KeepN n m w w') (hm : m ≤ w'.heap.size) (o : Obj) : KeepN n m w (w'.alloc o) := fun b h1 h2 => (Below.heap_alloc w' o b (Nat.lt_of_lt_of_le h2 hm)).trans (h b h1 h2)
theorem KeepN.set {n m : Nat} {w w' : World} (h : KeepN n m w w') {p : Addr} (hp : p.block < n ∨ m ≤ p.block) (u : Value) : KeepN n m w (w'.setCell p u) := fun b h1 h2 => (Below.heap_setCell _ _ _ b (by omega)).trans (h b h1 h2)
theorem IsP.keep {n : Nat} {w w' : World} {V : Value} {t : Tc} (h : IsP (fun b => n ≤ b) w V t) (k : KeepN n w.heap.size w w') : IsC w' V t := by
  obtain ⟨av, c, e, h⟩ := h
  exact ⟨av, c, e, TailP.toC (P := fun _ => True) t av (TailP.kept (fun _ _ => trivial) (fun b hb hlt => k b hb hlt) t av h)⟩
set_option maxHeartbeats 1000000 in
theorem JoinP_any (mA mB : Nat) (A B : Value) (x y : Ty) (w : World) (hA : IsT mA w A x) (hB : IsT mB w B y) :
    Calls Tryd.prog 21 #[A, B] w fun e w' => ∃ V, e = .returned V ∧ IsP (fun b => w.heap.size ≤ b) w' V (bndT 7 0 x y) ∧ Below w.heap.size w w' := by
  have X := Lib.hid (fun w' (h : Below w.heap.size w w') => bothValid_any mA mB A B x y w' (hA.below h) (hB.below h))
  cases hq : (okB x && okB y)
  · have E := Lib.hid (show bndT 7 0 x y = .leaf 0 by unfold bndT; rw [hq]; rfl)
    rw [hq] at X
    have Z := Lib.hid (fun w => tySimple_any 0 w)
    obtain ⟨k, l, av, c, rfl, rfl, _, _, _⟩ := hA
    obtain ⟨k2, l2, av2, c2, rfl, rfl, _, _, _⟩ := hB
    clear hq
    go_enter Tryd.func21, Tryd.ntmps21
    go_wp2_with fail
    go_fit (X.out _ (by repeat (first | exact Below.refl _ _ | refine Below.setCell ?_ (by simp <;> omega) _ | refine Below.alloc ?_ (by simp <;> omega) _)))
    rintro e w1 ⟨rfl, hb1⟩
    have TR := (TwoAt.new _ 24 (.int .i64 0) (.slice none 0 0)).below hb1
    have B1 := Lib.hid (Below.trans (show Below w.heap.size w _ from (by repeat (first | exact Below.refl _ _ | refine Below.setCell ?_ (by simp <;> omega) _ | refine Below.alloc ?_ (by simp <;> omega) _))) (hb1.mono (by simp <;> omega)))
    simp only [World.size_alloc] at TR
    clear hb1
    go_wp2_with fail
    go_fit (Z.out _)
    rintro e w2 ⟨rfl, hb2⟩
    have TR := TR.below hb2
    have B2 := Lib.hid (B1.out.trans (hb2.mono B1.out.size))
    have t0 := TR.cell0
    have t1 := TR.cell1
    have tf0 := TR.frozen 0
    have tf1 := TR.frozen 1
    clear hb2
    go_wp2_with fail
    have TR2 := (TR.set0 (.int .i64 0)).set1 (.slice none 0 0)
    have u0 := TR2.cell0
    have u1 := TR2.cell1
    exact bodyPost_ret (v := .agg #[.int .i64 0, .slice none 0 0]) (by simp [results, Tryd.f21, go_sem, u0, u1]) rfl ⟨.agg #[.int .i64 0, .slice none 0 0], rfl, by rw [E.out]; exact ⟨none, 0, rfl, trivial⟩, (B2.out.setCell (by simp <;> omega) _).setCell (by simp <;> omega) _⟩
  · have E := Lib.hid (show bndT 7 0 x y = bndC 7 0 (tcOf x) (tcOf y) by unfold bndT; rw [hq]; rfl)
    rw [hq] at X
    rw [Bool.and_eq_true] at hq
    have hC := Lib.hid (fun w' (h : Below w.heap.size w w') => join_any (tcOf x) (tcOf y) A B w' (ok_tc hq.1).2.1 (ok_tc hq.2).2.1 ((isC_ok hA hq.1).below h) ((isC_ok hB hq.2).below h))
    have hR := bndC_ok 7 0 leaf0 (tcOf x) (tcOf y) (ok_tc hq.1).2.1 (ok_tc hq.2).2.1
    obtain ⟨k, l, av, c, rfl, rfl, _, _, _⟩ := hA
    obtain ⟨k2, l2, av2, c2, rfl, rfl, _, _, _⟩ := hB
    obtain ⟨r, hr⟩ : ∃ r, r = bndC 7 0 (tcOf (Ty.mk k l)) (tcOf (Ty.mk k2 l2)) := ⟨_, rfl⟩
    rw [← hr] at hC hR E
    have HY := Lib.hid (fun V w (h : IsC w V r) => copied_any r V w hR h)
    clear hq hr hR
    go_enter Tryd.func21, Tryd.ntmps21
    go_wp2_with fail
    go_fit (X.out _ (by repeat (first | exact Below.refl _ _ | refine Below.setCell ?_ (by simp <;> omega) _ | refine Below.alloc ?_ (by simp <;> omega) _)))
    rintro e w1 ⟨rfl, hb1⟩
    have TA := ((TwoAt.new _ 24 (.int .i64 k) (.slice av l.length c)).alloc (.cells #[.int .i64 k2, .slice av2 l2.length c2] 24)).alloc (.cells #[.int .i64 0, .slice none 0 0] 24) |>.below hb1
    have TB := ((TwoAt.new _ 24 (.int .i64 k2) (.slice av2 l2.length c2)).alloc (.cells #[.int .i64 0, .slice none 0 0] 24)).below hb1
    have TR := (TwoAt.new _ 24 (.int .i64 0) (.slice none 0 0)).below hb1
    have B1 := Lib.hid (Below.trans (show Below w.heap.size w _ from (by repeat (first | exact Below.refl _ _ | refine Below.setCell ?_ (by simp <;> omega) _ | refine Below.alloc ?_ (by simp <;> omega) _))) (hb1.mono (by simp <;> omega)))
    simp only [World.size_alloc] at TB TR
    have c0 := TA.cell0
    have c1 := TA.cell1
    have d0 := TB.cell0
    have d1 := TB.cell1
    clear hb1
    go_wp2_with fail
    go_fit (hC.out _ B1.out)
    rintro e w2 ⟨V, rfl, hV, hb2⟩
    have B2 := Lib.hid (B1.out.trans (hb2.mono B1.out.size))
    have TR := TR.below hb2
    have M := Lib.hid (HY.out V w2 hV)
    obtain ⟨rv, rc, rfl, _⟩ := hV
    clear hb2
    go_wp2_with fail
    go_fit (M.out)
    rintro e w3 ⟨V, rfl, hV, hb3⟩
    have hlt := TR.lt
    have B3 := Lib.hid (B2.out.trans (hb3.mono B2.out.size))
    have TR := TR.below hb3
    have HV := Lib.hid (IsP.below (P' := fun b => b < 0 ∨ w2.heap.size ≤ b) hV (fun b h => .inr h) (Below.refl _ _))
    obtain ⟨sv, sc, rfl, _⟩ := hV
    have t0 := TR.cell0
    have t1 := TR.cell1
    have tf0 := TR.frozen 0
    have tf1 := TR.frozen 1
    clear hb3
    go_wp2_with fail
    have TR2 := (TR.set0 (.int .i64 r.kd)).set1 (.slice sv r.ln sc)
    have u0 := TR2.cell0
    have u1 := TR2.cell1
    exact bodyPost_ret (v := .agg #[.int .i64 r.kd, .slice sv r.ln sc]) (by simp [results, Tryd.f21, go_sem, u0, u1]) rfl ⟨_, rfl, by rw [E.out]; exact isN_store HV.out hlt B2.out.size _ _, (B3.out.setCell (by simp <;> omega) _).setCell (by simp <;> omega) _⟩

set_option maxHeartbeats 1000000 in
theorem MeetP_any (mA mB : Nat) (A B : Value) (x y : Ty) (w : World) (hA : IsT mA w A x) (hB : IsT mB w B y) :
    Calls Tryd.prog 23 #[A, B] w fun e w' => ∃ V, e = .returned V ∧ IsP (fun b => w.heap.size ≤ b) w' V (bndT 0 7 x y) ∧ Below w.heap.size w w' := by
  have X := Lib.hid (fun w' (h : Below w.heap.size w w') => bothValid_any mA mB A B x y w' (hA.below h) (hB.below h))
  cases hq : (okB x && okB y)
  · have E := Lib.hid (show bndT 0 7 x y = .leaf 7 by unfold bndT; rw [hq]; rfl)
    rw [hq] at X
    have Z := Lib.hid (fun w => tySimple_any 7 w)
    obtain ⟨k, l, av, c, rfl, rfl, _, _, _⟩ := hA
    obtain ⟨k2, l2, av2, c2, rfl, rfl, _, _, _⟩ := hB
    clear hq
    go_enter Tryd.func23, Tryd.ntmps23
    go_wp2_with fail
    go_fit (X.out _ (by repeat (first | exact Below.refl _ _ | refine Below.setCell ?_ (by simp <;> omega) _ | refine Below.alloc ?_ (by simp <;> omega) _)))
    rintro e w1 ⟨rfl, hb1⟩
    have TR := (TwoAt.new _ 24 (.int .i64 0) (.slice none 0 0)).below hb1
    have B1 := Lib.hid (Below.trans (show Below w.heap.size w _ from (by repeat (first | exact Below.refl _ _ | refine Below.setCell ?_ (by simp <;> omega) _ | refine Below.alloc ?_ (by simp <;> omega) _))) (hb1.mono (by simp <;> omega)))
    simp only [World.size_alloc] at TR
    clear hb1
    go_wp2_with fail
    go_fit (Z.out _)
    rintro e w2 ⟨rfl, hb2⟩
    have TR := TR.below hb2
    have B2 := Lib.hid (B1.out.trans (hb2.mono B1.out.size))
    have t0 := TR.cell0
    have t1 := TR.cell1
    have tf0 := TR.frozen 0
    have tf1 := TR.frozen 1
    clear hb2
    go_wp2_with fail
    have TR2 := (TR.set0 (.int .i64 7)).set1 (.slice none 0 0)
    have u0 := TR2.cell0
    have u1 := TR2.cell1
    exact bodyPost_ret (v := .agg #[.int .i64 7, .slice none 0 0]) (by simp [results, Tryd.f23, go_sem, u0, u1]) rfl ⟨.agg #[.int .i64 7, .slice none 0 0], rfl, by rw [E.out]; exact ⟨none, 0, rfl, trivial⟩, (B2.out.setCell (by simp <;> omega) _).setCell (by simp <;> omega) _⟩
  · have E := Lib.hid (show bndT 0 7 x y = bndC 0 7 (tcOf x) (tcOf y) by unfold bndT; rw [hq]; rfl)
    rw [hq] at X
    rw [Bool.and_eq_true] at hq
    have hC := Lib.hid (fun w' (h : Below w.heap.size w w') => meet_any (tcOf x) (tcOf y) A B w' (ok_tc hq.1).2.1 (ok_tc hq.2).2.1 ((isC_ok hA hq.1).below h) ((isC_ok hB hq.2).below h))
    have hR := bndC_ok 0 7 leaf7 (tcOf x) (tcOf y) (ok_tc hq.1).2.1 (ok_tc hq.2).2.1
    obtain ⟨k, l, av, c, rfl, rfl, _, _, _⟩ := hA
    obtain ⟨k2, l2, av2, c2, rfl, rfl, _, _, _⟩ := hB
    obtain ⟨r, hr⟩ : ∃ r, r = bndC 0 7 (tcOf (Ty.mk k l)) (tcOf (Ty.mk k2 l2)) := ⟨_, rfl⟩
    rw [← hr] at hC hR E
    have HY := Lib.hid (fun V w (h : IsC w V r) => copied_any r V w hR h)
    clear hq hr hR
    go_enter Tryd.func23, Tryd.ntmps23
    go_wp2_with fail
    go_fit (X.out _ (by repeat (first | exact Below.refl _ _ | refine Below.setCell ?_ (by simp <;> omega) _ | refine Below.alloc ?_ (by simp <;> omega) _)))
    rintro e w1 ⟨rfl, hb1⟩
    have TA := ((TwoAt.new _ 24 (.int .i64 k) (.slice av l.length c)).alloc (.cells #[.int .i64 k2, .slice av2 l2.length c2] 24)).alloc (.cells #[.int .i64 0, .slice none 0 0] 24) |>.below hb1
    have TB := ((TwoAt.new _ 24 (.int .i64 k2) (.slice av2 l2.length c2)).alloc (.cells #[.int .i64 0, .slice none 0 0] 24)).below hb1
    have TR := (TwoAt.new _ 24 (.int .i64 0) (.slice none 0 0)).below hb1
    have B1 := Lib.hid (Below.trans (show Below w.heap.size w _ from (by repeat (first | exact Below.refl _ _ | refine Below.setCell ?_ (by simp <;> omega) _ | refine Below.alloc ?_ (by simp <;> omega) _))) (hb1.mono (by simp <;> omega)))
    simp only [World.size_alloc] at TB TR
    have c0 := TA.cell0
    have c1 := TA.cell1
    have d0 := TB.cell0
    have d1 := TB.cell1
    clear hb1
    go_wp2_with fail
    go_fit (hC.out _ B1.out)
    rintro e w2 ⟨V, rfl, hV, hb2⟩
    have B2 := Lib.hid (B1.out.trans (hb2.mono B1.out.size))
    have TR := TR.below hb2
    have M := Lib.hid (HY.out V w2 hV)
    obtain ⟨rv, rc, rfl, _⟩ := hV
    clear hb2
    go_wp2_with fail
    go_fit (M.out)
    rintro e w3 ⟨V, rfl, hV, hb3⟩
    have hlt := TR.lt
    have B3 := Lib.hid (B2.out.trans (hb3.mono B2.out.size))
    have TR := TR.below hb3
    have HV := Lib.hid (IsP.below (P' := fun b => b < 0 ∨ w2.heap.size ≤ b) hV (fun b h => .inr h) (Below.refl _ _))
    obtain ⟨sv, sc, rfl, _⟩ := hV
    have t0 := TR.cell0
    have t1 := TR.cell1
    have tf0 := TR.frozen 0
    have tf1 := TR.frozen 1
    clear hb3
    go_wp2_with fail
    have TR2 := (TR.set0 (.int .i64 r.kd)).set1 (.slice sv r.ln sc)
    have u0 := TR2.cell0
    have u1 := TR2.cell1
    exact bodyPost_ret (v := .agg #[.int .i64 r.kd, .slice sv r.ln sc]) (by simp [results, Tryd.f23, go_sem, u0, u1]) rfl ⟨_, rfl, by rw [E.out]; exact isN_store HV.out hlt B2.out.size _ _, (B3.out.setCell (by simp <;> omega) _).setCell (by simp <;> omega) _⟩
end Go.Proofs.YtabopneehhnhfabDoor
