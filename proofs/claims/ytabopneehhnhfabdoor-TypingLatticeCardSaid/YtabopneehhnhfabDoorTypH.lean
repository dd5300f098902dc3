/- Contracts of the program's join, meet, copied, Join, Meet, Sub (typing). -/
import Derived.Test.YtabopneehhnhfabDoorTypG
namespace Go.Proofs.YtabopneehhnhfabDoor
open Go.RowKit Go.Lib

theorem pair70 : pairK 7 0 := .inl ⟨rfl, rfl⟩
theorem pair07 : pairK 0 7 := .inr ⟨rfl, rfl⟩
theorem isC_store {w0 W1s r : Nat} {w1 : World} {V : Value} {t : Tc} (h : IsP (fun b => b < w0 ∨ W1s ≤ b) w1 V t) (h1 : w0 ≤ r) (h2 : r < W1s) (u v : Value) : IsC ((w1.setCell ⟨r, 0, none⟩ u).setCell ⟨r, 1, none⟩ v) V t := by
  obtain ⟨av, c, e, h⟩ := h
  refine ⟨av, c, e, TailP.toC (P := fun _ => True) t av (TailP.kept (fun _ _ => trivial) (fun b hb hlt => ?_) t av h)⟩
  have hne : b ≠ r := by omega
  exact (Below.heap_setCell _ _ _ b hne).trans (Below.heap_setCell _ _ _ b hne)
set_option maxHeartbeats 1000000 in
theorem join_any (a b : Tc) (A B : Value) (w : World) (ha : a.ok) (hb : b.ok) (hA : IsC w A a) (hB : IsC w B b) :
    Calls Tryd.prog 44 #[A, B] w fun e w' => ∃ V, e = .returned V ∧ IsC w' V (bndC 7 0 a b) ∧ Below w.heap.size w w' := by
  have X := Lib.hid (fun w' (h : Below w.heap.size w w') => bound_any 7 0 pair70 a b A B w' (· < w.heap.size) (fun _ hb => Nat.lt_of_lt_of_le hb h.size) ha hb ((IsP.ofC hA).below (fun _ h => h) h) ((IsP.ofC hB).below (fun _ h => h) h))
  obtain ⟨av, ca, rfl, _⟩ := hA
  obtain ⟨bv, cb, rfl, _⟩ := hB
  generalize bndC 7 0 a b = r at *
  generalize a.kd = ka at *
  generalize a.ln = na at *
  generalize b.kd = kb at *
  generalize b.ln = nb at *
  go_enter Tryd.func44, Tryd.ntmps44
  go_wp2_with fail
  go_fit (X.out _ (by repeat (first | exact Below.refl _ _ | refine Below.setCell ?_ (by simp <;> omega) _ | refine Below.alloc ?_ (by simp <;> omega) _)))
  rintro e w1 ⟨V, rfl, hC, hb1⟩
  have TR := (TwoAt.new _ 24 (.int .i64 0) (.slice none 0 0)).below hb1
  have B1 := Lib.hid (Below.trans (show Below w.heap.size w _ from (by repeat (first | exact Below.refl _ _ | refine Below.setCell ?_ (by simp <;> omega) _ | refine Below.alloc ?_ (by simp <;> omega) _))) (hb1.mono (by simp <;> omega)))
  simp only [World.size_alloc] at TR hC
  have HC := Lib.hid hC
  obtain ⟨rv, rc, rfl, _⟩ := hC
  have t0 := TR.cell0
  have t1 := TR.cell1
  have tf0 := TR.frozen 0
  have tf1 := TR.frozen 1
  clear hb1
  go_wp2_with fail
  have TR2 := (TR.set0 (.int .i64 r.kd)).set1 (.slice rv r.ln rc)
  have u0 := TR2.cell0
  have u1 := TR2.cell1
  exact bodyPost_ret (v := .agg #[.int .i64 r.kd, .slice rv r.ln rc]) (by simp [results, Tryd.f44, go_sem, u0, u1]) rfl ⟨_, rfl, isC_store HC.out (by omega) (by omega) _ _, (B1.out.setCell (by simp <;> omega) _).setCell (by simp <;> omega) _⟩
set_option maxHeartbeats 1000000 in
theorem meet_any (a b : Tc) (A B : Value) (w : World) (ha : a.ok) (hb : b.ok) (hA : IsC w A a) (hB : IsC w B b) :
    Calls Tryd.prog 46 #[A, B] w fun e w' => ∃ V, e = .returned V ∧ IsC w' V (bndC 0 7 a b) ∧ Below w.heap.size w w' := by
  have X := Lib.hid (fun w' (h : Below w.heap.size w w') => bound_any 0 7 pair07 a b A B w' (· < w.heap.size) (fun _ hb => Nat.lt_of_lt_of_le hb h.size) ha hb ((IsP.ofC hA).below (fun _ h => h) h) ((IsP.ofC hB).below (fun _ h => h) h))
  obtain ⟨av, ca, rfl, _⟩ := hA
  obtain ⟨bv, cb, rfl, _⟩ := hB
  generalize bndC 0 7 a b = r at *
  generalize a.kd = ka at *
  generalize a.ln = na at *
  generalize b.kd = kb at *
  generalize b.ln = nb at *
  go_enter Tryd.func46, Tryd.ntmps46
  go_wp2_with fail
  go_fit (X.out _ (by repeat (first | exact Below.refl _ _ | refine Below.setCell ?_ (by simp <;> omega) _ | refine Below.alloc ?_ (by simp <;> omega) _)))
  rintro e w1 ⟨V, rfl, hC, hb1⟩
  have TR := (TwoAt.new _ 24 (.int .i64 0) (.slice none 0 0)).below hb1
  have B1 := Lib.hid (Below.trans (show Below w.heap.size w _ from (by repeat (first | exact Below.refl _ _ | refine Below.setCell ?_ (by simp <;> omega) _ | refine Below.alloc ?_ (by simp <;> omega) _))) (hb1.mono (by simp <;> omega)))
  simp only [World.size_alloc] at TR hC
  have HC := Lib.hid hC
  obtain ⟨rv, rc, rfl, _⟩ := hC
  have t0 := TR.cell0
  have t1 := TR.cell1
  have tf0 := TR.frozen 0
  have tf1 := TR.frozen 1
  clear hb1
  go_wp2_with fail
  have TR2 := (TR.set0 (.int .i64 r.kd)).set1 (.slice rv r.ln rc)
  have u0 := TR2.cell0
  have u1 := TR2.cell1
  exact bodyPost_ret (v := .agg #[.int .i64 r.kd, .slice rv r.ln rc]) (by simp [results, Tryd.f46, go_sem, u0, u1]) rfl ⟨_, rfl, isC_store HC.out (by omega) (by omega) _ _, (B1.out.setCell (by simp <;> omega) _).setCell (by simp <;> omega) _⟩

/-- What a region of loads beside calls holds: a box of a type and its element type; a block for the result. -/
def S5 (w : World) (k : Int) (ba oa ca : Nat) (x0 x1 : Value) (w' : World) : Prop :=
  w'.cell? ⟨w.heap.size, 0, none⟩ = some (.int .i64 k) ∧ w'.cell? ⟨w.heap.size, 1, none⟩ = some (.slice (some ⟨ba, oa, none⟩) 1 ca) ∧
    w'.cell? ⟨ba, oa, none⟩ = some x0 ∧ w'.cell? ⟨ba, oa + 1, none⟩ = some x1 ∧ Below w.heap.size w w' ∧ (∃ x y, TwoAt w' (w.heap.size + 1) 24 x y)
theorem S5.of {w : World} {k : Int} {ba oa ca : Nat} {x0 x1 : Value} {w1 w2 : World} (h : S5 w k ba oa ca x0 x1 w1) (za : ba < w.heap.size)
    (hk : ∀ b, b < w.heap.size + 1 → w2.heap[b]? = w1.heap[b]?) (hb : Below w.heap.size w w2) (ht : ∃ x y, TwoAt w2 (w.heap.size + 1) 24 x y) : S5 w k ba oa ca x0 x1 w2 := by
  obtain ⟨a1, a2, a4, a5, _, _⟩ := h
  exact ⟨(cell_block (hk _ (by omega))).trans a1, (cell_block (hk _ (by omega))).trans a2, (cell_block (hk _ (by omega))).trans a4, (cell_block (hk _ (by omega))).trans a5, hb, ht⟩
theorem S5.below {w : World} {k : Int} {ba oa ca : Nat} {x0 x1 : Value} {w1 w2 : World} (za : ba < w.heap.size) (h : S5 w k ba oa ca x0 x1 w1) (hb : Below w1.heap.size w1 w2) : S5 w k ba oa ca x0 x1 w2 := by
  have h' := h
  obtain ⟨_, _, _, _, h8, x, y, h9⟩ := h'
  have hz := h9.lt
  exact h.of za (fun b hlt => hb.block b (by omega)) (h8.trans (hb.mono (by omega))) ⟨x, y, h9.below hb⟩
theorem S5.drew {w : World} {k : Int} {ba oa ca : Nat} {x0 x1 : Value} {w1 : World} (h : S5 w k ba oa ca x0 x1 w1) : S5 w k ba oa ca x0 x1 w1.drew := by
  obtain ⟨a1, a2, a4, a5, h8, x, y, h9⟩ := h
  exact ⟨a1, a2, a4, a5, h8.drew, x, y, h9.drew⟩
theorem S5.set2 {w : World} {k : Int} {ba oa ca : Nat} {x0 x1 : Value} {w1 : World} (za : ba < w.heap.size) (u v : Value) (h : S5 w k ba oa ca x0 x1 w1) :
    S5 w k ba oa ca x0 x1 ((w1.setCell ⟨w.heap.size + 1, 0, none⟩ u).setCell ⟨w.heap.size + 1, 1, none⟩ v) := by
  have h' := h
  obtain ⟨_, _, _, _, h8, x, y, h9⟩ := h'
  refine h.of za (fun b hlt => ?_) ((h8.setCell (p := ⟨w.heap.size + 1, 0, none⟩) (show w.heap.size ≤ w.heap.size + 1 by omega) _).setCell (p := ⟨w.heap.size + 1, 1, none⟩) (show w.heap.size ≤ w.heap.size + 1 by omega) _) ⟨_, _, (h9.set0 u).set1 v⟩
  exact (Below.heap_setCell _ _ _ b (show b ≠ w.heap.size + 1 by omega)).trans (Below.heap_setCell _ _ _ b (show b ≠ w.heap.size + 1 by omega))
theorem S5.tw {w : World} {k : Int} {ba oa ca : Nat} {x0 x1 : Value} {w1 : World} (h : S5 w k ba oa ca x0 x1 w1) : ∃ x y, TwoAt w1 (w.heap.size + 1) 24 x y := h.2.2.2.2.2
theorem copied_end {w W0 w2 w3 : World} {k : Int} {t : Tc} {g cx2 : Nat} {av2 : Option Addr} (hb0 : Below w.heap.size w W0) (h0 : w.heap.size + 1 < W0.heap.size)
    (hb2 : Below W0.heap.size W0 w2) (hT2 : TailP (fun b => W0.heap.size ≤ b) w2 av2 t) (hg : w2.heap.size ≤ g ∧ g < w3.heap.size) (hc0 : w3.cell? ⟨g, 0, none⟩ = some (.int .i64 t.kd)) (hc1 : w3.cell? ⟨g, 1, none⟩ = some (.slice av2 t.ln cx2)) (hb3 : Below w2.heap.size w2 w3) (u v : Value) :
    IsP (fun b => w.heap.size ≤ b) ((w3.setCell ⟨w.heap.size + 1, 0, none⟩ u).setCell ⟨w.heap.size + 1, 1, none⟩ v) (.agg #[.int .i64 k, .slice (some ⟨g, 0, none⟩) 1 1]) (.node k t) ∧
      Below w.heap.size w ((w3.setCell ⟨w.heap.size + 1, 0, none⟩ u).setCell ⟨w.heap.size + 1, 1, none⟩ v) := by
  have z2 := hb2.size
  have z3 := hb3.size
  have zw := hb0.size
  have B3 : Below w.heap.size w w3 := (hb0.trans (hb2.mono zw)).trans (hb3.mono (by omega))
  have hs : ∀ b, b ≠ w.heap.size + 1 → ((w3.setCell ⟨w.heap.size + 1, 0, none⟩ u).setCell ⟨w.heap.size + 1, 1, none⟩ v).heap[b]? = w3.heap[b]? := fun b h => (Below.heap_setCell _ _ _ b h).trans (Below.heap_setCell _ _ _ b h)
  refine ⟨⟨some ⟨g, 0, none⟩, 1, rfl, g, 0, av2, cx2, rfl, by omega, ?_, ?_, ?_, ?_⟩, (B3.setCell (p := ⟨w.heap.size + 1, 0, none⟩) (show w.heap.size ≤ w.heap.size + 1 by omega) _).setCell (p := ⟨w.heap.size + 1, 1, none⟩) (show w.heap.size ≤ w.heap.size + 1 by omega) _⟩
  · simp [World.setCell]; exact hg.2
  · exact (cell_block (hs g (by omega))).trans hc0
  · exact (cell_block (hs g (by omega))).trans hc1
  · refine TailP.kept (fun b h => by omega) (fun b h hlt => ?_) t av2 hT2
    rw [hs b (by omega)]
    exact hb3.block b hlt

set_option maxHeartbeats 1000000 in
/-- The copy of a chain. -/
theorem copied_any : ∀ (t : Tc) (V : Value) (w : World), t.ok → IsC w V t → Calls Tryd.prog 43 #[V] w fun e w' => ∃ V', e = .returned V' ∧ IsP (fun b => w.heap.size ≤ b) w' V' t ∧ Below w.heap.size w w' := by
  intro t
  induction t with
  | leaf k =>
    intro V w ht hV
    obtain ⟨av, c, rfl, hT⟩ := hV
    have Y := Lib.hid (fun w => tyCompound_any k w)
    have hn : nodeB k = false := by
      have ha' : k = 0 ∨ k = 1 ∨ k = 2 ∨ k = 3 ∨ k = 4 ∨ k = 7 := ht
      simp [nodeB]
      omega
    rw [hn] at Y
    have Z := Lib.hid (fun w => tySimple_any k w)
    clear hn ht hT
    show Calls Tryd.prog 43 #[.agg #[.int .i64 k, .slice av 0 c]] w _
    go_enter Tryd.func43, Tryd.ntmps43
    go_wp2_with fail
    go_fit (Y.out _)
    rintro e w1 ⟨rfl, rfl⟩
    go_wp2_with fail
    go_fit (Z.out _)
    rintro e w1 ⟨rfl, hb1⟩
    have TR := (TwoAt.new _ 24 (.int .i64 0) (.slice none 0 0)).below hb1
    have B1 := Lib.hid (Below.trans (show Below w.heap.size w _ from (by repeat (first | exact Below.refl _ _ | refine Below.setCell ?_ (by simp <;> omega) _ | refine Below.alloc ?_ (by simp <;> omega) _))) (hb1.mono (by simp <;> omega)))
    simp only [World.size_alloc] at TR
    have t0 := TR.cell0
    have t1 := TR.cell1
    have tf0 := TR.frozen 0
    have tf1 := TR.frozen 1
    clear hb1
    go_wp2_with fail
    have TR2 := (TR.set0 (.int .i64 k)).set1 (.slice none 0 0)
    have u0 := TR2.cell0
    have u1 := TR2.cell1
    exact bodyPost_ret (v := .agg #[.int .i64 k, .slice none 0 0]) (by simp [results, Tryd.f43, go_sem, u0, u1]) rfl ⟨.agg #[.int .i64 k, .slice none 0 0], rfl, ⟨none, 0, rfl, trivial⟩, (B1.out.setCell (by simp <;> omega) _).setCell (by simp <;> omega) _⟩
  | node k s ih =>
    intro V w ht hV
    obtain ⟨av, c, rfl, ba, oa, xa, ya, rfl, za, p0, p1, hTA2⟩ := hV
    have HIH := Lib.hid (ih)
    have HT := Lib.hid hTA2
    have hso := ht.2
    have Y := Lib.hid (fun w => tyCompound_any k w)
    have hn : nodeB k = true := by
      have ha' : k = 5 ∨ k = 6 := ht.1
      simp [nodeB]
      omega
    rw [hn] at Y
    have Z := Lib.hid (fun a v n c w => tyOf_any k a v n c w)
    clear hn ht hTA2 ih
    show Calls Tryd.prog 43 #[.agg #[.int .i64 k, .slice (some ⟨ba, oa, none⟩) 1 c]] w _
    go_enter Tryd.func43, Tryd.ntmps43
    go_wp2_with fail
    go_fit (Y.out _)
    rintro e w1 ⟨rfl, rfl⟩
    go_wp2_with fail
    have TA := (TwoAt.new w 24 (.int .i64 k) (.slice (some ⟨ba, oa, none⟩) 1 c)).alloc (.cells #[.int .i64 0, .slice none 0 0] 24)
    have TR := TwoAt.new (w.alloc (.cells #[.int .i64 k, .slice (some ⟨ba, oa, none⟩) 1 c] 24)) 24 (.int .i64 0) (.slice none 0 0)
    have B0 : Below w.heap.size w ((w.alloc (.cells #[.int .i64 k, .slice (some ⟨ba, oa, none⟩) 1 c] 24)).alloc (.cells #[.int .i64 0, .slice none 0 0] 24)) := by
      repeat (first | exact Below.refl _ _ | refine Below.alloc ?_ (by simp <;> omega) _)
    obtain ⟨W0, hW0⟩ : ∃ W0, W0 = (w.alloc (.cells #[.int .i64 k, .slice (some ⟨ba, oa, none⟩) 1 c] 24)).alloc (.cells #[.int .i64 0, .slice none 0 0] 24) := ⟨_, rfl⟩
    rw [← hW0] at TA TR B0 ⊢
    simp only [World.size_alloc] at TR
    clear hW0
    have hs0 : S5 w k ba oa c (.int .i64 s.kd) (.slice xa s.ln ya) W0 := ⟨TA.cell0, TA.cell1, (B0.cell (p := ⟨ba, _, none⟩) za).trans p0, (B0.cell (p := ⟨ba, _, none⟩) za).trans p1, B0, _, _, TR⟩
    have IH := Lib.hid (fun w' (h : S5 w k ba oa c (.int .i64 s.kd) (.slice xa s.ln ya) w') => HIH.out (.agg #[.int .i64 s.kd, .slice xa s.ln ya]) w' hso ⟨xa, ya, rfl, TailC.below h.2.2.2.2.1 s xa HT.out⟩)
    clear B0 p0 p1 TA TR HIH Y
    go_region_held3 (fun w' => w'.cell? ⟨w.heap.size, 0, none⟩ = some (.int .i64 k) ∧ w'.cell? ⟨w.heap.size, 1, none⟩ = some (.slice (some ⟨ba, oa, none⟩) 1 c) ∧ w'.cell? ⟨ba, oa, none⟩ = some (.int .i64 s.kd) ∧ w'.cell? ⟨ba, oa + 1, none⟩ = some (.slice xa s.ln ya) ∧ Below w.heap.size w w' ∧ (∃ x y, TwoAt w' (w.heap.size + 1) 24 x y)) (first | exact S5.drew hs0 | exact S5.below za (by assumption) (by assumption) | exact S5.set2 za _ _ (by assumption)) (first
      | (go_at_call 43; go_fit (IH.out _ (by assumption)); rintro e w2 ⟨V, rfl, ⟨av2, cx2, rfl, hT2⟩, hb2⟩)
      | (go_at_call 55; go_fit (Z.out _ _ _ _ _); rintro e w3 ⟨g, rfl, hg, hc0, hc1, hb3⟩; obtain ⟨_, _, TR3⟩ := two_of (S5.tw (w := w) (k := k) (ba := ba) (oa := oa) (ca := c) (x0 := .int .i64 s.kd) (x1 := .slice xa s.ln ya) (by assumption)) hb3; have k0 := TR3.cell0; have k1 := TR3.cell1; have kf0 := TR3.frozen 0; have kf1 := TR3.frozen 1))
    go_wp2_with fail
    have TR4 := (TR3.set0 (.int .i64 k)).set1 (.slice (some ⟨g, 0, none⟩) 1 1)
    have u0 := TR4.cell0
    have u1 := TR4.cell1
    have hend := copied_end (k := k) hs0.drew.2.2.2.2.1 (by have := hs0.drew.tw; obtain ⟨_, _, h⟩ := this; exact h.lt) hb2 hT2 hg hc0 hc1 hb3 (.int .i64 k) (.slice (some ⟨g, 0, none⟩) 1 1)
    clear hb2 hT2 hg hc0 hc1 hb3 IH Z
    exact bodyPost_ret (v := .agg #[.int .i64 k, .slice (some ⟨g, 0, none⟩) 1 1]) (by simp [results, Tryd.f43, go_sem, u0, u1]) rfl ⟨_, rfl, hend.1, hend.2⟩
end Go.Proofs.YtabopneehhnhfabDoor
