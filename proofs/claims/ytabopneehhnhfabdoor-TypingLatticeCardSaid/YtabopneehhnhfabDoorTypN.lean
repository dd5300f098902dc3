/- Contracts of the program's typeOf, Of, Fits (typing). -/
import Derived.Test.YtabopneehhnhfabDoorTypM
namespace Go.Proofs.YtabopneehhnhfabDoor
open Go.RowKit Go.Lib

theorem one_end {T : Tc} {w w2 w3 : World} {k : Int} {n2 g r rc : Nat} {ra : Option Addr} (hR : IsP (fun b => n2 ≤ b) w2 (.agg #[.int .i64 T.kd, .slice ra T.ln rc]) T) (hr : w.heap.size ≤ r) (hr2 : r < n2) (hr3 : r < w2.heap.size)
    (hg : w2.heap.size ≤ g ∧ g < w3.heap.size) (hc0 : w3.cell? ⟨g, 0, none⟩ = some (.int .i64 T.kd)) (hc1 : w3.cell? ⟨g, 1, none⟩ = some (.slice ra T.ln rc)) (hb3 : Below w2.heap.size w2 w3) (u v : Value) :
    IsP (fun b => w.heap.size ≤ b) ((w3.setCell ⟨r, 0, none⟩ u).setCell ⟨r, 1, none⟩ v) (.agg #[.int .i64 k, .slice (some ⟨g, 0, none⟩) 1 1]) (.node k T) := by
  obtain ⟨av, c, e, hT⟩ := hR
  injection e with e
  simp only [Array.mk.injEq, List.cons.injEq, Value.slice.injEq, true_and, and_true] at e
  obtain ⟨rfl, rfl⟩ := e
  have hs : ∀ b, b ≠ r → ((w3.setCell ⟨r, 0, none⟩ u).setCell ⟨r, 1, none⟩ v).heap[b]? = w3.heap[b]? := fun b h => (Below.heap_setCell _ _ _ b h).trans (Below.heap_setCell _ _ _ b h)
  refine ⟨some ⟨g, 0, none⟩, 1, rfl, g, 0, ra, rc, rfl, by omega, ?_, ?_, ?_, ?_⟩
  · simp [World.setCell]; exact hg.2
  · exact (cell_block (hs g (by omega))).trans hc0
  · exact (cell_block (hs g (by omega))).trans hc1
  · refine TailP.kept (fun b h => by omega) (fun b h hlt => ?_) T _ hT
    rw [hs b (by omega)]
    exact hb3.block b hlt

set_option maxHeartbeats 4000000 in
/-- typeOf of a list or a map. -/
theorem one_node (k : Int) (hk : k = 4 ∨ k = 5) (t : Bool) (i : Int) (s : ByteArray) (av kv : Option Addr) (l : Nat) (c kn kc : Nat) (w : World) (hT : TabT w) (T : Tc)
    (hl : ∀ w', Below w.heap.size w w' → Calls Tryd.prog 56 #[.slice av l c] w' fun e w'' => ∃ R, e = .returned R ∧ IsP (fun b => w'.heap.size ≤ b) w'' R T ∧ Below w'.heap.size w' w'') :
    Calls Tryd.prog 36 #[.agg #[.int .i64 k, .bool t, .int .i64 i, .string s, .slice av l c, .slice kv kn kc]] w fun e w' => ∃ R, e = .returned R ∧ IsP (fun b => w.heap.size ≤ b) w' R (.node (k + 1) T) ∧ Below w.heap.size w w' := by
  obtain ⟨c0, c1, c2, c3, c4, c5⟩ := kinds_cells hT
  have hg := World.block_lt_of_cell? w _ c0
  have Y := Lib.hid (fun w => tyCompound_any (k + 1) w)
  rw [node_yes (show nodeK (k + 1) by unfold nodeK; omega)] at Y
  have HL := Lib.hid hl
  have Z := Lib.hid (fun a v n c w => tyOf_any (k + 1) a v n c w)
  clear hT hl
  rcases hk with rfl | rfl
  · go_enter Tryd.func36, Tryd.ntmps36
    go_wp2_with fail
    go_fit (Y.out _)
    rintro e w1 ⟨rfl, rfl⟩
    go_wp2_with fail
    go_fit (HL.out _ (by repeat (first | exact Below.refl _ _ | refine Below.setCell ?_ (by simp <;> omega) _ | refine Below.alloc ?_ (by simp <;> omega) _)))
    rintro e w2 ⟨R, rfl, hR, hb2⟩
    have TR := (TwoAt.new _ 24 (.int .i64 0) (.slice none 0 0)).below hb2
    have B2 := Lib.hid (Below.trans (show Below w.heap.size w _ from (by repeat (first | exact Below.refl _ _ | refine Below.setCell ?_ (by simp <;> omega) _ | refine Below.alloc ?_ (by simp <;> omega) _))) (hb2.mono (by simp <;> omega)))
    simp only [World.size_alloc] at TR hR
    have HRR := Lib.hid hR
    obtain ⟨ra, rc, rfl, _⟩ := hR
    have zr := TR.lt
    clear hb2
    go_wp2_with fail
    go_fit (Z.out _ _ _ _ _)
    rintro e w3 ⟨g, rfl, hg', hc0, hc1, hb3⟩
    have TR3 := TR.below hb3
    have B3 := Lib.hid (B2.out.trans (hb3.mono B2.out.size))
    have HE := Lib.hid (one_end (w := w) (r := w.heap.size + 1) (k := 5) HRR.out (Nat.le_succ _) (by omega) (by omega) hg' hc0 hc1 hb3 (.int .i64 5) (.slice (some ⟨g, 0, none⟩) 1 1))
    have v0 := TR3.cell0
    have v1 := TR3.cell1
    have f0 := TR3.frozen 0
    have f1 := TR3.frozen 1
    clear hg' hc0 hc1 hb3
    go_wp2_with fail
    have TR4 := (TR3.set0 (.int .i64 5)).set1 (.slice (some ⟨g, 0, none⟩) 1 1)
    have u0 := TR4.cell0
    have u1 := TR4.cell1
    exact bodyPost_ret (v := .agg #[.int .i64 5, .slice (some ⟨g, 0, none⟩) 1 1]) (by simp [results, Tryd.f36, go_sem, u0, u1]) rfl ⟨_, rfl, HE.out, (B3.out.setCell (by simp <;> omega) _).setCell (by simp <;> omega) _⟩
  · go_enter Tryd.func36, Tryd.ntmps36
    go_wp2_with fail
    go_fit (Y.out _)
    rintro e w1 ⟨rfl, rfl⟩
    go_wp2_with fail
    go_fit (HL.out _ (by repeat (first | exact Below.refl _ _ | refine Below.setCell ?_ (by simp <;> omega) _ | refine Below.alloc ?_ (by simp <;> omega) _)))
    rintro e w2 ⟨R, rfl, hR, hb2⟩
    have TR := (TwoAt.new _ 24 (.int .i64 0) (.slice none 0 0)).below hb2
    have B2 := Lib.hid (Below.trans (show Below w.heap.size w _ from (by repeat (first | exact Below.refl _ _ | refine Below.setCell ?_ (by simp <;> omega) _ | refine Below.alloc ?_ (by simp <;> omega) _))) (hb2.mono (by simp <;> omega)))
    simp only [World.size_alloc] at TR hR
    have HRR := Lib.hid hR
    obtain ⟨ra, rc, rfl, _⟩ := hR
    have zr := TR.lt
    clear hb2
    go_wp2_with fail
    go_fit (Z.out _ _ _ _ _)
    rintro e w3 ⟨g, rfl, hg', hc0, hc1, hb3⟩
    have TR3 := TR.below hb3
    have B3 := Lib.hid (B2.out.trans (hb3.mono B2.out.size))
    have HE := Lib.hid (one_end (w := w) (r := w.heap.size + 1) (k := 6) HRR.out (Nat.le_succ _) (by omega) (by omega) hg' hc0 hc1 hb3 (.int .i64 6) (.slice (some ⟨g, 0, none⟩) 1 1))
    have v0 := TR3.cell0
    have v1 := TR3.cell1
    have f0 := TR3.frozen 0
    have f1 := TR3.frozen 1
    clear hg' hc0 hc1 hb3
    go_wp2_with fail
    have TR4 := (TR3.set0 (.int .i64 6)).set1 (.slice (some ⟨g, 0, none⟩) 1 1)
    have u0 := TR4.cell0
    have u1 := TR4.cell1
    exact bodyPost_ret (v := .agg #[.int .i64 6, .slice (some ⟨g, 0, none⟩) 1 1]) (by simp [results, Tryd.f36, go_sem, u0, u1]) rfl ⟨_, rfl, HE.out, (B3.out.setCell (by simp <;> omega) _).setCell (by simp <;> omega) _⟩

set_option maxHeartbeats 4000000 in
/-- typeOf of another value. -/
theorem one_leaf (k : Int) (h0 : 0 ≤ k) (h3 : k ≤ 3) (t : Bool) (i : Int) (s : ByteArray) (av kv : Option Addr) (l : Nat) (c kn kc : Nat) (w : World) (hT : TabT w) :
    Calls Tryd.prog 36 #[.agg #[.int .i64 k, .bool t, .int .i64 i, .string s, .slice av l c, .slice kv kn kc]] w fun e w' => ∃ R, e = .returned R ∧ IsP (fun b => w.heap.size ≤ b) w' R (.leaf (k + 1)) ∧ Below w.heap.size w w' := by
  obtain ⟨c0, c1, c2, c3, c4, c5⟩ := kinds_cells hT
  have hg := World.block_lt_of_cell? w _ c0
  have Y := Lib.hid (fun w => tyCompound_any (k + 1) w)
  rw [leaf_no (show leafK (k + 1) by unfold leafK; omega)] at Y
  have SI := Lib.hid (fun w => tySimple_any (k + 1) w)
  clear hT
  rcases (show k = 0 ∨ k = 1 ∨ k = 2 ∨ k = 3 by omega) with rfl | rfl | rfl | rfl
  all_goals
    clear h0 h3
    go_enter Tryd.func36, Tryd.ntmps36
    go_wp2_with fail
    go_fit (Y.out _)
    rintro e w1 ⟨rfl, rfl⟩
    go_wp2_with fail
    go_fit (SI.out _)
    rintro e w1 ⟨rfl, hb1⟩
    have TR := (TwoAt.new _ 24 (.int .i64 0) (.slice none 0 0)).below hb1
    have B1 := Lib.hid (Below.trans (show Below w.heap.size w _ from (by repeat (first | exact Below.refl _ _ | refine Below.setCell ?_ (by simp <;> omega) _ | refine Below.alloc ?_ (by simp <;> omega) _))) (hb1.mono (by simp <;> omega)))
    simp only [World.size_alloc] at TR
    have t0 := TR.cell0
    have t1 := TR.cell1
    have tf0 := TR.frozen 0
    have tf1 := TR.frozen 1
    clear hb1
    go_wp2_with fail
    have TR2 := fun x => (TR.set0 (.int .i64 x)).set1 (.slice none 0 0)
    have u0 := fun x => (TR2 x).cell0
    have u1 := fun x => (TR2 x).cell1
    exact bodyPost_ret (v := .agg #[.int .i64 _, .slice none 0 0]) (by simp [results, Tryd.f36, go_sem, u0, u1]; rfl) rfl ⟨_, rfl, ⟨none, 0, rfl, trivial⟩, (B1.out.setCell (by simp <;> omega) _).setCell (by simp <;> omega) _⟩

theorem one_any : ∀ m, One m := by
  have core : ∀ m (f : Vl → Tc), (∀ (n : Nat) (av : Option Addr) (l : List Vl) (c : Nat) (w : World), l.length ≤ 9223372036854775000 → (∀ y, y ∈ l → errV n y = 0) → ReadsV m w av l → TabT w →
      Calls Tryd.prog 56 #[.slice av l.length c] w fun e w' => ∃ R, e = .returned R ∧ IsP (fun b => w.heap.size ≤ b) w' R (tyAll f l) ∧ Below w.heap.size w w') →
      (∀ k t i s l ks, (m = 0 → l = []) → tyV m (.mk k t i s l ks) = if k = 4 ∨ k = 5 then .node (k + 1) (tyAll f l) else .leaf (k + 1)) → One m := by
    intro m f hf hty n V x w hx hV hT
    obtain ⟨k, t, i, s, l, ks, av, c, kv, kc, rfl, rfl, g0, g1, g2, g3, g4, g5, g6, g7, g8, g9, hs, hl⟩ := hV
    cases n with
    | zero => rw [errV_zero] at hx; cases hx
    | succ n =>
      obtain ⟨h1, h2⟩ := errV_parts hx
      obtain ⟨⟨a1, a2⟩, _⟩ := partE_zero h1
      rw [hty k t i s l ks (fun e => by subst e; exact hl)]
      by_cases hk : k = 4 ∨ k = 5
      · rw [if_pos hk]
        exact one_node k hk t i s av kv l.length c ks.length kc w hT _ (fun w' hb => hf n av l c w' (by omega) h2 (ReadsV.below hb m av l hl) (hT.below hb))
      · rw [if_neg hk]
        exact one_leaf k (by omega) (by omega) t i s av kv l.length c ks.length kc w hT
  intro m
  induction m with
  | zero =>
    refine core 0 (fun _ => .leaf 7) (fun n av l c w _ _ hr _ => ?_) (fun k t i s l ks h => ?_)
    · have hl : l = [] := hr
      subst hl
      exact all_none _ av c w
    · rw [h rfl]
      rfl
  | succ m ih => exact core (m + 1) (tyV m) (all_step m ih) (fun k t i s l ks _ => rfl)
end Go.Proofs.YtabopneehhnhfabDoor
