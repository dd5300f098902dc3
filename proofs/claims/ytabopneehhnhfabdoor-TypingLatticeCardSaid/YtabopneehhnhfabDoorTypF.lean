/- Contract of the program's contained (typing). -/
import Derived.Test.YtabopneehhnhfabDoorTypE
import Derived.Deep.QuietTactic
import Derived.BigQuiet
import Derived.Deep.RegionWith
import Derived.RegionTactic
import Derived.BigRegion
namespace Go.Proofs.YtabopneehhnhfabDoor
open Go.RowKit Go.Lib

theorem exists_least (R : Nat → Prop) (h : ∃ k, R k) : ∃ k, R k ∧ ∀ j, R j → k ≤ j := by
  obtain ⟨k, hk⟩ := h
  induction k using Nat.strongRecOn with
  | ind k ih =>
    by_cases hex : ∃ j, j < k ∧ R j
    · obtain ⟨j, hj, hR⟩ := hex
      exact ih j hj hR
    · exact ⟨k, hk, fun j hj => Nat.le_of_not_lt fun hlt => hex ⟨j, hlt, hj⟩⟩
/-- The least number of which a relation holds. -/
noncomputable def lst (R : Nat → Prop) : Nat := @dite _ (∃ k, R k) (Classical.propDecidable _) (fun h => Classical.choose (exists_least R h)) (fun _ => 0)
theorem lst_spec {R : Nat → Prop} (h : ∃ k, R k) : R (lst R) ∧ ∀ j, R j → lst R ≤ j := by
  unfold lst
  rw [dif_pos h]
  exact Classical.choose_spec (exists_least R h)

theorem node_form {a : Tc} (ha : a.ok) (h : nodeB a.kd = true) : ∃ s, a = .node a.kd s ∧ s.ok := by
  cases a with
  | leaf k =>
    have ha' : k = 0 ∨ k = 1 ∨ k = 2 ∨ k = 3 ∨ k = 4 ∨ k = 7 := ha
    simp [nodeB, Tc.kd] at h
    omega
  | node k s => exact ⟨s, rfl, ha.2⟩
theorem leaf_form {a : Tc} (ha : a.ok) (h : nodeB a.kd = false) : a = .leaf a.kd := by
  cases a with
  | leaf k => rfl
  | node k s =>
    have ha' : k = 5 ∨ k = 6 := ha.1
    simp [nodeB, Tc.kd] at h
    omega
theorem sub_exit {a b : Tc} (ha : a.ok) (hb : b.ok) (h : (a.kd == b.kd && nodeB a.kd) = false) : subC a b = (a.kd == 7 || b.kd == 0 || a.kd == b.kd) := by
  cases a with
  | leaf k =>
    cases b with
    | leaf j => rfl
    | node j t =>
      have hb' : j = 5 ∨ j = 6 := hb.1
      have ha' : k = 0 ∨ k = 1 ∨ k = 2 ∨ k = 3 ∨ k = 4 ∨ k = 7 := ha
      show (k == 7) = (k == 7 || j == 0 || k == j)
      have e1 : (j == 0) = false := by rw [beq_eq_false_iff_ne]; omega
      have e2 : (k == j) = false := by rw [beq_eq_false_iff_ne]; omega
      rw [e1, e2, Bool.or_false, Bool.or_false]
  | node k s =>
    have ha' : k = 5 ∨ k = 6 := ha.1
    have e7 : (k == 7) = false := by rw [beq_eq_false_iff_ne]; omega
    cases b with
    | leaf j =>
      have hb' : j = 0 ∨ j = 1 ∨ j = 2 ∨ j = 3 ∨ j = 4 ∨ j = 7 := hb
      show (j == 0) = (k == 7 || j == 0 || k == j)
      have e2 : (k == j) = false := by rw [beq_eq_false_iff_ne]; omega
      rw [e7, e2, Bool.or_false, Bool.false_or]
    | node j t =>
      have hb' : j = 5 ∨ j = 6 := hb.1
      have e0 : (j == 0) = false := by rw [beq_eq_false_iff_ne]; omega
      have hn : nodeB k = true := by simp [nodeB]; omega
      have e2 : (k == j) = false := by
        have h' : (k == j && nodeB k) = false := h
        rw [hn, Bool.and_true] at h'
        exact h'
      show (k == j && subC s t) = (k == 7 || j == 0 || k == j)
      rw [e7, e0, e2]
      rfl
theorem sub_same {k : Int} {s t : Tc} : subC (.node k s) (.node k t) = subC s t := by
  show (k == k && subC s t) = subC s t
  simp

def CRel (w : World) (r : Bool) (k : Nat) (wr : World) : Prop := ∃ (a b : Tc) (av bv : Option Addr) (ca cb : Nat), a.deep = k ∧ a.ok ∧ b.ok ∧ r = subC a b ∧ TailC w av a ∧ TailC w bv b ∧ TwoAt wr w.heap.size 24 (.int .i64 a.kd) (.slice av a.ln ca) ∧ TwoAt wr (w.heap.size + 1) 24 (.int .i64 b.kd) (.slice bv b.ln cb) ∧ Below w.heap.size w wr

theorem TwoAt.other {w : World} {b : Nat} {t : TypeId} {x y : Value} (h : TwoAt w b t x y) {c : Nat} (hc : b ≠ c) (k : Nat) (u : Value) : TwoAt (w.setCell ⟨c, k, none⟩ u) b t x y := h.of_block (Below.heap_setCell _ _ _ b hc)
theorem CRel.next {w wr : World} {r : Bool} {s t : Tc} {xa xb : Option Addr} {ya yb : Nat} {x1 y1 x2 y2 : Value} {n : Nat} (hr : r = subC s t) (hA : TailC w xa s) (hB : TailC w xb t) (hs : s.ok) (ht : t.ok)
    (TA : TwoAt wr w.heap.size 24 x1 y1) (TB : TwoAt wr (w.heap.size + 1) 24 x2 y2) (hb : Below w.heap.size w wr) (hn : n = w.heap.size) :
    CRel w r s.deep ((((wr.setCell ⟨n, 0, none⟩ (.int .i64 s.kd)).setCell ⟨n, 1, none⟩ (.slice xa s.ln ya)).setCell ⟨n + 1, 0, none⟩ (.int .i64 t.kd)).setCell ⟨n + 1, 1, none⟩ (.slice xb t.ln yb)).drew := by
  subst hn
  refine ⟨s, t, xa, xb, ya, yb, rfl, hs, ht, hr, hA, hB, ?_, ?_, ?_⟩
  · exact (((((TA.set0 _).set1 _).other (by omega) _ _).other (by omega) _ _)).drew
  · exact ((((TB.other (by omega) _ _).other (by omega) _ _).set0 _).set1 _).drew
  · exact below_drewN ((((hb.setCell (p := ⟨w.heap.size, 0, none⟩) (Nat.le_refl _) _).setCell (p := ⟨w.heap.size, 1, none⟩) (Nat.le_refl _) _).setCell (p := ⟨w.heap.size + 1, 0, none⟩) (Nat.le_succ _) _).setCell (p := ⟨w.heap.size + 1, 1, none⟩) (Nat.le_succ _) _) 1

set_option maxHeartbeats 4000000 in
theorem contained_any (a b : Tc) (A B : Value) (w : World) (ha : a.ok) (hb : b.ok) (hA : IsC w A a) (hB : IsC w B b) :
    Calls Tryd.prog 39 #[A, B] w fun e w' => e = .returned (.bool (subC a b)) ∧ Below w.heap.size w w' := by
  obtain ⟨av, ca, rfl, hTA⟩ := hA
  obtain ⟨bv, cb, rfl, hTB⟩ := hB
  have Y := Lib.hid (fun k w => tyCompound_any k w)
  obtain ⟨r, hr⟩ : ∃ r, r = subC a b := ⟨_, rfl⟩
  rw [← hr]
  have H0 := Lib.hid (show CRel w r a.deep ((w.alloc (.cells #[.int .i64 a.kd, .slice av a.ln ca] 24)).alloc (.cells #[.int .i64 b.kd, .slice bv b.ln cb] 24)) from
    ⟨a, b, av, bv, ca, cb, rfl, ha, hb, hr, hTA, hTB, (TwoAt.new _ _ _ _).alloc _, by simpa using TwoAt.new (w.alloc (.cells #[.int .i64 a.kd, .slice av a.ln ca] 24)) 24 (.int .i64 b.kd) (.slice bv b.ln cb), ((Below.refl _ _).alloc (Nat.le_refl _) _).alloc (by simp) _⟩)
  clear hr hTA hTB ha hb
  go_enter Tryd.func39, Tryd.ntmps39
  go_wp2_with fail
  go_loopw [] (fun wr => ∃ k, CRel w r k wr) (fun wr => lst (fun k => CRel w r k wr))
  case atStart => exact ⟨_, H0.out⟩
  case round =>
    obtain ⟨hk, hmin⟩ := lst_spec hrel
    obtain ⟨L, hL⟩ : ∃ L, L = lst (fun k => CRel w r k wr) := ⟨_, rfl⟩
    rw [← hL] at hk hmin ⊢
    have HMIN := Lib.hid hmin
    clear hrel H0 hmin hL
    obtain ⟨a', b', av', bv', ca', cb', hd, ha, hb, hr, hTA, hTB, TA, TB, hbel⟩ := hk
    cases hq : (a'.kd == b'.kd && nodeB a'.kd)
    · have c0 := TA.cell0
      have c1 := TA.cell1
      have d0 := TB.cell0
      have d1 := TB.cell1
      have HX := Lib.hid (show r = (a'.kd == 7 || b'.kd == 0 || a'.kd == b'.kd) by rw [hr]; exact sub_exit ha hb hq)
      have HBL := Lib.hid hbel
      have Y1 := Lib.hid (fun w => Y.out a'.kd w)
      clear hr ha hb hTA hTB hd hbel HMIN TA TB Y
      generalize a'.kd = ka at *
      generalize b'.kd = kb at *
      cases he : (ka == kb)
      · rw [he, Bool.or_false] at HX
        clear hq
        cases h7 : (ka == 7) <;> cases h0 : (kb == 0)
        all_goals
          rw [h7, h0] at HX
          go_wp2_with fail
          go_ret
          exact ⟨by rw [HX.out]; rfl, HBL.out⟩
      · rw [he, Bool.true_and] at hq
        rw [hq] at Y1
        rw [he, Bool.or_true] at HX
        clear hq
        cases h7 : (ka == 7) <;> cases h0 : (kb == 0)
        all_goals
          go_wp2_with fail
          go_fit (Y1.out _)
          rintro e w1 ⟨rfl, rfl⟩
          go_wp2_with fail
          go_ret
          exact ⟨by rw [HX.out]; rfl, HBL.out⟩
    · rw [Bool.and_eq_true] at hq
      obtain ⟨hq1, hq2⟩ := hq
      have hkk : a'.kd = b'.kd := by simpa using hq1
      obtain ⟨s', hs', hso⟩ := node_form ha hq2
      obtain ⟨t', ht', hto⟩ := node_form hb (by rw [← hkk]; exact hq2)
      rw [← hkk] at ht'
      obtain ⟨k, hk⟩ : ∃ k, k = a'.kd := ⟨_, rfl⟩
      rw [← hk] at hs' ht' hq2
      clear hk hkk hq1
      subst hs' ht'
      obtain ⟨ba, oa, xa, ya, rfl, za, p0, p1, hTA2⟩ := hTA
      obtain ⟨bb, ob, xb, yb, rfl, zb, q0, q1, hTB2⟩ := hTB
      have c0 : wr.cell? ⟨w.heap.size, 0, none⟩ = some (.int .i64 k) := TA.cell0
      have c1 : wr.cell? ⟨w.heap.size, 1, none⟩ = some (.slice (some ⟨ba, oa, none⟩) 1 ca') := TA.cell1
      have d0 : wr.cell? ⟨w.heap.size + 1, 0, none⟩ = some (.int .i64 k) := TB.cell0
      have d1 : wr.cell? ⟨w.heap.size + 1, 1, none⟩ = some (.slice (some ⟨bb, ob, none⟩) 1 cb') := TB.cell1
      have f0 := TA.frozen 0
      have f1 := TA.frozen 1
      have g0 := TB.frozen 0
      have g1 := TB.frozen 1
      have r0 := (hbel.cell (p := ⟨ba, _, none⟩) za).trans p0
      have r1 := (hbel.cell (p := ⟨ba, _, none⟩) za).trans p1
      have s0 := (hbel.cell (p := ⟨bb, _, none⟩) zb).trans q0
      have s1 := (hbel.cell (p := ⟨bb, _, none⟩) zb).trans q1
      have na : ba ≠ w.heap.size := by omega
      have na1 : ba ≠ w.heap.size + 1 := by omega
      have nb : bb ≠ w.heap.size := by omega
      have nb1 : bb ≠ w.heap.size + 1 := by omega
      have Y1 := Lib.hid (fun w => Y.out k w)
      rw [hq2] at Y1
      have HR := Lib.hid (show r = subC s' t' by rw [hr, sub_same])
      have HD := Lib.hid (show s'.deep + 1 = L from hd)
      have HTA := Lib.hid hTA2
      have HTB := Lib.hid hTB2
      have HBL := Lib.hid hbel
      clear hr ha hb hd hbel HMIN Y p0 p1 q0 q1 hTA2 hTB2 hq2
      go_wp2_with fail
      go_fit (Y1.out _)
      rintro e w1 ⟨rfl, rfl⟩
      go_wp2_with fail
      go_region
      go_wp2_with fail
      clear Y1 c0 c1 d0 d1 f0 f1 g0 g1 r0 r1 s0 s1 na na1 nb nb1
      have N := CRel.next HR.out HTA.out HTB.out hso hto TA TB HBL.out (ya := ya) (yb := yb) (n := w.heap.size) rfl
      exact ⟨⟨_, N⟩, by have h1 := (lst_spec (R := fun k => CRel w r k _) ⟨_, N⟩).2 _ N; have h2 := HD.out; omega⟩
end Go.Proofs.YtabopneehhnhfabDoor
