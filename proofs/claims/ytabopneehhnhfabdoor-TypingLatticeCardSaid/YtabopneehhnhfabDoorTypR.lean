/- Contracts of the document's holds, Plain, With, check, Valid, Same, good of types. -/
import Derived.Test.YtabopneehhnhfabDoorTypI
namespace Go.Proofs.YtabopneehhnhfabDoor
open Go.RowKit Go.Lib

theorem rHolds_any (k : Int) (w : World) : Calls Tryd.prog 53 #[.int .i64 k] w fun e w' => e = .returned (.bool (nodeB k)) ∧ w = w' := by
  go_enter Tryd.func53, Tryd.ntmps53
  go_wp2_with fail
  all_goals
    go_ret
    exact ⟨by simp_all [nodeB], rfl⟩
theorem rPlain_any (k : Int) (w : World) : Calls Tryd.prog 37 #[.int .i64 k] w fun e w' => e = .returned (.agg #[.int .i64 k, .slice none 0 0]) ∧ Below w.heap.size w w' := by
  go_enter Tryd.func37, Tryd.ntmps37
  go_wp2_with fail
  exact bodyPost_ret (v := .agg #[.int .i64 k, .slice none 0 0]) (by simp [results, Tryd.f37, go_sem]) rfl ⟨rfl, (by repeat (first | exact Below.refl _ _ | refine Below.setCell ?_ (by simp <;> omega) _ | refine Below.alloc ?_ (by simp <;> omega) _))⟩
theorem rWith_any (k a : Int) (v : Option Addr) (n c : Nat) (w : World) : Calls Tryd.prog 33 #[.int .i64 k, .agg #[.int .i64 a, .slice v n c]] w fun e w' => ∃ b, e = .returned (.agg #[.int .i64 k, .slice (some ⟨b, 0, none⟩) 1 1]) ∧ (w.heap.size ≤ b ∧ b < w'.heap.size) ∧ w'.cell? ⟨b, 0, none⟩ = some (.int .i64 a) ∧ w'.cell? ⟨b, 1, none⟩ = some (.slice v n c) ∧ Below w.heap.size w w' := by
  go_enter Tryd.func33, Tryd.ntmps33
  go_wp2_with fail
  exact bodyPost_ret (v := .agg #[.int .i64 k, .slice (some ⟨w.heap.size + 1 + 1, 0, none⟩) 1 1]) (by simp [results, Tryd.f33, go_sem]) rfl ⟨w.heap.size + 1 + 1, rfl, by (simp; try omega), by simp [go_sem], by simp [go_sem], (by repeat (first | exact Below.refl _ _ | refine Below.setCell ?_ (by simp <;> omega) _ | refine Below.alloc ?_ (by simp <;> omega) _))⟩
/-- With, of a chain. -/
theorem rWithC_any (k : Int) (t : Tc) (V : Value) (w : World) (hV : IsC w V t) : Calls Tryd.prog 33 #[.int .i64 k, V] w fun e w' => ∃ R, e = .returned R ∧ IsC w' R (.node k t) ∧ Below w.heap.size w w' := by
  obtain ⟨av, c, rfl, hT⟩ := hV
  exact (rWith_any k t.kd av t.ln c w).mono fun e w' ⟨b, h1, h2, h3, h4, h5⟩ => ⟨_, h1, ⟨some ⟨b, 0, none⟩, 1, rfl, b, 0, av, c, rfl, h2.2, h3, h4, TailC.below h5 t av hT⟩, h5⟩

theorem node_yes' {k : Int} (h : k = 5 ∨ k = 6) : nodeB k = true := by
  simp [nodeB]
  omega
def ChkTn (n : Nat) : Prop := ∀ (lev : Int) (m : Nat) (V : Value) (x : Ty) (w : World), lev = 17 - (n : Int) → IsT m w V x →
    Calls Tryd.prog 32 #[V, .int .i64 lev] w fun e w' => e = .returned (.int .i64 (chkT n x : Nat)) ∧ Below w.heap.size w w'
set_option maxHeartbeats 2000000 in
theorem chkTn_all : ∀ n : Nat, n ≤ 16 → ChkTn n := by
  intro n
  induction n with
  | zero =>
    intro _ lev m V x w hlev hV
    obtain ⟨k, l, av, c, rfl, rfl, _⟩ := hV
    have u0 : (16 : Int) < lev := by omega
    clear hlev
    go_enter Tryd.func32, Tryd.ntmps32
    go_wp2_with fail
    go_ret
    exact ⟨rfl, (by repeat (first | exact Below.refl _ _ | refine Below.setCell ?_ (by simp <;> omega) _ | refine Below.alloc ?_ (by simp <;> omega) _))⟩
  | succ n ih =>
    intro hn lev m V x w hlev hV
    obtain ⟨k, l, av, c, rfl, rfl, g0, g1, hl⟩ := hV
    have u0 : ¬ (16 : Int) < lev := by omega
    have IH := Lib.hid (ih (by omega))
    have hst := chkT_succ n k l
    obtain ⟨r, hr⟩ : ∃ r, r = chkT (n + 1) (.mk k l) := ⟨_, rfl⟩
    rw [← hr] at hst ⊢
    have Y := Lib.hid (fun w => rHolds_any k w)
    clear hr ih
    by_cases h1 : k < 0
    · rw [if_pos (.inl h1)] at hst
      have E := Lib.hid hst
      clear hst hlev
      go_enter Tryd.func32, Tryd.ntmps32
      go_wp2_with fail
      go_ret
      exact ⟨by rw [E.out]; rfl, (by repeat (first | exact Below.refl _ _ | refine Below.setCell ?_ (by simp <;> omega) _ | refine Below.alloc ?_ (by simp <;> omega) _))⟩
    by_cases h2 : 7 < k
    · rw [if_pos (.inr h2)] at hst
      have E := Lib.hid hst
      clear hst hlev
      go_enter Tryd.func32, Tryd.ntmps32
      go_wp2_with fail
      go_ret
      exact ⟨by rw [E.out]; rfl, (by repeat (first | exact Below.refl _ _ | refine Below.setCell ?_ (by simp <;> omega) _ | refine Below.alloc ?_ (by simp <;> omega) _))⟩
    rw [if_neg (by omega)] at hst
    by_cases h3 : k = 5 ∨ k = 6
    · rw [if_pos h3] at hst
      have hq : nodeB k = true := node_yes' h3
      rw [hq] at Y
      by_cases h4 : l.length = 1
      · obtain ⟨y, rfl⟩ := List.length_eq_one_iff.1 h4
        have hst : r = chkT n y := hst
        have E := Lib.hid hst
        cases m with
        | zero => exact absurd (show [y] = [] from hl) (by simp)
        | succ m =>
          obtain ⟨b, off, k2, l2, a2, c2, e0, rfl, hb0, p0, p1, q0, q1, hl2⟩ := hl 0 (by simp)
          have e0 : y = .mk k2 l2 := by simpa using e0
          rw [Nat.zero_mul, Nat.add_zero] at p0 p1
          have C := Lib.hid (fun w' (hb : Below w.heap.size w w') => IH.out (lev + 1) m (.agg #[.int .i64 k2, .slice a2 l2.length c2]) y w' (by omega) (IsT.below ⟨k2, l2, a2, c2, e0, rfl, q0, q1, hl2⟩ hb))
          have hw : IntKind.i64.wrap (lev + 1) = lev + 1 := by rw [IntWalk.i64_in _ (by omega)]
          clear hst hlev h3 hq h4 IH e0 hl2
          show Calls Tryd.prog 32 #[.agg #[.int .i64 k, .slice (some ⟨b, off, none⟩) 1 c], .int .i64 lev] w _
          go_enter Tryd.func32, Tryd.ntmps32
          go_wp2_with fail
          go_fit (Y.out _)
          rintro e w1 ⟨rfl, rfl⟩
          go_wp2_with fail
          go_fit (C.out _ (by repeat (first | exact Below.refl _ _ | refine Below.setCell ?_ (by simp <;> omega) _ | refine Below.alloc ?_ (by simp <;> omega) _)))
          rintro e w2 ⟨rfl, hb2⟩
          have B2 := Lib.hid (Below.trans (show Below w.heap.size w _ from (by repeat (first | exact Below.refl _ _ | refine Below.setCell ?_ (by simp <;> omega) _ | refine Below.alloc ?_ (by simp <;> omega) _))) (hb2.mono (by simp <;> omega)))
          clear hb2
          go_wp2_with fail
          go_ret
          exact ⟨by rw [E.out]; rfl, B2.out⟩
      · have hst : r = 1 := by
          rw [hst]
          match l, h4 with
          | [], _ => rfl
          | [x], h4 => exact absurd rfl h4
          | _ :: _ :: _, _ => rfl
        have E := Lib.hid hst
        have e1 : ((l.length : Int) != 1) = true := by
          have : ((l.length : Int) == 1) = false := by rw [beq_eq_false_iff_ne]; omega
          unfold bne
          rw [this]
          rfl
        clear hst hlev h3 hq h4 IH
        go_enter Tryd.func32, Tryd.ntmps32
        go_wp2_with fail
        go_fit (Y.out _)
        rintro e w1 ⟨rfl, rfl⟩
        go_wp2_with fail
        go_ret
        exact ⟨by rw [E.out]; rfl, (by repeat (first | exact Below.refl _ _ | refine Below.setCell ?_ (by simp <;> omega) _ | refine Below.alloc ?_ (by simp <;> omega) _))⟩
    · rw [if_neg h3] at hst
      have hq : nodeB k = false := by simp [nodeB]; omega
      rw [hq] at Y
      by_cases h4 : l.length = 0
      · rw [if_pos h4] at hst
        have E := Lib.hid hst
        rw [h4]
        clear hst hlev h3 hq h4 IH
        go_enter Tryd.func32, Tryd.ntmps32
        go_wp2_with fail
        go_fit (Y.out _)
        rintro e w1 ⟨rfl, rfl⟩
        go_wp2_with fail
        go_ret
        exact ⟨by rw [E.out]; rfl, (by repeat (first | exact Below.refl _ _ | refine Below.setCell ?_ (by simp <;> omega) _ | refine Below.alloc ?_ (by simp <;> omega) _))⟩
      · rw [if_neg h4] at hst
        have E := Lib.hid hst
        have e1 : (0 : Int) < (l.length : Int) := by omega
        have e2 : 0 < l.length := by omega
        clear hst hlev h3 hq h4 IH
        go_enter Tryd.func32, Tryd.ntmps32
        go_wp2_with fail
        go_fit (Y.out _)
        rintro e w1 ⟨rfl, rfl⟩
        go_wp2_with fail
        go_ret
        exact ⟨by rw [E.out]; rfl, (by repeat (first | exact Below.refl _ _ | refine Below.setCell ?_ (by simp <;> omega) _ | refine Below.alloc ?_ (by simp <;> omega) _))⟩
theorem refValidT_any (m : Nat) (V : Value) (x : Ty) (w : World) (hV : IsT m w V x) :
    Calls Tryd.prog 12 #[V] w fun e w' => e = .returned (.int .i64 (chkT 16 x : Nat)) ∧ Below w.heap.size w w' := by
  have M := Lib.hid (fun w' (h : Below w.heap.size w w') => chkTn_all 16 (Nat.le_refl _) 1 m V x w' rfl (hV.below h))
  obtain ⟨k, l, av, c, rfl, rfl, _⟩ := hV
  go_enter Tryd.func12, Tryd.ntmps12
  go_wp2_with fail
  go_fit (M.out _ (by repeat (first | exact Below.refl _ _ | refine Below.setCell ?_ (by simp <;> omega) _ | refine Below.alloc ?_ (by simp <;> omega) _)))
  rintro e w1 ⟨rfl, hb⟩
  have B1 := Lib.hid (Below.trans (show Below w.heap.size w _ from (by repeat (first | exact Below.refl _ _ | refine Below.setCell ?_ (by simp <;> omega) _ | refine Below.alloc ?_ (by simp <;> omega) _))) (hb.mono (by simp <;> omega)))
  clear hb
  go_wp2_with fail
  go_ret
  exact ⟨rfl, B1.out⟩
end Go.Proofs.YtabopneehhnhfabDoor
