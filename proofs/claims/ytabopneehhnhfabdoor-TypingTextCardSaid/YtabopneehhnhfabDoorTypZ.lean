/- Contracts of the document's name, text, Show (pipelineref08). -/
import Derived.Test.YtabopneehhnhfabDoorTypU
import Derived.Test.YtabopneehhnhfabDoorTypJ
namespace Go.Proofs.YtabopneehhnhfabDoor
open Go.RowKit Go.Lib

theorem rName_any (k : Int) (h0 : 0 ≤ k) (h7 : k ≤ 7) (w : World) : Calls Tryd.prog 61 #[.int .i64 k] w fun e w' => e = .returned (.string ⟨(nameL k).toArray⟩) ∧ w = w' := by
  rcases (show k = 0 ∨ k = 1 ∨ k = 2 ∨ k = 3 ∨ k = 4 ∨ k = 5 ∨ k = 6 ∨ k = 7 by omega) with rfl | rfl | rfl | rfl | rfl | rfl | rfl | rfl
  all_goals
    clear h0 h7
    go_enter Tryd.func61, Tryd.ntmps61
    go_wp2_with fail
    go_ret
    exact ⟨rfl, rfl⟩
def S4b (w : World) (k : Int) (ba oa c : Nat) (x0 x1 : Value) (w' : World) : Prop :=
  w'.cell? ⟨w.heap.size, 0, none⟩ = some (.int .i64 k) ∧ w'.cell? ⟨w.heap.size, 1, none⟩ = some (.slice (some ⟨ba, oa, none⟩) 1 c) ∧ w'.cell? ⟨ba, oa, none⟩ = some x0 ∧ w'.cell? ⟨ba, oa + 1, none⟩ = some x1 ∧ Below w.heap.size w w'
theorem S4b.below {w : World} {k : Int} {ba oa c : Nat} {x0 x1 : Value} {w1 w2 : World} (h : S4b w k ba oa c x0 x1 w1) (hb : Below w1.heap.size w1 w2) : S4b w k ba oa c x0 x1 w2 := by
  obtain ⟨a0, a1, a2, a3, h4⟩ := h
  have z0 := World.block_lt_of_cell? w1 _ a0
  have z2 := World.block_lt_of_cell? w1 _ a2
  exact ⟨(hb.cell (p := ⟨_, 0, none⟩) z0).trans a0, (hb.cell (p := ⟨_, 1, none⟩) z0).trans a1, (hb.cell (p := ⟨ba, oa, none⟩) z2).trans a2, (hb.cell (p := ⟨ba, oa + 1, none⟩) z2).trans a3, h4.trans (hb.mono h4.size)⟩
set_option maxHeartbeats 4000000 in
theorem rText_any : ∀ (t : Tc) (V : Value) (w : World), t.ok → t.deep ≤ 16 → IsC w V t → Calls Tryd.prog 52 #[V] w fun e w' => e = .returned (.string ⟨(textC t).toArray⟩) ∧ Below w.heap.size w w' := by
  intro t
  induction t with
  | leaf k =>
    intro V w ht _ hV
    obtain ⟨av, c, rfl, _⟩ := hV
    have Y := Lib.hid (fun w => rHolds_any k w)
    rw [leaf_no ht] at Y
    have hk : 0 ≤ k ∧ k ≤ 7 := by have h : leafK k := ht; unfold leafK at h; omega
    have NM := Lib.hid (fun w => rName_any k hk.1 hk.2 w)
    clear ht hk
    show Calls Tryd.prog 52 #[.agg #[.int .i64 k, .slice av 0 c]] w _
    have E := Lib.hid (show textC (.leaf k) = nameL k from rfl)
    go_enter Tryd.func52, Tryd.ntmps52
    go_wp2_with fail
    go_fit (Y.out _)
    rintro e w1 ⟨rfl, rfl⟩
    go_wp2_with fail
    go_fit (NM.out _)
    rintro e w1 ⟨rfl, rfl⟩
    go_wp2_with fail
    go_ret
    exact ⟨by rw [E.out]; rfl, (by repeat (first | exact Below.refl _ _ | refine Below.setCell ?_ (by simp <;> omega) _ | refine Below.alloc ?_ (by simp <;> omega) _))⟩
  | node k s ih =>
    intro V w ht hd hV
    obtain ⟨av, c, rfl, ba, oa, xa, ya, rfl, za, p0, p1, hTA2⟩ := hV
    have Y := Lib.hid (fun w => rHolds_any k w)
    rw [node_yes' ht.1] at Y
    have hd' : s.deep ≤ 16 := Nat.le_trans (Nat.le_succ _) hd
    have IH := Lib.hid (fun w' (h : Below w.heap.size w w') => ih (.agg #[.int .i64 s.kd, .slice xa s.ln ya]) w' ht.2 hd' ⟨xa, ya, rfl, TailC.below h s xa hTA2⟩)
    have hln := textC_len s
    obtain ⟨x, hx⟩ : ∃ x : ByteArray, x = ⟨(textC s).toArray⟩ := ⟨_, rfl⟩
    have hxz : x.size ≤ 128 := by rw [hx]; show (textC s).length ≤ 128; omega
    rw [← hx] at IH
    have HX := Lib.hid hx
    show Calls Tryd.prog 52 #[.agg #[.int .i64 k, .slice (some ⟨ba, oa, none⟩) 1 c]] w _
    have hk : k = 5 ∨ k = 6 := ht.1
    clear ht hTA2 ih hx hln hd hd'
    rcases hk with rfl | rfl
    · have s1 := fun w => run_string_add_sum (P := Tryd.prog) w ⟨#[108, 105, 115, 116]⟩ ⟨#[40]⟩ (by decide)
      have s2 := fun w => run_string_add_sum (P := Tryd.prog) w (⟨#[108, 105, 115, 116]⟩ ++ ⟨#[40]⟩) x (by rw [ByteArray.size_append]; have : (⟨#[108, 105, 115, 116]⟩ : ByteArray).size = 4 := rfl; have : (⟨#[40]⟩ : ByteArray).size = 1 := rfl; omega)
      have s3 := fun w => run_string_add_sum (P := Tryd.prog) w (⟨#[108, 105, 115, 116]⟩ ++ ⟨#[40]⟩ ++ x) ⟨#[41]⟩ (by rw [ByteArray.size_append, ByteArray.size_append]; have : (⟨#[108, 105, 115, 116]⟩ : ByteArray).size = 4 := rfl; have : (⟨#[40]⟩ : ByteArray).size = 1 := rfl; have : (⟨#[41]⟩ : ByteArray).size = 1 := rfl; omega)
      have NM := Lib.hid (fun w => show Calls Tryd.prog 61 #[.int .i64 5] w fun e w' => e = .returned (.string ⟨#[108, 105, 115, 116]⟩) ∧ Below w.heap.size w w' from (rName_any 5 (by omega) (by omega) w).mono (fun e w' h => ⟨h.1, h.2 ▸ Below.refl _ _⟩))
      have TA := TwoAt.new w 24 (.int .i64 5) (.slice (some ⟨ba, oa, none⟩) 1 c)
      have B0 : Below w.heap.size w (w.alloc (.cells #[.int .i64 5, .slice (some ⟨ba, oa, none⟩) 1 c] 24)) := (by repeat (first | exact Below.refl _ _ | refine Below.setCell ?_ (by simp <;> omega) _ | refine Below.alloc ?_ (by simp <;> omega) _))
      go_enter Tryd.func52, Tryd.ntmps52
      go_wp2_with fail
      go_fit (Y.out _)
      rintro e w1 ⟨rfl, rfl⟩
      go_wp2_with fail
      obtain ⟨W0, hW0⟩ : ∃ W0, W0 = w.alloc (.cells #[.int .i64 5, .slice (some ⟨ba, oa, none⟩) 1 c] 24) := ⟨_, rfl⟩
      rw [← hW0] at TA B0 ⊢
      have hs0 : S4b w 5 ba oa c (.int .i64 s.kd) (.slice xa s.ln ya) W0.drew := S4b.below ⟨TA.cell0, TA.cell1, (B0.cell (p := ⟨ba, _, none⟩) za).trans p0, (B0.cell (p := ⟨ba, _, none⟩) za).trans p1, B0⟩ (Below.refl _ _).drew
      have IH2 := Lib.hid (fun w' (h : S4b w 5 ba oa c (.int .i64 s.kd) (.slice xa s.ln ya) w') => IH.out w' h.2.2.2.2)
      clear hW0 TA p0 p1 B0
      go_region_held3 (fun w' => w'.cell? ⟨w.heap.size, 0, none⟩ = some (.int .i64 5) ∧ w'.cell? ⟨w.heap.size, 1, none⟩ = some (.slice (some ⟨ba, oa, none⟩) 1 c) ∧ w'.cell? ⟨ba, oa, none⟩ = some (.int .i64 s.kd) ∧ w'.cell? ⟨ba, oa + 1, none⟩ = some (.slice xa s.ln ya) ∧ Below w.heap.size w w') (first | exact hs0 | exact S4b.below (by assumption) (by assumption)) (first
        | (go_at_call 61; go_fit (NM.out _); rintro e w1 ⟨rfl, hb1⟩)
        | (go_at_call 52; go_fit (IH2.out _ (by assumption)); rintro e w2 ⟨rfl, hb2⟩))
      all_goals
        have hfin : S4b w 5 ba oa c (.int .i64 s.kd) (.slice xa s.ln ya) w2 := by assumption
        go_wp2_with fail
        go_ret
        exact ⟨by rw [HX.out, show (⟨#[108, 105, 115, 116]⟩ : ByteArray) = ⟨[108, 105, 115, 116].toArray⟩ from rfl, show (⟨#[40]⟩ : ByteArray) = ⟨[40].toArray⟩ from rfl, show (⟨#[41]⟩ : ByteArray) = ⟨[41].toArray⟩ from rfl, app_str, app_str, app_str, List.append_assoc, List.append_assoc]; rfl, hfin.2.2.2.2⟩
    · have s1 := fun w => run_string_add_sum (P := Tryd.prog) w ⟨#[109, 97, 112]⟩ ⟨#[40]⟩ (by decide)
      have s2 := fun w => run_string_add_sum (P := Tryd.prog) w (⟨#[109, 97, 112]⟩ ++ ⟨#[40]⟩) x (by rw [ByteArray.size_append]; have : (⟨#[109, 97, 112]⟩ : ByteArray).size = 3 := rfl; have : (⟨#[40]⟩ : ByteArray).size = 1 := rfl; omega)
      have s3 := fun w => run_string_add_sum (P := Tryd.prog) w (⟨#[109, 97, 112]⟩ ++ ⟨#[40]⟩ ++ x) ⟨#[41]⟩ (by rw [ByteArray.size_append, ByteArray.size_append]; have : (⟨#[109, 97, 112]⟩ : ByteArray).size = 3 := rfl; have : (⟨#[40]⟩ : ByteArray).size = 1 := rfl; have : (⟨#[41]⟩ : ByteArray).size = 1 := rfl; omega)
      have NM := Lib.hid (fun w => show Calls Tryd.prog 61 #[.int .i64 6] w fun e w' => e = .returned (.string ⟨#[109, 97, 112]⟩) ∧ Below w.heap.size w w' from (rName_any 6 (by omega) (by omega) w).mono (fun e w' h => ⟨h.1, h.2 ▸ Below.refl _ _⟩))
      have TA := TwoAt.new w 24 (.int .i64 6) (.slice (some ⟨ba, oa, none⟩) 1 c)
      have B0 : Below w.heap.size w (w.alloc (.cells #[.int .i64 6, .slice (some ⟨ba, oa, none⟩) 1 c] 24)) := (by repeat (first | exact Below.refl _ _ | refine Below.setCell ?_ (by simp <;> omega) _ | refine Below.alloc ?_ (by simp <;> omega) _))
      go_enter Tryd.func52, Tryd.ntmps52
      go_wp2_with fail
      go_fit (Y.out _)
      rintro e w1 ⟨rfl, rfl⟩
      go_wp2_with fail
      obtain ⟨W0, hW0⟩ : ∃ W0, W0 = w.alloc (.cells #[.int .i64 6, .slice (some ⟨ba, oa, none⟩) 1 c] 24) := ⟨_, rfl⟩
      rw [← hW0] at TA B0 ⊢
      have hs0 : S4b w 6 ba oa c (.int .i64 s.kd) (.slice xa s.ln ya) W0.drew := S4b.below ⟨TA.cell0, TA.cell1, (B0.cell (p := ⟨ba, _, none⟩) za).trans p0, (B0.cell (p := ⟨ba, _, none⟩) za).trans p1, B0⟩ (Below.refl _ _).drew
      have IH2 := Lib.hid (fun w' (h : S4b w 6 ba oa c (.int .i64 s.kd) (.slice xa s.ln ya) w') => IH.out w' h.2.2.2.2)
      clear hW0 TA p0 p1 B0
      go_region_held3 (fun w' => w'.cell? ⟨w.heap.size, 0, none⟩ = some (.int .i64 6) ∧ w'.cell? ⟨w.heap.size, 1, none⟩ = some (.slice (some ⟨ba, oa, none⟩) 1 c) ∧ w'.cell? ⟨ba, oa, none⟩ = some (.int .i64 s.kd) ∧ w'.cell? ⟨ba, oa + 1, none⟩ = some (.slice xa s.ln ya) ∧ Below w.heap.size w w') (first | exact hs0 | exact S4b.below (by assumption) (by assumption)) (first
        | (go_at_call 61; go_fit (NM.out _); rintro e w1 ⟨rfl, hb1⟩)
        | (go_at_call 52; go_fit (IH2.out _ (by assumption)); rintro e w2 ⟨rfl, hb2⟩))
      all_goals
        have hfin : S4b w 6 ba oa c (.int .i64 s.kd) (.slice xa s.ln ya) w2 := by assumption
        go_wp2_with fail
        go_ret
        exact ⟨by rw [HX.out, show (⟨#[109, 97, 112]⟩ : ByteArray) = ⟨[109, 97, 112].toArray⟩ from rfl, show (⟨#[40]⟩ : ByteArray) = ⟨[40].toArray⟩ from rfl, show (⟨#[41]⟩ : ByteArray) = ⟨[41].toArray⟩ from rfl, app_str, app_str, app_str, List.append_assoc, List.append_assoc]; rfl, hfin.2.2.2.2⟩

set_option maxHeartbeats 1000000 in
theorem rShow_any (m : Nat) (V : Value) (x : Ty) (w : World) (hV : IsT m w V x) :
    Calls Tryd.prog 29 #[V] w fun e w' => e = .returned (.string ⟨(showT x).toArray⟩) ∧ Below w.heap.size w w' := by
  have X := Lib.hid (fun w' (h : Below w.heap.size w w') => refValidT_any m V x w' (hV.below h))
  cases hq : okB x
  · have E := Lib.hid (show showT x = [] by unfold showT; rw [hq]; rfl)
    have hne : (((chkT 16 x : Nat) : Int) != 0) = true := by
      unfold okB at hq
      simp at hq ⊢
      omega
    obtain ⟨k, l, av, c, rfl, rfl, _, _, _⟩ := hV
    generalize chkT 16 (.mk k l) = p at X hne
    clear hq
    go_enter Tryd.func29, Tryd.ntmps29
    go_wp2_with fail
    go_fit (X.out _ (by repeat (first | exact Below.refl _ _ | refine Below.setCell ?_ (by simp <;> omega) _ | refine Below.alloc ?_ (by simp <;> omega) _)))
    rintro e w1 ⟨rfl, hb1⟩
    have B1 := Lib.hid (Below.trans (show Below w.heap.size w _ from (by repeat (first | exact Below.refl _ _ | refine Below.setCell ?_ (by simp <;> omega) _ | refine Below.alloc ?_ (by simp <;> omega) _))) (hb1.mono (by simp <;> omega)))
    clear hb1
    go_wp2_with fail
    go_ret
    exact ⟨by rw [E.out]; rfl, B1.out⟩
  · have E := Lib.hid (show showT x = textC (tcOf x) by unfold showT; rw [hq]; rfl)
    have hne : (((chkT 16 x : Nat) : Int) != 0) = false := by
      unfold okB at hq
      simp at hq ⊢
      omega
    have Y := Lib.hid (fun w' (h : Below w.heap.size w w') => rText_any (tcOf x) V w' (ok_tc hq).2.1 (ok_tc hq).2.2 ((isC_ok hV hq).below h))
    obtain ⟨k, l, av, c, rfl, rfl, _, _, _⟩ := hV
    generalize chkT 16 (.mk k l) = p at X hne
    clear hq
    go_enter Tryd.func29, Tryd.ntmps29
    go_wp2_with fail
    go_fit (X.out _ (by repeat (first | exact Below.refl _ _ | refine Below.setCell ?_ (by simp <;> omega) _ | refine Below.alloc ?_ (by simp <;> omega) _)))
    rintro e w1 ⟨rfl, hb1⟩
    have TA := (TwoAt.new _ 24 (.int .i64 k) (.slice av l.length c)).below hb1
    have B1 := Lib.hid (Below.trans (show Below w.heap.size w _ from (by repeat (first | exact Below.refl _ _ | refine Below.setCell ?_ (by simp <;> omega) _ | refine Below.alloc ?_ (by simp <;> omega) _))) (hb1.mono (by simp <;> omega)))
    have c0 := TA.cell0
    have c1 := TA.cell1
    clear hb1
    go_wp2_with fail
    go_fit (Y.out _ B1.out)
    rintro e w2 ⟨rfl, hb2⟩
    have B2 := Lib.hid (B1.out.trans (hb2.mono B1.out.size))
    clear hb2
    go_wp2_with fail
    go_ret
    exact ⟨by rw [E.out]; rfl, B2.out⟩
end Go.Proofs.YtabopneehhnhfabDoor
