/- A list or a map fits a type if each element fits the type's element type. No function of the program is named but through Fits. -/
import Derived.Test.YtabopneehhnhfabDoorTypO
import Derived.Deep.QuietTactic
import Derived.BigQuiet
namespace Go.Proofs.YtabopneehhnhfabDoor
open Go.RowKit Go.Lib

theorem subC_lub {a b t : Tc} (ha : a.ok) (hb : b.ok) (ht : t.ok) : subC (bndC 7 0 a b) t = (subC a t && subC b t) := by
  have hj := bndC_ok 7 0 leaf0 a b ha hb
  apply Bool.eq_iff_iff.2
  rw [Bool.and_eq_true]
  constructor
  · intro h
    exact ⟨subC_trans ha hj ht (subC_up ha hb) h, subC_trans hb hj ht (by rw [bndC_comm]; exact subC_up hb ha) h⟩
  · rintro ⟨h1, h2⟩
    rw [subC_join _ _ hj ht, bndC_assoc h07, (subC_join b t hb ht).1 h2, (subC_join a t ha ht).1 h1]
theorem subC_fold {f : Vl → Tc} {t : Tc} (ht : t.ok) : ∀ (l : List Vl) (a : Tc), a.ok → (∀ y, y ∈ l → (f y).ok) → subC (l.foldl (fun a y => bndC 7 0 a (f y)) a) t = (subC a t && l.all (fun y => subC (f y) t))
  | [], a, _, _ => by simp
  | x :: r, a, ha, h => by
    have hx := h x (by simp)
    rw [List.foldl_cons, subC_fold ht r _ (bndC_ok 7 0 leaf0 a (f x) ha hx) (fun y hy => h y (by simp [hy])), subC_lub ha hx ht, List.all_cons, Bool.and_assoc]
theorem subC_never (t : Tc) : subC (.leaf 7) t = true := by cases t <;> simp [subC]
theorem subC_all {f : Vl → Tc} {t : Tc} (ht : t.ok) (l : List Vl) (h : ∀ y, y ∈ l → (f y).ok) : subC (tyAll f l) t = l.all (fun y => subC (f y) t) := by
  unfold tyAll
  rw [subC_fold ht l (.leaf 7) leaf7 h, subC_never, Bool.true_and]
theorem partE_up {n : Nat} {k : Int} {t : Bool} {i : Int} {s : ByteArray} {l : List Vl} {ks : List (List UInt8)} (h : partE (n + 1) k t i s l ks = 0) : partE (n + 2) k t i s l ks = 0 := by
  unfold partE at h ⊢
  rw [if_neg (Nat.succ_ne_zero n)] at h
  rw [if_neg (Nat.succ_ne_zero (n + 1))]
  split at h
  · cases h
  · rename_i h1
    rw [if_neg h1]
    split at h
    · cases h
    · rename_i h2
      rw [if_neg h2]
      split at h
      · cases h
      · rename_i h3
        rw [if_neg h3]
        split at h
        · cases h
        · rename_i h4
          rw [if_neg h4, if_neg]
          simp
theorem firstV_nil {g : Vl → Nat} : ∀ {l : List Vl}, (∀ y, y ∈ l → g y = 0) → firstV g l = 0
  | [], _ => rfl
  | x :: r, h => by
    rw [firstV, if_neg (by simpa using h x (by simp))]
    exact firstV_nil (fun y hy => h y (by simp [hy]))
theorem errV_up : ∀ (n : Nat) (x : Vl), errV n x = 0 → errV (n + 1) x = 0
  | 0, x, h => by rw [errV_zero] at h; cases h
  | n + 1, .mk k t i s l ks, h => by
    obtain ⟨h1, h2⟩ := errV_parts h
    rw [errV_eq, if_neg (by rw [partE_up h1]; simp)]
    exact firstV_nil (fun y hy => errV_up n y (h2 y hy))
theorem all_same {f g : Vl → Bool} : ∀ {l : List Vl}, (∀ y, y ∈ l → f y = g y) → l.all f = l.all g
  | [], _ => rfl
  | x :: r, h => by rw [List.all_cons, List.all_cons, h x (by simp), all_same (fun y hy => h y (by simp [hy]))]
theorem elems_fit (m : Nat) {k : Int} {t : Bool} {i : Int} {s : ByteArray} {l : List Vl} {ks : List (List UInt8)} {k2 : Int} {e : Ty} (h0 : errV 16 (.mk k t i s l ks) = 0) (hk : k = 4 ∨ k = 5) (hq : okB (.mk k2 [e]) = true) (h2 : k2 = k + 1) :
    fitV (m + 1) (.mk k t i s l ks) (.mk k2 [e]) = l.all (fun z => fitV m z e) := by
  obtain ⟨e1, e2, e3⟩ := ok_tc hq
  have e2 : nodeK k2 ∧ (tcOf e).ok := e2
  have e3 : (tcOf e).deep + 1 ≤ 16 := e3
  have hy : e = (tcOf e).ty := by
    have e1 : Ty.mk k2 [e] = .mk k2 [(tcOf e).ty] := e1
    injection e1 with _ e1
    injection e1
  have hoe : okB e = true := by rw [hy]; exact okB_ty e2.2 (by omega)
  obtain ⟨_, hz⟩ := errV_parts (n := 15) h0
  have hty : tyV (m + 1) (.mk k t i s l ks) = .node (k + 1) (tyAll (tyV m) l) := by unfold tyV; rw [if_pos hk]
  unfold fitV
  rw [decide_eq_true h0, hq, hty, show tcOf (.mk k2 [e]) = .node k2 (tcOf e) from rfl]
  show (true && true && ((k + 1 == k2) && subC (tyAll (tyV m) l) (tcOf e))) = _
  rw [h2, beq_self_eq_true, Bool.true_and, Bool.true_and, Bool.true_and, subC_all e2.2 l (fun y hy => (tyV_good 15 m y (hz y hy)).1)]
  refine all_same (fun y hy => ?_)
  rw [decide_eq_true (errV_up 15 y (hz y hy)), hoe, Bool.true_and, Bool.true_and]
theorem other_fit (m : Nat) {k : Int} {t : Bool} {i : Int} {s : ByteArray} {l : List Vl} {ks : List (List UInt8)} {k2 : Int} {l2 : List Ty} (h0 : errV 16 (.mk k t i s l ks) = 0) (hk : k = 4 ∨ k = 5) (hq : okB (.mk k2 l2) = true) (h2 : k2 ≠ k + 1) :
    fitV (m + 1) (.mk k t i s l ks) (.mk k2 l2) = (k2 == 0) := by
  obtain ⟨e1, e2, e3⟩ := ok_tc hq
  have hty : tyV (m + 1) (.mk k t i s l ks) = .node (k + 1) (tyAll (tyV m) l) := by unfold tyV; rw [if_pos hk]
  unfold fitV
  rw [decide_eq_true h0, hq, hty]
  cases l2 with
  | nil => rfl
  | cons e r =>
    have e2 : nodeK k2 ∧ (tcOf e).ok := e2
    have hn : (k2 == 0) = false := by rw [beq_eq_false_iff_ne]; rcases e2.1 with h | h <;> omega
    have hm : (k + 1 == k2) = false := by rw [beq_eq_false_iff_ne]; omega
    show (true && true && ((k + 1 == k2) && subC (tyAll (tyV m) l) (tcOf e))) = _
    rw [hn, hm]
    rfl
theorem one_elem {k2 : Int} {l2 : List Ty} (hq : okB (.mk k2 l2) = true) (h : k2 = 5 ∨ k2 = 6) : ∃ e, l2 = [e] := by
  obtain ⟨e1, e2, _⟩ := ok_tc hq
  cases l2 with
  | nil => exact absurd (show leafK k2 from e2) (by unfold leafK; omega)
  | cons e r =>
    have e1 : Ty.mk k2 (e :: r) = .mk k2 [(tcOf e).ty] := e1
    injection e1 with _ e1
    injection e1 with _ e1
    exact ⟨e, by rw [e1]⟩
theorem IsV.up {w : World} {m : Nat} {V : Value} {x : Vl} (h : IsV m w V x) : IsV (m + 1) w V x := by
  obtain ⟨k, t, i, s, l, ks, av, c, kv, kc, e, eV, g0, g1, g2, g3, g4, g5, g6, g7, g8, g9, hs, hl⟩ := h
  exact ⟨k, t, i, s, l, ks, av, c, kv, kc, e, eV, g0, g1, g2, g3, g4, g5, g6, g7, g8, g9, hs, ReadsV.up m av l hl⟩
end Go.Proofs.YtabopneehhnhfabDoor
