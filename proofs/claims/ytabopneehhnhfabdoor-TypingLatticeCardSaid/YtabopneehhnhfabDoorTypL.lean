/- Contract of the program's Parse; chains as types; join, by the blocks of its result (typing). -/
import Derived.Test.YtabopneehhnhfabDoorTypK
namespace Go.Proofs.YtabopneehhnhfabDoor
open Go.RowKit Go.Lib

def elemsOf : Tc → List Ty
  | .leaf _ => []
  | .node _ t => [t.ty]
theorem ty_elems (t : Tc) : t.ty = .mk t.kd (elemsOf t) := by cases t <;> rfl
theorem elems_len (t : Tc) : (elemsOf t).length = t.ln := by cases t <;> rfl
theorem kd_bd {t : Tc} (h : t.ok) : -9223372036854775808 ≤ t.kd ∧ t.kd ≤ 9223372036854775807 := by
  cases t with
  | leaf k =>
    have ha' : k = 0 ∨ k = 1 ∨ k = 2 ∨ k = 3 ∨ k = 4 ∨ k = 7 := h
    show -9223372036854775808 ≤ k ∧ k ≤ 9223372036854775807
    omega
  | node k s =>
    have ha' : k = 5 ∨ k = 6 := h.1
    show -9223372036854775808 ≤ k ∧ k ≤ 9223372036854775807
    omega
theorem ln_le (t : Tc) : t.ln ≤ 1 := by cases t <;> simp [Tc.ln]
theorem readsT_of {w : World} : ∀ (t : Tc) (av : Option Addr) (m : Nat), t.ok → t.deep ≤ m + 1 → TailC w av t → ReadsT m w av (elemsOf t)
  | .leaf k, av, 0, _, _, _ => rfl
  | .leaf k, av, m + 1, _, _, _ => fun j hj => by simp [elemsOf] at hj
  | .node k t, av, 0, _, hd, _ => by
    have := deep_pos t
    have h2 : t.deep + 1 ≤ 0 + 1 := hd
    omega
  | .node k t, av, m + 1, ho, hd, h => by
    obtain ⟨b, off, a, c, h1, h2, c0, c1, hl⟩ := h
    intro j hj
    have hj0 : j = 0 := by simp [elemsOf] at hj; exact hj
    subst hj0
    have hd' : t.deep ≤ m + 1 := by have h2 : t.deep + 1 ≤ m + 1 + 1 := hd; omega
    refine ⟨b, off, t.kd, elemsOf t, a, c, by rw [← ty_elems]; rfl, h1, h2, by simpa using c0, by rw [elems_len]; simpa using c1, kd_bd ho.2, by rw [elems_len]; have := ln_le t; omega, readsT_of t a m ho.2 hd' hl⟩
theorem isT_C {w : World} {V : Value} {t : Tc} (ho : t.ok) (h : IsC w V t) : IsT t.deep w V t.ty := by
  obtain ⟨av, c, rfl, hT⟩ := h
  exact ⟨t.kd, elemsOf t, av, c, ty_elems t, by rw [elems_len], kd_bd ho, by rw [elems_len]; have := ln_le t; omega, readsT_of t av t.deep ho (Nat.le_succ _) hT⟩

/-- What Parse answers of a text. -/
def PTop (l : List UInt8) (t : Tc) (er : Nat) : Prop :=
  (4096 < l.length ∧ t = .leaf 0 ∧ er = 3) ∨ (l.length ≤ 4096 ∧ (∀ t, ¬ IsTx l t) ∧ t = .leaf 0 ∧ er = 5) ∨ (l.length ≤ 4096 ∧ ∃ t', IsTx l t' ∧ ((16 < t'.deep ∧ t = .leaf 0 ∧ er = 13) ∨ (t'.deep ≤ 16 ∧ t = t' ∧ er = 0)))
theorem tx_one {l : List UInt8} {t u : Tc} (h : IsTx l t) (g : IsTx l u) : t = u := textC_inj h.1 g.1 (h.2.trans g.2.symm)
theorem PTop.one {l : List UInt8} {t u : Tc} {e f : Nat} (h : PTop l t e) (g : PTop l u f) : t = u ∧ e = f := by
  rcases h with ⟨h1, rfl, rfl⟩ | ⟨h1, h2, rfl, rfl⟩ | ⟨h1, t', h2, h3⟩ <;> rcases g with ⟨g1, rfl, rfl⟩ | ⟨g1, g2, rfl, rfl⟩ | ⟨g1, u', g2, g3⟩
  · exact ⟨rfl, rfl⟩
  · omega
  · omega
  · omega
  · exact ⟨rfl, rfl⟩
  · exact absurd g2 (h2 u')
  · omega
  · exact absurd h2 (g2 t')
  · obtain rfl := tx_one h2 g2
    rcases h3 with ⟨h4, rfl, rfl⟩ | ⟨h4, rfl, rfl⟩ <;> rcases g3 with ⟨g4, rfl, rfl⟩ | ⟨g4, e5, rfl⟩
    · exact ⟨rfl, rfl⟩
    · omega
    · omega
    · exact ⟨e5.symm, rfl⟩
theorem PTop.ok {l : List UInt8} {t : Tc} {e : Nat} (h : PTop l t e) : t.ok ∧ t.deep ≤ 16 := by
  rcases h with ⟨h1, rfl, rfl⟩ | ⟨h1, h2, rfl, rfl⟩ | ⟨h1, t', h2, ⟨h4, rfl, rfl⟩ | ⟨h4, rfl, rfl⟩⟩
  · exact ⟨leaf0, by simp [Tc.deep]⟩
  · exact ⟨leaf0, by simp [Tc.deep]⟩
  · exact ⟨leaf0, by simp [Tc.deep]⟩
  · exact ⟨h2.1, h4⟩

theorem isP_store {P : Nat → Prop} {n W1s r : Nat} {w1 : World} {V : Value} {t : Tc} (hP : ∀ b, P b → b < n) (h : IsP (fun b => P b ∨ W1s ≤ b) w1 V t) (h1 : n ≤ r) (h2 : r < W1s) (u v : Value) : IsP (fun b => P b ∨ n ≤ b) ((w1.setCell ⟨r, 0, none⟩ u).setCell ⟨r, 1, none⟩ v) V t := by
  obtain ⟨av, c, e, h⟩ := h
  refine ⟨av, c, e, TailP.kept (fun b hb => ?_) (fun b hb hlt => ?_) t av h⟩
  · rcases hb with hb | hb
    · exact .inl hb
    · exact .inr (by omega)
  · have hne : b ≠ r := by
      rcases hb with hb | hb
      · have := hP b hb
        omega
      · omega
    exact (Below.heap_setCell _ _ _ b hne).trans (Below.heap_setCell _ _ _ b hne)
def PTopSpec (l : List UInt8) (w : World) (e : Ending) (w' : World) : Prop := ∃ V t er, e = .returned (.tuple #[V, .int .i64 (er : Nat)]) ∧ PTop l t er ∧ IsC w' V t ∧ Below w.heap.size w w'
set_option maxHeartbeats 2000000 in
theorem Parse_any (s : ByteArray) (w : World) (hT : TabT w) : Calls Tryd.prog 26 #[.string s] w (PTopSpec s.data.toList w) := by
  have hsl : s.data.toList.length = s.size := by rw [Array.length_toList]; rfl
  by_cases hz : 4096 < s.size
  · have hzI : (4096 : Int) < (s.size : Int) := by omega
    have HP := Lib.hid (show PTop s.data.toList (.leaf 0) 3 from .inl ⟨by omega, rfl, rfl⟩)
    clear hz hsl hT
    go_enter Tryd.func26, Tryd.ntmps26
    go_wp2_with fail
    exact bodyPost_ret (v := .tuple #[.agg #[.int .i64 0, .slice none 0 0], .int .i64 3]) (by simp [results, Tryd.f26, go_sem]) rfl ⟨_, _, 3, rfl, HP.out, ⟨none, 0, rfl, trivial⟩, (by repeat (first | exact Below.refl _ _ | refine Below.setCell ?_ (by simp <;> omega) _ | refine Below.alloc ?_ (by simp <;> omega) _))⟩
  · have hzI : ¬ (4096 : Int) < (s.size : Int) := by omega
    have P := Lib.hid (fun w hT => parse_any s (by omega) w hT)
    have HT := Lib.hid hT
    have HZ := Lib.hid (show s.data.toList.length ≤ 4096 by omega)
    clear hz hsl hT
    go_enter Tryd.func26, Tryd.ntmps26
    go_wp2_with fail
    go_fit (P.out _ (HT.out.below (by repeat (first | exact Below.refl _ _ | refine Below.setCell ?_ (by simp <;> omega) _ | refine Below.alloc ?_ (by simp <;> omega) _))))
    rintro e w1 ⟨V, ok, rfl, hpp, hb1⟩
    have TR := (TwoAt.new _ 24 (.int .i64 0) (.slice none 0 0)).below hb1
    have B1 := Lib.hid (Below.trans (show Below w.heap.size w _ from (by repeat (first | exact Below.refl _ _ | refine Below.setCell ?_ (by simp <;> omega) _ | refine Below.alloc ?_ (by simp <;> omega) _))) (hb1.mono (by simp <;> omega)))
    have HPP := Lib.hid hpp
    obtain ⟨h1, h2, k2, av2, m2, cc2, rfl⟩ := hpp
    have hzz := TR.lt
    have t0 := TR.cell0
    have t1 := TR.cell1
    have f0 := TR.frozen 0
    have f1 := TR.frozen 1
    clear hb1
    cases ok
    · have HN := Lib.hid (show PTop s.data.toList (.leaf 0) 5 from .inr (.inl ⟨HZ.out, h2 rfl, rfl, rfl⟩))
      clear h1 h2
      go_wp2_with fail
      have TR2 := ((TR.set0 (.int .i64 0)).set1 (.slice none 0 0)).alloc (.cells #[.int .i64 k2, .slice av2 m2 cc2] 24)
      have u0 := TR2.cell0
      have u1 := TR2.cell1
      have B2 := (B1.out.setCell (p := ⟨w.heap.size, 0, none⟩) (Nat.le_refl _) (.int .i64 0)).setCell (p := ⟨w.heap.size, 1, none⟩) (Nat.le_refl _) (.slice none 0 0)
      exact bodyPost_ret (v := .tuple #[.agg #[.int .i64 0, .slice none 0 0], .int .i64 5]) (by simp [results, Tryd.f26, go_sem, u0, u1]) rfl ⟨.agg #[.int .i64 0, .slice none 0 0], _, 5, rfl, HN.out, ⟨none, 0, rfl, trivial⟩, B2.alloc B2.size _⟩
    · obtain ⟨t, ht, hC⟩ := h1 rfl
      have HV := Lib.hid (fun w' (hb : Below w1.heap.size w1 w') => validT_any t.deep (.agg #[.int .i64 k2, .slice av2 m2 cc2]) t.ty w' ((isT_C ht.1 hC.toC).below hb))
      rw [chkT_ty t 16 ht.1] at HV
      have HC := Lib.hid (IsP.below (P' := fun b => b < 0 ∨ (w.alloc (.cells #[.int .i64 0, .slice none 0 0] 24)).heap.size ≤ b) hC (fun _ h => .inr h) (Below.refl _ _))
      by_cases hd : t.deep ≤ 16
      · have HN := Lib.hid (show PTop s.data.toList t 0 from .inr (.inr ⟨HZ.out, t, ht, .inr ⟨hd, rfl, rfl⟩⟩))
        rw [if_pos hd] at HV
        clear h1 h2 hd hC
        go_wp2_with fail
        go_fit (HV.out _ ((Below.refl _ _).alloc (Nat.le_refl _) _))
        rintro e w2 ⟨rfl, hb2⟩
        have TA := (TR.alloc (.cells #[.int .i64 k2, .slice av2 m2 cc2] 24)).below hb2
        have TL := (TwoAt.new w1 24 (.int .i64 k2) (.slice av2 m2 cc2)).below hb2
        have BA := (B1.out.alloc B1.out.size (.cells #[.int .i64 k2, .slice av2 m2 cc2] 24))
        have B2 := Lib.hid (BA.trans (hb2.mono BA.size))
        have HC2 := Lib.hid (HC.out.below (P' := fun b => b < 0 ∨ (w.alloc (.cells #[.int .i64 0, .slice none 0 0] 24)).heap.size ≤ b) (fun _ h => h) (((Below.refl _ _).alloc (Nat.le_refl _) (.cells #[.int .i64 k2, .slice av2 m2 cc2] 24)).trans (hb2.mono (by simp))))
        have t0 := TA.cell0
        have t1 := TA.cell1
        have f0 := TA.frozen 0
        have f1 := TA.frozen 1
        have l0 := TL.cell0
        have l1 := TL.cell1
        clear hb2 BA
        go_wp2_with fail
        have TR2 := (TA.set0 (.int .i64 k2)).set1 (.slice av2 m2 cc2)
        have u0 := TR2.cell0
        have u1 := TR2.cell1
        exact bodyPost_ret (v := .tuple #[.agg #[.int .i64 k2, .slice av2 m2 cc2], .int .i64 0]) (by simp [results, Tryd.f26, go_sem, u0, u1]) rfl ⟨_, _, 0, rfl, HN.out, isC_store HC2.out (Nat.zero_le _) (by simp) _ _, (B2.out.setCell (by simp) _).setCell (by simp) _⟩
      · have HN := Lib.hid (show PTop s.data.toList (.leaf 0) 13 from .inr (.inr ⟨HZ.out, t, ht, .inl ⟨by omega, rfl, rfl⟩⟩))
        rw [if_neg hd] at HV
        clear h1 h2 hd hC
        go_wp2_with fail
        go_fit (HV.out _ ((Below.refl _ _).alloc (Nat.le_refl _) _))
        rintro e w2 ⟨rfl, hb2⟩
        have TA := (TR.alloc (.cells #[.int .i64 k2, .slice av2 m2 cc2] 24)).below hb2
        have BA := (B1.out.alloc B1.out.size (.cells #[.int .i64 k2, .slice av2 m2 cc2] 24))
        have B2 := Lib.hid (BA.trans (hb2.mono BA.size))
        have t0 := TA.cell0
        have t1 := TA.cell1
        have f0 := TA.frozen 0
        have f1 := TA.frozen 1
        clear hb2 BA
        go_wp2_with fail
        have TR2 := (TA.set0 (.int .i64 0)).set1 (.slice none 0 0)
        have u0 := TR2.cell0
        have u1 := TR2.cell1
        exact bodyPost_ret (v := .tuple #[.agg #[.int .i64 0, .slice none 0 0], .int .i64 13]) (by simp [results, Tryd.f26, go_sem, u0, u1]) rfl ⟨.agg #[.int .i64 0, .slice none 0 0], _, 13, rfl, HN.out, ⟨none, 0, rfl, trivial⟩, (B2.out.setCell (by simp) _).setCell (by simp) _⟩

set_option maxHeartbeats 1000000 in
/-- join, by the blocks of its result. -/
theorem joinP_any (a b : Tc) (A B : Value) (w : World) (P : Nat → Prop) (hP : ∀ b, P b → b < w.heap.size) (ha : a.ok) (hb : b.ok) (hA : IsP P w A a) (hB : IsP P w B b) :
    Calls Tryd.prog 44 #[A, B] w fun e w' => ∃ V, e = .returned V ∧ IsP (fun b => P b ∨ w.heap.size ≤ b) w' V (bndC 7 0 a b) ∧ Below w.heap.size w w' := by
  have X := Lib.hid (fun w' (h : Below w.heap.size w w') => bound_any 7 0 pair70 a b A B w' P (fun _ hb => Nat.lt_of_lt_of_le (hP _ hb) h.size) ha hb (hA.below (fun _ h => h) h) (hB.below (fun _ h => h) h))
  have HP := Lib.hid hP
  obtain ⟨av, ca, rfl, _⟩ := hA
  obtain ⟨bv, cb, rfl, _⟩ := hB
  clear hP
  generalize bndC 7 0 a b = r at *
  generalize a.kd = ka at *
  generalize a.ln = na at *
  generalize b.kd = kb at *
  generalize b.ln = nb at *
  go_enter Tryd.func44, Tryd.ntmps44
  go_wp2_with fail
  go_fit (X.out _ (by repeat (first | exact Below.refl _ _ | refine Below.setCell ?_ (by simp <;> omega) _ | refine Below.alloc ?_ (by simp <;> omega) _)))
  rintro e w1 ⟨V, rfl, hC, hb1⟩
  have TR := (TwoAt.new _ 24 (.int .i64 0) (.slice none 0 0)).below hb1
  have B1 := Lib.hid (Below.trans (show Below w.heap.size w _ from (by repeat (first | exact Below.refl _ _ | refine Below.setCell ?_ (by simp <;> omega) _ | refine Below.alloc ?_ (by simp <;> omega) _))) (hb1.mono (by simp <;> omega)))
  simp only [World.size_alloc] at TR hC
  have HC := Lib.hid hC
  obtain ⟨rv, rc, rfl, _⟩ := hC
  have t0 := TR.cell0
  have t1 := TR.cell1
  have tf0 := TR.frozen 0
  have tf1 := TR.frozen 1
  clear hb1
  go_wp2_with fail
  have TR2 := (TR.set0 (.int .i64 r.kd)).set1 (.slice rv r.ln rc)
  have u0 := TR2.cell0
  have u1 := TR2.cell1
  exact bodyPost_ret (v := .agg #[.int .i64 r.kd, .slice rv r.ln rc]) (by simp [results, Tryd.f44, go_sem, u0, u1]) rfl ⟨_, rfl, isP_store HP.out HC.out (by omega) (by omega) _ _, (B1.out.setCell (by simp <;> omega) _).setCell (by simp <;> omega) _⟩
end Go.Proofs.YtabopneehhnhfabDoor
