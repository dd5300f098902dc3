/- Contracts of the document's check and Valid of values. -/
import Derived.Test.YtabopneehhnhfabDoorValD
import Derived.Test.YtabopneehhnhfabDoorValI
import Derived.Test.YtabopneehhnhfabDoorValJ
namespace Go.Proofs.YtabopneehhnhfabDoor
open Go.RowKit Go.Lib

/-- What the document's check answers with n levels left. -/
def ChkV (n : Nat) : Prop := ∀ (lev : Int) (m : Nat) (V : Value) (x : Vl) (w : World), lev = 17 - (n : Int) → IsV m w V x →
    Calls Tryd.prog 48 #[V, .int .i64 lev] w fun e w' => e = .returned (.int .i64 (errV n x : Nat)) ∧ Below w.heap.size w w'
theorem errV_eq (n : Nat) (k : Int) (t : Bool) (i : Int) (s : ByteArray) (l : List Vl) (ks : List (List UInt8)) :
    errV (n + 1) (.mk k t i s l ks) = if partE (n + 1) k t i s l ks ≠ 0 then partE (n + 1) k t i s l ks else firstV (errV n) l := rfl

set_option maxHeartbeats 4000000 in
set_option maxRecDepth 100000 in
theorem chk_zero : ChkV 0 := by
  intro lev m V x w hlev hV
  obtain ⟨k, t, i, s, l, ks, av, c, kv, kc, rfl, rfl, _⟩ := hV
  have E := Lib.hid (show errV 0 (.mk k t i s l ks) = 13 from rfl)
  have u0 : (16 : Int) < lev := by omega
  clear hlev
  go_enter Tryd.func48, Tryd.ntmps48
  go_wp2_with fail
  go_ret
  exact ⟨by rw [E.out]; rfl, by repeat (first | exact Below.refl _ _ | refine Below.setCell ?_ (by simp <;> omega) _ | refine Below.alloc ?_ (by simp <;> omega) _)⟩

set_option maxHeartbeats 4000000 in
set_option maxRecDepth 100000 in
/-- The answers before the elements. -/
theorem chk_part (n : Nat) (lev : Int) (hlev : lev = 16 - (n : Int)) (k : Int) (t : Bool) (i : Int) (s : ByteArray) (av kv : Option Addr) (l : List Vl) (ks : List (List UInt8)) (c kc : Nat)
    (hne : partE (n + 1) k t i s l ks ≠ 0) (hl : ks.length ≤ 9223372036854775000) (hsz : ∀ x, x ∈ ks → x.length ≤ 140737488351232) (w : World) (hr : ReadsStr w kv ks) :
    Calls Tryd.prog 48 #[.agg #[.int .i64 k, .bool t, .int .i64 i, .string s, .slice av l.length c, .slice kv ks.length kc], .int .i64 lev] w fun e w' => e = .returned (.int .i64 (partE (n + 1) k t i s l ks : Nat)) ∧ Below w.heap.size w w' := by
  have X1 := Lib.hid (fun w => plainV_any k t i s av kv l ks c kc w)
  have X2 := Lib.hid (fun w (h : ReadsStr w kv ks) => ascendingV_any k t i s av kv l ks c kc hl hsz w h)
  have HR := Lib.hid hr
  have u0 : ¬ (16 : Int) < lev := by omega
  have hn1 : (lev = 16) = (n + 1 = 1) := by apply propext; constructor <;> (intro h; omega)
  clear hr hl hsz hlev
  have E0 : partE (n + 1) k t i s l ks = partE (n + 1) k t i s l ks := rfl
  conv at E0 => rhs; unfold partE; rw [if_neg (Nat.succ_ne_zero n)]
  by_cases h1 : k < 0
  · have E := Lib.hid (show partE (n + 1) k t i s l ks = 1 by rw [E0, if_pos (by simp [h1])])
    clear E0 hne hn1
    go_enter Tryd.func48, Tryd.ntmps48
    go_wp2_with fail
    go_ret
    exact ⟨by rw [E.out]; rfl, by repeat (first | exact Below.refl _ _ | refine Below.setCell ?_ (by simp <;> omega) _ | refine Below.alloc ?_ (by simp <;> omega) _)⟩
  by_cases h2 : 5 < k
  · have E := Lib.hid (show partE (n + 1) k t i s l ks = 1 by rw [E0, if_pos (by simp [h2])])
    clear E0 hne hn1
    go_enter Tryd.func48, Tryd.ntmps48
    go_wp2_with fail
    go_ret
    exact ⟨by rw [E.out]; rfl, by repeat (first | exact Below.refl _ _ | refine Below.setCell ?_ (by simp <;> omega) _ | refine Below.alloc ?_ (by simp <;> omega) _)⟩
  cases hq : plainB k t i s l ks
  · have E := Lib.hid (show partE (n + 1) k t i s l ks = 1 by rw [E0, if_pos (by simp [hq])])
    rw [hq] at X1
    clear E0 hne hn1 hq
    go_enter Tryd.func48, Tryd.ntmps48
    go_wp2_with fail
    go_fit (X1.out _)
    rintro e w1 ⟨rfl, hb1⟩
    have V1 := (V6_new w _ t i s (.slice av l.length c) (.slice kv ks.length kc)).below (by simp) hb1
    have B1 := Lib.hid (((Below.refl w.heap.size w).alloc (Nat.le_refl _) _).trans (hb1.mono (by simp)))
    have z1 := hb1.size
    simp only [World.size_alloc] at z1
    obtain ⟨-, c0, c1, c2, c3, c4, c5⟩ := V1
    clear hb1
    go_wp2_with fail
    go_ret
    exact ⟨by rw [E.out]; rfl, B1.out⟩
  rw [hq] at X1
  rw [if_neg (by simp [h1, h2, hq]; try omega)] at E0
  clear hq
  by_cases h3 : i < -9007199254740992
  · have E := Lib.hid (show partE (n + 1) k t i s l ks = 2 by rw [E0, if_pos (by simp [h3])])
    clear E0 hne hn1
    go_enter Tryd.func48, Tryd.ntmps48
    go_wp2_with fail
    go_fit (X1.out _)
    rintro e w1 ⟨rfl, hb1⟩
    have V1 := (V6_new w _ t i s (.slice av l.length c) (.slice kv ks.length kc)).below (by simp) hb1
    have B1 := Lib.hid (((Below.refl w.heap.size w).alloc (Nat.le_refl _) _).trans (hb1.mono (by simp)))
    have z1 := hb1.size
    simp only [World.size_alloc] at z1
    obtain ⟨-, c0, c1, c2, c3, c4, c5⟩ := V1
    clear hb1
    go_wp2_with fail
    go_ret
    exact ⟨by rw [E.out]; rfl, B1.out⟩
  by_cases h4 : 9007199254740992 < i
  · have E := Lib.hid (show partE (n + 1) k t i s l ks = 2 by rw [E0, if_pos (by simp [h4])])
    clear E0 hne hn1
    go_enter Tryd.func48, Tryd.ntmps48
    go_wp2_with fail
    go_fit (X1.out _)
    rintro e w1 ⟨rfl, hb1⟩
    have V1 := (V6_new w _ t i s (.slice av l.length c) (.slice kv ks.length kc)).below (by simp) hb1
    have B1 := Lib.hid (((Below.refl w.heap.size w).alloc (Nat.le_refl _) _).trans (hb1.mono (by simp)))
    have z1 := hb1.size
    simp only [World.size_alloc] at z1
    obtain ⟨-, c0, c1, c2, c3, c4, c5⟩ := V1
    clear hb1
    go_wp2_with fail
    go_ret
    exact ⟨by rw [E.out]; rfl, B1.out⟩
  rw [if_neg (by simp [h3, h4]; try omega)] at E0
  by_cases h5 : 4096 < s.size
  · have E := Lib.hid (show partE (n + 1) k t i s l ks = 3 by rw [E0, if_pos (by simp [h5])])
    have g5 : (4096 : Int) < (s.size : Int) := by omega
    clear E0 hne hn1 h5
    go_enter Tryd.func48, Tryd.ntmps48
    go_wp2_with fail
    go_fit (X1.out _)
    rintro e w1 ⟨rfl, hb1⟩
    have V1 := (V6_new w _ t i s (.slice av l.length c) (.slice kv ks.length kc)).below (by simp) hb1
    have B1 := Lib.hid (((Below.refl w.heap.size w).alloc (Nat.le_refl _) _).trans (hb1.mono (by simp)))
    have z1 := hb1.size
    simp only [World.size_alloc] at z1
    obtain ⟨-, c0, c1, c2, c3, c4, c5⟩ := V1
    clear hb1
    go_wp2_with fail
    go_ret
    exact ⟨by rw [E.out]; rfl, B1.out⟩
  have g5 : ¬ (4096 : Int) < (s.size : Int) := by omega
  by_cases h6 : 1024 < l.length
  · have E := Lib.hid (show partE (n + 1) k t i s l ks = 3 by rw [E0, if_pos (by simp [h6])])
    have g6 : (1024 : Int) < (l.length : Int) := by omega
    clear E0 hne hn1 h6 h5
    go_enter Tryd.func48, Tryd.ntmps48
    go_wp2_with fail
    go_fit (X1.out _)
    rintro e w1 ⟨rfl, hb1⟩
    have V1 := (V6_new w _ t i s (.slice av l.length c) (.slice kv ks.length kc)).below (by simp) hb1
    have B1 := Lib.hid (((Below.refl w.heap.size w).alloc (Nat.le_refl _) _).trans (hb1.mono (by simp)))
    have z1 := hb1.size
    simp only [World.size_alloc] at z1
    obtain ⟨-, c0, c1, c2, c3, c4, c5⟩ := V1
    clear hb1
    go_wp2_with fail
    go_ret
    exact ⟨by rw [E.out]; rfl, B1.out⟩
  have g6 : ¬ (1024 : Int) < (l.length : Int) := by omega
  by_cases h7 : 1024 < ks.length
  · have E := Lib.hid (show partE (n + 1) k t i s l ks = 3 by rw [E0, if_pos (by simp [h7])])
    have g7 : (1024 : Int) < (ks.length : Int) := by omega
    clear E0 hne hn1 h7 h5 h6
    go_enter Tryd.func48, Tryd.ntmps48
    go_wp2_with fail
    go_fit (X1.out _)
    rintro e w1 ⟨rfl, hb1⟩
    have V1 := (V6_new w _ t i s (.slice av l.length c) (.slice kv ks.length kc)).below (by simp) hb1
    have B1 := Lib.hid (((Below.refl w.heap.size w).alloc (Nat.le_refl _) _).trans (hb1.mono (by simp)))
    have z1 := hb1.size
    simp only [World.size_alloc] at z1
    obtain ⟨-, c0, c1, c2, c3, c4, c5⟩ := V1
    clear hb1
    go_wp2_with fail
    go_ret
    exact ⟨by rw [E.out]; rfl, B1.out⟩
  have g7 : ¬ (1024 : Int) < (ks.length : Int) := by omega
  rw [if_neg (by simp [h5, h6, h7]; try omega)] at E0
  clear h5 h6 h7
  by_cases h8 : k = 5
  · subst h8
    cases hq : keysB l ks
    · have E := Lib.hid (show partE (n + 1) 5 t i s l ks = 1 by rw [E0, if_pos (by simp [hq])])
      rw [hq] at X2
      clear E0 hne hn1 hq
      go_enter Tryd.func48, Tryd.ntmps48
      go_wp2_with fail
      go_fit (X1.out _)
      rintro e w1 ⟨rfl, hb1⟩
      have V1 := (V6_new w _ t i s (.slice av l.length c) (.slice kv ks.length kc)).below (by simp) hb1
      have B1 := Lib.hid (((Below.refl w.heap.size w).alloc (Nat.le_refl _) _).trans (hb1.mono (by simp)))
      have z1 := hb1.size
      simp only [World.size_alloc] at z1
      obtain ⟨-, c0, c1, c2, c3, c4, c5⟩ := V1
      clear hb1
      go_wp2_with fail
      go_fit (X2.out _ (HR.out.below B1.out))
      rintro e w2 ⟨rfl, hb2⟩
      have V2 := (show V6 w1 w.heap.size _ _ _ _ _ _ from ⟨by omega, c0, c1, c2, c3, c4, c5⟩).below (by omega) hb2
      have B2 := Lib.hid (B1.out.trans (hb2.mono B1.out.size))
      have z2 := hb2.size
      clear c0 c1 c2 c3 c4 c5
      obtain ⟨-, c0, c1, c2, c3, c4, c5⟩ := V2
      clear hb2
      go_wp2_with fail
      go_ret
      exact ⟨by rw [E.out]; rfl, B2.out⟩
    rw [if_neg (by simp [hq])] at E0
    rw [hq] at X2
    clear hq
    by_cases h9 : l = [] ∧ n + 1 = 1
    · have E := Lib.hid (show partE (n + 1) 5 t i s l ks = 13 by rw [E0, if_pos (by simp [h9.1, h9.2] <;> omega)])
      have g9 : lev = 16 := by rw [hn1]; exact h9.2
      have g10 : l.length = 0 := by rw [h9.1]; rfl
      clear E0 hne hn1 h9 u0
      subst g9
      rw [g10]
      rw [g10] at X1 X2
      go_enter Tryd.func48, Tryd.ntmps48
      go_wp2_with fail
      go_fit (X1.out _)
      rintro e w1 ⟨rfl, hb1⟩
      have V1 := (V6_new w _ t i s (.slice av 0 c) (.slice kv ks.length kc)).below (by simp) hb1
      have B1 := Lib.hid (((Below.refl w.heap.size w).alloc (Nat.le_refl _) _).trans (hb1.mono (by simp)))
      have z1 := hb1.size
      simp only [World.size_alloc] at z1
      obtain ⟨-, c0, c1, c2, c3, c4, c5⟩ := V1
      clear hb1
      go_wp2_with fail
      go_fit (X2.out _ (HR.out.below B1.out))
      rintro e w2 ⟨rfl, hb2⟩
      have V2 := (show V6 w1 w.heap.size _ _ _ _ _ _ from ⟨by omega, c0, c1, c2, c3, c4, c5⟩).below (by omega) hb2
      have B2 := Lib.hid (B1.out.trans (hb2.mono B1.out.size))
      have z2 := hb2.size
      clear c0 c1 c2 c3 c4 c5
      obtain ⟨-, c0, c1, c2, c3, c4, c5⟩ := V2
      clear hb2
      go_wp2_with fail
      go_ret
      exact ⟨by rw [E.out]; rfl, B2.out⟩
    · exact absurd (by rw [E0, if_neg (by simp; intro h e; exact h9 ⟨h, by omega⟩)]) hne
  · have g8 : (k == 5) = false := by rw [beq_eq_false_iff_ne]; exact h8
    rw [if_neg (by simp [h8])] at E0
    by_cases h9 : 4 ≤ k ∧ l = [] ∧ n + 1 = 1
    · have E := Lib.hid (show partE (n + 1) k t i s l ks = 13 by rw [E0, if_pos (by simp [h9.1, h9.2.1, h9.2.2] <;> omega)])
      have g9 : lev = 16 := by rw [hn1]; exact h9.2.2
      have g10 : l.length = 0 := by rw [h9.2.1]; rfl
      have g11 : (4 : Int) ≤ k := h9.1
      clear E0 hne hn1 h9 u0
      subst g9
      rw [g10]
      rw [g10] at X1 X2
      go_enter Tryd.func48, Tryd.ntmps48
      go_wp2_with fail
      go_fit (X1.out _)
      rintro e w1 ⟨rfl, hb1⟩
      have V1 := (V6_new w _ t i s (.slice av 0 c) (.slice kv ks.length kc)).below (by simp) hb1
      have B1 := Lib.hid (((Below.refl w.heap.size w).alloc (Nat.le_refl _) _).trans (hb1.mono (by simp)))
      have z1 := hb1.size
      simp only [World.size_alloc] at z1
      obtain ⟨-, c0, c1, c2, c3, c4, c5⟩ := V1
      clear hb1
      go_wp2_with fail
      go_ret
      exact ⟨by rw [E.out]; rfl, B1.out⟩
    · exact absurd (by rw [E0, if_neg (by simp; intro h1 h2 e; exact h9 ⟨h1, h2, by omega⟩)]) hne
end Go.Proofs.YtabopneehhnhfabDoor
