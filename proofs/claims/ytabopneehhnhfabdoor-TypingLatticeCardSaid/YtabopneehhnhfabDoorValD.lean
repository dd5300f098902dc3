/- Contract of the program's validPart (value). -/
import Derived.Test.YtabopneehhnhfabDoorValC
namespace Go.Proofs.YtabopneehhnhfabDoor
open Go.RowKit Go.Lib

/-- A value lies spelled out in a block. -/
def V6 (w : World) (B : Nat) (k : Int) (t : Bool) (i : Int) (s : ByteArray) (sl kl : Value) : Prop :=
  B < w.heap.size ∧ w.cell? ⟨B, 0, none⟩ = some (.int .i64 k) ∧ w.cell? ⟨B, 1, none⟩ = some (.bool t) ∧ w.cell? ⟨B, 2, none⟩ = some (.int .i64 i) ∧ w.cell? ⟨B, 3, none⟩ = some (.string s) ∧ w.cell? ⟨B, 4, none⟩ = some sl ∧ w.cell? ⟨B, 5, none⟩ = some kl
theorem V6.below {w w' : World} {B : Nat} {k : Int} {t : Bool} {i : Int} {s : ByteArray} {sl kl : Value} (h : V6 w B k t i s sl kl) {n : Nat} (hn : B < n) (hb : Below n w w') : V6 w' B k t i s sl kl := by
  obtain ⟨h0, c0, c1, c2, c3, c4, c5⟩ := h
  exact ⟨Nat.lt_of_lt_of_le h0 hb.size, (hb.cell (p := ⟨B, _, none⟩) hn).trans c0, (hb.cell (p := ⟨B, _, none⟩) hn).trans c1, (hb.cell (p := ⟨B, _, none⟩) hn).trans c2, (hb.cell (p := ⟨B, _, none⟩) hn).trans c3, (hb.cell (p := ⟨B, _, none⟩) hn).trans c4, (hb.cell (p := ⟨B, _, none⟩) hn).trans c5⟩
theorem V6_new (w : World) (k : Int) (t : Bool) (i : Int) (s : ByteArray) (sl kl : Value) : V6 (w.alloc (.cells #[.int .i64 k, .bool t, .int .i64 i, .string s, sl, kl] 33)) w.heap.size k t i s sl kl := by
  unfold V6
  simp

/-- What the program's check of a value without its elements answers, at a level. -/
def partP (lev : Int) (k : Int) (t : Bool) (i : Int) (s : ByteArray) (l : List Vl) (ks : List (List UInt8)) : Nat :=
  if 16 < lev then 13
  else if ownB k t i s l ks = false then 1
  else if i < -9007199254740992 ∨ 9007199254740992 < i then 2
  else if 4096 < s.size ∨ 1024 < l.length ∨ 1024 < ks.length then 3
  else if k = 5 ∧ keysB l ks = false then 1
  else if (k = 4 ∨ k = 5) ∧ lev = 16 then 13
  else 0

set_option maxHeartbeats 4000000 in
set_option maxRecDepth 100000 in
theorem validPart_any (lev : Int) (k : Int) (t : Bool) (i : Int) (s : ByteArray) (av kv : Option Addr) (l : List Vl) (ks : List (List UInt8)) (c kc : Nat)
    (hn : l.length ≤ 9223372036854775000) (hl : ks.length ≤ 9223372036854775000) (hsz : ∀ x, x ∈ ks → x.length ≤ 140737488351232) (w : World) (hr : ReadsStr w kv ks) :
    Calls Tryd.prog 63 #[.agg #[.int .i64 k, .bool t, .int .i64 i, .string s, .slice av l.length c, .slice kv ks.length kc], .int .i64 lev] w fun e w' => e = .returned (.int .i64 (partP lev k t i s l ks : Nat)) ∧ Below w.heap.size w w' := by
  have X1 := Lib.hid (fun w => own_any k t i s av kv l ks c kc w)
  have X2 := Lib.hid (fun w (h : ReadsStr w kv ks) => validKeys_any k t i s av kv l ks c kc hn hl hsz w h)
  have X3 := Lib.hid (fun w => compound_any k t i s av kv l.length c ks.length kc w)
  have HR := Lib.hid hr
  clear hr hn hl hsz
  by_cases h0 : 16 < lev
  · have E := Lib.hid (show partP lev k t i s l ks = 13 by unfold partP; rw [if_pos h0])
    go_enter Tryd.func63, Tryd.ntmps63
    go_wp2_with fail
    go_ret
    exact ⟨by rw [E.out]; rfl, by repeat (first | exact Below.refl _ _ | refine Below.setCell ?_ (by simp <;> omega) _ | refine Below.alloc ?_ (by simp <;> omega) _)⟩
  have E0 : partP lev k t i s l ks = partP lev k t i s l ks := rfl
  conv at E0 => rhs; unfold partP; rw [if_neg h0]
  cases hq : ownB k t i s l ks
  · have E := Lib.hid (show partP lev k t i s l ks = 1 by rw [E0, if_pos hq])
    rw [hq] at X1
    clear E0 hq
    go_enter Tryd.func63, Tryd.ntmps63
    go_wp2_with fail
    go_fit (X1.out _)
    rintro e w1 ⟨rfl, hb1⟩
    have V1 := (V6_new w _ t i s (.slice av l.length c) (.slice kv ks.length kc)).below (by simp) hb1
    have B1 := Lib.hid (((Below.refl w.heap.size w).alloc (Nat.le_refl _) _).trans (hb1.mono (by simp)))
    have z1 := hb1.size
    simp only [World.size_alloc] at z1
    obtain ⟨-, c0, c1, c2, c3, c4, c5⟩ := V1
    clear hb1
    go_wp2_with fail
    go_ret
    exact ⟨by rw [E.out]; rfl, B1.out⟩
  rw [hq] at X1
  rw [if_neg (by rw [hq]; decide)] at E0
  clear hq
  by_cases h1 : i < -9007199254740992 ∨ 9007199254740992 < i
  · have E := Lib.hid (show partP lev k t i s l ks = 2 by rw [E0, if_pos h1])
    clear E0
    by_cases h2 : i < -9007199254740992
    · clear h1
      go_enter Tryd.func63, Tryd.ntmps63
      go_wp2_with fail
      go_fit (X1.out _)
      rintro e w1 ⟨rfl, hb1⟩
      have V1 := (V6_new w _ t i s (.slice av l.length c) (.slice kv ks.length kc)).below (by simp) hb1
      have B1 := Lib.hid (((Below.refl w.heap.size w).alloc (Nat.le_refl _) _).trans (hb1.mono (by simp)))
      have z1 := hb1.size
      simp only [World.size_alloc] at z1
      obtain ⟨-, c0, c1, c2, c3, c4, c5⟩ := V1
      clear hb1
      go_wp2_with fail
      go_ret
      exact ⟨by rw [E.out]; rfl, by exact B1.out⟩
    · have h3 : 9007199254740992 < i := by omega
      clear h1
      go_enter Tryd.func63, Tryd.ntmps63
      go_wp2_with fail
      go_fit (X1.out _)
      rintro e w1 ⟨rfl, hb1⟩
      have V1 := (V6_new w _ t i s (.slice av l.length c) (.slice kv ks.length kc)).below (by simp) hb1
      have B1 := Lib.hid (((Below.refl w.heap.size w).alloc (Nat.le_refl _) _).trans (hb1.mono (by simp)))
      have z1 := hb1.size
      simp only [World.size_alloc] at z1
      obtain ⟨-, c0, c1, c2, c3, c4, c5⟩ := V1
      clear hb1
      go_wp2_with fail
      go_ret
      exact ⟨by rw [E.out]; rfl, by exact B1.out⟩
  rw [if_neg h1] at E0
  have h2 : ¬ i < -9007199254740992 := by omega
  have h3 : ¬ 9007199254740992 < i := by omega
  clear h1
  by_cases h4 : 4096 < s.size ∨ 1024 < l.length ∨ 1024 < ks.length
  · have E := Lib.hid (show partP lev k t i s l ks = 3 by rw [E0, if_pos h4])
    clear E0
    by_cases h5 : 4096 < s.size
    · have g5 : (4096 : Int) < (s.size : Int) := by omega
      clear h4 h5
      go_enter Tryd.func63, Tryd.ntmps63
      go_wp2_with fail
      go_fit (X1.out _)
      rintro e w1 ⟨rfl, hb1⟩
      have V1 := (V6_new w _ t i s (.slice av l.length c) (.slice kv ks.length kc)).below (by simp) hb1
      have B1 := Lib.hid (((Below.refl w.heap.size w).alloc (Nat.le_refl _) _).trans (hb1.mono (by simp)))
      have z1 := hb1.size
      simp only [World.size_alloc] at z1
      obtain ⟨-, c0, c1, c2, c3, c4, c5⟩ := V1
      clear hb1
      go_wp2_with fail
      go_ret
      exact ⟨by rw [E.out]; rfl, by exact B1.out⟩
    · have g5 : ¬ (4096 : Int) < (s.size : Int) := by omega
      by_cases h6 : 1024 < l.length
      · have g6 : (1024 : Int) < (l.length : Int) := by omega
        clear h4 h5 h6
        go_enter Tryd.func63, Tryd.ntmps63
        go_wp2_with fail
        go_fit (X1.out _)
        rintro e w1 ⟨rfl, hb1⟩
        have V1 := (V6_new w _ t i s (.slice av l.length c) (.slice kv ks.length kc)).below (by simp) hb1
        have B1 := Lib.hid (((Below.refl w.heap.size w).alloc (Nat.le_refl _) _).trans (hb1.mono (by simp)))
        have z1 := hb1.size
        simp only [World.size_alloc] at z1
        obtain ⟨-, c0, c1, c2, c3, c4, c5⟩ := V1
        clear hb1
        go_wp2_with fail
        go_ret
        exact ⟨by rw [E.out]; rfl, by exact B1.out⟩
      · have g6 : ¬ (1024 : Int) < (l.length : Int) := by omega
        have g7 : (1024 : Int) < (ks.length : Int) := by omega
        clear h4 h5 h6
        go_enter Tryd.func63, Tryd.ntmps63
        go_wp2_with fail
        go_fit (X1.out _)
        rintro e w1 ⟨rfl, hb1⟩
        have V1 := (V6_new w _ t i s (.slice av l.length c) (.slice kv ks.length kc)).below (by simp) hb1
        have B1 := Lib.hid (((Below.refl w.heap.size w).alloc (Nat.le_refl _) _).trans (hb1.mono (by simp)))
        have z1 := hb1.size
        simp only [World.size_alloc] at z1
        obtain ⟨-, c0, c1, c2, c3, c4, c5⟩ := V1
        clear hb1
        go_wp2_with fail
        go_ret
        exact ⟨by rw [E.out]; rfl, by exact B1.out⟩
  rw [if_neg h4] at E0
  have g5 : ¬ (4096 : Int) < (s.size : Int) := by omega
  have g6 : ¬ (1024 : Int) < (l.length : Int) := by omega
  have g7 : ¬ (1024 : Int) < (ks.length : Int) := by omega
  clear h4
  by_cases h8 : k = 5
  · subst h8
    cases hq : keysB l ks
    · have E := Lib.hid (show partP lev 5 t i s l ks = 1 by rw [E0, if_pos ⟨rfl, hq⟩])
      rw [hq] at X2
      clear E0 hq
      go_enter Tryd.func63, Tryd.ntmps63
      go_wp2_with fail
      go_fit (X1.out _)
      rintro e w1 ⟨rfl, hb1⟩
      have V1 := (V6_new w _ t i s (.slice av l.length c) (.slice kv ks.length kc)).below (by simp) hb1
      have B1 := Lib.hid (((Below.refl w.heap.size w).alloc (Nat.le_refl _) _).trans (hb1.mono (by simp)))
      have z1 := hb1.size
      simp only [World.size_alloc] at z1
      obtain ⟨-, c0, c1, c2, c3, c4, c5⟩ := V1
      clear hb1
      go_wp2_with fail
      go_fit (X2.out _ (HR.out.below B1.out))
      rintro e w2 ⟨rfl, hb2⟩
      have V2 := (show V6 w1 w.heap.size _ _ _ _ _ _ from ⟨by omega, c0, c1, c2, c3, c4, c5⟩).below (by omega) hb2
      have B2 := Lib.hid (B1.out.trans (hb2.mono B1.out.size))
      clear c0 c1 c2 c3 c4 c5
      obtain ⟨-, c0, c1, c2, c3, c4, c5⟩ := V2
      clear hb2
      go_wp2_with fail
      go_ret
      exact ⟨by rw [E.out]; rfl, by exact B2.out⟩
    rw [if_neg (by rw [hq]; simp)] at E0
    rw [hq] at X2
    clear hq
    by_cases h9 : lev = 16
    · have E := Lib.hid (show partP lev 5 t i s l ks = 13 by rw [E0, if_pos ⟨.inr rfl, h9⟩])
      have g9 : (lev == 16) = true := by rw [beq_iff_eq]; exact h9
      clear E0 h9
      go_enter Tryd.func63, Tryd.ntmps63
      go_wp2_with fail
      go_fit (X1.out _)
      rintro e w1 ⟨rfl, hb1⟩
      have V1 := (V6_new w _ t i s (.slice av l.length c) (.slice kv ks.length kc)).below (by simp) hb1
      have B1 := Lib.hid (((Below.refl w.heap.size w).alloc (Nat.le_refl _) _).trans (hb1.mono (by simp)))
      have z1 := hb1.size
      simp only [World.size_alloc] at z1
      obtain ⟨-, c0, c1, c2, c3, c4, c5⟩ := V1
      clear hb1
      go_wp2_with fail
      go_fit (X2.out _ (HR.out.below B1.out))
      rintro e w2 ⟨rfl, hb2⟩
      have V2 := (show V6 w1 w.heap.size _ _ _ _ _ _ from ⟨by omega, c0, c1, c2, c3, c4, c5⟩).below (by omega) hb2
      have B2 := Lib.hid (B1.out.trans (hb2.mono B1.out.size))
      clear c0 c1 c2 c3 c4 c5
      obtain ⟨-, c0, c1, c2, c3, c4, c5⟩ := V2
      clear hb2
      go_wp2_with fail
      go_fit (X3.out _)
      rintro e w3 ⟨rfl, hb3⟩
      have B3 := Lib.hid (B2.out.trans (hb3.mono B2.out.size))
      clear hb3
      go_wp2_with fail
      go_ret
      exact ⟨by rw [E.out]; rfl, by exact B3.out⟩
    · have E := Lib.hid (show partP lev 5 t i s l ks = 0 by rw [E0, if_neg (fun h => h9 h.2)])
      have g9 : (lev == 16) = false := by rw [beq_eq_false_iff_ne]; exact h9
      clear E0 h9
      go_enter Tryd.func63, Tryd.ntmps63
      go_wp2_with fail
      go_fit (X1.out _)
      rintro e w1 ⟨rfl, hb1⟩
      have V1 := (V6_new w _ t i s (.slice av l.length c) (.slice kv ks.length kc)).below (by simp) hb1
      have B1 := Lib.hid (((Below.refl w.heap.size w).alloc (Nat.le_refl _) _).trans (hb1.mono (by simp)))
      have z1 := hb1.size
      simp only [World.size_alloc] at z1
      obtain ⟨-, c0, c1, c2, c3, c4, c5⟩ := V1
      clear hb1
      go_wp2_with fail
      go_fit (X2.out _ (HR.out.below B1.out))
      rintro e w2 ⟨rfl, hb2⟩
      have V2 := (show V6 w1 w.heap.size _ _ _ _ _ _ from ⟨by omega, c0, c1, c2, c3, c4, c5⟩).below (by omega) hb2
      have B2 := Lib.hid (B1.out.trans (hb2.mono B1.out.size))
      clear c0 c1 c2 c3 c4 c5
      obtain ⟨-, c0, c1, c2, c3, c4, c5⟩ := V2
      clear hb2
      go_wp2_with fail
      go_fit (X3.out _)
      rintro e w3 ⟨rfl, hb3⟩
      have B3 := Lib.hid (B2.out.trans (hb3.mono B2.out.size))
      clear hb3
      go_wp2_with fail
      go_ret
      exact ⟨by rw [E.out]; rfl, by exact B3.out⟩
  · rw [if_neg (fun h => h8 h.1)] at E0
    have g8 : (k == 5) = false := by rw [beq_eq_false_iff_ne]; exact h8
    rw [g8, Bool.or_false] at X3
    by_cases h10 : k = 4
    · have g10 : (k == 4) = true := by rw [beq_iff_eq]; exact h10
      rw [g10] at X3
      by_cases h9 : lev = 16
      · have E := Lib.hid (show partP lev k t i s l ks = 13 by rw [E0, if_pos ⟨.inl h10, h9⟩])
        have g9 : (lev == 16) = true := by rw [beq_iff_eq]; exact h9
        clear E0 h9 h10 h8
        go_enter Tryd.func63, Tryd.ntmps63
        go_wp2_with fail
        go_fit (X1.out _)
        rintro e w1 ⟨rfl, hb1⟩
        have V1 := (V6_new w _ t i s (.slice av l.length c) (.slice kv ks.length kc)).below (by simp) hb1
        have B1 := Lib.hid (((Below.refl w.heap.size w).alloc (Nat.le_refl _) _).trans (hb1.mono (by simp)))
        have z1 := hb1.size
        simp only [World.size_alloc] at z1
        obtain ⟨-, c0, c1, c2, c3, c4, c5⟩ := V1
        clear hb1
        go_wp2_with fail
        go_fit (X3.out _)
        rintro e w2 ⟨rfl, hb2⟩
        have B2 := Lib.hid (B1.out.trans (hb2.mono B1.out.size))
        clear hb2
        go_wp2_with fail
        go_ret
        exact ⟨by rw [E.out]; rfl, by exact B2.out⟩
      · have E := Lib.hid (show partP lev k t i s l ks = 0 by rw [E0, if_neg (fun h => h9 h.2)])
        have g9 : (lev == 16) = false := by rw [beq_eq_false_iff_ne]; exact h9
        clear E0 h9 h10 h8
        go_enter Tryd.func63, Tryd.ntmps63
        go_wp2_with fail
        go_fit (X1.out _)
        rintro e w1 ⟨rfl, hb1⟩
        have V1 := (V6_new w _ t i s (.slice av l.length c) (.slice kv ks.length kc)).below (by simp) hb1
        have B1 := Lib.hid (((Below.refl w.heap.size w).alloc (Nat.le_refl _) _).trans (hb1.mono (by simp)))
        have z1 := hb1.size
        simp only [World.size_alloc] at z1
        obtain ⟨-, c0, c1, c2, c3, c4, c5⟩ := V1
        clear hb1
        go_wp2_with fail
        go_fit (X3.out _)
        rintro e w2 ⟨rfl, hb2⟩
        have B2 := Lib.hid (B1.out.trans (hb2.mono B1.out.size))
        clear hb2
        go_wp2_with fail
        go_ret
        exact ⟨by rw [E.out]; rfl, by exact B2.out⟩
    · have g10 : (k == 4) = false := by rw [beq_eq_false_iff_ne]; exact h10
      rw [g10] at X3
      have E := Lib.hid (show partP lev k t i s l ks = 0 by rw [E0, if_neg (fun h => h.1.elim h10 h8)])
      clear E0 h10 h8
      go_enter Tryd.func63, Tryd.ntmps63
      go_wp2_with fail
      go_fit (X1.out _)
      rintro e w1 ⟨rfl, hb1⟩
      have V1 := (V6_new w _ t i s (.slice av l.length c) (.slice kv ks.length kc)).below (by simp) hb1
      have B1 := Lib.hid (((Below.refl w.heap.size w).alloc (Nat.le_refl _) _).trans (hb1.mono (by simp)))
      have z1 := hb1.size
      simp only [World.size_alloc] at z1
      obtain ⟨-, c0, c1, c2, c3, c4, c5⟩ := V1
      clear hb1
      go_wp2_with fail
      go_fit (X3.out _)
      rintro e w2 ⟨rfl, hb2⟩
      have B2 := Lib.hid (B1.out.trans (hb2.mono B1.out.size))
      clear hb2
      go_wp2_with fail
      go_ret
      exact ⟨by rw [E.out]; rfl, by exact B2.out⟩
end Go.Proofs.YtabopneehhnhfabDoor
