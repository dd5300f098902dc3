/- Contracts of functions of the program, and what they are made of (parser; Pk09). -/
import Derived.Test.YtjehhldboopocaaGreatDoorPk07
import Derived.Test.YtjehhldboopocaaGreatDoorPk08
import Derived.RangeFuncNested
import Derived.RangeFuncBound
import Derived.RangeFuncCalls
import Derived.RangeFuncLeaves
import Derived.Shelf.Abstract
import Derived.Shelf.RegionOpen
import Derived.WalkKit
import Derived.OwnWalkIn
import Derived.TacticsInMore
import Derived.LoopNIn
import Derived.LoopIn
import Derived.Deep.QuietTactic
import Derived.BigQuiet
namespace Go.Proofs.YtjehhldboopocaaGreatDoor
open Go.RowKit Go.Lib
/-- A value lies spelled out in a block. -/
def V6 (w : World) (B : Nat) (k : Int) (t : Bool) (i : Int) (s : ByteArray) (sl kl : Value) : Prop :=
  B < w.heap.size ∧ w.cell? ⟨B, 0, none⟩ = some (.int .i64 k) ∧ w.cell? ⟨B, 1, none⟩ = some (.bool t) ∧ w.cell? ⟨B, 2, none⟩ = some (.int .i64 i) ∧ w.cell? ⟨B, 3, none⟩ = some (.string s) ∧ w.cell? ⟨B, 4, none⟩ = some sl ∧ w.cell? ⟨B, 5, none⟩ = some kl
theorem V6.below {w w' : World} {B : Nat} {k : Int} {t : Bool} {i : Int} {s : ByteArray} {sl kl : Value} (h : V6 w B k t i s sl kl) {n : Nat} (hn : B < n) (hb : Below n w w') : V6 w' B k t i s sl kl := by
  obtain ⟨h0, c0, c1, c2, c3, c4, c5⟩ := h
  exact ⟨Nat.lt_of_lt_of_le h0 hb.size, (hb.cell (p := ⟨B, _, none⟩) hn).trans c0, (hb.cell (p := ⟨B, _, none⟩) hn).trans c1, (hb.cell (p := ⟨B, _, none⟩) hn).trans c2, (hb.cell (p := ⟨B, _, none⟩) hn).trans c3, (hb.cell (p := ⟨B, _, none⟩) hn).trans c4, (hb.cell (p := ⟨B, _, none⟩) hn).trans c5⟩
theorem V6_new (w : World) (k : Int) (t : Bool) (i : Int) (s : ByteArray) (sl kl : Value) : V6 (w.alloc (.cells #[.int .i64 k, .bool t, .int .i64 i, .string s, sl, kl] 26)) w.heap.size k t i s sl kl := by
  unfold V6
  simp

/-- What the program's check of a value without its elements answers, at a level. -/
def partP (lev : Int) (k : Int) (t : Bool) (i : Int) (s : ByteArray) (l : List Vl) (ks : List (List UInt8)) : Nat :=
  if 16 < lev then 13
  else if ownB k t i s l ks = false then 1
  else if i < -9007199254740992 ∨ 9007199254740992 < i then 2
  else if 4096 < s.size ∨ 1024 < l.length ∨ 1024 < ks.length then 3
  else if k = 5 ∧ keysB l ks = false then 1
  else if (k = 4 ∨ k = 5) ∧ lev = 16 then 13
  else 0

set_option maxHeartbeats 4000000 in
set_option maxRecDepth 100000 in
theorem validPart_any (lev : Int) (k : Int) (t : Bool) (i : Int) (s : ByteArray) (av kv : Option Addr) (l : List Vl) (ks : List (List UInt8)) (c kc : Nat)
    (hn : l.length ≤ 9223372036854775000) (hl : ks.length ≤ 9223372036854775000) (hsz : ∀ x, x ∈ ks → x.length ≤ 140737488351232) (w : World) (hr : ReadsStr w kv ks) :
    Calls Tryz.prog 137 #[.agg #[.int .i64 k, .bool t, .int .i64 i, .string s, .slice av l.length c, .slice kv ks.length kc], .int .i64 lev] w fun e w' => e = .returned (.int .i64 (partP lev k t i s l ks : Nat)) ∧ Below w.heap.size w w' := by
  have X1 := Lib.hid (fun w => own_any k t i s av kv l ks c kc w)
  have X2 := Lib.hid (fun w (h : ReadsStr w kv ks) => validKeys_any k t i s av kv l ks c kc hn hl hsz w h)
  have X3 := Lib.hid (fun w => compound_any k t i s av kv l.length c ks.length kc w)
  have HR := Lib.hid hr
  clear hr hn hl hsz
  by_cases h0 : 16 < lev
  · have E := Lib.hid (show partP lev k t i s l ks = 13 by unfold partP; rw [if_pos h0])
    go_enter Tryz.func137, Tryz.ntmps137
    go_wp2_with fail
    go_ret
    exact ⟨by rw [E.out]; rfl, by repeat (first | exact Below.refl _ _ | refine Below.setCell ?_ (by simp <;> omega) _ | refine Below.alloc ?_ (by simp <;> omega) _)⟩
  have E0 : partP lev k t i s l ks = partP lev k t i s l ks := rfl
  conv at E0 => rhs; unfold partP; rw [if_neg h0]
  cases hq : ownB k t i s l ks
  · have E := Lib.hid (show partP lev k t i s l ks = 1 by rw [E0, if_pos hq])
    rw [hq] at X1
    clear E0 hq
    go_enter Tryz.func137, Tryz.ntmps137
    go_wp2_with fail
    go_fit (X1.out _)
    rintro e w1 ⟨rfl, hb1⟩
    have V1 := (V6_new w _ t i s (.slice av l.length c) (.slice kv ks.length kc)).below (by simp) hb1
    have B1 := Lib.hid (((Below.refl w.heap.size w).alloc (Nat.le_refl _) _).trans (hb1.mono (by simp)))
    have z1 := hb1.size
    simp only [World.size_alloc] at z1
    obtain ⟨-, c0, c1, c2, c3, c4, c5⟩ := V1
    clear hb1
    go_wp2_with fail
    go_ret
    exact ⟨by rw [E.out]; rfl, B1.out⟩
  rw [hq] at X1
  rw [if_neg (by rw [hq]; decide)] at E0
  clear hq
  by_cases h1 : i < -9007199254740992 ∨ 9007199254740992 < i
  · have E := Lib.hid (show partP lev k t i s l ks = 2 by rw [E0, if_pos h1])
    clear E0
    by_cases h2 : i < -9007199254740992
    · clear h1
      go_enter Tryz.func137, Tryz.ntmps137
      go_wp2_with fail
      go_fit (X1.out _)
      rintro e w1 ⟨rfl, hb1⟩
      have V1 := (V6_new w _ t i s (.slice av l.length c) (.slice kv ks.length kc)).below (by simp) hb1
      have B1 := Lib.hid (((Below.refl w.heap.size w).alloc (Nat.le_refl _) _).trans (hb1.mono (by simp)))
      have z1 := hb1.size
      simp only [World.size_alloc] at z1
      obtain ⟨-, c0, c1, c2, c3, c4, c5⟩ := V1
      clear hb1
      go_wp2_with fail
      go_ret
      exact ⟨by rw [E.out]; rfl, by exact B1.out⟩
    · have h3 : 9007199254740992 < i := by omega
      clear h1
      go_enter Tryz.func137, Tryz.ntmps137
      go_wp2_with fail
      go_fit (X1.out _)
      rintro e w1 ⟨rfl, hb1⟩
      have V1 := (V6_new w _ t i s (.slice av l.length c) (.slice kv ks.length kc)).below (by simp) hb1
      have B1 := Lib.hid (((Below.refl w.heap.size w).alloc (Nat.le_refl _) _).trans (hb1.mono (by simp)))
      have z1 := hb1.size
      simp only [World.size_alloc] at z1
      obtain ⟨-, c0, c1, c2, c3, c4, c5⟩ := V1
      clear hb1
      go_wp2_with fail
      go_ret
      exact ⟨by rw [E.out]; rfl, by exact B1.out⟩
  rw [if_neg h1] at E0
  have h2 : ¬ i < -9007199254740992 := by omega
  have h3 : ¬ 9007199254740992 < i := by omega
  clear h1
  by_cases h4 : 4096 < s.size ∨ 1024 < l.length ∨ 1024 < ks.length
  · have E := Lib.hid (show partP lev k t i s l ks = 3 by rw [E0, if_pos h4])
    clear E0
    by_cases h5 : 4096 < s.size
    · have g5 : (4096 : Int) < (s.size : Int) := by omega
      clear h4 h5
      go_enter Tryz.func137, Tryz.ntmps137
      go_wp2_with fail
      go_fit (X1.out _)
      rintro e w1 ⟨rfl, hb1⟩
      have V1 := (V6_new w _ t i s (.slice av l.length c) (.slice kv ks.length kc)).below (by simp) hb1
      have B1 := Lib.hid (((Below.refl w.heap.size w).alloc (Nat.le_refl _) _).trans (hb1.mono (by simp)))
      have z1 := hb1.size
      simp only [World.size_alloc] at z1
      obtain ⟨-, c0, c1, c2, c3, c4, c5⟩ := V1
      clear hb1
      go_wp2_with fail
      go_ret
      exact ⟨by rw [E.out]; rfl, by exact B1.out⟩
    · have g5 : ¬ (4096 : Int) < (s.size : Int) := by omega
      by_cases h6 : 1024 < l.length
      · have g6 : (1024 : Int) < (l.length : Int) := by omega
        clear h4 h5 h6
        go_enter Tryz.func137, Tryz.ntmps137
        go_wp2_with fail
        go_fit (X1.out _)
        rintro e w1 ⟨rfl, hb1⟩
        have V1 := (V6_new w _ t i s (.slice av l.length c) (.slice kv ks.length kc)).below (by simp) hb1
        have B1 := Lib.hid (((Below.refl w.heap.size w).alloc (Nat.le_refl _) _).trans (hb1.mono (by simp)))
        have z1 := hb1.size
        simp only [World.size_alloc] at z1
        obtain ⟨-, c0, c1, c2, c3, c4, c5⟩ := V1
        clear hb1
        go_wp2_with fail
        go_ret
        exact ⟨by rw [E.out]; rfl, by exact B1.out⟩
      · have g6 : ¬ (1024 : Int) < (l.length : Int) := by omega
        have g7 : (1024 : Int) < (ks.length : Int) := by omega
        clear h4 h5 h6
        go_enter Tryz.func137, Tryz.ntmps137
        go_wp2_with fail
        go_fit (X1.out _)
        rintro e w1 ⟨rfl, hb1⟩
        have V1 := (V6_new w _ t i s (.slice av l.length c) (.slice kv ks.length kc)).below (by simp) hb1
        have B1 := Lib.hid (((Below.refl w.heap.size w).alloc (Nat.le_refl _) _).trans (hb1.mono (by simp)))
        have z1 := hb1.size
        simp only [World.size_alloc] at z1
        obtain ⟨-, c0, c1, c2, c3, c4, c5⟩ := V1
        clear hb1
        go_wp2_with fail
        go_ret
        exact ⟨by rw [E.out]; rfl, by exact B1.out⟩
  rw [if_neg h4] at E0
  have g5 : ¬ (4096 : Int) < (s.size : Int) := by omega
  have g6 : ¬ (1024 : Int) < (l.length : Int) := by omega
  have g7 : ¬ (1024 : Int) < (ks.length : Int) := by omega
  clear h4
  by_cases h8 : k = 5
  · subst h8
    cases hq : keysB l ks
    · have E := Lib.hid (show partP lev 5 t i s l ks = 1 by rw [E0, if_pos ⟨rfl, hq⟩])
      rw [hq] at X2
      clear E0 hq
      go_enter Tryz.func137, Tryz.ntmps137
      go_wp2_with fail
      go_fit (X1.out _)
      rintro e w1 ⟨rfl, hb1⟩
      have V1 := (V6_new w _ t i s (.slice av l.length c) (.slice kv ks.length kc)).below (by simp) hb1
      have B1 := Lib.hid (((Below.refl w.heap.size w).alloc (Nat.le_refl _) _).trans (hb1.mono (by simp)))
      have z1 := hb1.size
      simp only [World.size_alloc] at z1
      obtain ⟨-, c0, c1, c2, c3, c4, c5⟩ := V1
      clear hb1
      go_wp2_with fail
      go_fit (X2.out _ (HR.out.below B1.out))
      rintro e w2 ⟨rfl, hb2⟩
      have V2 := (show V6 w1 w.heap.size _ _ _ _ _ _ from ⟨by omega, c0, c1, c2, c3, c4, c5⟩).below (by omega) hb2
      have B2 := Lib.hid (B1.out.trans (hb2.mono B1.out.size))
      clear c0 c1 c2 c3 c4 c5
      obtain ⟨-, c0, c1, c2, c3, c4, c5⟩ := V2
      clear hb2
      go_wp2_with fail
      go_ret
      exact ⟨by rw [E.out]; rfl, by exact B2.out⟩
    rw [if_neg (by rw [hq]; simp)] at E0
    rw [hq] at X2
    clear hq
    by_cases h9 : lev = 16
    · have E := Lib.hid (show partP lev 5 t i s l ks = 13 by rw [E0, if_pos ⟨.inr rfl, h9⟩])
      have g9 : (lev == 16) = true := by rw [beq_iff_eq]; exact h9
      clear E0 h9
      go_enter Tryz.func137, Tryz.ntmps137
      go_wp2_with fail
      go_fit (X1.out _)
      rintro e w1 ⟨rfl, hb1⟩
      have V1 := (V6_new w _ t i s (.slice av l.length c) (.slice kv ks.length kc)).below (by simp) hb1
      have B1 := Lib.hid (((Below.refl w.heap.size w).alloc (Nat.le_refl _) _).trans (hb1.mono (by simp)))
      have z1 := hb1.size
      simp only [World.size_alloc] at z1
      obtain ⟨-, c0, c1, c2, c3, c4, c5⟩ := V1
      clear hb1
      go_wp2_with fail
      go_fit (X2.out _ (HR.out.below B1.out))
      rintro e w2 ⟨rfl, hb2⟩
      have V2 := (show V6 w1 w.heap.size _ _ _ _ _ _ from ⟨by omega, c0, c1, c2, c3, c4, c5⟩).below (by omega) hb2
      have B2 := Lib.hid (B1.out.trans (hb2.mono B1.out.size))
      clear c0 c1 c2 c3 c4 c5
      obtain ⟨-, c0, c1, c2, c3, c4, c5⟩ := V2
      clear hb2
      go_wp2_with fail
      go_fit (X3.out _)
      rintro e w3 ⟨rfl, hb3⟩
      have B3 := Lib.hid (B2.out.trans (hb3.mono B2.out.size))
      clear hb3
      go_wp2_with fail
      go_ret
      exact ⟨by rw [E.out]; rfl, by exact B3.out⟩
    · have E := Lib.hid (show partP lev 5 t i s l ks = 0 by rw [E0, if_neg (fun h => h9 h.2)])
      have g9 : (lev == 16) = false := by rw [beq_eq_false_iff_ne]; exact h9
      clear E0 h9
      go_enter Tryz.func137, Tryz.ntmps137
      go_wp2_with fail
      go_fit (X1.out _)
      rintro e w1 ⟨rfl, hb1⟩
      have V1 := (V6_new w _ t i s (.slice av l.length c) (.slice kv ks.length kc)).below (by simp) hb1
      have B1 := Lib.hid (((Below.refl w.heap.size w).alloc (Nat.le_refl _) _).trans (hb1.mono (by simp)))
      have z1 := hb1.size
      simp only [World.size_alloc] at z1
      obtain ⟨-, c0, c1, c2, c3, c4, c5⟩ := V1
      clear hb1
      go_wp2_with fail
      go_fit (X2.out _ (HR.out.below B1.out))
      rintro e w2 ⟨rfl, hb2⟩
      have V2 := (show V6 w1 w.heap.size _ _ _ _ _ _ from ⟨by omega, c0, c1, c2, c3, c4, c5⟩).below (by omega) hb2
      have B2 := Lib.hid (B1.out.trans (hb2.mono B1.out.size))
      clear c0 c1 c2 c3 c4 c5
      obtain ⟨-, c0, c1, c2, c3, c4, c5⟩ := V2
      clear hb2
      go_wp2_with fail
      go_fit (X3.out _)
      rintro e w3 ⟨rfl, hb3⟩
      have B3 := Lib.hid (B2.out.trans (hb3.mono B2.out.size))
      clear hb3
      go_wp2_with fail
      go_ret
      exact ⟨by rw [E.out]; rfl, by exact B3.out⟩
  · rw [if_neg (fun h => h8 h.1)] at E0
    have g8 : (k == 5) = false := by rw [beq_eq_false_iff_ne]; exact h8
    rw [g8, Bool.or_false] at X3
    by_cases h10 : k = 4
    · have g10 : (k == 4) = true := by rw [beq_iff_eq]; exact h10
      rw [g10] at X3
      by_cases h9 : lev = 16
      · have E := Lib.hid (show partP lev k t i s l ks = 13 by rw [E0, if_pos ⟨.inl h10, h9⟩])
        have g9 : (lev == 16) = true := by rw [beq_iff_eq]; exact h9
        clear E0 h9 h10 h8
        go_enter Tryz.func137, Tryz.ntmps137
        go_wp2_with fail
        go_fit (X1.out _)
        rintro e w1 ⟨rfl, hb1⟩
        have V1 := (V6_new w _ t i s (.slice av l.length c) (.slice kv ks.length kc)).below (by simp) hb1
        have B1 := Lib.hid (((Below.refl w.heap.size w).alloc (Nat.le_refl _) _).trans (hb1.mono (by simp)))
        have z1 := hb1.size
        simp only [World.size_alloc] at z1
        obtain ⟨-, c0, c1, c2, c3, c4, c5⟩ := V1
        clear hb1
        go_wp2_with fail
        go_fit (X3.out _)
        rintro e w2 ⟨rfl, hb2⟩
        have B2 := Lib.hid (B1.out.trans (hb2.mono B1.out.size))
        clear hb2
        go_wp2_with fail
        go_ret
        exact ⟨by rw [E.out]; rfl, by exact B2.out⟩
      · have E := Lib.hid (show partP lev k t i s l ks = 0 by rw [E0, if_neg (fun h => h9 h.2)])
        have g9 : (lev == 16) = false := by rw [beq_eq_false_iff_ne]; exact h9
        clear E0 h9 h10 h8
        go_enter Tryz.func137, Tryz.ntmps137
        go_wp2_with fail
        go_fit (X1.out _)
        rintro e w1 ⟨rfl, hb1⟩
        have V1 := (V6_new w _ t i s (.slice av l.length c) (.slice kv ks.length kc)).below (by simp) hb1
        have B1 := Lib.hid (((Below.refl w.heap.size w).alloc (Nat.le_refl _) _).trans (hb1.mono (by simp)))
        have z1 := hb1.size
        simp only [World.size_alloc] at z1
        obtain ⟨-, c0, c1, c2, c3, c4, c5⟩ := V1
        clear hb1
        go_wp2_with fail
        go_fit (X3.out _)
        rintro e w2 ⟨rfl, hb2⟩
        have B2 := Lib.hid (B1.out.trans (hb2.mono B1.out.size))
        clear hb2
        go_wp2_with fail
        go_ret
        exact ⟨by rw [E.out]; rfl, by exact B2.out⟩
    · have g10 : (k == 4) = false := by rw [beq_eq_false_iff_ne]; exact h10
      rw [g10] at X3
      have E := Lib.hid (show partP lev k t i s l ks = 0 by rw [E0, if_neg (fun h => h.1.elim h10 h8)])
      clear E0 h10 h8
      go_enter Tryz.func137, Tryz.ntmps137
      go_wp2_with fail
      go_fit (X1.out _)
      rintro e w1 ⟨rfl, hb1⟩
      have V1 := (V6_new w _ t i s (.slice av l.length c) (.slice kv ks.length kc)).below (by simp) hb1
      have B1 := Lib.hid (((Below.refl w.heap.size w).alloc (Nat.le_refl _) _).trans (hb1.mono (by simp)))
      have z1 := hb1.size
      simp only [World.size_alloc] at z1
      obtain ⟨-, c0, c1, c2, c3, c4, c5⟩ := V1
      clear hb1
      go_wp2_with fail
      go_fit (X3.out _)
      rintro e w2 ⟨rfl, hb2⟩
      have B2 := Lib.hid (B1.out.trans (hb2.mono B1.out.size))
      clear hb2
      go_wp2_with fail
      go_ret
      exact ⟨by rw [E.out]; rfl, by exact B2.out⟩
end Go.Proofs.YtjehhldboopocaaGreatDoor
namespace Go.Proofs.YtjehhldboopocaaGreatDoor
open Go.RowKit Go.Shelf
attribute [local go_sem] Oper.semAt_some
theorem room_of_none {F : Fence} (hd : F.depth = none) (k : Nat) : F.room k := fun d h => by rw [hd] at h; cases h
theorem round_anyDepth {F : Fence} (hd : F.depth = none) {m m' : Nat} {P : Program} {l : Nat} {f : FuncId} {tmps : Array Value} {assign body : Code} {w : World} {R : Ending → World → Prop}
    (h : RoundIn F m P l f tmps assign body w R) : RoundIn F m' P l f tmps assign body w R := ⟨h.1, fun c cs _ => h.2 c cs (room_of_none hd _)⟩
theorem yield_anyDepth {F : Fence} (hd : F.depth = none) {m : Nat} (m' : Nat) {P : Program} {l : Nat} {args : Array Value} {W : World} {R : Ending → World → Prop} (h : YieldAt F m P l args W R) : YieldAt F m' P l args W R := by
  obtain ⟨fn, tmps, assign, body, hy, hR⟩ := h
  exact ⟨fn, tmps, assign, body, hy, round_anyDepth hd hR⟩

/-- A part of a value: its level, its value, its tree, as it lay in w0. -/
abbrev Pt (w0 : World) : Type := { p : Int × Value × Vl // ∃ m, IsV m w0 p.2.1 p.2.2 }
def Pt.lt {w0 : World} (p : Pt w0) : Int × Vl := (p.1.1, p.1.2.2)
def encP {w0 : World} (p : Pt w0) : Array Value := #[.int .i64 p.1.1, p.1.2.1]
/-- A value's parts: itself, and then the parts of its elements. -/
def preV : Nat → Int → Vl → List (Int × Vl)
  | 0, lev, x => [(lev, x)]
  | m + 1, lev, .mk k t i s l ks => (lev, .mk k t i s l ks) :: l.flatMap (preV m (wrap64 (lev + 1)))
theorem flat_take {α β : Type} (f : α → List β) (l : List α) (j : Nat) (hj : j < l.length) : (l.take (j + 1)).flatMap f = (l.take j).flatMap f ++ f l[j] := by
  rw [List.take_succ_eq_append_getElem hj, List.flatMap_append, List.flatMap_cons, List.flatMap_nil, List.append_nil]
theorem flat_le {α β : Type} (f : α → List β) (l : List α) (j : Nat) (hj : j < l.length) : ((l.take j).flatMap f).length + (f l[j]).length ≤ (l.flatMap f).length := by
  conv => rhs; rw [← List.take_append_drop (j + 1) l, List.flatMap_append, flat_take f l j hj]
  simp
theorem flat_pre {α β : Type} (f : α → List β) (l : List α) (j : Nat) (hj : j < l.length) (q : List β) (h : q <+: f l[j]) : (l.take j).flatMap f ++ q <+: l.flatMap f := by
  conv => rhs; rw [← List.take_append_drop (j + 1) l, List.flatMap_append, flat_take f l j hj]
  obtain ⟨r, hr⟩ := h
  exact ⟨r ++ (l.drop (j + 1)).flatMap f, by rw [← hr]; simp⟩

/-- Every block of cells lies as it lay. -/
def KeepC (W W' : World) : Prop := W.heap.size ≤ W'.heap.size ∧ ∀ (j : Nat) (o : Obj), W.heap[j]? = some o → o.isCells = true → W'.heap[j]? = some o
theorem KeepC.refl (W : World) : KeepC W W := ⟨Nat.le_refl _, fun _ _ h _ => h⟩
theorem KeepC.trans {A B C : World} (h : KeepC A B) (k : KeepC B C) : KeepC A C := ⟨Nat.le_trans h.1 k.1, fun j o h1 h2 => k.2 j o (h.2 j o h1 h2) h2⟩
theorem KeepC.of_below {A B : World} (h : Below A.heap.size A B) : KeepC A B := ⟨h.size, fun j _ h1 _ => (h.block j (Array.getElem?_eq_some_iff.1 h1).1).trans h1⟩
theorem KeepC.alloc (W : World) (o : Obj) : KeepC W (W.alloc o) := KeepC.of_below ((Below.refl _ W).alloc (Nat.le_refl _) o)
theorem KeepC.put (W : World) (l : Nat) (o o' : Obj) (h : W.heap[l]? = some o) (hc : o.isCells = false) : KeepC W (W.putObj l o') :=
  ⟨by simp [World.putObj], fun j q h1 h2 => by
    have e : j ≠ l := by
      intro e
      subst e
      rw [h] at h1
      injection h1 with h1
      subst h1
      rw [hc] at h2
      cases h2
    exact (World.putObj_heap_other e).trans h1⟩
theorem KeepC.cell {W W' : World} (h : KeepC W W') {b off : Nat} {v : Value} (hc : W.cell? ⟨b, off, none⟩ = some v) : W'.cell? ⟨b, off, none⟩ = some v := by
  cases ho : W.heap[b]? with
  | none => simp [World.cell?, ho] at hc
  | some o =>
    cases hq : o.isCells with
    | true => simp only [World.cell?, ho] at hc; simp only [World.cell?, h.2 b o ho hq]; exact hc
    | false => cases o <;> simp_all [World.cell?, Obj.isCells]

set_option maxRecDepth 100000 in
set_option maxHeartbeats 4000000 in
theorem visit_in (F : Fence) (hd : F.depth = none) (hf : F.fn 172) (hro : F.round = none) (l N B : Nat) (w0 : World) (J Jx : List (Pt w0) → World → Prop) (hJ : AbidesFrom B J)
    (hY : ∀ m pre x W, J pre W → pre.length < N → YieldAt F m Tryz.prog l (encP x) W fun e W' =>
      (e = .returned (.bool true) ∧ J (pre ++ [x]) W' ∧ KeepC W W') ∨ (e = .returned (.bool false) ∧ Jx (pre ++ [x]) W')) :
    ∀ (m n : Nat) (lev : Int) (V : Value) (x : Vl) (pre : List (Pt w0)) (W : World), IsV m w0 V x → KeepC w0 W → J pre W → pre.length + (preV m lev x).length ≤ N →
      CallsIn F n Tryz.prog 172 #[V, .int .i64 lev, .func (.yield l) #[] #[]] W fun e W' =>
        (e = .returned (.bool true) ∧ (∃ ys : List (Pt w0), ys.map Pt.lt = preV m lev x ∧ J (pre ++ ys) W') ∧ KeepC W W') ∨ (e = .returned (.bool false) ∧ ∃ q : List (Pt w0), q.map Pt.lt <+: preV m lev x ∧ Jx (pre ++ q) W') := by
  intro m
  induction m using Nat.strongRecOn with
  | ind m ih =>
    intro n lev V x pre W hV hb hJ0 hN
    obtain ⟨k, t, i, s, l0, ks, av, c, kv, kc, rfl, rfl, g0, g1, g2, g3, g4, g5, g6, g7, g8, g9, hs, hl⟩ := id hV
    have hdd : ∀ k : Nat, (F.depth.isSome = true → 1 ≤ k) := fun k h => by rw [hd] at h; cases h
    have hJd : ∀ ys W1 o, J ys W1 → J ys (W1.alloc o) := fun ys W1 o h => hJ _ _ _ none h (World.grownBy_alloc _ _ none) (fun r e => by cases e)
    obtain ⟨f, hf0, hpre⟩ : ∃ f : Vl → List (Int × Vl), (∀ m', m = m' + 1 → f = preV m' (wrap64 (lev + 1))) ∧ preV m lev (.mk k t i s l0 ks) = (lev, .mk k t i s l0 ks) :: l0.flatMap f := by
      cases m with
      | zero =>
        have hl' : l0 = [] := hl
        subst hl'
        exact ⟨fun _ => [], fun _ h => by omega, rfl⟩
      | succ m => exact ⟨_, fun m' h => by rw [show m = m' by omega], rfl⟩
    rw [hpre] at hN ⊢
    rw [List.length_cons] at hN
    obtain ⟨p0, hlt, hen⟩ : ∃ p0 : Pt w0, p0.lt = (lev, .mk k t i s l0 ks) ∧ encP p0 = #[.int .i64 lev, .agg #[.int .i64 k, .bool t, .int .i64 i, .string s, .slice av l0.length c, .slice kv ks.length kc]] := ⟨⟨(lev, _, _), ⟨m, hV⟩⟩, rfl, rfl⟩
    obtain ⟨fn, tmps, assign, body, hy, hR⟩ := hY (n - 1) pre p0 (W.alloc (.cells #[.int .i64 k, .bool t, .int .i64 i, .string s, .slice av l0.length c, .slice kv ks.length kc] 26)) (hJd _ W _ hJ0) (by omega)
    rw [hen] at hy
    have HPRE := Lib.hid hpre
    have HL := Lib.hid hl
    have HIH := Lib.hid ih
    have HLT := Lib.hid hlt
    have HY := Lib.hid hY
    have HB := Lib.hid hb
    have HJD := Lib.hid hJd
    clear hV hpre hl ih hlt hen hY hb hJd g0 g1 g6 g7 g8 g9 hs
    refine callsIn_of_wp Tryz.func172 rfl hf ?_ hro
    simp only [Tryz.ntmps172, List.size_toArray, List.length_cons, List.length_nil, Nat.reduceAdd, Nat.reduceSub, Array.replicate_succ, Array.replicate_zero, List.push_toArray, List.append_toArray, List.nil_append, List.cons_append]
    gi_wp2
    try refine ⟨hdd _, ?_⟩
    refine hR.mono ?_
    clear hR
    rintro e W1 (⟨rfl, hJ1, hk1⟩ | ⟨rfl, hJx1⟩)
    · have hc4 := hk1.cell (b := W.heap.size) (off := 4) (v := .slice av l0.length c) (by simp)
      have HK1 := Lib.hid ((KeepC.alloc W _).trans hk1)
      have HJ1 := Lib.hid hJ1
      clear hk1 hJ1 hy
      gi_wp2
      gi_loopw [17] (fun s17 wr => ∃ (j : Nat) (ys : List (Pt w0)), j ≤ l0.length ∧ s17 = .int .i64 j ∧ ys.map Pt.lt = (lev, .mk k t i s l0 ks) :: (l0.take j).flatMap f ∧ J (pre ++ ys) wr ∧ KeepC W wr) (fun s17 _ => l0.length - (intOf s17).toNat)
      case atStart => exact ⟨0, [p0], Nat.zero_le _, rfl, by simp [HLT.out], HJ1.out, HK1.out⟩
      case round =>
        obtain ⟨j, ys, hj, rfl, hys, hJr, hkr⟩ := hrel
        have HYS := Lib.hid hys
        have HJR := Lib.hid hJr
        have HKR := Lib.hid hkr
        clear hys hJr hkr hc4 HK1 HJ1
        by_cases hlt : j < l0.length
        · cases m with
          | zero => exact absurd hlt (by have h : l0 = [] := HL.out; rw [h]; simp)
          | succ m =>
            obtain ⟨b, off, k', t', i', s', l', ks', av', c', kv', kc', h0, rfl, h2, c0, c1, c2, c3, c4, c5, q0, q1, q2, q3, q4, q5, q6, q7, q8, q9, hs', hl'⟩ := HL.out j hlt
            have HK0 := HB.out.trans HKR.out
            have d0 := HK0.cell c0
            have d1 := HK0.cell c1
            have d2 := HK0.cell c2
            have d3 := HK0.cell c3
            have d4 := HK0.cell c4
            have d5 := HK0.cell c5
            have hf := hf0 m rfl
            have hx : l0[j] = .mk k' t' i' s' l' ks' := (List.getElem?_eq_some_iff.1 h0).2
            have hlen : ys.length = 1 + ((l0.take j).flatMap f).length := by
              have h := congrArg List.length HYS.out
              rw [List.length_map, List.length_cons] at h
              omega
            have hfl := flat_le f l0 j hlt
            have hft := flat_take f l0 j hlt
            have hfp := flat_pre f l0 j hlt
            rw [hx] at hfl hft hfp
            have IH := HIH.out m (Nat.lt_succ_self m) (n - 1) (wrap64 (lev + 1)) (.agg #[.int .i64 k', .bool t', .int .i64 i', .string s', .slice av' l'.length c', .slice kv' ks'.length kc']) (.mk k' t' i' s' l' ks') (pre ++ ys)
              (wr.alloc (.cells #[.int .i64 k', .bool t', .int .i64 i', .string s', .slice av' l'.length c', .slice kv' ks'.length kc'] 26)) ⟨k', t', i', s', l', ks', av', c', kv', kc', rfl, rfl, q0, q1, q2, q3, q4, q5, q6, q7, q8, q9, hs', hl'⟩
              (HK0.trans (KeepC.alloc _ _)) (HJD.out _ _ _ HJR.out) (by rw [List.length_append]; rw [← hf]; omega)
            rw [← hf] at IH
            have HFT := Lib.hid hft
            have HFP := Lib.hid hfp
            have HKA := Lib.hid (HKR.out.trans (KeepC.alloc wr (.cells #[.int .i64 k', .bool t', .int .i64 i', .string s', .slice av' l'.length c', .slice kv' ks'.length kc'] 26)))
            clear hft hfp hfl hlen h0 hx hf hf0 HK0 c0 c1 c2 c3 c4 c5 q0 q1 q2 q3 q4 q5 q6 q7 q8 q9 hs' hl' HL HB HIH
            gi_wp2_with ((try refine ⟨hdd _, ?_⟩); gi_at_call 172; refine IH.mono ?_; clear IH; rintro e W2 (⟨rfl, ⟨zs, hzs, hJ2⟩, hk2⟩ | ⟨rfl, q, hq, hJx2⟩))
            · exact ⟨⟨j + 1, ys ++ zs, by omega, by go_num, by rw [List.map_append, HYS.out, hzs, HFT.out, List.cons_append], by rw [← List.append_assoc]; exact hJ2, HKA.out.trans hk2⟩, by simp [intOf]; omega⟩
            · go_ret
              exact .inr ⟨rfl, ys ++ q, by rw [List.map_append, HYS.out, List.cons_append]; exact List.prefix_cons_inj _ |>.2 (HFP.out _ hq), by rw [← List.append_assoc]; exact hJx2⟩
        · gi_wp2
          go_ret
          obtain rfl : j = l0.length := by omega
          exact .inl ⟨rfl, ⟨ys, by rw [HYS.out, List.take_length], HJR.out⟩, HKR.out⟩
    · have HX := Lib.hid hJx1
      clear hJx1 hy
      gi_wp2
      go_ret
      exact .inr ⟨rfl, [p0], ⟨l0.flatMap f, by simp [HLT.out]⟩, HX.out⟩
end Go.Proofs.YtjehhldboopocaaGreatDoor
namespace Go.Proofs.YtjehhldboopocaaGreatDoor
open Go.RowKit Go.Lib
def partV (p : Int × Vl) : Nat := match p.2 with | .mk k t i s l ks => partP p.1 k t i s l ks
/-- The first error of a list of parts. -/
def firstP : List (Int × Vl) → Nat
  | [] => 0
  | p :: r => if partV p ≠ 0 then partV p else firstP r
theorem firstP_append : ∀ (a b : List (Int × Vl)), firstP (a ++ b) = if firstP a ≠ 0 then firstP a else firstP b
  | [], b => rfl
  | p :: r, b => by
    rw [List.cons_append, firstP, firstP, firstP_append r b]
    by_cases h : partV p ≠ 0
    · rw [if_pos h, if_pos h, if_pos h]
    · rw [if_neg h, if_neg h]
theorem firstP_snoc {a : List (Int × Vl)} (p : Int × Vl) (h : firstP a = 0) : firstP (a ++ [p]) = partV p := by
  rw [firstP_append, if_neg (by rw [h]; simp), firstP]
  by_cases h : partV p ≠ 0
  · rw [if_pos h]
  · rw [if_neg h, firstP]
    simp at h
    exact h.symm
theorem firstP_prefix {a b : List (Int × Vl)} (h : a <+: b) (h0 : firstP a ≠ 0) : firstP b = firstP a := by
  obtain ⟨r, rfl⟩ := h
  rw [firstP_append, if_pos h0]

/-- A tree has at most m levels below it. -/
def fitsV : Nat → Vl → Prop
  | 0, .mk _ _ _ _ l _ => l = []
  | m + 1, .mk _ _ _ _ l _ => ∀ y, y ∈ l → fitsV m y
theorem fits_of {w : World} : ∀ (m : Nat) (v : Option Addr) (k : Int) (t : Bool) (i : Int) (s : ByteArray) (l : List Vl) (ks : List (List UInt8)), ReadsV m w v l → fitsV m (.mk k t i s l ks)
  | 0, _, _, _, _, _, _, _, h => h
  | m + 1, v, k, t, i, s, l, ks, h => by
    intro y hy
    obtain ⟨j, hj, rfl⟩ := List.getElem_of_mem hy
    obtain ⟨b, off, k', t', i', s', l', ks', av', c', kv', kc', h0, _, _, _, _, _, _, _, _, _, _, _, _, _, _, _, _, _, _, _, hl'⟩ := h j hj
    rw [(List.getElem?_eq_some_iff.1 h0).2]
    exact fits_of m av' k' t' i' s' l' ks' hl'
theorem fits_is {w : World} {m : Nat} {V : Value} {x : Vl} (h : IsV m w V x) : fitsV m x := by
  obtain ⟨k, t, i, s, l, ks, av, c, kv, kc, rfl, rfl, _, _, _, _, _, _, _, _, _, _, _, hl⟩ := h
  exact fits_of m av k t i s l ks hl

theorem partE_P (lev : Int) (n : Nat) (hn : n ≠ 0) (h : lev = 17 - (n : Int)) (k : Int) (t : Bool) (i : Int) (s : ByteArray) (l : List Vl) (ks : List (List UInt8)) :
    partP lev k t i s l ks = partE n k t i s l ks ∨ (partP lev k t i s l ks = 13 ∧ partE n k t i s l ks = 0 ∧ n = 1 ∧ l ≠ []) := by
  unfold partP partE
  rw [if_neg (show ¬ 16 < lev by omega), if_neg hn]
  have e1 : ((decide (k < 0) || decide (5 < k) || !plainB k t i s l ks) = true) = (ownB k t i s l ks = false) := by
    unfold ownB
    cases (decide (k < 0) || decide (5 < k) || !plainB k t i s l ks) <;> simp
  have e2 : ((decide (i < -9007199254740992) || decide (9007199254740992 < i)) = true) = (i < -9007199254740992 ∨ 9007199254740992 < i) := by simp
  have e3 : ((decide (4096 < s.size) || decide (1024 < l.length) || decide (1024 < ks.length)) = true) = (4096 < s.size ∨ 1024 < l.length ∨ 1024 < ks.length) := by simp [or_assoc]
  have e4 : ((k == 5 && !keysB l ks) = true) = (k = 5 ∧ keysB l ks = false) := by simp
  simp only [e1, e2, e3, e4]
  by_cases h1 : ownB k t i s l ks = false
  · simp only [if_pos h1]; exact .inl trivial
  have hk : 0 ≤ k ∧ k ≤ 5 := by
    unfold ownB at h1
    simp at h1
    omega
  simp only [if_neg h1]
  by_cases h2 : i < -9007199254740992 ∨ 9007199254740992 < i
  · simp only [if_pos h2]; exact .inl trivial
  simp only [if_neg h2]
  by_cases h3 : 4096 < s.size ∨ 1024 < l.length ∨ 1024 < ks.length
  · simp only [if_pos h3]; exact .inl trivial
  simp only [if_neg h3]
  by_cases h4 : k = 5 ∧ keysB l ks = false
  · simp only [if_pos h4]; exact .inl trivial
  simp only [if_neg h4]
  by_cases h5 : (k = 4 ∨ k = 5) ∧ lev = 16
  · simp only [if_pos h5]
    by_cases h6 : l = []
    · left
      rw [if_pos]
      simp [h6]
      omega
    · right
      refine ⟨trivial, ?_, by omega, h6⟩
      rw [if_neg]
      simp [h6]
  · simp only [if_neg h5]
    left
    rw [if_neg]
    simp
    omega

theorem firstV_one {l : List Vl} (g : Vl → Nat) (h : l ≠ []) (hg : ∀ y, g y = 13) : firstV g l = 13 := by
  cases l with
  | nil => exact absurd rfl h
  | cons y r => rw [firstV, if_pos (by rw [hg]; decide), hg]
theorem first_flat (f : Vl → List (Int × Vl)) (g : Vl → Nat) : ∀ (l : List Vl), (∀ y, y ∈ l → firstP (f y) = g y) → firstP (l.flatMap f) = firstV g l
  | [], _ => rfl
  | y :: r, h => by
    rw [List.flatMap_cons, firstP_append, h y (by simp), firstV, first_flat f g r (fun z hz => h z (by simp [hz]))]
theorem wrap_lev {lev : Int} (h : 1 ≤ lev ∧ lev ≤ 17) : wrap64 (lev + 1) = lev + 1 := by
  unfold wrap64
  omega
theorem errV_zero : ∀ y, errV 0 y = 13
  | .mk _ _ _ _ _ _ => rfl
theorem firstP_pre : ∀ (m : Nat) (x : Vl) (lev : Int) (n : Nat), fitsV m x → 1 ≤ lev → lev ≤ 17 → lev = 17 - (n : Int) → firstP (preV m lev x) = errV n x := by
  intro m
  induction m with
  | zero =>
    rintro ⟨k, t, i, s, l, ks⟩ lev n hx h1 h2 h3
    have hl : l = [] := hx
    subst hl
    rw [preV, firstP]
    show (if partP lev k t i s [] ks ≠ 0 then partP lev k t i s [] ks else firstP []) = _
    cases n with
    | zero => rw [errV_zero, show partP lev k t i s [] ks = 13 by unfold partP; rw [if_pos (by omega)]]; rfl
    | succ n =>
      rw [errV]
      rcases partE_P lev (n + 1) (by omega) h3 k t i s [] ks with e | ⟨_, _, _, e⟩
      · rw [e]; rfl
      · exact absurd rfl e
  | succ m ih =>
    rintro ⟨k, t, i, s, l, ks⟩ lev n hx h1 h2 h3
    rw [preV, firstP]
    show (if partP lev k t i s l ks ≠ 0 then partP lev k t i s l ks else firstP (l.flatMap (preV m (wrap64 (lev + 1))))) = _
    cases n with
    | zero => rw [errV_zero, show partP lev k t i s l ks = 13 by unfold partP; rw [if_pos (by omega)]]; rfl
    | succ n =>
      rw [errV]
      have hr : firstP (l.flatMap (preV m (wrap64 (lev + 1)))) = firstV (errV n) l := by
        rw [wrap_lev ⟨h1, h2⟩]
        exact first_flat _ _ l (fun y hy => ih y (lev + 1) n (hx y hy) (by omega) (by omega) (by omega))
      rcases partE_P lev (n + 1) (by omega) h3 k t i s l ks with e | ⟨e1, e2, e3, e4⟩
      · rw [e, hr]
      · have hn : n = 0 := by omega
        subst hn
        rw [e1, e2, if_pos (by decide), if_neg (by decide), firstV_one (errV 0) e4 errV_zero]
end Go.Proofs.YtjehhldboopocaaGreatDoor
namespace Go.Proofs.YtjehhldboopocaaGreatDoor
open Go.RowKit Go.Lib
theorem errV_eq (n : Nat) (k : Int) (t : Bool) (i : Int) (s : ByteArray) (l : List Vl) (ks : List (List UInt8)) :
    errV (n + 1) (.mk k t i s l ks) = if partE (n + 1) k t i s l ks ≠ 0 then partE (n + 1) k t i s l ks else firstV (errV n) l := rfl

end Go.Proofs.YtjehhldboopocaaGreatDoor
