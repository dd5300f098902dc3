/- Layer 7: ValueBack. -/
import Derived.Test.YtabopneehhnhfaaGreatDoorTie
import Derived.Test.YtabopneehhnhfaaGreatDoorCards
import Derived.Test.YtabopneehhnhfaaGreatDoorVluTab
import Derived.Test.YtabopneehhnhfaaGreatDoorOpR
import Derived.Test.YtabopneehhnhfaaGreatDoorVluWk
import Derived.Test.YtabopneehhnhfaaGreatDoorVluN
import Derived.Test.YtabopneehhnhfaaGreatDoorVluO
import Derived.Test.YtabopneehhnhfaaGreatDoorVluC
import Derived.ProofKit
import Derived.OpenShut
import Derived.LaidMore
import Derived.Stop.Joined
import Derived.SevenTiedAt
import Derived.SizedLaws
namespace Go.Proofs.YtabopneehhnhfaaGreatDoor.valueBack
open Go.ChangeShapes Go.WideShapes Go.ChangeAt Go.RowKit
set_option linter.unusedVariables false

theorem own : ownKnob Tryz.prog.godebug = none := by kernel_rfl
theorem laidOut : laidOutB Tryz.prog = true := by kernel_rfl

/-- The box of a value and the value of an entry. -/
def S12 (w : World) (X b o : Nat) (k : Int) (t : Bool) (i : Int) (s : ByteArray) (a c a' c' : Value) (w' : World) : Prop :=
  w'.cell? ⟨X, 0, none⟩ = some (.int .i64 k) ∧ w'.cell? ⟨X, 1, none⟩ = some (.bool t) ∧ w'.cell? ⟨X, 2, none⟩ = some (.int .i64 i) ∧ w'.cell? ⟨X, 3, none⟩ = some (.string s) ∧ w'.cell? ⟨X, 4, none⟩ = some (a) ∧ w'.cell? ⟨X, 5, none⟩ = some (c) ∧ w'.cell? ⟨b, o + 1, none⟩ = some (.int .i64 k) ∧ w'.cell? ⟨b, o + 2, none⟩ = some (.bool t) ∧ w'.cell? ⟨b, o + 3, none⟩ = some (.int .i64 i) ∧ w'.cell? ⟨b, o + 4, none⟩ = some (.string s) ∧ w'.cell? ⟨b, o + 5, none⟩ = some (a') ∧ w'.cell? ⟨b, o + 6, none⟩ = some (c') ∧ Below w.heap.size w w'
theorem S12.below {w : World} {X b o : Nat} {k : Int} {t : Bool} {i : Int} {s : ByteArray} {a c a' c' : Value} {w1 w2 : World} (h : S12 w X b o k t i s a c a' c' w1) (hb : Below w1.heap.size w1 w2) : S12 w X b o k t i s a c a' c' w2 := by
  obtain ⟨x0, x1, x2, x3, x4, x5, y0, y1, y2, y3, y4, y5, h1⟩ := h
  have z1 : X < w1.heap.size := World.block_lt_of_cell? w1 _ x0
  have z2 : b < w1.heap.size := World.block_lt_of_cell? w1 _ y0
  exact ⟨(hb.cell (p := ⟨X, _, none⟩) z1).trans x0, (hb.cell (p := ⟨X, _, none⟩) z1).trans x1, (hb.cell (p := ⟨X, _, none⟩) z1).trans x2, (hb.cell (p := ⟨X, _, none⟩) z1).trans x3, (hb.cell (p := ⟨X, _, none⟩) z1).trans x4, (hb.cell (p := ⟨X, _, none⟩) z1).trans x5, (hb.cell (p := ⟨b, _, none⟩) z2).trans y0, (hb.cell (p := ⟨b, _, none⟩) z2).trans y1, (hb.cell (p := ⟨b, _, none⟩) z2).trans y2, (hb.cell (p := ⟨b, _, none⟩) z2).trans y3, (hb.cell (p := ⟨b, _, none⟩) z2).trans y4, (hb.cell (p := ⟨b, _, none⟩) z2).trans y5, h1.trans (hb.mono h1.size)⟩
theorem S12.drew {w : World} {X b o : Nat} {k : Int} {t : Bool} {i : Int} {s : ByteArray} {a c a' c' : Value} {w1 : World} (h : S12 w X b o k t i s a c a' c' w1) : S12 w X b o k t i s a c a' c' w1.drew := h.below (Below.refl _ _).drew
theorem S12.bel {w : World} {X b o : Nat} {k : Int} {t : Bool} {i : Int} {s : ByteArray} {a c a' c' : Value} {w1 : World} (h : S12 w X b o k t i s a c a' c' w1) : Below w.heap.size w w1 := by
  obtain ⟨_, _, _, _, _, _, _, _, _, _, _, _, h1⟩ := h
  exact h1
theorem six_cells {w : World} {g : Nat} {t : TypeId} {a0 a1 a2 a3 a4 a5 : Value} (h : CellsAt w g t #[a0, a1, a2, a3, a4, a5]) (v0 v1 v2 v3 v4 v5 : Value) :
    CellsAt ((((((w.setCell ⟨g, 0, none⟩ v0).setCell ⟨g, 1, none⟩ v1).setCell ⟨g, 2, none⟩ v2).setCell ⟨g, 3, none⟩ v3).setCell ⟨g, 4, none⟩ v4).setCell ⟨g, 5, none⟩ v5) g t #[v0, v1, v2, v3, v4, v5] ∧
    From (g + 1) w ((((((w.setCell ⟨g, 0, none⟩ v0).setCell ⟨g, 1, none⟩ v1).setCell ⟨g, 2, none⟩ v2).setCell ⟨g, 3, none⟩ v3).setCell ⟨g, 4, none⟩ v4).setCell ⟨g, 5, none⟩ v5) ∧
    ((((((w.setCell ⟨g, 0, none⟩ v0).setCell ⟨g, 1, none⟩ v1).setCell ⟨g, 2, none⟩ v2).setCell ⟨g, 3, none⟩ v3).setCell ⟨g, 4, none⟩ v4).setCell ⟨g, 5, none⟩ v5).heap.size = w.heap.size ∧
    ∀ n w0, n ≤ g → Below n w0 w → Below n w0 ((((((w.setCell ⟨g, 0, none⟩ v0).setCell ⟨g, 1, none⟩ v1).setCell ⟨g, 2, none⟩ v2).setCell ⟨g, 3, none⟩ v3).setCell ⟨g, 4, none⟩ v4).setCell ⟨g, 5, none⟩ v5) := by
  refine ⟨(((((h.set 0 v0).set 1 v1).set 2 v2).set 3 v3).set 4 v4).set 5 v5, ?_, by simp, fun n w0 hn hb => ?_⟩
  · exact (((((From.set (Nat.lt_succ_self g) 0 v0).trans (From.set (Nat.lt_succ_self g) 1 v1)).trans (From.set (Nat.lt_succ_self g) 2 v2)).trans (From.set (Nat.lt_succ_self g) 3 v3)).trans (From.set (Nat.lt_succ_self g) 4 v4)).trans (From.set (Nat.lt_succ_self g) 5 v5)
  · exact (((((hb.setCell (p := ⟨g, 0, none⟩) hn v0).setCell (p := ⟨g, 1, none⟩) hn v1).setCell (p := ⟨g, 2, none⟩) hn v2).setCell (p := ⟨g, 3, none⟩) hn v3).setCell (p := ⟨g, 4, none⟩) hn v4).setCell (p := ⟨g, 5, none⟩) hn v5
set_option maxHeartbeats 8000000 in
set_option maxRecDepth 100000 in
theorem walk (m : Nat) (V : Value) (x : Vl) (w : World) (hT : TabP w) (hV : IsV m w V x) :
    Calls Tryz.prog 10 #[V] w fun e w' => e = .returned (.bool true) ∧ Below w.heap.size w w' := by
  have HT := Lib.hid hT
  have VP := Lib.hid (fun w' (h : Below w.heap.size w w') => vars_any m V x w' (hV.below h))
  have GP := Lib.hid (fun key w' (h : Below w.heap.size w w') => get_any m V x key w' (hV.below h))
  have HV := Lib.hid (isV_up (Nat.le_succ m) hV)
  have HB0 := Lib.hid (fun h => vars_back (x := x) h)
  have HE := Lib.hid (show varsE x ≠ 0 → varsL x = [] from fun h => by unfold varsL; rw [if_neg h])
  obtain ⟨er, her⟩ : ∃ er, er = varsE x := ⟨_, rfl⟩
  obtain ⟨L, hL⟩ : ∃ L, L = varsL x := ⟨_, rfl⟩
  rw [← her, ← hL] at VP HB0 HE
  obtain ⟨k, t, i, s, l, ks, av, c, kv, kc, rfl, rfl, _⟩ := hV
  have C0 := Lib.hid (CellsAt.new w 25 #[.int .i64 k, .bool t, .int .i64 i, .string s, .slice av l.length c, .slice kv ks.length kc])
  have B0 := Lib.hid ((Below.refl w.heap.size w).alloc (Nat.le_refl _) (.cells #[.int .i64 k, .bool t, .int .i64 i, .string s, .slice av l.length c, .slice kv ks.length kc] 25))
  clear hT her hL
  by_cases h0 : er = 0
  · subst h0
    obtain ⟨f1, f2, f3, f4⟩ := HB0.out rfl
    have HF4 := Lib.hid f4
    have MP := Lib.hid (fun a c w' (hr : ReadsR m w' a L) => by have h := map_any m a L c w' hr (by omega); rwa [f1, if_pos rfl, f2] at h)
    clear f1 f2 f4 HB0 HE
    go_enter Tryz.func10, Tryz.ntmps10
    go_wp2_with fail
    go_fit (VP.out _ B0.out)
    rintro e w1 ⟨la, lc, rfl, _, _, hL, hb⟩
    have HL := Lib.hid hL.here
    have C1 := Lib.hid (C0.out.below hb)
    have B1 := Lib.hid (B0.out.trans (hb.mono B0.out.size))
    clear hb hL C0
    go_wp2_with fail
    go_fit (MP.out _ _ _ HL.out)
    rintro e w2 ⟨R, rfl, hR, hb⟩
    obtain ⟨aw, cw, kw, ckw, rfl, _⟩ := isV_stb hR
    have HW := Lib.hid hR.here
    have hal : Below w2.heap.size w2 (w2.alloc (.cells #[.int .i64 k, .bool t, .int .i64 i, .string s, .slice aw l.length cw, .slice kw ks.length ckw] 25)) := (Below.refl _ _).alloc (Nat.le_refl _) _
    have B2 := Lib.hid (B1.out.trans (hb.mono B1.out.size))
    have B2a := Lib.hid (B2.out.trans (hal.mono B2.out.size))
    have C2 := Lib.hid ((C1.out.below hb).below hal)
    have HL2 := Lib.hid ((HL.out.below hb).below hal)
    have HW2 := Lib.hid (HW.out.below hal)
    have CW := Lib.hid (CellsAt.new w2 25 #[.int .i64 k, .bool t, .int .i64 i, .string s, .slice aw l.length cw, .slice kw ks.length ckw])
    obtain ⟨n2, hn2⟩ : ∃ n2, n2 = w2.heap.size := ⟨_, rfl⟩
    obtain ⟨W2, hW2⟩ : ∃ W2, W2 = w2.alloc (.cells #[.int .i64 k, .bool t, .int .i64 i, .string s, .slice aw l.length cw, .slice kw ks.length ckw] 25) := ⟨_, rfl⟩
    rw [← hW2] at B2a C2 HL2 HW2 CW
    rw [← hn2] at CW
    clear hb hR C1 HL HW
    have y0 : W2.cell? ⟨w.heap.size, 0, none⟩ = some (.int .i64 k) := C2.out.cell rfl
    have y1 : W2.cell? ⟨w.heap.size, 1, none⟩ = some (.bool t) := C2.out.cell rfl
    have y2 : W2.cell? ⟨w.heap.size, 2, none⟩ = some (.int .i64 i) := C2.out.cell rfl
    have y3 : W2.cell? ⟨w.heap.size, 3, none⟩ = some (.string s) := C2.out.cell rfl
    have y4 : W2.cell? ⟨w.heap.size, 4, none⟩ = some (.slice av l.length c) := C2.out.cell rfl
    have y5 : W2.cell? ⟨w.heap.size, 5, none⟩ = some (.slice kv ks.length kc) := C2.out.cell rfl
    have x0 : W2.cell? ⟨n2, 0, none⟩ = some (.int .i64 k) := CW.out.cell rfl
    have x1 : W2.cell? ⟨n2, 1, none⟩ = some (.bool t) := CW.out.cell rfl
    have x2 : W2.cell? ⟨n2, 2, none⟩ = some (.int .i64 i) := CW.out.cell rfl
    have x3 : W2.cell? ⟨n2, 3, none⟩ = some (.string s) := CW.out.cell rfl
    have x4 : W2.cell? ⟨n2, 4, none⟩ = some (.slice aw l.length cw) := CW.out.cell rfl
    have x5 : W2.cell? ⟨n2, 5, none⟩ = some (.slice kw ks.length ckw) := CW.out.cell rfl
    rw [hW2] at y0 y1 y2 y3 y4 y5 x0 x1 x2 x3 x4 x5
    rw [hn2] at x0 x1 x2 x3 x4 x5
    go_wp2_with fail
    rw [← hW2, ← hn2]
    clear hW2 hn2 hal B2 y0 y1 y2 y3 y4 y5 x0 x1 x2 x3 x4 x5
    go_fit (same_self (HV.out.below B2a.out) HW2.out)
    rintro e w3 ⟨rfl, hb⟩
    have B3 := Lib.hid (B2a.out.trans (hb.mono B2a.out.size))
    have C3 := Lib.hid (C2.out.below hb)
    have HL3 := Lib.hid (HL2.out.below hb)
    clear hb C2 HL2 HW2 CW B2a
    go_wp2_with fail
    go_loopw [7] (fun s7 wr => ∃ j : Nat, j ≤ L.length ∧ s7 = .int .i64 (j : Int) ∧ Hid (CellsAt wr w.heap.size 25 #[.int .i64 k, .bool t, .int .i64 i, .string s, .slice av l.length c, .slice kv ks.length kc]) ∧ Hid (ReadsR m wr la L) ∧ Hid (Below w.heap.size w wr)) (fun s7 _ => L.length - (RowKit.intOf s7).toNat)
    case atStart => exact ⟨0, by omega, rfl, C3, HL3, B3⟩
    case round =>
      obtain ⟨j, hj, rfl, C, HL, HB⟩ := hrel
      clear C3 HL3 B3
      by_cases hlt : j < L.length
      · obtain ⟨b, off, n, k1, t1, i1, s1, l1, ks1, av1, c1, kv1, kc1, h0, rfl, h2, e0, e1, e2, e3, e4, e5, e6, g, g0, g1, g2, g3, g4, g5, g6, g7, g8, g9, rs, rv⟩ := HL.out j hlt
        have HY := Lib.hid (show IsV m wr (.agg #[.int .i64 k1, .bool t1, .int .i64 i1, .string s1, .slice av1 l1.length c1, .slice kv1 ks1.length kc1]) (.mk k1 t1 i1 s1 l1 ks1) from ⟨k1, t1, i1, s1, l1, ks1, av1, c1, kv1, kc1, rfl, rfl, g0, g1, g2, g3, g4, g5, g6, g7, g8, g9, rs, rv⟩)
        have hg := HF4.out j _ h0
        have GJ := Lib.hid (fun w' (h : Below w.heap.size w w') => by
          have q := GP.out ⟨n.toArray⟩ w' h
          rw [show (⟨n.toArray⟩ : ByteArray).data.toList = n from rfl, hg] at q
          simp only [Option.isSome_some, Option.getD_some] at q
          exact q)
        have hjI : (j : Int) < (L.length : Int) := by omega
        have hj0 : (0 : Int) ≤ (j : Int) := by omega
        have HCE := Lib.hid (And.intro h2 (And.intro e0 (And.intro e1 (And.intro e2 (And.intro e3 (And.intro e4 (And.intro e5 e6)))))))
        clear e1 e2 e3 e4 e5 e6 g g0 g1 g2 g3 g4 g5 g6 g7 g8 g9 rs rv hg h0
        go_wp2_with fail
        go_cut [8, 9] (fun s8 s9 wx => s9 = .bool true ∧ ∃ (X : Nat) (ax kx : Option Addr) (cx ckx : Nat), s8 = .pointer (some ⟨X, 0, none⟩) ∧ Hid (CellsAt wx X 25 #[.int .i64 k1, .bool t1, .int .i64 i1, .string s1, .slice ax l1.length cx, .slice kx ks1.length ckx]) ∧ Hid (IsV m wx (.agg #[.int .i64 k1, .bool t1, .int .i64 i1, .string s1, .slice ax l1.length cx, .slice kx ks1.length ckx]) (.mk k1 t1 i1 s1 l1 ks1)) ∧ Hid (Below wr.heap.size wr wx))
        case first =>
          have hbd : Below wr.heap.size wr wr.drew := (Below.refl _ _).drew
          have hba : Below wr.heap.size wr (wr.alloc (.cells #[.int .i64 0, .bool false, .int .i64 0, .string ⟨#[]⟩, .slice none 0 0, .slice none 0 0] 25)).drew := ((Below.refl _ _).alloc (Nat.le_refl _) _).drew
          have CD := C.out.below hbd
          have CA := C.out.below hba
          have y0 : wr.drew.cell? ⟨w.heap.size, 0, none⟩ = some (.int .i64 k) := CD.cell rfl
          have y1 : wr.drew.cell? ⟨w.heap.size, 1, none⟩ = some (.bool t) := CD.cell rfl
          have y2 : wr.drew.cell? ⟨w.heap.size, 2, none⟩ = some (.int .i64 i) := CD.cell rfl
          have y3 : wr.drew.cell? ⟨w.heap.size, 3, none⟩ = some (.string s) := CD.cell rfl
          have y4 : wr.drew.cell? ⟨w.heap.size, 4, none⟩ = some (.slice av l.length c) := CD.cell rfl
          have y5 : wr.drew.cell? ⟨w.heap.size, 5, none⟩ = some (.slice kv ks.length kc) := CD.cell rfl
          have q0 : (wr.alloc (.cells #[.int .i64 0, .bool false, .int .i64 0, .string ⟨#[]⟩, .slice none 0 0, .slice none 0 0] 25)).drew.cell? ⟨w.heap.size, 0, none⟩ = some (.int .i64 k) := CA.cell rfl
          have q1 : (wr.alloc (.cells #[.int .i64 0, .bool false, .int .i64 0, .string ⟨#[]⟩, .slice none 0 0, .slice none 0 0] 25)).drew.cell? ⟨w.heap.size, 1, none⟩ = some (.bool t) := CA.cell rfl
          have q2 : (wr.alloc (.cells #[.int .i64 0, .bool false, .int .i64 0, .string ⟨#[]⟩, .slice none 0 0, .slice none 0 0] 25)).drew.cell? ⟨w.heap.size, 2, none⟩ = some (.int .i64 i) := CA.cell rfl
          have q3 : (wr.alloc (.cells #[.int .i64 0, .bool false, .int .i64 0, .string ⟨#[]⟩, .slice none 0 0, .slice none 0 0] 25)).drew.cell? ⟨w.heap.size, 3, none⟩ = some (.string s) := CA.cell rfl
          have q4 : (wr.alloc (.cells #[.int .i64 0, .bool false, .int .i64 0, .string ⟨#[]⟩, .slice none 0 0, .slice none 0 0] 25)).drew.cell? ⟨w.heap.size, 4, none⟩ = some (.slice av l.length c) := CA.cell rfl
          have q5 : (wr.alloc (.cells #[.int .i64 0, .bool false, .int .i64 0, .string ⟨#[]⟩, .slice none 0 0, .slice none 0 0] 25)).drew.cell? ⟨w.heap.size, 5, none⟩ = some (.slice kv ks.length kc) := CA.cell rfl
          have x0 := (hbd.cell (p := ⟨b, _, none⟩) h2).trans e0
          have x1 := (hba.cell (p := ⟨b, _, none⟩) h2).trans e0
          have BD := Lib.hid (HB.out.trans (hbd.mono HB.out.size))
          have BA := Lib.hid (HB.out.trans (hba.mono HB.out.size))
          have HBD := Lib.hid hbd
          have HBA := Lib.hid hba
          have CZ0 := Lib.hid ((CellsAt.new wr 25 #[.int .i64 0, .bool false, .int .i64 0, .string ⟨#[]⟩, .slice none 0 0, .slice none 0 0]).drew)
          clear hbd hba CD CA e0 h2
          go_region_law (first
            | (go_simp; go_at_call 25; go_fit (GJ.out _ BD.out); rintro e w4 ⟨R, rfl, hR, hb4⟩; obtain ⟨ax, cx, kx, ckx, rfl, _⟩ := isV_stb hR)
            | (go_simp; go_at_call 25; go_fit (GJ.out _ BA.out); rintro e w4 ⟨R, rfl, hR, hb4⟩; obtain ⟨ax, cx, kx, ckx, rfl, _⟩ := isV_stb hR; have CZ := CZ0.out.below hb4; have z0 : w4.cell? ⟨wr.heap.size, 0, none⟩ = some (.int .i64 0) := CZ.cell rfl; have z1 : w4.cell? ⟨wr.heap.size, 1, none⟩ = some (.bool false) := CZ.cell rfl; have z2 : w4.cell? ⟨wr.heap.size, 2, none⟩ = some (.int .i64 0) := CZ.cell rfl; have z3 : w4.cell? ⟨wr.heap.size, 3, none⟩ = some (.string ⟨#[]⟩) := CZ.cell rfl; have z4 : w4.cell? ⟨wr.heap.size, 4, none⟩ = some (.slice none 0 0) := CZ.cell rfl; have z5 : w4.cell? ⟨wr.heap.size, 5, none⟩ = some (.slice none 0 0) := CZ.cell rfl; have zf := CZ.frozen))
          all_goals
            go_wp2_with fail
            go_meet
            first
              | (have hw : Below wr.heap.size wr (w4.alloc (.cells #[.int .i64 k1, .bool t1, .int .i64 i1, .string s1, .slice ax l1.length cx, .slice kx ks1.length ckx] 25)) := (HBD.out.trans (hb4.mono HBD.out.size)).alloc (Nat.le_trans HBD.out.size hb4.size) _
                 exact ⟨rfl, _, ax, kx, cx, ckx, rfl, Lib.hid (CellsAt.new w4 _ _), Lib.hid (hR _ (From.of_below ((Below.refl _ _).alloc (Nat.le_refl _) _))), Lib.hid hw⟩)
              | (obtain ⟨S1, S2, S3, S4⟩ := six_cells CZ (.int .i64 k1) (.bool t1) (.int .i64 i1) (.string s1) (.slice ax l1.length cx) (.slice kx ks1.length ckx)
                 exact ⟨rfl, _, ax, kx, cx, ckx, rfl, Lib.hid S1, Lib.hid (hR _ (S2.mono (by simp))), Lib.hid (S4 wr.heap.size wr (Nat.le_refl _) (HBA.out.trans (hb4.mono HBA.out.size)))⟩)
        case rest =>
        obtain ⟨rfl, X, ax, kx, cx, ckx, rfl, CX, HX, HBX⟩ := hcut
        have HBc := Lib.hid (HB.out.trans (HBX.out.mono HB.out.size))
        have Cc := Lib.hid (C.out.below HBX.out)
        have HLc := Lib.hid (HL.out.below HBX.out)
        have HYc := Lib.hid (HY.out.below HBX.out)
        have SM := Lib.hid (fun w' (h : Below wc.heap.size wc w') => same_self (HX.out.below h) (HYc.out.below h))
        have hs0 : S12 wc X b (off + j * 7) k1 t1 i1 s1 (.slice ax l1.length cx) (.slice kx ks1.length ckx) (.slice av1 l1.length c1) (.slice kv1 ks1.length kc1) wc := ⟨CX.out.cell rfl, CX.out.cell rfl, CX.out.cell rfl, CX.out.cell rfl, CX.out.cell rfl, CX.out.cell rfl, (HBX.out.cell (p := ⟨b, _, none⟩) HCE.out.1).trans HCE.out.2.2.1, (HBX.out.cell (p := ⟨b, _, none⟩) HCE.out.1).trans HCE.out.2.2.2.1, (HBX.out.cell (p := ⟨b, _, none⟩) HCE.out.1).trans HCE.out.2.2.2.2.1, (HBX.out.cell (p := ⟨b, _, none⟩) HCE.out.1).trans HCE.out.2.2.2.2.2.1, (HBX.out.cell (p := ⟨b, _, none⟩) HCE.out.1).trans HCE.out.2.2.2.2.2.2.1, (HBX.out.cell (p := ⟨b, _, none⟩) HCE.out.1).trans HCE.out.2.2.2.2.2.2.2, Below.refl _ _⟩
        have hjI2 : (j : Int) < (L.length : Int) := by omega
        have hj02 : (0 : Int) ≤ (j : Int) := by omega
        go_upto_region 11 with fail
        go_region_held3 (fun w' => w'.cell? ⟨X, 0, none⟩ = some (.int .i64 k1) ∧ w'.cell? ⟨X, 1, none⟩ = some (.bool t1) ∧ w'.cell? ⟨X, 2, none⟩ = some (.int .i64 i1) ∧ w'.cell? ⟨X, 3, none⟩ = some (.string s1) ∧ w'.cell? ⟨X, 4, none⟩ = some (.slice ax l1.length cx) ∧ w'.cell? ⟨X, 5, none⟩ = some (.slice kx ks1.length ckx) ∧ w'.cell? ⟨b, off + j * 7 + 1, none⟩ = some (.int .i64 k1) ∧ w'.cell? ⟨b, off + j * 7 + 2, none⟩ = some (.bool t1) ∧ w'.cell? ⟨b, off + j * 7 + 3, none⟩ = some (.int .i64 i1) ∧ w'.cell? ⟨b, off + j * 7 + 4, none⟩ = some (.string s1) ∧ w'.cell? ⟨b, off + j * 7 + 5, none⟩ = some (.slice av1 l1.length c1) ∧ w'.cell? ⟨b, off + j * 7 + 6, none⟩ = some (.slice kv1 ks1.length kc1) ∧ Below wc.heap.size wc w') (first | exact S12.drew hs0 | exact S12.below (by assumption) (by assumption)) (first | (go_at_call 20; go_fit (SM.out _ (S12.bel (by assumption))); rintro e w5 ⟨rfl, hb5⟩))
        have hf : S12 wc X b (off + j * 7) k1 t1 i1 s1 (.slice ax l1.length cx) (.slice kx ks1.length ckx) (.slice av1 l1.length c1) (.slice kv1 ks1.length kc1) w5 := by assumption
        have hbf := hf.bel
        have HB5 := Lib.hid (HBc.out.trans (hbf.mono HBc.out.size))
        have C5 := Lib.hid (Cc.out.below hbf)
        have HL5 := Lib.hid (HLc.out.below hbf)
        clear hf hs0 hbf
        go_wp2_with fail
        exact ⟨⟨j + 1, by omega, by go_num, C5, HL5, HB5⟩, by simp [RowKit.intOf]; omega⟩
      · obtain rfl : j = L.length := by omega
        have hjI : ¬ (L.length : Int) < (L.length : Int) := by omega
        clear hlt
        go_wp2_with fail
        go_fit (awake_any _ (tabP_below HT.out HB.out))
        rintro e w5 ⟨rfl, hb⟩
        have B5 := Lib.hid (HB.out.trans (hb.mono HB.out.size))
        clear hb
        go_wp2_with fail
        go_ret
        exact ⟨rfl, B5.out⟩
  · have hLe := HE.out h0
    subst hLe
    have g1 : ((er : Int) != 0) = true := by rw [bne_iff_ne]; omega
    clear HE HB0 h0
    go_enter Tryz.func10, Tryz.ntmps10
    go_wp2_with fail
    go_fit (VP.out _ B0.out)
    rintro e w1 ⟨la, lc, rfl, _, _, hL, hb⟩
    have B1 := Lib.hid (B0.out.trans (hb.mono B0.out.size))
    clear hb hL C0
    go_wp2_with fail
    go_fit (awake_any _ (tabP_below HT.out B1.out))
    rintro e w2 ⟨rfl, hb⟩
    have B2 := Lib.hid (B1.out.trans (hb.mono B1.out.size))
    clear hb
    go_wp2_with fail
    go_ret
    exact ⟨rfl, B2.out⟩

set_option maxRecDepth 100000 in
theorem lifted (os : Os) (started : os.Started) (H : Type) (enc : TypeId × Value → H) :
    ReturnsInHanded {} Tryz.checked os 10 .any (fun w args => (Rows.valueBackSpec.pre enc Tryz.prog Tryz.f10 Rows.valueBackRow.domain false w args ∧ laidMetH Tryz.prog laidV w) ∧ sizedMet enc Tryz.prog Tryz.f10 (OpenSpec.ofChange Rows.valueBackSpec) false w args) (Rows.valueBackSpec.post enc Tryz.prog Tryz.f10 false true false false) := by
  refine returnsInHanded_of_change_and (C := Tryz.checked) (X := fun w _ => laidMetH Tryz.prog laidV w) (fun _ _ _ hh h => h.of_heap hh) own started (by kernel_rfl) Tryz.func10
    (ChangeSpec.witness_shaped (enc := enc) (C := Tryz.checked) (os := os) (X := fun w _ => laidMetH Tryz.prog laidV w) false (World.laidAll Tryz.prog os laidV) #[.agg #[.int .i64 0, .bool false, .int .i64 0, .string ⟨#[]⟩, .slice none 0 0, .slice none 0 0]] 8 (World.laidAll_os _ _ _) (World.shaped_of_ZipB (by kernel_rfl) (by kernel_rfl)) (by kernel_rfl) (by kernel_rfl) (by kernel_rfl) (layV_met os _)) ?_
  intro W base args ds gs before hval0 hW hcnd hsz hL _
  have hval : ∀ (j : Nat) t v, Tryz.f10.params[j]? = some t → args[j]? = some v → Value.okWide Tryz.prog W .any base t v := hval0
  have hW' := hW
  obtain ⟨p, q, hA0, hV, rfl, hfz, hnd⟩ := hW
  have hA : DataW.TrodAll enc Tryz.prog W 0 (fun _ => true) true Tryz.f10.params.toList args.toList ds p := hA0
  rw [Tryz.params10] at hA hval hsz
  obtain ⟨v0, vs0, d0, ds0, p0, q0, hargs, rfl, rfl, h0, r0⟩ := trodAll_cons hA
  obtain ⟨rfl, rfl, rfl⟩ := trodAll_nil r0
  obtain rfl : args = #[v0] := by cases args; simp_all
  obtain ⟨rfl, rfl⟩ := trodVars_none hV
  have k0 := h0
  have lt0 : ∀ x ∈ p0, x.block < W.heap.size := by obtain ⟨m, hm⟩ := k0; exact DataW.trod_lt m _ _ _ hm
  have hw0 : (d0.weights Tryz.prog 25).all (· ≤ reachBytes) = true := List.all_eq_true.2 (fun n hn => List.all_eq_true.1 hsz n (DataW.weights_mem_each (j := 0) (t := 25) rfl rfl n hn))
  obtain ⟨m0, y0, hr0⟩ := open_value (hval 0 25 v0 rfl rfl) h0 hw0
  clear hA0 hval0
  refine (walk m0 v0 y0  W (tabV_of hL) hr0).mono fun e W' ⟨he, bel⟩ => ?_
  subst he
  exact ⟨_, rfl, _, _, _, [], _, [], hW', trodAll_mk1 (shut_bool Tryz.underlying4 _), (trodAll_cons_mk (Below.trod laidOut (by kernel_rfl) (of_decide_eq_true (by kernel_rfl)) k0 bel lt0) trodAll_mk0), rfl, bel.frame _, fun h => by cases h⟩

theorem over : Rows.valueBackRow.holds Tryz.pinned (OpenSpec.ofChange Rows.valueBackSpec) :=
  OpenClaim.holds_of_wide 10 Tryz.f10 rfl rfl rfl rfl rfl rfl rfl ⟨rfl, rfl, rfl, rfl, rfl⟩ rfl rfl rfl rfl rfl (by kernel_rfl) Tryz.func10 (by kernel_rfl)
    (of_decide_eq_true (by kernel_rfl)) (by unfold Func.isWrapper; first | (rw [if_pos (by decide +kernel)]; kernel_rfl) | (rw [if_neg (by decide +kernel)]; exact ⟨rfl, rfl⟩))
    (fun os started H enc _ => lifted os started H enc)

/-- THE STATEMENT. -/
theorem proved : Rows.ValueBackCardSaid :=
  Claim7.holds_tied_plain_at .later [] [.data, .data, .data, .data, .pinned] true Rows.valueBackCard.stood.harness false
    over (fun _ h => by cases h) (by kernel_rfl) (fun _ h => by cases h) valueBack_row_tie rfl ⟨rfl, rfl⟩ (by kernel_rfl) rfl
    (fun f fn hf hfn => by
      obtain rfl : f = 10 := Option.some.inj ((show Tryz.prog.funcNamed "pipeline/pipelinelaw07.ValueBack" = some 10 by kernel_rfl).symm.trans hf) |>.symm
      obtain rfl : fn = Tryz.f10 := (Option.some.inj (Tryz.func10.symm.trans hfn)).symm
      exact ⟨by kernel_rfl, fun j t ht => by
        rw [Tryz.params10] at ht
        have hm : t ∈ [25] := by simpa using Array.mem_of_getElem? ht
        have hall : ([25].all fun u => !Tryz.prog.wantsStandIn u) = true := by kernel_rfl
        exact (show Tryz.prog.wantsStandIn t = false by simpa using List.all_eq_true.1 hall t hm)⟩)
    (by kernel_rfl)
#print axioms proved
end Go.Proofs.YtabopneehhnhfaaGreatDoor.valueBack
