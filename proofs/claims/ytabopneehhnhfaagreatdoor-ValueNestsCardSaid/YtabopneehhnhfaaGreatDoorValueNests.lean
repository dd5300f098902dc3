/- Layer 7: ValueNests. -/
import Derived.Test.YtabopneehhnhfaaGreatDoorTie
import Derived.Test.YtabopneehhnhfaaGreatDoorCards
import Derived.Test.YtabopneehhnhfaaGreatDoorVluTab
import Derived.Test.YtabopneehhnhfaaGreatDoorOpR
import Derived.Test.YtabopneehhnhfaaGreatDoorVluWk
import Derived.ProofKit
import Derived.OpenShut
import Derived.LaidMore
import Derived.Stop.Joined
import Derived.SevenTiedAt
import Derived.SizedLaws
namespace Go.Proofs.YtabopneehhnhfaaGreatDoor.valueNests
open Go.ChangeShapes Go.WideShapes Go.ChangeAt Go.RowKit
set_option linter.unusedVariables false

theorem own : ownKnob Tryz.prog.godebug = none := by kernel_rfl
theorem laidOut : laidOutB Tryz.prog = true := by kernel_rfl

theorem six_cells {w : World} {g : Nat} {t : TypeId} {a0 a1 a2 a3 a4 a5 : Value} (h : CellsAt w g t #[a0, a1, a2, a3, a4, a5]) (v0 v1 v2 v3 v4 v5 : Value) :
    CellsAt ((((((w.setCell ⟨g, 0, none⟩ v0).setCell ⟨g, 1, none⟩ v1).setCell ⟨g, 2, none⟩ v2).setCell ⟨g, 3, none⟩ v3).setCell ⟨g, 4, none⟩ v4).setCell ⟨g, 5, none⟩ v5) g t #[v0, v1, v2, v3, v4, v5] ∧
    From (g + 1) w ((((((w.setCell ⟨g, 0, none⟩ v0).setCell ⟨g, 1, none⟩ v1).setCell ⟨g, 2, none⟩ v2).setCell ⟨g, 3, none⟩ v3).setCell ⟨g, 4, none⟩ v4).setCell ⟨g, 5, none⟩ v5) ∧
    ((((((w.setCell ⟨g, 0, none⟩ v0).setCell ⟨g, 1, none⟩ v1).setCell ⟨g, 2, none⟩ v2).setCell ⟨g, 3, none⟩ v3).setCell ⟨g, 4, none⟩ v4).setCell ⟨g, 5, none⟩ v5).heap.size = w.heap.size ∧
    ∀ n w0, n ≤ g → Below n w0 w → Below n w0 ((((((w.setCell ⟨g, 0, none⟩ v0).setCell ⟨g, 1, none⟩ v1).setCell ⟨g, 2, none⟩ v2).setCell ⟨g, 3, none⟩ v3).setCell ⟨g, 4, none⟩ v4).setCell ⟨g, 5, none⟩ v5) := by
  refine ⟨(((((h.set 0 v0).set 1 v1).set 2 v2).set 3 v3).set 4 v4).set 5 v5, ?_, by simp, fun n w0 hn hb => ?_⟩
  · exact (((((From.set (Nat.lt_succ_self g) 0 v0).trans (From.set (Nat.lt_succ_self g) 1 v1)).trans (From.set (Nat.lt_succ_self g) 2 v2)).trans (From.set (Nat.lt_succ_self g) 3 v3)).trans (From.set (Nat.lt_succ_self g) 4 v4)).trans (From.set (Nat.lt_succ_self g) 5 v5)
  · exact (((((hb.setCell (p := ⟨g, 0, none⟩) hn v0).setCell (p := ⟨g, 1, none⟩) hn v1).setCell (p := ⟨g, 2, none⟩) hn v2).setCell (p := ⟨g, 3, none⟩) hn v3).setCell (p := ⟨g, 4, none⟩) hn v4).setCell (p := ⟨g, 5, none⟩) hn v5
/-- n lists around a number, or around an empty list. -/
def nest (e : Bool) : Nat → Vl
  | 0 => if e = true then .mk 4 false 0 ⟨#[]⟩ [] [] else .mk 2 false 7 ⟨#[]⟩ [] []
  | n + 1 => .mk 4 false 0 ⟨#[]⟩ [nest e n] []
theorem nest_err (e : Bool) : ∀ (q n : Nat), errV (q + 1) (nest e n) = if n < (if e = true then q else q + 1) then 0 else 13 := by
  have hz : (⟨#[]⟩ : ByteArray).size = 0 := rfl
  intro q
  induction q with
  | zero =>
    intro n
    cases n with
    | zero => cases e <;> decide +kernel
    | succ n => cases e <;> simp [nest, errV, partE, firstV, plainB, hz]
  | succ q ih =>
    intro n
    cases n with
    | zero => cases e <;> simp [nest, errV, partE, firstV, plainB, hz]
    | succ n =>
      have h := ih n
      have : errV (q + 1 + 1) (nest e (n + 1)) = errV (q + 1) (nest e n) := by
        simp [nest, errV, partE, firstV, plainB, hz]
        intro h; exact h.symm
      rw [this, h]
      cases e <;> simp
theorem nest_sixteen (e : Bool) (n : Nat) : errV 16 (nest e n) = if n < (if e = true then 15 else 16) then 0 else 13 := nest_err e 15 n
theorem nest_step {n : Nat} {wr W2 : World} {i : Nat} {k num : Int} {av : Option Addr} {l c : Nat} {y : Vl} (hI : Stb (n + 1) wr (fun w2 => IsV i w2 (.agg #[.int .i64 k, .bool false, .int .i64 num, .string ⟨#[]⟩, .slice av l c, .slice none 0 0]) y)) (hf : From (n + 1) wr W2) (hc : CellsAt W2 wr.heap.size 25 #[.int .i64 k, .bool false, .int .i64 num, .string ⟨#[]⟩, .slice av l c, .slice none 0 0]) (hn : n < wr.heap.size) :
    Stb (n + 1) W2 (fun w2 => IsV (i + 1) w2 (.agg #[.int .i64 4, .bool false, .int .i64 0, .string ⟨#[]⟩, .slice (some ⟨wr.heap.size, 0, none⟩) 1 1, .slice none 0 0]) (.mk 4 false 0 ⟨#[]⟩ [y] [])) := by
  intro w2 h2
  have hI2 := hI w2 (hf.trans h2)
  have hc2 := h2.at (g := wr.heap.size) (by omega) hc
  obtain ⟨k', t', i', s', l', ks', av', c', kv', kc', rfl, e, g0, g1, g2, g3, g4, g5, g6, g7, g8, g9, hs, hl⟩ := hI2
  injection e with e
  simp only [Array.mk.injEq, List.cons.injEq, and_true, Value.int.injEq, true_and, Value.bool.injEq, Value.string.injEq] at e
  obtain ⟨rfl, rfl, rfl, rfl, e4, e5⟩ := e
  rw [e4, e5] at hc2
  refine ⟨4, false, 0, ⟨#[]⟩, _, [], some ⟨wr.heap.size, 0, none⟩, 1, none, 0, rfl, rfl, by decide, by decide, by decide, by simp, by simp, by decide, by simp, by simp, by decide, by simp, fun k hk => by simp at hk, ?_⟩
  intro j hj
  obtain rfl : j = 0 := by simp at hj; omega
  exact ⟨wr.heap.size, 0, k, false, num, _, l', ks', av', c', kv', kc', rfl, rfl, hc2.lt, hc2.cell rfl, hc2.cell rfl, hc2.cell rfl, hc2.cell rfl, hc2.cell rfl, hc2.cell rfl, g0, g1, g2, g3, g4, g5, g6, g7, g8, g9, hs, hl⟩
set_option maxHeartbeats 8000000 in
set_option maxRecDepth 100000 in
theorem walk (n : Int) (em : Bool) (hn : (Lit.int .u8 n).wf = true) (w : World) (hT : TabP w) :
    Calls Tryz.prog 11 #[.int .u8 n, .bool em] w fun e w' => e = .returned (.bool true) ∧ Below w.heap.size w w' := by
  have HT := Lib.hid hT
  have hb : 0 ≤ n ∧ n ≤ 255 := by simpa [Lit.wf, IntKind.signed, IntKind.min, IntKind.max, IntKind.bits] using hn
  obtain ⟨q, rfl⟩ : ∃ q : Nat, n = (q : Int) := ⟨n.toNat, by omega⟩
  have hq : q ≤ 255 := by omega
  clear hn hT hb
  cases em
  · go_enter Tryz.func11, Tryz.ntmps11
    go_wp2_with fail
    go_loopw [6] (fun s6 wr => ∃ (i : Nat) (k num : Int) (av : Option Addr) (l c : Nat), i ≤ q ∧ s6 = .int .i64 (i : Int) ∧ Hid (CellsAt wr w.heap.size 25 #[.int .i64 k, .bool false, .int .i64 num, .string ⟨#[]⟩, .slice av l c, .slice none 0 0]) ∧ Hid (Stb (w.heap.size + 1) wr (fun w2 => IsV i w2 (.agg #[.int .i64 k, .bool false, .int .i64 num, .string ⟨#[]⟩, .slice av l c, .slice none 0 0]) (nest false i))) ∧ Hid (Below w.heap.size w wr)) (fun s6 _ => q - (RowKit.intOf s6).toNat)
    case atStart => exact ⟨0, 2, 7, none, 0, 0, by omega, rfl, Lib.hid (CellsAt.new w _ _), Lib.hid (fun w2 _ => ⟨2, false, 7, ⟨#[]⟩, [], [], none, 0, none, 0, rfl, rfl, by decide, by decide, by decide, by decide, by decide, by decide, by decide, by decide, by decide, by simp, fun k hk => by simp at hk, rfl⟩), Lib.hid ((Below.refl _ _).alloc (Nat.le_refl _) _)⟩
    case round =>
      obtain ⟨i, k, num, av, l, c, hi, rfl, C, HI, HB⟩ := hrel
      have hz := C.out.lt
      have c0 := C.out.cell (k := 0) rfl
      have c1 := C.out.cell (k := 1) rfl
      have c2 := C.out.cell (k := 2) rfl
      have c3 := C.out.cell (k := 3) rfl
      have c4 := C.out.cell (k := 4) rfl
      have c5 := C.out.cell (k := 5) rfl
      have cf := C.out.frozen
      by_cases hlt : i < q
      · have hI : (i : Int) < (q : Int) := by omega
        go_wp2_with fail
        obtain ⟨CW, hf1, hsz, hbl⟩ := six_cells C.out (.int .i64 4) (.bool false) (.int .i64 0) (.string ⟨#[]⟩) (.slice (some ⟨wr.heap.size, 0, none⟩) 1 1) (.slice none 0 0)
        have hb1 := hbl w.heap.size w (Nat.le_refl _) HB.out
        obtain ⟨W1, hW1⟩ : ∃ W1, W1 = (((((wr.setCell ⟨w.heap.size, 0, none⟩ (.int .i64 4)).setCell ⟨w.heap.size, 1, none⟩ (.bool false)).setCell ⟨w.heap.size, 2, none⟩ (.int .i64 0)).setCell ⟨w.heap.size, 3, none⟩ (.string ⟨#[]⟩)).setCell ⟨w.heap.size, 4, none⟩ (.slice (some ⟨wr.heap.size, 0, none⟩) 1 1)).setCell ⟨w.heap.size, 5, none⟩ (.slice none 0 0) := ⟨_, rfl⟩
        rw [← hW1] at CW hb1 hf1 hsz ⊢
        clear hbl
        have CN := CellsAt.new W1 25 #[.int .i64 k, .bool false, .int .i64 num, .string ⟨#[]⟩, .slice av l c, .slice none 0 0]
        rw [hsz] at CN
        have hfA : From (w.heap.size + 1) W1 (W1.alloc (.cells #[.int .i64 k, .bool false, .int .i64 num, .string ⟨#[]⟩, .slice av l c, .slice none 0 0] 25)) := From.of_below ((Below.refl _ _).alloc (Nat.le_refl _) _)
        refine ⟨⟨i + 1, 4, 0, some ⟨wr.heap.size, 0, none⟩, 1, 1, by omega, by go_num, Lib.hid (CW.alloc _), Lib.hid (nest_step HI.out (hf1.trans hfA) CN hz), Lib.hid (hb1.alloc (by omega) _)⟩, by simp [RowKit.intOf]; omega⟩
      · have hqi : i = q := by omega
        subst hqi
        have hI : ¬ (i : Int) < (i : Int) := by omega
        have VX := Lib.hid (validV_any i _ _ wr HI.out.here)
        rw [nest_sixteen] at VX
        by_cases h16 : i < 16
        · rw [if_pos (by simpa using h16)] at VX
          have h16I : (i : Int) < 16 := by omega
          go_wp2_with fail
          go_fit VX.out
          rintro e w1 ⟨rfl, hb1⟩
          have B1 := Lib.hid (HB.out.trans (hb1.mono HB.out.size))
          clear hb1 c0 c1 c2 c3 c4 c5 cf C
          go_wp2_with fail
          go_fit (awake_any _ (tabP_below HT.out B1.out))
          rintro e w2 ⟨rfl, hb2⟩
          have B2 := Lib.hid (B1.out.trans (hb2.mono B1.out.size))
          clear hb2
          go_wp2_with fail
          go_ret
          exact ⟨rfl, B2.out⟩
        · rw [if_neg (by simpa using h16)] at VX
          have h16I : ¬ (i : Int) < 16 := by omega
          go_wp2_with fail
          go_fit VX.out
          rintro e w1 ⟨rfl, hb1⟩
          have B1 := Lib.hid (HB.out.trans (hb1.mono HB.out.size))
          clear hb1 c0 c1 c2 c3 c4 c5 cf C
          go_wp2_with fail
          go_fit (awake_any _ (tabP_below HT.out B1.out))
          rintro e w2 ⟨rfl, hb2⟩
          have B2 := Lib.hid (B1.out.trans (hb2.mono B1.out.size))
          clear hb2
          go_wp2_with fail
          go_ret
          exact ⟨rfl, B2.out⟩
  · go_enter Tryz.func11, Tryz.ntmps11
    go_wp2_with fail
    go_loopw [6] (fun s6 wr => ∃ (i : Nat) (k num : Int) (av : Option Addr) (l c : Nat), i ≤ q ∧ s6 = .int .i64 (i : Int) ∧ Hid (CellsAt wr w.heap.size 25 #[.int .i64 k, .bool false, .int .i64 num, .string ⟨#[]⟩, .slice av l c, .slice none 0 0]) ∧ Hid (Stb (w.heap.size + 1) wr (fun w2 => IsV i w2 (.agg #[.int .i64 k, .bool false, .int .i64 num, .string ⟨#[]⟩, .slice av l c, .slice none 0 0]) (nest true i))) ∧ Hid (Below w.heap.size w wr)) (fun s6 _ => q - (RowKit.intOf s6).toNat)
    case atStart => exact ⟨0, 4, 0, none, 0, 0, by omega, rfl, Lib.hid (CellsAt.new w _ _), Lib.hid (fun w2 _ => ⟨4, false, 0, ⟨#[]⟩, [], [], none, 0, none, 0, rfl, rfl, by decide, by decide, by decide, by decide, by decide, by decide, by decide, by decide, by decide, by simp, fun k hk => by simp at hk, rfl⟩), Lib.hid ((Below.refl _ _).alloc (Nat.le_refl _) _)⟩
    case round =>
      obtain ⟨i, k, num, av, l, c, hi, rfl, C, HI, HB⟩ := hrel
      have hz := C.out.lt
      have c0 := C.out.cell (k := 0) rfl
      have c1 := C.out.cell (k := 1) rfl
      have c2 := C.out.cell (k := 2) rfl
      have c3 := C.out.cell (k := 3) rfl
      have c4 := C.out.cell (k := 4) rfl
      have c5 := C.out.cell (k := 5) rfl
      have cf := C.out.frozen
      by_cases hlt : i < q
      · have hI : (i : Int) < (q : Int) := by omega
        go_wp2_with fail
        obtain ⟨CW, hf1, hsz, hbl⟩ := six_cells C.out (.int .i64 4) (.bool false) (.int .i64 0) (.string ⟨#[]⟩) (.slice (some ⟨wr.heap.size, 0, none⟩) 1 1) (.slice none 0 0)
        have hb1 := hbl w.heap.size w (Nat.le_refl _) HB.out
        obtain ⟨W1, hW1⟩ : ∃ W1, W1 = (((((wr.setCell ⟨w.heap.size, 0, none⟩ (.int .i64 4)).setCell ⟨w.heap.size, 1, none⟩ (.bool false)).setCell ⟨w.heap.size, 2, none⟩ (.int .i64 0)).setCell ⟨w.heap.size, 3, none⟩ (.string ⟨#[]⟩)).setCell ⟨w.heap.size, 4, none⟩ (.slice (some ⟨wr.heap.size, 0, none⟩) 1 1)).setCell ⟨w.heap.size, 5, none⟩ (.slice none 0 0) := ⟨_, rfl⟩
        rw [← hW1] at CW hb1 hf1 hsz ⊢
        clear hbl
        have CN := CellsAt.new W1 25 #[.int .i64 k, .bool false, .int .i64 num, .string ⟨#[]⟩, .slice av l c, .slice none 0 0]
        rw [hsz] at CN
        have hfA : From (w.heap.size + 1) W1 (W1.alloc (.cells #[.int .i64 k, .bool false, .int .i64 num, .string ⟨#[]⟩, .slice av l c, .slice none 0 0] 25)) := From.of_below ((Below.refl _ _).alloc (Nat.le_refl _) _)
        refine ⟨⟨i + 1, 4, 0, some ⟨wr.heap.size, 0, none⟩, 1, 1, by omega, by go_num, Lib.hid (CW.alloc _), Lib.hid (nest_step HI.out (hf1.trans hfA) CN hz), Lib.hid (hb1.alloc (by omega) _)⟩, by simp [RowKit.intOf]; omega⟩
      · have hqi : i = q := by omega
        subst hqi
        have hI : ¬ (i : Int) < (i : Int) := by omega
        have VX := Lib.hid (validV_any i _ _ wr HI.out.here)
        rw [nest_sixteen] at VX
        by_cases h16 : i < 15
        · rw [if_pos (by simpa using h16)] at VX
          have h16I : (i : Int) < 15 := by omega
          go_wp2_with fail
          go_fit VX.out
          rintro e w1 ⟨rfl, hb1⟩
          have B1 := Lib.hid (HB.out.trans (hb1.mono HB.out.size))
          clear hb1 c0 c1 c2 c3 c4 c5 cf C
          go_wp2_with fail
          go_fit (awake_any _ (tabP_below HT.out B1.out))
          rintro e w2 ⟨rfl, hb2⟩
          have B2 := Lib.hid (B1.out.trans (hb2.mono B1.out.size))
          clear hb2
          go_wp2_with fail
          go_ret
          exact ⟨rfl, B2.out⟩
        · rw [if_neg (by simpa using h16)] at VX
          have h16I : ¬ (i : Int) < 15 := by omega
          go_wp2_with fail
          go_fit VX.out
          rintro e w1 ⟨rfl, hb1⟩
          have B1 := Lib.hid (HB.out.trans (hb1.mono HB.out.size))
          clear hb1 c0 c1 c2 c3 c4 c5 cf C
          go_wp2_with fail
          go_fit (awake_any _ (tabP_below HT.out B1.out))
          rintro e w2 ⟨rfl, hb2⟩
          have B2 := Lib.hid (B1.out.trans (hb2.mono B1.out.size))
          clear hb2
          go_wp2_with fail
          go_ret
          exact ⟨rfl, B2.out⟩

set_option maxRecDepth 100000 in
theorem lifted (os : Os) (started : os.Started) (H : Type) (enc : TypeId × Value → H) :
    ReturnsInHanded {} Tryz.checked os 11 .any (fun w args => (Rows.valueNestsSpec.pre enc Tryz.prog Tryz.f11 Rows.valueNestsRow.domain false w args ∧ laidMetH Tryz.prog laidV w) ∧ sizedMet enc Tryz.prog Tryz.f11 (OpenSpec.ofChange Rows.valueNestsSpec) false w args) (Rows.valueNestsSpec.post enc Tryz.prog Tryz.f11 false true false false) := by
  refine returnsInHanded_of_change_and (C := Tryz.checked) (X := fun w _ => laidMetH Tryz.prog laidV w) (fun _ _ _ hh h => h.of_heap hh) own started (by kernel_rfl) Tryz.func11
    (ChangeSpec.witness_shaped (enc := enc) (C := Tryz.checked) (os := os) (X := fun w _ => laidMetH Tryz.prog laidV w) false (World.laidAll Tryz.prog os laidV) #[.int .u8 0, .bool false] 8 (World.laidAll_os _ _ _) (World.shaped_of_ZipB (by kernel_rfl) (by kernel_rfl)) (by kernel_rfl) (by kernel_rfl) (by kernel_rfl) (layV_met os _)) ?_
  intro W base args ds gs before hval0 hW hcnd hsz hL _
  have hval : ∀ (j : Nat) t v, Tryz.f11.params[j]? = some t → args[j]? = some v → Value.okWide Tryz.prog W .any base t v := hval0
  have hW' := hW
  obtain ⟨p, q, hA0, hV, rfl, hfz, hnd⟩ := hW
  have hA : DataW.TrodAll enc Tryz.prog W 0 (fun _ => true) true Tryz.f11.params.toList args.toList ds p := hA0
  rw [Tryz.params11] at hA hval hsz
  obtain ⟨v0, vs0, d0, ds0, p0, q0, hargs, rfl, rfl, h0, r0⟩ := trodAll_cons hA
  obtain ⟨v1, vs1, d1, ds1, p1, q1, rfl, rfl, rfl, h1, r1⟩ := trodAll_cons r0
  obtain ⟨rfl, rfl, rfl⟩ := trodAll_nil r1
  obtain rfl : args = #[v0, v1] := by cases args; simp_all
  obtain ⟨rfl, rfl⟩ := trodVars_none hV
  obtain ⟨a0, rfl, rfl, rfl, w0⟩ := open_int Tryz.underlying5 (hval 0 5 v0 rfl rfl) h0
  obtain ⟨a1, rfl, rfl, rfl⟩ := Go.RowKit.open_bool Tryz.underlying4 (hval 1 4 v1 rfl rfl) h1
  clear hA0 hval0
  refine (walk a0 a1 w0 W (tabV_of hL) ).mono fun e W' ⟨he, bel⟩ => ?_
  subst he
  exact ⟨_, rfl, _, _, _, [], _, [], hW', trodAll_mk1 (shut_bool Tryz.underlying4 _), (trodAll_cons_mk (shut_int Tryz.underlying5 w0) (trodAll_cons_mk (shut_bool Tryz.underlying4 _) trodAll_mk0)), rfl, bel.frame _, fun h => by cases h⟩

theorem over : Rows.valueNestsRow.holds Tryz.pinned (OpenSpec.ofChange Rows.valueNestsSpec) :=
  OpenClaim.holds_of_wide 11 Tryz.f11 rfl rfl rfl rfl rfl rfl rfl ⟨rfl, rfl, rfl, rfl, rfl⟩ rfl rfl rfl rfl rfl (by kernel_rfl) Tryz.func11 (by kernel_rfl)
    (of_decide_eq_true (by kernel_rfl)) (by unfold Func.isWrapper; first | (rw [if_pos (by decide +kernel)]; kernel_rfl) | (rw [if_neg (by decide +kernel)]; exact ⟨rfl, rfl⟩))
    (fun os started H enc _ => lifted os started H enc)

/-- THE STATEMENT. -/
theorem proved : Rows.ValueNestsCardSaid :=
  Claim7.holds_tied_plain_at .later [] [.data, .data, .data, .data, .pinned] true Rows.valueNestsCard.stood.harness false
    over (fun _ h => by cases h) (by kernel_rfl) (fun _ h => by cases h) valueNests_row_tie rfl ⟨rfl, rfl⟩ (by kernel_rfl) rfl
    (fun f fn hf hfn => by
      obtain rfl : f = 11 := Option.some.inj ((show Tryz.prog.funcNamed "pipeline/pipelinelaw07.ValueNests" = some 11 by kernel_rfl).symm.trans hf) |>.symm
      obtain rfl : fn = Tryz.f11 := (Option.some.inj (Tryz.func11.symm.trans hfn)).symm
      exact ⟨by kernel_rfl, fun j t ht => by
        rw [Tryz.params11] at ht
        have hm : t ∈ [5, 4] := by simpa using Array.mem_of_getElem? ht
        have hall : ([5, 4].all fun u => !Tryz.prog.wantsStandIn u) = true := by kernel_rfl
        exact (show Tryz.prog.wantsStandIn t = false by simpa using List.all_eq_true.1 hall t hm)⟩)
    (by kernel_rfl)
#print axioms proved
end Go.Proofs.YtabopneehhnhfaaGreatDoor.valueNests
