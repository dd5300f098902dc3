/- n lists around int -/
import Derived.Test.YtabopneehhnhfabDoorTie
import Derived.Test.YtabopneehhnhfabDoorCards
import Derived.Test.YtabopneehhnhfabDoorTypTab
import Derived.Test.YtabopneehhnhfabDoorTypWalk
import Derived.Test.YtabopneehhnhfabDoorOpT
import Derived.Test.YtabopneehhnhfabDoorTypM
import Derived.ProofKit
import Derived.OpenShut
import Derived.LaidMore
import Derived.Stop.Joined
import Derived.SevenTiedAt
import Derived.SizedLaws
namespace Go.Proofs.YtabopneehhnhfabDoor.typingNests
open Go.ChangeShapes Go.WideShapes Go.ChangeAt Go.RowKit
set_option linter.unusedVariables false

theorem own : ownKnob Tryd.prog.godebug = none := by kernel_rfl

/-- A number in n lists. -/
def nest : Nat → Tc
  | 0 => .leaf 3
  | n + 1 => .node 5 (nest n)
theorem nest_ok : ∀ n, (nest n).ok
  | 0 => by show leafK 3; unfold leafK; omega
  | n + 1 => ⟨.inl rfl, nest_ok n⟩
theorem nest_deep : ∀ n, (nest n).deep = n + 1
  | 0 => rfl
  | n + 1 => by show (nest n).deep + 1 = _; rw [nest_deep n]
theorem nest_len : ∀ n, (textC (nest n)).length = 6 * n + 3
  | 0 => rfl
  | n + 1 => by
    show (nameL 5 ++ 40 :: (textC (nest n) ++ [41])).length = _
    rw [List.length_append, List.length_cons, List.length_append, nest_len n]
    show 4 + (6 * n + 3 + 1 + 1) = _
    omega
set_option maxHeartbeats 8000000 in
set_option maxRecDepth 100000 in
theorem walk (n : Int) (hn : (Lit.int .u8 n).wf = true) (w : World) (hT : TabT w) :
    Calls Tryd.prog 10 #[.int .u8 n] w fun e w' => e = .returned (.bool true) ∧ Below w.heap.size w w' := by
  have HT := Lib.hid hT
  have hb : 0 ≤ n ∧ n ≤ 255 := by simpa [Lit.wf, IntKind.signed, IntKind.min, IntKind.max, IntKind.bits] using hn
  obtain ⟨q, rfl⟩ : ∃ q : Nat, n = (q : Int) := ⟨n.toNat, by omega⟩
  have hq : q ≤ 255 := by omega
  clear hn hT hb
  go_enter Tryd.func10, Tryd.ntmps10
  go_wp2_with fail
  go_loopw [4, 5] (fun s4 s5 wr => ∃ (i : Nat) (av : Option Addr) (c : Nat) (x : ByteArray), i ≤ q ∧ s5 = .int .i64 (i : Int) ∧ s4 = .string x ∧ Hid (x = ⟨(textC (nest i)).toArray⟩) ∧ Hid (TwoAt wr w.heap.size 24 (.int .i64 (nest i).kd) (.slice av (nest i).ln c)) ∧ Hid (TailP (fun b => w.heap.size + 1 ≤ b) wr av (nest i)) ∧ Hid (Below w.heap.size w wr)) (fun _ s5 _ => q - (RowKit.intOf s5).toNat)
  case atStart => exact ⟨0, none, 0, ⟨#[105, 110, 116]⟩, by omega, rfl, rfl, Lib.hid rfl, Lib.hid (TwoAt.new _ _ _ _), Lib.hid trivial, Lib.hid ((Below.refl _ _).alloc (Nat.le_refl _) _)⟩
  case round =>
    obtain ⟨i, av, c, x, hi, rfl, rfl, HX, TA, HP, HB⟩ := hrel
    have hz := TA.out.lt
    have c0 := TA.out.cell0
    have c1 := TA.out.cell1
    have f0 := TA.out.frozen 0
    have f1 := TA.out.frozen 1
    have hxz : x.size = 6 * i + 3 := by rw [HX.out]; exact (nest_len i)
    by_cases hlt : i < q
    · have hI : (i : Int) < (q : Int) := by omega
      have s1 := fun w => run_string_add_sum (P := Tryd.prog) w ⟨#[108, 105, 115, 116, 40]⟩ x (by have : (⟨#[108, 105, 115, 116, 40]⟩ : ByteArray).size = 5 := rfl; omega)
      have s2 := fun w => run_string_add_sum (P := Tryd.prog) w (⟨#[108, 105, 115, 116, 40]⟩ ++ x) ⟨#[41]⟩ (by rw [ByteArray.size_append]; have : (⟨#[108, 105, 115, 116, 40]⟩ : ByteArray).size = 5 := rfl; have : (⟨#[41]⟩ : ByteArray).size = 1 := rfl; omega)
      have HX2 := Lib.hid (show (⟨#[108, 105, 115, 116, 40]⟩ ++ x) ++ ⟨#[41]⟩ = (⟨(textC (nest (i + 1))).toArray⟩ : ByteArray) by
        rw [HX.out, show (⟨#[108, 105, 115, 116, 40]⟩ : ByteArray) = ⟨[108, 105, 115, 116, 40].toArray⟩ from rfl, show (⟨#[41]⟩ : ByteArray) = ⟨[41].toArray⟩ from rfl, app_str, app_str]
        congr 2)
      clear hxz
      go_wp2_with fail
      have TA2 := ((TA.out.set0 (.int .i64 5)).set1 (.slice (some ⟨wr.heap.size, 0, none⟩) 1 1)).alloc (.cells #[.int .i64 (nest i).kd, .slice av (nest i).ln c] 24)
      have TN := TwoAt.new ((wr.setCell ⟨w.heap.size, 0, none⟩ (.int .i64 5)).setCell ⟨w.heap.size, 1, none⟩ (.slice (some ⟨wr.heap.size, 0, none⟩) 1 1)) 24 (.int .i64 (nest i).kd) (.slice av (nest i).ln c)
      have HP1 := tail_set HP.out (.int .i64 5) (.slice (some ⟨wr.heap.size, 0, none⟩) 1 1)
      have HP2 := TailP.kept (P' := fun b => w.heap.size + 1 ≤ b) (fun _ h => h) (fun b _ hlt => Below.heap_alloc _ (.cells #[.int .i64 (nest i).kd, .slice av (nest i).ln c] 24) b hlt) _ _ HP1
      have HB2 := ((HB.out.setCell (p := ⟨w.heap.size, 0, none⟩) (Nat.le_refl _) (.int .i64 5)).setCell (p := ⟨w.heap.size, 1, none⟩) (Nat.le_refl _) (.slice (some ⟨wr.heap.size, 0, none⟩) 1 1)).alloc (by simp; omega) (.cells #[.int .i64 (nest i).kd, .slice av (nest i).ln c] 24)
      simp only [World.size_setCell] at TN
      refine ⟨⟨i + 1, some ⟨wr.heap.size, 0, none⟩, 1, _, by omega, by go_num, rfl, HX2, Lib.hid TA2, Lib.hid ⟨wr.heap.size, 0, av, c, rfl, hz, TN.lt, TN.cell0, TN.cell1, HP2⟩, Lib.hid HB2⟩, by simp [RowKit.intOf]; omega⟩
    · have hqi : i = q := by omega
      subst hqi
      have hI : ¬ (i : Int) < (i : Int) := by omega
      have hC := Lib.hid (TailP.toC _ _ HP.out)
      have hlen := nest_len i
      by_cases h16 : i < 16
      · have hJ : (i : Int) < 16 := by omega
        have PT := Lib.hid (fun w' hT => parseC (s := x) (show PTop (textC (nest i)) (nest i) 0 from .inr (.inr ⟨by omega, nest i, ⟨nest_ok i, rfl⟩, .inr ⟨by rw [nest_deep]; omega, rfl, rfl⟩⟩)) (by rw [HX.out]) w' hT)
        have VT := Lib.hid (fun w' (h : TailC w' av (nest i)) => validC (nest_ok i) (by rw [nest_deep]; omega) (c := c) w' h)
        clear hlt hi hxz hlen h16 HX HP
        generalize nest i = T at *
        go_wp2_with fail
        go_fit (PT.out _ (HT.out.below HB.out))
        rintro e w1 ⟨pa, pc, rfl, hP, hb1⟩
        have B1 := Lib.hid ((HB.out.trans (hb1.mono HB.out.size)).alloc ((HB.out.trans (hb1.mono HB.out.size))).size (.cells #[.int .i64 T.kd, .slice pa T.ln pc] 24))
        have bA := hb1.alloc hb1.size (.cells #[.int .i64 T.kd, .slice pa T.ln pc] 24)
        have TA1 := TA.out.below bA
        have k0 := TA1.cell0
        have k1 := TA1.cell1
        have C1 := Lib.hid (TailC.below bA _ _ hC.out)
        clear hb1 bA c0 c1 f0 f1
        go_wp2_with fail
        go_fit (VT.out _ C1.out)
        rintro e w2 ⟨rfl, hb2⟩
        have B2 := Lib.hid (B1.out.trans (hb2.mono B1.out.size))
        clear hb2
        go_wp2_with fail
        go_fit (awake_any _ (HT.out.below B2.out))
        rintro e w3 ⟨rfl, hb3⟩
        have B3 := Lib.hid (B2.out.trans (hb3.mono B2.out.size))
        clear hb3
        go_wp2_with fail
        go_ret
        exact ⟨rfl, B3.out⟩
      · have hJ : ¬ (i : Int) < 16 := by omega
        have PT := Lib.hid (fun w' hT => parseC (s := x) (show PTop (textC (nest i)) (.leaf 0) 13 from .inr (.inr ⟨by omega, nest i, ⟨nest_ok i, rfl⟩, .inl ⟨by rw [nest_deep]; omega, rfl, rfl⟩⟩)) (by rw [HX.out]) w' hT)
        have VT := Lib.hid (fun w' (h : TailC w' av (nest i)) => show Calls Tryd.prog 11 #[.agg #[.int .i64 (nest i).kd, .slice av (nest i).ln c]] w' fun e w'' => e = .returned (.int .i64 13) ∧ Below w'.heap.size w' w'' by
          have M := validT_any (nest i).deep (.agg #[.int .i64 (nest i).kd, .slice av (nest i).ln c]) (nest i).ty w' (isT_C (nest_ok i) ⟨av, c, rfl, h⟩)
          rw [chkT_ty (nest i) 16 (nest_ok i), if_neg (by rw [nest_deep]; omega)] at M
          exact M)
        clear hlt hi hxz hlen h16 HX HP
        generalize nest i = T at *
        go_wp2_with fail
        go_fit (PT.out _ (HT.out.below HB.out))
        rintro e w1 ⟨pa, pc, rfl, hP, hb1⟩
        have B1 := Lib.hid ((HB.out.trans (hb1.mono HB.out.size)).alloc ((HB.out.trans (hb1.mono HB.out.size))).size (.cells #[.int .i64 (Tc.leaf 0).kd, .slice pa (Tc.leaf 0).ln pc] 24))
        have bA := hb1.alloc hb1.size (.cells #[.int .i64 (Tc.leaf 0).kd, .slice pa (Tc.leaf 0).ln pc] 24)
        have TA1 := TA.out.below bA
        have k0 := TA1.cell0
        have k1 := TA1.cell1
        have C1 := Lib.hid (TailC.below bA _ _ hC.out)
        clear hb1 bA c0 c1 f0 f1
        go_wp2_with fail
        go_fit (VT.out _ C1.out)
        rintro e w2 ⟨rfl, hb2⟩
        have B2 := Lib.hid (B1.out.trans (hb2.mono B1.out.size))
        clear hb2
        go_wp2_with fail
        go_fit (awake_any _ (HT.out.below B2.out))
        rintro e w3 ⟨rfl, hb3⟩
        have B3 := Lib.hid (B2.out.trans (hb3.mono B2.out.size))
        clear hb3
        go_wp2_with fail
        go_ret
        exact ⟨rfl, B3.out⟩

set_option maxRecDepth 100000 in
theorem lifted (os : Os) (started : os.Started) (H : Type) (enc : TypeId × Value → H) :
    ReturnsInHanded {} Tryd.checked os 10 .any (fun w args => (Rows.typingNestsSpec.pre enc Tryd.prog Tryd.f10 Rows.typingNestsRow.domain false w args ∧ laidMetH Tryd.prog laid8 w) ∧ sizedMet enc Tryd.prog Tryd.f10 (OpenSpec.ofChange Rows.typingNestsSpec) false w args) (Rows.typingNestsSpec.post enc Tryd.prog Tryd.f10 false true false false) := by
  refine returnsInHanded_of_change_and (C := Tryd.checked) (X := fun w _ => laidMetH Tryd.prog laid8 w) (fun _ _ _ hh h => h.of_heap hh) own started (by kernel_rfl) Tryd.func10
    (ChangeSpec.witness_shaped (enc := enc) (C := Tryd.checked) (os := os) (X := fun w _ => laidMetH Tryd.prog laid8 w) false (World.laidAll Tryd.prog os laid8) #[.int .u8 0] 8 (World.laidAll_os _ _ _) (World.shaped_of_ZipB (by kernel_rfl) (by kernel_rfl)) (by kernel_rfl) (by kernel_rfl) (by kernel_rfl) (lay8_met os _)) ?_
  intro W base args ds gs before hval0 hW hcnd hsz hL _
  have hval : ∀ (j : Nat) t v, Tryd.f10.params[j]? = some t → args[j]? = some v → Value.okWide Tryd.prog W .any base t v := hval0
  have hW' := hW
  obtain ⟨p, q, hA0, hV, rfl, hfz, hnd⟩ := hW
  have hA : DataW.TrodAll enc Tryd.prog W 0 (fun _ => true) true Tryd.f10.params.toList args.toList ds p := hA0
  rw [Tryd.params10] at hA hval hsz
  obtain ⟨v0, vs0, d0, ds0, p0, q0, hargs, rfl, rfl, h0, r0⟩ := trodAll_cons hA
  obtain ⟨rfl, rfl, rfl⟩ := trodAll_nil r0
  obtain rfl : args = #[v0] := by cases args; simp_all
  obtain ⟨rfl, rfl⟩ := trodVars_none hV
  obtain ⟨a0, rfl, rfl, rfl, w0⟩ := open_int Tryd.underlying5 (hval 0 5 v0 rfl rfl) h0
  clear hA0 hval0
  refine (walk a0 w0 W (tab8_of hL) ).mono fun e W' ⟨he, bel⟩ => ?_
  subst he
  exact ⟨_, rfl, _, _, _, [], _, [], hW', trodAll_mk1 (shut_bool Tryd.underlying4 _), (trodAll_cons_mk (shut_int Tryd.underlying5 w0) trodAll_mk0), rfl, bel.frame _, fun h => by cases h⟩

theorem over : Rows.typingNestsRow.holds Tryd.pinned (OpenSpec.ofChange Rows.typingNestsSpec) :=
  OpenClaim.holds_of_wide 10 Tryd.f10 rfl rfl rfl rfl rfl rfl rfl ⟨rfl, rfl, rfl, rfl, rfl⟩ rfl rfl rfl rfl rfl (by kernel_rfl) Tryd.func10 (by kernel_rfl)
    (of_decide_eq_true (by kernel_rfl)) (by unfold Func.isWrapper; first | (rw [if_pos (by decide +kernel)]; kernel_rfl) | (rw [if_neg (by decide +kernel)]; exact ⟨rfl, rfl⟩))
    (fun os started H enc _ => lifted os started H enc)

/-- THE STATEMENT. -/
theorem proved : Rows.TypingNestsCardSaid :=
  Claim7.holds_tied_plain_at .later [] [.data, .data, .data, .pinned] true Rows.typingNestsCard.stood.harness false
    over (fun _ h => by cases h) (by kernel_rfl) (fun _ h => by cases h) typingNests_row_tie rfl ⟨rfl, rfl⟩ (by kernel_rfl) rfl
    (fun f fn hf hfn => by
      obtain rfl : f = 10 := Option.some.inj ((show Tryd.prog.funcNamed "pipeline/pipelinelaw08.TypingNests" = some 10 by kernel_rfl).symm.trans hf) |>.symm
      obtain rfl : fn = Tryd.f10 := (Option.some.inj (Tryd.func10.symm.trans hfn)).symm
      exact ⟨by kernel_rfl, fun j t ht => by
        rw [Tryd.params10] at ht
        have hm : t ∈ [5] := by simpa using Array.mem_of_getElem? ht
        have hall : ([5].all fun u => !Tryd.prog.wantsStandIn u) = true := by kernel_rfl
        exact (show Tryd.prog.wantsStandIn t = false by simpa using List.all_eq_true.1 hall t hm)⟩)
    (by kernel_rfl)
#print axioms proved
end Go.Proofs.YtabopneehhnhfabDoor.typingNests
