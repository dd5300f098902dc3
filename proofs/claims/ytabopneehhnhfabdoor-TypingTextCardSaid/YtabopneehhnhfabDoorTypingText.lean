/- P8.5: TypingText returns true for every type and every text: Show and Parse return what the document specifies. No conditions beyond the form's own. -/
import Derived.Test.YtabopneehhnhfabDoorTie
import Derived.Test.YtabopneehhnhfabDoorCards
import Derived.Test.YtabopneehhnhfabDoorTypTab
import Derived.Test.YtabopneehhnhfabDoorTypWalk
import Derived.Test.YtabopneehhnhfabDoorOpT
import Derived.Test.YtabopneehhnhfabDoorTypQ
import Derived.ProofKit
import Derived.OpenShut
import Derived.LaidMore
import Derived.Stop.Joined
import Derived.SevenTiedAt
import Derived.SizedLaws
namespace Go.Proofs.YtabopneehhnhfabDoor.typingText
open Go.ChangeShapes Go.WideShapes Go.ChangeAt Go.RowKit
open Go.ChangeMaps (open_string shut_string)
set_option linter.unusedVariables false

theorem own : ownKnob Tryd.prog.godebug = none := by kernel_rfl
theorem laidOut : laidOutB Tryd.prog = true := by kernel_rfl

/-- The boxes of three types. -/
def S6t (A X Y : Nat) (ka kx ky : Int) (sa sx sy : Value) (W0 w' : World) : Prop := w'.cell? ⟨A, 0, none⟩ = some (.int .i64 ka) ∧ w'.cell? ⟨A, 1, none⟩ = some sa ∧ w'.cell? ⟨X, 0, none⟩ = some (.int .i64 kx) ∧ w'.cell? ⟨X, 1, none⟩ = some sx ∧ w'.cell? ⟨Y, 0, none⟩ = some (.int .i64 ky) ∧ w'.cell? ⟨Y, 1, none⟩ = some sy ∧ Below W0.heap.size W0 w'
theorem S6t.below {A X Y : Nat} {ka kx ky : Int} {sa sx sy : Value} {W0 w1 w2 : World} (h : S6t A X Y ka kx ky sa sx sy W0 w1) (hb : Below w1.heap.size w1 w2) : S6t A X Y ka kx ky sa sx sy W0 w2 := by
  obtain ⟨a0, a1, b0, b1, c0, c1, hs⟩ := h
  have zA := World.block_lt_of_cell? w1 _ a0
  have zB := World.block_lt_of_cell? w1 _ b0
  have zC := World.block_lt_of_cell? w1 _ c0
  exact ⟨(hb.cell (p := ⟨A, 0, none⟩) zA).trans a0, (hb.cell (p := ⟨A, 1, none⟩) zA).trans a1, (hb.cell (p := ⟨X, 0, none⟩) zB).trans b0, (hb.cell (p := ⟨X, 1, none⟩) zB).trans b1, (hb.cell (p := ⟨Y, 0, none⟩) zC).trans c0, (hb.cell (p := ⟨Y, 1, none⟩) zC).trans c1, hs.trans (hb.mono hs.size)⟩
theorem S6t.bel {A X Y : Nat} {ka kx ky : Int} {sa sx sy : Value} {W0 w1 : World} (h : S6t A X Y ka kx ky sa sx sy W0 w1) : Below W0.heap.size W0 w1 := h.2.2.2.2.2.2
set_option maxHeartbeats 8000000 in
set_option maxRecDepth 100000 in
theorem walk (m : Nat) (V : Value) (x : Ty) (s : ByteArray) (_z : s.size ≤ 140737488355327) (w : World) (hT : TabT w) (hV : IsT m w V x) :
    Calls Tryd.prog 8 #[V, .string s] w fun e w' => e = .returned (.bool true) ∧ Below w.heap.size w w' := by
  have HT := Lib.hid hT
  have PS := Lib.hid (fun w hT => Parse_any s w hT)
  have RP := Lib.hid (fun w => rParse_any s w)
  have SH := Lib.hid (fun w' (h : Below w.heap.size w w') => Show_any m V x w' (hV.below h) (hT.below h))
  have SR := Lib.hid (fun w' (h : Below w.heap.size w w') => rShow_any m V x w' (hV.below h))
  obtain ⟨k, l, av, c, rfl, rfl, _⟩ := hV
  obtain ⟨tx, htx⟩ : ∃ tx : ByteArray, tx = ⟨(showT (.mk k l)).toArray⟩ := ⟨_, rfl⟩
  rw [← htx] at SH SR
  have hq : (tx.toList == tx.toList) = true := beq_self_eq_true _
  clear htx hT
  go_enter Tryd.func8, Tryd.ntmps8
  go_wp2_with fail
  go_fit (PS.out _ (HT.out.below ((Below.refl _ _).alloc (Nat.le_refl _) _)))
  rintro e w1 ⟨V1, t1, er, rfl, hp1, hC1, hb1⟩
  have TA := (TwoAt.new w 24 (.int .i64 k) (.slice av l.length c)).below hb1
  have B1 := Lib.hid (((Below.refl w.heap.size w).alloc (Nat.le_refl _) (.cells #[.int .i64 k, .slice av l.length c] 24)).trans (hb1.mono (by simp)))
  have HP1 := Lib.hid hp1
  have HC1 := Lib.hid hC1
  obtain ⟨xa, xc, rfl, _⟩ := hC1
  clear hb1 hp1
  go_wp2_with fail
  have Ba := Lib.hid (B1.out.alloc B1.out.size (.cells #[.int .i64 t1.kd, .slice xa t1.ln xc] 24))
  have TAa := TA.alloc (.cells #[.int .i64 t1.kd, .slice xa t1.ln xc] 24)
  have TX := TwoAt.new w1 24 (.int .i64 t1.kd) (.slice xa t1.ln xc)
  have HCa := Lib.hid (HC1.out.below ((Below.refl w1.heap.size w1).alloc (Nat.le_refl _) (.cells #[.int .i64 t1.kd, .slice xa t1.ln xc] 24)))
  go_fit (RP.out _)
  rintro e w2 ⟨V2, t2, er2, rfl, hp2, hC2, hb2⟩
  obtain ⟨rfl, rfl⟩ := PTop.one HP1.out hp2
  have B2 := Lib.hid (Ba.out.trans (hb2.mono Ba.out.size))
  have TA2 := TAa.below hb2
  have TX2 := TX.below hb2
  have HCb := Lib.hid (HCa.out.below hb2)
  have HC2 := Lib.hid hC2
  obtain ⟨ya, yc, rfl, _⟩ := hC2
  clear hb2 hp2 HP1 HC1 TA TAa TX Ba
  go_wp2_with fail
  have Bc := Lib.hid (B2.out.alloc B2.out.size (.cells #[.int .i64 t1.kd, .slice ya t1.ln yc] 24))
  have TA3 := TA2.alloc (.cells #[.int .i64 t1.kd, .slice ya t1.ln yc] 24)
  have TX3 := TX2.alloc (.cells #[.int .i64 t1.kd, .slice ya t1.ln yc] 24)
  have TY3 := TwoAt.new w2 24 (.int .i64 t1.kd) (.slice ya t1.ln yc)
  have HCx := Lib.hid (HCb.out.below ((Below.refl w2.heap.size w2).alloc (Nat.le_refl _) (.cells #[.int .i64 t1.kd, .slice ya t1.ln yc] 24)))
  have HCy := Lib.hid (HC2.out.below ((Below.refl w2.heap.size w2).alloc (Nat.le_refl _) (.cells #[.int .i64 t1.kd, .slice ya t1.ln yc] 24)))
  obtain ⟨W0, hW0⟩ : ∃ W0, W0 = w2.alloc (.cells #[.int .i64 t1.kd, .slice ya t1.ln yc] 24) := ⟨_, rfl⟩
  rw [← hW0] at Bc TA3 TX3 TY3 HCx HCy ⊢
  have hs0 : S6t w.heap.size w1.heap.size w2.heap.size k t1.kd t1.kd (.slice av l.length c) (.slice xa t1.ln xc) (.slice ya t1.ln yc) W0 W0.drew := ⟨TA3.drew.cell0, TA3.drew.cell1, TX3.drew.cell0, TX3.drew.cell1, TY3.drew.cell0, TY3.drew.cell1, (Below.refl _ _).drew⟩
  have hE : ((er : Int) == (er : Int)) = true := beq_self_eq_true _
  have SM := Lib.hid (fun w' (h : Below W0.heap.size W0 w') => by
    have M := sameT_any t1 t1 _ _ w' (HCx.out.below h) (HCy.out.below h)
    rwa [sameC_rfl] at M)
  have SH2 := Lib.hid (fun w' (h : Below W0.heap.size W0 w') => SH.out w' (Bc.out.trans (h.mono Bc.out.size)))
  have SR2 := Lib.hid (fun w' (h : Below W0.heap.size W0 w') => SR.out w' (Bc.out.trans (h.mono Bc.out.size)))
  have AW2 := Lib.hid (fun w' (h : Below W0.heap.size W0 w') => awake_any w' (HT.out.below (Bc.out.trans (h.mono Bc.out.size))))
  clear hW0 TA3 TX3 TY3 TA2 TX2 HCa HCb HC2 HCx HCy B1 B2 SH SR
  go_region_held3 (fun w' => w'.cell? ⟨w.heap.size, 0, none⟩ = some (.int .i64 k) ∧ w'.cell? ⟨w.heap.size, 1, none⟩ = some (.slice av l.length c) ∧ w'.cell? ⟨w1.heap.size, 0, none⟩ = some (.int .i64 t1.kd) ∧ w'.cell? ⟨w1.heap.size, 1, none⟩ = some (.slice xa t1.ln xc) ∧ w'.cell? ⟨w2.heap.size, 0, none⟩ = some (.int .i64 t1.kd) ∧ w'.cell? ⟨w2.heap.size, 1, none⟩ = some (.slice ya t1.ln yc) ∧ Below W0.heap.size W0 w') (first | exact hs0 | exact S6t.below (by assumption) (by assumption)) (first
    | (go_at_call 28; go_fit (SH2.out _ (S6t.bel (by assumption))); rintro e w3 ⟨rfl, hb3⟩)
    | (go_at_call 29; go_fit (SR2.out _ (S6t.bel (by assumption))); rintro e w4 ⟨rfl, hb4⟩)
    | (go_at_call 15; go_fit (SM.out _ (S6t.bel (by assumption))); rintro e w5 ⟨rfl, hb5⟩)
    | (go_at_call 13; go_fit (AW2.out _ (S6t.bel (by assumption))); rintro e w6 ⟨rfl, hb6⟩))
  have hf : S6t w.heap.size w1.heap.size w2.heap.size k t1.kd t1.kd (.slice av l.length c) (.slice xa t1.ln xc) (.slice ya t1.ln yc) W0 w6 := by assumption
  go_wp2_with fail
  go_ret
  exact ⟨rfl, Bc.out.trans (hf.bel.mono Bc.out.size)⟩

set_option maxRecDepth 100000 in
theorem lifted (os : Os) (started : os.Started) (H : Type) (enc : TypeId × Value → H) :
    ReturnsInHanded {} Tryd.checked os 8 .any (fun w args => (Rows.typingTextSpec.pre enc Tryd.prog Tryd.f8 Rows.typingTextRow.domain false w args ∧ laidMetH Tryd.prog laid8 w) ∧ sizedMet enc Tryd.prog Tryd.f8 (OpenSpec.ofChange Rows.typingTextSpec) false w args) (Rows.typingTextSpec.post enc Tryd.prog Tryd.f8 false true false false) := by
  refine returnsInHanded_of_change_and (C := Tryd.checked) (X := fun w _ => laidMetH Tryd.prog laid8 w) (fun _ _ _ hh h => h.of_heap hh) own started (by kernel_rfl) Tryd.func8
    (ChangeSpec.witness_shaped (enc := enc) (C := Tryd.checked) (os := os) (X := fun w _ => laidMetH Tryd.prog laid8 w) false (World.laidAll Tryd.prog os laid8) #[.agg #[.int .i64 0, .slice none 0 0], .string ⟨#[]⟩] 8 (World.laidAll_os _ _ _) (World.shaped_of_ZipB (by kernel_rfl) (by kernel_rfl)) (by kernel_rfl) (by kernel_rfl) (by kernel_rfl) (lay8_met os _)) ?_
  intro W base args ds gs before hval0 hW hcnd hsz hL _
  have hval : ∀ (j : Nat) t v, Tryd.f8.params[j]? = some t → args[j]? = some v → Value.okWide Tryd.prog W .any base t v := hval0
  have hW' := hW
  obtain ⟨p, q, hA0, hV, rfl, hfz, hnd⟩ := hW
  have hA : DataW.TrodAll enc Tryd.prog W 0 (fun _ => true) true Tryd.f8.params.toList args.toList ds p := hA0
  rw [Tryd.params8] at hA hval hsz
  obtain ⟨v0, vs0, d0, ds0, p0, q0, hargs, rfl, rfl, h0, r0⟩ := trodAll_cons hA
  obtain ⟨v1, vs1, d1, ds1, p1, q1, rfl, rfl, rfl, h1, r1⟩ := trodAll_cons r0
  obtain ⟨rfl, rfl, rfl⟩ := trodAll_nil r1
  obtain rfl : args = #[v0, v1] := by cases args; simp_all
  obtain ⟨rfl, rfl⟩ := trodVars_none hV
  have k0 := h0
  have lt0 : ∀ x ∈ p0, x.block < W.heap.size := by obtain ⟨m, hm⟩ := k0; exact DataW.trod_lt m _ _ _ hm
  obtain ⟨m0, y0, hr0⟩ := open_type (hval 0 24 v0 rfl rfl) h0
  obtain ⟨a1, rfl, rfl, rfl, w1⟩ := open_string Tryd.underlying9 (hval 1 9 v1 rfl rfl) h1
  have z1 : a1.size ≤ 140737488355327 := by
    have h := sized_string hsz (j := 1) (t := 9) rfl rfl
    rw [Array.length_toList] at h
    exact Nat.le_trans h (by decide)
  clear hA0 hval0
  refine (walk m0 v0 y0 a1 z1 W (tab8_of hL) hr0).mono fun e W' ⟨he, bel⟩ => ?_
  subst he
  exact ⟨_, rfl, _, _, _, [], _, [], hW', trodAll_mk1 (shut_bool Tryd.underlying4 _), (trodAll_cons_mk (Below.trod laidOut (by kernel_rfl) (of_decide_eq_true (by kernel_rfl)) k0 bel lt0) (trodAll_cons_mk (shut_string Tryd.underlying9 w1) trodAll_mk0)), rfl, bel.frame _, fun h => by cases h⟩

theorem over : Rows.typingTextRow.holds Tryd.pinned (OpenSpec.ofChange Rows.typingTextSpec) :=
  OpenClaim.holds_of_wide 8 Tryd.f8 rfl rfl rfl rfl rfl rfl rfl ⟨rfl, rfl, rfl, rfl, rfl⟩ rfl rfl rfl rfl rfl (by kernel_rfl) Tryd.func8 (by kernel_rfl)
    (of_decide_eq_true (by kernel_rfl)) (by unfold Func.isWrapper; first | (rw [if_pos (by decide +kernel)]; kernel_rfl) | (rw [if_neg (by decide +kernel)]; exact ⟨rfl, rfl⟩))
    (fun os started H enc _ => lifted os started H enc)

/-- THE STATEMENT. -/
theorem proved : Rows.TypingTextCardSaid :=
  Claim7.holds_tied_plain_at .later [] [.data, .data, .data, .pinned] true Rows.typingTextCard.stood.harness false
    over (fun _ h => by cases h) (by kernel_rfl) (fun _ h => by cases h) typingText_row_tie rfl ⟨rfl, rfl⟩ (by kernel_rfl) rfl
    (fun f fn hf hfn => by
      obtain rfl : f = 8 := Option.some.inj ((show Tryd.prog.funcNamed "pipeline/pipelinelaw08.TypingText" = some 8 by kernel_rfl).symm.trans hf) |>.symm
      obtain rfl : fn = Tryd.f8 := (Option.some.inj (Tryd.func8.symm.trans hfn)).symm
      exact ⟨by kernel_rfl, fun j t ht => by
        rw [Tryd.params8] at ht
        have hm : t ∈ [24, 9] := by simpa using Array.mem_of_getElem? ht
        have hall : ([24, 9].all fun u => !Tryd.prog.wantsStandIn u) = true := by kernel_rfl
        exact (show Tryd.prog.wantsStandIn t = false by simpa using List.all_eq_true.1 hall t hm)⟩)
    (by kernel_rfl)
#print axioms proved
end Go.Proofs.YtabopneehhnhfabDoor.typingText
