/- Of and Fits return what the document gives, and the type of a value is valid. -/
import Derived.Test.YtabopneehhnhfabDoorTie
import Derived.Test.YtabopneehhnhfabDoorCards
import Derived.Test.YtabopneehhnhfabDoorTypTab
import Derived.Test.YtabopneehhnhfabDoorTypWalk
import Derived.Test.YtabopneehhnhfabDoorOpT
import Derived.Test.YtabopneehhnhfabDoorTypY
import Derived.ProofKit
import Derived.OpenShut
import Derived.LaidMore
import Derived.Stop.Joined
import Derived.SevenTiedAt
import Derived.SizedLaws
namespace Go.Proofs.YtabopneehhnhfabDoor.typingOf
open Go.ChangeShapes Go.WideShapes Go.ChangeAt Go.RowKit
set_option linter.unusedVariables false

theorem own : ownKnob Tryd.prog.godebug = none := by kernel_rfl
theorem laidOut : laidOutB Tryd.prog = true := by kernel_rfl

theorem sameR (t : Tc) (A B : Value) (w : World) (hA : IsC w A t) (hB : IsC w B t) :
    Calls Tryd.prog 15 #[A, B] w fun e w' => e = .returned (.bool true) ∧ Below w.heap.size w w' := by
  have M := sameT_any t t A B w hA hB
  rw [sameC_rfl] at M
  exact M
/-- The boxes of v, t and x. -/
def SO (w : World) (X : Nat) (k : Int) (t : Bool) (i : Int) (s : ByteArray) (sl kl : Value) (k2 : Int) (tl : Value) (T : Tc) (xa : Option Addr) (xc : Nat) (w' : World) : Prop :=
  w'.cell? ⟨w.heap.size, 0, none⟩ = some (.int .i64 k) ∧ w'.cell? ⟨w.heap.size, 1, none⟩ = some (.bool t) ∧ w'.cell? ⟨w.heap.size, 2, none⟩ = some (.int .i64 i) ∧ w'.cell? ⟨w.heap.size, 3, none⟩ = some (.string s) ∧ w'.cell? ⟨w.heap.size, 4, none⟩ = some sl ∧ w'.cell? ⟨w.heap.size, 5, none⟩ = some kl ∧
    w'.cell? ⟨w.heap.size + 1, 0, none⟩ = some (.int .i64 k2) ∧ w'.cell? ⟨w.heap.size + 1, 1, none⟩ = some tl ∧ w'.cell? ⟨X, 0, none⟩ = some (.int .i64 T.kd) ∧ w'.cell? ⟨X, 1, none⟩ = some (.slice xa T.ln xc) ∧ (S9 w k t i s sl kl k2 tl w' ∧ TailC w' xa T)
theorem SO.mk {w : World} {X : Nat} {k : Int} {t : Bool} {i : Int} {s : ByteArray} {sl kl : Value} {k2 : Int} {tl : Value} {T : Tc} {xa : Option Addr} {xc : Nat} {w' : World} (h9 : S9 w k t i s sl kl k2 tl w') (x0 : w'.cell? ⟨X, 0, none⟩ = some (.int .i64 T.kd)) (x1 : w'.cell? ⟨X, 1, none⟩ = some (.slice xa T.ln xc)) (hC : TailC w' xa T) : SO w X k t i s sl kl k2 tl T xa xc w' := by
  obtain ⟨a0, a1, a2, a3, a4, a5, a6, a7, _⟩ := id h9
  exact ⟨a0, a1, a2, a3, a4, a5, a6, a7, x0, x1, h9, hC⟩
theorem SO.below {w : World} {X : Nat} {k : Int} {t : Bool} {i : Int} {s : ByteArray} {sl kl : Value} {k2 : Int} {tl : Value} {T : Tc} {xa : Option Addr} {xc : Nat} {w1 w2 : World} (h : SO w X k t i s sl kl k2 tl T xa xc w1) (hb : Below w1.heap.size w1 w2) : SO w X k t i s sl kl k2 tl T xa xc w2 := by
  obtain ⟨_, _, _, _, _, _, _, _, x0, x1, h9, hC⟩ := h
  have z := World.block_lt_of_cell? w1 _ x0
  exact SO.mk (h9.below hb) ((hb.cell (p := ⟨X, 0, none⟩) z).trans x0) ((hb.cell (p := ⟨X, 1, none⟩) z).trans x1) (TailC.below hb _ _ hC)
theorem SO.nine {w : World} {X : Nat} {k : Int} {t : Bool} {i : Int} {s : ByteArray} {sl kl : Value} {k2 : Int} {tl : Value} {T : Tc} {xa : Option Addr} {xc : Nat} {w' : World} (h : SO w X k t i s sl kl k2 tl T xa xc w') : S9 w k t i s sl kl k2 tl w' := h.2.2.2.2.2.2.2.2.2.2.1
theorem SO.bel {w : World} {X : Nat} {k : Int} {t : Bool} {i : Int} {s : ByteArray} {sl kl : Value} {k2 : Int} {tl : Value} {T : Tc} {xa : Option Addr} {xc : Nat} {w' : World} (h : SO w X k t i s sl kl k2 tl T xa xc w') : Below w.heap.size w w' := h.nine.2.2.2.2.2.2.2.2.2
theorem SO.tail {w : World} {X : Nat} {k : Int} {t : Bool} {i : Int} {s : ByteArray} {sl kl : Value} {k2 : Int} {tl : Value} {T : Tc} {xa : Option Addr} {xc : Nat} {w' : World} (h : SO w X k t i s sl kl k2 tl T xa xc w') : TailC w' xa T := h.2.2.2.2.2.2.2.2.2.2.2

set_option maxHeartbeats 8000000 in
set_option maxRecDepth 100000 in
theorem walk (m : Nat) (V : Value) (x : Vl) (mt : Nat) (TV : Value) (y : Ty) (w : World) (hT : TabT w) (hV : IsV m w V x) (hY : IsT mt w TV y) :
    Calls Tryd.prog 4 #[V, TV] w fun e w' => e = .returned (.bool true) ∧ Below w.heap.size w w' := by
  have HV := hV
  have HY := hY
  obtain ⟨k, t, i, s, l, ks, av, c, kv, kc, rfl, rfl, _⟩ := hV
  obtain ⟨k2, l2, av2, c2, rfl, rfl, _⟩ := hY
  have OX := Lib.hid (fun w' (h : Below w.heap.size w w') => Of_any m _ _ w' (HV.below h) (hT.below h))
  have OY := Lib.hid (fun w' (h : Below w.heap.size w w') => rOf_any m _ _ w' (HV.below h))
  have FX := Lib.hid (fun w' (h : Below w.heap.size w w') => Fits_any m mt _ _ _ _ w' (HV.below h) (HY.below h) (hT.below h))
  have FY := Lib.hid (fun w' (h : Below w.heap.size w w') => rFits_any m mt _ _ _ _ w' (HV.below h) (HY.below h))
  have AW := Lib.hid (fun w' (h : Below w.heap.size w w') => awake_any w' (hT.below h))
  obtain ⟨hg1, hg2⟩ := ofV_good m (Vl.mk k t i s l ks)
  generalize ofV m (Vl.mk k t i s l ks) = T at *
  generalize fitV m (Vl.mk k t i s l ks) (Ty.mk k2 l2) = f at *
  have e1 : (f == f) = true := beq_self_eq_true _
  have VX := Lib.hid (fun av c w' (h : TailC w' av T) => validC hg1 hg2 (av := av) (c := c) w' h)
  have hs0 : S9 w k t i s (.slice av l.length c) (.slice kv ks.length kc) k2 (.slice av2 l2.length c2) ((w.alloc (.cells #[.int .i64 k, .bool t, .int .i64 i, .string s, .slice av l.length c, .slice kv ks.length kc] 33)).alloc (.cells #[.int .i64 k2, .slice av2 l2.length c2] 24)) := by
    have VV := (V6_new w k t i s (.slice av l.length c) (.slice kv ks.length kc)).below (by simp) ((Below.refl _ _).alloc (Nat.le_refl _) (.cells #[.int .i64 k2, .slice av2 l2.length c2] 24))
    have TT := TwoAt.new (w.alloc (.cells #[.int .i64 k, .bool t, .int .i64 i, .string s, .slice av l.length c, .slice kv ks.length kc] 33)) 24 (.int .i64 k2) (.slice av2 l2.length c2)
    simp only [World.size_alloc] at TT
    exact ⟨VV.2.1, VV.2.2.1, VV.2.2.2.1, VV.2.2.2.2.1, VV.2.2.2.2.2.1, VV.2.2.2.2.2.2, TT.cell0, TT.cell1, by simp, (by repeat (first | exact Below.refl _ _ | refine Below.setCell ?_ (by simp <;> omega) _ | refine Below.alloc ?_ (by simp <;> omega) _))⟩
  clear hT HV HY hg1 hg2
  go_enter Tryd.func4, Tryd.ntmps4
  go_wp2_with fail
  go_fit (OX.out _ hs0.2.2.2.2.2.2.2.2.2)
  rintro e w1 ⟨R, rfl, ⟨xa, xc, rfl, hX⟩, hb1⟩
  have hA : Below w1.heap.size w1 (w1.alloc (.cells #[.int .i64 T.kd, .slice xa T.ln xc] 24)) := (Below.refl _ _).alloc (Nat.le_refl _) _
  have TX := TwoAt.new w1 24 (.int .i64 T.kd) (.slice xa T.ln xc)
  have hs1 : SO w w1.heap.size k t i s (.slice av l.length c) (.slice kv ks.length kc) k2 (.slice av2 l2.length c2) T xa xc (w1.alloc (.cells #[.int .i64 T.kd, .slice xa T.ln xc] 24)) := SO.mk ((hs0.below hb1).below hA) TX.cell0 TX.cell1 (TailC.below hA _ _ hX)
  clear hb1 hs0 hX hA TX OX
  go_wp2_with fail
  obtain ⟨X, hXX⟩ : ∃ X, X = w1.heap.size := ⟨_, rfl⟩
  obtain ⟨W0, hW0⟩ : ∃ W0, W0 = w1.alloc (.cells #[.int .i64 T.kd, .slice xa T.ln xc] 24) := ⟨_, rfl⟩
  rw [← hW0, ← hXX] at hs1
  rw [← hW0, ← hXX]
  clear hW0 hXX
  have SM := Lib.hid (fun R w' (h : SO w X k t i s (.slice av l.length c) (.slice kv ks.length kc) k2 (.slice av2 l2.length c2) T xa xc w') (hR : IsC w' R T) => sameR T (.agg #[.int .i64 T.kd, .slice xa T.ln xc]) R w' ⟨xa, xc, rfl, h.tail⟩ hR)
  have VX2 := Lib.hid (fun w' (h : SO w X k t i s (.slice av l.length c) (.slice kv ks.length kc) k2 (.slice av2 l2.length c2) T xa xc w') => VX.out xa xc w' h.tail)
  have OY2 := Lib.hid (fun w' (h : SO w X k t i s (.slice av l.length c) (.slice kv ks.length kc) k2 (.slice av2 l2.length c2) T xa xc w') => OY.out w' h.bel)
  have FX2 := Lib.hid (fun w' (h : SO w X k t i s (.slice av l.length c) (.slice kv ks.length kc) k2 (.slice av2 l2.length c2) T xa xc w') => FX.out w' h.bel)
  have FY2 := Lib.hid (fun w' (h : SO w X k t i s (.slice av l.length c) (.slice kv ks.length kc) k2 (.slice av2 l2.length c2) T xa xc w') => FY.out w' h.bel)
  have AW2 := Lib.hid (fun w' (h : SO w X k t i s (.slice av l.length c) (.slice kv ks.length kc) k2 (.slice av2 l2.length c2) T xa xc w') => AW.out w' h.bel)
  clear VX OY FX FY AW
  have hd1 := hs1.below (Below.refl _ W0).drew
  go_region_held3 (fun w' => w'.cell? ⟨w.heap.size, 0, none⟩ = some (.int .i64 k) ∧ w'.cell? ⟨w.heap.size, 1, none⟩ = some (.bool t) ∧ w'.cell? ⟨w.heap.size, 2, none⟩ = some (.int .i64 i) ∧ w'.cell? ⟨w.heap.size, 3, none⟩ = some (.string s) ∧ w'.cell? ⟨w.heap.size, 4, none⟩ = some (.slice av l.length c) ∧ w'.cell? ⟨w.heap.size, 5, none⟩ = some (.slice kv ks.length kc) ∧ w'.cell? ⟨w.heap.size + 1, 0, none⟩ = some (.int .i64 k2) ∧ w'.cell? ⟨w.heap.size + 1, 1, none⟩ = some (.slice av2 l2.length c2) ∧ w'.cell? ⟨X, 0, none⟩ = some (.int .i64 T.kd) ∧ w'.cell? ⟨X, 1, none⟩ = some (.slice xa T.ln xc) ∧ (S9 w k t i s (.slice av l.length c) (.slice kv ks.length kc) k2 (.slice av2 l2.length c2) w' ∧ TailC w' xa T)) (first | exact hd1 | exact SO.below (by assumption) (by assumption)) (first
    | (go_at_call 16; go_fit (OY2.out _ (by assumption)); rintro e w2 ⟨V2, rfl, hV2, hb2⟩; have HV2 := Lib.hid hV2; obtain ⟨va2, vc2, rfl, _⟩ := hV2)
    | (go_at_call 15; go_fit (SM.out _ _ (by assumption) HV2.out); rintro e w3 ⟨rfl, hb3⟩)
    | (go_at_call 11; go_fit (VX2.out _ (by assumption)); rintro e w4 ⟨rfl, hb4⟩)
    | (go_at_call 17; go_fit (FX2.out _ (by assumption)); rintro e w5 ⟨rfl, hb5⟩)
    | (go_at_call 18; go_fit (FY2.out _ (by assumption)); rintro e w6 ⟨rfl, hb6⟩)
    | (go_at_call 13; go_fit (AW2.out _ (by assumption)); rintro e w7 ⟨rfl, hb7⟩))
  all_goals
    have hfin : SO w X k t i s (.slice av l.length c) (.slice kv ks.length kc) k2 (.slice av2 l2.length c2) T xa xc w7 := by assumption
    go_wp2_with fail
    go_ret
    exact ⟨rfl, hfin.bel⟩

set_option maxRecDepth 100000 in
theorem lifted (os : Os) (started : os.Started) (H : Type) (enc : TypeId × Value → H) :
    ReturnsInHanded {} Tryd.checked os 4 .any (fun w args => (Rows.typingOfSpec.pre enc Tryd.prog Tryd.f4 Rows.typingOfRow.domain false w args ∧ laidMetH Tryd.prog laid8 w) ∧ sizedMet enc Tryd.prog Tryd.f4 (OpenSpec.ofChange Rows.typingOfSpec) false w args) (Rows.typingOfSpec.post enc Tryd.prog Tryd.f4 false true false false) := by
  refine returnsInHanded_of_change_and (C := Tryd.checked) (X := fun w _ => laidMetH Tryd.prog laid8 w) (fun _ _ _ hh h => h.of_heap hh) own started (by kernel_rfl) Tryd.func4
    (ChangeSpec.witness_shaped (enc := enc) (C := Tryd.checked) (os := os) (X := fun w _ => laidMetH Tryd.prog laid8 w) false (World.laidAll Tryd.prog os laid8) #[.agg #[.int .i64 0, .bool false, .int .i64 0, .string ⟨#[]⟩, .slice none 0 0, .slice none 0 0], .agg #[.int .i64 0, .slice none 0 0]] 8 (World.laidAll_os _ _ _) (World.shaped_of_ZipB (by kernel_rfl) (by kernel_rfl)) (by kernel_rfl) (by kernel_rfl) (by kernel_rfl) (lay8_met os _)) ?_
  intro W base args ds gs before hval0 hW hcnd hsz hL _
  have hval : ∀ (j : Nat) t v, Tryd.f4.params[j]? = some t → args[j]? = some v → Value.okWide Tryd.prog W .any base t v := hval0
  have hW' := hW
  obtain ⟨p, q, hA0, hV, rfl, hfz, hnd⟩ := hW
  have hA : DataW.TrodAll enc Tryd.prog W 0 (fun _ => true) true Tryd.f4.params.toList args.toList ds p := hA0
  rw [Tryd.params4] at hA hval hsz
  obtain ⟨v0, vs0, d0, ds0, p0, q0, hargs, rfl, rfl, h0, r0⟩ := trodAll_cons hA
  obtain ⟨v1, vs1, d1, ds1, p1, q1, rfl, rfl, rfl, h1, r1⟩ := trodAll_cons r0
  obtain ⟨rfl, rfl, rfl⟩ := trodAll_nil r1
  obtain rfl : args = #[v0, v1] := by cases args; simp_all
  obtain ⟨rfl, rfl⟩ := trodVars_none hV
  have k0 := h0
  have lt0 : ∀ x ∈ p0, x.block < W.heap.size := by obtain ⟨m, hm⟩ := k0; exact DataW.trod_lt m _ _ _ hm
  have hw0 : (d0.weights Tryd.prog 33).all (· ≤ reachBytes) = true := List.all_eq_true.2 (fun n hn => List.all_eq_true.1 hsz n (DataW.weights_mem_each (j := 0) (t := 33) rfl rfl n hn))
  obtain ⟨m0, y0, hr0⟩ := open_value (hval 0 33 v0 rfl rfl) h0 hw0
  have k1 := h1
  have lt1 : ∀ x ∈ p1, x.block < W.heap.size := by obtain ⟨m, hm⟩ := k1; exact DataW.trod_lt m _ _ _ hm
  obtain ⟨m1, y1, hr1⟩ := open_type (hval 1 24 v1 rfl rfl) h1
  clear hA0 hval0
  refine (walk m0 v0 y0 m1 v1 y1  W (tab8_of hL) hr0 hr1).mono fun e W' ⟨he, bel⟩ => ?_
  subst he
  exact ⟨_, rfl, _, _, _, [], _, [], hW', trodAll_mk1 (shut_bool Tryd.underlying4 _), (trodAll_cons_mk (Below.trod laidOut (by kernel_rfl) (of_decide_eq_true (by kernel_rfl)) k0 bel lt0) (trodAll_cons_mk (Below.trod laidOut (by kernel_rfl) (of_decide_eq_true (by kernel_rfl)) k1 bel lt1) trodAll_mk0)), rfl, bel.frame _, fun h => by cases h⟩

theorem over : Rows.typingOfRow.holds Tryd.pinned (OpenSpec.ofChange Rows.typingOfSpec) :=
  OpenClaim.holds_of_wide 4 Tryd.f4 rfl rfl rfl rfl rfl rfl rfl ⟨rfl, rfl, rfl, rfl, rfl⟩ rfl rfl rfl rfl rfl (by kernel_rfl) Tryd.func4 (by kernel_rfl)
    (of_decide_eq_true (by kernel_rfl)) (by unfold Func.isWrapper; first | (rw [if_pos (by decide +kernel)]; kernel_rfl) | (rw [if_neg (by decide +kernel)]; exact ⟨rfl, rfl⟩))
    (fun os started H enc _ => lifted os started H enc)

/-- THE STATEMENT. -/
theorem proved : Rows.TypingOfCardSaid :=
  Claim7.holds_tied_plain_at .later [] [.data, .data, .data, .pinned] true Rows.typingOfCard.stood.harness false
    over (fun _ h => by cases h) (by kernel_rfl) (fun _ h => by cases h) typingOf_row_tie rfl ⟨rfl, rfl⟩ (by kernel_rfl) rfl
    (fun f fn hf hfn => by
      obtain rfl : f = 4 := Option.some.inj ((show Tryd.prog.funcNamed "pipeline/pipelinelaw08.TypingOf" = some 4 by kernel_rfl).symm.trans hf) |>.symm
      obtain rfl : fn = Tryd.f4 := (Option.some.inj (Tryd.func4.symm.trans hfn)).symm
      exact ⟨by kernel_rfl, fun j t ht => by
        rw [Tryd.params4] at ht
        have hm : t ∈ [33, 24] := by simpa using Array.mem_of_getElem? ht
        have hall : ([33, 24].all fun u => !Tryd.prog.wantsStandIn u) = true := by kernel_rfl
        exact (show Tryd.prog.wantsStandIn t = false by simpa using List.all_eq_true.1 hall t hm)⟩)
    (by kernel_rfl)
#print axioms proved
end Go.Proofs.YtabopneehhnhfabDoor.typingOf
