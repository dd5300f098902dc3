/- Layer 7: ValueEntries. -/
import Derived.Test.YtabopneehhnhfaaGreatDoorTie
import Derived.Test.YtabopneehhnhfaaGreatDoorCards
import Derived.Test.YtabopneehhnhfaaGreatDoorVluTab
import Derived.Test.YtabopneehhnhfaaGreatDoorOpR
import Derived.Test.YtabopneehhnhfaaGreatDoorVluWk
import Derived.Test.YtabopneehhnhfaaGreatDoorVluB
import Derived.Test.YtabopneehhnhfaaGreatDoorVluC
import Derived.ProofKit
import Derived.OpenShut
import Derived.LaidMore
import Derived.Stop.Joined
import Derived.SevenTiedAt
import Derived.SizedLaws
namespace Go.Proofs.YtabopneehhnhfaaGreatDoor.valueEntries
open Go.ChangeShapes Go.WideShapes Go.ChangeAt Go.RowKit
open Go.ChangeMaps (open_string shut_string)
set_option linter.unusedVariables false

theorem own : ownKnob Tryz.prog.godebug = none := by kernel_rfl
theorem laidOut : laidOutB Tryz.prog = true := by kernel_rfl

set_option maxHeartbeats 8000000 in
set_option maxRecDepth 100000 in
theorem walk (m : Nat) (V : Value) (x : Vl) (key : ByteArray) (_z : key.size ≤ 140737488355327) (w : World) (hT : TabP w) (hV : IsV m w V x) :
    Calls Tryz.prog 9 #[V, .string key] w fun e w' => e = .returned (.bool true) ∧ Below w.heap.size w w' := by
  have HT := Lib.hid hT
  have hlen : (varsL x).length ≤ 140737488351232 := by
    obtain ⟨k, t, i, s, l, ks, av, c, kv, kc, rfl, rfl, g0, g1, g2, g3, g4, g5, g6, _⟩ := hV
    unfold varsL
    split
    · simp only [List.length_zip, Vl.keys, Vl.list]
      omega
    · simp
  have VP := Lib.hid (fun w' (h : Below w.heap.size w w') => vars_any m V x w' (hV.below h))
  have VR := Lib.hid (fun w' (h : Below w.heap.size w w') => rVars_any m V x w' (hV.below h))
  have GP := Lib.hid (fun w' (h : Below w.heap.size w w') => get_any m V x key w' (hV.below h))
  have GR := Lib.hid (fun w' (h : Below w.heap.size w w') => rGet_any m V x key w' (hV.below h))
  have TP := Lib.hid (fun w' (h : Below w.heap.size w w') => text_any m V x w' (tabP_below hT h) (hV.below h))
  have TR := Lib.hid (fun w' (h : Below w.heap.size w w') => rText_any m V x w' (hV.below h))
  generalize varsE x = er at VP VR
  generalize varsL x = L at VP VR hlen
  generalize (getV x key.data.toList).isSome = gs at GP GR
  generalize (getV x key.data.toList).getD zeroV = G at GP GR
  generalize (textV m x).1 = ts at TP TR
  generalize (textV m x).2 = te at TP TR
  obtain ⟨k1, t1, i1, s1, l1, ks1⟩ := G
  obtain ⟨k, t, i, s, l, ks, av, c, kv, kc, rfl, rfl, _⟩ := hV
  have q1 : ((er : Int) == (er : Int)) = true := beq_self_eq_true _
  have q2 : (gs == gs) = true := beq_self_eq_true _
  have q3 : (ts.toList == ts.toList) = true := beq_self_eq_true _
  have q4 : ((te : Int) == (te : Int)) = true := beq_self_eq_true _
  have C0 := Lib.hid (CellsAt.new w 25 #[.int .i64 k, .bool t, .int .i64 i, .string s, .slice av l.length c, .slice kv ks.length kc])
  have B0 := Lib.hid ((Below.refl w.heap.size w).alloc (Nat.le_refl _) (.cells #[.int .i64 k, .bool t, .int .i64 i, .string s, .slice av l.length c, .slice kv ks.length kc] 25))
  clear hT
  go_enter Tryz.func9, Tryz.ntmps9
  go_wp2_with fail
  go_fit (VP.out _ B0.out)
  rintro e w1 ⟨la, lc, rfl, _, _, hL, hb⟩
  have HL := Lib.hid hL.here
  have C1 := Lib.hid (C0.out.below hb)
  have B1 := Lib.hid (B0.out.trans (hb.mono B0.out.size))
  have y0 : w1.cell? ⟨w.heap.size, 0, none⟩ = some (.int .i64 k) := C1.out.cell rfl
  have y1 : w1.cell? ⟨w.heap.size, 1, none⟩ = some (.bool t) := C1.out.cell rfl
  have y2 : w1.cell? ⟨w.heap.size, 2, none⟩ = some (.int .i64 i) := C1.out.cell rfl
  have y3 : w1.cell? ⟨w.heap.size, 3, none⟩ = some (.string s) := C1.out.cell rfl
  have y4 : w1.cell? ⟨w.heap.size, 4, none⟩ = some (.slice av l.length c) := C1.out.cell rfl
  have y5 : w1.cell? ⟨w.heap.size, 5, none⟩ = some (.slice kv ks.length kc) := C1.out.cell rfl
  clear hb hL C0
  go_wp2_with fail
  go_fit (VR.out _ B1.out)
  rintro e w2 ⟨ma, mc, rfl, hM, hb⟩
  have HL2 := Lib.hid (HL.out.below hb)
  have HM := Lib.hid hM
  have C2 := Lib.hid (C1.out.below hb)
  have B2 := Lib.hid (B1.out.trans (hb.mono B1.out.size))
  clear hb hM C1 HL y0 y1 y2 y3 y4 y5
  have y0 : w2.cell? ⟨w.heap.size, 0, none⟩ = some (.int .i64 k) := C2.out.cell rfl
  have y1 : w2.cell? ⟨w.heap.size, 1, none⟩ = some (.bool t) := C2.out.cell rfl
  have y2 : w2.cell? ⟨w.heap.size, 2, none⟩ = some (.int .i64 i) := C2.out.cell rfl
  have y3 : w2.cell? ⟨w.heap.size, 3, none⟩ = some (.string s) := C2.out.cell rfl
  have y4 : w2.cell? ⟨w.heap.size, 4, none⟩ = some (.slice av l.length c) := C2.out.cell rfl
  have y5 : w2.cell? ⟨w.heap.size, 5, none⟩ = some (.slice kv ks.length kc) := C2.out.cell rfl
  go_wp2_with fail
  go_fit (GP.out _ B2.out)
  rintro e w3 ⟨R, rfl, hR, hb⟩
  obtain ⟨ax, cx, kx, ckx, rfl, _⟩ := isV_stb hR
  have HX := Lib.hid hR.here
  have hal : Below w3.heap.size w3 (w3.alloc (.cells #[.int .i64 k1, .bool t1, .int .i64 i1, .string s1, .slice ax l1.length cx, .slice kx ks1.length ckx] 25)) := (Below.refl _ _).alloc (Nat.le_refl _) _
  have B3 := Lib.hid (B2.out.trans (hb.mono B2.out.size))
  have B3a := Lib.hid (B3.out.trans (hal.mono B3.out.size))
  have C3 := Lib.hid ((C2.out.below hb).below hal)
  have HL3 := Lib.hid ((HL2.out.below hb).below hal)
  have HM3 := Lib.hid ((HM.out.below hb).below hal)
  have HX3 := Lib.hid (HX.out.below hal)
  have CX := Lib.hid (CellsAt.new w3 25 #[.int .i64 k1, .bool t1, .int .i64 i1, .string s1, .slice ax l1.length cx, .slice kx ks1.length ckx])
  obtain ⟨n3, hn3⟩ : ∃ n3, n3 = w3.heap.size := ⟨_, rfl⟩
  clear hb hR C2 HL2 HM HX y0 y1 y2 y3 y4 y5
  obtain ⟨W3, hW3⟩ : ∃ W3, W3 = w3.alloc (.cells #[.int .i64 k1, .bool t1, .int .i64 i1, .string s1, .slice ax l1.length cx, .slice kx ks1.length ckx] 25) := ⟨_, rfl⟩
  rw [← hW3] at B3a C3 HL3 HM3 HX3 CX
  rw [← hn3] at CX
  have y0 : W3.cell? ⟨w.heap.size, 0, none⟩ = some (.int .i64 k) := C3.out.cell rfl
  have y1 : W3.cell? ⟨w.heap.size, 1, none⟩ = some (.bool t) := C3.out.cell rfl
  have y2 : W3.cell? ⟨w.heap.size, 2, none⟩ = some (.int .i64 i) := C3.out.cell rfl
  have y3 : W3.cell? ⟨w.heap.size, 3, none⟩ = some (.string s) := C3.out.cell rfl
  have y4 : W3.cell? ⟨w.heap.size, 4, none⟩ = some (.slice av l.length c) := C3.out.cell rfl
  have y5 : W3.cell? ⟨w.heap.size, 5, none⟩ = some (.slice kv ks.length kc) := C3.out.cell rfl
  rw [hW3] at y0 y1 y2 y3 y4 y5
  go_wp2_with fail
  rw [← hW3, ← hn3]
  clear hW3 hn3 hal B3 y0 y1 y2 y3 y4 y5
  go_fit (GR.out _ B3a.out)
  rintro e w4 ⟨R, rfl, hR, hb⟩
  have HY := Lib.hid hR
  obtain ⟨k9, t9, i9, s9, l9, ks9, ay, cy, ky, cky, e9, rfl, _⟩ := hR
  injection e9 with e1 e2 e3 e4 e5 e6
  subst e1 e2 e3 e4 e5 e6
  have hal : Below w4.heap.size w4 (w4.alloc (.cells #[.int .i64 k1, .bool t1, .int .i64 i1, .string s1, .slice ay l1.length cy, .slice ky ks1.length cky] 25)) := (Below.refl _ _).alloc (Nat.le_refl _) _
  have B4 := Lib.hid (B3a.out.trans (hb.mono B3a.out.size))
  have B4a := Lib.hid (B4.out.trans (hal.mono B4.out.size))
  have C4 := Lib.hid ((C3.out.below hb).below hal)
  have HL4 := Lib.hid ((HL3.out.below hb).below hal)
  have HM4 := Lib.hid ((HM3.out.below hb).below hal)
  have HX4 := Lib.hid ((HX3.out.below hb).below hal)
  have CX4 := Lib.hid ((CX.out.below hb).below hal)
  have HY4 := Lib.hid (HY.out.below hal)
  have CY := Lib.hid (CellsAt.new w4 25 #[.int .i64 k1, .bool t1, .int .i64 i1, .string s1, .slice ay l1.length cy, .slice ky ks1.length cky])
  obtain ⟨n4, hn4⟩ : ∃ n4, n4 = w4.heap.size := ⟨_, rfl⟩
  obtain ⟨W4, hW4⟩ : ∃ W4, W4 = w4.alloc (.cells #[.int .i64 k1, .bool t1, .int .i64 i1, .string s1, .slice ay l1.length cy, .slice ky ks1.length cky] 25) := ⟨_, rfl⟩
  rw [← hW4] at B4a C4 HL4 HM4 HX4 CX4 HY4 CY
  rw [← hn4] at CY
  clear hb C3 HL3 HM3 HX3 CX HY B3a
  have y0 : W4.cell? ⟨w.heap.size, 0, none⟩ = some (.int .i64 k) := C4.out.cell rfl
  have y1 : W4.cell? ⟨w.heap.size, 1, none⟩ = some (.bool t) := C4.out.cell rfl
  have y2 : W4.cell? ⟨w.heap.size, 2, none⟩ = some (.int .i64 i) := C4.out.cell rfl
  have y3 : W4.cell? ⟨w.heap.size, 3, none⟩ = some (.string s) := C4.out.cell rfl
  have y4 : W4.cell? ⟨w.heap.size, 4, none⟩ = some (.slice av l.length c) := C4.out.cell rfl
  have y5 : W4.cell? ⟨w.heap.size, 5, none⟩ = some (.slice kv ks.length kc) := C4.out.cell rfl
  rw [hW4] at y0 y1 y2 y3 y4 y5
  go_wp2_with fail
  rw [← hW4, ← hn4]
  clear hW4 hn4 hal B4 y0 y1 y2 y3 y4 y5
  go_fit (TP.out _ B4a.out)
  rintro e w5 ⟨rfl, hb⟩
  have B5 := Lib.hid (B4a.out.trans (hb.mono B4a.out.size))
  have C5 := Lib.hid (C4.out.below hb)
  have HL5 := Lib.hid (HL4.out.below hb)
  have HM5 := Lib.hid (HM4.out.below hb)
  have HX5 := Lib.hid (HX4.out.below hb)
  have CX5 := Lib.hid (CX4.out.below hb)
  have HY5 := Lib.hid (HY4.out.below hb)
  have CY5 := Lib.hid (CY.out.below hb)
  clear hb C4 HL4 HM4 HX4 CX4 HY4 CY B4a
  have y0 : w5.cell? ⟨w.heap.size, 0, none⟩ = some (.int .i64 k) := C5.out.cell rfl
  have y1 : w5.cell? ⟨w.heap.size, 1, none⟩ = some (.bool t) := C5.out.cell rfl
  have y2 : w5.cell? ⟨w.heap.size, 2, none⟩ = some (.int .i64 i) := C5.out.cell rfl
  have y3 : w5.cell? ⟨w.heap.size, 3, none⟩ = some (.string s) := C5.out.cell rfl
  have y4 : w5.cell? ⟨w.heap.size, 4, none⟩ = some (.slice av l.length c) := C5.out.cell rfl
  have y5 : w5.cell? ⟨w.heap.size, 5, none⟩ = some (.slice kv ks.length kc) := C5.out.cell rfl
  go_wp2_with fail
  go_fit (TR.out _ B5.out)
  rintro e w6 ⟨rfl, hb⟩
  have B6 := Lib.hid (B5.out.trans (hb.mono B5.out.size))
  have HL6 := Lib.hid (HL5.out.below hb)
  have HM6 := Lib.hid (HM5.out.below hb)
  have HX6 := Lib.hid (HX5.out.below hb)
  have CX6 := Lib.hid (CX5.out.below hb)
  have HY6 := Lib.hid (HY5.out.below hb)
  have CY6 := Lib.hid (CY5.out.below hb)
  clear hb C5 HL5 HM5 HX5 CX5 HY5 CY5 B5 y0 y1 y2 y3 y4 y5
  go_wp2_with fail
  go_fit (rSameVars_eq m L la ma lc mc (by omega) _ HL6.out HM6.out)
  rintro e w7 ⟨rfl, hb⟩
  have B7 := Lib.hid (B6.out.trans (hb.mono B6.out.size))
  have HX7 := Lib.hid (HX6.out.below hb)
  have CX7 := Lib.hid (CX6.out.below hb)
  have HY7 := Lib.hid (HY6.out.below hb)
  have CY7 := Lib.hid (CY6.out.below hb)
  have x0 : w7.cell? ⟨n3, 0, none⟩ = some (.int .i64 k1) := CX7.out.cell rfl
  have x1 : w7.cell? ⟨n3, 1, none⟩ = some (.bool t1) := CX7.out.cell rfl
  have x2 : w7.cell? ⟨n3, 2, none⟩ = some (.int .i64 i1) := CX7.out.cell rfl
  have x3 : w7.cell? ⟨n3, 3, none⟩ = some (.string s1) := CX7.out.cell rfl
  have x4 : w7.cell? ⟨n3, 4, none⟩ = some (.slice ax l1.length cx) := CX7.out.cell rfl
  have x5 : w7.cell? ⟨n3, 5, none⟩ = some (.slice kx ks1.length ckx) := CX7.out.cell rfl
  have y0 : w7.cell? ⟨n4, 0, none⟩ = some (.int .i64 k1) := CY7.out.cell rfl
  have y1 : w7.cell? ⟨n4, 1, none⟩ = some (.bool t1) := CY7.out.cell rfl
  have y2 : w7.cell? ⟨n4, 2, none⟩ = some (.int .i64 i1) := CY7.out.cell rfl
  have y3 : w7.cell? ⟨n4, 3, none⟩ = some (.string s1) := CY7.out.cell rfl
  have y4 : w7.cell? ⟨n4, 4, none⟩ = some (.slice ay l1.length cy) := CY7.out.cell rfl
  have y5 : w7.cell? ⟨n4, 5, none⟩ = some (.slice ky ks1.length cky) := CY7.out.cell rfl
  clear hb HL6 HM6 HX6 CX6 HY6 CY6 B6
  go_wp2_with fail
  go_fit (same_self HX7.out HY7.out)
  rintro e w8 ⟨rfl, hb⟩
  have B8 := Lib.hid (B7.out.trans (hb.mono B7.out.size))
  clear hb x0 x1 x2 x3 x4 x5 y0 y1 y2 y3 y4 y5
  go_wp2_with fail
  go_fit (awake_any _ (tabP_below HT.out B8.out))
  rintro e w9 ⟨rfl, hb⟩
  have B9 := Lib.hid (B8.out.trans (hb.mono B8.out.size))
  clear hb
  go_wp2_with fail
  go_ret
  exact ⟨rfl, B9.out⟩

set_option maxRecDepth 100000 in
theorem lifted (os : Os) (started : os.Started) (H : Type) (enc : TypeId × Value → H) :
    ReturnsInHanded {} Tryz.checked os 9 .any (fun w args => (Rows.valueEntriesSpec.pre enc Tryz.prog Tryz.f9 Rows.valueEntriesRow.domain false w args ∧ laidMetH Tryz.prog laidV w) ∧ sizedMet enc Tryz.prog Tryz.f9 (OpenSpec.ofChange Rows.valueEntriesSpec) false w args) (Rows.valueEntriesSpec.post enc Tryz.prog Tryz.f9 false true false false) := by
  refine returnsInHanded_of_change_and (C := Tryz.checked) (X := fun w _ => laidMetH Tryz.prog laidV w) (fun _ _ _ hh h => h.of_heap hh) own started (by kernel_rfl) Tryz.func9
    (ChangeSpec.witness_shaped (enc := enc) (C := Tryz.checked) (os := os) (X := fun w _ => laidMetH Tryz.prog laidV w) false (World.laidAll Tryz.prog os laidV) #[.agg #[.int .i64 0, .bool false, .int .i64 0, .string ⟨#[]⟩, .slice none 0 0, .slice none 0 0], .string ⟨#[]⟩] 8 (World.laidAll_os _ _ _) (World.shaped_of_ZipB (by kernel_rfl) (by kernel_rfl)) (by kernel_rfl) (by kernel_rfl) (by kernel_rfl) (layV_met os _)) ?_
  intro W base args ds gs before hval0 hW hcnd hsz hL _
  have hval : ∀ (j : Nat) t v, Tryz.f9.params[j]? = some t → args[j]? = some v → Value.okWide Tryz.prog W .any base t v := hval0
  have hW' := hW
  obtain ⟨p, q, hA0, hV, rfl, hfz, hnd⟩ := hW
  have hA : DataW.TrodAll enc Tryz.prog W 0 (fun _ => true) true Tryz.f9.params.toList args.toList ds p := hA0
  rw [Tryz.params9] at hA hval hsz
  obtain ⟨v0, vs0, d0, ds0, p0, q0, hargs, rfl, rfl, h0, r0⟩ := trodAll_cons hA
  obtain ⟨v1, vs1, d1, ds1, p1, q1, rfl, rfl, rfl, h1, r1⟩ := trodAll_cons r0
  obtain ⟨rfl, rfl, rfl⟩ := trodAll_nil r1
  obtain rfl : args = #[v0, v1] := by cases args; simp_all
  obtain ⟨rfl, rfl⟩ := trodVars_none hV
  have k0 := h0
  have lt0 : ∀ x ∈ p0, x.block < W.heap.size := by obtain ⟨m, hm⟩ := k0; exact DataW.trod_lt m _ _ _ hm
  have hw0 : (d0.weights Tryz.prog 25).all (· ≤ reachBytes) = true := List.all_eq_true.2 (fun n hn => List.all_eq_true.1 hsz n (DataW.weights_mem_each (j := 0) (t := 25) rfl rfl n hn))
  obtain ⟨m0, y0, hr0⟩ := open_value (hval 0 25 v0 rfl rfl) h0 hw0
  obtain ⟨a1, rfl, rfl, rfl, w1⟩ := open_string Tryz.underlying9 (hval 1 9 v1 rfl rfl) h1
  have z1 : a1.size ≤ 140737488355327 := by
    have h := sized_string hsz (j := 1) (t := 9) rfl rfl
    rw [Array.length_toList] at h
    exact Nat.le_trans h (by decide)
  clear hA0 hval0
  refine (walk m0 v0 y0 a1 z1 W (tabV_of hL) hr0).mono fun e W' ⟨he, bel⟩ => ?_
  subst he
  exact ⟨_, rfl, _, _, _, [], _, [], hW', trodAll_mk1 (shut_bool Tryz.underlying4 _), (trodAll_cons_mk (Below.trod laidOut (by kernel_rfl) (of_decide_eq_true (by kernel_rfl)) k0 bel lt0) (trodAll_cons_mk (shut_string Tryz.underlying9 w1) trodAll_mk0)), rfl, bel.frame _, fun h => by cases h⟩

theorem over : Rows.valueEntriesRow.holds Tryz.pinned (OpenSpec.ofChange Rows.valueEntriesSpec) :=
  OpenClaim.holds_of_wide 9 Tryz.f9 rfl rfl rfl rfl rfl rfl rfl ⟨rfl, rfl, rfl, rfl, rfl⟩ rfl rfl rfl rfl rfl (by kernel_rfl) Tryz.func9 (by kernel_rfl)
    (of_decide_eq_true (by kernel_rfl)) (by unfold Func.isWrapper; first | (rw [if_pos (by decide +kernel)]; kernel_rfl) | (rw [if_neg (by decide +kernel)]; exact ⟨rfl, rfl⟩))
    (fun os started H enc _ => lifted os started H enc)

/-- THE STATEMENT. -/
theorem proved : Rows.ValueEntriesCardSaid :=
  Claim7.holds_tied_plain_at .later [] [.data, .data, .data, .data, .pinned] true Rows.valueEntriesCard.stood.harness false
    over (fun _ h => by cases h) (by kernel_rfl) (fun _ h => by cases h) valueEntries_row_tie rfl ⟨rfl, rfl⟩ (by kernel_rfl) rfl
    (fun f fn hf hfn => by
      obtain rfl : f = 9 := Option.some.inj ((show Tryz.prog.funcNamed "pipeline/pipelinelaw07.ValueEntries" = some 9 by kernel_rfl).symm.trans hf) |>.symm
      obtain rfl : fn = Tryz.f9 := (Option.some.inj (Tryz.func9.symm.trans hfn)).symm
      exact ⟨by kernel_rfl, fun j t ht => by
        rw [Tryz.params9] at ht
        have hm : t ∈ [25, 9] := by simpa using Array.mem_of_getElem? ht
        have hall : ([25, 9].all fun u => !Tryz.prog.wantsStandIn u) = true := by kernel_rfl
        exact (show Tryz.prog.wantsStandIn t = false by simpa using List.all_eq_true.1 hall t hm)⟩)
    (by kernel_rfl)
#print axioms proved
end Go.Proofs.YtabopneehhnhfaaGreatDoor.valueEntries
