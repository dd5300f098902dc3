/- Layer 7: ValueMaps. -/
import Derived.Test.YtabopneehhnhfaaGreatDoorTie
import Derived.Test.YtabopneehhnhfaaGreatDoorCards
import Derived.Test.YtabopneehhnhfaaGreatDoorVluTab
import Derived.Test.YtabopneehhnhfaaGreatDoorOpR
import Derived.Test.YtabopneehhnhfaaGreatDoorVluWk
import Derived.Test.YtabopneehhnhfaaGreatDoorVluN
import Derived.Test.YtabopneehhnhfaaGreatDoorVluQ
import Derived.Test.YtabopneehhnhfaaGreatDoorVluC
import Derived.ProofKit
import Derived.OpenShut
import Derived.LaidMore
import Derived.Stop.Joined
import Derived.SevenTiedAt
import Derived.SizedLaws
namespace Go.Proofs.YtabopneehhnhfaaGreatDoor.valueMaps
open Go.ChangeShapes Go.WideShapes Go.ChangeAt Go.RowKit
set_option linter.unusedVariables false

theorem own : ownKnob Tryz.prog.godebug = none := by kernel_rfl
theorem laidOut : laidOutB Tryz.prog = true := by kernel_rfl

set_option maxHeartbeats 8000000 in
set_option maxRecDepth 100000 in
theorem walk (m : Nat) (a : Option Addr) (cap : Nat) (L : List Vr) (_hc : L.length ≤ cap) (_hm : cap ≤ maxLen) (hbd : L.length * 104 ≤ 140737488351232) (w : World) (hT : TabP w) (hr : ReadsR m w a L) :
    Calls Tryz.prog 7 #[.slice a L.length cap] w fun e w' => e = .returned (.bool true) ∧ Below w.heap.size w w' := by
  have HT := Lib.hid hT
  have MP := Lib.hid (fun w' (h : Below w.heap.size w w') => map_any m a L cap w' (hr.below h) (by omega))
  have MR := Lib.hid (fun w' (h : Below w.heap.size w w') => rMap_any m a L cap w' (hr.below h) (by omega))
  generalize (if errVs L = 0 then mapV L else zeroV) = G at MP MR
  generalize errVs L = er at MP MR
  obtain ⟨k1, t1, i1, s1, l1, ks1⟩ := G
  have q1 : ((er : Int) == (er : Int)) = true := beq_self_eq_true _
  clear hT hr
  go_enter Tryz.func7, Tryz.ntmps7
  go_wp2_with fail
  go_fit (MP.out _ (Below.refl _ _))
  rintro e w3 ⟨R, rfl, hR, hb⟩
  obtain ⟨ax, cx, kx, ckx, rfl, _⟩ := isV_stb hR
  have HX := Lib.hid hR.here
  have hal : Below w3.heap.size w3 (w3.alloc (.cells #[.int .i64 k1, .bool t1, .int .i64 i1, .string s1, .slice ax l1.length cx, .slice kx ks1.length ckx] 25)) := (Below.refl _ _).alloc (Nat.le_refl _) _
  have B3a := Lib.hid (hb.trans (hal.mono hb.size))
  have HX3 := Lib.hid (HX.out.below hal)
  have CX := Lib.hid (CellsAt.new w3 25 #[.int .i64 k1, .bool t1, .int .i64 i1, .string s1, .slice ax l1.length cx, .slice kx ks1.length ckx])
  obtain ⟨n3, hn3⟩ : ∃ n3, n3 = w3.heap.size := ⟨_, rfl⟩
  clear hb hR HX
  obtain ⟨W3, hW3⟩ : ∃ W3, W3 = w3.alloc (.cells #[.int .i64 k1, .bool t1, .int .i64 i1, .string s1, .slice ax l1.length cx, .slice kx ks1.length ckx] 25) := ⟨_, rfl⟩
  rw [← hW3] at B3a HX3 CX
  rw [← hn3] at CX
  go_wp2_with fail
  rw [← hW3, ← hn3]
  clear hW3 hn3 hal
  go_fit (MR.out _ B3a.out)
  rintro e w4 ⟨R, rfl, hR, hb⟩
  have HY := Lib.hid hR
  obtain ⟨k9, t9, i9, s9, l9, ks9, ay, cy, ky, cky, e9, rfl, _⟩ := hR
  injection e9 with e1 e2 e3 e4 e5 e6
  subst e1 e2 e3 e4 e5 e6
  have hal : Below w4.heap.size w4 (w4.alloc (.cells #[.int .i64 k1, .bool t1, .int .i64 i1, .string s1, .slice ay l1.length cy, .slice ky ks1.length cky] 25)) := (Below.refl _ _).alloc (Nat.le_refl _) _
  have B4 := Lib.hid (B3a.out.trans (hb.mono B3a.out.size))
  have B4a := Lib.hid (B4.out.trans (hal.mono B4.out.size))
  have HX4 := Lib.hid ((HX3.out.below hb).below hal)
  have CX4 := Lib.hid ((CX.out.below hb).below hal)
  have HY4 := Lib.hid (HY.out.below hal)
  have CY := Lib.hid (CellsAt.new w4 25 #[.int .i64 k1, .bool t1, .int .i64 i1, .string s1, .slice ay l1.length cy, .slice ky ks1.length cky])
  obtain ⟨n4, hn4⟩ : ∃ n4, n4 = w4.heap.size := ⟨_, rfl⟩
  obtain ⟨W4, hW4⟩ : ∃ W4, W4 = w4.alloc (.cells #[.int .i64 k1, .bool t1, .int .i64 i1, .string s1, .slice ay l1.length cy, .slice ky ks1.length cky] 25) := ⟨_, rfl⟩
  rw [← hW4] at B4a HX4 CX4 HY4 CY
  rw [← hn4] at CY
  clear hb HX3 CX HY B3a
  have x0 : W4.cell? ⟨n3, 0, none⟩ = some (.int .i64 k1) := CX4.out.cell rfl
  have x1 : W4.cell? ⟨n3, 1, none⟩ = some (.bool t1) := CX4.out.cell rfl
  have x2 : W4.cell? ⟨n3, 2, none⟩ = some (.int .i64 i1) := CX4.out.cell rfl
  have x3 : W4.cell? ⟨n3, 3, none⟩ = some (.string s1) := CX4.out.cell rfl
  have x4 : W4.cell? ⟨n3, 4, none⟩ = some (.slice ax l1.length cx) := CX4.out.cell rfl
  have x5 : W4.cell? ⟨n3, 5, none⟩ = some (.slice kx ks1.length ckx) := CX4.out.cell rfl
  have y0 : W4.cell? ⟨n4, 0, none⟩ = some (.int .i64 k1) := CY.out.cell rfl
  have y1 : W4.cell? ⟨n4, 1, none⟩ = some (.bool t1) := CY.out.cell rfl
  have y2 : W4.cell? ⟨n4, 2, none⟩ = some (.int .i64 i1) := CY.out.cell rfl
  have y3 : W4.cell? ⟨n4, 3, none⟩ = some (.string s1) := CY.out.cell rfl
  have y4 : W4.cell? ⟨n4, 4, none⟩ = some (.slice ay l1.length cy) := CY.out.cell rfl
  have y5 : W4.cell? ⟨n4, 5, none⟩ = some (.slice ky ks1.length cky) := CY.out.cell rfl
  rw [hW4] at x0 x1 x2 x3 x4 x5 y0 y1 y2 y3 y4 y5
  rw [hn4] at y0 y1 y2 y3 y4 y5
  go_wp2_with fail
  rw [← hW4]
  clear hal B4 x0 x1 x2 x3 x4 x5 y0 y1 y2 y3 y4 y5
  go_fit (same_self HX4.out HY4.out)
  rintro e w8 ⟨rfl, hb⟩
  have B8 := Lib.hid (B4a.out.trans (hb.mono B4a.out.size))
  clear hb
  go_wp2_with fail
  go_fit (awake_any _ (tabP_below HT.out B8.out))
  rintro e w9 ⟨rfl, hb⟩
  have B9 := Lib.hid (B8.out.trans (hb.mono B8.out.size))
  clear hb
  go_wp2_with fail
  go_ret
  exact ⟨rfl, B9.out⟩

set_option maxRecDepth 100000 in
theorem lifted (os : Os) (started : os.Started) (H : Type) (enc : TypeId × Value → H) :
    ReturnsInHanded {} Tryz.checked os 7 .any (fun w args => (Rows.valueMapsSpec.pre enc Tryz.prog Tryz.f7 Rows.valueMapsRow.domain false w args ∧ laidMetH Tryz.prog laidV w) ∧ sizedMet enc Tryz.prog Tryz.f7 (OpenSpec.ofChange Rows.valueMapsSpec) false w args) (Rows.valueMapsSpec.post enc Tryz.prog Tryz.f7 false true false false) := by
  refine returnsInHanded_of_change_and (C := Tryz.checked) (X := fun w _ => laidMetH Tryz.prog laidV w) (fun _ _ _ hh h => h.of_heap hh) own started (by kernel_rfl) Tryz.func7
    (ChangeSpec.witness_shaped (enc := enc) (C := Tryz.checked) (os := os) (X := fun w _ => laidMetH Tryz.prog laidV w) false (World.laidAll Tryz.prog os laidV) #[.slice none 0 0] 8 (World.laidAll_os _ _ _) (World.shaped_of_ZipB (by kernel_rfl) (by kernel_rfl)) (by kernel_rfl) (by kernel_rfl) (by kernel_rfl) (layV_met os _)) ?_
  intro W base args ds gs before hval0 hW hcnd hsz hL _
  have hval : ∀ (j : Nat) t v, Tryz.f7.params[j]? = some t → args[j]? = some v → Value.okWide Tryz.prog W .any base t v := hval0
  have hW' := hW
  obtain ⟨p, q, hA0, hV, rfl, hfz, hnd⟩ := hW
  have hA : DataW.TrodAll enc Tryz.prog W 0 (fun _ => true) true Tryz.f7.params.toList args.toList ds p := hA0
  rw [Tryz.params7] at hA hval hsz
  obtain ⟨v0, vs0, d0, ds0, p0, q0, hargs, rfl, rfl, h0, r0⟩ := trodAll_cons hA
  obtain ⟨rfl, rfl, rfl⟩ := trodAll_nil r0
  obtain rfl : args = #[v0] := by cases args; simp_all
  obtain ⟨rfl, rfl⟩ := trodVars_none hV
  obtain ⟨a0, len0, cap0, rfl⟩ := okWide_slice Tryz.underlying35 (hval 0 35 v0 rfl rfl)
  have k0 := h0
  have lt0 : ∀ x ∈ p0, x.block < W.heap.size := by obtain ⟨m, hm⟩ := k0; exact DataW.trod_lt m _ _ _ hm
  have hw0 : (d0.weights Tryz.prog 35).all (· ≤ reachBytes) = true := List.all_eq_true.2 (fun n hn => List.all_eq_true.1 hsz n (DataW.weights_mem_each (j := 0) (t := 35) rfl rfl n hn))
  obtain ⟨L0, rfl, hc0, hm0, hb0, m0, hr0⟩ : ∃ L : List Vr, len0 = L.length ∧ len0 ≤ cap0 ∧ cap0 ≤ maxLen ∧ L.length * 104 ≤ 140737488351232 ∧ ∃ m, ReadsR m W a0 L := by
    obtain ⟨fuel, hf⟩ := h0
    exact open_vars fuel a0 len0 cap0 _ (by simpa [Value.cells] using hf) hw0
  clear hA0 hval0
  refine (walk m0 a0 cap0 L0 hc0 hm0 hb0  W (tabV_of hL) hr0).mono fun e W' ⟨he, bel⟩ => ?_
  subst he
  exact ⟨_, rfl, _, _, _, [], _, [], hW', trodAll_mk1 (shut_bool Tryz.underlying4 _), (trodAll_cons_mk (Below.trod laidOut (by kernel_rfl) (of_decide_eq_true (by kernel_rfl)) k0 bel lt0) trodAll_mk0), rfl, bel.frame _, fun h => by cases h⟩

theorem over : Rows.valueMapsRow.holds Tryz.pinned (OpenSpec.ofChange Rows.valueMapsSpec) :=
  OpenClaim.holds_of_wide 7 Tryz.f7 rfl rfl rfl rfl rfl rfl rfl ⟨rfl, rfl, rfl, rfl, rfl⟩ rfl rfl rfl rfl rfl (by kernel_rfl) Tryz.func7 (by kernel_rfl)
    (of_decide_eq_true (by kernel_rfl)) (by unfold Func.isWrapper; first | (rw [if_pos (by decide +kernel)]; kernel_rfl) | (rw [if_neg (by decide +kernel)]; exact ⟨rfl, rfl⟩))
    (fun os started H enc _ => lifted os started H enc)

/-- THE STATEMENT. -/
theorem proved : Rows.ValueMapsCardSaid :=
  Claim7.holds_tied_plain_at .later [] [.data, .data, .data, .data, .pinned] true Rows.valueMapsCard.stood.harness false
    over (fun _ h => by cases h) (by kernel_rfl) (fun _ h => by cases h) valueMaps_row_tie rfl ⟨rfl, rfl⟩ (by kernel_rfl) rfl
    (fun f fn hf hfn => by
      obtain rfl : f = 7 := Option.some.inj ((show Tryz.prog.funcNamed "pipeline/pipelinelaw07.ValueMaps" = some 7 by kernel_rfl).symm.trans hf) |>.symm
      obtain rfl : fn = Tryz.f7 := (Option.some.inj (Tryz.func7.symm.trans hfn)).symm
      exact ⟨by kernel_rfl, fun j t ht => by
        rw [Tryz.params7] at ht
        have hm : t ∈ [35] := by simpa using Array.mem_of_getElem? ht
        have hall : ([35].all fun u => !Tryz.prog.wantsStandIn u) = true := by kernel_rfl
        exact (show Tryz.prog.wantsStandIn t = false by simpa using List.all_eq_true.1 hall t hm)⟩)
    (by kernel_rfl)
#print axioms proved
end Go.Proofs.YtabopneehhnhfaaGreatDoor.valueMaps
