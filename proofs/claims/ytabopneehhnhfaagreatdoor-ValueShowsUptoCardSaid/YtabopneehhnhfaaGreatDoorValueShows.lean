/- P7.3: ValueShows returns true for every value of bulk at most 1048576 (the second form): Show returns the literal of a valid value, and nothing otherwise. Condition: the bulk alone, and what the listed variables hold. -/
import Derived.Test.YtabopneehhnhfaaGreatDoorTie
import Derived.Test.YtabopneehhnhfaaGreatDoorCards
import Derived.Test.YtabopneehhnhfaaGreatDoorVluTab
import Derived.Test.YtabopneehhnhfaaGreatDoorOpR
import Derived.Test.YtabopneehhnhfaaGreatDoorVluWk
import Derived.Test.YtabopneehhnhfaaGreatDoorVluRd
import Derived.Test.YtabopneehhnhfaaGreatDoorValM
import Derived.Test.YtabopneehhnhfaaGreatDoorOpW
import Derived.ProofKit
import Derived.OpenShut
import Derived.LaidMore
import Derived.Stop.Joined
import Derived.SevenTiedAt
import Derived.SizedLaws
import Derived.Deep.DeepHandedRow
namespace Go.Proofs.YtabopneehhnhfaaGreatDoor.valueShows
open Go.ChangeShapes Go.WideShapes Go.ChangeAt Go.RowKit
set_option linter.unusedVariables false

theorem own : ownKnob Tryz.prog.godebug = none := by kernel_rfl
theorem laidOut : laidOutB Tryz.prog = true := by kernel_rfl

set_option maxHeartbeats 8000000 in
set_option maxRecDepth 100000 in
theorem walk (m : Nat) (V : Value) (x : Vl) (hlim' : ∀ m, errV 16 x = 0 → (litV m x).length + 64 ≤ 140737488355328) (w : World) (hT : TabP w) (hV : IsV m w V x) :
    Calls Tryz.prog 5 #[V] w fun e w' => e = .returned (.bool true) ∧ Below w.heap.size w w' := by
  have hlim := hlim' m
  have HT := Lib.hid hT
  have SH := Lib.hid (fun w' (h : Below w.heap.size w w') => show_any m V x w' (tabP_below hT h) (hV.below h) hlim)
  have SR := Lib.hid (fun w' (h : Below w.heap.size w w') => rShow_any m V x w' (hV.below h) (fun e => by have := hlim e; omega))
  have VX := Lib.hid (fun w' (h : Below w.heap.size w w') => validV_any m V x w' (hV.below h))
  have HB := Lib.hid (show (errV 16 x = 0 → showB m x ≠ ⟨#[]⟩) ∧ (errV 16 x ≠ 0 → showB m x = ⟨#[]⟩) by
    unfold showB
    constructor
    · intro h e
      rw [if_pos h] at e
      have h1 := litV_pos m x
      have h2 := congrArg (fun b : ByteArray => b.data.toList.length) e
      simp at h2
      rw [h2] at h1
      simp at h1
    · intro h
      rw [if_neg h])
  generalize showB m x = b at SH SR HB
  obtain ⟨er, her⟩ : ∃ er, er = errV 16 x := ⟨_, rfl⟩
  rw [← her] at VX HB
  obtain ⟨k, t, i, s, l, ks, av, c, kv, kc, rfl, rfl, _⟩ := hV
  have q1 : (b.toList == b.toList) = true := beq_self_eq_true _
  have C0 := Lib.hid (CellsAt.new w 25 #[.int .i64 k, .bool t, .int .i64 i, .string s, .slice av l.length c, .slice kv ks.length kc])
  have B0 := Lib.hid ((Below.refl w.heap.size w).alloc (Nat.le_refl _) (.cells #[.int .i64 k, .bool t, .int .i64 i, .string s, .slice av l.length c, .slice kv ks.length kc] 25))
  clear hT her hlim hlim'
  by_cases h0 : er = 0
  · subst h0
    have hb := HB.out.1 rfl
    have q2 : b.toList.isEmpty = false := by
      rw [Lib.toList_data]
      cases e : b.data.toList with
      | nil => exact absurd (str_inj.1 e) hb
      | cons c r => rfl
    clear hb HB
    go_enter Tryz.func5, Tryz.ntmps5
    go_wp2_with fail
    go_fit (SH.out _ B0.out)
    rintro e w1 ⟨rfl, hb⟩
    have C1 := Lib.hid (C0.out.below hb)
    have B1 := Lib.hid (B0.out.trans (hb.mono B0.out.size))
    clear hb C0
    have y0 : w1.cell? ⟨w.heap.size, 0, none⟩ = some (.int .i64 k) := C1.out.cell rfl
    have y1 : w1.cell? ⟨w.heap.size, 1, none⟩ = some (.bool t) := C1.out.cell rfl
    have y2 : w1.cell? ⟨w.heap.size, 2, none⟩ = some (.int .i64 i) := C1.out.cell rfl
    have y3 : w1.cell? ⟨w.heap.size, 3, none⟩ = some (.string s) := C1.out.cell rfl
    have y4 : w1.cell? ⟨w.heap.size, 4, none⟩ = some (.slice av l.length c) := C1.out.cell rfl
    have y5 : w1.cell? ⟨w.heap.size, 5, none⟩ = some (.slice kv ks.length kc) := C1.out.cell rfl
    go_wp2_with fail
    go_fit (SR.out _ B1.out)
    rintro e w2 ⟨rfl, hb⟩
    have C2 := Lib.hid (C1.out.below hb)
    have B2 := Lib.hid (B1.out.trans (hb.mono B1.out.size))
    clear hb C1 y0 y1 y2 y3 y4 y5
    have y0 : w2.cell? ⟨w.heap.size, 0, none⟩ = some (.int .i64 k) := C2.out.cell rfl
    have y1 : w2.cell? ⟨w.heap.size, 1, none⟩ = some (.bool t) := C2.out.cell rfl
    have y2 : w2.cell? ⟨w.heap.size, 2, none⟩ = some (.int .i64 i) := C2.out.cell rfl
    have y3 : w2.cell? ⟨w.heap.size, 3, none⟩ = some (.string s) := C2.out.cell rfl
    have y4 : w2.cell? ⟨w.heap.size, 4, none⟩ = some (.slice av l.length c) := C2.out.cell rfl
    have y5 : w2.cell? ⟨w.heap.size, 5, none⟩ = some (.slice kv ks.length kc) := C2.out.cell rfl
    go_wp2_with fail
    go_fit (VX.out _ B2.out)
    rintro e w3 ⟨rfl, hb⟩
    have B3 := Lib.hid (B2.out.trans (hb.mono B2.out.size))
    clear hb C2 y0 y1 y2 y3 y4 y5
    go_wp2_with fail
    go_fit (awake_any _ (tabP_below HT.out B3.out))
    rintro e w4 ⟨rfl, hb⟩
    have B4 := Lib.hid (B3.out.trans (hb.mono B3.out.size))
    clear hb
    go_wp2_with fail
    go_ret
    exact ⟨rfl, B4.out⟩
  · have hb := HB.out.2 h0
    subst hb
    have g1 : ((er : Int) != 0) = true := by rw [bne_iff_ne]; omega
    have q2 : (⟨#[]⟩ : ByteArray).toList.isEmpty = true := by rw [Lib.toList_data]; rfl
    clear HB h0
    go_enter Tryz.func5, Tryz.ntmps5
    go_wp2_with fail
    go_fit (SH.out _ B0.out)
    rintro e w1 ⟨rfl, hb⟩
    have C1 := Lib.hid (C0.out.below hb)
    have B1 := Lib.hid (B0.out.trans (hb.mono B0.out.size))
    clear hb C0
    have y0 : w1.cell? ⟨w.heap.size, 0, none⟩ = some (.int .i64 k) := C1.out.cell rfl
    have y1 : w1.cell? ⟨w.heap.size, 1, none⟩ = some (.bool t) := C1.out.cell rfl
    have y2 : w1.cell? ⟨w.heap.size, 2, none⟩ = some (.int .i64 i) := C1.out.cell rfl
    have y3 : w1.cell? ⟨w.heap.size, 3, none⟩ = some (.string s) := C1.out.cell rfl
    have y4 : w1.cell? ⟨w.heap.size, 4, none⟩ = some (.slice av l.length c) := C1.out.cell rfl
    have y5 : w1.cell? ⟨w.heap.size, 5, none⟩ = some (.slice kv ks.length kc) := C1.out.cell rfl
    go_wp2_with fail
    go_fit (SR.out _ B1.out)
    rintro e w2 ⟨rfl, hb⟩
    have C2 := Lib.hid (C1.out.below hb)
    have B2 := Lib.hid (B1.out.trans (hb.mono B1.out.size))
    clear hb C1 y0 y1 y2 y3 y4 y5
    have y0 : w2.cell? ⟨w.heap.size, 0, none⟩ = some (.int .i64 k) := C2.out.cell rfl
    have y1 : w2.cell? ⟨w.heap.size, 1, none⟩ = some (.bool t) := C2.out.cell rfl
    have y2 : w2.cell? ⟨w.heap.size, 2, none⟩ = some (.int .i64 i) := C2.out.cell rfl
    have y3 : w2.cell? ⟨w.heap.size, 3, none⟩ = some (.string s) := C2.out.cell rfl
    have y4 : w2.cell? ⟨w.heap.size, 4, none⟩ = some (.slice av l.length c) := C2.out.cell rfl
    have y5 : w2.cell? ⟨w.heap.size, 5, none⟩ = some (.slice kv ks.length kc) := C2.out.cell rfl
    go_wp2_with fail
    go_fit (VX.out _ B2.out)
    rintro e w3 ⟨rfl, hb⟩
    have B3 := Lib.hid (B2.out.trans (hb.mono B2.out.size))
    clear hb C2 y0 y1 y2 y3 y4 y5
    go_wp2_with fail
    go_fit (awake_any _ (tabP_below HT.out B3.out))
    rintro e w4 ⟨rfl, hb⟩
    have B4 := Lib.hid (B3.out.trans (hb.mono B3.out.size))
    clear hb
    go_wp2_with fail
    go_ret
    exact ⟨rfl, B4.out⟩

theorem witness_shapedRow {H : Type} {enc : TypeId × Value → H} {C : Checked} {os : Os} {f : FuncId} {fn : Func} {s : OpenSpec} {conds : List PathCond} {apart : Bool} {laid : List (String × DataW Unit)} (modest : Bool) (w0 : World) (args : Array Value) (hos : w0.os = os)
    (hsh : (w0.forCall (fun _ _ => 0) ⟨#[], args, []⟩).Shaped C.prog) (hok : Input.okWideB C.prog (w0.forCall (fun _ _ => 0) ⟨#[], args, []⟩) f ⟨#[], args, []⟩ = true)
    (hrow : s.preRow enc C.prog fn conds apart laid (w0.forCall (fun _ _ => 0) ⟨#[], args, []⟩).memory args) :
    ∃ (w : World) (tape : Tape) (i : Input), w.os = os ∧ (w.forCall tape i).Shaped C.prog ∧ i.vars = [] ∧ Input.okWide C.prog (w.forCall tape i) .any w.heap.size f i ∧
      s.preRow enc C.prog fn conds apart laid (w.forCall tape i).memory i.args ∧ ({ modest := modest } : Assume).holds C.prog (lone (Frame.enter C.prog f i.args .normal) [] (w.forCall tape i)) :=
  ⟨w0, fun _ _ => 0, ⟨#[], args, []⟩, hos, hsh, (Input.okWide_of_okWideB (base := 0) hok).1, (Input.okWide_of_okWideB hok).2, hrow, by
    simp only [Assume.holds]
    exact ⟨by simp, by simp, fun _ => Modest.zero, by simp, by simp⟩⟩
theorem reads (os : Os) {H : Type} (enc : TypeId × Value → H) : ∃ places, DataW.whole enc Tryz.prog ((World.laidAll Tryz.prog os laidV).forCall (fun _ _ => 0) ⟨#[], #[.agg #[.int .i64 0, .bool false, .int .i64 0, .string ⟨#[]⟩, .slice none 0 0, .slice none 0 0]], []⟩).memory Tryz.f5.params.toList Rows.valueShowsSpec.vars false #[.agg #[.int .i64 0, .bool false, .int .i64 0, .string ⟨#[]⟩, .slice none 0 0, .slice none 0 0]].toList 8 = some ([.agg [.lit (.int .i64 0), .lit (.bool false), .lit (.int .i64 0), .lit (.string []), .nil, .nil]], [], places) := by
  have hw : (DataW.whole enc Tryz.prog ((World.laidAll Tryz.prog os laidV).forCall (fun _ _ => 0) ⟨#[], #[.agg #[.int .i64 0, .bool false, .int .i64 0, .string ⟨#[]⟩, .slice none 0 0, .slice none 0 0]], []⟩).memory Tryz.f5.params.toList Rows.valueShowsSpec.vars false #[.agg #[.int .i64 0, .bool false, .int .i64 0, .string ⟨#[]⟩, .slice none 0 0, .slice none 0 0]].toList 8).map (fun x => (x.1, x.2.1)) = some ([.agg [.lit (.int .i64 0), .lit (.bool false), .lit (.int .i64 0), .lit (.string []), .nil, .nil]], []) := by kernel_rfl
  obtain ⟨⟨x1, x2, x3⟩, hx, hx1⟩ := Option.map_eq_some_iff.1 hw
  simp only [Prod.mk.injEq] at hx1
  obtain ⟨rfl, rfl⟩ := hx1
  exact ⟨x3, hx⟩

set_option maxRecDepth 100000 in
theorem lifted (os : Os) (started : os.Started) (H : Type) (enc : TypeId × Value → H) (F : Stop.Interp) :
    ReturnsInHanded {} Tryz.checked os 5 .any ((Rows.OpenSpec.upto Rows.valueShowsSpec).preRow enc Tryz.prog Tryz.f5 Rows.valueShowsUptoRow.domain false Rows.valueShowsUptoRow.laid) (((Rows.OpenSpec.upto Rows.valueShowsSpec).at F).post enc Tryz.prog Tryz.f5 false true false false) := by
  obtain ⟨places, hx⟩ := reads os enc
  refine returnsInHanded_of_row (C := Tryz.checked) (s := Rows.OpenSpec.upto Rows.valueShowsSpec) own started (by kernel_rfl) Tryz.func5
    (witness_shapedRow (enc := enc) (C := Tryz.checked) false (World.laidAll Tryz.prog os laidV) #[.agg #[.int .i64 0, .bool false, .int .i64 0, .string ⟨#[]⟩, .slice none 0 0, .slice none 0 0]] (World.laidAll_os _ _ _) (World.shaped_of_ZipB (by kernel_rfl) (by kernel_rfl)) (by kernel_rfl)
      (OpenSpec.preRow_of_cond 8 hx (by kernel_rfl) (fun k hk => by cases hk; kernel_rfl) (by kernel_rfl) (layV_met os _))) ?_
  intro W base args ds gs before hval0 hW hcnd hk hsz hL _ _
  have hval : ∀ (j : Nat) t v, Tryz.f5.params[j]? = some t → args[j]? = some v → Value.okWide Tryz.prog W .any base t v := hval0
  have hW' := hW
  obtain ⟨p, q, hA0, hV, rfl, hfz, hnd⟩ := hW
  have hA : DataW.TrodAll enc Tryz.prog W 0 (fun _ => true) true Tryz.f5.params.toList args.toList ds p := hA0
  rw [Tryz.params5] at hA hval hsz
  obtain ⟨v0, vs0, d0, ds0, p0, q0, hargs, rfl, rfl, h0, r0⟩ := trodAll_cons hA
  obtain ⟨rfl, rfl, rfl⟩ := trodAll_nil r0
  obtain rfl : args = #[v0] := by cases args; simp_all
  obtain ⟨rfl, rfl⟩ := trodVars_none hV
  have hbulk := of_decide_eq_true (hk _ rfl)
  simp only [List.append_nil, Rows.uptoBulkAll] at hbulk
  have k0 := h0
  have lt0 : ∀ x ∈ p0, x.block < W.heap.size := by obtain ⟨m, hm⟩ := k0; exact DataW.trod_lt m _ _ _ hm
  have hw0 : (d0.weights Tryz.prog 25).all (· ≤ reachBytes) = true := List.all_eq_true.2 (fun n hn => List.all_eq_true.1 hsz n (DataW.weights_mem_each (j := 0) (t := 25) rfl rfl n hn))
  obtain ⟨m0, y0, hr0, hb0⟩ := open_valueB (hval 0 25 v0 rfl rfl) h0 hw0
  clear hA0 hval0
  refine (walk m0 v0 y0 (fun m _ => by have := hb0 m; omega)  W (tabV_of hL) hr0).mono fun e W' ⟨he, bel⟩ => ?_
  subst he
  exact ⟨_, rfl, _, _, _, [], _, [], hW', trodAll_mk1 (shut_bool Tryz.underlying4 _), (trodAll_cons_mk (Below.trod laidOut (by kernel_rfl) (of_decide_eq_true (by kernel_rfl)) k0 bel lt0) trodAll_mk0), rfl, bel.frame _, fun h => by cases h⟩

theorem over : Rows.ValueShowsUptoSaid :=
  OpenClaim.holds_of_cond 5 Tryz.f5 rfl rfl rfl rfl rfl rfl rfl ⟨rfl, rfl, rfl, rfl, rfl⟩ rfl rfl rfl rfl rfl (by kernel_rfl) Tryz.func5 (by kernel_rfl)
    (of_decide_eq_true (by kernel_rfl)) (by unfold Func.isWrapper; first | (rw [if_pos (by decide +kernel)]; kernel_rfl) | (rw [if_neg (by decide +kernel)]; exact ⟨rfl, rfl⟩))
    (fun os started H enc _ F => by rw [OpenClaim.pre_eq_preRow]; exact lifted os started H enc F)

/-- THE STATEMENT. -/
theorem proved : Rows.ValueShowsUptoCardSaid :=
  Claim7.holds_tied_plain_at .later [] [.data, .data, .data, .data, .pinned] true Rows.valueShowsUptoCard.stood.harness false
    over (fun _ h => by cases h) (by kernel_rfl) (fun _ h => by cases h) valueShowsUpto_row_tie rfl ⟨rfl, rfl⟩ (by kernel_rfl) rfl
    (fun f fn hf hfn => by
      obtain rfl : f = 5 := Option.some.inj ((show Tryz.prog.funcNamed "pipeline/pipelinelaw07.ValueShows" = some 5 by kernel_rfl).symm.trans hf) |>.symm
      obtain rfl : fn = Tryz.f5 := (Option.some.inj (Tryz.func5.symm.trans hfn)).symm
      exact ⟨by kernel_rfl, fun j t ht => by
        rw [Tryz.params5] at ht
        have hm : t ∈ [25] := by simpa using Array.mem_of_getElem? ht
        have hall : ([25].all fun u => !Tryz.prog.wantsStandIn u) = true := by kernel_rfl
        exact (show Tryz.prog.wantsStandIn t = false by simpa using List.all_eq_true.1 hall t hm)⟩)
    (by kernel_rfl)
#print axioms proved
end Go.Proofs.YtabopneehhnhfaaGreatDoor.valueShows
