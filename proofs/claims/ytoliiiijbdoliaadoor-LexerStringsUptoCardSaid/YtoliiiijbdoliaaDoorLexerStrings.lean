/- A literal is one token with its string. -/
import Derived.Test.YtoliiiijbdoliaaDoorTie
import Derived.Test.YtoliiiijbdoliaaDoorCards
import Derived.Test.YtoliiiijbdoliaaDoorLexTab
import Derived.Test.YtoliiiijbdoliaaDoorLexV
import Derived.Test.YtoliiiijbdoliaaDoorLexY
import Derived.ProofKit
import Derived.OpenShut
import Derived.LaidMore
import Derived.Stop.Joined
import Derived.SevenTiedAt
import Derived.SizedLaws
import Derived.Deep.DeepHandedRow
namespace Go.Proofs.YtoliiiijbdoliaaDoor.lexerStrings
open Go.ChangeShapes Go.WideShapes Go.ChangeAt Go.RowKit
open Go.ChangeMaps (open_string shut_string)
set_option linter.unusedVariables false

theorem own : ownKnob Tryd.prog.godebug = none := by kernel_rfl
theorem laidOut : laidOutB Tryd.prog = true := by kernel_rfl

set_option maxHeartbeats 4000000 in
set_option maxRecDepth 100000 in
theorem walk (s : ByteArray) (hsb : s.size ≤ 1048576) (ha : s.size ≤ 140737488355327) (w : World) (hT : TabL w) :
    Calls Tryd.prog 5 #[.string s] w fun e w' => e = .returned (.bool true) ∧ Below w.heap.size w w' := by
  have HT := Lib.hid hT
  clear hT ha
  have hls : s.data.toList.length = s.size := lenB s
  have hq4 := quo_len4 s.data.toList
  have Q := Lib.hid (fun w => Quote_any s (by omega) w)
  obtain ⟨q, hq⟩ : ∃ q : ByteArray, q = ⟨(quoL s.data.toList).toArray⟩ := ⟨_, rfl⟩
  have hqd : q.data.toList = quoL s.data.toList := by rw [hq]
  have hqs : q.size = (quoL s.data.toList).length := by rw [← lenB, hqd]
  rw [← hq] at Q
  have hsI : (s.size : Int) ≤ 1048576 := by omega
  have hqI : (q.size : Int) ≤ 4194306 := by omega
  by_cases h1 : (4096 : Int) < (s.size : Int)
  · clear hq hqd hqs hq4 hls
    go_enter Tryd.func5, Tryd.ntmps5
    go_wp2_with fail
    go_fit (Q.out _)
    rintro e w1 ⟨rfl, hb⟩
    have B1 := Lib.hid hb
    clear hb
    go_wp2_with fail
    go_fit (awake_any _ (HT.out.below B1.out))
    rintro e w2 ⟨rfl, hb⟩
    have B2 := Lib.hid (B1.out.trans (hb.mono B1.out.size))
    clear hb
    go_wp2_with fail
    go_ret
    exact ⟨rfl, B2.out⟩
  · have hl := lexF_quo s.data.toList (by omega)
    rw [← hqd] at hl
    by_cases h2 : (65536 : Int) < (q.size : Int)
    · clear hq hqd hqs hq4 hls hl
      go_enter Tryd.func5, Tryd.ntmps5
      go_wp2_with fail
      go_fit (Q.out _)
      rintro e w1 ⟨rfl, hb⟩
      have B1 := Lib.hid hb
      clear hb
      go_wp2_with fail
      go_fit (awake_any _ (HT.out.below B1.out))
      rintro e w2 ⟨rfl, hb⟩
      have B2 := Lib.hid (B1.out.trans (hb.mono B1.out.size))
      clear hb
      go_wp2_with fail
      go_ret
      exact ⟨rfl, B2.out⟩
    · have TK := Lib.hid (fun w hT => tokens_ok q (by omega) hl w hT)
      have hch : ∀ j (h : j < q.size), 32 ≤ q[j].toNat ∧ q[j].toNat ≤ 126 := fun j h => by
        have h3 : q.data.toList[j]'(by rw [lenB]; exact h) ∈ quoL s.data.toList := by rw [← hqd]; exact List.getElem_mem _
        exact quo_print s.data.toList _ h3
      have HCH := Lib.hid hch
      have hss : (s.toList == s.toList) = true := beq_self_eq_true _
      have hss2 : (!(s.toList == s.toList)) = false := by rw [hss]; rfl
      have hsb2 : (⟨s.data.toList.toArray⟩ : ByteArray) = s := rfl
      clear hq hqd hqs hq4 hls hl hch
      go_enter Tryd.func5, Tryd.ntmps5
      go_wp2_with fail
      go_fit (Q.out _)
      rintro e w1 ⟨rfl, hb⟩
      have B1 := Lib.hid hb
      clear hb
      go_wp2_with fail
      go_fit (TK.out _ (HT.out.below B1.out))
      rintro e w2 ⟨⟨a2, n2, rfl, hr⟩, hb⟩
      have B2 := Lib.hid (B1.out.trans (hb.mono B1.out.size))
      obtain ⟨b, o, rfl, hlt, c0, c1, c2⟩ := hr 0 Nat.zero_lt_one
      have d0 : w2.cell? ⟨b, o, none⟩ = some (.int .i64 3) := c0
      have d1 : w2.cell? ⟨b, o + 1, none⟩ = some (.string s) := c1
      have d2 : w2.cell? ⟨b, o + 2, none⟩ = some (.int .i64 0) := c2
      clear hb hr c0 c1 c2
      go_wp2_with fail
      go_loop [7] (fun s7 => ∃ j : Nat, j ≤ q.size ∧ s7 = .int .i64 (j : Int)) (fun s7 => q.size - (RowKit.intOf s7).toNat)
      case atStart => exact ⟨0, Nat.zero_le _, rfl⟩
      case round =>
        obtain ⟨j, hj, rfl⟩ := hrel
        by_cases hlt2 : j < q.size
        · have h5 := HCH.out j hlt2
          have hjI : (0 : Int) ≤ (j : Int) ∧ (j : Int) < (q.size : Int) := by omega
          have g1 : ¬ ((q[j].toNat : Int) < 32) := by omega
          have g2 : ¬ ((126 : Int) < (q[j].toNat : Int)) := by omega
          clear h5
          go_wp2_with fail
          exact ⟨⟨j + 1, by omega, by go_num⟩, by simp [RowKit.intOf]; omega⟩
        · obtain rfl : j = q.size := by omega
          go_wp2_with fail
          go_fit (awake_any _ (HT.out.below B2.out))
          rintro e w3 ⟨rfl, hb⟩
          have B3 := Lib.hid (B2.out.trans (hb.mono B2.out.size))
          clear hb
          go_wp2_with fail
          go_ret
          exact ⟨rfl, B3.out⟩

theorem witness_shapedRow {H : Type} {enc : TypeId × Value → H} {C : Checked} {os : Os} {f : FuncId} {fn : Func} {s : OpenSpec} {conds : List PathCond} {apart : Bool} {laid : List (String × DataW Unit)} (modest : Bool) (w0 : World) (args : Array Value) (hos : w0.os = os)
    (hsh : (w0.forCall (fun _ _ => 0) ⟨#[], args, []⟩).Shaped C.prog) (hok : Input.okWideB C.prog (w0.forCall (fun _ _ => 0) ⟨#[], args, []⟩) f ⟨#[], args, []⟩ = true)
    (hrow : s.preRow enc C.prog fn conds apart laid (w0.forCall (fun _ _ => 0) ⟨#[], args, []⟩).memory args) :
    ∃ (w : World) (tape : Tape) (i : Input), w.os = os ∧ (w.forCall tape i).Shaped C.prog ∧ i.vars = [] ∧ Input.okWide C.prog (w.forCall tape i) .any w.heap.size f i ∧
      s.preRow enc C.prog fn conds apart laid (w.forCall tape i).memory i.args ∧ ({ modest := modest } : Assume).holds C.prog (lone (Frame.enter C.prog f i.args .normal) [] (w.forCall tape i)) :=
  ⟨w0, fun _ _ => 0, ⟨#[], args, []⟩, hos, hsh, (Input.okWide_of_okWideB (base := 0) hok).1, (Input.okWide_of_okWideB hok).2, hrow, by
    simp only [Assume.holds]
    exact ⟨by simp, by simp, fun _ => Modest.zero, by simp, by simp⟩⟩
theorem reads (os : Os) {H : Type} (enc : TypeId × Value → H) : ∃ places, DataW.whole enc Tryd.prog ((World.laidAll Tryd.prog os laid9).forCall (fun _ _ => 0) ⟨#[], #[.string ⟨#[]⟩], []⟩).memory Tryd.f5.params.toList Rows.lexerStringsSpec.vars false #[.string ⟨#[]⟩].toList 8 = some ([.lit (.string [])], [], places) := by
  have hw : (DataW.whole enc Tryd.prog ((World.laidAll Tryd.prog os laid9).forCall (fun _ _ => 0) ⟨#[], #[.string ⟨#[]⟩], []⟩).memory Tryd.f5.params.toList Rows.lexerStringsSpec.vars false #[.string ⟨#[]⟩].toList 8).map (fun x => (x.1, x.2.1)) = some ([.lit (.string [])], []) := by kernel_rfl
  obtain ⟨⟨x1, x2, x3⟩, hx, hx1⟩ := Option.map_eq_some_iff.1 hw
  simp only [Prod.mk.injEq] at hx1
  obtain ⟨rfl, rfl⟩ := hx1
  exact ⟨x3, hx⟩

set_option maxRecDepth 100000 in
theorem lifted (os : Os) (started : os.Started) (H : Type) (enc : TypeId × Value → H) (F : Stop.Interp) :
    ReturnsInHanded {} Tryd.checked os 5 .any ((Rows.OpenSpec.upto Rows.lexerStringsSpec).preRow enc Tryd.prog Tryd.f5 Rows.lexerStringsUptoRow.domain false Rows.lexerStringsUptoRow.laid) (((Rows.OpenSpec.upto Rows.lexerStringsSpec).at F).post enc Tryd.prog Tryd.f5 false true false false) := by
  obtain ⟨places, hx⟩ := reads os enc
  refine returnsInHanded_of_row (C := Tryd.checked) (s := Rows.OpenSpec.upto Rows.lexerStringsSpec) own started (by kernel_rfl) Tryd.func5
    (witness_shapedRow (enc := enc) (C := Tryd.checked) false (World.laidAll Tryd.prog os laid9) #[.string ⟨#[]⟩] (World.laidAll_os _ _ _) (World.shaped_of_ZipB (by kernel_rfl) (by kernel_rfl)) (by kernel_rfl)
      (OpenSpec.preRow_of_cond 8 hx (by kernel_rfl) (fun k hk => by cases hk; kernel_rfl) (by kernel_rfl) (lay9_met os _))) ?_
  intro W base args ds gs before hval0 hW hcnd hk hsz hL hsh _
  have hval : ∀ (j : Nat) t v, Tryd.f5.params[j]? = some t → args[j]? = some v → Value.okWide Tryd.prog W .any base t v := hval0
  have hW' := hW
  obtain ⟨p, q, hA0, hV, rfl, hfz, hnd⟩ := hW
  have hA : DataW.TrodAll enc Tryd.prog W 0 (fun _ => true) true Tryd.f5.params.toList args.toList ds p := hA0
  rw [Tryd.params5] at hA hval hsz
  obtain ⟨v0, vs0, d0, ds0, p0, q0, hargs, rfl, rfl, h0, r0⟩ := trodAll_cons hA
  obtain ⟨rfl, rfl, rfl⟩ := trodAll_nil r0
  obtain rfl : args = #[v0] := by cases args; simp_all
  obtain ⟨rfl, rfl⟩ := trodVars_none hV
  have hbulk := of_decide_eq_true (hk _ rfl)
  simp only [List.append_nil, Rows.uptoBulkAll] at hbulk
  obtain ⟨a0, rfl, rfl, rfl, w0⟩ := open_string Tryd.underlying9 (hval 0 9 v0 rfl rfl) h0
  have z0 : a0.size ≤ 140737488355327 := by
    have h := sized_string hsz (j := 0) (t := 9) rfl rfl
    rw [Array.length_toList] at h
    exact Nat.le_trans h (by decide)
  clear hA0 hval0
  refine (walk a0 (by have h := hbulk; simp only [Rows.uptoBulk, Array.length_toList] at h; have h2 : a0.data.size = a0.size := rfl; omega) z0 W (tab9_of hL hsh) ).mono fun e W' ⟨he, bel⟩ => ?_
  subst he
  exact ⟨_, rfl, _, _, _, [], _, [], hW', trodAll_mk1 (shut_bool Tryd.underlying4 _), (trodAll_cons_mk (shut_string Tryd.underlying9 w0) trodAll_mk0), rfl, bel.frame _, fun h => by cases h⟩

theorem over : Rows.LexerStringsUptoSaid :=
  OpenClaim.holds_of_cond 5 Tryd.f5 rfl rfl rfl rfl rfl rfl rfl ⟨rfl, rfl, rfl, rfl, rfl⟩ rfl rfl rfl rfl rfl (by kernel_rfl) Tryd.func5 (by kernel_rfl)
    (of_decide_eq_true (by kernel_rfl)) (by unfold Func.isWrapper; first | (rw [if_pos (by decide +kernel)]; kernel_rfl) | (rw [if_neg (by decide +kernel)]; exact ⟨rfl, rfl⟩))
    (fun os started H enc _ F => by rw [OpenClaim.pre_eq_preRow]; exact lifted os started H enc F)

/-- THE STATEMENT. -/
theorem proved : Rows.LexerStringsUptoCardSaid :=
  Claim7.holds_tied_plain_at .later [] [.data, .data, .data, .data, .sentinel, .sentinel, .data, .pinned] true Rows.lexerStringsUptoCard.stood.harness true
    over (fun _ h => by cases h) (by kernel_rfl) (fun _ h => by cases h) lexerStringsUpto_row_tie rfl ⟨rfl, rfl⟩ (by kernel_rfl) rfl
    (fun f fn hf hfn => by
      obtain rfl : f = 5 := Option.some.inj ((show Tryd.prog.funcNamed "pipeline/pipelinelaw09.LexerStrings" = some 5 by kernel_rfl).symm.trans hf) |>.symm
      obtain rfl : fn = Tryd.f5 := (Option.some.inj (Tryd.func5.symm.trans hfn)).symm
      exact ⟨by kernel_rfl, fun j t ht => by
        rw [Tryd.params5] at ht
        have hm : t ∈ [9] := by simpa using Array.mem_of_getElem? ht
        have hall : ([9].all fun u => !Tryd.prog.wantsStandIn u) = true := by kernel_rfl
        exact (show Tryd.prog.wantsStandIn t = false by simpa using List.all_eq_true.1 hall t hm)⟩)
    (by kernel_rfl)
#print axioms proved
end Go.Proofs.YtoliiiijbdoliaaDoor.lexerStrings
