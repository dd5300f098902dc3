/- OctetsRecords, of what is of bulk at most 1048576: octets.Valid and octets.Record answer as the document says, for every list of fields. -/
import Derived.Test.YthggcagbanndgaaOpenF
import Derived.Test.YthggcagbanndgaaOpenB
import Derived.Test.YthggcagbanndgaaLives2
import Derived.Test.YthggcagbanndgaaOctJ
import Derived.JoinedCond
import Derived.Deep.RegionHeld3
import Derived.Deep.RegionWith
import Derived.Deep.DeepCutAuto
import Derived.Deep.CutBlock
import Derived.ProofKit
import Derived.OpenShut
namespace Go.Proofs.Ythggcagbanndgaa.octetsRecords
open Go.ChangeShapes Go.WideShapes Go.ChangeAt Go.RowKit
set_option linter.unusedVariables false

theorem own : ownKnob Try.prog.godebug = none := by kernel_rfl
theorem laidOut : laidOutB Try.prog = true := by kernel_rfl

theorem holdF {W w1 w2 : World} {b o : Nat} {x y z t : Value} (h0 : b < W.heap.size) (h : w1.cell? ⟨b, o, none⟩ = some x ∧ w1.cell? ⟨b, o + 1, none⟩ = some y ∧ w1.cell? ⟨b, o + 2, none⟩ = some z ∧ w1.cell? ⟨b, o + 3, none⟩ = some t ∧ W.heap.size ≤ w1.heap.size ∧ Below W.heap.size W w1) (hb : Below w1.heap.size w1 w2) :
    w2.cell? ⟨b, o, none⟩ = some x ∧ w2.cell? ⟨b, o + 1, none⟩ = some y ∧ w2.cell? ⟨b, o + 2, none⟩ = some z ∧ w2.cell? ⟨b, o + 3, none⟩ = some t ∧ W.heap.size ≤ w2.heap.size ∧ Below W.heap.size W w2 := by
  obtain ⟨h1, h2, h5, h6, h4, h7⟩ := h
  have hz := hb.size
  have h3 : b < w1.heap.size := by omega
  exact ⟨(hb.cell (p := ⟨b, o, none⟩) h3).trans h1, (hb.cell (p := ⟨b, o + 1, none⟩) h3).trans h2, (hb.cell (p := ⟨b, o + 2, none⟩) h3).trans h5, (hb.cell (p := ⟨b, o + 3, none⟩) h3).trans h6, by omega, h7.trans (hb.mono h4)⟩
theorem holdF_drew {W w1 : World} {b o : Nat} {x y z t : Value} (h : w1.cell? ⟨b, o, none⟩ = some x ∧ w1.cell? ⟨b, o + 1, none⟩ = some y ∧ w1.cell? ⟨b, o + 2, none⟩ = some z ∧ w1.cell? ⟨b, o + 3, none⟩ = some t ∧ W.heap.size ≤ w1.heap.size ∧ Below W.heap.size W w1) :
    w1.drew.cell? ⟨b, o, none⟩ = some x ∧ w1.drew.cell? ⟨b, o + 1, none⟩ = some y ∧ w1.drew.cell? ⟨b, o + 2, none⟩ = some z ∧ w1.drew.cell? ⟨b, o + 3, none⟩ = some t ∧ W.heap.size ≤ w1.drew.heap.size ∧ Below W.heap.size W w1.drew :=
  ⟨h.1, h.2.1, h.2.2.1, h.2.2.2.1, h.2.2.2.2.1, h.2.2.2.2.2.drew⟩
theorem holdF_below {W w1 : World} {b o : Nat} {x y z t : Value} (h : w1.cell? ⟨b, o, none⟩ = some x ∧ w1.cell? ⟨b, o + 1, none⟩ = some y ∧ w1.cell? ⟨b, o + 2, none⟩ = some z ∧ w1.cell? ⟨b, o + 3, none⟩ = some t ∧ W.heap.size ≤ w1.heap.size ∧ Below W.heap.size W w1) : Below W.heap.size W w1 := h.2.2.2.2.2

set_option maxHeartbeats 4000000 in
set_option maxRecDepth 100000 in
theorem walk (m : Nat) (v : Option Addr) (cap : Nat) (l : List Fd) (hlen : l.length ≤ 9223372036854775807) (hlim : (encR m l).length + 10 ≤ 140737488355328) (w : World) (hr : ReadsF m w v l) :
    Calls Try.prog 13 #[.slice v l.length cap] w fun e w' => e = .returned (.bool true) ∧ Below w.heap.size w w' := by
  have HR := Lib.hid hr
  have HLIM := Lib.hid hlim
  clear hr hlim
  by_cases hk : 200 < l.length
  · go_enter Try.func13, Try.ntmps13
    go_wp2_with fail
    go_fit (lives2_any _)
    rintro e w3 ⟨rfl, hb3⟩
    have B3 := Lib.hid hb3
    clear hb3
    go_wp2_with fail
    go_ret
    exact ⟨rfl, B3.out⟩
  · go_enter Try.func13, Try.ntmps13
    go_wp2_with fail
    go_loopw [3] (fun s3 wr => ∃ j : Nat, j ≤ l.length ∧ s3 = .int .i64 j ∧ Below w.heap.size w wr) (fun s3 _ => l.length - (RowKit.intOf s3).toNat)
    case atStart => exact ⟨0, by omega, rfl, Below.refl _ _⟩
    case round =>
      obtain ⟨j, hj, rfl, hbel⟩ := hrel
      have HB := Lib.hid hbel
      have hz := hbel.size
      clear hbel
      by_cases hlt : j < l.length
      · cases m with
        | zero => exact absurd hlt (by have h : l = [] := HR.out; rw [h]; simp)
        | succ m =>
          obtain ⟨b, off, k', i', s', av, c', l', h0, rfl, h2, h3, h4, h5, h6, h7, h8, h9, h10, h11, h12⟩ := HR.out j hlt
          have hs0 : wr.cell? ⟨b, off + j * 4, none⟩ = some (.int .i64 k') ∧ wr.cell? ⟨b, off + j * 4 + 1, none⟩ = some (.int .i64 i') ∧ wr.cell? ⟨b, off + j * 4 + 2, none⟩ = some (.string s') ∧ wr.cell? ⟨b, off + j * 4 + 3, none⟩ = some (.slice av l'.length c') ∧ w.heap.size ≤ wr.heap.size ∧ Below w.heap.size w wr :=
            ⟨(HB.out.cell (p := ⟨b, _, none⟩) h2).trans h3, (HB.out.cell (p := ⟨b, _, none⟩) h2).trans h4, (HB.out.cell (p := ⟨b, _, none⟩) h2).trans h5, (HB.out.cell (p := ⟨b, _, none⟩) h2).trans h6, hz, HB.out⟩
          have H12 := Lib.hid h12
          have T1 := fun (wx : World) (hb : Below w.heap.size w wx) => Valid_any m k' i' s' av c' l' h11 wx (ReadsF.below hb m av l' H12.out)
          have T2 := fun (wx : World) (hb : Below w.heap.size w wx) => refValid_any m k' i' s' av c' l' h11 wx (ReadsF.below hb m av l' H12.out)
          obtain ⟨r, hr⟩ : ∃ r : Int, r = (vErr 128 (.mk k' i' s' l') : Nat) := ⟨_, rfl⟩
          unfold ValidPost at T1 T2
          rw [← hr] at T1 T2
          have T1 := Lib.hid T1
          have T2 := Lib.hid T2
          have a1 : (r != r) = false := by simp
          have j0 : (0 : Int) ≤ (j : Int) := by omega
          have j1 : (j : Int) < (l.length : Int) := by omega
          clear h0 h3 h4 h5 h6 h7 h8 h9 h10 h12 hr
          go_upto_region 6 with fail
          go_region_held3 (fun w' => w'.cell? ⟨b, off + j * 4, none⟩ = some (.int .i64 k') ∧ w'.cell? ⟨b, off + j * 4 + 1, none⟩ = some (.int .i64 i') ∧ w'.cell? ⟨b, off + j * 4 + 2, none⟩ = some (.string s') ∧ w'.cell? ⟨b, off + j * 4 + 3, none⟩ = some (.slice av l'.length c') ∧ w.heap.size ≤ w'.heap.size ∧ Below w.heap.size w w') (first | exact holdF_drew hs0 | exact holdF h2 (by assumption) (by assumption)) (first
            | (go_at_call 42; go_fit (T1.out _ (holdF_below (b := b) (o := off + j * 4) (x := .int .i64 k') (y := .int .i64 i') (z := .string s') (t := .slice av l'.length c') (by assumption))); rintro e w2 ⟨rfl, hb2⟩)
            | (go_at_call 43; go_fit (T2.out _ (holdF_below (b := b) (o := off + j * 4) (x := .int .i64 k') (y := .int .i64 i') (z := .string s') (t := .slice av l'.length c') (by assumption))); rintro e w3 ⟨rfl, hb3⟩))
          have HS := Lib.hid (holdF_below (b := b) (o := off + j * 4) (x := .int .i64 k') (y := .int .i64 i') (z := .string s') (t := .slice av l'.length c') (by assumption))
          go_wp2_with fail
          exact ⟨⟨j + 1, by omega, by go_num, HS.out⟩, by simp [RowKit.intOf]; omega⟩
      · have P1 := fun (wx : World) (hb : Below w.heap.size w wx) => Lib.hid (Record_any m v cap l wx hlen (ReadsF.below hb m v l HR.out) HLIM.out)
        have P2 := fun (wx : World) (hb : Below w.heap.size w wx) => Lib.hid (refRecord_any m v cap l wx hlen (ReadsF.below hb m v l HR.out) HLIM.out)
        obtain ⟨d, hd⟩ : ∃ d, d = encR m l := ⟨_, rfl⟩
        rw [← hd] at P1 P2
        have P1 := Lib.hid P1
        have P2 := Lib.hid P2
        clear hd HLIM
        go_wp2_with fail
        go_fit ((P1.out _ HB.out).out)
        rintro e w1 ⟨v1, rfl, ho1, hb1, _⟩
        have HB1 := Lib.hid (HB.out.trans (hb1.mono hz))
        have hz1 : w.heap.size ≤ w1.heap.size := HB1.out.size
        obtain ⟨a1, c1, rfl, _, _, hr1⟩ := own_reads (l := d) ho1 (by omega)
        have R1 := Lib.hid hr1
        clear ho1 hb1 hr1
        go_wp2_with fail
        go_fit ((P2.out _ HB1.out).out)
        rintro e w2 ⟨v2, rfl, ho2, hb2, _⟩
        have HB2 := Lib.hid (HB1.out.trans (hb2.mono hz1))
        have hz2 : w.heap.size ≤ w2.heap.size := HB2.out.size
        obtain ⟨a2, c2, rfl, _, _, hr2⟩ := own_reads (l := d) ho2 (by omega)
        have R2 := Lib.hid hr2
        have R1' := Lib.hid (R1.out.below hb2)
        clear ho2 hb2 hr2
        go_wp2_with fail
        go_fit (Bytes_same _ _ c1 c2 d _ R1'.out R2.out)
        rintro e w4 ⟨rfl, rfl⟩
        go_wp2_with fail
        go_fit (lives2_any _)
        rintro e w3 ⟨rfl, hb3⟩
        have B3 := Lib.hid (HB2.out.trans (hb3.mono hz2))
        clear hb3
        go_wp2_with fail
        go_ret
        exact ⟨rfl, B3.out⟩

set_option maxRecDepth 100000 in
theorem lifted (os : Os) (started : os.Started) (H : Type) (enc : TypeId × Value → H) (F : Stop.Interp) :
    ReturnsInHanded {} Try.checked os 13 .any ((Rows.OpenSpec.upto Rows.octetsRecordsSpec).pre6 enc Try.prog Try.f13 Rows.octetsRecordsUptoRow.domain false) (((Rows.OpenSpec.upto Rows.octetsRecordsSpec).at F).post enc Try.prog Try.f13 false true false false) := by
  refine returnsInHanded_of_cond (C := Try.checked) (s := Rows.OpenSpec.upto Rows.octetsRecordsSpec) (k := Rows.uptoSmall) rfl own started (by kernel_rfl) Try.func13
    (OpenSpec.witness (enc := enc) (C := Try.checked) (s := Rows.OpenSpec.upto Rows.octetsRecordsSpec) (k := Rows.uptoSmall) rfl false ⟨#[], #[.slice none 0 0], []⟩ 8 (by kernel_rfl) (by kernel_rfl) (by kernel_rfl)
      (x := ([.nil], [], [])) (by kernel_rfl) rfl (by kernel_rfl)) ?_
  intro W base args ds gs before hval0 hW hcnd hk _
  have hval : ∀ (j : Nat) t v, Try.f13.params[j]? = some t → args[j]? = some v → Value.okWide Try.prog W .any base t v := hval0
  have hW' := hW
  obtain ⟨p, q, hA0, hV, rfl, hfz, hnd⟩ := hW
  have hA : DataW.TrodAll enc Try.prog W 0 (fun _ => true) true Try.f13.params.toList args.toList ds p := hA0
  rw [Try.params13] at hA hval
  obtain ⟨v0, vs0, d0, ds0, p0, q0, hargs, rfl, rfl, h0, r0⟩ := trodAll_cons hA
  obtain ⟨rfl, rfl, rfl⟩ := trodAll_nil r0
  obtain rfl : args = #[v0] := by cases args; simp_all
  obtain ⟨rfl, rfl⟩ := trodVars_none hV
  have hbulk := of_decide_eq_true hk
  simp only [List.append_nil, Rows.uptoBulkAll] at hbulk
  obtain ⟨a0, len0, cap0, rfl⟩ := okWide_slice Try.underlying65 (hval 0 65 v0 rfl rfl)
  have k0 := h0
  have lt0 : ∀ x ∈ p0, x.block < W.heap.size := by obtain ⟨m, hm⟩ := k0; exact DataW.trod_lt m _ _ _ hm
  obtain ⟨m0, L0, rfl, hlen0, hr0, hb0⟩ : ∃ (m : Nat) (L : List Fd), len0 = L.length ∧ L.length ≤ 9223372036854775807 ∧ ReadsF m W a0 L ∧ (L.flatMap (encF m)).length ≤ 22 * Rows.uptoBulk d0 := by
    obtain ⟨fuel, hf⟩ := h0
    obtain ⟨L, e1, e2, e3, e4⟩ := open_fields fuel a0 len0 cap0 _ (by simpa [Value.cells] using hf)
    exact ⟨fuel, L, e1, by unfold maxLen at e2; omega, e3 fuel (Nat.le_refl _), e4 fuel⟩
  clear hA0 hval0
  refine (walk m0 a0 cap0 L0 hlen0 (encR_len m0 L0 (by omega) hlen0)  W hr0).mono fun e W' ⟨he, bel⟩ => ?_
  subst he
  exact ⟨_, rfl, _, _, _, [], _, [], hW', trodAll_mk1 (shut_bool Try.underlying4 _), (trodAll_cons_mk (Below.trod laidOut (by kernel_rfl) (of_decide_eq_true (by kernel_rfl)) k0 bel lt0) trodAll_mk0), rfl, bel.frame _, fun h => by cases h⟩

/-- THE STATEMENT. -/
theorem proved : Rows.OctetsRecordsUptoSaid :=
  OpenClaim.holds_of_cond 13 Try.f13 rfl rfl rfl rfl rfl rfl rfl ⟨rfl, rfl, rfl, rfl, rfl⟩ rfl rfl rfl rfl rfl (by kernel_rfl) Try.func13 (by kernel_rfl)
    (of_decide_eq_true (by kernel_rfl)) (by unfold Func.isWrapper; first | (rw [if_pos (by decide +kernel)]; kernel_rfl) | (rw [if_neg (by decide +kernel)]; exact ⟨rfl, rfl⟩))
    (fun os started H enc _ F => lifted os started H enc F)
#print axioms proved
end Go.Proofs.Ythggcagbanndgaa.octetsRecords
