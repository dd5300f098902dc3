/- The document's set and Charge (fairness). -/
import Derived.Test.YtmjikddceegloaaGreatDoorFrS
import Derived.Test.YtmjikddceegloaaGreatDoorFrL
namespace Go.Proofs.YtmjikddceegloaaGreatDoor
open Go.RowKit Go.Lib
set_option linter.unusedSimpArgs false

set_option maxRecDepth 100000 in
set_option maxHeartbeats 2000000 in
theorem refSet_any (v : Option Addr) (L : List Sha) (c k : Nat) (s : Sha) (hk : k < L.length) (hl : L.length ≤ 1000000) (w : World) (hr : ReadsH w v L) :
    Calls Tryz.prog 37 #[.slice v L.length c, .int .i64 (k : Int), shV s] w fun e w' => ∃ v', e = .returned v' ∧ RowH w' w.heap.size v' (L.set k s) ∧ Below w.heap.size w w' := by
  obtain ⟨i0, hi, hz0, hz1, hz2⟩ := info_parts infoH
  obtain ⟨sa, hsa⟩ : ∃ t : ByteArray, t = ⟨s.prj.toArray⟩ := ⟨_, rfl⟩
  have HFS := Lib.hid (flat_set L k s hk)
  unfold shV
  rw [← hsa] at HFS ⊢
  have hbx := (Below.refl w.heap.size w).alloc (Nat.le_refl _) (.cells #[.string sa, .int .i64 s.wgt, .int .i64 s.srv] 41)
  have HBX := Lib.hid hbx
  have T0 := Lib.hid (ThH.new w (.string sa) (.int .i64 s.wgt) (.int .i64 s.srv))
  obtain ⟨b, off, rfl, hbl, _⟩ := hr 0 (by omega)
  have HC := Lib.hid (readsH_cells (hr.below hbx))
  clear hbx hr hsa
  go_enter Tryz.func37, Tryz.ntmps37
  go_wp2_with (at_builtin; refine wpList_append_own _ rfl _ _ 22 rfl (w.heap.size + 1) 41 i0 _ 3 32 Tryz.underlying22 hi hz0 hz1 hz2 rfl (by decide) (.slice none 0 0) 0 [] rfl (World.ownsRow_nil _ _ _ _) ⟨b, off, none⟩ L.length c (L.flatMap shC) rfl ?qc1 ?qc2 ?qc3 ?qc4 ?qc5 ?qc6 ?_)
  case qc1 => exact flatH_len L
  case qc2 => exact HC.out
  case qc3 => exact shC_one L
  case qc4 => rw [Nat.zero_add]; unfold maxLen; omega
  case qc5 => rw [Nat.zero_add]; omega
  case qc6 => simp
  intro v' w1 hown hgrow hnil
  have hb : Below (w.heap.size + 1) (w.alloc (.cells #[.string sa, .int .i64 s.wgt, .int .i64 s.srv] 41)) w1 := (Below.refl _ _).grown hgrow (by simp) (by intro k hk; simp [Value.ownBlock] at hk)
  have T1 : ThH w1 w.heap.size (.string sa) (.int .i64 s.wgt) (.int .i64 s.srv) := T0.out.grown hgrow (by simp [Value.ownBlock])
  obtain ⟨t0, t1, t2⟩ := T1.facts
  have B1 := Lib.hid (HBX.out.trans (hb.mono (by omega)))
  replace hown : w1.ownsRow (w.heap.size + 1) 41 3 v' L.length (L.flatMap shC) := by simpa using hown
  rcases hown.2 with ⟨_, h0⟩ | ⟨g, cap, cur, rfl, hg, hh, h3, h4, h5, h6⟩
  · omega
  · have f0 := hown.frozenAt (k * 3)
    have f1 := hown.frozenAt (k * 3 + 1)
    have f2 := hown.frozenAt (k * 3 + 2)
    have hcl := flatH_len L
    obtain ⟨y0, d0⟩ : ∃ y, w1.cell? ⟨g, k * 3, none⟩ = some y := ⟨_, (hown.cellAt _ (by omega)).trans (List.getElem?_eq_getElem (by omega))⟩
    obtain ⟨y1, d1⟩ : ∃ y, w1.cell? ⟨g, k * 3 + 1, none⟩ = some y := ⟨_, (hown.cellAt _ (by omega)).trans (List.getElem?_eq_getElem (by omega))⟩
    obtain ⟨y2, d2⟩ : ∃ y, w1.cell? ⟨g, k * 3 + 2, none⟩ = some y := ⟨_, (hown.cellAt _ (by omega)).trans (List.getElem?_eq_getElem (by omega))⟩
    have ho := ((((hown.stored (k * 3) (.string sa)).1.stored (k * 3 + 1) (.int .i64 s.wgt)).1).stored (k * 3 + 2) (.int .i64 s.srv)).1
    rw [HFS.out] at ho
    have HO := Lib.hid ho
    have hkI : (k : Int) < (L.length : Int) := by omega
    have hk0 : (0 : Int) ≤ (k : Int) := by omega
    have hgw : w.heap.size ≤ g := by omega
    clear hb T1 hown ho hh h6
    go_wp2_with fail
    go_ret
    refine ⟨_, rfl, ?_, ?_⟩
    · unfold RowH
      rw [List.length_set]
      exact World.ownsRow.mono HO.out (by omega)
    · exact ((B1.out.setCell hgw _).setCell hgw _).setCell hgw _

set_option maxHeartbeats 4000000 in
set_option maxRecDepth 100000 in
theorem refCharge_any (v : Option Addr) (cap : Nat) (L : List Sha) (p : ByteArray) (c : Int) (hlen : L.length ≤ 1000000) (hx : ∀ x ∈ L, x.prj.length ≤ 1000000) (w : World) (hr : ReadsH w v L) :
    Calls Tryz.prog 15 #[.slice v L.length cap, .string p, .int .i64 c] w (ChPost L p.data.toList c w) := by
  have HR := Lib.hid hr
  have VA := Lib.hid (fun b hb => refValid_any v cap L b hb hlen hx w hr)
  have FI := Lib.hid (fun w' (hb : Below w.heap.size w w') => refFind_any v cap L p hlen w' (hr.below hb))
  obtain ⟨pl, hpl⟩ : ∃ pl, pl = p.data.toList := ⟨_, rfl⟩
  rw [← hpl]
  rw [← hpl] at FI
  clear hx hr hpl
  by_cases hV : ValidS L
  · have VA1 := Lib.hid (VA.out true ⟨fun _ => hV, fun _ => rfl⟩)
    have HV := Lib.hid hV
    clear VA hV
    by_cases hc1 : 1 ≤ c
    · by_cases hc2 : c ≤ 1000000
      · have HC := Lib.hid (show 1 ≤ c ∧ c ≤ 1000000 from ⟨hc1, hc2⟩)
        have hcs : IntKind.i64.wrap (1125899906842624 - c) = 1125899906842624 - c := IntWalk.i64_in _ (by omega)
        go_enter Tryz.func15, Tryz.ntmps15
        go_wp2_with fail
        go_fit VA1.out
        rintro e w1 ⟨rfl, hb⟩
        have B1 := Lib.hid hb
        clear hb
        go_wp2_with fail
        go_fit (FI.out _ B1.out)
        rintro e w2 ⟨i, rfl, rfl, hf⟩
        rcases hf with ⟨rfl, hn⟩ | ⟨k, rfl, hk, hkp, _⟩
        · have HN := Lib.hid (show ChR L pl c L 8 from .none HV.out HC.out hn)
          clear hn
          go_wp2_with fail
          go_ret2
          exact ⟨v, cap, L, 8, rfl, HN.out, HR.out.below B1.out, B1.out⟩
        · obtain ⟨bk, off, rfl, hbl, c0, c1, c2⟩ := HR.out k hk
          replace c0 := (B1.out.cell (p := ⟨bk, _, none⟩) hbl).trans c0
          replace c1 := (B1.out.cell (p := ⟨bk, _, none⟩) hbl).trans c1
          replace c2 := (B1.out.cell (p := ⟨bk, _, none⟩) hbl).trans c2
          obtain ⟨r1, r2, r3⟩ := HV.out.right hk
          have hkI : (k : Int) < (L.length : Int) := by omega
          have hk0 : (0 : Int) ≤ (k : Int) := by omega
          have hkn : ¬ (k : Int) < 0 := by omega
          have WI := Lib.hid (fun w' (hb : Below w.heap.size w w') => refSet_any (some ⟨bk, off, none⟩) L cap k (L[k].plus c) hk hlen w' (HR.out.below hb))
          have HM := Lib.hid (fun (h : 1125899906842624 < L[k].srv + c) => ChR.much k hk HV.out HC.out hkp h)
          have HD := Lib.hid (fun (h : L[k].srv + c ≤ 1125899906842624) => ChR.done k hk HV.out HC.out hkp h)
          have HLS := Lib.hid (show (L.set k (L[k].plus c)).length = L.length from List.length_set)
          unfold shV Sha.plus at WI
          dsimp only at WI
          unfold Sha.plus at HD HLS
          generalize L[k].srv = sv at *
          generalize L[k].wgt = sg at *
          obtain ⟨sx, hsx⟩ : ∃ s : ByteArray, s = ⟨L[k].prj.toArray⟩ := ⟨_, rfl⟩
          rw [← hsx] at c0 WI
          generalize L.set k _ = R at *
          clear hkp r1 hsx
          by_cases hm : 1125899906842624 < sv + c
          · have HN := Lib.hid (HM.out hm)
            have hm' : 1125899906842624 - c < sv := by omega
            have B3 := Lib.hid (B1.out.alloc B1.out.size (.cells #[.string sx, .int .i64 sg, .int .i64 sv] 41))
            go_wp2_with fail
            go_ret2
            exact ⟨some ⟨bk, off, none⟩, cap, L, 15, rfl, HN.out, HR.out.below B3.out, B3.out⟩
          · have HN := Lib.hid (HD.out (by omega))
            have hm' : ¬ 1125899906842624 - c < sv := by omega
            have B3 := Lib.hid (B1.out.alloc B1.out.size (.cells #[.string sx, .int .i64 sg, .int .i64 (sv + c)] 41))
            go_wp2_with fail
            go_fit (WI.out _ B3.out)
            rintro e w4 ⟨v', rfl, hrow, hb⟩
            have B4 := Lib.hid (B3.out.trans (hb.mono B3.out.size))
            obtain ⟨a', c', rfl, _, hrd⟩ := hrow.reads
            have RD := Lib.hid hrd
            clear hrow hb hrd
            go_wp2_with fail
            go_ret2
            exact ⟨a', c', R, 0, rfl, HN.out, RD.out, B4.out⟩
      · have HN := Lib.hid (show ChR L pl c L 2 from .cost HV.out (by omega))
        go_enter Tryz.func15, Tryz.ntmps15
        go_wp2_with fail
        go_fit VA1.out
        rintro e w1 ⟨rfl, hb⟩
        have B1 := Lib.hid hb
        clear hb
        go_wp2_with fail
        go_ret2
        exact ⟨v, cap, L, 2, rfl, HN.out, HR.out.below B1.out, B1.out⟩
    · have HN := Lib.hid (show ChR L pl c L 2 from .cost HV.out (by omega))
      go_enter Tryz.func15, Tryz.ntmps15
      go_wp2_with fail
      go_fit VA1.out
      rintro e w1 ⟨rfl, hb⟩
      have B1 := Lib.hid hb
      clear hb
      go_wp2_with fail
      go_ret2
      exact ⟨v, cap, L, 2, rfl, HN.out, HR.out.below B1.out, B1.out⟩
  · have VA0 := Lib.hid (VA.out false ⟨fun h => (by cases h), fun h => absurd h hV⟩)
    have HN := Lib.hid (show ChR L pl c L 1 from .bad hV)
    clear VA hV
    go_enter Tryz.func15, Tryz.ntmps15
    go_wp2_with fail
    go_fit VA0.out
    rintro e w1 ⟨rfl, hb⟩
    have B1 := Lib.hid hb
    clear hb
    go_wp2_with fail
    go_ret2
    exact ⟨v, cap, L, 1, rfl, HN.out, HR.out.below B1.out, B1.out⟩
end Go.Proofs.YtmjikddceegloaaGreatDoor
