/- The document's scaled and least (fairness). The document's insert (fairness). The document's Add (fairness). What a slice of shares that comes in says of its length and capacity (fairness). -/
import Derived.Test.YtmjikddceegloaaGreatDoorFuA
import Derived.Test.YtmjikddceegloaaGreatDoorFrZ
import Derived.Test.YtmjikddceegloaaGreatDoorFrT
import Derived.Lib.QuietBelow
import Derived.Test.YtmjikddceegloaaGreatDoorFuA
import Derived.Test.YtmjikddceegloaaGreatDoorOpH
namespace Go.Proofs.YtmjikddceegloaaGreatDoor
open Go.RowKit Go.Lib Go.Sort
set_option linter.unusedSimpArgs false
set_option linter.unusedVariables false

set_option maxHeartbeats 4000000 in
set_option maxRecDepth 100000 in
theorem scaled_any (s : Sha) (m : Int) (hg : 1 ≤ s.wgt ∧ s.wgt ≤ 1000) (hm : 1 ≤ m ∧ m ≤ 1000) (hs : 0 ≤ s.srv ∧ s.srv ≤ 1125899906842624) (w : World) :
    Calls Tryz.prog 35 #[shV s, .int .i64 m] w fun e w' => e = .returned (.int .i64 (upR s m)) ∧ Below w.heap.size w w' := by
  have hb : 0 ≤ s.srv * m := Int.mul_nonneg hs.1 (by omega)
  have hb2 : s.srv * m ≤ 1125899906842624 * 1000 := Int.mul_le_mul hs.2 hm.2 (by omega) (by omega)
  have hq := upR_bounds s m hg.1 hm hs
  obtain ⟨pl, g, v⟩ := s
  unfold shV upR at *
  dsimp only at *
  have HB := Lib.hid ((Below.refl w.heap.size w).alloc (Nat.le_refl _) (.cells #[.string ⟨pl.toArray⟩, .int .i64 g, .int .i64 v] 41))
  have T := ThH.new w (.string ⟨pl.toArray⟩) (.int .i64 g) (.int .i64 v)
  obtain ⟨t0, t1, t2⟩ := T.facts
  have e1 : wrap64 (v * m) = v * m := by unfold wrap64; omega
  have e2 : wrap64 (v * m + g) = v * m + g := by unfold wrap64; omega
  have e3 : wrap64 (v * m + g - 1) = v * m + g - 1 := by unfold wrap64; omega
  have e4 : Int.tdiv (v * m + g - 1) g = (v * m + g - 1) / g := Int.tdiv_eq_ediv_of_nonneg (by omega)
  have e5 : wrap64 ((v * m + g - 1) / g) = (v * m + g - 1) / g := by unfold wrap64; omega
  have hg0 : g ≠ 0 := by omega
  have HQ := Lib.hid e4
  generalize (⟨pl.toArray⟩ : ByteArray) = sx at *
  clear T
  go_enter Tryz.func35, Tryz.ntmps35
  go_wp2_with fail
  go_ret
  exact ⟨rfl, HB.out⟩
theorem lessR_iff (a b : Sha) : lessR a b = decide (cmpR a b < 0) := by
  unfold lessR cmpR
  congr 1
  rw [eq_iff_iff]
  split
  · rename_i h
    simp [h]
  · rename_i h
    split <;> simp [h]
def RngS (s : Sha) : Prop := (1 ≤ s.wgt ∧ s.wgt ≤ 1000) ∧ (0 ≤ s.srv ∧ s.srv ≤ 1125899906842624)
theorem RngS.num {s : Sha} (h : RngS s) : NumS s := by
  unfold RngS at h
  unfold NumS I64
  omega
structure Min2 (w0 w1 : World) (q b off : Nat) (sy : ByteArray) (gy vy : Int) (sm : ByteArray) (gm vm : Int) : Prop where
  th : ThH w1 q (.string sm) (.int .i64 gm) (.int .i64 vm)
  lt : b < w1.heap.size
  c0 : w1.cell? ⟨b, off, none⟩ = some (.string sy)
  c1 : w1.cell? ⟨b, off + 1, none⟩ = some (.int .i64 gy)
  c2 : w1.cell? ⟨b, off + 2, none⟩ = some (.int .i64 vy)
  bel : Below w0.heap.size w0 w1
abbrev Min2P (w0 w1 : World) (q b off : Nat) (sy : ByteArray) (gy vy : Int) (sm : ByteArray) (gm vm : Int) : Prop :=
  (w1.cell? ⟨b, off, none⟩ = some (.string sy) ∧ w1.cell? ⟨b, off + 1, none⟩ = some (.int .i64 gy) ∧ w1.cell? ⟨b, off + 2, none⟩ = some (.int .i64 vy)) ∧
  (w1.cell? ⟨q, 0, none⟩ = some (.string sm) ∧ w1.cell? ⟨q, 1, none⟩ = some (.int .i64 gm) ∧ w1.cell? ⟨q, 2, none⟩ = some (.int .i64 vm)) ∧
  (w1.frozen? ⟨q, 0, none⟩ = false ∧ w1.frozen? ⟨q, 1, none⟩ = false ∧ w1.frozen? ⟨q, 2, none⟩ = false) ∧ Min2 w0 w1 q b off sy gy vy sm gm vm
theorem Min2.s {w0 w1 : World} {q b off : Nat} {sy : ByteArray} {gy vy : Int} {sm : ByteArray} {gm vm : Int} (h : Min2 w0 w1 q b off sy gy vy sm gm vm) : Min2P w0 w1 q b off sy gy vy sm gm vm :=
  ⟨⟨h.c0, h.c1, h.c2⟩, h.th.facts, h.th.froz, h⟩
theorem Min2.tb {w0 w1 w2 : World} {q b off : Nat} {sy : ByteArray} {gy vy : Int} {sm : ByteArray} {gm vm : Int} (h : Min2P w0 w1 q b off sy gy vy sm gm vm) (hb : Below w1.heap.size w1 w2) : Min2P w0 w2 q b off sy gy vy sm gm vm := by
  have h := h.2.2.2
  have hl := h.lt
  exact Min2.s ⟨h.th.below hb, Nat.lt_of_lt_of_le h.lt hb.size, (hb.cell (p := ⟨b, _, none⟩) hl).trans h.c0, (hb.cell (p := ⟨b, _, none⟩) hl).trans h.c1, (hb.cell (p := ⟨b, _, none⟩) hl).trans h.c2, h.bel.trans (hb.mono h.bel.size)⟩
theorem Min2.z {w0 w1 : World} {q b off : Nat} {sy : ByteArray} {gy vy : Int} {sm : ByteArray} {gm vm : Int} (h : Min2P w0 w1 q b off sy gy vy sm gm vm) : Min2 w0 w1 q b off sy gy vy sm gm vm := h.2.2.2
set_option maxRecDepth 100000 in
set_option maxHeartbeats 4000000 in
theorem least_any (v : Option Addr) (cap : Nat) (L : List Sha) (mw : Int) (hmw : 1 ≤ mw ∧ mw ≤ 1000) (hl : L.length ≤ 1000000) (hN : ∀ s ∈ L, RngS s) (w : World) (hr : ReadsH w v L) :
    Calls Tryz.prog 34 #[.slice v L.length cap, .int .i64 mw] w fun e w' => e = .returned (.int .i64 (leastL L mw)) ∧ Below w.heap.size w w' := by
  by_cases h0 : L.length = 0
  · obtain rfl := List.eq_nil_of_length_eq_zero h0
    clear hr hN
    go_enter Tryz.func34, Tryz.ntmps34
    go_wp2_with fail
    go_ret
    exact ⟨rfl, Below.refl _ _⟩
  replace h0 : 0 < L.length := by omega
  rw [leastL_eq L mw h0]
  obtain ⟨b, off, rfl, hbl, c0, c1, c2⟩ := hr 0 h0
  have HN := Lib.hid hN
  have HR := Lib.hid hr
  obtain ⟨M, hM⟩ : ∃ M, M = minF L[0] (L.drop 1) := ⟨_, rfl⟩
  have N0 := Lib.hid (hN L[0] (List.getElem_mem ..))
  rw [← hM]
  have SC := fun (h : RngS M) w => scaled_any M mw h.1 hmw h.2 w
  unfold shV at SC
  obtain ⟨R, hR⟩ : ∃ R, R = upR M mw := ⟨_, rfl⟩
  rw [← hR] at SC ⊢
  have SC := Lib.hid SC
  obtain ⟨m0, hm0⟩ : ∃ m, m = L[0] := ⟨_, rfl⟩
  rw [← hm0] at c0 c1 c2 hM N0
  have HM := Lib.hid hM
  clear hM hm0 hr hN hR
  rw [Nat.zero_mul, Nat.add_zero] at c0 c1 c2
  obtain ⟨sx, hsx⟩ : ∃ t : ByteArray, t = ⟨m0.prj.toArray⟩ := ⟨_, rfl⟩
  rw [← hsx] at c0
  have HSX := Lib.hid hsx
  clear hsx
  have HB := Lib.hid ((Below.refl w.heap.size w).alloc (Nat.le_refl _) (.cells #[.string sx, .int .i64 m0.wgt, .int .i64 m0.srv] 41))
  have T1 := ThH.new w (.string sx) (.int .i64 m0.wgt) (.int .i64 m0.srv)
  have h0I : ((L.length : Int) == 0) = false := by rw [beq_eq_false_iff_ne]; omega
  go_enter Tryz.func34, Tryz.ntmps34
  go_wp2_with fail
  obtain ⟨W1, hW1⟩ : ∃ W1, W1 = w.alloc (.cells #[.string sx, .int .i64 m0.wgt, .int .i64 m0.srv] 41) := ⟨_, rfl⟩
  rw [← hW1] at HB T1 ⊢
  rw [HSX.out] at T1
  have T1 := Lib.hid T1
  clear hW1
  obtain ⟨p, hp⟩ : ∃ p, p = w.heap.size := ⟨_, rfl⟩
  rw [← hp] at T1 ⊢
  have hpw : w.heap.size ≤ p := by omega
  clear hp c0 c1 c2
  go_loopw [6] (fun s6 wr => ∃ (i : Nat) (m : Sha), s6 = .int .i64 (i : Int) ∧ 1 ≤ i ∧ i ≤ L.length ∧ Hid (RngS m ∧ minF m (L.drop i) = M) ∧ Hid (ThH wr p (.string ⟨m.prj.toArray⟩) (.int .i64 m.wgt) (.int .i64 m.srv)) ∧ Hid (Below w.heap.size w wr)) (fun s6 _ => L.length - (RowKit.intOf s6).toNat)
  case atStart => exact ⟨1, m0, rfl, by omega, by omega, Lib.hid ⟨N0.out, HM.out.symm⟩, T1, HB⟩
  case round =>
    obtain ⟨i, m, rfl, h1i, hil, HI, T, B⟩ := hrel
    by_cases hlt : i < L.length
    · have hltI : (i : Int) < (L.length : Int) := by omega
      have hi0 : (0 : Int) ≤ (i : Int) := by omega
      obtain ⟨b', off', e, hbl', d0, d1, d2⟩ := (HR.out.below B.out) i hlt
      obtain ⟨y, hy⟩ : ∃ y, y = L[i] := ⟨_, rfl⟩
      rw [← hy] at d0 d1 d2
      have hNy : RngS y := by rw [hy]; exact HN.out _ (List.getElem_mem ..)
      have HS := Lib.hid (show minF (if cmpR y m < 0 then y else m) (L.drop (i + 1)) = M by rw [hy, ← minF_step, HI.out.2])
      have HNy := Lib.hid hNy
      clear hy hNy
      have RT := fun w => refLessS_any y m HNy.out.num HI.out.1.num w
      unfold shV at RT
      rw [lessR_iff] at RT
      obtain ⟨sy, hsy⟩ : ∃ t : ByteArray, t = ⟨y.prj.toArray⟩ := ⟨_, rfl⟩
      obtain ⟨sm, hsm⟩ : ∃ t : ByteArray, t = ⟨m.prj.toArray⟩ := ⟨_, rfl⟩
      rw [← hsy] at d0 RT
      rw [← hsm] at T RT
      cases e
      have hs0 := Min2.s (Min2.mk T.out hbl' d0 d1 d2 (Below.refl wr.heap.size _))
      have HSY := Lib.hid hsy
      have HSM := Lib.hid hsm
      clear hsy hsm d0 d1 d2
      have hw1 : IntKind.i64.wrap ((i : Int) + 1) = (i : Int) + 1 := by rw [IntKind.wrap_i64]; omega
      by_cases hc : cmpR y m < 0
      · rw [if_pos hc] at HS
        rw [decide_eq_true hc] at RT
        have RT := Lib.hid RT
        go_upto_region 7 with fail
        have hs1 := Min2.tb hs0 (BelowD.refl wr).drew.1
        go_region_held3 (fun w' => Min2P wr w' p b (off + i * 3) sy y.wgt y.srv sm m.wgt m.srv) (first | exact hs1 | assumption | exact Min2.tb (by assumption) (by assumption)) (first | (go_at_call 22; go_fit (RT.out _); rintro e w5 ⟨rfl, hb5⟩) | fail)
        all_goals
          go_wp2_with fail
          refine ⟨⟨i + 1, y, by go_num, by omega, by omega, Lib.hid ⟨HNy.out, HS.out⟩, ?_, ?_⟩, by simp [RowKit.intOf]; omega⟩
          · rw [← HSY.out]
            exact Lib.hid ((Min2.z (by assumption)).th.storeA _ _ _)
          · exact Lib.hid ((((B.out.trans ((Min2.z (by assumption)).bel.mono B.out.size)).setCell hpw _).setCell hpw _).setCell hpw _)
      · rw [if_neg hc] at HS
        rw [decide_eq_false hc] at RT
        have RT := Lib.hid RT
        go_upto_region 7 with fail
        have hs1 := Min2.tb hs0 (BelowD.refl wr).drew.1
        go_region_held3 (fun w' => Min2P wr w' p b (off + i * 3) sy y.wgt y.srv sm m.wgt m.srv) (first | exact hs1 | assumption | exact Min2.tb (by assumption) (by assumption)) (first | (go_at_call 22; go_fit (RT.out _); rintro e w5 ⟨rfl, hb5⟩) | fail)
        all_goals
          go_wp2_with fail
          refine ⟨⟨i + 1, m, by go_num, by omega, by omega, Lib.hid ⟨HI.out.1, HS.out⟩, ?_, ?_⟩, by simp [RowKit.intOf]; omega⟩
          · rw [← HSM.out]
            exact Lib.hid (Min2.z (by assumption)).th
          · exact Lib.hid (B.out.trans ((Min2.z (by assumption)).bel.mono B.out.size))
    · obtain rfl : i = L.length := by omega
      have hEM : m = M := by have := HI.out.2; rwa [List.drop_of_length_le (Nat.le_refl _)] at this
      subst hEM
      have hltI : ¬ (L.length : Int) < (L.length : Int) := by omega
      obtain ⟨t0, t1, t2⟩ := T.out.facts
      have SC := Lib.hid (SC.out HI.out.1)
      obtain ⟨sm, hsm⟩ : ∃ t : ByteArray, t = ⟨m.prj.toArray⟩ := ⟨_, rfl⟩
      rw [← hsm] at t0 SC
      clear hsm
      go_wp2_with fail
      go_fit (SC.out _)
      rintro e w9 ⟨rfl, hb9⟩
      have B9 := Lib.hid (B.out.trans (hb9.mono B.out.size))
      clear hb9
      go_wp2_with fail
      go_ret
      exact ⟨rfl, B9.out⟩
end Go.Proofs.YtmjikddceegloaaGreatDoor
namespace Go.Proofs.YtmjikddceegloaaGreatDoor
open Go.RowKit Go.Lib Go.Sort
set_option linter.unusedSimpArgs false
set_option linter.unusedVariables false

attribute [local irreducible] wpQuiet
theorem take_cells {w : World} {b off : Nat} {L : List Sha} (h : ReadsH w (some ⟨b, off, none⟩) L) (k : Nat) : ∀ j u, ((L.take k).flatMap shC)[j]? = some u → w.cell? ((⟨b, off, none⟩ : Addr).add j) = some u := by
  intro j u hj
  rw [← flat_take, List.getElem?_take] at hj
  split at hj
  · exact readsH_cells h j u hj
  · cases hj
theorem drop_cells {w : World} {b off : Nat} {L : List Sha} (h : ReadsH w (some ⟨b, off, none⟩) L) (k : Nat) : ∀ j u, ((L.drop k).flatMap shC)[j]? = some u → w.cell? ((⟨b, off + k * 3, none⟩ : Addr).add j) = some u := by
  intro j u hj
  rw [← flat_drop, List.getElem?_drop] at hj
  have := readsH_cells h _ u hj
  rwa [addr_at, ← Nat.add_assoc, ← addr_at] at this
set_option maxHeartbeats 8000000 in
set_option maxRecDepth 100000 in
theorem insertCons_any (b off cap : Nat) (L : List Sha) (hL : 0 < L.length) (hcap : L.length ≤ cap) (hV : ValidS L) (s : Sha) (hs : s.prj.length ≤ 1000000) (hl : L.length ≤ 1000000) (w : World) (hr : ReadsH w (some ⟨b, off, none⟩) L) :
    Calls Tryz.prog 36 #[.slice (some ⟨b, off, none⟩) L.length cap, shV s] w fun e w' => ∃ v' k, e = .returned v' ∧ PosAt L s.prj k ∧ RowH w' w.heap.size v' (L.take k ++ s :: L.drop k) ∧ Below w.heap.size w w' := by
  obtain ⟨i0, hi, hz0, hz1, hz2⟩ := info_parts infoH
  have HR := Lib.hid hr
  have HV := Lib.hid hV
  have hmx : Tryz.prog.follows .mixedOrders = true := by kernel_rfl
  have hbl : b < w.heap.size := by
    obtain ⟨b', off', e, h, _⟩ := hr 0 hL
    cases e
    exact h
  obtain ⟨sx, hsx⟩ : ∃ t : ByteArray, t = ⟨s.prj.toArray⟩ := ⟨_, rfl⟩
  have HSX := Lib.hid (show sx.data.toList = s.prj by rw [hsx])
  have hsl : sx.size ≤ 1000000 := by rw [hsx]; show s.prj.toArray.size ≤ _; simpa using hs
  have HSC := Lib.hid (show shC s = [.string sx, .int .i64 s.wgt, .int .i64 s.srv] by rw [hsx]; rfl)
  unfold shV
  rw [← hsx]
  generalize s.wgt = sg at *
  generalize s.srv = sv at *
  have T0 := Lib.hid (ThH.new w (.string sx) (.int .i64 sg) (.int .i64 sv))
  have B0 := Lib.hid ((Below.refl w.heap.size w).alloc (Nat.le_refl _) (.cells #[.string sx, .int .i64 sg, .int .i64 sv] 41))
  clear hr hV hsx hs
  go_enter Tryz.func36, Tryz.ntmps36
  go_wp2_with fail
  obtain ⟨W0, hW0⟩ : ∃ W0, W0 = w.alloc (.cells #[.string sx, .int .i64 sg, .int .i64 sv] 41) := ⟨_, rfl⟩
  rw [← hW0] at T0 B0 ⊢
  clear hW0
  go_loopw [5] (fun s5 wr => ∃ k : Nat, k ≤ L.length ∧ s5 = .int .i64 (k : Int) ∧ Hid (∀ t (h : t < L.length), t < k → cmpL L[t].prj s.prj < 0) ∧ Hid (ThH wr w.heap.size (.string sx) (.int .i64 sg) (.int .i64 sv)) ∧ Hid (Below w.heap.size w wr)) (fun s5 _ => L.length - (RowKit.intOf s5).toNat)
  case atStart => exact ⟨0, by omega, rfl, Lib.hid (fun t h h0 => absurd h0 (Nat.not_lt_zero _)), T0, B0⟩
  case round =>
    obtain ⟨k, hk, rfl, HL, TR, BR⟩ := hrel
    have hw1 : IntKind.i64.wrap ((k : Int) + 1) = (k : Int) + 1 := by rw [IntKind.wrap_i64]; omega
    by_cases hlt : k < L.length
    · have hltI : (k : Int) < (L.length : Int) := by omega
      have hk0 : (0 : Int) ≤ (k : Int) := by omega
      obtain ⟨b', off', e, _, c0, _, _⟩ := HR.out k hlt
      cases e
      obtain ⟨t0, _, _⟩ := TR.out.facts
      replace c0 := (BR.out.cell (p := ⟨b, _, none⟩) hbl).trans c0
      obtain ⟨sy, hsy⟩ : ∃ t : ByteArray, t = ⟨L[k].prj.toArray⟩ := ⟨_, rfl⟩
      rw [← hsy] at c0
      have k0 := cell_regrown c0
      have k1 := cell_regrown t0
      have hyl := HV.out.plen hlt
      have C := fun w => refCompare_any sy sx (by rw [hsy]; show L[k].prj.toArray.size ≤ _; simp; omega) (by omega) w
      rw [HSX.out, show sy.data.toList = L[k].prj by rw [hsy]] at C
      have HNL := Lib.hid (fun (h : cmpL L[k].prj s.prj < 0) => show ∀ t (h : t < L.length), t < k + 1 → cmpL L[t].prj s.prj < 0 from fun t ht htk => by
        by_cases e : t < k
        · exact HL.out t ht e
        · obtain rfl : t = k := by omega
          exact h)
      have HNO := Lib.hid (fun (h : ¬ cmpL L[k].prj s.prj < 0) => show PosAt L s.prj k from ⟨hk, HL.out, fun t ht hkt => HV.out.up hlt hkt ht (by omega)⟩)
      generalize cmpL L[k].prj s.prj = cv at *
      have cC : ∀ d os, Calls Tryz.prog 47 #[.string sy, .string sx] (grow (redrawn wr d) os) fun e w'' => e = .returned (.int .i64 cv) ∧ ∃ p : Regrown, w'' = grow (redrawn wr p.d) p.os := fun d os => Calls.regrown_of ((C _).mono (by rintro e w' ⟨rfl, n, rfl⟩; exact ⟨rfl, below_drewN (Below.refl _ _) n⟩))
      clear hsy C t0
      go_upto_region 2 with fail
      refine wp_region_quiet_below hmx (by kernel_rfl) ?_
      repeat (quiet_step (first | exact cC _ _))
      refine wpQuiet_nil ?_
      rintro _ ⟨⟨dq, osq⟩, rfl⟩
      have BW := Lib.hid (BR.out.trans ((below_regrown wr dq osq).mono BR.out.size))
      have TW := Lib.hid (TR.out.below (below_regrown wr dq osq))
      obtain ⟨W, hW⟩ : ∃ W, W = grow (redrawn wr dq) osq := ⟨_, rfl⟩
      rw [← hW] at BW TW ⊢
      clear hW c0 k0 k1 cC
      by_cases hcv : cv < 0
      · have HN := Lib.hid (HNL.out hcv)
        go_wp2_with fail
        exact ⟨⟨k + 1, by omega, by go_num, HN, TW, BW⟩, by simp [RowKit.intOf]; omega⟩
      · have HP := Lib.hid (HNO.out hcv)
        have hki : (k : Int) ≤ (cap : Int) := by omega
        have hki2 : (k : Int) ≤ (L.length : Int) := by omega
        have O0 := Lib.hid (World.ownsRow_nil W (w.heap.size + 1) 41 3)
        have htl : (L.take k).length = k := by rw [List.length_take]; omega
        have hdl : (L.drop k).length = L.length - k := by rw [List.length_drop]
        obtain ⟨X1, hX1⟩ : ∃ X, X = (L.take k).flatMap shC := ⟨_, rfl⟩
        obtain ⟨X3, hX3⟩ : ∃ X, X = (L.drop k).flatMap shC := ⟨_, rfl⟩
        have X1l := Lib.hid (show X1.length = k * 3 by rw [hX1, flatH_len, htl])
        have X3l := Lib.hid (show X3.length = (L.length - k) * 3 by rw [hX3, flatH_len, hdl])
        have X1c := Lib.hid (take_cells (HR.out.below BW.out) k)
        have X3c := Lib.hid (fun (w7 : World) (h : Below w.heap.size w w7) => drop_cells (HR.out.below h) k)
        rw [← hX1] at X1c
        rw [← hX3] at X3c
        have X1o := Lib.hid (show ∀ u ∈ X1, u.oneCell' = true by rw [hX1]; exact shC_one _)
        have X3o := Lib.hid (show ∀ u ∈ X3, u.oneCell' = true by rw [hX3]; exact shC_one _)
        have HX1 := Lib.hid hX1
        have HX3 := Lib.hid hX3
        clear hX1 hX3
        go_wp2_with (at_builtin; refine wpList_append_own _ rfl _ _ 22 rfl (w.heap.size + 1) 41 i0 _ 3 32 Tryz.underlying22 hi hz0 hz1 hz2 rfl (by decide) (.slice none 0 0) 0 [] rfl O0.out ⟨b, off, none⟩ k cap X1 rfl X1l.out X1c.out X1o.out ?a3q ?a4q ?a5q ?_)
        case a3q => unfold maxLen; omega
        case a4q => omega
        case a5q => exact TW.out.lt
        intro v6 w6 ho6 hg6 _
        have T6 := TW.out.grown hg6 (by simp [Value.ownBlock])
        have B6 := Lib.hid (BW.out.grown hg6 BW.out.size (by intro k hk; simp [Value.ownBlock] at hk))
        have O6 := Lib.hid (show w6.ownsRow (w.heap.size + 1) 41 3 v6 k X1 by simpa using ho6)
        obtain ⟨t0, t1, t2⟩ := T6.facts
        have hz6 : w.heap.size + 1 ≤ w6.heap.size := T6.lt
        have OA := Lib.hid (O6.out.alloc (.cells #[.string sx, .int .i64 sg, .int .i64 sv] 41))
        have BA := Lib.hid (B6.out.alloc B6.out.size (.cells #[.string sx, .int .i64 sg, .int .i64 sv] 41))
        have NA := Lib.hid (thH_cells (ThH.new w6 (.string sx) (.int .i64 sg) (.int .i64 sv)))
        clear ho6 hg6 T6
        go_wp2_with (at_builtin; refine wpList_append_own _ rfl _ _ 22 rfl (w.heap.size + 1) 41 i0 _ 3 32 Tryz.underlying22 hi hz0 hz1 hz2 rfl (by decide) _ k _ rfl OA.out ⟨w6.heap.size, 0, none⟩ 1 1 [.string sx, .int .i64 sg, .int .i64 sv] rfl rfl NA.out ?b2q ?b3q ?b4q ?b5q ?_)
        case b2q => simp [Value.oneCell']
        case b3q => unfold maxLen; omega
        case b4q => omega
        case b5q => rw [World.size_alloc]; omega
        intro v7 w7 ho7 hg7 _
        have B7 := Lib.hid (BA.out.grown hg7 BA.out.size (fun k hk => Nat.le_of_succ_le (OA.out.lt k hk).1))
        have hz7 : w.heap.size + 1 ≤ w7.heap.size := Nat.le_trans hz6 (Nat.le_trans (by rw [World.size_alloc]; exact Nat.le_succ _) hg7.size)
        have O7 := Lib.hid ho7
        clear ho7 hg7 t0 t1 t2
        have R7 := Lib.hid (X3c.out w7 B7.out)
        have fin : ∀ (v8 : Value) (w8 : World), w8.ownsRow (w.heap.size + 1) 41 3 v8 (k + 1 + (L.length - k)) (X1 ++ [.string sx, .int .i64 sg, .int .i64 sv] ++ X3) → RowH w8 w.heap.size v8 (L.take k ++ s :: L.drop k) := fun v8 w8 h => by
          unfold RowH
          rw [len_ins L s k (by omega), flat_ins, flat_take, flat_drop, ← HX1.out, ← HX3.out, HSC.out, show L.length + 1 = k + 1 + (L.length - k) by omega]
          rw [List.append_assoc] at h
          exact World.ownsRow.mono h (Nat.le_succ _)
        have FIN := Lib.hid fin
        clear fin
        by_cases hkc : cap = k
        · have hkl : k = L.length := by omega
          have hdn : X3 = [] := by rw [HX3.out, hkl, List.drop_length]; rfl
          have HDN := Lib.hid hdn
          go_wp2_with (at_builtin; refine wpList_append_own _ rfl _ _ 22 rfl (w.heap.size + 1) 41 i0 _ 3 32 Tryz.underlying22 hi hz0 hz1 hz2 rfl (by decide) _ _ _ rfl O7.out _ _ _ [] rfl ?c0q ?c1q ?c2q ?c3q ?c4q ?c5q ?_)
          case c0q => first | rfl | (simp; omega)
          case c1q => intro j u hj; simp at hj
          case c2q => intro u hu; simp at hu
          case c3q => unfold maxLen; omega
          case c4q => omega
          case c5q => omega
          intro v8 w8 ho8 hg8 _
          have B8 := Lib.hid (B7.out.grown hg8 B7.out.size (fun k hk => Nat.le_of_succ_le (O7.out.lt k hk).1))
          have O8 := Lib.hid (FIN.out v8 w8 (by rw [HDN.out, show k + 1 + (L.length - k) = k + 1 by omega]; simpa [hkl] using ho8))
          clear ho8 hg8
          go_wp2_with fail
          go_ret
          exact ⟨v8, _, rfl, HP.out, O8.out, B8.out⟩
        · go_wp2_with (at_builtin; refine wpList_append_own _ rfl _ _ 22 rfl (w.heap.size + 1) 41 i0 _ 3 32 Tryz.underlying22 hi hz0 hz1 hz2 rfl (by decide) _ _ _ rfl O7.out ⟨b, off + k * 3, none⟩ (L.length - k) (cap - k) X3 rfl X3l.out R7.out X3o.out ?d3q ?d4q ?d5q ?_)
          case d3q => unfold maxLen; omega
          case d4q => omega
          case d5q => omega
          intro v8 w8 ho8 hg8 _
          have B8 := Lib.hid (B7.out.grown hg8 B7.out.size (fun k hk => Nat.le_of_succ_le (O7.out.lt k hk).1))
          have O8 := Lib.hid (FIN.out v8 w8 (by simpa using ho8))
          clear ho8 hg8
          go_wp2_with fail
          go_ret
          exact ⟨v8, _, rfl, HP.out, O8.out, B8.out⟩
    · have HP := Lib.hid (show PosAt L s.prj k from ⟨hk, HL.out, fun t ht hkt => absurd ht (by omega)⟩)
      have hltI : ¬ (k : Int) < (L.length : Int) := by omega
      have hltD : decide ((k : Int) < (L.length : Int)) = false := decide_eq_false hltI
      have hki : (k : Int) ≤ (cap : Int) := by omega
      have hki2 : (k : Int) ≤ (L.length : Int) := by omega
      have hk0 : (0 : Int) ≤ (k : Int) := by omega
      go_upto_region 2 with fail
      refine wp_region_quiet_below hmx (by kernel_rfl) ?_
      repeat (quiet_step (fail))
      refine wpQuiet_nil ?_
      rintro _ ⟨⟨dq, osq⟩, rfl⟩
      have BW := Lib.hid (BR.out.trans ((below_regrown wr dq osq).mono BR.out.size))
      have TW := Lib.hid (TR.out.below (below_regrown wr dq osq))
      obtain ⟨W, hW⟩ : ∃ W, W = grow (redrawn wr dq) osq := ⟨_, rfl⟩
      rw [← hW] at BW TW ⊢
      clear hW
      have O0 := Lib.hid (World.ownsRow_nil W (w.heap.size + 1) 41 3)
      have htl : (L.take k).length = k := by rw [List.length_take]; omega
      have hdl : (L.drop k).length = L.length - k := by rw [List.length_drop]
      obtain ⟨X1, hX1⟩ : ∃ X, X = (L.take k).flatMap shC := ⟨_, rfl⟩
      obtain ⟨X3, hX3⟩ : ∃ X, X = (L.drop k).flatMap shC := ⟨_, rfl⟩
      have X1l := Lib.hid (show X1.length = k * 3 by rw [hX1, flatH_len, htl])
      have X3l := Lib.hid (show X3.length = (L.length - k) * 3 by rw [hX3, flatH_len, hdl])
      have X1c := Lib.hid (take_cells (HR.out.below BW.out) k)
      have X3c := Lib.hid (fun (w7 : World) (h : Below w.heap.size w w7) => drop_cells (HR.out.below h) k)
      rw [← hX1] at X1c
      rw [← hX3] at X3c
      have X1o := Lib.hid (show ∀ u ∈ X1, u.oneCell' = true by rw [hX1]; exact shC_one _)
      have X3o := Lib.hid (show ∀ u ∈ X3, u.oneCell' = true by rw [hX3]; exact shC_one _)
      have HX1 := Lib.hid hX1
      have HX3 := Lib.hid hX3
      clear hX1 hX3
      go_wp2_with (at_builtin; refine wpList_append_own _ rfl _ _ 22 rfl (w.heap.size + 1) 41 i0 _ 3 32 Tryz.underlying22 hi hz0 hz1 hz2 rfl (by decide) (.slice none 0 0) 0 [] rfl O0.out ⟨b, off, none⟩ k cap X1 rfl X1l.out X1c.out X1o.out ?a3r ?a4r ?a5r ?_)
      case a3r => unfold maxLen; omega
      case a4r => omega
      case a5r => exact TW.out.lt
      intro v6 w6 ho6 hg6 _
      have T6 := TW.out.grown hg6 (by simp [Value.ownBlock])
      have B6 := Lib.hid (BW.out.grown hg6 BW.out.size (by intro k hk; simp [Value.ownBlock] at hk))
      have O6 := Lib.hid (show w6.ownsRow (w.heap.size + 1) 41 3 v6 k X1 by simpa using ho6)
      obtain ⟨t0, t1, t2⟩ := T6.facts
      have hz6 : w.heap.size + 1 ≤ w6.heap.size := T6.lt
      have OA := Lib.hid (O6.out.alloc (.cells #[.string sx, .int .i64 sg, .int .i64 sv] 41))
      have BA := Lib.hid (B6.out.alloc B6.out.size (.cells #[.string sx, .int .i64 sg, .int .i64 sv] 41))
      have NA := Lib.hid (thH_cells (ThH.new w6 (.string sx) (.int .i64 sg) (.int .i64 sv)))
      clear ho6 hg6 T6
      go_wp2_with (at_builtin; refine wpList_append_own _ rfl _ _ 22 rfl (w.heap.size + 1) 41 i0 _ 3 32 Tryz.underlying22 hi hz0 hz1 hz2 rfl (by decide) _ k _ rfl OA.out ⟨w6.heap.size, 0, none⟩ 1 1 [.string sx, .int .i64 sg, .int .i64 sv] rfl rfl NA.out ?b2r ?b3r ?b4r ?b5r ?_)
      case b2r => simp [Value.oneCell']
      case b3r => unfold maxLen; omega
      case b4r => omega
      case b5r => rw [World.size_alloc]; omega
      intro v7 w7 ho7 hg7 _
      have B7 := Lib.hid (BA.out.grown hg7 BA.out.size (fun k hk => Nat.le_of_succ_le (OA.out.lt k hk).1))
      have hz7 : w.heap.size + 1 ≤ w7.heap.size := Nat.le_trans hz6 (Nat.le_trans (by rw [World.size_alloc]; exact Nat.le_succ _) hg7.size)
      have O7 := Lib.hid ho7
      clear ho7 hg7 t0 t1 t2
      have R7 := Lib.hid (X3c.out w7 B7.out)
      have fin : ∀ (v8 : Value) (w8 : World), w8.ownsRow (w.heap.size + 1) 41 3 v8 (k + 1 + (L.length - k)) (X1 ++ [.string sx, .int .i64 sg, .int .i64 sv] ++ X3) → RowH w8 w.heap.size v8 (L.take k ++ s :: L.drop k) := fun v8 w8 h => by
        unfold RowH
        rw [len_ins L s k (by omega), flat_ins, flat_take, flat_drop, ← HX1.out, ← HX3.out, HSC.out, show L.length + 1 = k + 1 + (L.length - k) by omega]
        rw [List.append_assoc] at h
        exact World.ownsRow.mono h (Nat.le_succ _)
      have FIN := Lib.hid fin
      clear fin
      by_cases hkc : cap = k
      · have hkl : k = L.length := by omega
        have hdn : X3 = [] := by rw [HX3.out, hkl, List.drop_length]; rfl
        have HDN := Lib.hid hdn
        go_wp2_with (at_builtin; refine wpList_append_own _ rfl _ _ 22 rfl (w.heap.size + 1) 41 i0 _ 3 32 Tryz.underlying22 hi hz0 hz1 hz2 rfl (by decide) _ _ _ rfl O7.out _ _ _ [] rfl ?c0r ?c1r ?c2r ?c3r ?c4r ?c5r ?_)
        case c0r => first | rfl | (simp; omega)
        case c1r => intro j u hj; simp at hj
        case c2r => intro u hu; simp at hu
        case c3r => unfold maxLen; omega
        case c4r => omega
        case c5r => omega
        intro v8 w8 ho8 hg8 _
        have B8 := Lib.hid (B7.out.grown hg8 B7.out.size (fun k hk => Nat.le_of_succ_le (O7.out.lt k hk).1))
        have O8 := Lib.hid (FIN.out v8 w8 (by rw [HDN.out, show k + 1 + (L.length - k) = k + 1 by omega]; simpa [hkl] using ho8))
        clear ho8 hg8
        go_wp2_with fail
        go_ret
        exact ⟨v8, _, rfl, HP.out, O8.out, B8.out⟩
      · go_wp2_with (at_builtin; refine wpList_append_own _ rfl _ _ 22 rfl (w.heap.size + 1) 41 i0 _ 3 32 Tryz.underlying22 hi hz0 hz1 hz2 rfl (by decide) _ _ _ rfl O7.out ⟨b, off + k * 3, none⟩ (L.length - k) (cap - k) X3 rfl X3l.out R7.out X3o.out ?d3r ?d4r ?d5r ?_)
        case d3r => unfold maxLen; omega
        case d4r => omega
        case d5r => omega
        intro v8 w8 ho8 hg8 _
        have B8 := Lib.hid (B7.out.grown hg8 B7.out.size (fun k hk => Nat.le_of_succ_le (O7.out.lt k hk).1))
        have O8 := Lib.hid (FIN.out v8 w8 (by simpa using ho8))
        clear ho8 hg8
        go_wp2_with fail
        go_ret
        exact ⟨v8, _, rfl, HP.out, O8.out, B8.out⟩
set_option maxHeartbeats 8000000 in
set_option maxRecDepth 100000 in
theorem insertNone_any (s : Sha) (w : World) :
    Calls Tryz.prog 36 #[.slice none 0 0, shV s] w fun e w' => ∃ v', e = .returned v' ∧ RowH w' w.heap.size v' [s] ∧ Below w.heap.size w w' := by
  obtain ⟨i0, hi, hz0, hz1, hz2⟩ := info_parts infoH
  have hmx : Tryz.prog.follows .mixedOrders = true := by kernel_rfl
  obtain ⟨sx, hsx⟩ : ∃ t : ByteArray, t = ⟨s.prj.toArray⟩ := ⟨_, rfl⟩
  have HSC := Lib.hid (show shC s = [.string sx, .int .i64 s.wgt, .int .i64 s.srv] by rw [hsx]; rfl)
  unfold shV
  rw [← hsx]
  generalize s.wgt = sg at *
  generalize s.srv = sv at *
  have T0 := Lib.hid (ThH.new w (.string sx) (.int .i64 sg) (.int .i64 sv))
  have B0 := Lib.hid ((Below.refl w.heap.size w).alloc (Nat.le_refl _) (.cells #[.string sx, .int .i64 sg, .int .i64 sv] 41))
  clear hsx
  go_enter Tryz.func36, Tryz.ntmps36
  go_wp2_with fail
  obtain ⟨W0, hW0⟩ : ∃ W0, W0 = w.alloc (.cells #[.string sx, .int .i64 sg, .int .i64 sv] 41) := ⟨_, rfl⟩
  rw [← hW0] at T0 B0 ⊢
  clear hW0
  go_loopw [5] (fun s5 wr => s5 = .int .i64 0 ∧ Hid (wr = W0)) (fun _ _ => 0)
  case atStart => exact ⟨rfl, Lib.hid rfl⟩
  case round =>
    obtain ⟨rfl, HW⟩ := hrel
    obtain rfl := HW.out
    have hltD : decide ((0 : Int) < 0) = false := by decide
    go_upto_region 2 with fail
    refine wp_region_quiet_below hmx (by kernel_rfl) ?_
    repeat (quiet_step (fail))
    refine wpQuiet_nil ?_
    rintro _ ⟨⟨dq, osq⟩, rfl⟩
    have BW := Lib.hid (B0.out.trans ((below_regrown wr dq osq).mono B0.out.size))
    have TW := Lib.hid (T0.out.below (below_regrown wr dq osq))
    obtain ⟨W, hW⟩ : ∃ W, W = grow (redrawn wr dq) osq := ⟨_, rfl⟩
    rw [← hW] at BW TW ⊢
    clear hW
    have O0 := Lib.hid (World.ownsRow_nil W (w.heap.size + 1) 41 3)
    obtain ⟨t0, t1, t2⟩ := TW.out.facts
    have hz6 : w.heap.size + 1 ≤ W.heap.size := TW.out.lt
    have OA := Lib.hid (O0.out.alloc (.cells #[.string sx, .int .i64 sg, .int .i64 sv] 41))
    have BA := Lib.hid (BW.out.alloc BW.out.size (.cells #[.string sx, .int .i64 sg, .int .i64 sv] 41))
    have NA := Lib.hid (thH_cells (ThH.new W (.string sx) (.int .i64 sg) (.int .i64 sv)))
    go_wp2_with (first | (at_builtin; refine wpList_append_own_none rfl _ _ 22 rfl (w.heap.size + 1) 41 i0 3 Tryz.underlying22 hi _ 0 [] rfl O0.out rfl ?_) | (at_builtin; refine wpList_append_own _ rfl _ _ 22 rfl (w.heap.size + 1) 41 i0 _ 3 32 Tryz.underlying22 hi hz0 hz1 hz2 rfl (by decide) _ 0 _ rfl OA.out ⟨W.heap.size, 0, none⟩ 1 1 [.string sx, .int .i64 sg, .int .i64 sv] rfl rfl NA.out (by simp [Value.oneCell']) (by unfold maxLen; omega) (by omega) ?b5 ?_))
    case b5 => first | omega | (rw [World.size_alloc]; omega) | (simp; omega)
    intro v7 w7 ho7 hg7 _
    have B7 := Lib.hid (BA.out.grown hg7 BA.out.size (fun k hk => Nat.le_of_succ_le (OA.out.lt k hk).1))
    have hz7 : w.heap.size + 1 ≤ w7.heap.size := Nat.le_trans hz6 (Nat.le_trans (by rw [World.size_alloc]; exact Nat.le_succ _) hg7.size)
    have O7 := Lib.hid (show w7.ownsRow (w.heap.size + 1) 41 3 v7 1 [.string sx, .int .i64 sg, .int .i64 sv] by simpa using ho7)
    clear ho7 hg7 t0 t1 t2
    go_wp2_with (at_builtin; refine wpList_append_own_none rfl _ _ 22 rfl (w.heap.size + 1) 41 i0 3 Tryz.underlying22 hi _ _ _ rfl O7.out rfl ?_)
    go_wp2_with fail
    go_ret
    refine ⟨v7, rfl, ?_, B7.out⟩
    unfold RowH
    rw [show ([s] : List Sha).flatMap shC = [.string sx, .int .i64 sg, .int .i64 sv] by rw [List.flatMap_cons, HSC.out]; rfl]
    exact World.ownsRow.mono O7.out (Nat.le_succ _)
set_option maxHeartbeats 8000000 in
set_option maxRecDepth 100000 in
theorem insertSome_any (a : Addr) (cap : Nat) (s : Sha) (w : World) :
    Calls Tryz.prog 36 #[.slice (some a) 0 cap, shV s] w fun e w' => ∃ v', e = .returned v' ∧ RowH w' w.heap.size v' [s] ∧ Below w.heap.size w w' := by
  obtain ⟨i0, hi, hz0, hz1, hz2⟩ := info_parts infoH
  have hmx : Tryz.prog.follows .mixedOrders = true := by kernel_rfl
  obtain ⟨sx, hsx⟩ : ∃ t : ByteArray, t = ⟨s.prj.toArray⟩ := ⟨_, rfl⟩
  have HSC := Lib.hid (show shC s = [.string sx, .int .i64 s.wgt, .int .i64 s.srv] by rw [hsx]; rfl)
  unfold shV
  rw [← hsx]
  generalize s.wgt = sg at *
  generalize s.srv = sv at *
  have T0 := Lib.hid (ThH.new w (.string sx) (.int .i64 sg) (.int .i64 sv))
  have B0 := Lib.hid ((Below.refl w.heap.size w).alloc (Nat.le_refl _) (.cells #[.string sx, .int .i64 sg, .int .i64 sv] 41))
  clear hsx
  go_enter Tryz.func36, Tryz.ntmps36
  go_wp2_with fail
  obtain ⟨W0, hW0⟩ : ∃ W0, W0 = w.alloc (.cells #[.string sx, .int .i64 sg, .int .i64 sv] 41) := ⟨_, rfl⟩
  rw [← hW0] at T0 B0 ⊢
  clear hW0
  go_loopw [5] (fun s5 wr => s5 = .int .i64 0 ∧ Hid (wr = W0)) (fun _ _ => 0)
  case atStart => exact ⟨rfl, Lib.hid rfl⟩
  case round =>
    obtain ⟨rfl, HW⟩ := hrel
    obtain rfl := HW.out
    have hltD : decide ((0 : Int) < 0) = false := by decide
    go_upto_region 2 with fail
    refine wp_region_quiet_below hmx (by kernel_rfl) ?_
    repeat (quiet_step (fail))
    refine wpQuiet_nil ?_
    rintro _ ⟨⟨dq, osq⟩, rfl⟩
    have BW := Lib.hid (B0.out.trans ((below_regrown wr dq osq).mono B0.out.size))
    have TW := Lib.hid (T0.out.below (below_regrown wr dq osq))
    obtain ⟨W, hW⟩ : ∃ W, W = grow (redrawn wr dq) osq := ⟨_, rfl⟩
    rw [← hW] at BW TW ⊢
    clear hW
    have O0 := Lib.hid (World.ownsRow_nil W (w.heap.size + 1) 41 3)
    go_wp2_with (at_builtin; refine wpList_append_own _ rfl _ _ 22 rfl (w.heap.size + 1) 41 i0 _ 3 32 Tryz.underlying22 hi hz0 hz1 hz2 rfl (by decide) (.slice none 0 0) 0 [] rfl O0.out _ 0 _ [] rfl rfl (fun j u hj => by simp at hj) (fun u hu => by simp at hu) (by decide) (by decide) TW.out.lt ?_)
    intro v6 w6 ho6 hg6 hn6
    clear hn6
    have T6 := TW.out.grown hg6 (by simp [Value.ownBlock])
    have B6 := Lib.hid (BW.out.grown hg6 BW.out.size (by intro k hk; simp [Value.ownBlock] at hk))
    have O6 := Lib.hid (show w6.ownsRow (w.heap.size + 1) 41 3 v6 0 [] by simpa using ho6)
    obtain ⟨t0, t1, t2⟩ := T6.facts
    have hz6 : w.heap.size + 1 ≤ w6.heap.size := T6.lt
    clear ho6 hg6 T6
    have OA := Lib.hid (O6.out.alloc (.cells #[.string sx, .int .i64 sg, .int .i64 sv] 41))
    have BA := Lib.hid (B6.out.alloc B6.out.size (.cells #[.string sx, .int .i64 sg, .int .i64 sv] 41))
    have NA := Lib.hid (thH_cells (ThH.new w6 (.string sx) (.int .i64 sg) (.int .i64 sv)))
    go_wp2_with (at_builtin; refine wpList_append_own _ rfl _ _ 22 rfl (w.heap.size + 1) 41 i0 _ 3 32 Tryz.underlying22 hi hz0 hz1 hz2 rfl (by decide) _ 0 _ rfl OA.out ⟨w6.heap.size, 0, none⟩ 1 1 [.string sx, .int .i64 sg, .int .i64 sv] rfl rfl NA.out (by simp [Value.oneCell']) (by unfold maxLen; omega) (by omega) ?b5 ?_)
    case b5 => first | omega | (rw [World.size_alloc]; omega) | (simp; omega)
    intro v7 w7 ho7 hg7 _
    have B7 := Lib.hid (BA.out.grown hg7 BA.out.size (fun k hk => Nat.le_of_succ_le (OA.out.lt k hk).1))
    have hz7 : w.heap.size + 1 ≤ w7.heap.size := Nat.le_trans hz6 (Nat.le_trans (by rw [World.size_alloc]; exact Nat.le_succ _) hg7.size)
    have O7 := Lib.hid (show w7.ownsRow (w.heap.size + 1) 41 3 v7 1 [.string sx, .int .i64 sg, .int .i64 sv] by simpa using ho7)
    clear ho7 hg7 t0 t1 t2
    by_cases hkc : cap = 0
    all_goals
      go_wp2_with (at_builtin; refine wpList_append_own _ rfl _ _ 22 rfl (w.heap.size + 1) 41 i0 _ 3 32 Tryz.underlying22 hi hz0 hz1 hz2 rfl (by decide) _ _ _ rfl O7.out _ _ _ [] rfl rfl (fun j u hj => by simp at hj) (fun u hu => by simp at hu) ?c3 ?c4 ?c5 ?_)
      case c3 => unfold maxLen; omega
      case c4 => omega
      case c5 => omega
      intro v8 w8 ho8 hg8 _
      have B8 := Lib.hid (B7.out.grown hg8 B7.out.size (fun k hk => Nat.le_of_succ_le (O7.out.lt k hk).1))
      have O8 := Lib.hid (show w8.ownsRow (w.heap.size + 1) 41 3 v8 1 [.string sx, .int .i64 sg, .int .i64 sv] by simpa using ho8)
      clear ho8 hg8
      go_wp2_with fail
      go_ret
      refine ⟨v8, rfl, ?_, B8.out⟩
      unfold RowH
      rw [show ([s] : List Sha).flatMap shC = [.string sx, .int .i64 sg, .int .i64 sv] by rw [List.flatMap_cons, HSC.out]; rfl]
      exact World.ownsRow.mono O8.out (Nat.le_succ _)
/-- insert of any valid shares. -/
theorem insert_any (v : Option Addr) (cap : Nat) (L : List Sha) (hcap : L.length ≤ cap) (hv : v = none → cap = 0) (hV : ValidS L) (s : Sha) (hs : s.prj.length ≤ 1000000) (hl : L.length ≤ 1000000) (w : World) (hr : ReadsH w v L) :
    Calls Tryz.prog 36 #[.slice v L.length cap, shV s] w fun e w' => ∃ v' k, e = .returned v' ∧ PosAt L s.prj k ∧ RowH w' w.heap.size v' (L.take k ++ s :: L.drop k) ∧ Below w.heap.size w w' := by
  by_cases h0 : L.length = 0
  · obtain rfl := List.eq_nil_of_length_eq_zero h0
    have pos : PosAt [] s.prj 0 := ⟨Nat.le_refl _, fun t h => by simp at h, fun t h => by simp at h⟩
    cases v with
    | none =>
      obtain rfl := hv rfl
      refine (insertNone_any s w).mono ?_
      rintro e w' ⟨v', rfl, h1, h2⟩
      exact ⟨v', 0, rfl, pos, h1, h2⟩
    | some a =>
      refine (insertSome_any a cap s w).mono ?_
      rintro e w' ⟨v', rfl, h1, h2⟩
      exact ⟨v', 0, rfl, pos, h1, h2⟩
  · obtain ⟨b, off, rfl, _⟩ := hr 0 (by omega)
    exact insertCons_any b off cap L (by omega) hcap hV s hs hl w hr
end Go.Proofs.YtmjikddceegloaaGreatDoor
namespace Go.Proofs.YtmjikddceegloaaGreatDoor
open Go.RowKit Go.Lib
set_option linter.unusedSimpArgs false
set_option linter.unusedVariables false

set_option maxHeartbeats 4000000 in
set_option maxRecDepth 100000 in
theorem rAddBad_any (v : Option Addr) (cap : Nat) (L : List Sha) (p : ByteArray) (m : Int) (hp : p.size ≤ 1000000) (hlen : L.length ≤ 1000000) (hx : ∀ x ∈ L, x.prj.length ≤ 1000000) (hV : ¬ ValidS L) (w : World) (hr : ReadsH w v L) :
    Calls Tryz.prog 12 #[.slice v L.length cap, .string p, .int .i64 m] w (AddPostR L p.data.toList m w) := by
  have HR := Lib.hid hr
  have VA := Lib.hid (refValid_any v cap L false ⟨fun h => (by cases h), fun h => absurd h hV⟩ hlen hx w hr)
  have HN := Lib.hid (show AddR L p.data.toList m (L, 1) from .bad hV)
  clear hr hV hx
  go_enter Tryz.func12, Tryz.ntmps12
  go_wp2_with fail
  go_fit VA.out
  rintro e w1 ⟨rfl, hb⟩
  have B1 := Lib.hid hb
  clear hb
  go_wp2_with fail
  go_ret2
  exact ⟨v, cap, (L, 1), rfl, HN.out, HR.out.below B1.out, B1.out⟩
set_option maxHeartbeats 4000000 in
set_option maxRecDepth 100000 in
theorem rAddName_any (v : Option Addr) (cap : Nat) (L : List Sha) (p : ByteArray) (m : Int) (hp : p.size ≤ 1000000) (hlen : L.length ≤ 1000000) (hx : ∀ x ∈ L, x.prj.length ≤ 1000000) (hV : ValidS L) (hn : nameB p.data.toList = false) (w : World) (hr : ReadsH w v L) :
    Calls Tryz.prog 12 #[.slice v L.length cap, .string p, .int .i64 m] w (AddPostR L p.data.toList m w) := by
  have HR := Lib.hid hr
  have VA := Lib.hid (refValid_any v cap L true ⟨fun _ => hV, fun _ => rfl⟩ hlen hx w hr)
  have NM := fun w => refName_any p (by omega) w
  rw [hn] at NM
  have NM := Lib.hid NM
  have HN := Lib.hid (show AddR L p.data.toList m (L, 10) from .name hV hn)
  clear hr hV hx hn
  go_enter Tryz.func12, Tryz.ntmps12
  go_wp2_with fail
  go_fit VA.out
  rintro e w1 ⟨rfl, hb⟩
  have B1 := Lib.hid hb
  clear hb
  go_wp2_with fail
  go_fit (NM.out _)
  rintro e w2 ⟨rfl, rfl⟩
  go_wp2_with fail
  go_ret2
  exact ⟨v, cap, (L, 10), rfl, HN.out, HR.out.below B1.out, B1.out⟩
set_option maxHeartbeats 4000000 in
set_option maxRecDepth 100000 in
theorem rAddWeight_any (v : Option Addr) (cap : Nat) (L : List Sha) (p : ByteArray) (m : Int) (hp : p.size ≤ 1000000) (hlen : L.length ≤ 1000000) (hx : ∀ x ∈ L, x.prj.length ≤ 1000000) (hV : ValidS L) (hn : nameB p.data.toList = true) (hm : ¬ (1 ≤ m ∧ m ≤ 1000)) (w : World) (hr : ReadsH w v L) :
    Calls Tryz.prog 12 #[.slice v L.length cap, .string p, .int .i64 m] w (AddPostR L p.data.toList m w) := by
  have HR := Lib.hid hr
  have VA := Lib.hid (refValid_any v cap L true ⟨fun _ => hV, fun _ => rfl⟩ hlen hx w hr)
  have NM := fun w => refName_any p (by omega) w
  rw [hn] at NM
  have NM := Lib.hid NM
  have HN := Lib.hid (show AddR L p.data.toList m (L, 2) from .weight hV hn hm)
  clear hr hV hx hn
  rcases (show m < 1 ∨ (1 ≤ m ∧ 1000 < m) by omega) with hm1 | ⟨hm1, hm2⟩
  all_goals
    clear hm
    go_enter Tryz.func12, Tryz.ntmps12
    go_wp2_with fail
    go_fit VA.out
    rintro e w1 ⟨rfl, hb⟩
    have B1 := Lib.hid hb
    clear hb
    go_wp2_with fail
    go_fit (NM.out _)
    rintro e w2 ⟨rfl, rfl⟩
    go_wp2_with fail
    go_ret2
    exact ⟨v, cap, (L, 2), rfl, HN.out, HR.out.below B1.out, B1.out⟩
set_option maxHeartbeats 4000000 in
set_option maxRecDepth 100000 in
theorem rAddHas_any (v : Option Addr) (cap : Nat) (L : List Sha) (p : ByteArray) (m : Int) (hp : p.size ≤ 1000000) (hlen : L.length ≤ 1000000) (hx : ∀ x ∈ L, x.prj.length ≤ 1000000) (hV : ValidS L) (hn : nameB p.data.toList = true) (hm : 1 ≤ m ∧ m ≤ 1000) (k : Nat) (hk0 : k < L.length) (hkp0 : L[k].prj = p.data.toList) (w : World) (hr : ReadsH w v L) :
    Calls Tryz.prog 12 #[.slice v L.length cap, .string p, .int .i64 m] w (AddPostR L p.data.toList m w) := by
  obtain ⟨q, hq⟩ : ∃ q, q = upR L[k] m := ⟨_, rfl⟩
  obtain ⟨r1, r2, r3⟩ := hV.right hk0
  have hqb := upR_bounds L[k] m r2.1 hm r3
  have AL := fun w' => scaled_any L[k] m r2 hm r3 w'
  rw [← hq] at hqb AL
  have HN := Lib.hid (show AddR L p.data.toList m (addHas L k p.data.toList m q) by rw [hq]; exact .has k hk0 hV hn hm hkp0)
  have HR := Lib.hid hr
  have VA := Lib.hid (refValid_any v cap L true ⟨fun _ => hV, fun _ => rfl⟩ hlen hx w hr)
  have NM := fun w => refName_any p (by omega) w
  rw [hn] at NM
  have NM := Lib.hid NM
  obtain ⟨hm1, hm2⟩ := hm
  have HM := Lib.hid hm1
  have FI := Lib.hid (fun w' (hb : Below w.heap.size w w') => refFind_any v cap L p hlen w' (hr.below hb))
  have HV := Lib.hid hV
  have HPB := Lib.hid (show (⟨p.data.toList.toArray⟩ : ByteArray) = p from str_back p)
  have HK := Lib.hid (show ∀ i, FindPostD L p.data.toList i → i = (k : Int) from fun i hf => by
    rcases hf with ⟨rfl, hno⟩ | ⟨k', rfl, hk', e, _⟩
    · exact absurd hkp0 (hno k hk0)
    · rw [hV.inj hk' hk0 (e.trans hkp0.symm)])
  have WI := fun w' (hb : Below w.heap.size w w') => refSet_any v L cap k ⟨p.data.toList, m, q⟩ hk0 hlen w' (hr.below hb)
  unfold shV at WI AL
  dsimp only at WI
  rw [HPB.out] at WI
  obtain ⟨bk, off, rfl, hbl, c0, c1, c2⟩ := hr k hk0
  have HC := Lib.hid (show ∀ w', Below w.heap.size w w' → w'.cell? ⟨bk, off + k * 3, none⟩ = some (.string ⟨L[k].prj.toArray⟩) ∧ w'.cell? ⟨bk, off + k * 3 + 1, none⟩ = some (.int .i64 L[k].wgt) ∧ w'.cell? ⟨bk, off + k * 3 + 2, none⟩ = some (.int .i64 L[k].srv) from fun w' hb => ⟨(hb.cell (p := ⟨bk, _, none⟩) hbl).trans c0, (hb.cell (p := ⟨bk, _, none⟩) hbl).trans c1, (hb.cell (p := ⟨bk, _, none⟩) hbl).trans c2⟩)
  obtain ⟨sx, hsx⟩ : ∃ s : ByteArray, s = ⟨L[k].prj.toArray⟩ := ⟨_, rfl⟩
  rw [← hsx] at HC AL
  generalize L[k].srv = sv at *
  generalize L[k].wgt = sg at *
  have AL := Lib.hid AL
  have WI := Lib.hid WI
  have hkI : (k : Int) < (L.length : Int) := by omega
  have hkz : (0 : Int) ≤ (k : Int) := by omega
  have hkn : ¬ (k : Int) < 0 := by omega
  clear hr hV hx hn hkp0 r1 r2 r3 hq c0 c1 c2 hsx
  go_enter Tryz.func12, Tryz.ntmps12
  go_wp2_with fail
  go_fit VA.out
  rintro e w1 ⟨rfl, hb⟩
  have B1 := Lib.hid hb
  clear hb
  go_wp2_with fail
  go_fit (NM.out _)
  rintro e w2 ⟨rfl, rfl⟩
  go_wp2_with fail
  go_fit (FI.out _ B1.out)
  rintro e w2 ⟨i, rfl, rfl, hf⟩
  obtain rfl := HK.out i hf
  clear hf
  have TA := ThH.new w2 (.string p) (.int .i64 m) (.int .i64 0)
  have BA := B1.out.alloc B1.out.size (.cells #[.string p, .int .i64 m, .int .i64 0] 41)
  obtain ⟨c0, c1, c2⟩ := HC.out _ BA
  go_wp2_with fail
  go_fit (AL.out _)
  rintro e w5 ⟨rfl, hb⟩
  clear c0 c1 c2
  have B5 := BA.trans (hb.mono BA.size)
  have T5 := TA.below hb
  clear hb BA TA
  obtain ⟨y0, y1, y2⟩ := T5.facts
  obtain ⟨f0, f1, f2⟩ := T5.froz
  have s3 := B1.out.size
  have BI := Lib.hid (B5.setCell (p := ⟨w2.heap.size, 2, none⟩) s3 (.int .i64 q))
  have TI : ThH (w5.setCell ⟨w2.heap.size, 2, none⟩ (.int .i64 q)) w2.heap.size (.string p) (.int .i64 m) (.int .i64 q) := ⟨setCell_blk 2 T5.blk (.int .i64 q)⟩
  obtain ⟨x0, x1, x2⟩ := TI.facts
  clear TI T5 B5
  by_cases hqm : 1125899906842624 < q
  · have HN2 := Lib.hid (show AddR L p.data.toList m (L, 15) by have := HN.out; unfold addHas at this; rwa [if_pos hqm] at this)
    go_wp2_with fail
    go_ret2
    exact ⟨some ⟨bk, off, none⟩, cap, (L, 15), rfl, HN2.out, HR.out.below BI.out, BI.out⟩
  · have HN2 := Lib.hid (show AddR L p.data.toList m (L.set k ⟨p.data.toList, m, q⟩, 0) by have := HN.out; unfold addHas at this; rwa [if_neg hqm] at this)
    have HLS := Lib.hid (show (L.set k ⟨p.data.toList, m, q⟩).length = L.length from List.length_set)
    generalize L.set k _ = R at *
    go_wp2_with fail
    go_fit (WI.out _ BI.out)
    rintro e w6 ⟨v', rfl, hrow, hb⟩
    have B6 := Lib.hid (BI.out.trans (hb.mono BI.out.size))
    obtain ⟨a', c', rfl, _, hrd⟩ := hrow.reads
    have RD := Lib.hid hrd
    clear hrow hb hrd
    go_wp2_with fail
    go_ret2
    exact ⟨a', c', (R, 0), rfl, HN2.out, RD.out, B6.out⟩
set_option maxHeartbeats 4000000 in
set_option maxRecDepth 100000 in
theorem rAddFull_any (v : Option Addr) (cap : Nat) (L : List Sha) (p : ByteArray) (m : Int) (hp : p.size ≤ 1000000) (hlen : L.length ≤ 1000000) (hx : ∀ x ∈ L, x.prj.length ≤ 1000000) (hV : ValidS L) (hn : nameB p.data.toList = true) (hm : 1 ≤ m ∧ m ≤ 1000) (hno : ∀ k (h : k < L.length), L[k].prj ≠ p.data.toList) (hpos : ∃ k, PosAt L p.data.toList k) (hf : L.length = 64) (w : World) (hr : ReadsH w v L) :
    Calls Tryz.prog 12 #[.slice v L.length cap, .string p, .int .i64 m] w (AddPostR L p.data.toList m w) := by
  have HPB := Lib.hid (show (⟨p.data.toList.toArray⟩ : ByteArray) = p from str_back p)
  have HK := Lib.hid (show ∀ i, FindPostD L p.data.toList i → i = -1 from fun i hf => by
    rcases hf with ⟨rfl, _⟩ | ⟨k', rfl, hk', e, _⟩
    · rfl
    · exact absurd e (hno k' hk'))
  have HNA := Lib.hid (show ∀ k, PosAt L p.data.toList k → AddR L p.data.toList m (addNew L k p.data.toList m) from fun k h => .new k hV hn hm h hno)
  have HR := Lib.hid hr
  have VA := Lib.hid (refValid_any v cap L true ⟨fun _ => hV, fun _ => rfl⟩ hlen hx w hr)
  have NM := fun w => refName_any p (by omega) w
  rw [hn] at NM
  have NM := Lib.hid NM
  obtain ⟨hm1, hm2⟩ := hm
  have HM := Lib.hid hm1
  have FI := Lib.hid (fun w' (hb : Below w.heap.size w w') => refFind_any v cap L p hlen w' (hr.below hb))
  have HV := Lib.hid hV
  have hfI : (L.length : Int) = 64 := by omega
  have HN := Lib.hid (show AddR L p.data.toList m (L, 21) by
    obtain ⟨k, hk⟩ := hpos
    have := HNA.out k hk
    unfold addNew at this
    rwa [if_pos hf] at this)
  clear hr hV hx hn hno hf hpos
  go_enter Tryz.func12, Tryz.ntmps12
  go_wp2_with fail
  go_fit VA.out
  rintro e w1 ⟨rfl, hb⟩
  have B1 := Lib.hid hb
  clear hb
  go_wp2_with fail
  go_fit (NM.out _)
  rintro e w2 ⟨rfl, rfl⟩
  go_wp2_with fail
  go_fit (FI.out _ B1.out)
  rintro e w2 ⟨i, rfl, rfl, hf⟩
  obtain rfl := HK.out i hf
  clear hf
  go_wp2_with fail
  go_ret2
  exact ⟨v, cap, (L, 21), rfl, HN.out, HR.out.below B1.out, B1.out⟩
set_option maxHeartbeats 4000000 in
set_option maxRecDepth 100000 in
theorem rAddNew_any (v : Option Addr) (cap : Nat) (L : List Sha) (p : ByteArray) (m : Int) (hp : p.size ≤ 1000000) (hlen : L.length ≤ 1000000) (hx : ∀ x ∈ L, x.prj.length ≤ 1000000) (hV : ValidS L) (hn : nameB p.data.toList = true) (hm : 1 ≤ m ∧ m ≤ 1000) (hno : ∀ k (h : k < L.length), L[k].prj ≠ p.data.toList) (hpx : ∃ k, PosAt L p.data.toList k) (hcap : L.length ≤ cap) (hv : v = none → cap = 0) (hL64 : L.length < 64) (w : World) (hr : ReadsH w v L) :
    Calls Tryz.prog 12 #[.slice v L.length cap, .string p, .int .i64 m] w (AddPostR L p.data.toList m w) := by
  have HPB := Lib.hid (show (⟨p.data.toList.toArray⟩ : ByteArray) = p from str_back p)
  have HK := Lib.hid (show ∀ i, FindPostD L p.data.toList i → i = -1 from fun i hf => by
    rcases hf with ⟨rfl, _⟩ | ⟨k', rfl, hk', e, _⟩
    · rfl
    · exact absurd e (hno k' hk'))
  have HNA := Lib.hid (show ∀ k, PosAt L p.data.toList k → AddR L p.data.toList m (addNew L k p.data.toList m) from fun k h => .new k hV hn hm h hno)
  have HPX := Lib.hid hpx
  clear hpx
  have hRG : ∀ s ∈ L, RngS s := fun s hs => by
    obtain ⟨i, hi, e⟩ := List.getElem_of_mem hs
    have := (hV.right hi).2
    rw [e] at this
    exact this
  have LE := fun w' (hb : Below w.heap.size w w') => least_any v cap L m hm hlen hRG w' (hr.below hb)
  obtain ⟨q, hq⟩ : ∃ q, q = leastL L m := ⟨_, rfl⟩
  rw [← hq] at LE
  have HLL := Lib.hid hq
  have LE := Lib.hid LE
  have IN := fun w' (hb : Below w.heap.size w w') => insert_any v cap L hcap hv hV ⟨p.data.toList, m, q⟩ (by show p.data.toList.length ≤ 1000000; rw [Array.length_toList]; exact hp) hlen w' (hr.below hb)
  unfold shV at IN
  dsimp only at IN
  rw [HPB.out] at IN
  have IN := Lib.hid IN
  have hqI : -9223372036854775808 ≤ q ∧ q ≤ 9223372036854775807 := by
    by_cases h0 : 0 < L.length
    · rw [hq, leastL_eq L m h0]
      have hz := hRG _ (minF_in L h0)
      have := upR_bounds _ m hz.1.1 hm hz.2
      omega
    · obtain rfl := List.eq_nil_of_length_eq_zero (show L.length = 0 by omega)
      rw [hq]
      show -9223372036854775808 ≤ (0 : Int) ∧ (0 : Int) ≤ 9223372036854775807
      omega
  have HR := Lib.hid hr
  have VA := Lib.hid (refValid_any v cap L true ⟨fun _ => hV, fun _ => rfl⟩ hlen hx w hr)
  have NM := fun w => refName_any p (by omega) w
  rw [hn] at NM
  have NM := Lib.hid NM
  obtain ⟨hm1, hm2⟩ := hm
  have HM := Lib.hid hm1
  have FI := Lib.hid (fun w' (hb : Below w.heap.size w w') => refFind_any v cap L p hlen w' (hr.below hb))
  have HV := Lib.hid hV
  have hL64I : ¬ (64 : Int) ≤ (L.length : Int) := by omega
  have hL64n : ¬ L.length = 64 := by omega
  clear hr hV hx hn hno hRG hq
  go_enter Tryz.func12, Tryz.ntmps12
  go_wp2_with fail
  go_fit VA.out
  rintro e w1 ⟨rfl, hb⟩
  have B1 := Lib.hid hb
  clear hb
  go_wp2_with fail
  go_fit (NM.out _)
  rintro e w2 ⟨rfl, rfl⟩
  go_wp2_with fail
  go_fit (FI.out _ B1.out)
  rintro e w2 ⟨i, rfl, rfl, hf⟩
  obtain rfl := HK.out i hf
  clear hf
  have TA := ThH.new w2 (.string p) (.int .i64 m) (.int .i64 0)
  have BA := B1.out.alloc B1.out.size (.cells #[.string p, .int .i64 m, .int .i64 0] 41)
  go_wp2_with fail
  go_fit (LE.out _ BA)
  rintro e w5 ⟨rfl, hb⟩
  have B5 := BA.trans (hb.mono BA.size)
  have T5 := TA.below hb
  clear hb BA TA
  obtain ⟨y0, y1, y2⟩ := T5.facts
  obtain ⟨f0, f1, f2⟩ := T5.froz
  have s3 := B1.out.size
  have BI := Lib.hid (B5.setCell (p := ⟨w2.heap.size, 2, none⟩) s3 (.int .i64 q))
  have TI : ThH (w5.setCell ⟨w2.heap.size, 2, none⟩ (.int .i64 q)) w2.heap.size (.string p) (.int .i64 m) (.int .i64 q) := ⟨setCell_blk 2 T5.blk (.int .i64 q)⟩
  obtain ⟨x0, x1, x2⟩ := TI.facts
  clear TI T5 B5
  by_cases hqm : 1125899906842624 < q
  · have HN2 := Lib.hid (show AddR L p.data.toList m (L, 15) by
      obtain ⟨k, hk⟩ := HPX.out
      have := HNA.out k hk
      unfold addNew at this
      rwa [← HLL.out, if_neg hL64n, if_pos hqm] at this)
    go_wp2_with fail
    go_ret2
    exact ⟨v, cap, (L, 15), rfl, HN2.out, HR.out.below BI.out, BI.out⟩
  · go_wp2_with fail
    go_fit (IN.out _ BI.out)
    rintro e w6 ⟨v', k, rfl, hps, hrow, hb⟩
    have B6 := Lib.hid (BI.out.trans (hb.mono BI.out.size))
    have HN2 := Lib.hid (show AddR L p.data.toList m (L.take k ++ ⟨p.data.toList, m, q⟩ :: L.drop k, 0) by have := HNA.out k hps; unfold addNew at this; rwa [← HLL.out, if_neg hL64n, if_neg (by omega)] at this)
    generalize L.take k ++ ⟨p.data.toList, m, q⟩ :: L.drop k = R at *
    obtain ⟨a', c', rfl, _, hrd⟩ := hrow.reads
    have RD := Lib.hid hrd
    clear hrow hb hrd hps
    go_wp2_with fail
    go_ret2
    exact ⟨a', c', (R, 0), rfl, HN2.out, RD.out, B6.out⟩
theorem posAt_ex (L : List Sha) (hV : ValidS L) (p : List UInt8) : ∃ k, PosAt L p k := by
  suffices h : ∀ n, n ≤ L.length → ∃ k, k ≤ n ∧ (∀ t (h : t < L.length), t < k → cmpL L[t].prj p < 0) ∧ (k = n ∨ ∃ h : k < L.length, 0 ≤ cmpL L[k].prj p) by
    obtain ⟨k, hk, h1, h2⟩ := h L.length (Nat.le_refl _)
    refine ⟨k, hk, h1, fun t ht hkt => ?_⟩
    rcases h2 with rfl | ⟨hkl, h3⟩
    · omega
    · exact hV.up hkl hkt ht h3
  intro n
  induction n with
  | zero => exact fun _ => ⟨0, Nat.le_refl _, fun t _ h => absurd h (Nat.not_lt_zero _), .inl rfl⟩
  | succ n ih =>
    intro hn
    obtain ⟨k, hk, h1, h2⟩ := ih (by omega)
    rcases h2 with rfl | h3
    · by_cases hc : cmpL (L[k]'(by omega)).prj p < 0
      · refine ⟨k + 1, Nat.le_refl _, fun t ht htk => ?_, .inl rfl⟩
        by_cases e : t < k
        · exact h1 t ht e
        · obtain rfl : t = k := by omega
          exact hc
      · exact ⟨k, Nat.le_succ _, h1, .inr ⟨by omega, by omega⟩⟩
    · exact ⟨k, by omega, h1, .inr h3⟩
/-- The document's Add of any shares. -/
theorem refAdd_any (v : Option Addr) (cap : Nat) (L : List Sha) (p : ByteArray) (m : Int) (hp : p.size ≤ 1000000) (hlen : L.length ≤ 1000000) (hx : ∀ x ∈ L, x.prj.length ≤ 1000000) (hcap : L.length ≤ cap) (hv : v = none → cap = 0) (w : World) (hr : ReadsH w v L) :
    Calls Tryz.prog 12 #[.slice v L.length cap, .string p, .int .i64 m] w (AddPostR L p.data.toList m w) := by
  by_cases hV : ValidS L
  · cases hn : nameB p.data.toList
    · exact rAddName_any v cap L p m hp hlen hx hV hn w hr
    · by_cases hm : 1 ≤ m ∧ m ≤ 1000
      · by_cases hk : ∃ k, ∃ h : k < L.length, L[k].prj = p.data.toList
        · obtain ⟨k, h, e⟩ := hk
          exact rAddHas_any v cap L p m hp hlen hx hV hn hm k h e w hr
        · have hno : ∀ k (h : k < L.length), L[k].prj ≠ p.data.toList := fun k h e => hk ⟨k, h, e⟩
          have h64 := hV.len
          by_cases h64 : L.length = 64
          · exact rAddFull_any v cap L p m hp hlen hx hV hn hm hno (posAt_ex L hV _) h64 w hr
          · exact rAddNew_any v cap L p m hp hlen hx hV hn hm hno (posAt_ex L hV _) hcap hv (by omega) w hr
      · exact rAddWeight_any v cap L p m hp hlen hx hV hn hm w hr
  · exact rAddBad_any v cap L p m hp hlen hx hV w hr
end Go.Proofs.YtmjikddceegloaaGreatDoor
namespace Go.Proofs.YtmjikddceegloaaGreatDoor
open Go.ChangeShapes Go.WideShapes Go.ChangeAt Go.RowKit Go.Deep Go.Joins
theorem open_caps {H : Type} {enc : TypeId × Value → H} {W : World} (fuel : Nat) (a : Option Addr) (len cap : Nat) (x : DataW H × List MemPlace)
    (h : DataW.trod enc Tryz.prog W 0 (fun _ => true) true fuel 22 [.slice a len cap] = some x) : len ≤ cap ∧ (a = none → cap = 0) := by
  rcases DataW.trod_slice Tryz.underlying22 h with ⟨hcs, _⟩ | ⟨ad, len', cap', elems, rest, n, hfu, hcs, rfl, _, hl, _, _⟩
  · simp at hcs
    obtain ⟨rfl, rfl, rfl⟩ := hcs
    exact ⟨Nat.le_refl _, fun _ => rfl⟩
  · simp at hcs
    obtain ⟨rfl, rfl, rfl⟩ := hcs
    exact ⟨hl, fun e => by cases e⟩
end Go.Proofs.YtmjikddceegloaaGreatDoor
