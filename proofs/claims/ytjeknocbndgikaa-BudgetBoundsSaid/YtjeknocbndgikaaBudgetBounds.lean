/- BudgetBounds: for every bucket and every list of requests, no more is spent between any two times than the burst and the rate permit. No condition on the inputs. -/
import Derived.Test.YtjeknocbndgikaaBudH
import Derived.ProofKit
import Derived.OpenShut
namespace Go.Proofs.Ytjeknocbndgikaa.budgetBounds
open Go.ChangeShapes Go.WideShapes Go.ChangeAt Go.RowKit
set_option linter.unusedVariables false

theorem own : ownKnob Try.prog.godebug = none := by kernel_rfl
theorem laidOut : laidOutB Try.prog = true := by kernel_rfl

theorem four_store {w : World} {b : Nat} {t : TypeId} {x y z v : Value} (h : FourAt w b t x y z v) (x' y' z' v' : Value) :
    FourAt ((((w.setCell ⟨b, 0, none⟩ x').setCell ⟨b, 1, none⟩ y').setCell ⟨b, 2, none⟩ z').setCell ⟨b, 3, none⟩ v') b t x' y' z' v' :=
  ((((h.sets x').1.sets y').2.1.sets z').2.2.1.sets v').2.2.2
theorem sp_ok {r u l a t c : Int} (h : spE r u l a t c = 0) : spB r u l a t c = true := by
  cases hb : spB r u l a t c with
  | true => rfl
  | false =>
    unfold spE at h
    rw [hb] at h
    simp only [Bool.false_eq_true, if_false] at h
    split at h
    · omega
    · split at h <;> omega
theorem sp_parts {r u l a t c : Int} (h : spB r u l a t c = true) : okB r u l a = true ∧ tmB t = true ∧ csB c = true ∧ 1000 * c ≤ lvl r u l a t ∧ spL r u l a t c = lvl r u l a t - 1000 * c ∧ spA r u l a t c = max a t := by
  have h' := h
  unfold spB at h'
  simp only [Bool.and_eq_true, decide_eq_true_eq] at h'
  refine ⟨h'.1.1.1, h'.1.1.2, h'.1.2, h'.2, ?_, ?_⟩
  · unfold spL; rw [h]; rfl
  · unfold spA; rw [h]; rfl
theorem spend_hist {r u Lv A m ct : Int} {ts cs : List Int} (h : Hist r u Lv A ts cs) (hok : okB r u Lv A = true) (hm : A ≤ m ∧ 0 ≤ m ∧ m ≤ 1125899906842624) :
    (spE r u Lv A m ct = 0 ∧ okB r u (spL r u Lv A m ct) (spA r u Lv A m ct) = true ∧ spA r u Lv A m ct = m ∧ Hist r u (spL r u Lv A m ct) (spA r u Lv A m ct) (ts ++ [m]) (cs ++ [ct])) ∨
    (spE r u Lv A m ct ≠ 0 ∧ spL r u Lv A m ct = Lv ∧ spA r u Lv A m ct = A) := by
  have ht : tmB m = true := decide_eq_true hm.2
  by_cases he : spE r u Lv A m ct = 0
  · obtain ⟨_, _, h3, h4, h5, h6⟩ := sp_parts (sp_ok he)
    rw [h5, h6, show max A m = m by omega]
    refine Or.inl ⟨he, ?_, rfl, h.push hok ht hm.1 h3 h4⟩
    have hl := lvl_bd hok ht
    have hz := okB_of hok
    have hc := csB_of h3
    unfold okB
    rw [decide_eq_true_eq]
    omega
  · refine Or.inr ⟨he, ?_⟩
    cases hb : spB r u Lv A m ct with
    | false => exact sp_no hb
    | true => exact absurd (by unfold spE; rw [hb]; rfl) he
set_option maxHeartbeats 2000000 in
set_option maxRecDepth 100000 in
theorem walk (r u l a : Int) (v : Option Addr) (cap : Nat) (L : List (Int × Int)) (hlen : L.length ≤ 9223372036854775807) (g : I64 r ∧ I64 u ∧ I64 l ∧ I64 a) (w : World) (hr : ReadsA w v L) :
    Calls Try.prog 8 #[.agg #[.int .i64 r, .int .i64 u, .int .i64 l, .int .i64 a], .slice v L.length cap] w fun e w' => e = .returned (.bool true) ∧ Below w.heap.size w w' := by
  have V := Lib.hid (fun w => Right_any r u l a w)
  have HR := Lib.hid hr
  clear g hr
  have hs0 := FourAt.new w 23 (.int .i64 r) (.int .i64 u) (.int .i64 l) (.int .i64 a)
  cases h1 : okB r u l a
  · rw [h1] at V
    clear h1
    go_enter Try.func8, Try.ntmps8
    go_wp2_with fail
    go_fit (V.out _)
    rintro e w1 ⟨rfl, hb⟩
    have B1 := Lib.hid (((Below.refl w.heap.size w).alloc (Nat.le_refl _) _).trans (hb.mono (by simp)))
    clear hb hs0
    go_wp2_with fail
    go_fit (lives22_any _)
    rintro e w2 ⟨rfl, hb⟩
    have B2 := Lib.hid (B1.out.trans (hb.mono B1.out.size))
    clear hb
    go_wp2_with fail
    go_ret
    exact ⟨rfl, B2.out⟩
  by_cases hk : 40 < L.length
  · rw [h1] at V
    have hk2 : (40 : Int) < (L.length : Int) := by omega
    clear h1
    go_enter Try.func8, Try.ntmps8
    go_wp2_with fail
    go_fit (V.out _)
    rintro e w1 ⟨rfl, hb⟩
    have B1 := Lib.hid (((Below.refl w.heap.size w).alloc (Nat.le_refl _) _).trans (hb.mono (by simp)))
    clear hb hs0
    go_wp2_with fail
    go_fit (lives22_any _)
    rintro e w2 ⟨rfl, hb⟩
    have B2 := Lib.hid (B1.out.trans (hb.mono B1.out.size))
    clear hb
    go_wp2_with fail
    go_ret
    exact ⟨rfl, B2.out⟩
  rw [h1] at V
  have H1 := Lib.hid h1
  have hk2 : ¬ (40 : Int) < (L.length : Int) := by omega
  have HK := Lib.hid hk
  obtain ⟨i0, hi, hz0, hz1, hz2⟩ := info_parts info_int
  clear h1 hlen
  go_enter Try.func8, Try.ntmps8
  go_wp2_with fail
  go_fit (V.out _)
  rintro e w1 ⟨rfl, hb⟩
  have f0 := hs0.below hb
  have b1 := ((Below.refl w.heap.size w).alloc (Nat.le_refl _) _).trans (hb.mono (by simp))
  obtain ⟨c0, c1, c2, c3, c4, c5, c6, c7⟩ := f0.facts
  have S0 := Lib.hid (show BSt w w1 (.int .i64 r) (.int .i64 u) (.int .i64 l) (.int .i64 a) (.slice none 0 0) (.slice none 0 0) [] [] from ⟨f0, World.ownsRow_nil _ _ _ _, World.ownsRow_nil _ _ _ _, fun k hk => by simp [Value.ownBlock] at hk, b1⟩)
  clear hb hs0 f0 b1 hk
  go_wp2_with fail
  clear c0 c1 c2 c3 c4 c5 c6 c7
  go_loopw [5, 6, 7, 8] (fun s5 s6 s7 s8 wr => ∃ (i : Nat) (n Lv A : Int) (ts cs : List Int), s5 = .int .i64 n ∧ s8 = .int .i64 (i : Int) ∧ i ≤ L.length ∧ ts.length ≤ i ∧ okB r u Lv A = true ∧ A ≤ n ∧ n ≤ 1125899906842624 ∧ Hist r u Lv A ts cs ∧ BSt w wr (.int .i64 r) (.int .i64 u) (.int .i64 Lv) (.int .i64 A) s6 s7 ts cs) (fun _ _ _ s8 _ => L.length - (RowKit.intOf s8).toNat)
  case atStart => exact ⟨0, a, l, a, [], [], rfl, rfl, Nat.zero_le _, by simp, H1.out, Int.le_refl _, (okB_of H1.out).2.2.2.2.2.2.2, Hist.nil _ _ _ _, S0.out⟩
  case round =>
    obtain ⟨i, n, Lv, A, ts, cs, rfl, rfl, hi1, hti, hok, hAn, hn, hh, hst⟩ := hrel
    have HS := Lib.hid hst
    have HH := Lib.hid hh
    have HO := Lib.hid hok
    have HT := Lib.hid hti
    have hA0 := (okB_of hok).2.2.2.2.2.2.1
    by_cases hiL : i < L.length
    · obtain ⟨b, off, hv, hlt, e1, e2, g1, g2⟩ := reads_belowA HR.out hst.bel i hiL
      subst hv
      obtain ⟨wt, hwt⟩ : ∃ wt, wt = L[i].1 := ⟨_, rfl⟩
      obtain ⟨ct, hct⟩ : ∃ ct, ct = L[i].2 := ⟨_, rfl⟩
      have HCT := Lib.hid hct
      rw [← hwt] at e1 g1
      rw [← hct] at e2 g2
      have hii : (i : Int) < (L.length : Int) := by omega
      clear hst hh hok hti hwt hct hi1
      by_cases k1 : wt < 0
      · go_wp2_with fail
        go_fit (lives22_any _)
        rintro e w2 ⟨rfl, hb⟩
        have B2 := Lib.hid (HS.out.bel.trans (hb.mono HS.out.bel.size))
        clear hb
        go_wp2_with fail
        go_ret
        exact ⟨rfl, B2.out⟩
      by_cases k2 : 1000000 < wt
      · go_wp2_with fail
        go_fit (lives22_any _)
        rintro e w2 ⟨rfl, hb⟩
        have B2 := Lib.hid (HS.out.bel.trans (hb.mono HS.out.bel.size))
        clear hb
        go_wp2_with fail
        go_ret
        exact ⟨rfl, B2.out⟩
      have k3 : wrap64 (1125899906842624 - wt) = 1125899906842624 - wt := by unfold wrap64; omega
      by_cases k4 : 1125899906842624 - wt < n
      · go_wp2_with fail
        go_fit (lives22_any _)
        rintro e w2 ⟨rfl, hb⟩
        have B2 := Lib.hid (HS.out.bel.trans (hb.mono HS.out.bel.size))
        clear hb
        go_wp2_with fail
        go_ret
        exact ⟨rfl, B2.out⟩
      have k5 : wrap64 (n + wt) = n + wt := by unfold wrap64; omega
      have M := Lib.hid (show A ≤ n + wt ∧ 0 ≤ n + wt ∧ n + wt ≤ 1125899906842624 by omega)
      obtain ⟨pl, pa, pe, SP, HP⟩ : ∃ pl pa pe : Int, (Go.RowKit.Hid (∀ w, Calls Try.prog 14 #[.agg #[.int .i64 r, .int .i64 u, .int .i64 Lv, .int .i64 A], .int .i64 (n + wt), .int .i64 ct] w fun e w' => e = .returned (.tuple #[.agg #[.int .i64 r, .int .i64 u, .int .i64 pl, .int .i64 pa], .int .i64 pe]) ∧ Below w.heap.size w w')) ∧
          Go.RowKit.Hid ((pe = 0 ∧ okB r u pl pa = true ∧ pa = n + wt ∧ Hist r u pl pa (ts ++ [n + wt]) (cs ++ [ct])) ∨ (pe ≠ 0 ∧ pl = Lv ∧ pa = A)) :=
        ⟨_, _, _, Lib.hid (fun w => Spend_any r u Lv A (n + wt) ct w), Lib.hid (spend_hist HH.out HO.out M.out)⟩
      obtain ⟨c0, c1, c2, c3, c4, c5, c6, c7⟩ := HS.out.bk.facts
      have z1 := HS.out.bk.lt
      go_upto_region 11 with fail
      clear e1 g1 k1 k2 k3 k4 k5
      go_cut [9, 10] (fun s9 s10 wx => ∃ p : Nat, s9 = .pointer (some ⟨p, 0, none⟩) ∧ s10 = .int .i64 pe ∧ wr.heap.size ≤ p ∧ FourAt wx p 23 (.int .i64 r) (.int .i64 u) (.int .i64 pl) (.int .i64 pa) ∧ Below wr.heap.size wr wx)
      case first =>
        go_region_with (go_at_call 14; go_fit (SP.out _); rintro e w2 ⟨rfl, hb2⟩; (first | (have q : FourAt w2 wr.heap.size 23 (.int .i64 0) (.int .i64 0) (.int .i64 0) (.int .i64 0) := (FourAt.new wr.drew 23 (.int .i64 0) (.int .i64 0) (.int .i64 0) (.int .i64 0)).below hb2; obtain ⟨y0, y1, y2, y3, y4, y5, y6, y7⟩ := q.facts; have y8 := q.lt) | skip); go_wp2_with fail)
        all_goals
          go_wp2_with fail
          refine Met.intro ?_
          go_step
          (repeat apply Exists.intro)
          refine ⟨?_, rfl⟩
          first
            | exact ⟨w2.heap.size, rfl, rfl, hb2.size, FourAt.new _ _ _ _ _ _, ((Below.refl wr.heap.size wr).drew.trans hb2).alloc hb2.size _⟩
            | exact ⟨wr.heap.size, rfl, rfl, Nat.le_refl _, four_store q _ _ _ _, ((((((Below.refl wr.heap.size wr).drew.alloc (Nat.le_refl _) _).trans (hb2.mono (by simp))).setCell (Nat.le_refl _) _).setCell (Nat.le_refl _) _).setCell (Nat.le_refl _) _).setCell (Nat.le_refl _) _⟩
      case rest =>
        obtain ⟨p, rfl, rfl, hp, hf, hb⟩ := hcut
        have HS2 := Lib.hid (HS.out.below hb)
        clear c0 c1 c2 c3 c4 c5 c6 c7
        have PN6 := Lib.hid (show some p ≠ u6.ownBlock from fun e => by have := HS.out.rt.lt p e.symm; omega)
        have PN7 := Lib.hid (show some p ≠ u7.ownBlock from fun e => by have := HS.out.rc.lt p e.symm; omega)
        have FP := Lib.hid hf
        have PL := Lib.hid hp
        clear hf hp z1
        rcases HP.out with ⟨he0, hok2, hpa, hh2⟩ | ⟨he0, hpl, hpa⟩
        · subst he0
          have HK2 := Lib.hid (And.intro hok2 (And.intro hpa hh2))
          clear hok2 hpa hh2
          have TL := Lib.hid (show ts.length ≤ 40 ∧ cs.length ≤ 40 by have h1 := HT.out; have h2 := HK.out; have h3 := HH.out.len; omega)
          go_upto_region 13 with fail
          go_wp2_with (at_builtin; refine wpList_append_own_at _ rfl _ _ 41 rfl (w.heap.size + 1) 3 i0 (.int .i64 0) 1 8 Try.underlying41 hi hz0 hz1 hz2 rfl (by decide) _ _ _ rfl (HS2.out.rt.alloc _) ⟨wc.heap.size, 0, none⟩ 1 1 [.int .i64 (n + wt)] rfl rfl ?c1 ?c2 ?c3 ?c4 ?c5 ?_)
          case c2 => rfl
          case c3 => have := TL.out; unfold maxLen; omega
          case c4 => have := TL.out; omega
          case c5 => have := HS2.out.bk.lt; simp; omega
          intro v6 w6 ho6 hg6 _ hat6
          have HS3 := Lib.hid ((HS2.out.alloc (.cells #[.int .i64 (n + wt)] 3)).push1 ho6 hg6 (by rw [World.size_alloc]; exact hat6))
          have FP3 := Lib.hid ((FP.out.alloc (.cells #[.int .i64 (n + wt)] 3)).of_block (hg6.block p (by have := FP.out.lt; simp; omega) PN6.out))
          clear ho6 hg6 hat6 e2 hb
          obtain ⟨b', off', hv', hlt', e1', e2', _, _⟩ := reads_belowA HR.out HS3.out.bel i (by omega)
          injection hv' with hv'
          injection hv' with hvb hvo
          subst hvb hvo
          rw [← HCT.out] at e2'
          clear e1'
          have ha6 := HS3.out.rt.lt
          go_upto_region 14 with fail
          go_wp2_with (at_builtin; refine wpList_append_own_at _ rfl _ _ 41 rfl (w.heap.size + 1) 3 i0 (.int .i64 0) 1 8 Try.underlying41 hi hz0 hz1 hz2 rfl (by decide) _ _ _ rfl (HS3.out.rc.alloc _) ⟨w6.heap.size, 0, none⟩ 1 1 [.int .i64 ct] rfl rfl ?d1 ?d2 ?d3 ?d4 ?d5 ?_)
          case d2 => rfl
          case d3 => have := TL.out; unfold maxLen; omega
          case d4 => have := TL.out; omega
          case d5 => have := HS3.out.bk.lt; simp; omega
          intro v7 w7 ho7 hg7 _ hat7
          have HS4 := Lib.hid ((HS3.out.alloc (.cells #[.int .i64 ct] 3)).push2 ho7 hg7 (by rw [World.size_alloc]; exact hat7))
          have FP4 := Lib.hid ((FP3.out.alloc (.cells #[.int .i64 ct] 3)).of_block (hg7.block p (by have := FP3.out.lt; simp; omega) PN7.out))
          clear ho7 hg7 hat7 e2' ha6
          obtain ⟨c0, c1, c2, c3, c4, c5, c6, c7⟩ := HS4.out.bk.facts
          obtain ⟨d0, d1, d2, d3, -⟩ := FP4.out.facts
          have ne0 : p ≠ w.heap.size := by have := PL.out; have := HS.out.bk.lt; omega
          go_wp2_with fail
          go_roundw
          case rel => exact ⟨i + 1, n + wt, pl, pa, ts ++ [n + wt], cs ++ [ct], rfl, by go_num, by omega, by have := HT.out; simp; omega, HK2.out.1, by have := HK2.out.2.1; omega, M.out.2.2, HK2.out.2.2, HS4.out.store _ _ _ _⟩
          case measure => simp [RowKit.intOf]; omega
        · have hE2 : (pe == 0) = false := by simpa using he0
          subst hpl hpa
          obtain ⟨c0, c1, c2, c3, c4, c5, c6, c7⟩ := HS2.out.bk.facts
          obtain ⟨d0, d1, d2, d3, -⟩ := FP.out.facts
          have ne0 : p ≠ w.heap.size := by have := PL.out; have := HS.out.bk.lt; omega
          clear hb
          go_wp2_with fail
          go_roundw
          case rel => exact ⟨i + 1, n + wt, pl, pa, ts, cs, rfl, by go_num, by omega, by have := HT.out; omega, HO.out, by have := M.out; omega, M.out.2.2, HH.out, HS2.out.store _ _ _ _⟩
          case measure => simp [RowKit.intOf]; omega
    · obtain rfl : i = L.length := by omega
      obtain ⟨a6, c6, rfl, r6⟩ := own_ints hst.rt
      obtain ⟨a7, c7, rfl, r7⟩ := own_ints hst.rc
      obtain ⟨wq, hwq⟩ : ∃ wq, wq = wr := ⟨_, rfl⟩
      subst hwq
      have R6 := Lib.hid r6
      have R7 := Lib.hid r7
      have hts : ts.length ≤ 40 := by have := HK.out; omega
      have hts2 : (ts.length : Int) ≤ 40 := by omega
      have hRU := okB_of hok
      have HL2 := Lib.hid hh.len
      have BQ := Lib.hid hst.bel
      obtain ⟨c0, c1, -⟩ := hst.bk.facts
      have CQ := Lib.hid (And.intro c0 (And.intro c1 hst.bk.lt))
      clear r6 r7 hst hh hok hti hi1 c0 c1
      go_wp2_with fail
      go_loopw [11] (fun s11 wx => ∃ j : Nat, s11 = .int .i64 (j : Int) ∧ j ≤ ts.length ∧ Below wq.heap.size wq wx) (fun s11 _ => ts.length - (RowKit.intOf s11).toNat)
      case atStart => exact ⟨0, rfl, Nat.zero_le _, Below.refl _ _⟩
      case round =>
        obtain ⟨j, rfl, hj, hbq⟩ := hrel
        by_cases hjl : j < ts.length
        · have hj2 : (j : Int) < (ts.length : Int) := by omega
          obtain ⟨wp, hwp⟩ : ∃ wp, wp = wr := ⟨_, rfl⟩
          subst hwp
          have BP := Lib.hid hbq
          clear hbq hj
          go_wp2_with fail
          go_loopw [12, 13] (fun s12 s13 wx => ∃ k : Nat, s13 = .int .i64 (k : Int) ∧ s12 = .int .i64 (sumI ((cs.drop j).take (k - j))) ∧ j ≤ k ∧ k ≤ ts.length ∧ Below wq.heap.size wq wx) (fun _ s13 _ => ts.length - (RowKit.intOf s13).toNat)
          case atStart => exact ⟨j, rfl, by rw [Nat.sub_self]; rfl, Nat.le_refl _, by omega, BP.out⟩
          case round =>
            obtain ⟨k, rfl, rfl, hjk, hkl, hb⟩ := hrel
            by_cases hk3 : k < ts.length
            · have hk4 : (k : Int) < (ts.length : Int) := by omega
              have hk5 : (k : Int) < (cs.length : Int) := by have := HL2.out; omega
              obtain ⟨b6, rfl, l6, x6⟩ := R6.out j hjl
              obtain ⟨b6', e6, _, y6⟩ := R6.out k hk3
              injection e6 with e6
              injection e6 with e6
              subst e6
              obtain ⟨b7, rfl, l7, x7⟩ := R7.out k (by have := HL2.out; omega)
              have x6 := (hb.cell (p := ⟨b6, j, none⟩) l6).trans x6
              have y6 := (hb.cell (p := ⟨b6, k, none⟩) l6).trans y6
              have x7 := (hb.cell (p := ⟨b7, k, none⟩) l7).trans x7
              have c0 := (hb.cell (p := ⟨w.heap.size, 0, none⟩) CQ.out.2.2).trans CQ.out.1
              have c1 := (hb.cell (p := ⟨w.heap.size, 1, none⟩) CQ.out.2.2).trans CQ.out.2.1
              have g1 := HH.out.tm _ (List.getElem_mem hjl)
              have g2 := HH.out.tm _ (List.getElem_mem hk3)
              have g3 := HH.out.cost _ (List.getElem_mem (l := cs) (n := k) (by have := HL2.out; omega))
              have g4 := HH.out.bnd j k hk3 hjk
              have g5 : sumI ((cs.drop j).take (k + 1 - j)) = sumI ((cs.drop j).take (k - j)) + cs[k]'(by have := HL2.out; omega) := by
                rw [show k + 1 - j = (k - j) + 1 by omega, List.take_succ_eq_append_getElem (by rw [List.length_drop]; have := HL2.out; omega), sumI_append]
                simp only [sumI, List.getElem_drop, Int.add_zero]
                congr 2
                omega
              have g6 := sumI_bd ((cs.drop j).take (k - j)) (fun c hc => HH.out.cost c (List.mem_of_mem_drop (List.mem_of_mem_take hc)))
              have g7 : ((cs.drop j).take (k - j)).length ≤ 40 := by rw [List.length_take, List.length_drop]; have := HL2.out; omega
              have G8 := Lib.hid g5
              rw [g5] at g4
              obtain ⟨tj, htj⟩ : ∃ tj, tj = ts[j] := ⟨_, rfl⟩
              obtain ⟨tk, htk⟩ : ∃ tk, tk = ts[k] := ⟨_, rfl⟩
              obtain ⟨ck, hck⟩ : ∃ ck, ck = cs[k]'(by have := HL2.out; omega) := ⟨_, rfl⟩
              obtain ⟨S, hS⟩ : ∃ S, S = sumI ((cs.drop j).take (k - j)) := ⟨_, rfl⟩
              rw [← hck, ← hS] at G8
              rw [← hS] at g6 g4 ⊢
              rw [← htj] at x6 g1 g4
              rw [← htk] at y6 g2 g4
              rw [← hck] at x7 g3 g4
              have hz := hRU.2.2.2.2.2.2.2
              have q1 : wrap64 (S + ck) = S + ck := by unfold wrap64; omega
              have q2 : wrap64 (1000 * (S + ck)) = 1000 * (S + ck) := by unfold wrap64; omega
              have q3 : wrap64 (1000 * u) = 1000 * u := by unfold wrap64; omega
              have q4 : wrap64 (tk - tj) = tk - tj := by unfold wrap64; omega
              have q5 : -1125899906842624000 ≤ r * (tk - tj) ∧ r * (tk - tj) ≤ 1125899906842624000 := by
                by_cases hs : 0 ≤ tk - tj
                · have := rate_bd (r := r) (x := tk - tj) ⟨hRU.1, hRU.2.1⟩ (by omega); omega
                · have := rate_bd (r := r) (x := tj - tk) ⟨hRU.1, hRU.2.1⟩ (by omega)
                  have e : r * (tk - tj) = -(r * (tj - tk)) := by rw [← Int.mul_neg]; congr 1; omega
                  omega
              have q6 : wrap64 (r * (tk - tj)) = r * (tk - tj) := by unfold wrap64; omega
              have q7 : wrap64 (1000 * u + r * (tk - tj)) = 1000 * u + r * (tk - tj) := by unfold wrap64; omega
              have q8 : ¬ (1000 * u + r * (tk - tj) < 1000 * (S + ck)) := by omega
              have BR := Lib.hid hb
              have HJK := Lib.hid hjk
              have q0 : (0 : Int) ≤ k ∧ (0 : Int) ≤ j := by omega
              clear g1 g2 g3 g4 g5 g6 g7 htj htk hck hS hb hz q5 hjk hkl
              go_wp2_with fail
              go_quiet (fail)
              have BN := Lib.hid (below_drewN BR.out nq)
              go_wp2_with fail
              go_roundw
              case rel => exact ⟨k + 1, by go_num, by rw [G8.out], by have := HJK.out; omega, by omega, BN.out⟩
              case measure => simp [RowKit.intOf]; omega
            · have BR := Lib.hid hb
              have hk4 : k = ts.length := by omega
              clear hb
              subst hk4
              go_wp2_with fail
              go_roundw
              case rel => exact ⟨j + 1, by go_num, by omega, BR.out⟩
              case measure => simp [RowKit.intOf]; omega
        · obtain rfl : j = ts.length := by omega
          have BP := Lib.hid (BQ.out.trans (hbq.mono BQ.out.size))
          clear hbq
          go_wp2_with fail
          go_fit (lives22_any _)
          rintro e w2 ⟨rfl, hb⟩
          have B2 := Lib.hid (BP.out.trans (hb.mono BP.out.size))
          clear hb
          go_wp2_with fail
          go_ret
          exact ⟨rfl, B2.out⟩


set_option maxRecDepth 100000 in
theorem lifted (os : Os) (started : os.Started) (H : Type) (enc : TypeId × Value → H) :
    ReturnsInHanded {} Try.checked os 8 .any (Rows.budgetBoundsSpec.pre6 enc Try.prog Try.f8 Rows.budgetBoundsRow.domain false) (Rows.budgetBoundsSpec.post enc Try.prog Try.f8 false true false false) := by
  refine returnsInHanded_of_change (C := Try.checked) own started (by kernel_rfl) Try.func8
    (ChangeSpec.witness6 (enc := enc) (C := Try.checked) false ⟨#[], #[.agg #[.int .i64 0, .int .i64 0, .int .i64 0, .int .i64 0], .slice none 0 0], []⟩ 8 (by kernel_rfl) (by kernel_rfl) (by kernel_rfl) (by kernel_rfl)) ?_
  intro W base args ds gs before hval0 hW hcnd _
  have hval : ∀ (j : Nat) t v, Try.f8.params[j]? = some t → args[j]? = some v → Value.okWide Try.prog W .any base t v := hval0
  have hW' := hW
  obtain ⟨p, q, hA0, hV, rfl, hfz, hnd⟩ := hW
  have hA : DataW.TrodAll enc Try.prog W 0 (fun _ => true) true Try.f8.params.toList args.toList ds p := hA0
  rw [Try.params8] at hA hval
  obtain ⟨v0, vs0, d0, ds0, p0, q0, hargs, rfl, rfl, h0, r0⟩ := trodAll_cons hA
  obtain ⟨v1, vs1, d1, ds1, p1, q1, rfl, rfl, rfl, h1, r1⟩ := trodAll_cons r0
  obtain ⟨rfl, rfl, rfl⟩ := trodAll_nil r1
  obtain rfl : args = #[v0, v1] := by cases args; simp_all
  obtain ⟨rfl, rfl⟩ := trodVars_none hV
  have k0 := h0
  have lt0 : ∀ x ∈ p0, x.block < W.heap.size := by obtain ⟨m, hm⟩ := k0; exact DataW.trod_lt m _ _ _ hm
  obtain ⟨x0a, x0b, x0c, x0d, rfl, g0⟩ := open_bucket (hval 0 23 v0 rfl rfl) h0
  obtain ⟨a1, len1, cap1, rfl⟩ := okWide_slice Try.underlying40 (hval 1 40 v1 rfl rfl)
  have k1 := h1
  have lt1 : ∀ x ∈ p1, x.block < W.heap.size := by obtain ⟨m, hm⟩ := k1; exact DataW.trod_lt m _ _ _ hm
  obtain ⟨L1, rfl, hlen1, hr1⟩ : ∃ L : List (Int × Int), len1 = L.length ∧ L.length ≤ 9223372036854775807 ∧ ReadsA W a1 L := by
    obtain ⟨fuel, hf⟩ := h1
    exact open_acts fuel a1 len1 cap1 _ (by simpa [Value.cells] using hf)
  clear hA0 hval0
  refine (walk x0a x0b x0c x0d a1 cap1 L1 hlen1 g0 W hr1).mono fun e W' ⟨he, bel⟩ => ?_
  subst he
  exact ⟨_, rfl, _, _, _, [], _, [], hW', trodAll_mk1 (shut_bool Try.underlying4 _), (trodAll_cons_mk (Below.trod laidOut (by kernel_rfl) (of_decide_eq_true (by kernel_rfl)) k0 bel lt0) (trodAll_cons_mk (Below.trod laidOut (by kernel_rfl) (of_decide_eq_true (by kernel_rfl)) k1 bel lt1) trodAll_mk0)), rfl, bel.frame _, fun h => by cases h⟩

theorem over : Rows.budgetBoundsRow.holds Try.pinned (OpenSpec.ofChange Rows.budgetBoundsSpec) :=
  OpenClaim.holds_of_wide 8 Try.f8 rfl rfl rfl rfl rfl rfl rfl ⟨rfl, rfl, rfl, rfl, rfl⟩ rfl rfl rfl rfl rfl (by kernel_rfl) Try.func8 (by kernel_rfl)
    (of_decide_eq_true (by kernel_rfl)) (by unfold Func.isWrapper; first | (rw [if_pos (by decide +kernel)]; kernel_rfl) | (rw [if_neg (by decide +kernel)]; exact ⟨rfl, rfl⟩))
    (fun os started H enc _ => lifted os started H enc)

/-- THE STATEMENT. -/
theorem proved : Rows.BudgetBoundsSaid :=
  over
#print axioms proved
end Go.Proofs.Ytjeknocbndgikaa.budgetBounds
