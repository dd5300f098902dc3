/- The contract of valid (fairness). -/
import Derived.Test.YtmjikddceegloaaGreatDoorFrF
import Derived.Test.YtmjikddceegloaaGreatDoorIdpB
namespace Go.Proofs.YtmjikddceegloaaGreatDoor
open Go.RowKit Go.Lib
set_option linter.unusedSimpArgs false

theorem PrevS.t {w1 w2 w3 : World} {b o p : Nat} {s t : ByteArray} {x y : Value} (z : b < w1.heap.size) (h : w2.cell? ⟨b, o, none⟩ = some (.string s) ∧ w2.cell? ⟨p, 0, none⟩ = some (.string t) ∧ ThH w2 p (.string t) x y ∧ Below w1.heap.size w1 w2) (hb : Below w2.heap.size w2 w3) :
    w3.cell? ⟨b, o, none⟩ = some (.string s) ∧ w3.cell? ⟨p, 0, none⟩ = some (.string t) ∧ ThH w3 p (.string t) x y ∧ Below w1.heap.size w1 w3 :=
  ⟨(hb.cell (p := ⟨b, o, none⟩) (Nat.lt_of_lt_of_le z h.2.2.2.size)).trans h.1, (h.2.2.1.below hb).facts.1, h.2.2.1.below hb, h.2.2.2.trans (hb.mono h.2.2.2.size)⟩
theorem PrevS.b {w1 w2 : World} {b o p : Nat} {s t : ByteArray} {x y : Value} (h : w2.cell? ⟨b, o, none⟩ = some (.string s) ∧ w2.cell? ⟨p, 0, none⟩ = some (.string t) ∧ ThH w2 p (.string t) x y ∧ Below w1.heap.size w1 w2) : Below w1.heap.size w1 w2 := h.2.2.2
set_option maxHeartbeats 8000000 in
set_option maxRecDepth 100000 in
theorem valid_any (vv : Option Addr) (cap : Nat) (L : List Sha) (b : Bool) (hb : b = true ↔ ValidS L) (hlen : L.length ≤ 1000000) (hx : ∀ x ∈ L, x.prj.length ≤ 1000000) (w : World) (hr : ReadsH w vv L) :
    Calls Tryz.prog 23 #[.slice vv L.length cap] w fun e w' => e = .returned (.bool b) ∧ Below w.heap.size w w' := by
  have HR := Lib.hid hr
  have HX := Lib.hid hx
  have HB := Lib.hid hb
  clear hr hx hb
  by_cases h64 : 64 < L.length
  · obtain rfl : b = false := by
      cases b
      · rfl
      · have := (HB.out.1 rfl).len; omega
    have g0 : (64 : Int) < (L.length : Int) := by omega
    go_enter Tryz.func23, Tryz.ntmps23
    go_wp2_with fail
    go_ret
    exact ⟨rfl, Below.refl _ _⟩
  have g0 : ¬ (64 : Int) < (L.length : Int) := by omega
  go_enter Tryz.func23, Tryz.ntmps23
  go_wp2_with fail
  go_loopw [10] (fun s10 wr => ∃ j : Nat, j ≤ L.length ∧ s10 = .int .i64 (j : Int) ∧ Hid (∀ i, i < j → OkAt L i) ∧ Hid (Below w.heap.size w wr)) (fun s10 _ => L.length - (RowKit.intOf s10).toNat)
  case atStart => exact ⟨0, by omega, rfl, Lib.hid (fun i h => absurd h (Nat.not_lt_zero _)), Lib.hid (Below.refl _ _)⟩
  case round =>
    obtain ⟨j, hj, rfl, HO, BE⟩ := hrel
    by_cases hlt : j < L.length
    · obtain ⟨bk, off, rfl, hbl, c0, c1, c2⟩ := HR.out j hlt
      replace c0 := (BE.out.cell (p := ⟨bk, _, none⟩) hbl).trans c0
      replace c1 := (BE.out.cell (p := ⟨bk, _, none⟩) hbl).trans c1
      replace c2 := (BE.out.cell (p := ⟨bk, _, none⟩) hbl).trans c2
      have PV := HR
      have hxl := HX.out _ (List.getElem_mem hlt)
      have hjj : (j : Int) < (L.length : Int) := by omega
      have hj0 : (0 : Int) ≤ (j : Int) := by omega
      obtain ⟨s, hs⟩ : ∃ s, s = L[j] := ⟨_, rfl⟩
      rw [← hs] at c0 c1 c2 hxl
      have HS := Lib.hid hs
      have HRI := Lib.hid (rightS_iff s)
      clear hs
      obtain ⟨pl, g, v⟩ := s
      dsimp only at c0 c1 c2 hxl
      obtain ⟨sx, hsx⟩ : ∃ s : ByteArray, s = ⟨pl.toArray⟩ := ⟨_, rfl⟩
      rw [← hsx] at c0
      have hsl : sx.size ≤ 1000000 := by rw [hsx]; show pl.toArray.size ≤ _; simpa using hxl
      have HSX := Lib.hid (show sx.data.toList = pl by rw [hsx])
      have N := fun w => idName_any sx (by omega) w
      rw [HSX.out] at N
      clear hsx hxl
      cases hn : nameB pl
      · rw [hn] at N
        have N := Lib.hid N
        obtain rfl : b = false := by
          cases b
          · rfl
          · exact absurd (((HB.out.1 rfl).ok j hlt)) (by rintro ⟨h1, _⟩; rw [← HS.out, HRI.out] at h1; rw [h1.1] at hn; cases hn)
        clear hn
        go_wp2_with fail
        go_fit (N.out _)
        rintro e w2 ⟨rfl, hb⟩
        have T2 := (ThH.new wr (.string sx) (.int .i64 g) (.int .i64 v)).below hb
        have B2 := (BE.out.alloc BE.out.size (.cells #[.string sx, .int .i64 g, .int .i64 v] 41)).trans (hb.mono (by have := BE.out.size; simp; omega))
        have P2 := PV.out.below ((BE.out.alloc BE.out.size (.cells #[.string sx, .int .i64 g, .int .i64 v] 41)).trans (hb.mono (by have := BE.out.size; simp; omega)))
        obtain ⟨t0, t1, t2⟩ := T2.facts
        have TH := Lib.hid T2
        have B2 := Lib.hid B2
        have P2 := Lib.hid P2
        clear hb T2 c0 c1 c2
        go_wp2_with fail
        go_ret
        exact ⟨rfl, B2.out⟩
      rw [hn] at N
      have N := Lib.hid N
      by_cases hg : ¬ (1 ≤ g ∧ g ≤ 1000)
      · have W := fun w => wgt_any g w
        rw [decide_eq_false hg] at W
        have W := Lib.hid W
        obtain rfl : b = false := by
          cases b
          · rfl
          · exact absurd (((HB.out.1 rfl).ok j hlt)) (by rintro ⟨h1, _⟩; rw [← HS.out, HRI.out] at h1; exact hg h1.2.1)
        clear hn hg
        go_wp2_with fail
        go_fit (N.out _)
        rintro e w2 ⟨rfl, hb⟩
        have T2 := (ThH.new wr (.string sx) (.int .i64 g) (.int .i64 v)).below hb
        have B2 := (BE.out.alloc BE.out.size (.cells #[.string sx, .int .i64 g, .int .i64 v] 41)).trans (hb.mono (by have := BE.out.size; simp; omega))
        have P2 := PV.out.below ((BE.out.alloc BE.out.size (.cells #[.string sx, .int .i64 g, .int .i64 v] 41)).trans (hb.mono (by have := BE.out.size; simp; omega)))
        obtain ⟨t0, t1, t2⟩ := T2.facts
        have TH := Lib.hid T2
        have B2 := Lib.hid B2
        have P2 := Lib.hid P2
        clear hb T2 c0 c1 c2
        go_wp2_with fail
        go_fit (W.out _)
        rintro e w3 ⟨rfl, rfl⟩
        go_wp2_with fail
        go_ret
        exact ⟨rfl, B2.out⟩
      replace hg := Classical.not_not.1 hg
      have W := fun w => wgt_any g w
      rw [decide_eq_true hg] at W
      have W := Lib.hid W
      have hg' := Lib.hid hg
      clear hg
      by_cases hv1 : v < 0
      · obtain rfl : b = false := by
          cases b
          · rfl
          · exact absurd (((HB.out.1 rfl).ok j hlt)) (by rintro ⟨h1, _⟩; rw [← HS.out, HRI.out] at h1; have := h1.2.2.1; dsimp only at this; omega)
        clear hn
        go_wp2_with fail
        go_fit (N.out _)
        rintro e w2 ⟨rfl, hb⟩
        have T2 := (ThH.new wr (.string sx) (.int .i64 g) (.int .i64 v)).below hb
        have B2 := (BE.out.alloc BE.out.size (.cells #[.string sx, .int .i64 g, .int .i64 v] 41)).trans (hb.mono (by have := BE.out.size; simp; omega))
        have P2 := PV.out.below ((BE.out.alloc BE.out.size (.cells #[.string sx, .int .i64 g, .int .i64 v] 41)).trans (hb.mono (by have := BE.out.size; simp; omega)))
        obtain ⟨t0, t1, t2⟩ := T2.facts
        have TH := Lib.hid T2
        have B2 := Lib.hid B2
        have P2 := Lib.hid P2
        clear hb T2 c0 c1 c2
        go_wp2_with fail
        go_fit (W.out _)
        rintro e w3 ⟨rfl, rfl⟩
        go_wp2_with fail
        go_ret
        exact ⟨rfl, B2.out⟩
      by_cases hv2 : 1125899906842624 < v
      · obtain rfl : b = false := by
          cases b
          · rfl
          · exact absurd (((HB.out.1 rfl).ok j hlt)) (by rintro ⟨h1, _⟩; rw [← HS.out, HRI.out] at h1; have := h1.2.2.2; dsimp only at this; omega)
        clear hn
        go_wp2_with fail
        go_fit (N.out _)
        rintro e w2 ⟨rfl, hb⟩
        have T2 := (ThH.new wr (.string sx) (.int .i64 g) (.int .i64 v)).below hb
        have B2 := (BE.out.alloc BE.out.size (.cells #[.string sx, .int .i64 g, .int .i64 v] 41)).trans (hb.mono (by have := BE.out.size; simp; omega))
        have P2 := PV.out.below ((BE.out.alloc BE.out.size (.cells #[.string sx, .int .i64 g, .int .i64 v] 41)).trans (hb.mono (by have := BE.out.size; simp; omega)))
        obtain ⟨t0, t1, t2⟩ := T2.facts
        have TH := Lib.hid T2
        have B2 := Lib.hid B2
        have P2 := Lib.hid P2
        clear hb T2 c0 c1 c2
        go_wp2_with fail
        go_fit (W.out _)
        rintro e w3 ⟨rfl, rfl⟩
        go_wp2_with fail
        go_ret
        exact ⟨rfl, B2.out⟩
      have HRT := Lib.hid (show rightS (L[j]'hlt) = true from by
        rw [← HS.out, HRI.out]
        exact ⟨hn, hg'.out, by dsimp only; omega⟩)
      clear hn
      cases j with
      | zero =>
        have HN := Lib.hid (show ∀ i, i < 1 → OkAt L i from fun i hi => by
          obtain rfl : i = 0 := by omega
          exact fun h => ⟨HRT.out, fun h0 => absurd h0 (Nat.lt_irrefl _)⟩)
        have hgd : decide ((0 : Int) < 0) = false := by decide
        simp only [Nat.zero_mul, Nat.add_zero] at c0 c1 c2
        go_wp2_with fail
        go_fit (N.out _)
        rintro e w2 ⟨rfl, hb⟩
        have T2 := (ThH.new wr (.string sx) (.int .i64 g) (.int .i64 v)).below hb
        have B2 := (BE.out.alloc BE.out.size (.cells #[.string sx, .int .i64 g, .int .i64 v] 41)).trans (hb.mono (by have := BE.out.size; simp; omega))
        have P2 := PV.out.below ((BE.out.alloc BE.out.size (.cells #[.string sx, .int .i64 g, .int .i64 v] 41)).trans (hb.mono (by have := BE.out.size; simp; omega)))
        obtain ⟨t0, t1, t2⟩ := T2.facts
        have TH := Lib.hid T2
        have B2 := Lib.hid B2
        have P2 := Lib.hid P2
        clear hb T2 c0 c1 c2
        go_wp2_with fail
        go_fit (W.out _)
        rintro e w3 ⟨rfl, rfl⟩
        go_upto_region 8 with fail
        go_quiet (fail)
        have BQ := Lib.hid (below_drewN B2.out nq)
        go_wp2_with fail
        exact ⟨⟨1, by omega, by go_num, HN, BQ⟩, by simp [RowKit.intOf]; omega⟩
      | succ i =>
        obtain ⟨b', off', e', _, p0, _, _⟩ := HR.out i (by omega)
        injection e' with e'
        injection e' with e1 e2
        subst e1 e2
        have hil := HX.out _ (List.getElem_mem (show i < L.length by omega))
        obtain ⟨sp, hsp⟩ : ∃ s : ByteArray, s = ⟨(L[i]'(by omega)).prj.toArray⟩ := ⟨_, rfl⟩
        rw [← hsp] at p0
        have P0 := Lib.hid p0
        have C := fun w => idCompare_any sp sx (by rw [hsp]; show (L[i]'(by omega)).prj.toArray.size ≤ _; simp; omega) (by omega) w
        rw [HSX.out, show sp.data.toList = (L[i]'(by omega)).prj by rw [hsp]] at C
        have HCP := Lib.hid (show cmpL (L[i]'(by omega)).prj (L[i + 1]'hlt).prj = cmpL (L[i]'(by omega)).prj pl by rw [← HS.out])
        clear hsp hil
        have q2 : IntKind.i64.wrap ((i : Int) + 1 - 1) = (i : Int) := by rw [IntWalk.i64_in _ (by omega)]; omega
        have q4 : (0 : Int) < (i : Int) + 1 := by omega
        have q5 : (0 : Int) ≤ (i : Int) ∧ (i : Int) < (L.length : Int) := by omega
        have q6 : (i : Int) + 1 < (L.length : Int) := by omega
        have q7 : (0 : Int) ≤ (i : Int) + 1 := by omega
        have q3 : ((i : Int) + 1).toNat = i + 1 := by omega
        have q8 : IntKind.i64.wrap (i : Int) = (i : Int) := IntWalk.i64_in _ (by omega)
        have q9 : ((i : Int) + 1 - 1) = (i : Int) := by omega
        have HNL := Lib.hid (fun (h : cmpL (L[i]'(by omega)).prj pl < 0) => show ∀ k, k < i + 1 + 1 → OkAt L k from fun k hk => by
          by_cases hki : k = i + 1
          · subst hki
            exact fun h' => ⟨HRT.out, fun _ => by rw [← HCP.out] at h; exact h⟩
          · exact HO.out k (by omega))
        have HNO := Lib.hid (fun (h : ¬ cmpL (L[i]'(by omega)).prj pl < 0) => show b = false by
          cases b
          · rfl
          · have := (((HB.out.1 rfl).ok (i + 1) hlt)).2 (by omega)
            exact absurd (by rw [← HCP.out]; exact this) h)
        clear HCP
        generalize cmpL (L[i]'(by omega)).prj pl = cv at *
        have C := Lib.hid C
        go_wp2_with fail
        go_fit (N.out _)
        rintro e w2 ⟨rfl, hb⟩
        have T2 := (ThH.new wr (.string sx) (.int .i64 g) (.int .i64 v)).below hb
        have B2 := (BE.out.alloc BE.out.size (.cells #[.string sx, .int .i64 g, .int .i64 v] 41)).trans (hb.mono (by have := BE.out.size; simp; omega))
        have P2 := PV.out.below ((BE.out.alloc BE.out.size (.cells #[.string sx, .int .i64 g, .int .i64 v] 41)).trans (hb.mono (by have := BE.out.size; simp; omega)))
        obtain ⟨t0, t1, t2⟩ := T2.facts
        have TH := Lib.hid T2
        have B2 := Lib.hid B2
        have P2 := Lib.hid P2
        clear hb T2 c0 c1 c2
        go_wp2_with fail
        go_fit (W.out _)
        rintro e w3 ⟨rfl, rfl⟩
        go_upto_region 8 with fail
        have hbw : bk < w.heap.size := hbl
        have hpp := (B2.out.cell (p := ⟨bk, _, none⟩) hbl).trans P0.out
        have hbr : bk < w2.heap.size := Nat.lt_of_lt_of_le hbl B2.out.size
        have hs1 := PrevS.t (b := bk) (o := off + i * 3) (s := sp) hbr ⟨hpp, t0, TH.out, Below.refl w2.heap.size w2⟩ (Below.refl w2.heap.size w2).drew
        clear hpp t0 t1 t2
        generalize wr.heap.size = pp at *
        go_region_held3 (fun w' => w'.cell? ⟨bk, off + i * 3, none⟩ = some (.string sp) ∧ w'.cell? ⟨pp, 0, none⟩ = some (.string sx) ∧ ThH w' pp (.string sx) (.int .i64 g) (.int .i64 v) ∧ Below w2.heap.size w2 w') (first | exact hs1 | assumption | exact PrevS.t hbr (by assumption) (by assumption)) (first | (go_at_call 43; go_fit (C.out _); rintro e w6 ⟨rfl, hb6⟩))
        all_goals
          have B6 := Lib.hid (B2.out.trans ((PrevS.b (w1 := w2) (w2 := w6) (b := bk) (o := off + i * 3) (p := pp) (s := sp) (t := sx) (x := .int .i64 g) (y := .int .i64 v) (by assumption)).mono B2.out.size))
          by_cases hcv : cv < 0
          · have HN := Lib.hid (HNL.out hcv)
            have u1 : ¬ (0 : Int) ≤ cv := by omega
            clear q2 q4 q3 q7 q8 q9
            go_wp2_with fail
            exact ⟨⟨i + 1 + 1, by omega, by go_num, HN, B6⟩, by simp [RowKit.intOf]; omega⟩
          · obtain rfl := HNO.out (by omega)
            have u1 : (0 : Int) ≤ cv := by omega
            clear q2 q4 q3 q7 q8 q9
            go_wp2_with fail
            go_ret
            exact ⟨rfl, B6.out⟩
    · obtain rfl : j = L.length := by omega
      obtain rfl : b = true := HB.out.2 ⟨by omega, fun i h => HO.out i h h⟩
      go_wp2_with fail
      go_ret
      exact ⟨rfl, BE.out⟩
end Go.Proofs.YtmjikddceegloaaGreatDoor
