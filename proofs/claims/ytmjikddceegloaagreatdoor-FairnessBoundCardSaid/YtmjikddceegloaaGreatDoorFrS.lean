/- The document's Valid (fairness). -/
import Derived.Test.YtmjikddceegloaaGreatDoorFrR
import Derived.Test.YtmjikddceegloaaGreatDoorIdnH
import Derived.Lib.QuietBelow
namespace Go.Proofs.YtmjikddceegloaaGreatDoor
open Go.RowKit Go.Lib Go.Sort
set_option linter.unusedSimpArgs false

attribute [local irreducible] wpQuiet
set_option maxHeartbeats 8000000 in
set_option maxRecDepth 100000 in
theorem refValid_any (vv : Option Addr) (cap : Nat) (L : List Sha) (b : Bool) (hb : b = true ↔ ValidS L) (hlen : L.length ≤ 1000000) (hx : ∀ x ∈ L, x.prj.length ≤ 1000000) (w : World) (hr : ReadsH w vv L) :
    Calls Tryz.prog 20 #[.slice vv L.length cap] w fun e w' => e = .returned (.bool b) ∧ Below w.heap.size w w' := by
  have HR := Lib.hid hr
  have HX := Lib.hid hx
  have HB := Lib.hid hb
  clear hr hx hb
  go_enter Tryz.func20, Tryz.ntmps20
  go_wp2_with fail
  go_loopw [3] (fun s3 wr => ∃ j : Nat, j ≤ L.length ∧ s3 = .int .i64 (j : Int) ∧ Hid (∀ i, i < j → OkAt L i) ∧ Hid (Below w.heap.size w wr)) (fun s3 _ => L.length - (RowKit.intOf s3).toNat)
  case atStart => exact ⟨0, by omega, rfl, Lib.hid (fun i h => absurd h (Nat.not_lt_zero _)), Lib.hid (Below.refl _ _)⟩
  case round =>
    obtain ⟨j, hj, rfl, HO, BE⟩ := hrel
    by_cases hlt : j < L.length
    · obtain ⟨bk, off, rfl, hbl, c0, c1, c2⟩ := HR.out j hlt
      replace c0 := (BE.out.cell (p := ⟨bk, _, none⟩) hbl).trans c0
      replace c1 := (BE.out.cell (p := ⟨bk, _, none⟩) hbl).trans c1
      replace c2 := (BE.out.cell (p := ⟨bk, _, none⟩) hbl).trans c2
      have hbr : bk < wr.heap.size := Nat.lt_of_lt_of_le hbl BE.out.size
      have hxl := HX.out _ (List.getElem_mem hlt)
      have hjj : (j : Int) < (L.length : Int) := by omega
      have hj0 : (0 : Int) ≤ (j : Int) := by omega
      have RT := fun w => refRight_any L[j] hxl w
      unfold shV at RT
      obtain ⟨sx, hsx⟩ : ∃ s : ByteArray, s = ⟨L[j].prj.toArray⟩ := ⟨_, rfl⟩
      rw [← hsx] at c0 RT
      have HSX := Lib.hid (show sx.data.toList = L[j].prj by rw [hsx])
      have hsl : sx.size ≤ 1000000 := by rw [hsx]; show L[j].prj.toArray.size ≤ _; simpa using hxl
      generalize hg : L[j].wgt = g at *
      generalize hv : L[j].srv = v at *
      clear hg hv
      have k0 := cell_regrown c0
      have k1 := cell_regrown c1
      have k2 := cell_regrown c2
      have hmx : Tryz.prog.follows .mixedOrders = true := by kernel_rfl
      cases hn : rightS L[j]
      · rw [hn] at RT
        have cR : ∀ d os, Calls Tryz.prog 46 #[.agg #[.string sx, .int .i64 g, .int .i64 v]] (grow (redrawn wr d) os) fun e w'' => e = .returned (.bool false) ∧ ∃ p : Regrown, w'' = grow (redrawn wr p.d) p.os := fun d os => Calls.regrown_of (RT _)
        obtain rfl : b = false := by
          cases b
          · rfl
          · exact absurd (((HB.out.1 rfl).ok j hlt)) (by rintro ⟨h1, _⟩; rw [h1] at hn; cases hn)
        clear hn hsx hxl RT
        go_upto_region 4 with fail
        refine wp_region_quiet_below hmx (by kernel_rfl) ?_
        repeat (quiet_step (first | exact cR _ _))
        refine wpQuiet_nil ?_
        rintro _ ⟨⟨dq, osq⟩, rfl⟩
        go_wp2_with fail
        go_ret
        exact ⟨rfl, BE.out.trans ((below_regrown wr dq osq).mono BE.out.size)⟩
      · rw [hn] at RT
        have cR : ∀ d os, Calls Tryz.prog 46 #[.agg #[.string sx, .int .i64 g, .int .i64 v]] (grow (redrawn wr d) os) fun e w'' => e = .returned (.bool true) ∧ ∃ p : Regrown, w'' = grow (redrawn wr p.d) p.os := fun d os => Calls.regrown_of (RT _)
        cases j with
        | zero =>
          have HN := Lib.hid (show ∀ i, i < 1 → OkAt L i from fun i hi => by
            obtain rfl : i = 0 := by omega
            exact fun h => ⟨hn, fun h0 => absurd h0 (Nat.lt_irrefl _)⟩)
          have hgd : decide ((0 : Int) < 0) = false := by decide
          simp only [Nat.zero_mul, Nat.add_zero] at c0 c1 c2 k0 k1 k2
          clear hn hsx hxl RT
          go_upto_region 4 with fail
          refine wp_region_quiet_below hmx (by kernel_rfl) ?_
          repeat (quiet_step (first | exact cR _ _))
          refine wpQuiet_nil ?_
          rintro _ ⟨⟨dq, osq⟩, rfl⟩
          have BQ := Lib.hid (BE.out.trans ((below_regrown wr dq osq).mono BE.out.size))
          go_wp2_with fail
          exact ⟨⟨1, by omega, by go_num, HN, BQ⟩, by simp [RowKit.intOf]; omega⟩
        | succ i =>
          obtain ⟨b', off', e', _, p0, _, _⟩ := HR.out i (by omega)
          injection e' with e'
          injection e' with e1 e2
          subst e1 e2
          have hil := HX.out _ (List.getElem_mem (show i < L.length by omega))
          replace p0 := (BE.out.cell (p := ⟨bk, _, none⟩) hbl).trans p0
          obtain ⟨sp, hsp⟩ : ∃ s : ByteArray, s = ⟨(L[i]'(by omega)).prj.toArray⟩ := ⟨_, rfl⟩
          rw [← hsp] at p0
          have pk := cell_regrown p0
          have C := fun w => refCompare_any sp sx (by rw [hsp]; show (L[i]'(by omega)).prj.toArray.size ≤ _; simp; omega) (by omega) w
          rw [HSX.out, show sp.data.toList = (L[i]'(by omega)).prj by rw [hsp]] at C
          have q2 : IntKind.i64.wrap ((i : Int) + 1 - 1) = (i : Int) := by rw [IntWalk.i64_in _ (by omega)]; omega
          have q4 : (0 : Int) < (i : Int) + 1 := by omega
          have q5 : (0 : Int) ≤ (i : Int) ∧ (i : Int) < (L.length : Int) := by omega
          have q6 : (i : Int) + 1 < (L.length : Int) := by omega
          have q7 : (0 : Int) ≤ (i : Int) + 1 := by omega
          have q3 : ((i : Int) + 1).toNat = i + 1 := by omega
          have q8 : IntKind.i64.wrap (i : Int) = (i : Int) := IntWalk.i64_in _ (by omega)
          have q9 : ((i : Int) + 1 - 1) = (i : Int) := by omega
          have HNL := Lib.hid (fun (h : cmpL (L[i]'(by omega)).prj L[i + 1].prj < 0) => show ∀ k, k < i + 1 + 1 → OkAt L k from fun k hk => by
            by_cases hki : k = i + 1
            · subst hki
              exact fun h' => ⟨hn, fun _ => h⟩
            · exact HO.out k (by omega))
          have HNO := Lib.hid (fun (h : ¬ cmpL (L[i]'(by omega)).prj L[i + 1].prj < 0) => show b = false by
            cases b
            · rfl
            · exact absurd ((((HB.out.1 rfl).ok (i + 1) hlt)).2 (by omega)) h)
          generalize cmpL (L[i]'(by omega)).prj L[i + 1].prj = cv at *
          have cC : ∀ d os, Calls Tryz.prog 47 #[.string sp, .string sx] (grow (redrawn wr d) os) fun e w'' => e = .returned (.int .i64 cv) ∧ ∃ p : Regrown, w'' = grow (redrawn wr p.d) p.os := fun d os => Calls.regrown_of ((C _).mono (by rintro e w' ⟨rfl, n, rfl⟩; exact ⟨rfl, below_drewN (Below.refl _ _) n⟩))
          clear hn hsx hxl RT hsp hil C
          go_upto_region 4 with fail
          refine wp_region_quiet_below hmx (by kernel_rfl) ?_
          repeat (quiet_step (first | exact cR _ _ | exact cC _ _))
          refine wpQuiet_nil ?_
          rintro _ ⟨⟨dq, osq⟩, rfl⟩
          have BQ := Lib.hid (BE.out.trans ((below_regrown wr dq osq).mono BE.out.size))
          by_cases hcv : cv < 0
          · have HN := Lib.hid (HNL.out hcv)
            have u1 : ¬ (0 : Int) ≤ cv := by omega
            clear q2 q4 q3 q7 q8 q9
            go_wp2_with fail
            exact ⟨⟨i + 1 + 1, by omega, by go_num, HN, BQ⟩, by simp [RowKit.intOf]; omega⟩
          · obtain rfl := HNO.out (by omega)
            have u1 : (0 : Int) ≤ cv := by omega
            clear q2 q4 q3 q7 q8 q9
            go_wp2_with fail
            go_ret
            exact ⟨rfl, BQ.out⟩
    · obtain rfl : j = L.length := by omega
      by_cases h64 : L.length ≤ 64
      · obtain rfl : b = true := HB.out.2 ⟨h64, fun i h => HO.out i h h⟩
        have hI : (L.length : Int) ≤ 64 := by omega
        go_wp2_with fail
        go_ret
        exact ⟨rfl, BE.out⟩
      · obtain rfl : b = false := by
          cases b
          · rfl
          · exact absurd (HB.out.1 rfl).len h64
        have hI : ¬ (L.length : Int) ≤ 64 := by omega
        go_wp2_with fail
        go_ret
        exact ⟨rfl, BE.out⟩
end Go.Proofs.YtmjikddceegloaaGreatDoor
