/- The document's Pick and the statement's short (fairness). -/
import Derived.Test.YtbjodcjfaeclmaaGreatDoorFsA
namespace Go.Proofs.YtbjodcjfaeclmaaGreatDoor
open Go.RowKit Go.Lib Go.Sort
set_option linter.unusedSimpArgs false

structure ShortS (P : List (List UInt8)) : Prop where
  len : P.length ≤ 100
  names : ∀ i (h : i < P.length), P[i].length ≤ 100
set_option maxRecDepth 100000 in
set_option maxHeartbeats 4000000 in
theorem short_any (v : Option Addr) (c : Nat) (P : List (List UInt8)) (b : Bool) (hb : b = true ↔ ShortS P) (_ : P.length ≤ 9223372036854775807) (w : World) (hr : ReadsStr w v P) :
    Calls Tryz.prog 16 #[.slice v P.length c] w fun e w' => e = .returned (.bool b) ∧ w' = w := by
  have HR := Lib.hid hr
  have HB := Lib.hid hb
  clear hr hb
  go_enter Tryz.func16, Tryz.ntmps16
  go_wp2_with fail
  go_loopw [3] (fun s3 wr => ∃ j : Nat, j ≤ P.length ∧ j ≤ 100 ∧ s3 = .int .i64 (j : Int) ∧ Hid (∀ i (h : i < P.length), i < j → P[i].length ≤ 100) ∧ Hid (wr = w)) (fun s3 _ => P.length - (RowKit.intOf s3).toNat)
  case atStart => exact ⟨0, by omega, by omega, rfl, Lib.hid (by omega), Lib.hid rfl⟩
  case round =>
    obtain ⟨j, hj, hj66, rfl, HD, HW⟩ := hrel
    obtain rfl := HW.out
    by_cases hlt : j < P.length
    · have hjI : (j : Int) < (P.length : Int) := by omega
      have hj0 : (0 : Int) ≤ (j : Int) := by omega
      by_cases h66 : j < 100
      · have h66I : (j : Int) < 100 := by omega
        obtain ⟨bk, off, rfl, hbl, c0⟩ := HR.out j hlt
        have hsz : (⟨P[j].toArray⟩ : ByteArray).size = P[j].length := by show P[j].toArray.size = _; simp
        by_cases hn : P[j].length ≤ 100
        · have HN := Lib.hid (show ∀ i (h : i < P.length), i < j + 1 → P[i].length ≤ 100 from fun i hi h => by
            by_cases e : i < j
            · exact HD.out i hi e
            · obtain rfl : i = j := by omega
              exact hn)
          generalize (⟨P[j].toArray⟩ : ByteArray) = sx at *
          have hq : ¬ (100 : Int) < (sx.size : Int) := by omega
          clear hn hsz HD
          go_wp2_with fail
          exact ⟨⟨j + 1, by omega, by omega, by go_num, HN, Lib.hid trivial⟩, by simp [RowKit.intOf]; omega⟩
        · obtain rfl : b = false := by
            cases b
            · rfl
            · exact absurd ((HB.out.1 rfl).names j hlt) hn
          generalize (⟨P[j].toArray⟩ : ByteArray) = sx at *
          have hq : (100 : Int) < (sx.size : Int) := by omega
          clear hn hsz HD
          go_wp2_with fail
          go_ret
          exact ⟨rfl, rfl⟩
      · have h66I : ¬ (j : Int) < 100 := by omega
        obtain rfl : b = false := by
          cases b
          · rfl
          · have := (HB.out.1 rfl).len
            omega
        have hq : ¬ (P.length : Int) ≤ 100 := by omega
        clear HD
        go_wp2_with fail
        go_ret
        exact ⟨rfl, rfl⟩
    · obtain rfl : j = P.length := by omega
      obtain rfl : b = true := HB.out.2 ⟨hj66, fun i h => HD.out i h h⟩
      have hq : (P.length : Int) ≤ 100 := by omega
      clear HD
      go_wp2_with fail
      go_ret
      exact ⟨rfl, rfl⟩

def RPickPost (L : List Sha) (P : List (List UInt8)) (w : World) (e : Ending) (w' : World) : Prop := ∃ i : Int, ((¬ ValidS L ∧ i = -1) ∨ (ValidS L ∧ BestI L P i)) ∧ e = .returned (.tuple #[.string ⟨(outB L i).1.toArray⟩, .bool (outB L i).2]) ∧ Below w.heap.size w w'
theorem ValidS.numS {L : List Sha} (h : ValidS L) {i : Nat} (hi : i < L.length) : NumS L[i] := by
  have := h.right hi
  unfold NumS I64
  omega
attribute [local irreducible] wpQuiet outB
set_option maxRecDepth 100000 in
set_option maxHeartbeats 8000000 in
theorem refPick_any (v : Option Addr) (cap : Nat) (L : List Sha) (vp : Option Addr) (cp : Nat) (P : List (List UInt8)) (hlen : L.length ≤ 1000000) (hx : ∀ x ∈ L, x.prj.length ≤ 1000000) (hpl : P.length ≤ 1000000) (w : World) (hr : ReadsH w v L) (hp : ReadsStr w vp P) :
    Calls Tryz.prog 18 #[.slice v L.length cap, .slice vp P.length cp] w (RPickPost L P w) := by
  have HR := Lib.hid hr
  have HP := Lib.hid hp
  have hmx : Tryz.prog.follows .mixedOrders = true := by kernel_rfl
  by_cases hV : ValidS L
  · have VA := Lib.hid (fun w' (hb : Below w.heap.size w w') => refValid_any v cap L true ⟨fun _ => hV, fun _ => rfl⟩ hlen hx w' (hr.below hb))
    have FI := Lib.hid (fun key w' (hb : Below w.heap.size w w') => refFind_any v cap L key hlen w' (hr.below hb))
    have HV := Lib.hid hV
    clear hr hp hx hV
    go_enter Tryz.func18, Tryz.ntmps18
    go_wp2_with fail
    go_loopw [6, 7] (fun s6 s7 wr => ∃ (i : Int) (j : Nat), j ≤ P.length ∧ s7 = .int .i64 (j : Int) ∧ s6 = .int .i64 i ∧ Hid (BestI L (P.take j) i) ∧ Hid (Below w.heap.size w wr)) (fun _ s7 _ => P.length - (RowKit.intOf s7).toNat)
    case atStart => exact ⟨-1, 0, by omega, rfl, rfl, Lib.hid (.inl ⟨rfl, fun t h hm => by simp at hm⟩), Lib.hid (Below.refl _ _)⟩
    case round =>
      obtain ⟨i, j, hj, rfl, rfl, HI, HB⟩ := hrel
      by_cases hlt : j < P.length
      · have hjI : (j : Int) < (P.length : Int) := by omega
        have hj0 : (0 : Int) ≤ (j : Int) := by omega
        obtain ⟨bk, off, rfl, hbl, c0⟩ := HP.out j hlt
        have HT := Lib.hid (show P.take (j + 1) = P.take j ++ [P[j]] from (List.take_append_getElem hlt).symm)
        obtain ⟨sx, hsx⟩ : ∃ s : ByteArray, s = ⟨P[j].toArray⟩ := ⟨_, rfl⟩
        rw [← hsx] at c0
        have HSX := Lib.hid (show sx.data.toList = P[j] by rw [hsx])
        clear hsx
        go_wp2_with fail
        go_fit (VA.out _ HB.out)
        rintro e w1 ⟨rfl, hb⟩
        have B1 := Lib.hid (HB.out.trans (hb.mono HB.out.size))
        replace c0 := (B1.out.cell (p := ⟨bk, _, none⟩) hbl).trans c0
        clear hb
        go_wp2_with fail
        go_fit (FI.out _ _ B1.out)
        rintro e w2 ⟨q, rfl, rfl, hf⟩
        rw [HSX.out] at hf
        rcases hf with ⟨rfl, hn⟩ | ⟨k, rfl, hk, hkp, _⟩
        · have HN := Lib.hid (show BestI L (P.take (j + 1)) i by rw [HT.out]; exact HI.out.skip _ hn)
          clear hn
          have u1 : decide ((0 : Int) ≤ -1) = false := by decide
          go_upto_region 6 with fail
          refine wp_region_quiet_below hmx (by kernel_rfl) ?_
          repeat (quiet_step (fail))
          refine wpQuiet_nil ?_
          rintro _ ⟨⟨dq, osq⟩, rfl⟩
          have BQ := Lib.hid (B1.out.trans ((below_regrown w2 dq osq).mono B1.out.size))
          go_wp2_with fail
          exact ⟨⟨i, j + 1, by omega, by go_num, rfl, HN, BQ⟩, by simp [RowKit.intOf]; omega⟩
        · have hk0 : (0 : Int) ≤ (k : Int) := by omega
          have hkI : (k : Int) < (L.length : Int) := by omega
          by_cases hi : i < 0
          · have HN := Lib.hid (show BestI L (P.take (j + 1)) (k : Int) by
              have e : i = -1 := by rcases HI.out with ⟨e, _⟩ | ⟨k', e, _⟩ <;> omega
              rw [HT.out, ← hkp]
              exact (e ▸ HI.out).first HV.out k hk)
            clear hkp
            go_upto_region 6 with fail
            refine wp_region_quiet_below hmx (by kernel_rfl) ?_
            repeat (quiet_step (fail))
            refine wpQuiet_nil ?_
            rintro _ ⟨⟨dq, osq⟩, rfl⟩
            have BQ := Lib.hid (B1.out.trans ((below_regrown w2 dq osq).mono B1.out.size))
            go_wp2_with fail
            exact ⟨⟨(k : Int), j + 1, by omega, by go_num, rfl, HN, BQ⟩, by simp [RowKit.intOf]; omega⟩
          · obtain ⟨b, rfl, hbL⟩ : ∃ b : Nat, i = (b : Int) ∧ b < L.length := by
              rcases HI.out with ⟨e, _⟩ | ⟨k', e, hk', _⟩
              · omega
              · exact ⟨k', e, hk'⟩
            have hb0 : (0 : Int) ≤ (b : Int) := by omega
            have hbI : (b : Int) < (L.length : Int) := by omega
            obtain ⟨b1, o1, rfl, g1, x0, x1, x2⟩ := (HR.out.below B1.out) k hk
            obtain ⟨b2, o2, e2, g2, y0, y1, y2⟩ := (HR.out.below B1.out) b hbL
            injection e2 with e2
            injection e2 with e2 e3
            subst e2 e3
            have BF := fun w => before_any L[k] L[b] (HV.out.numS hk) (HV.out.numS hbL) (by have := HV.out.plen hk; omega) (by have := HV.out.plen hbL; omega) w
            unfold shV at BF
            have HY := Lib.hid (fun (h : befC L[k] L[b] < 0) => show BestI L (P.take (j + 1)) (k : Int) by
              rw [HT.out, ← hkp]
              exact HI.out.better HV.out hbL k hk h)
            have HZ := Lib.hid (fun (h : ¬ befC L[k] L[b] < 0) => show BestI L (P.take (j + 1)) (b : Int) by
              rw [HT.out, ← hkp]
              exact HI.out.keep HV.out hbL k hk h)
            clear hkp
            generalize (⟨L[k].prj.toArray⟩ : ByteArray) = s1 at *
            generalize (⟨L[b].prj.toArray⟩ : ByteArray) = s2 at *
            generalize befC L[k] L[b] = bv at *
            generalize L[k].wgt = a1 at *
            generalize L[b].wgt = a2 at *
            generalize L[k].srv = d1 at *
            generalize L[b].srv = d2 at *
            have k0 := cell_regrown x0
            have k1 := cell_regrown x1
            have k2 := cell_regrown x2
            have l0 := cell_regrown y0
            have l1 := cell_regrown y1
            have l2 := cell_regrown y2
            have cB : ∀ d os, Calls Tryz.prog 40 #[.agg #[.string s1, .int .i64 a1, .int .i64 d1], .agg #[.string s2, .int .i64 a2, .int .i64 d2]] (grow (redrawn w2 d) os) fun e w'' => e = .returned (.bool (decide (bv < 0))) ∧ ∃ p : Regrown, w'' = grow (redrawn w2 p.d) p.os := fun d os => Calls.regrown_of (BF _)
            clear BF
            have hi' : ¬ (b : Int) < 0 := hi
            by_cases hbv : bv < 0
            · have HN := Lib.hid (HY.out hbv)
              rw [decide_eq_true hbv] at cB
              clear hbv
              go_upto_region 6 with fail
              refine wp_region_quiet_below hmx (by kernel_rfl) ?_
              repeat (quiet_step (first | exact cB _ _))
              refine wpQuiet_nil ?_
              rintro _ ⟨⟨dq, osq⟩, rfl⟩
              have BQ := Lib.hid (B1.out.trans ((below_regrown w2 dq osq).mono B1.out.size))
              go_wp2_with fail
              exact ⟨⟨(k : Int), j + 1, by omega, by go_num, rfl, HN, BQ⟩, by simp [RowKit.intOf]; omega⟩
            · have HN := Lib.hid (HZ.out hbv)
              rw [decide_eq_false hbv] at cB
              clear hbv
              go_upto_region 6 with fail
              refine wp_region_quiet_below hmx (by kernel_rfl) ?_
              repeat (quiet_step (first | exact cB _ _))
              refine wpQuiet_nil ?_
              rintro _ ⟨⟨dq, osq⟩, rfl⟩
              have BQ := Lib.hid (B1.out.trans ((below_regrown w2 dq osq).mono B1.out.size))
              go_wp2_with fail
              exact ⟨⟨(b : Int), j + 1, by omega, by go_num, rfl, HN, BQ⟩, by simp [RowKit.intOf]; omega⟩
      · obtain rfl : j = P.length := by omega
        have HN := Lib.hid (show BestI L P i by have := HI.out; rwa [List.take_length] at this)
        by_cases hi : i < 0
        · have HF := Lib.hid (show Ending.returned (.tuple #[.string ⟨#[]⟩, .bool false]) = .returned (.tuple #[.string ⟨(outB L i).1.toArray⟩, .bool (outB L i).2]) by
            unfold outB
            rw [dif_neg (by omega)])
          clear HI
          go_wp2_with fail
          go_ret2
          exact ⟨i, .inr ⟨HV.out, HN.out⟩, HF.out, HB.out⟩
        · obtain ⟨b, rfl, hbL⟩ : ∃ b : Nat, i = (b : Int) ∧ b < L.length := by
            rcases HI.out with ⟨e, _⟩ | ⟨k', e, hk', _⟩
            · omega
            · exact ⟨k', e, hk'⟩
          have hb0 : (0 : Int) ≤ (b : Int) := by omega
          have hbI : (b : Int) < (L.length : Int) := by omega
          obtain ⟨b1, o1, rfl, g1, x0, _, _⟩ := (HR.out.below HB.out) b hbL
          have HF := Lib.hid (show Ending.returned (.tuple #[.string ⟨L[b].prj.toArray⟩, .bool true]) = .returned (.tuple #[.string ⟨(outB L (b : Int)).1.toArray⟩, .bool (outB L (b : Int)).2]) by
            unfold outB
            rw [dif_pos ⟨hb0, by simpa using hbL⟩]
            rfl)
          generalize (⟨L[b].prj.toArray⟩ : ByteArray) = s2 at *
          clear HI
          go_wp2_with fail
          go_ret2
          exact ⟨(b : Int), .inr ⟨HV.out, HN.out⟩, HF.out, HB.out⟩
  · have VA := Lib.hid (fun w' (hb : Below w.heap.size w w') => refValid_any v cap L false ⟨fun h => (by cases h), fun h => absurd h hV⟩ hlen hx w' (hr.below hb))
    have HF := Lib.hid (show Ending.returned (.tuple #[.string ⟨#[]⟩, .bool false]) = .returned (.tuple #[.string ⟨(outB L (-1)).1.toArray⟩, .bool (outB L (-1)).2]) by
      unfold outB
      rw [dif_neg (by omega)])
    have HNV := Lib.hid hV
    clear hr hp hx hV
    go_enter Tryz.func18, Tryz.ntmps18
    go_wp2_with fail
    go_loopw [6, 7] (fun s6 s7 wr => s6 = .int .i64 (-1) ∧ s7 = .int .i64 0 ∧ Hid (Below w.heap.size w wr)) (fun _ _ _ => 0)
    case atStart => exact ⟨rfl, rfl, Lib.hid (Below.refl _ _)⟩
    case round =>
      obtain ⟨rfl, rfl, HB⟩ := hrel
      by_cases hlt : 0 < P.length
      · have hjI : (0 : Int) < (P.length : Int) := by omega
        go_wp2_with fail
        go_fit (VA.out _ HB.out)
        rintro e w1 ⟨rfl, hb⟩
        have B1 := Lib.hid (HB.out.trans (hb.mono HB.out.size))
        clear hb
        go_wp2_with fail
        go_ret2
        exact ⟨-1, .inl ⟨HNV.out, rfl⟩, HF.out, B1.out⟩
      · have hjI : ¬ (0 : Int) < (P.length : Int) := by omega
        go_wp2_with fail
        go_ret2
        exact ⟨-1, .inl ⟨HNV.out, rfl⟩, HF.out, HB.out⟩
end Go.Proofs.YtbjodcjfaeclmaaGreatDoor
