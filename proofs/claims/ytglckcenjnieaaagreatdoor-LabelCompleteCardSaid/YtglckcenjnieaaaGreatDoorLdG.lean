/- The contracts of the document's Label, Valid and Need (label). -/
import Derived.Test.YtglckcenjnieaaaGreatDoorLdR
import Derived.Test.YtglckcenjnieaaaGreatDoorLdD
import Derived.Test.YtglckcenjnieaaaGreatDoorLaM
import Derived.Test.YtglckcenjnieaaaGreatDoorIdnG
import Derived.Deep.RegionHeld3
import Derived.BigQuiet
namespace Go.Proofs.YtglckcenjnieaaaGreatDoor
open Go.RowKit Go.Lib

theorem pfield0 (f n : Int) (sx : ByteArray) (w : World) : (Instr.field 36 (.agg #[.int .i64 f, .string sx, .int .i64 n]) 0).run Tryz.prog w = .ok (.int .i64 f) w := by kernel_rfl
theorem pfield1 (f n : Int) (sx : ByteArray) (w : World) : (Instr.field 36 (.agg #[.int .i64 f, .string sx, .int .i64 n]) 1).run Tryz.prog w = .ok (.string sx) w := by kernel_rfl
theorem ThrL.alloc' {w : World} {b : Nat} {t : TypeId} {x y z : Value} (h : ThrL w b t x y z) (o : Obj) : ThrL (w.alloc o) b t x y z := ⟨(Below.heap_alloc w o b h.lt).trans h.blk⟩
theorem lab_key (x : List UInt8) : labK x = if (labelD x).1 = 0 then none else some (labelD x).2.1 := by
  unfold labK labelD
  rw [lab_read]
  unfold stateD
  by_cases h1 : (readD x).1 = 1
  · have hc : ¬ ((readD x).1 ≠ 1 ∧ (readD x).1 ≠ 5) := fun e => e.1 h1
    rw [if_pos h1]
    simp only [hc, if_false]
    rw [if_neg (by omega)]; rfl
  · by_cases h5 : (readD x).1 = 5
    · have hc : ¬ ((readD x).1 ≠ 1 ∧ (readD x).1 ≠ 5) := fun e => e.2 h5
      rw [if_neg h1, if_pos h5]
      simp only [hc, if_false]
      rw [if_neg (by omega)]; rfl
    · have hc : (readD x).1 ≠ 1 ∧ (readD x).1 ≠ 5 := ⟨h1, h5⟩
      rw [if_neg h1, if_neg h5]
      simp [hc]
theorem need_key (x : List UInt8) : needK x = if (readD x).1 = 0 then none else some x := by
  unfold needK
  rw [need_read]
  unfold spanD
  have key : (readD x).1 = 0 ∨ (readD x).1 = 1 ∨ (readD x).1 = 2 ∨ (readD x).1 = 3 ∨ (readD x).1 = 4 ∨ (readD x).1 = 5 := by
    rcases read_form x with h | ⟨h, _⟩
    · rw [h]; exact Or.inl rfl
    · exact Or.inr h
  rcases key with h | h | h | h | h | h <;> rw [h] <;> rfl
/-- The keys of the first j. -/
structure KeyS (key : List UInt8 → Option (List UInt8)) (L : List (List UInt8)) (j : Nat) (S : List (List UInt8)) : Prop where
  mem : ∀ k, k ∈ S ↔ ∃ i, ∃ h : i < L.length, i < j ∧ key L[i] = some k
  some : ∀ i (h : i < L.length), i < j → ∃ k, key L[i] = some k
theorem KeyS.zero (key : List UInt8 → Option (List UInt8)) (L : List (List UInt8)) : KeyS key L 0 [] :=
  ⟨fun k => ⟨(fun h => by cases h), fun ⟨i, _, h, _⟩ => absurd h (Nat.not_lt_zero _)⟩, fun i _ h => absurd h (Nat.not_lt_zero _)⟩
theorem KeyS.next {key : List UInt8 → Option (List UInt8)} {L : List (List UInt8)} {j : Nat} {S : List (List UInt8)} (h : KeyS key L j S) (hj : j < L.length) {k : List UInt8} (hk : key L[j] = Option.some k) : KeyS key L (j + 1) (k :: S) := by
  refine ⟨fun c => ?_, fun i hi hij => ?_⟩
  · rw [List.mem_cons, h.mem]
    constructor
    · rintro (rfl | ⟨i, hi, hij, hc⟩)
      · exact ⟨j, hj, by omega, hk⟩
      · exact ⟨i, hi, by omega, hc⟩
    · rintro ⟨i, hi, hij, hc⟩
      by_cases e : i = j
      · subst e
        rw [hk] at hc
        injection hc with hc
        exact Or.inl hc.symm
      · exact Or.inr ⟨i, hi, by omega, hc⟩
  · by_cases e : i = j
    · subst e; exact ⟨k, hk⟩
    · exact h.some i hi (by omega)
/-- Two strings in one row, carried along. -/
theorem S2s.below {w w1 w2 : World} {b o1 o2 : Nat} {s1 s2 : ByteArray} (z : b < w.heap.size) (h : w1.cell? ⟨b, o1, none⟩ = some (.string s1) ∧ w1.cell? ⟨b, o2, none⟩ = some (.string s2) ∧ Below w.heap.size w w1) (hb : Below w1.heap.size w1 w2) :
    w2.cell? ⟨b, o1, none⟩ = some (.string s1) ∧ w2.cell? ⟨b, o2, none⟩ = some (.string s2) ∧ Below w.heap.size w w2 := by
  have hl : b < w1.heap.size := Nat.lt_of_lt_of_le z h.2.2.size
  exact ⟨(hb.cell (p := ⟨b, o1, none⟩) hl).trans h.1, (hb.cell (p := ⟨b, o2, none⟩) hl).trans h.2.1, h.2.2.trans (hb.mono h.2.2.size)⟩
theorem S2s.bel {w w1 : World} {b o1 o2 : Nat} {s1 s2 : ByteArray} (h : w1.cell? ⟨b, o1, none⟩ = some (.string s1) ∧ w1.cell? ⟨b, o2, none⟩ = some (.string s2) ∧ Below w.heap.size w w1) : Below w.heap.size w w1 := h.2.2
set_option maxHeartbeats 2000000 in
theorem label_any (s : ByteArray) (hs : s.size ≤ 1000000000) (w : World) :
    Calls Tryz.prog 24 #[.string s] w fun e w' => e = .returned (ofD (labelD s.data.toList)) ∧ Below w.heap.size w w' := by
  have B0 := Lib.hid ((Below.refl w.heap.size w).alloc (Nat.le_refl _) (.cells #[.int .i64 0, .string ⟨#[]⟩, .int .i64 0] 36))
  have T0 := Lib.hid (ThrL.new w 36 (.int .i64 0) (.string ⟨#[]⟩) (.int .i64 0))
  obtain ⟨⟨f, a, n⟩, hd⟩ : ∃ d, d = readD s.data.toList := ⟨_, rfl⟩
  have R := fun w => read_any s hs w
  rw [← hd] at R
  dsimp only [ofD] at R
  have R := Lib.hid R
  have HL := Lib.hid (show labelD s.data.toList = if f ≠ 1 ∧ f ≠ 5 then (0, [], 0) else (f, a, n) by unfold labelD; rw [← hd])
  clear hd
  by_cases h1 : f = 1
  · subst h1
    go_enter Tryz.func24, Tryz.ntmps24
    go_wp2_with fail
    go_fit (R.out _)
    rintro e w1 ⟨rfl, hb⟩
    have htw := T0.out.below hb
    have BE := Lib.hid (B0.out.trans (hb.mono (by simp)))
    have hlt := htw.lt
    obtain ⟨z0, z1, z2⟩ := htw.froz
    obtain ⟨t0, t1, t2⟩ := htw.facts
    clear hb htw
    go_wp2_with fail
    refine bodyPost_ret (v := .agg #[.int .i64 1, .string ⟨a.toArray⟩, .int .i64 n]) ?_ rfl ⟨by rw [HL.out]; rfl, ?_⟩
    · rw [results_cellL rfl]
      go_simp
    · exact (((BE.out.setCell (Nat.le_refl _) _).setCell (Nat.le_refl _) _).setCell (Nat.le_refl _) _).alloc (by simpa using BE.out.size) _
  by_cases h5 : f = 5
  · subst h5
    go_enter Tryz.func24, Tryz.ntmps24
    go_wp2_with fail
    go_fit (R.out _)
    rintro e w1 ⟨rfl, hb⟩
    have htw := T0.out.below hb
    have BE := Lib.hid (B0.out.trans (hb.mono (by simp)))
    have hlt := htw.lt
    obtain ⟨z0, z1, z2⟩ := htw.froz
    obtain ⟨t0, t1, t2⟩ := htw.facts
    clear hb htw
    go_wp2_with fail
    refine bodyPost_ret (v := .agg #[.int .i64 5, .string ⟨a.toArray⟩, .int .i64 n]) ?_ rfl ⟨by rw [HL.out]; rfl, ?_⟩
    · rw [results_cellL rfl]
      go_simp
    · exact (((BE.out.setCell (Nat.le_refl _) _).setCell (Nat.le_refl _) _).setCell (Nat.le_refl _) _).alloc (by simpa using BE.out.size) _
  have u1 : (f != 1) = true := by simpa using h1
  have u5 : (f != 5) = true := by simpa using h5
  go_enter Tryz.func24, Tryz.ntmps24
  go_wp2_with fail
  go_fit (R.out _)
  rintro e w1 ⟨rfl, hb⟩
  have htw := T0.out.below hb
  have BE := Lib.hid (B0.out.trans (hb.mono (by simp)))
  have hlt := htw.lt
  obtain ⟨z0, z1, z2⟩ := htw.froz
  obtain ⟨t0, t1, t2⟩ := htw.facts
  clear hb htw
  go_wp2_with fail
  refine bodyPost_ret (v := .agg #[.int .i64 0, .string ⟨#[]⟩, .int .i64 0]) ?_ rfl ⟨by rw [HL.out, if_pos ⟨h1, h5⟩]; rfl, ?_⟩
  · rw [results_cellL rfl]
    go_simp
  · exact (((BE.out.setCell (Nat.le_refl _) _).setCell (Nat.le_refl _) _).setCell (Nat.le_refl _) _).alloc (by simpa using BE.out.size) _
set_option maxHeartbeats 4000000 in
set_option maxRecDepth 100000 in
theorem rValid_any (v : Option Addr) (cap : Nat) (L : List (List UInt8)) (hlen : L.length ≤ 1000000) (hx : ∀ x ∈ L, x.length ≤ 1000000) (w : World) (hr : ReadsStr w v L) :
    Calls Tryz.prog 12 #[.slice v L.length cap] w fun e w' => e = .returned (.int .i64 (exF labK L)) ∧ Below w.heap.size w w' := by
  have HR := Lib.hid hr
  have HX := Lib.hid hx
  clear hr hx
  by_cases h32 : 32 < L.length
  · have HE := Lib.hid (show exF labK L = 3 by unfold exF; rw [if_pos h32])
    have g0 : (32 : Int) < (L.length : Int) := by omega
    clear h32
    go_enter Tryz.func12, Tryz.ntmps12
    go_wp2_with fail
    go_ret
    exact ⟨by rw [HE.out]; rfl, Below.refl _ _⟩
  have HE := Lib.hid (show exF labK L = exL labK none [] L by unfold exF; rw [if_neg h32])
  have g0 : ¬ (32 : Int) < (L.length : Int) := by omega
  have pf0 := pfield0
  have pf1 := pfield1
  go_enter Tryz.func12, Tryz.ntmps12
  go_wp2_with fail
  go_loopw [3] (fun s3 wr => ∃ (j : Nat) (S : List (List UInt8)), j ≤ L.length ∧ s3 = .int .i64 (j : Int) ∧ Hid (KeyS labK L j S) ∧ Hid (exL labK (prevL L j) S (L.drop j) = exL labK none [] L) ∧ Hid (Below w.heap.size w wr)) (fun s3 _ => L.length - (RowKit.intOf s3).toNat)
  case atStart => exact ⟨0, [], by omega, rfl, Lib.hid (KeyS.zero _ _), Lib.hid (by rw [List.drop_zero]; rfl), Lib.hid (Below.refl _ _)⟩
  case round =>
    obtain ⟨j, S, hj, rfl, HK, HP, HB⟩ := hrel
    by_cases hlt : j < L.length
    · have HD := Lib.hid (show L.drop j = L[j] :: L.drop (j + 1) from List.drop_eq_getElem_cons hlt)
      obtain ⟨b, off, rfl, hbl, hc⟩ := HR.out j hlt
      replace hc := (HB.out.cell (p := ⟨b, off + j, none⟩) hbl).trans hc
      have hbr : b < wr.heap.size := Nat.lt_of_lt_of_le hbl HB.out.size
      have hxl := HX.out _ (List.getElem_mem hlt)
      obtain ⟨x, hxe⟩ : ∃ x, x = L[j] := ⟨_, rfl⟩
      rw [← hxe] at hc hxl HD
      have HXE := Lib.hid hxe
      obtain ⟨⟨f, a, n⟩, hd⟩ : ∃ d, d = labelD x := ⟨_, rfl⟩
      obtain ⟨sx, hsx⟩ : ∃ s : ByteArray, s = ⟨x.toArray⟩ := ⟨_, rfl⟩
      have hsz : sx.size ≤ 1000000 := by rw [hsx]; show x.toArray.size ≤ _; simpa using hxl
      have hsd : sx.data.toList = x := by rw [hsx]
      have LB := fun w => label_any sx (by omega) w
      rw [hsd, ← hd] at LB
      dsimp only [ofD] at LB
      have LB := Lib.hid LB
      have hkey := lab_key x
      rw [← hd] at hkey
      dsimp only at hkey
      rw [← hsx] at hc
      have HSX := Lib.hid hsx
      obtain ⟨sa, hsa⟩ : ∃ s : ByteArray, s = ⟨a.toArray⟩ := ⟨_, rfl⟩
      rw [← hsa] at LB
      have HSA := Lib.hid hsa
      have hjj : (j : Int) < (L.length : Int) := by omega
      have hj0' : (0 : Int) ≤ (j : Int) := by omega
      clear hxe hd hsx hsd hsa hxl
      by_cases hf : f = 0
      · subst hf
        rw [if_pos rfl] at hkey
        have HN := Lib.hid (show exF labK L = 5 by rw [HE.out, ← HP.out, HD.out, exL_cons, hkey])
        clear hkey
        go_wp2_with fail
        go_fit (LB.out _)
        rintro e w2 ⟨rfl, hb⟩
        have B2 := Lib.hid (HB.out.trans (hb.mono HB.out.size))
        clear hb
        go_wp2_with fail
        go_ret
        exact ⟨by rw [HN.out]; rfl, B2.out⟩
      rw [if_neg hf] at hkey
      have u0 : (f == 0) = false := by rw [beq_eq_false_iff_ne]; exact hf
      go_wp2_with fail
      go_fit (LB.out _)
      rintro e w2 ⟨rfl, hb⟩
      have B2 := Lib.hid (HB.out.trans (hb.mono HB.out.size))
      clear hb hc
      go_wp2_with fail
      go_loopw [4] (fun s4 wy => ∃ q : Nat, q ≤ j ∧ s4 = .int .i64 (q : Int) ∧ Hid (∀ i (h : i < L.length), i < q → labK L[i] ≠ some a) ∧ Hid (Below w.heap.size w wy)) (fun s4 _ => j - (RowKit.intOf s4).toNat)
      case atStart => exact ⟨0, by omega, rfl, Lib.hid (fun i h hi => absurd hi (Nat.not_lt_zero _)), B2⟩
      case round =>
        obtain ⟨q, hq, rfl, HQ, HY⟩ := hrel
        have zy := HY.out.size
        have hby : b < wr.heap.size := Nat.lt_of_lt_of_le hbl zy
        obtain ⟨_, _, e1, _, hcj⟩ := (HR.out.below HY.out) j hlt
        injection e1 with e1
        injection e1 with e1 e2
        subst e1 e2
        rw [← HXE.out, ← HSX.out] at hcj
        by_cases hqj : q < j
        · have hql : q < L.length := by omega
          obtain ⟨_, _, e1, _, hcq⟩ := (HR.out.below HY.out) q hql
          injection e1 with e1
          injection e1 with e1 e2
          subst e1 e2
          have hyl := HX.out _ (List.getElem_mem hql)
          obtain ⟨k, hky⟩ := HK.out.some q hql hqj
          obtain ⟨y, hye⟩ : ∃ y, y = L[q] := ⟨_, rfl⟩
          obtain ⟨sy, hsy⟩ : ∃ s : ByteArray, s = ⟨y.toArray⟩ := ⟨_, rfl⟩
          rw [← hye] at hcq hyl
          rw [← hsy] at hcq
          have i0 : (0 : Int) ≤ (q : Int) := by omega
          have i1 : (q : Int) < (L.length : Int) := by omega
          have i2 : (q : Int) < (j : Int) := by omega
          obtain ⟨⟨f2, a2, n2⟩, hd2⟩ : ∃ d, d = labelD y := ⟨_, rfl⟩
          have hsz2 : sy.size ≤ 1000000 := by rw [hsy]; show y.toArray.size ≤ _; simpa using hyl
          have hsd2 : sy.data.toList = y := by rw [hsy]
          have LQ := fun w => label_any sy (by omega) w
          rw [hsd2, ← hd2] at LQ
          dsimp only [ofD] at LQ
          have hkey2 := lab_key y
          rw [← hd2] at hkey2
          dsimp only at hkey2
          have hky2 : labK y = some a2 := by
            by_cases h2 : f2 = 0
            · rw [if_pos h2, hye, hky] at hkey2
              cases hkey2
            · rwa [if_neg h2] at hkey2
          obtain ⟨sb, hsb⟩ : ∃ s : ByteArray, s = ⟨a2.toArray⟩ := ⟨_, rfl⟩
          rw [← hsb] at LQ
          have LQ := Lib.hid LQ
          by_cases hEq : a2 = a
          · have u1 : (sb.toList == sa.toList) = true := by rw [Lib.toList_data, Lib.toList_data, hsb, HSA.out, hEq]; simp
            have hky : labK L[q] = some a := by rw [← hye, hky2, hEq]
            have HN := Lib.hid (show exF labK L = 7 by
              rw [HE.out, ← HP.out, HD.out, exL_cons, hkey]
              dsimp only
              rw [if_pos ((HK.out.mem _).2 ⟨q, hql, hqj, hky⟩)])
            clear hky hky2 hkey2 hkey hd2 hsd2 hsb hsy hye hEq
            have hs1 := S2s.below (z := hbl) (o1 := off + q) (o2 := off + j) (s1 := sy) (s2 := sx) ⟨hcq, hcj, HY.out⟩ (Below.refl _ _).drew
            go_upto_region 11 with fail
            clear hcq hcj
            go_region_held3 (fun w' => w'.cell? ⟨b, off + q, none⟩ = some (.string sy) ∧ w'.cell? ⟨b, off + j, none⟩ = some (.string sx) ∧ Below w.heap.size w w') (first | exact hs1 | assumption | exact S2s.below (z := hbl) (by assumption) (by assumption)) (first | (go_at_call 24; (first | go_fit (LQ.out _) | go_fit (LB.out _)); rintro e w5 ⟨rfl, hb5⟩))
            all_goals
              go_wp2_with fail
              go_ret
              exact ⟨by rw [HN.out]; rfl, S2s.bel (b := b) (o1 := off + q) (o2 := off + j) (s1 := sy) (s2 := sx) (by assumption)⟩
          · have u1 : (sb.toList == sa.toList) = false := by rw [Lib.toList_data, Lib.toList_data, hsb, HSA.out, beq_eq_false_iff_ne]; exact hEq
            have HN := Lib.hid (show ∀ i (h : i < L.length), i < q + 1 → labK L[i] ≠ some a by
              intro i h hi
              by_cases hiq : i = q
              · subst hiq
                rw [← hye, hky2]
                intro e
                injection e with e
                exact hEq e
              · exact HQ.out i h (by omega))
            clear hky hky2 hkey2 hkey hd2 hsd2 hsb hsy hye hEq
            have hs1 := S2s.below (z := hbl) (o1 := off + q) (o2 := off + j) (s1 := sy) (s2 := sx) ⟨hcq, hcj, HY.out⟩ (Below.refl _ _).drew
            go_upto_region 11 with fail
            clear hcq hcj
            go_region_held3 (fun w' => w'.cell? ⟨b, off + q, none⟩ = some (.string sy) ∧ w'.cell? ⟨b, off + j, none⟩ = some (.string sx) ∧ Below w.heap.size w w') (first | exact hs1 | assumption | exact S2s.below (z := hbl) (by assumption) (by assumption)) (first | (go_at_call 24; (first | go_fit (LQ.out _) | go_fit (LB.out _)); rintro e w5 ⟨rfl, hb5⟩))
            all_goals
              go_wp2_with fail
              exact ⟨⟨q + 1, by omega, by go_num, HN, Lib.hid (S2s.bel (b := b) (o1 := off + q) (o2 := off + j) (s1 := sy) (s2 := sx) (by assumption))⟩, by simp [RowKit.intOf]; omega⟩
        · obtain rfl : q = j := by omega
          have hS : a ∉ S := fun e => by
            obtain ⟨i, h, hi, hk⟩ := (HK.out.mem _).1 e
            exact HQ.out i h hi hk
          have HKN := Lib.hid (HK.out.next hlt (by rw [← HXE.out]; exact hkey))
          have hst := HP.out
          rw [HD.out, exL_cons, hkey] at hst
          dsimp only at hst
          rw [if_neg hS] at hst
          cases q with
          | zero =>
            have HN := Lib.hid (show exL labK (prevL L 1) (a :: S) (L.drop 1) = exL labK none [] L by
              rw [← hst]
              show exL labK (L[0]?) _ _ = _
              rw [List.getElem?_eq_getElem hlt, ← HXE.out]
              rfl)
            have hgd : decide ((0 : Int) < 0) = false := by decide
            clear hst hS hkey hcj
            go_upto_region 13 with fail
            go_quiet (fail)
            have BQ := Lib.hid (below_drewN HY.out nq)
            go_wp2_with fail
            exact ⟨⟨1, a :: S, by omega, by go_num, HKN, HN, BQ⟩, by simp [RowKit.intOf]; omega⟩
          | succ i =>
            obtain ⟨_, _, e1, _, hci⟩ := (HR.out.below HY.out) i (by omega)
            injection e1 with e1
            injection e1 with e1 e2
            subst e1 e2
            have hil := HX.out _ (List.getElem_mem (show i < L.length by omega))
            obtain ⟨z, hze⟩ : ∃ z, z = L[i]'(by omega) := ⟨_, rfl⟩
            obtain ⟨sz, hszz⟩ : ∃ s : ByteArray, s = ⟨z.toArray⟩ := ⟨_, rfl⟩
            rw [← hze] at hci hil
            rw [← hszz] at hci
            have hpv : prevL L (i + 1) = some z := by
              show L[i]? = _
              rw [List.getElem?_eq_getElem (by omega), hze]
            rw [hpv] at hst
            have C := fun w => refCompare_any sz sx (by rw [hszz]; show z.toArray.size ≤ _; simp; omega) (by omega) w
            rw [show sz.data.toList = z by rw [hszz], show sx.data.toList = x by rw [HSX.out]] at C
            have C := Lib.hid C
            have q1 : (0 : Int) ≤ (i : Int) ∧ (i : Int) + 1 < (L.length : Int) := by omega
            have q2 : IntKind.i64.wrap ((i : Int) + 1 - 1) = (i : Int) := by rw [IntWalk.i64_in _ (by omega)]; omega
            have q3 : ((i : Int) + 1).toNat = i + 1 := by omega
            have q4 : (0 : Int) < (i : Int) + 1 := by omega
            have q5 : (0 : Int) ≤ (i : Int) + 1 := by omega
            by_cases hcm : 0 ≤ cmpL z x
            · have HN := Lib.hid (show exF labK L = 22 by
                rw [HE.out, ← hst]
                exact if_pos (decide_eq_true hcm))
              clear hst hpv hze hszz hS hkey
              generalize cmpL z x = cv at *
              go_upto_region 13 with fail
              go_quiet ((go_at_call 25; exact Calls.quiet_of (C.out _)))
              have BQ := Lib.hid (below_drewN HY.out nq)
              clear q2 q3 q4
              go_wp2_with fail
              go_ret
              exact ⟨by rw [HN.out]; rfl, BQ.out⟩
            · have HN := Lib.hid (show exL labK (prevL L (i + 1 + 1)) (a :: S) (L.drop (i + 1 + 1)) = exL labK none [] L by
                rw [if_neg (show ¬ (decide (0 ≤ cmpL z x) = true) by simpa using hcm)] at hst
                rw [← hst]
                show exL labK (L[i + 1]?) _ _ = _
                rw [List.getElem?_eq_getElem hlt, ← HXE.out])
              clear hst hpv hze hszz hS hkey
              generalize cmpL z x = cv at *
              go_upto_region 13 with fail
              go_quiet ((go_at_call 25; exact Calls.quiet_of (C.out _)))
              have BQ := Lib.hid (below_drewN HY.out nq)
              clear q2 q3 q4
              go_wp2_with fail
              exact ⟨⟨i + 1 + 1, a :: S, by omega, by go_num, HKN, HN, BQ⟩, by simp [RowKit.intOf]; omega⟩
    · obtain rfl : j = L.length := by omega
      have HN := Lib.hid (show exF labK L = 0 by rw [HE.out, ← HP.out, List.drop_eq_nil_of_le (Nat.le_refl _)]; rfl)
      go_wp2_with fail
      go_ret
      exact ⟨by rw [HN.out]; rfl, HB.out⟩
set_option maxHeartbeats 4000000 in
set_option maxRecDepth 100000 in
theorem rNeed_any (v : Option Addr) (cap : Nat) (L : List (List UInt8)) (hlen : L.length ≤ 1000000) (hx : ∀ x ∈ L, x.length ≤ 1000000) (w : World) (hr : ReadsStr w v L) :
    Calls Tryz.prog 15 #[.slice v L.length cap] w fun e w' => e = .returned (.int .i64 (exF needK L)) ∧ Below w.heap.size w w' := by
  have HR := Lib.hid hr
  have HX := Lib.hid hx
  clear hr hx
  by_cases h32 : 32 < L.length
  · have HE := Lib.hid (show exF needK L = 3 by unfold exF; rw [if_pos h32])
    have g0 : (32 : Int) < (L.length : Int) := by omega
    clear h32
    go_enter Tryz.func15, Tryz.ntmps15
    go_wp2_with fail
    go_ret
    exact ⟨by rw [HE.out]; rfl, Below.refl _ _⟩
  have HE := Lib.hid (show exF needK L = exL needK none [] L by unfold exF; rw [if_neg h32])
  have g0 : ¬ (32 : Int) < (L.length : Int) := by omega
  have pf0 := pfield0
  have pf1 := pfield1
  go_enter Tryz.func15, Tryz.ntmps15
  go_wp2_with fail
  go_loopw [3] (fun s3 wr => ∃ (j : Nat) (S : List (List UInt8)), j ≤ L.length ∧ s3 = .int .i64 (j : Int) ∧ Hid (KeyS needK L j S) ∧ Hid (exL needK (prevL L j) S (L.drop j) = exL needK none [] L) ∧ Hid (Below w.heap.size w wr)) (fun s3 _ => L.length - (RowKit.intOf s3).toNat)
  case atStart => exact ⟨0, [], by omega, rfl, Lib.hid (KeyS.zero _ _), Lib.hid (by rw [List.drop_zero]; rfl), Lib.hid (Below.refl _ _)⟩
  case round =>
    obtain ⟨j, S, hj, rfl, HK, HP, HB⟩ := hrel
    by_cases hlt : j < L.length
    · have HD := Lib.hid (show L.drop j = L[j] :: L.drop (j + 1) from List.drop_eq_getElem_cons hlt)
      obtain ⟨b, off, rfl, hbl, hc⟩ := HR.out j hlt
      replace hc := (HB.out.cell (p := ⟨b, off + j, none⟩) hbl).trans hc
      have hbr : b < wr.heap.size := Nat.lt_of_lt_of_le hbl HB.out.size
      have hxl := HX.out _ (List.getElem_mem hlt)
      obtain ⟨x, hxe⟩ : ∃ x, x = L[j] := ⟨_, rfl⟩
      rw [← hxe] at hc hxl HD
      have HXE := Lib.hid hxe
      obtain ⟨⟨f, a, n⟩, hd⟩ : ∃ d, d = readD x := ⟨_, rfl⟩
      obtain ⟨sx, hsx⟩ : ∃ s : ByteArray, s = ⟨x.toArray⟩ := ⟨_, rfl⟩
      have hsz : sx.size ≤ 1000000 := by rw [hsx]; show x.toArray.size ≤ _; simpa using hxl
      have hsd : sx.data.toList = x := by rw [hsx]
      have LB := fun w => read_any sx (by omega) w
      rw [hsd, ← hd] at LB
      dsimp only [ofD] at LB
      have LB := Lib.hid LB
      have hkey := need_key x
      rw [← hd] at hkey
      dsimp only at hkey
      rw [← hsx] at hc
      have HSX := Lib.hid hsx
      obtain ⟨sa, hsa⟩ : ∃ s : ByteArray, s = ⟨a.toArray⟩ := ⟨_, rfl⟩
      rw [← hsa] at LB
      have HSA := Lib.hid hsa
      have hjj : (j : Int) < (L.length : Int) := by omega
      have hj0' : (0 : Int) ≤ (j : Int) := by omega
      clear hxe hd hsx hsd hsa hxl
      by_cases hf : f = 0
      · subst hf
        rw [if_pos rfl] at hkey
        have HN := Lib.hid (show exF needK L = 5 by rw [HE.out, ← HP.out, HD.out, exL_cons, hkey])
        clear hkey
        go_wp2_with fail
        go_fit (LB.out _)
        rintro e w2 ⟨rfl, hb⟩
        have B2 := Lib.hid (HB.out.trans (hb.mono HB.out.size))
        clear hb
        go_wp2_with fail
        go_ret
        exact ⟨by rw [HN.out]; rfl, B2.out⟩
      rw [if_neg hf] at hkey
      have u0 : (f == 0) = false := by rw [beq_eq_false_iff_ne]; exact hf
      go_wp2_with fail
      go_fit (LB.out _)
      rintro e w2 ⟨rfl, hb⟩
      have B2 := Lib.hid (HB.out.trans (hb.mono HB.out.size))
      clear hb hc
      go_wp2_with fail
      go_loopw [4] (fun s4 wy => ∃ q : Nat, q ≤ j ∧ s4 = .int .i64 (q : Int) ∧ Hid (∀ i (h : i < L.length), i < q → needK L[i] ≠ some x) ∧ Hid (Below w.heap.size w wy)) (fun s4 _ => j - (RowKit.intOf s4).toNat)
      case atStart => exact ⟨0, by omega, rfl, Lib.hid (fun i h hi => absurd hi (Nat.not_lt_zero _)), B2⟩
      case round =>
        obtain ⟨q, hq, rfl, HQ, HY⟩ := hrel
        have zy := HY.out.size
        have hby : b < wr.heap.size := Nat.lt_of_lt_of_le hbl zy
        obtain ⟨_, _, e1, _, hcj⟩ := (HR.out.below HY.out) j hlt
        injection e1 with e1
        injection e1 with e1 e2
        subst e1 e2
        rw [← HXE.out, ← HSX.out] at hcj
        by_cases hqj : q < j
        · have hql : q < L.length := by omega
          obtain ⟨_, _, e1, _, hcq⟩ := (HR.out.below HY.out) q hql
          injection e1 with e1
          injection e1 with e1 e2
          subst e1 e2
          have hyl := HX.out _ (List.getElem_mem hql)
          obtain ⟨k, hky⟩ := HK.out.some q hql hqj
          obtain ⟨y, hye⟩ : ∃ y, y = L[q] := ⟨_, rfl⟩
          obtain ⟨sy, hsy⟩ : ∃ s : ByteArray, s = ⟨y.toArray⟩ := ⟨_, rfl⟩
          rw [← hye] at hcq hyl
          rw [← hsy] at hcq
          have i0 : (0 : Int) ≤ (q : Int) := by omega
          have i1 : (q : Int) < (L.length : Int) := by omega
          have i2 : (q : Int) < (j : Int) := by omega
          have hky2 : needK y = some y := by
            rw [hye, hky]
            unfold needK at hky
            cases hN : needP L[q] with
            | none => rw [hN] at hky; cases hky
            | some z => rw [hN] at hky; exact hky.symm
          by_cases hEq : y = x
          · have u1 : (sy.toList == sx.toList) = true := by rw [Lib.toList_data, Lib.toList_data, hsy, HSX.out, hEq]; simp
            have hky : needK L[q] = some x := by rw [← hye, hky2, hEq]
            have HN := Lib.hid (show exF needK L = 7 by
              rw [HE.out, ← HP.out, HD.out, exL_cons, hkey]
              dsimp only
              rw [if_pos ((HK.out.mem _).2 ⟨q, hql, hqj, hky⟩)])
            clear hky hky2 hkey hsy hye hEq
            go_upto_region 11 with fail
            go_quiet (fail)
            have BQ := Lib.hid (below_drewN HY.out nq)
            go_wp2_with fail
            go_ret
            exact ⟨by rw [HN.out]; rfl, BQ.out⟩
          · have u1 : (sy.toList == sx.toList) = false := by rw [Lib.toList_data, Lib.toList_data, hsy, HSX.out, beq_eq_false_iff_ne]; exact hEq
            have HN := Lib.hid (show ∀ i (h : i < L.length), i < q + 1 → needK L[i] ≠ some x by
              intro i h hi
              by_cases hiq : i = q
              · subst hiq
                rw [← hye, hky2]
                intro e
                injection e with e
                exact hEq e
              · exact HQ.out i h (by omega))
            clear hky hky2 hkey hsy hye hEq
            go_upto_region 11 with fail
            go_quiet (fail)
            have BQ := Lib.hid (below_drewN HY.out nq)
            go_wp2_with fail
            exact ⟨⟨q + 1, by omega, by go_num, HN, BQ⟩, by simp [RowKit.intOf]; omega⟩
        · obtain rfl : q = j := by omega
          have hS : x ∉ S := fun e => by
            obtain ⟨i, h, hi, hk⟩ := (HK.out.mem _).1 e
            exact HQ.out i h hi hk
          have HKN := Lib.hid (HK.out.next hlt (by rw [← HXE.out]; exact hkey))
          have hst := HP.out
          rw [HD.out, exL_cons, hkey] at hst
          dsimp only at hst
          rw [if_neg hS] at hst
          cases q with
          | zero =>
            have HN := Lib.hid (show exL needK (prevL L 1) (x :: S) (L.drop 1) = exL needK none [] L by
              rw [← hst]
              show exL needK (L[0]?) _ _ = _
              rw [List.getElem?_eq_getElem hlt, ← HXE.out]
              rfl)
            have hgd : decide ((0 : Int) < 0) = false := by decide
            clear hst hS hkey hcj
            go_upto_region 13 with fail
            go_quiet (fail)
            have BQ := Lib.hid (below_drewN HY.out nq)
            go_wp2_with fail
            exact ⟨⟨1, x :: S, by omega, by go_num, HKN, HN, BQ⟩, by simp [RowKit.intOf]; omega⟩
          | succ i =>
            obtain ⟨_, _, e1, _, hci⟩ := (HR.out.below HY.out) i (by omega)
            injection e1 with e1
            injection e1 with e1 e2
            subst e1 e2
            have hil := HX.out _ (List.getElem_mem (show i < L.length by omega))
            obtain ⟨z, hze⟩ : ∃ z, z = L[i]'(by omega) := ⟨_, rfl⟩
            obtain ⟨sz, hszz⟩ : ∃ s : ByteArray, s = ⟨z.toArray⟩ := ⟨_, rfl⟩
            rw [← hze] at hci hil
            rw [← hszz] at hci
            have hpv : prevL L (i + 1) = some z := by
              show L[i]? = _
              rw [List.getElem?_eq_getElem (by omega), hze]
            rw [hpv] at hst
            have C := fun w => refCompare_any sz sx (by rw [hszz]; show z.toArray.size ≤ _; simp; omega) (by omega) w
            rw [show sz.data.toList = z by rw [hszz], show sx.data.toList = x by rw [HSX.out]] at C
            have C := Lib.hid C
            have q1 : (0 : Int) ≤ (i : Int) ∧ (i : Int) + 1 < (L.length : Int) := by omega
            have q2 : IntKind.i64.wrap ((i : Int) + 1 - 1) = (i : Int) := by rw [IntWalk.i64_in _ (by omega)]; omega
            have q3 : ((i : Int) + 1).toNat = i + 1 := by omega
            have q4 : (0 : Int) < (i : Int) + 1 := by omega
            have q5 : (0 : Int) ≤ (i : Int) + 1 := by omega
            by_cases hcm : 0 ≤ cmpL z x
            · have HN := Lib.hid (show exF needK L = 22 by
                rw [HE.out, ← hst]
                exact if_pos (decide_eq_true hcm))
              clear hst hpv hze hszz hS hkey
              generalize cmpL z x = cv at *
              go_upto_region 13 with fail
              go_quiet ((go_at_call 25; exact Calls.quiet_of (C.out _)))
              have BQ := Lib.hid (below_drewN HY.out nq)
              clear q2 q3 q4
              go_wp2_with fail
              go_ret
              exact ⟨by rw [HN.out]; rfl, BQ.out⟩
            · have HN := Lib.hid (show exL needK (prevL L (i + 1 + 1)) (x :: S) (L.drop (i + 1 + 1)) = exL needK none [] L by
                rw [if_neg (show ¬ (decide (0 ≤ cmpL z x) = true) by simpa using hcm)] at hst
                rw [← hst]
                show exL needK (L[i + 1]?) _ _ = _
                rw [List.getElem?_eq_getElem hlt, ← HXE.out])
              clear hst hpv hze hszz hS hkey
              generalize cmpL z x = cv at *
              go_upto_region 13 with fail
              go_quiet ((go_at_call 25; exact Calls.quiet_of (C.out _)))
              have BQ := Lib.hid (below_drewN HY.out nq)
              clear q2 q3 q4
              go_wp2_with fail
              exact ⟨⟨i + 1 + 1, x :: S, by omega, by go_num, HKN, HN, BQ⟩, by simp [RowKit.intOf]; omega⟩
    · obtain rfl : j = L.length := by omega
      have HN := Lib.hid (show exF needK L = 0 by rw [HE.out, ← HP.out, List.drop_eq_nil_of_le (Nat.le_refl _)]; rfl)
      go_wp2_with fail
      go_ret
      exact ⟨by rw [HN.out]; rfl, HB.out⟩
end Go.Proofs.YtglckcenjnieaaaGreatDoor
