/- Order contains each project once, ratios do not decrease, and Pick returns the first one that is listed. -/
import Derived.Test.YtbjodcjfaeclmaaGreatDoorTie
import Derived.Test.YtbjodcjfaeclmaaGreatDoorCards
import Derived.Test.YtbjodcjfaeclmaaGreatDoorFrTab
import Derived.Test.YtbjodcjfaeclmaaGreatDoorFsB
import Derived.Test.YtbjodcjfaeclmaaGreatDoorOpH
import Derived.Test.YtbjodcjfaeclmaaGreatDoorOpenS
import Derived.ProofKit
import Derived.OpenShut
import Derived.LaidMore
import Derived.Stop.Joined
import Derived.SevenTiedAt
import Derived.SizedLaws
namespace Go.Proofs.YtbjodcjfaeclmaaGreatDoor.fairnessOrder
open Go.ChangeShapes Go.WideShapes Go.ChangeAt Go.RowKit
set_option linter.unusedVariables false

theorem own : ownKnob Tryz.prog.godebug = none := by kernel_rfl
theorem laidOut : laidOutB Tryz.prog = true := by kernel_rfl

theorem first_idx {p : Nat → Prop} {j : Nat} (h : p j) : ∃ i, p i ∧ ∀ t, t < i → ¬ p t := by
  refine Classical.byContradiction fun hc => ?_
  have all : ∀ n i, i < n → ¬ p i := by
    intro n
    induction n with
    | zero => intro i hi; omega
    | succ n ih =>
      intro i hi hp
      exact hc ⟨i, hp, fun t ht => ih t (by omega)⟩
  exact all (j + 1) j (by omega) h
theorem best_of {L : List Sha} {N : List (List UInt8)} (P : List (List UInt8)) (hV : ValidS L) (hN : OrdR L N) : ∃ i, BestI L P i := by
  rcases hN with ⟨hn, _⟩ | ⟨_, L', hp, hs, rfl⟩
  · exact absurd hV hn
  by_cases hex : ∃ j, ∃ hj : j < L'.length, (L'[j]).prj ∈ P
  · obtain ⟨j0, h0⟩ := hex
    obtain ⟨j, ⟨hj, hjp⟩, hmin⟩ := first_idx (p := fun j => ∃ hj : j < L'.length, (L'[j]).prj ∈ P) h0
    obtain ⟨u, hu, eu⟩ := List.getElem_of_mem (hp.mem_iff.1 (List.getElem_mem hj))
    refine ⟨u, .inr ⟨u, rfl, hu, by rw [eu]; exact hjp, fun t ht hm => ?_⟩⟩
    obtain ⟨m, hm', em⟩ := List.getElem_of_mem (hp.mem_iff.2 (List.getElem_mem ht))
    have hjm : j ≤ m := Classical.byContradiction fun hc => hmin m (by omega) ⟨hm', by rw [em]; exact hm⟩
    rw [eu]
    rcases Nat.lt_or_eq_of_le hjm with hlt | rfl
    · have := List.pairwise_iff_getElem.1 hs j m hj hm' hlt
      rw [em] at this
      omega
    · rw [← em]
      exact bef_irrefl _
  · refine ⟨-1, .inl ⟨rfl, fun t ht hm => hex ?_⟩⟩
    obtain ⟨m, hm', em⟩ := List.getElem_of_mem (hp.mem_iff.2 (List.getElem_mem ht))
    exact ⟨m, hm', by rw [em]; exact hm⟩
theorem ord_same {L : List Sha} {N M P : List (List UInt8)} (hV : ValidS L) (hN : OrdR L N) (hM : OrdR L M) : pickN N P = pickN M P := by
  obtain ⟨i, h⟩ := best_of P hV hN
  rw [pick_best hV hN h, pick_best hV hM h]
structure OrdF (L : List Sha) (N : List (List UInt8)) : Prop where
  len : N.length = L.length
  here : ∀ i (h : i < N.length), ∃ k, ∃ hk : k < L.length, L[k].prj = N[i]
  diff : ∀ j i (hi : i < N.length) (hji : j < i), (N[j]'(by omega)) ≠ N[i]
  mono : ∀ i (h : i < N.length) (_ : 0 < i) k q (hk : k < L.length) (hq : q < L.length), L[k].prj = N[i] → L[q].prj = N[i - 1] → lessR L[k] L[q] = false
theorem ordF {L : List Sha} {N : List (List UInt8)} (hV : ValidS L) (hN : OrdR L N) : OrdF L N := by
  rcases hN with ⟨hn, _⟩ | ⟨_, L', hp, hs, rfl⟩
  · exact absurd hV hn
  have hd : L'.Pairwise (fun a b => a.prj ≠ b.prj) := by
    refine (hp.pairwise_iff (fun h => Ne.symm h)).2 ?_
    rw [List.pairwise_iff_getElem]
    intro i j hi hj hij e
    have := hV.inj hi hj e
    omega
  have here : ∀ i (h : i < L'.length), ∃ k, ∃ hk : k < L.length, L[k] = L'[i] := fun i h => List.getElem_of_mem (hp.mem_iff.1 (List.getElem_mem h))
  refine ⟨by rw [List.length_map, hp.length_eq], fun i h => ?_, fun j i hi hji => ?_, fun i h h0 k q hk hq ek eq => ?_⟩
  · obtain ⟨k, hk, e⟩ := here i (by simpa using h)
    exact ⟨k, hk, by rw [e, List.getElem_map]⟩
  · rw [List.getElem_map, List.getElem_map]
    exact List.pairwise_iff_getElem.1 hd j i (by simp at hi; omega) (by simpa using hi) hji
  · have hi' : i < L'.length := by simpa using h
    obtain ⟨k', hk', e1⟩ := here i hi'
    obtain ⟨q', hq', e2⟩ := here (i - 1) (by omega)
    rw [List.getElem_map] at ek eq
    obtain rfl := hV.inj hk hk' (by rw [ek, e1])
    obtain rfl := hV.inj hq hq' (by rw [eq, e2])
    have hb := List.pairwise_iff_getElem.1 hs (i - 1) i (by omega) hi' (by omega)
    rw [← e1, ← e2] at hb
    have hc := befC_less L[k] L[q]
    rw [decide_eq_false (by omega)] at hc
    cases hl : lessR L[k] L[q]
    · rfl
    · rw [hl] at hc
      simp at hc
theorem pickN_two (M P : List (List UInt8)) (h : (pickN M P).2 = false) : pickN M P = ([], false) := by
  unfold pickN at *
  cases hf : M.find? (fun p => P.contains p) with
  | none => rfl
  | some x => rw [hf] at h; cases h
theorem pickN_snoc (M P : List (List UInt8)) (x : List UInt8) : pickN (M ++ [x]) P = if (pickN M P).2 = true then pickN M P else if x ∈ P then (x, true) else ([], false) := by
  unfold pickN
  rw [List.find?_append]
  cases hf : M.find? (fun p => P.contains p) with
  | some y => simp
  | none =>
    by_cases hx : x ∈ P
    · simp [hx]
    · simp [hx]
attribute [local irreducible] wpQuiet pickN
set_option maxHeartbeats 4000000 in
set_option maxRecDepth 100000 in
theorem walk (v : Option Addr) (cap : Nat) (L : List Sha) (hlen : L.length * 32 ≤ 140737488351232) (_ : ∀ j (h : j < L.length), L[j].prj.length ≤ 140737488351232) (vp : Option Addr) (cp : Nat) (P : List (List UInt8)) (hlp : P.length ≤ cp) (hcp : cp ≤ 9223372036854775807) (_ : ∀ z ∈ P, z.length ≤ 9223372036854775807) (w : World) (_ : Tab23 w) (hr : ReadsH w v L) (hp : ReadsStr w vp P) :
    Calls Tryz.prog 6 #[.slice v L.length cap, .slice vp P.length cp] w fun e w' => e = .returned (.bool true) ∧ Below w.heap.size w w' := by
  have F := Lib.hid (fun b hb => few_any v cap L b hb (by omega) w hr)
  have SH := Lib.hid (fun b hb => short_any vp cp P b hb (by omega) w hp)
  have A := Lib.hid (fun w' => awake_any w')
  by_cases hf : FewS L
  · have F1 := Lib.hid (F.out true ⟨fun _ => hf, fun _ => rfl⟩)
    clear F
    by_cases hs : ShortS P
    · have S1 := Lib.hid (SH.out true ⟨fun _ => hs, fun _ => rfl⟩)
      clear SH
      have hx : ∀ x ∈ L, x.prj.length ≤ 1000000 := fun x hx => by
        obtain ⟨i, hi, rfl⟩ := List.getElem_of_mem hx
        have := hf.names i hi
        omega
      have h66 := hf.len
      have h100 := hs.len
      have OR := Lib.hid (order_any v cap L (by omega) hx w hr)
      have HR := Lib.hid hr
      have HP := Lib.hid hp
      have PK := Lib.hid (fun w' (hb : Below w.heap.size w w') => pick_any v cap L vp cp P (by omega) hx (by omega) w' (hr.below hb) (hp.below hb))
      have RV := Lib.hid (fun b hb w' (h : Below w.heap.size w w') => refValid_any v cap L b hb (by omega) hx w' (hr.below h))
      have FI := Lib.hid (fun key w' (h : Below w.heap.size w w') => refFind_any v cap L key (by omega) w' (hr.below h))
      clear hf hs hr hp hx hlen hlp hcp
      by_cases hV : ValidS L
      · have RV1 := Lib.hid (RV.out true ⟨fun _ => hV, fun _ => rfl⟩)
        have HV := Lib.hid hV
        clear RV hV
        go_enter Tryz.func6, Tryz.ntmps6
        go_wp2_with fail
        go_fit F1.out
        rintro e w1 ⟨rfl, rfl⟩
        go_wp2_with fail
        go_fit S1.out
        rintro e w1 ⟨rfl, rfl⟩
        go_wp2_with fail
        go_fit OR.out
        rintro e w2 ⟨a, c, N, rfl, hN, hrd, hb2⟩
        have B2 := Lib.hid hb2
        have HN := Lib.hid hN
        have HO := Lib.hid (ordF HV.out hN)
        have hnl := HO.out.len
        have HRD := Lib.hid hrd
        clear hb2 hN hrd
        go_wp2_with fail
        go_fit (RV1.out _ B2.out)
        rintro e w3 ⟨rfl, hb3⟩
        have B3 := Lib.hid (B2.out.trans (hb3.mono B2.out.size))
        have HR3 := Lib.hid (HRD.out.below hb3)
        have hnI : (N.length : Int) = (L.length : Int) := by omega
        clear hb3
        go_wp2_with fail
        go_loopw [6, 7, 8] (fun s6 s7 s8 wr => ∃ i : Nat, i ≤ N.length ∧ s8 = .int .i64 (i : Int) ∧ s6 = .string ⟨(pickN (N.take i) P).1.toArray⟩ ∧ s7 = .bool (pickN (N.take i) P).2 ∧ Hid (Below w3.heap.size w3 wr)) (fun _ _ s8 _ => N.length - (RowKit.intOf s8).toNat)
        case atStart => exact ⟨0, by omega, rfl, by rw [List.take_zero, pickN_none (fun t ht => absurd ht (Nat.not_lt_zero _))], by rw [List.take_zero, pickN_none (fun t ht => absurd ht (Nat.not_lt_zero _))], Lib.hid (Below.refl _ _)⟩
        case round =>
          obtain ⟨i, hi, rfl, rfl, rfl, HB⟩ := hrel
          have BW := Lib.hid (B3.out.trans (HB.out.mono B3.out.size))
          by_cases hlt : i < N.length
          · have hiI : (i : Int) < (N.length : Int) := by omega
            have hi0 : (0 : Int) ≤ (i : Int) := by omega
            obtain ⟨bo, oo, rfl, hbo, c0⟩ := (HR3.out.below HB.out) i hlt
            obtain ⟨sx, hsx⟩ : ∃ s : ByteArray, s = ⟨N[i].toArray⟩ := ⟨_, rfl⟩
            rw [← hsx] at c0
            have HSX := Lib.hid (show sx.data.toList = N[i] by rw [hsx])
            have HSY := Lib.hid hsx
            have HOI := Lib.hid (pickN_snoc (N.take i) P N[i])
            rw [List.take_append_getElem hlt] at HOI
            clear hsx
            generalize hpk : pickN (N.take i) P = pk at *
            obtain ⟨ws, fb⟩ := pk
            dsimp only
            have C0 := Lib.hid c0
            have HPK := Lib.hid hpk
            clear hpk
            go_wp2_with fail
            go_fit (FI.out _ _ BW.out)
            rintro e w4 ⟨q, rfl, rfl, hf⟩
            rw [HSX.out] at hf
            obtain ⟨k, rfl, hk, hkp⟩ : ∃ k : Nat, q = (k : Int) ∧ ∃ hk : k < L.length, L[k].prj = N[i] := by
              rcases hf with ⟨_, hn⟩ | ⟨k, e, hk, hkp, _⟩
              · obtain ⟨k, hk, e⟩ := HO.out.here i hlt
                exact absurd e (hn k hk)
              · exact ⟨k, e, hk, hkp⟩
            have hk0 : ¬ (k : Int) < 0 := by omega
            have hk0' : (0 : Int) ≤ (k : Int) := by omega
            have hkI : (k : Int) < (L.length : Int) := by omega
            have HKP := Lib.hid hkp
            clear hf hkp
            go_wp2_with fail
            go_loopw [10] (fun s10 wr2 => ∃ j : Nat, j ≤ i ∧ s10 = .int .i64 (j : Int) ∧ Hid (Below w4.heap.size w4 wr2)) (fun s10 _ => i - (RowKit.intOf s10).toNat)
            case atStart => exact ⟨0, by omega, rfl, Lib.hid (Below.refl _ _)⟩
            case round =>
              obtain ⟨j, hj, rfl, HB2⟩ := hrel
              have BW2 := Lib.hid (BW.out.trans (HB2.out.mono BW.out.size))
              have BWO := Lib.hid (HB.out.trans (HB2.out.mono HB.out.size))
              replace c0 := (HB2.out.cell (p := ⟨bo, _, none⟩) hbo).trans C0.out
              by_cases hji : j < i
              · have hjI : (j : Int) < (i : Int) := by omega
                have hj0 : (0 : Int) ≤ (j : Int) := by omega
                have hjN : (j : Int) < (N.length : Int) := by omega
                obtain ⟨bo', oo', e', hbo', d0⟩ := (HR3.out.below BWO.out) j (by omega)
                injection e' with e'
                injection e' with e1 e2
                subst e1 e2
                have hq : ((⟨(N[j]'(by omega)).toArray⟩ : ByteArray).toList == sx.toList) = false := by
                  rw [Lib.toList_data, Lib.toList_data, beq_eq_false_iff_ne, HSX.out]
                  exact HO.out.diff j i hlt hji
                generalize (⟨(N[j]'(by omega)).toArray⟩ : ByteArray) = sy at *
                go_upto_region 18 with fail
                go_quiet (fail)
                have BQ := Lib.hid (below_drewN HB2.out nq)
                go_wp2_with fail
                exact ⟨⟨j + 1, by omega, by go_num, BQ⟩, by simp [RowKit.intOf]; omega⟩
              · have hjI : ¬ (j : Int) < (i : Int) := by omega
                have hmx : Tryz.prog.follows .mixedOrders = true := by kernel_rfl

                obtain ⟨bl, ol, rfl, hbl2, x0, x1, x2⟩ := (HR.out.below BW2.out) k hk
                have k0 := cell_regrown x0
                have k1 := cell_regrown x1
                have k2 := cell_regrown x2
                by_cases hi00 : i = 0
                · subst hi00
                  have hgd : decide ((0 : Int) < 0) = false := by decide
                  have hnz : (0 : Int) < (N.length : Int) := by omega
                  go_upto_region 20 with fail
                  refine wp_region_quiet_below hmx (by kernel_rfl) ?_
                  repeat (quiet_step (fail))
                  refine wpQuiet_nil ?_
                  rintro _ ⟨⟨dq, osq⟩, rfl⟩
                  have hb20 : bo < (Go.Sort.grow (redrawn wr dq) osq).heap.size := Nat.lt_of_lt_of_le hbo (Nat.le_trans HB2.out.size (below_regrown wr dq osq).size)
                  have C20 := Lib.hid (cell_regrown c0 dq osq)
                  have B20 := Lib.hid (BWO.out.trans ((below_regrown wr dq osq).mono BWO.out.size))
                  have B20w := Lib.hid (BW2.out.trans ((below_regrown wr dq osq).mono BW2.out.size))
                  generalize Go.Sort.grow (redrawn wr dq) osq = W20 at *
                  clear c0
                  go_wp2_with fail
                  cases fb
                  · go_loopw [6, 7, 11] (fun s6 s7 s11 wr3 => ∃ j : Nat, j ≤ P.length ∧ s11 = .int .i64 (j : Int) ∧ Hid (Below W20.heap.size W20 wr3) ∧ ((s7 = .bool false ∧ s6 = .string ⟨ws.toArray⟩ ∧ Hid (N[0] ∉ P.take j)) ∨ (s7 = .bool true ∧ s6 = .string sx ∧ Hid (N[0] ∈ P)))) (fun _ _ s11 _ => P.length - (RowKit.intOf s11).toNat)
                    case atStart => exact ⟨0, by omega, rfl, Lib.hid (Below.refl _ _), .inl ⟨rfl, rfl, Lib.hid (by simp)⟩⟩
                    case round =>
                      obtain ⟨j, hj, rfl, HB3, hst⟩ := hrel
                      have BF := Lib.hid (B20.out.trans (HB3.out.mono B20.out.size))
                      have BFw := Lib.hid (B20w.out.trans (HB3.out.mono B20w.out.size))
                      have hj0 : (0 : Int) ≤ (j : Int) := by omega
                      rcases hst with ⟨rfl, rfl, HM⟩ | ⟨rfl, rfl, HM⟩
                      · by_cases hjp : j < P.length
                        · have hjI : (j : Int) < (P.length : Int) := by omega
                          obtain ⟨bp, op, rfl, hbp, p0⟩ := (HP.out.below BFw.out) j hjp
                          have c1 := (HB3.out.cell (p := ⟨bo, _, none⟩) hb20).trans C20.out
                          try simp only [Nat.add_zero] at c1
                          by_cases he : P[j] = N[0]
                          · have HMN := Lib.hid (show N[0] ∈ P from he ▸ List.getElem_mem hjp)
                            have hq : ((⟨P[j].toArray⟩ : ByteArray).toList == sx.toList) = true := by rw [Lib.toList_data, Lib.toList_data, beq_iff_eq, HSX.out]; exact he
                            generalize (⟨P[j].toArray⟩ : ByteArray) = sp at *
                            clear he
                            go_upto_region 25 with fail
                            go_quiet (fail)
                            have BQ := Lib.hid (below_drewN HB3.out nq)
                            go_wp2_with fail
                            exact ⟨⟨j + 1, by omega, by go_num, BQ, .inr ⟨rfl, rfl, HMN⟩⟩, by simp [RowKit.intOf]; omega⟩
                          · have HMN := Lib.hid (show N[0] ∉ P.take (j + 1) by
                              rw [← List.take_append_getElem hjp]
                              intro hm
                              rcases List.mem_append.1 hm with hm | hm
                              · exact HM.out hm
                              · exact he (List.mem_singleton.1 hm).symm)
                            have hq : ((⟨P[j].toArray⟩ : ByteArray).toList == sx.toList) = false := by rw [Lib.toList_data, Lib.toList_data, beq_eq_false_iff_ne, HSX.out]; exact he
                            generalize (⟨P[j].toArray⟩ : ByteArray) = sp at *
                            clear he
                            go_upto_region 25 with fail
                            go_quiet (fail)
                            have BQ := Lib.hid (below_drewN HB3.out nq)
                            go_wp2_with fail
                            exact ⟨⟨j + 1, by omega, by go_num, BQ, .inl ⟨rfl, rfl, HMN⟩⟩, by simp [RowKit.intOf]; omega⟩
                        · obtain rfl : j = P.length := by omega
                          have hm := HM.out
                          rw [List.take_length] at hm
                          have HE := Lib.hid (show pickN (N.take (0 + 1)) P = (ws, false) by
                            rw [HOI.out, if_neg (by decide), if_neg hm]
                            have h2 := pickN_two (N.take 0) P (by rw [HPK.out])
                            rw [HPK.out] at h2
                            exact h2.symm)
                          clear hm
                          go_wp2_with fail
                          exact ⟨⟨0 + 1, by omega, by go_num, by rw [HE.out], by rw [HE.out], BF⟩, by simp [RowKit.intOf]; omega⟩
                      · have HE := Lib.hid (show pickN (N.take (0 + 1)) P = (N[0], true) by
                          rw [HOI.out, if_neg (by decide), if_pos HM.out])
                        by_cases hjp : j < P.length
                        · have hjI : (j : Int) < (P.length : Int) := by omega
                          go_wp2_with fail
                          exact ⟨⟨0 + 1, by omega, by go_num, by rw [HE.out, HSY.out], by rw [HE.out], BF⟩, by simp [RowKit.intOf]; omega⟩
                        · have hjI : ¬ (j : Int) < (P.length : Int) := by omega
                          go_wp2_with fail
                          exact ⟨⟨0 + 1, by omega, by go_num, by rw [HE.out, HSY.out], by rw [HE.out], BF⟩, by simp [RowKit.intOf]; omega⟩
                  · have HE := Lib.hid (show pickN (N.take (0 + 1)) P = (ws, true) by
                      rw [HOI.out, if_pos rfl])
                    go_loopw [6, 7, 11] (fun s6 s7 s11 wr3 => s6 = .string ⟨ws.toArray⟩ ∧ s7 = .bool true ∧ s11 = .int .i64 0 ∧ Hid (Below w3.heap.size w3 wr3)) (fun _ _ _ _ => 0)
                    case atStart => exact ⟨rfl, rfl, rfl, B20⟩
                    case round =>
                      obtain ⟨rfl, rfl, rfl, HB3⟩ := hrel
                      by_cases hjp : 0 < P.length
                      · have hjI : (0 : Int) < (P.length : Int) := by omega
                        go_wp2_with fail
                        exact ⟨⟨0 + 1, by omega, by go_num, by rw [HE.out], by rw [HE.out], HB3⟩, by simp [RowKit.intOf]; omega⟩
                      · have hjI : ¬ (0 : Int) < (P.length : Int) := by omega
                        go_wp2_with fail
                        exact ⟨⟨0 + 1, by omega, by go_num, by rw [HE.out], by rw [HE.out], HB3⟩, by simp [RowKit.intOf]; omega⟩
                · obtain ⟨i', rfl⟩ : ∃ i', i = i' + 1 := ⟨i - 1, by omega⟩
                  obtain ⟨bo', oo', e', hbo', d0⟩ := (HR3.out.below BWO.out) i' (by omega)
                  injection e' with e'
                  injection e' with e1 e2
                  subst e1 e2
                  obtain ⟨q, hq, eq⟩ := HO.out.here i' (by omega)
                  obtain ⟨bl', ol', e', hbl', y0, y1, y2⟩ := (HR.out.below BW2.out) q hq
                  injection e' with e'
                  injection e' with e1 e2
                  subst e1 e2
                  have l0 := cell_regrown y0
                  have l1 := cell_regrown y1
                  have l2 := cell_regrown y2
                  have z0 := cell_regrown d0
                  have q2 : IntKind.i64.wrap ((i' : Int) + 1 - 1) = (i' : Int) := by rw [IntWalk.i64_in _ (by omega)]; omega
                  have q4 : (0 : Int) < (i' : Int) + 1 := by omega
                  have q5 : (0 : Int) ≤ (i' : Int) ∧ (i' : Int) < (N.length : Int) := by omega
                  have q12 : (0 : Int) ≤ (i' : Int) ∧ (i' : Int) < (L.length : Int) := by omega
                  have q8 : IntKind.i64.wrap (i' : Int) = (i' : Int) := IntWalk.i64_in _ (by omega)
                  have q9 : ((i' : Int) + 1 - 1) = (i' : Int) := by omega
                  have q10 : (q : Int) < (L.length : Int) := by omega
                  have q11 : (0 : Int) ≤ (q : Int) := by omega
                  have LS := fun w => refLessS_any L[k] L[q] (HV.out.numS hk) (HV.out.numS hq) w
                  rw [HO.out.mono (i' + 1) hlt (by omega) k q hk hq HKP.out eq] at LS
                  unfold shV at LS
                  have cF : ∀ d os, Calls Tryz.prog 21 #[.slice (some ⟨bl, ol, none⟩) L.length cap, .string ⟨(N[i']'(by omega)).toArray⟩] (Go.Sort.grow (redrawn wr d) os) fun e w'' => e = .returned (.int .i64 (q : Int)) ∧ ∃ p : Regrown, w'' = Go.Sort.grow (redrawn wr p.d) p.os := fun d os => Calls.regrown_of ((FI.out ⟨(N[i']'(by omega)).toArray⟩ _ (BW2.out.trans ((below_regrown wr d os).mono BW2.out.size))).mono (by
                    rintro e w' ⟨z, rfl, rfl, hf⟩
                    rcases hf with ⟨_, hn⟩ | ⟨t, rfl, ht, htp, _⟩
                    · exact absurd eq (hn q hq)
                    · obtain rfl := HV.out.inj ht hq (htp.trans eq.symm)
                      exact ⟨rfl, Below.refl _ _⟩))
                  generalize (⟨(N[i']'(by omega)).toArray⟩ : ByteArray) = sv0 at *
                  generalize (⟨L[k].prj.toArray⟩ : ByteArray) = s1 at *
                  generalize (⟨L[q].prj.toArray⟩ : ByteArray) = s2 at *
                  generalize L[k].wgt = a1 at *
                  generalize L[q].wgt = a2 at *
                  generalize L[k].srv = d1 at *
                  generalize L[q].srv = d2 at *
                  have cL : ∀ d os, Calls Tryz.prog 22 #[.agg #[.string s1, .int .i64 a1, .int .i64 d1], .agg #[.string s2, .int .i64 a2, .int .i64 d2]] (Go.Sort.grow (redrawn wr d) os) fun e w'' => e = .returned (.bool false) ∧ ∃ p : Regrown, w'' = Go.Sort.grow (redrawn wr p.d) p.os := fun d os => Calls.regrown_of (LS _)
                  clear LS eq
                  go_upto_region 20 with fail
                  refine wp_region_quiet_below hmx (by kernel_rfl) ?_
                  repeat (quiet_step (first | exact cF _ _ | exact cL _ _))
                  refine wpQuiet_nil ?_
                  rintro _ ⟨⟨dq, osq⟩, rfl⟩
                  have hb20 : bo < (Go.Sort.grow (redrawn wr dq) osq).heap.size := Nat.lt_of_lt_of_le hbo (Nat.le_trans HB2.out.size (below_regrown wr dq osq).size)
                  clear q2 q4 q5 q8 q9 q12
                  have C20 := Lib.hid (cell_regrown c0 dq osq)
                  have B20 := Lib.hid (BWO.out.trans ((below_regrown wr dq osq).mono BWO.out.size))
                  have B20w := Lib.hid (BW2.out.trans ((below_regrown wr dq osq).mono BW2.out.size))
                  generalize Go.Sort.grow (redrawn wr dq) osq = W20 at *
                  clear c0
                  go_wp2_with fail
                  cases fb
                  · go_loopw [6, 7, 11] (fun s6 s7 s11 wr3 => ∃ j : Nat, j ≤ P.length ∧ s11 = .int .i64 (j : Int) ∧ Hid (Below W20.heap.size W20 wr3) ∧ ((s7 = .bool false ∧ s6 = .string ⟨ws.toArray⟩ ∧ Hid (N[i' + 1] ∉ P.take j)) ∨ (s7 = .bool true ∧ s6 = .string sx ∧ Hid (N[i' + 1] ∈ P)))) (fun _ _ s11 _ => P.length - (RowKit.intOf s11).toNat)
                    case atStart => exact ⟨0, by omega, rfl, Lib.hid (Below.refl _ _), .inl ⟨rfl, rfl, Lib.hid (by simp)⟩⟩
                    case round =>
                      obtain ⟨j, hj, rfl, HB3, hst⟩ := hrel
                      have BF := Lib.hid (B20.out.trans (HB3.out.mono B20.out.size))
                      have BFw := Lib.hid (B20w.out.trans (HB3.out.mono B20w.out.size))
                      have hj0 : (0 : Int) ≤ (j : Int) := by omega
                      rcases hst with ⟨rfl, rfl, HM⟩ | ⟨rfl, rfl, HM⟩
                      · by_cases hjp : j < P.length
                        · have hjI : (j : Int) < (P.length : Int) := by omega
                          obtain ⟨bp, op, rfl, hbp, p0⟩ := (HP.out.below BFw.out) j hjp
                          have c1 := (HB3.out.cell (p := ⟨bo, _, none⟩) hb20).trans C20.out
                          try simp only [Nat.add_zero] at c1
                          by_cases he : P[j] = N[i' + 1]
                          · have HMN := Lib.hid (show N[i' + 1] ∈ P from he ▸ List.getElem_mem hjp)
                            have hq : ((⟨P[j].toArray⟩ : ByteArray).toList == sx.toList) = true := by rw [Lib.toList_data, Lib.toList_data, beq_iff_eq, HSX.out]; exact he
                            generalize (⟨P[j].toArray⟩ : ByteArray) = sp at *
                            clear he
                            go_upto_region 25 with fail
                            go_quiet (fail)
                            have BQ := Lib.hid (below_drewN HB3.out nq)
                            go_wp2_with fail
                            exact ⟨⟨j + 1, by omega, by go_num, BQ, .inr ⟨rfl, rfl, HMN⟩⟩, by simp [RowKit.intOf]; omega⟩
                          · have HMN := Lib.hid (show N[i' + 1] ∉ P.take (j + 1) by
                              rw [← List.take_append_getElem hjp]
                              intro hm
                              rcases List.mem_append.1 hm with hm | hm
                              · exact HM.out hm
                              · exact he (List.mem_singleton.1 hm).symm)
                            have hq : ((⟨P[j].toArray⟩ : ByteArray).toList == sx.toList) = false := by rw [Lib.toList_data, Lib.toList_data, beq_eq_false_iff_ne, HSX.out]; exact he
                            generalize (⟨P[j].toArray⟩ : ByteArray) = sp at *
                            clear he
                            go_upto_region 25 with fail
                            go_quiet (fail)
                            have BQ := Lib.hid (below_drewN HB3.out nq)
                            go_wp2_with fail
                            exact ⟨⟨j + 1, by omega, by go_num, BQ, .inl ⟨rfl, rfl, HMN⟩⟩, by simp [RowKit.intOf]; omega⟩
                        · obtain rfl : j = P.length := by omega
                          have hm := HM.out
                          rw [List.take_length] at hm
                          have HE := Lib.hid (show pickN (N.take (i' + 1 + 1)) P = (ws, false) by
                            rw [HOI.out, if_neg (by decide), if_neg hm]
                            have h2 := pickN_two (N.take (i' + 1)) P (by rw [HPK.out])
                            rw [HPK.out] at h2
                            exact h2.symm)
                          clear hm
                          go_wp2_with fail
                          exact ⟨⟨i' + 1 + 1, by omega, by go_num, by rw [HE.out], by rw [HE.out], BF⟩, by simp [RowKit.intOf]; omega⟩
                      · have HE := Lib.hid (show pickN (N.take (i' + 1 + 1)) P = (N[i' + 1], true) by
                          rw [HOI.out, if_neg (by decide), if_pos HM.out])
                        by_cases hjp : j < P.length
                        · have hjI : (j : Int) < (P.length : Int) := by omega
                          go_wp2_with fail
                          exact ⟨⟨i' + 1 + 1, by omega, by go_num, by rw [HE.out, HSY.out], by rw [HE.out], BF⟩, by simp [RowKit.intOf]; omega⟩
                        · have hjI : ¬ (j : Int) < (P.length : Int) := by omega
                          go_wp2_with fail
                          exact ⟨⟨i' + 1 + 1, by omega, by go_num, by rw [HE.out, HSY.out], by rw [HE.out], BF⟩, by simp [RowKit.intOf]; omega⟩
                  · have HE := Lib.hid (show pickN (N.take (i' + 1 + 1)) P = (ws, true) by
                      rw [HOI.out, if_pos rfl])
                    go_loopw [6, 7, 11] (fun s6 s7 s11 wr3 => s6 = .string ⟨ws.toArray⟩ ∧ s7 = .bool true ∧ s11 = .int .i64 0 ∧ Hid (Below w3.heap.size w3 wr3)) (fun _ _ _ _ => 0)
                    case atStart => exact ⟨rfl, rfl, rfl, B20⟩
                    case round =>
                      obtain ⟨rfl, rfl, rfl, HB3⟩ := hrel
                      by_cases hjp : 0 < P.length
                      · have hjI : (0 : Int) < (P.length : Int) := by omega
                        go_wp2_with fail
                        exact ⟨⟨i' + 1 + 1, by omega, by go_num, by rw [HE.out], by rw [HE.out], HB3⟩, by simp [RowKit.intOf]; omega⟩
                      · have hjI : ¬ (0 : Int) < (P.length : Int) := by omega
                        go_wp2_with fail
                        exact ⟨⟨i' + 1 + 1, by omega, by go_num, by rw [HE.out], by rw [HE.out], HB3⟩, by simp [RowKit.intOf]; omega⟩
          · obtain rfl : i = N.length := by omega
            rw [List.take_length]
            go_wp2_with fail
            go_fit (PK.out _ BW.out)
            rintro e w4 ⟨M, hM, rfl, hb4⟩
            have B4 := Lib.hid (BW.out.trans (hb4.mono BW.out.size))
            rw [← ord_same HV.out HN.out hM]
            generalize pickN N P = r at *
            obtain ⟨rs, rb⟩ := r
            dsimp only
            generalize (⟨rs.toArray⟩ : ByteArray) = sx at *
            have q1 : (sx.toList == sx.toList) = true := by simp
            have q2 : (rb == rb) = true := by simp
            clear hb4 hM
            go_wp2_with fail
            go_fit (A.out _)
            rintro e w5 ⟨rfl, hb5⟩
            have B5 := Lib.hid (B4.out.trans (hb5.mono B4.out.size))
            clear hb5
            go_wp2_with fail
            go_ret
            exact ⟨rfl, B5.out⟩
      · have RV0 := Lib.hid (RV.out false ⟨fun h => (by cases h), fun h => absurd h hV⟩)
        have HV := Lib.hid hV
        clear RV hV
        go_enter Tryz.func6, Tryz.ntmps6
        go_wp2_with fail
        go_fit F1.out
        rintro e w1 ⟨rfl, rfl⟩
        go_wp2_with fail
        go_fit S1.out
        rintro e w1 ⟨rfl, rfl⟩
        go_wp2_with fail
        go_fit OR.out
        rintro e w2 ⟨a, c, N, rfl, hN, hrd, hb2⟩
        have B2 := Lib.hid hb2
        obtain rfl : N = [] := by
          rcases hN with ⟨_, h⟩ | ⟨h, _⟩
          · exact h
          · exact absurd h HV.out
        clear hb2 hN hrd
        go_wp2_with fail
        go_fit (RV0.out _ B2.out)
        rintro e w3 ⟨rfl, hb3⟩
        have B3 := Lib.hid (B2.out.trans (hb3.mono B2.out.size))
        clear hb3
        go_wp2_with fail
        go_fit (A.out _)
        rintro e w4 ⟨rfl, hb4⟩
        have B4 := Lib.hid (B3.out.trans (hb4.mono B3.out.size))
        clear hb4
        go_wp2_with fail
        go_ret
        exact ⟨rfl, B4.out⟩
    · have S0 := Lib.hid (SH.out false ⟨fun h => (by cases h), fun h => absurd h hs⟩)
      clear SH hf hs hr hp hlen hlp hcp
      go_enter Tryz.func6, Tryz.ntmps6
      go_wp2_with fail
      go_fit F1.out
      rintro e w1 ⟨rfl, rfl⟩
      go_wp2_with fail
      go_fit S0.out
      rintro e w1 ⟨rfl, rfl⟩
      go_wp2_with fail
      go_fit (A.out _)
      rintro e w2 ⟨rfl, hb⟩
      have B2 := Lib.hid hb
      clear hb
      go_wp2_with fail
      go_ret
      exact ⟨rfl, B2.out⟩
  · have F0 := Lib.hid (F.out false ⟨fun h => (by cases h), fun h => absurd h hf⟩)
    clear hf hr hp F SH hlen hlp hcp
    go_enter Tryz.func6, Tryz.ntmps6
    go_wp2_with fail
    go_fit F0.out
    rintro e w1 ⟨rfl, rfl⟩
    go_wp2_with fail
    go_fit (A.out _)
    rintro e w2 ⟨rfl, hb⟩
    have B2 := Lib.hid hb
    clear hb
    go_wp2_with fail
    go_ret
    exact ⟨rfl, B2.out⟩

set_option maxRecDepth 100000 in
theorem lifted (os : Os) (started : os.Started) (H : Type) (enc : TypeId × Value → H) :
    ReturnsInHanded {} Tryz.checked os 6 .any (fun w args => (Rows.fairnessOrderSpec.pre enc Tryz.prog Tryz.f6 Rows.fairnessOrderRow.domain false w args ∧ laidMetH Tryz.prog laid23 w) ∧ sizedMet enc Tryz.prog Tryz.f6 (OpenSpec.ofChange Rows.fairnessOrderSpec) false w args) (Rows.fairnessOrderSpec.post enc Tryz.prog Tryz.f6 false true false false) := by
  refine returnsInHanded_of_change_andShaped (C := Tryz.checked) (X := fun w _ => laidMetH Tryz.prog laid23 w) (fun _ _ _ hh h => h.of_heap hh) own started (by kernel_rfl) Tryz.func6
    (ChangeSpec.witness_shaped (enc := enc) (C := Tryz.checked) (os := os) (X := fun w _ => laidMetH Tryz.prog laid23 w) false (World.laidAll Tryz.prog os laid23) #[.slice none 0 0, .slice none 0 0] 8 (World.laidAll_os _ _ _) (World.shaped_of_ZipB (by kernel_rfl) (by kernel_rfl)) (by kernel_rfl) (by kernel_rfl) (by kernel_rfl) (lay23_met os _)) ?_
  intro W base args ds gs before hval0 hW hcnd hsz hL hsh _
  have hval : ∀ (j : Nat) t v, Tryz.f6.params[j]? = some t → args[j]? = some v → Value.okWide Tryz.prog W .any base t v := hval0
  have hW' := hW
  obtain ⟨p, q, hA0, hV, rfl, hfz, hnd⟩ := hW
  have hA : DataW.TrodAll enc Tryz.prog W 0 (fun _ => true) true Tryz.f6.params.toList args.toList ds p := hA0
  rw [Tryz.params6] at hA hval hsz
  obtain ⟨v0, vs0, d0, ds0, p0, q0, hargs, rfl, rfl, h0, r0⟩ := trodAll_cons hA
  obtain ⟨v1, vs1, d1, ds1, p1, q1, rfl, rfl, rfl, h1, r1⟩ := trodAll_cons r0
  obtain ⟨rfl, rfl, rfl⟩ := trodAll_nil r1
  obtain rfl : args = #[v0, v1] := by cases args; simp_all
  obtain ⟨rfl, rfl⟩ := trodVars_none hV
  obtain ⟨a0, len0, cap0, rfl⟩ := okWide_slice Tryz.underlying22 (hval 0 22 v0 rfl rfl)
  have k0 := h0
  have lt0 : ∀ x ∈ p0, x.block < W.heap.size := by obtain ⟨m, hm⟩ := k0; exact DataW.trod_lt m _ _ _ hm
  have hw0 : (d0.weights Tryz.prog 22).all (· ≤ reachBytes) = true := List.all_eq_true.2 (fun n hn => List.all_eq_true.1 hsz n (DataW.weights_mem_each (j := 0) (t := 22) rfl rfl n hn))
  obtain ⟨L0, rfl, hlen0, hx0, hr0⟩ : ∃ L : List Sha, len0 = L.length ∧ L.length * 32 ≤ 140737488351232 ∧ (∀ j (h : j < L.length), L[j].prj.length ≤ 140737488351232) ∧ ReadsH W a0 L := by
    obtain ⟨fuel, hf⟩ := h0
    exact open_shares fuel a0 len0 cap0 _ (by simpa [Value.cells] using hf) hw0
  obtain ⟨a1, len1, cap1, rfl⟩ := okWide_slice Tryz.underlying32 (hval 1 32 v1 rfl rfl)
  have k1 := h1
  have lt1 : ∀ x ∈ p1, x.block < W.heap.size := by obtain ⟨m, hm⟩ := k1; exact DataW.trod_lt m _ _ _ hm
  obtain ⟨L1, rfl, hL1, hlen1, hx1, hr1⟩ : ∃ L : List (List UInt8), len1 = L.length ∧ L.length ≤ cap1 ∧ cap1 ≤ 9223372036854775807 ∧ (∀ z ∈ L, z.length ≤ 9223372036854775807) ∧ ReadsStr W a1 L := by
    obtain ⟨fuel, hf⟩ := h1
    rcases Go.Deep.open_strs Tryz.underlying32 Tryz.underlying9 (by kernel_rfl) hf with ⟨hcs, _⟩ | ⟨x, l, c, m, Sx, hcs, _, hl, hm, hz, _, hcell⟩
    · simp [Value.cells] at hcs
      obtain ⟨rfl, rfl, rfl⟩ := hcs
      exact ⟨[], rfl, by simp, by simp, by simp, fun k hk => by simp at hk⟩
    · simp [Value.cells] at hcs
      obtain ⟨rfl, rfl, rfl⟩ := hcs
      exact reads_ofS hl hm (by simp at hz; omega) hcell
  clear hA0 hval0
  refine (walk a0 cap0 L0 hlen0 hx0 a1 cap1 L1 hL1 hlen1 hx1  W (tab23_of hL hsh) hr0 hr1).mono fun e W' ⟨he, bel⟩ => ?_
  subst he
  exact ⟨_, rfl, _, _, _, [], _, [], hW', trodAll_mk1 (shut_bool Tryz.underlying4 _), (trodAll_cons_mk (Below.trod laidOut (by kernel_rfl) (of_decide_eq_true (by kernel_rfl)) k0 bel lt0) (trodAll_cons_mk (Below.trod laidOut (by kernel_rfl) (of_decide_eq_true (by kernel_rfl)) k1 bel lt1) trodAll_mk0)), rfl, bel.frame _, fun h => by cases h⟩

theorem over : Rows.fairnessOrderRow.holds Tryz.pinned (OpenSpec.ofChange Rows.fairnessOrderSpec) :=
  OpenClaim.holds_of_wide 6 Tryz.f6 rfl rfl rfl rfl rfl rfl rfl ⟨rfl, rfl, rfl, rfl, rfl⟩ rfl rfl rfl rfl rfl (by kernel_rfl) Tryz.func6 (by kernel_rfl)
    (of_decide_eq_true (by kernel_rfl)) (by unfold Func.isWrapper; first | (rw [if_pos (by decide +kernel)]; kernel_rfl) | (rw [if_neg (by decide +kernel)]; exact ⟨rfl, rfl⟩))
    (fun os started H enc _ => lifted os started H enc)

/-- THE STATEMENT. -/
theorem proved : Rows.FairnessOrderCardSaid :=
  Claim7.holds_tied_plain_at .later [] [.data, .pinned] true Rows.fairnessOrderCard.stood.harness false
    over (fun _ h => by cases h) (by kernel_rfl) (fun _ h => by cases h) fairnessOrder_row_tie rfl ⟨rfl, rfl⟩ (by kernel_rfl) rfl
    (fun f fn hf hfn => by
      obtain rfl : f = 6 := Option.some.inj ((show Tryz.prog.funcNamed "pipeline/pipelinelaw23.FairnessOrder" = some 6 by kernel_rfl).symm.trans hf) |>.symm
      obtain rfl : fn = Tryz.f6 := (Option.some.inj (Tryz.func6.symm.trans hfn)).symm
      exact ⟨by kernel_rfl, fun j t ht => by
        rw [Tryz.params6] at ht
        have hm : t ∈ [22, 32] := by simpa using Array.mem_of_getElem? ht
        have hall : ([22, 32].all fun u => !Tryz.prog.wantsStandIn u) = true := by kernel_rfl
        exact (show Tryz.prog.wantsStandIn t = false by simpa using List.all_eq_true.1 hall t hm)⟩)
    (by kernel_rfl)
#print axioms proved
end Go.Proofs.YtbjodcjfaeclmaaGreatDoor.fairnessOrder
