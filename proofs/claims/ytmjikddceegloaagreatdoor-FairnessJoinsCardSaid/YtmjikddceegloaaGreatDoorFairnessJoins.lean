/- A new project begins at the smallest ratio of the others, less than one unit above it. -/
import Derived.Test.YtmjikddceegloaaGreatDoorTie
import Derived.Test.YtmjikddceegloaaGreatDoorCards
import Derived.Test.YtmjikddceegloaaGreatDoorFrTab
import Derived.Test.YtmjikddceegloaaGreatDoorFrY
import Derived.Test.YtmjikddceegloaaGreatDoorFuB
import Derived.ProofKit
import Derived.OpenShut
import Derived.LaidMore
import Derived.Stop.Joined
import Derived.SevenTiedAt
import Derived.SizedLaws
namespace Go.Proofs.YtmjikddceegloaaGreatDoor.fairnessJoins
open Go.ChangeShapes Go.WideShapes Go.ChangeAt Go.RowKit
open Go.ChangeMaps (open_string shut_string)
set_option linter.unusedVariables false

theorem own : ownKnob Tryz.prog.godebug = none := by kernel_rfl
theorem laidOut : laidOutB Tryz.prog = true := by kernel_rfl

set_option linter.unusedVariables false
theorem minF_le (m : Sha) (L : List Sha) (hm : 0 < m.wgt) (hL : ∀ y ∈ L, 0 < y.wgt) : 0 < (minF m L).wgt ∧ RLe (minF m L) m ∧ ∀ y ∈ L, RLe (minF m L) y := by
  induction L generalizing m with
  | nil => exact ⟨hm, RLe.refl _, fun y h => by simp at h⟩
  | cons y r ih =>
    unfold minF
    have hy := hL y (List.mem_cons_self ..)
    have hr := fun z hz => hL z (List.mem_cons_of_mem y hz)
    have key : 0 < (if cmpR y m < 0 then y else m).wgt ∧ RLe (if cmpR y m < 0 then y else m) m ∧ RLe (if cmpR y m < 0 then y else m) y := by
      split
      · rename_i h
        rw [cmpR_neg] at h
        exact ⟨hy, (RLe.total y m).resolve_right h, RLe.refl _⟩
      · rename_i h
        rw [cmpR_neg, Classical.not_not] at h
        exact ⟨hm, RLe.refl _, h⟩
    obtain ⟨k1, k2, k3⟩ := key
    obtain ⟨i1, i2, i3⟩ := ih _ k1 hr
    refine ⟨i1, RLe.trans k1 i1 hm i2 k2, fun z hz => ?_⟩
    rcases List.mem_cons.1 hz with rfl | hz
    · exact RLe.trans k1 i1 hy i2 k3
    · exact i3 z hz
theorem minF_least (L : List Sha) (h : 0 < L.length) (hL : ∀ y ∈ L, 0 < y.wgt) : 0 < (minF L[0] (L.drop 1)).wgt ∧ ∀ y ∈ L, RLe (minF L[0] (L.drop 1)) y := by
  cases L with
  | nil => simp at h
  | cons x r =>
    simp only [List.getElem_cons_zero, List.drop_succ_cons, List.drop_zero]
    obtain ⟨h1, h2, h3⟩ := minF_le x r (hL x (List.mem_cons_self ..)) (fun z hz => hL z (List.mem_cons_of_mem _ hz))
    refine ⟨h1, fun y hy => ?_⟩
    rcases List.mem_cons.1 hy with rfl | hy
    · exact h2
    · exact h3 y hy
theorem up_low (s : Sha) (m : Int) (hg : 0 < s.wgt) : (upR s m - 1) * s.wgt < s.srv * m ∧ s.srv * m ≤ upR s m * s.wgt := by
  unfold upR
  have h1 := Int.mul_ediv_add_emod (s.srv * m + s.wgt - 1) s.wgt
  have h2 := Int.emod_nonneg (s.srv * m + s.wgt - 1) (show s.wgt ≠ 0 by omega)
  have h3 := Int.emod_lt_of_pos (s.srv * m + s.wgt - 1) hg
  generalize s.srv * m = z at *
  generalize (z + s.wgt - 1) / s.wgt = q at *
  generalize (z + s.wgt - 1) % s.wgt = r at *
  rw [Int.sub_mul, Int.one_mul, Int.mul_comm q s.wgt]
  omega
/-- One less would be below every share. -/
theorem join_under (L : List Sha) (m : Int) (p : List UInt8) (hm : 1 ≤ m) (hL : ∀ y ∈ L, 0 < y.wgt) (y : Sha) (hy : y ∈ L) : lessR ⟨p, m, leastL L m - 1⟩ y = true := by
  have h0 : 0 < L.length := List.length_pos_of_mem hy
  obtain ⟨g, hz⟩ := minF_least L h0 hL
  rw [leastL_eq L m h0]
  have hy0 := hL y hy
  have hzy := hz y hy
  obtain ⟨u, _⟩ := up_low (minF L[0] (L.drop 1)) m g
  generalize minF L[0] (L.drop 1) = z at *
  unfold lessR
  rw [decide_eq_true_eq]
  dsimp only
  unfold RLe at hzy
  generalize upR z m - 1 = q at *
  refine Int.lt_of_mul_lt_mul_right (a := z.wgt) ?_ (by omega)
  have e1 := Int.mul_lt_mul_of_pos_right u hy0
  have e2 := Int.mul_le_mul_of_nonneg_right hzy (show 0 ≤ m by omega)
  have q1 : q * y.wgt * z.wgt = q * z.wgt * y.wgt := Int.mul_right_comm ..
  have q2 : y.srv * m * z.wgt = y.srv * z.wgt * m := Int.mul_right_comm ..
  have q3 : z.srv * m * y.wgt = z.srv * y.wgt * m := Int.mul_right_comm ..
  rw [q1, q2]
  rw [q3] at e1
  exact Int.lt_of_lt_of_le e1 e2
/-- It is not below all of them. -/
theorem join_above (L : List Sha) (m : Int) (p : List UInt8) (h0 : 0 < L.length) (hL : ∀ y ∈ L, 0 < y.wgt) : ∃ y ∈ L, lessR ⟨p, m, leastL L m⟩ y = false := by
  obtain ⟨g, _⟩ := minF_least L h0 hL
  refine ⟨_, minF_in L h0, ?_⟩
  rw [leastL_eq L m h0]
  obtain ⟨_, u⟩ := up_low (minF L[0] (L.drop 1)) m g
  generalize minF L[0] (L.drop 1) = z at *
  unfold lessR
  rw [decide_eq_false_iff_not]
  dsimp only
  omega
/-- What the statement's second loop has found so far. -/
def abvK (L : List Sha) (s : Sha) (k : Nat) : Bool := decide (L.length = 0) || (L.take k).any fun y => !lessR s y
theorem abvK_step (L : List Sha) (s : Sha) (k : Nat) (h : k < L.length) : abvK L s (k + 1) = (abvK L s k || !lessR s L[k]) := by
  unfold abvK
  rw [List.take_succ_eq_append_getElem h, List.any_append, Bool.or_assoc]
  simp
theorem abvK_all (L : List Sha) (m : Int) (p : List UInt8) (hL : ∀ y ∈ L, 0 < y.wgt) : abvK L ⟨p, m, leastL L m⟩ L.length = true := by
  unfold abvK
  by_cases h0 : L.length = 0
  · simp [h0]
  · obtain ⟨y, hy, e⟩ := join_above L m p (by omega) hL
    rw [List.take_length]
    have : (L.any fun y => !lessR ⟨p, m, leastL L m⟩ y) = true := List.any_eq_true.2 ⟨y, hy, by rw [e]; rfl⟩
    rw [this, Bool.or_true]
theorem ins_at (L : List Sha) (s : Sha) (i : Nat) (hi : i ≤ L.length) : (L.take i ++ s :: L.drop i)[i]? = some s := by
  rw [List.getElem?_append_right (by rw [List.length_take]; omega), List.length_take, Nat.min_eq_left hi, Nat.sub_self]
  rfl
theorem ins_other (L : List Sha) (s : Sha) (i t : Nat) (hi : i ≤ L.length) (ht : t ≠ i) (y : Sha) (h : (L.take i ++ s :: L.drop i)[t]? = some y) : y ∈ L := by
  by_cases hlt : t < i
  · rw [List.getElem?_append_left (by rw [List.length_take]; omega)] at h
    exact List.mem_of_mem_take (List.mem_of_getElem? h)
  · rw [List.getElem?_append_right (by rw [List.length_take]; omega), List.length_take, Nat.min_eq_left hi, show t - i = (t - i - 1) + 1 by omega, List.getElem?_cons_succ] at h
    exact List.mem_of_mem_drop (List.mem_of_getElem? h)
/-- The project is found where it was put. -/
theorem ins_find (L : List Sha) (p : List UInt8) (m q : Int) (i : Nat) (hi : i ≤ L.length) (hno : ∀ k (h : k < L.length), L[k].prj ≠ p) (j : Int) (h : FindPostD (L.take i ++ ⟨p, m, q⟩ :: L.drop i) p j) : j = (i : Int) := by
  have ha := ins_at L ⟨p, m, q⟩ i hi
  obtain ⟨hil, hie⟩ := List.getElem?_eq_some_iff.1 ha
  rcases h with ⟨_, hn⟩ | ⟨k, rfl, hk, e, _⟩
  · exact absurd (by rw [hie]) (hn i hil)
  · by_cases hki : k = i
    · rw [hki]
    · have hy := ins_other L ⟨p, m, q⟩ i k hi hki _ (List.getElem?_eq_getElem hk)
      obtain ⟨t, ht, et⟩ := List.getElem_of_mem hy
      exact absurd (by rw [et]; exact e) (hno t ht)
/-- Where a project that has no share is added, either nothing changes or it is put in. -/
theorem addR_inv {L : List Sha} {p : List UInt8} {m : Int} {R : List Sha} {E : Int} (h : AddR L p m (R, E)) (hV : ValidS L) (hno : ∀ k (h : k < L.length), L[k].prj ≠ p) :
    (E ≠ 0 ∧ R = L) ∨ (E = 0 ∧ (1 ≤ m ∧ m ≤ 1000) ∧ leastL L m ≤ 1125899906842624 ∧ L.length < 64 ∧ ∃ i, i ≤ L.length ∧ R = L.take i ++ ⟨p, m, leastL L m⟩ :: L.drop i) := by
  generalize hRE : (R, E) = RE at h
  cases h with
  | bad g => exact absurd hV g
  | name _ _ => cases hRE; exact .inl ⟨by decide, rfl⟩
  | weight _ _ _ => cases hRE; exact .inl ⟨by decide, rfl⟩
  | has k hk _ _ _ e => exact absurd e (hno k hk)
  | new i _ _ g hp _ =>
    unfold addNew at hRE
    have := hV.len
    split at hRE
    · cases hRE; exact .inl ⟨by decide, rfl⟩
    · split at hRE
      · cases hRE; exact .inl ⟨by decide, rfl⟩
      · cases hRE
        exact .inr ⟨rfl, g, by omega, by omega, i, hp.le, rfl⟩
theorem leastL_nonneg (L : List Sha) (m : Int) (hm : 1 ≤ m ∧ m ≤ 1000) (hL : ∀ y ∈ L, RngS y) : 0 ≤ leastL L m := by
  by_cases h0 : 0 < L.length
  · rw [leastL_eq L m h0]
    have hz := hL _ (minF_in L h0)
    exact (upR_bounds _ m hz.1.1 hm hz.2).1
  · obtain rfl := List.eq_nil_of_length_eq_zero (show L.length = 0 by omega)
    exact Int.le_refl 0
theorem ins_len' (L : List Sha) (s : Sha) (i : Nat) (h : i ≤ L.length) : ((L.take i ++ s :: L.drop i).length : Int) = (L.length : Int) + 1 := by
  rw [len_ins L s i h]
  omega
attribute [local irreducible] wpQuiet
set_option maxHeartbeats 8000000 in
set_option maxRecDepth 100000 in
theorem walk (v : Option Addr) (cap : Nat) (L : List Sha) (hlen : L.length * 32 ≤ 140737488351232) (_ : ∀ j (h : j < L.length), L[j].prj.length ≤ 140737488351232) (p : ByteArray) (c : Int) (hp : p.size ≤ 140737488355327) (hcI : (Lit.int IntKind.i64 c).wf = true) (w : World) (_ : Tab23 w) (hr : ReadsH w v L) :
    Calls Tryz.prog 7 #[.slice v L.length cap, .string p, .int .i64 c] w fun e w' => e = .returned (.bool true) ∧ Below w.heap.size w w' := by
  have HR := Lib.hid hr
  have F := Lib.hid (fun b hb => few_any v cap L b hb (by omega) w hr)
  have A := Lib.hid (fun w' => awake_any w')
  have hmx : Tryz.prog.follows .mixedOrders = true := by kernel_rfl
  by_cases hf : FewS L
  · have F1 := Lib.hid (F.out true ⟨fun _ => hf, fun _ => rfl⟩)
    clear F
    by_cases h100 : p.size ≤ 100
    · have hx : ∀ x ∈ L, x.prj.length ≤ 1000000 := fun x hx => by
        obtain ⟨i, hi, rfl⟩ := List.getElem_of_mem hx
        have := hf.names i hi
        omega
      have h66 := hf.len
      have hq : ¬ (100 : Int) < (p.size : Int) := by omega
      have VA := fun b hb w' (h : Below w.heap.size w w') => refValid_any v cap L b hb (by omega) hx w' (HR.out.below h)
      have FI := Lib.hid (fun w' (h : Below w.heap.size w w') => refFind_any v cap L p (by omega) w' (HR.out.below h))
      have AD := Lib.hid (fun w' (h : Below w.heap.size w w') => add_any v cap L p c (by omega) (by omega) hx w' (HR.out.below h))
      clear hf hr hlen h100
      by_cases hV : ValidS L
      · have VA1 := Lib.hid (VA true ⟨fun _ => hV, fun _ => rfl⟩)
        have HV := Lib.hid hV
        clear VA
        by_cases hno : ∀ k (h : k < L.length), L[k].prj ≠ p.data.toList
        · have HNO := Lib.hid hno
          clear hV hno hx
          go_enter Tryz.func7, Tryz.ntmps7
          go_wp2_with fail
          go_fit F1.out
          rintro e w1 ⟨rfl, rfl⟩
          go_wp2_with fail
          go_fit (VA1.out _ (Below.refl _ _))
          rintro e w2 ⟨rfl, hb2⟩
          have B2 := Lib.hid hb2
          clear hb2
          go_wp2_with fail
          go_fit (FI.out _ B2.out)
          rintro e w3 ⟨i3, rfl, rfl, hf3⟩
          obtain rfl : i3 = -1 := by
            rcases hf3 with ⟨h, _⟩ | ⟨k, _, hk, e, _⟩
            · exact h
            · exact absurd e (HNO.out k hk)
          clear hf3
          go_wp2_with fail
          go_fit (AD.out _ B2.out)
          rintro e w4 ⟨a4, c4, ⟨R4, E4⟩, rfl, ha, hr4, hb4⟩
          have B4 := Lib.hid (B2.out.trans (hb4.mono B2.out.size))
          dsimp only at hr4
          have H4 := Lib.hid hr4
          rcases addR_inv ha HV.out HNO.out with ⟨hE, hRL⟩ | ⟨hE, hm, hle, h64, i, hi, hRL⟩
          · subst hRL
            have hEq : (E4 == 0) = false := by rw [beq_eq_false_iff_ne]; exact hE
            have SM := Lib.hid (same_any a4 v c4 cap R4 (by omega) w4 hr4 (HR.out.below B4.out))
            clear ha hr4 hb4 hE
            go_wp2_with fail
            go_fit SM.out
            rintro e w5 ⟨rfl, hb5⟩
            have B5 := Lib.hid (B4.out.trans (hb5.mono B4.out.size))
            clear hb5
            go_wp2_with fail
            go_fit (A.out _)
            rintro e w6 ⟨rfl, hb6⟩
            have B6 := Lib.hid (B5.out.trans (hb6.mono B5.out.size))
            clear hb6
            go_wp2_with fail
            go_ret
            exact ⟨rfl, B6.out⟩
          · subst hE
            have hRl : (R4.length : Int) = (L.length : Int) + 1 := by rw [hRL]; exact ins_len' L _ i hi
            have hRn : R4.length = L.length + 1 := by omega
            have FR := Lib.hid (refFind_any a4 c4 R4 p (by omega) w4 hr4)
            have HIF := Lib.hid (show ∀ j, FindPostD R4 p.data.toList j → j = (i : Int) from fun j hj => by rw [hRL] at hj; exact ins_find L _ c _ i hi HNO.out j hj)
            have hiR : i < R4.length := by omega
            have hRi : R4[i] = ⟨p.data.toList, c, leastL L c⟩ := by
              have := ins_at L ⟨p.data.toList, c, leastL L c⟩ i hi
              rw [← hRL] at this
              exact (List.getElem?_eq_some_iff.1 this).2
            have hpos : ∀ y ∈ L, 0 < y.wgt := fun y hy => by
              obtain ⟨t, ht, e⟩ := List.getElem_of_mem hy
              have := (HV.out.right ht).2.1
              rw [e] at this
              omega
            have hrg : ∀ y ∈ L, RngS y := fun y hy => by
              obtain ⟨t, ht, e⟩ := List.getElem_of_mem hy
              have := (HV.out.right ht).2
              rw [e] at this
              exact this
            have hq0 := leastL_nonneg L c hm hrg
            have HU := Lib.hid (fun k (hk : k < L.length) => join_under L c p.data.toList hm.1 hpos L[k] (List.getElem_mem hk))
            have HAB := Lib.hid (abvK_all L c p.data.toList hpos)
            have HST := Lib.hid (fun k (hk : k < L.length) => abvK_step L ⟨p.data.toList, c, leastL L c⟩ k hk)
            have HZ := Lib.hid (show abvK L ⟨p.data.toList, c, leastL L c⟩ 0 = decide (L.length = 0) by unfold abvK; simp)
            have hqz : L.length = 0 → leastL L c = 0 := fun h => by obtain rfl := List.eq_nil_of_length_eq_zero h; rfl
            obtain ⟨b4, o4, rfl, hb4l, d0, d1, d2⟩ := hr4 i hiR
            rw [hRi] at d0 d1 d2
            dsimp only at d0 d1 d2
            rw [str_back p] at d0
            have HNUM := Lib.hid (fun (y : Sha) (hy : y ∈ L) => (hrg y hy).num)
            have hcq : I64 c := by unfold I64; omega
            generalize leastL L c = q at *
            have LS := Lib.hid (fun (x y : Sha) hx hy w => refLessS_any x y hx hy w)
            have HPB := Lib.hid (show (⟨p.data.toList.toArray⟩ : ByteArray) = p from str_back p)
            have hiI : (i : Int) < (R4.length : Int) := by omega
            have hi0 : (0 : Int) ≤ (i : Int) := by omega
            have hin : ¬ (i : Int) < 0 := by omega
            have HD := Lib.hid (show ∀ w', Below w4.heap.size w4 w' → w'.cell? ⟨b4, o4 + i * 3, none⟩ = some (.string p) ∧ w'.cell? ⟨b4, o4 + i * 3 + 1, none⟩ = some (.int .i64 c) ∧ w'.cell? ⟨b4, o4 + i * 3 + 2, none⟩ = some (.int .i64 q) from fun w' hb => ⟨(hb.cell (p := ⟨b4, _, none⟩) hb4l).trans d0, (hb.cell (p := ⟨b4, _, none⟩) hb4l).trans d1, (hb.cell (p := ⟨b4, _, none⟩) hb4l).trans d2⟩)
            have HRN := Lib.hid hRl
            clear ha hr4 hb4 hRL hRi hpos hrg d0 hRn hRl
            go_wp2_with fail
            go_fit FR.out
            rintro e w5 ⟨j5, rfl, rfl, hf5⟩
            obtain rfl := HIF.out j5 hf5
            clear hf5
            obtain ⟨d0, d1, d2⟩ := HD.out _ (Below.refl _ _)
            have hRl := HRN.out
            have hcc : (c == c) = true := by simp
            have hu0 : ¬ (0 : Int) < (L.length : Int) → q = 0 := fun h => hqz (by omega)
            have HUQ := Lib.hid hu0
            clear hqz hu0
            have hdq : (decide (0 < (L.length : Int)) || (q == 0)) = true := by
              rw [Bool.or_eq_true, decide_eq_true_eq, beq_iff_eq]
              by_cases h0 : (0 : Int) < (L.length : Int)
              · exact .inl h0
              · exact .inr (HUQ.out h0)
            by_cases hL0 : L = []
            · have hq00 : q = 0 := HUQ.out (by rw [hL0]; simp)
              have HAB1 := Lib.hid (show abvK L ⟨p.data.toList, c, q⟩ L.length = true from HAB.out)
              subst hq00
              have hdl : decide ((0 : Int) < (L.length : Int)) = false := by rw [hL0]; rfl
              subst hL0
              obtain rfl : i = 0 := Nat.le_zero.1 hi
              have hR1 : (R4.length : Int) = 1 := HRN.out
              clear hRl
              go_wp2_with fail
              go_loopw [10, 11] (fun s10 s11 wr => s10 = .bool true ∧ s11 = .int .i64 0 ∧ Hid (Below w5.heap.size w5 wr)) (fun _ _ _ => 0)
              case atStart => exact ⟨rfl, rfl, Lib.hid (Below.refl _ _)⟩
              case round =>
                obtain ⟨rfl, rfl, BR⟩ := hrel
                go_wp2_with fail
                go_loopw [13, 14] (fun s13 s14 wr => s13 = .bool true ∧ s14 = .int .i64 0 ∧ Hid (Below w5.heap.size w5 wr)) (fun _ _ _ => 0)
                case atStart => exact ⟨rfl, rfl, BR⟩
                case round =>
                  obtain ⟨rfl, rfl, BR⟩ := hrel
                  have B5 := Lib.hid (B4.out.trans (BR.out.mono B4.out.size))
                  go_wp2_with fail
                  go_fit (A.out _)
                  rintro e w6 ⟨rfl, hb6⟩
                  have B6 := Lib.hid (B5.out.trans (hb6.mono B5.out.size))
                  clear hb6
                  go_wp2_with fail
                  go_ret
                  exact ⟨rfl, B6.out⟩
            · have hLp : (0 : Int) < (L.length : Int) := by
                have := List.length_pos_iff.2 hL0
                omega
              have hLz : ((L.length : Int) == 0) = false := by rw [beq_eq_false_iff_ne]; omega
              go_wp2_with fail
              go_loopw [10, 11] (fun s10 s11 wr => ∃ k : Nat, k ≤ L.length ∧ s10 = .bool true ∧ s11 = .int .i64 (k : Int) ∧ Hid (Below w5.heap.size w5 wr)) (fun _ s11 _ => L.length - (RowKit.intOf s11).toNat)
              case atStart => exact ⟨0, by omega, rfl, rfl, Lib.hid (Below.refl _ _)⟩
              case round =>
                obtain ⟨k, hk, rfl, rfl, BR⟩ := hrel
                by_cases hkl : k < L.length
                · have hkI : (k : Int) < (L.length : Int) := by omega
                  have hk0 : (0 : Int) ≤ (k : Int) := by omega
                  have hw1 : IntKind.i64.wrap ((k : Int) + 1) = (k : Int) + 1 := by rw [IntKind.wrap_i64]; omega
                  obtain ⟨e0, e1, e2⟩ := HD.out wr BR.out
                  by_cases hqp : 0 < q
                  · obtain ⟨b, off, rfl, hbl, c0, c1, c2⟩ := (HR.out.below (B4.out.trans (BR.out.mono B4.out.size))) k hkl
                    have hwq : wrap64 (q - 1) = q - 1 := by unfold wrap64; omega
                    have hU := HU.out k hkl
                    have LC := fun w => LS.out ⟨p.data.toList, c, q - 1⟩ L[k] ⟨hcq, by show I64 (q - 1); unfold I64; omega⟩ (HNUM.out _ (List.getElem_mem hkl)) w
                    rw [hU] at LC
                    unfold shV at LC
                    dsimp only at LC
                    rw [show (⟨p.data.toList.toArray⟩ : ByteArray) = p from str_back p] at LC
                    obtain ⟨sy, hsy⟩ : ∃ t : ByteArray, t = ⟨L[k].prj.toArray⟩ := ⟨_, rfl⟩
                    rw [← hsy] at LC c0
                    generalize L[k].wgt = gy at *
                    generalize L[k].srv = vy at *
                    clear hU hsy
                    have T := ThH.new wr (.string p) (.int .i64 c) (.int .i64 (q - 1))
                    have BA := (Below.refl wr.heap.size wr).alloc (Nat.le_refl _) (.cells #[.string p, .int .i64 c, .int .i64 (q - 1)] 41)
                    have m0 := (BA.cell (p := ⟨b, _, none⟩) hbl).trans c0
                    have m1 := (BA.cell (p := ⟨b, _, none⟩) hbl).trans c1
                    have m2 := (BA.cell (p := ⟨b, _, none⟩) hbl).trans c2
                    go_upto_region 14 with fail
                    obtain ⟨W, hW⟩ : ∃ W, W = wr.alloc (.cells #[.string p, .int .i64 c, .int .i64 (q - 1)] 41) := ⟨_, rfl⟩
                    rw [← hW] at T BA m0 m1 m2 ⊢
                    clear hW c0 c1 c2 e0 e1 e2
                    obtain ⟨t0, t1, t2⟩ := T.facts
                    have k0 := cell_regrown t0
                    have k1 := cell_regrown t1
                    have k2 := cell_regrown t2
                    have k3 := cell_regrown m0
                    have k4 := cell_regrown m1
                    have k5 := cell_regrown m2
                    have cL : ∀ d os, Calls Tryz.prog 22 #[.agg #[.string p, .int .i64 c, .int .i64 (q - 1)], .agg #[.string sy, .int .i64 gy, .int .i64 vy]] (Go.Sort.grow (redrawn W d) os) fun e w'' => e = .returned (.bool true) ∧ ∃ p : Regrown, w'' = Go.Sort.grow (redrawn W p.d) p.os := fun d os => Calls.regrown_of (LC _)
                    have BW := Lib.hid (BR.out.trans (BA.mono BR.out.size))
                    clear T BA LC
                    refine wp_region_quiet_below hmx (by kernel_rfl) ?_
                    repeat (quiet_step (first | exact cL _ _))
                    refine wpQuiet_nil ?_
                    rintro _ ⟨⟨dq, osq⟩, rfl⟩
                    have BQ := Lib.hid (BW.out.trans ((below_regrown W dq osq).mono BW.out.size))
                    clear k0 k1 k2 k3 k4 k5 t0 t1 t2 m0 m1 m2 cL
                    go_wp2_with fail
                    exact ⟨⟨k + 1, by omega, rfl, by go_num, BQ⟩, by simp [RowKit.intOf]; omega⟩
                  · go_wp2_with fail
                    have SZ := Lib.hid (show abvK L ⟨p.data.toList, c, q⟩ 0 = false by rw [HZ.out, decide_eq_false_iff_not]; intro h; exact hL0 (List.eq_nil_of_length_eq_zero h))
                    clear e0 e1 e2
                    go_loopw [13, 14] (fun s13 s14 wr => ∃ t : Nat, t ≤ L.length ∧ s13 = .bool (abvK L ⟨p.data.toList, c, q⟩ t) ∧ s14 = .int .i64 (t : Int) ∧ Hid (Below w5.heap.size w5 wr)) (fun _ s14 _ => L.length - (RowKit.intOf s14).toNat)
                    case atStart => exact ⟨0, by omega, by rw [SZ.out], rfl, BR⟩
                    case round =>
                      obtain ⟨t, ht, rfl, rfl, BR⟩ := hrel
                      obtain ⟨e0, e1, e2⟩ := HD.out wr BR.out
                      by_cases htl : t < L.length
                      · have htI : (t : Int) < (L.length : Int) := by omega
                        have ht0 : (0 : Int) ≤ (t : Int) := by omega
                        obtain ⟨b, off, rfl, hbl, c0, c1, c2⟩ := (HR.out.below (B4.out.trans (BR.out.mono B4.out.size))) t htl
                        have LC := fun w => LS.out ⟨p.data.toList, c, q⟩ L[t] ⟨hcq, by show I64 q; unfold I64; omega⟩ (HNUM.out _ (List.getElem_mem htl)) w
                        have HSt := Lib.hid (HST.out t htl)
                        generalize lessR ⟨p.data.toList, c, q⟩ L[t] = bv at *
                        unfold shV at LC
                        dsimp only at LC
                        rw [show (⟨p.data.toList.toArray⟩ : ByteArray) = p from str_back p] at LC
                        obtain ⟨sy, hsy⟩ : ∃ z : ByteArray, z = ⟨L[t].prj.toArray⟩ := ⟨_, rfl⟩
                        rw [← hsy] at LC c0
                        generalize L[t].wgt = gy at *
                        generalize L[t].srv = vy at *
                        clear hsy
                        have k0 := cell_regrown e0
                        have k1 := cell_regrown e1
                        have k2 := cell_regrown e2
                        have k3 := cell_regrown c0
                        have k4 := cell_regrown c1
                        have k5 := cell_regrown c2
                        have cL : ∀ d os, Calls Tryz.prog 22 #[.agg #[.string p, .int .i64 c, .int .i64 q], .agg #[.string sy, .int .i64 gy, .int .i64 vy]] (Go.Sort.grow (redrawn wr d) os) fun e w'' => e = .returned (.bool bv) ∧ ∃ p : Regrown, w'' = Go.Sort.grow (redrawn wr p.d) p.os := fun d os => Calls.regrown_of (LC _)
                        cases hab : abvK L ⟨p.data.toList, c, q⟩ t
                        · rw [hab, Bool.false_or] at HSt
                          clear hab LC
                          go_upto_region 19 with fail
                          refine wp_region_quiet_below hmx (by kernel_rfl) ?_
                          repeat (quiet_step (first | exact cL _ _))
                          refine wpQuiet_nil ?_
                          rintro _ ⟨⟨dq, osq⟩, rfl⟩
                          have BQ := Lib.hid (BR.out.trans ((below_regrown wr dq osq).mono BR.out.size))
                          clear k0 k1 k2 k3 k4 k5 cL c0 c1 c2 e0 e1 e2
                          go_wp2_with fail
                          exact ⟨⟨t + 1, by omega, by rw [HSt.out], by go_num, BQ⟩, by simp [RowKit.intOf]; omega⟩
                        · rw [hab, Bool.true_or] at HSt
                          clear hab LC
                          go_upto_region 19 with fail
                          refine wp_region_quiet_below hmx (by kernel_rfl) ?_
                          repeat (quiet_step (first | exact cL _ _))
                          refine wpQuiet_nil ?_
                          rintro _ ⟨⟨dq, osq⟩, rfl⟩
                          have BQ := Lib.hid (BR.out.trans ((below_regrown wr dq osq).mono BR.out.size))
                          clear k0 k1 k2 k3 k4 k5 cL c0 c1 c2 e0 e1 e2
                          go_wp2_with fail
                          exact ⟨⟨t + 1, by omega, by rw [HSt.out], by go_num, BQ⟩, by simp [RowKit.intOf]; omega⟩
                      · obtain rfl : t = L.length := by omega
                        have B5 := Lib.hid (B4.out.trans (BR.out.mono B4.out.size))
                        rw [HAB.out]
                        go_wp2_with fail
                        go_fit (A.out _)
                        rintro e w6 ⟨rfl, hb6⟩
                        have B6 := Lib.hid (B5.out.trans (hb6.mono B5.out.size))
                        clear hb6
                        go_wp2_with fail
                        go_ret
                        exact ⟨rfl, B6.out⟩
                · have hkI : ¬ (k : Int) < (L.length : Int) := by omega
                  go_wp2_with fail
                  have SZ := Lib.hid (show abvK L ⟨p.data.toList, c, q⟩ 0 = false by rw [HZ.out, decide_eq_false_iff_not]; intro h; exact hL0 (List.eq_nil_of_length_eq_zero h))
                  go_loopw [13, 14] (fun s13 s14 wr => ∃ t : Nat, t ≤ L.length ∧ s13 = .bool (abvK L ⟨p.data.toList, c, q⟩ t) ∧ s14 = .int .i64 (t : Int) ∧ Hid (Below w5.heap.size w5 wr)) (fun _ s14 _ => L.length - (RowKit.intOf s14).toNat)
                  case atStart => exact ⟨0, by omega, by rw [SZ.out], rfl, BR⟩
                  case round =>
                    obtain ⟨t, ht, rfl, rfl, BR⟩ := hrel
                    obtain ⟨e0, e1, e2⟩ := HD.out wr BR.out
                    by_cases htl : t < L.length
                    · have htI : (t : Int) < (L.length : Int) := by omega
                      have ht0 : (0 : Int) ≤ (t : Int) := by omega
                      obtain ⟨b, off, rfl, hbl, c0, c1, c2⟩ := (HR.out.below (B4.out.trans (BR.out.mono B4.out.size))) t htl
                      have LC := fun w => LS.out ⟨p.data.toList, c, q⟩ L[t] ⟨hcq, by show I64 q; unfold I64; omega⟩ (HNUM.out _ (List.getElem_mem htl)) w
                      have HSt := Lib.hid (HST.out t htl)
                      generalize lessR ⟨p.data.toList, c, q⟩ L[t] = bv at *
                      unfold shV at LC
                      dsimp only at LC
                      rw [show (⟨p.data.toList.toArray⟩ : ByteArray) = p from str_back p] at LC
                      obtain ⟨sy, hsy⟩ : ∃ z : ByteArray, z = ⟨L[t].prj.toArray⟩ := ⟨_, rfl⟩
                      rw [← hsy] at LC c0
                      generalize L[t].wgt = gy at *
                      generalize L[t].srv = vy at *
                      clear hsy
                      have k0 := cell_regrown e0
                      have k1 := cell_regrown e1
                      have k2 := cell_regrown e2
                      have k3 := cell_regrown c0
                      have k4 := cell_regrown c1
                      have k5 := cell_regrown c2
                      have cL : ∀ d os, Calls Tryz.prog 22 #[.agg #[.string p, .int .i64 c, .int .i64 q], .agg #[.string sy, .int .i64 gy, .int .i64 vy]] (Go.Sort.grow (redrawn wr d) os) fun e w'' => e = .returned (.bool bv) ∧ ∃ p : Regrown, w'' = Go.Sort.grow (redrawn wr p.d) p.os := fun d os => Calls.regrown_of (LC _)
                      cases hab : abvK L ⟨p.data.toList, c, q⟩ t
                      · rw [hab, Bool.false_or] at HSt
                        clear hab LC
                        go_upto_region 19 with fail
                        refine wp_region_quiet_below hmx (by kernel_rfl) ?_
                        repeat (quiet_step (first | exact cL _ _))
                        refine wpQuiet_nil ?_
                        rintro _ ⟨⟨dq, osq⟩, rfl⟩
                        have BQ := Lib.hid (BR.out.trans ((below_regrown wr dq osq).mono BR.out.size))
                        clear k0 k1 k2 k3 k4 k5 cL c0 c1 c2 e0 e1 e2
                        go_wp2_with fail
                        exact ⟨⟨t + 1, by omega, by rw [HSt.out], by go_num, BQ⟩, by simp [RowKit.intOf]; omega⟩
                      · rw [hab, Bool.true_or] at HSt
                        clear hab LC
                        go_upto_region 19 with fail
                        refine wp_region_quiet_below hmx (by kernel_rfl) ?_
                        repeat (quiet_step (first | exact cL _ _))
                        refine wpQuiet_nil ?_
                        rintro _ ⟨⟨dq, osq⟩, rfl⟩
                        have BQ := Lib.hid (BR.out.trans ((below_regrown wr dq osq).mono BR.out.size))
                        clear k0 k1 k2 k3 k4 k5 cL c0 c1 c2 e0 e1 e2
                        go_wp2_with fail
                        exact ⟨⟨t + 1, by omega, by rw [HSt.out], by go_num, BQ⟩, by simp [RowKit.intOf]; omega⟩
                    · obtain rfl : t = L.length := by omega
                      have B5 := Lib.hid (B4.out.trans (BR.out.mono B4.out.size))
                      rw [HAB.out]
                      go_wp2_with fail
                      go_fit (A.out _)
                      rintro e w6 ⟨rfl, hb6⟩
                      have B6 := Lib.hid (B5.out.trans (hb6.mono B5.out.size))
                      clear hb6
                      go_wp2_with fail
                      go_ret
                      exact ⟨rfl, B6.out⟩
        · have HNN := Lib.hid hno
          clear hno
          go_enter Tryz.func7, Tryz.ntmps7
          go_wp2_with fail
          go_fit F1.out
          rintro e w1 ⟨rfl, rfl⟩
          go_wp2_with fail
          go_fit (VA1.out _ (Below.refl _ _))
          rintro e w2 ⟨rfl, hb2⟩
          have B2 := Lib.hid hb2
          clear hb2
          go_wp2_with fail
          go_fit (FI.out _ B2.out)
          rintro e w3 ⟨i3, rfl, rfl, hf3⟩
          have hi3 : 0 ≤ i3 := by
            rcases hf3 with ⟨_, h⟩ | ⟨k, rfl, _⟩
            · exact absurd h HNN.out
            · omega
          clear hf3
          go_wp2_with fail
          go_fit (A.out _)
          rintro e w6 ⟨rfl, hb6⟩
          have B6 := Lib.hid (B2.out.trans (hb6.mono B2.out.size))
          clear hb6
          go_wp2_with fail
          go_ret
          exact ⟨rfl, B6.out⟩
      · have VA0 := Lib.hid (VA false ⟨fun h => (by cases h), fun h => absurd h hV⟩)
        clear VA hV
        go_enter Tryz.func7, Tryz.ntmps7
        go_wp2_with fail
        go_fit F1.out
        rintro e w1 ⟨rfl, rfl⟩
        go_wp2_with fail
        go_fit (VA0.out _ (Below.refl _ _))
        rintro e w2 ⟨rfl, hb2⟩
        have B2 := Lib.hid hb2
        clear hb2
        go_wp2_with fail
        go_fit (A.out _)
        rintro e w6 ⟨rfl, hb6⟩
        have B6 := Lib.hid (B2.out.trans (hb6.mono B2.out.size))
        clear hb6
        go_wp2_with fail
        go_ret
        exact ⟨rfl, B6.out⟩
    · have hq : (100 : Int) < (p.size : Int) := by omega
      clear hf hr hlen
      go_enter Tryz.func7, Tryz.ntmps7
      go_wp2_with fail
      go_fit F1.out
      rintro e w1 ⟨rfl, rfl⟩
      go_wp2_with fail
      go_fit (A.out _)
      rintro e w6 ⟨rfl, hb6⟩
      have B6 := Lib.hid (hb6)
      clear hb6
      go_wp2_with fail
      go_ret
      exact ⟨rfl, B6.out⟩
  · have F0 := Lib.hid (F.out false ⟨fun h => (by cases h), fun h => absurd h hf⟩)
    clear hf hr F hlen
    go_enter Tryz.func7, Tryz.ntmps7
    go_wp2_with fail
    go_fit F0.out
    rintro e w1 ⟨rfl, rfl⟩
    go_wp2_with fail
    go_fit (A.out _)
    rintro e w6 ⟨rfl, hb6⟩
    have B6 := Lib.hid (hb6)
    clear hb6
    go_wp2_with fail
    go_ret
    exact ⟨rfl, B6.out⟩

set_option maxRecDepth 100000 in
theorem lifted (os : Os) (started : os.Started) (H : Type) (enc : TypeId × Value → H) :
    ReturnsInHanded {} Tryz.checked os 7 .any (fun w args => (Rows.fairnessJoinsSpec.pre enc Tryz.prog Tryz.f7 Rows.fairnessJoinsRow.domain false w args ∧ laidMetH Tryz.prog laid23 w) ∧ sizedMet enc Tryz.prog Tryz.f7 (OpenSpec.ofChange Rows.fairnessJoinsSpec) false w args) (Rows.fairnessJoinsSpec.post enc Tryz.prog Tryz.f7 false true false false) := by
  refine returnsInHanded_of_change_andShaped (C := Tryz.checked) (X := fun w _ => laidMetH Tryz.prog laid23 w) (fun _ _ _ hh h => h.of_heap hh) own started (by kernel_rfl) Tryz.func7
    (ChangeSpec.witness_shaped (enc := enc) (C := Tryz.checked) (os := os) (X := fun w _ => laidMetH Tryz.prog laid23 w) false (World.laidAll Tryz.prog os laid23) #[.slice none 0 0, .string ⟨#[]⟩, .int .i64 0] 8 (World.laidAll_os _ _ _) (World.shaped_of_ZipB (by kernel_rfl) (by kernel_rfl)) (by kernel_rfl) (by kernel_rfl) (by kernel_rfl) (lay23_met os _)) ?_
  intro W base args ds gs before hval0 hW hcnd hsz hL hsh _
  have hval : ∀ (j : Nat) t v, Tryz.f7.params[j]? = some t → args[j]? = some v → Value.okWide Tryz.prog W .any base t v := hval0
  have hW' := hW
  obtain ⟨p, q, hA0, hV, rfl, hfz, hnd⟩ := hW
  have hA : DataW.TrodAll enc Tryz.prog W 0 (fun _ => true) true Tryz.f7.params.toList args.toList ds p := hA0
  rw [Tryz.params7] at hA hval hsz
  obtain ⟨v0, vs0, d0, ds0, p0, q0, hargs, rfl, rfl, h0, r0⟩ := trodAll_cons hA
  obtain ⟨v1, vs1, d1, ds1, p1, q1, rfl, rfl, rfl, h1, r1⟩ := trodAll_cons r0
  obtain ⟨v2, vs2, d2, ds2, p2, q2, rfl, rfl, rfl, h2, r2⟩ := trodAll_cons r1
  obtain ⟨rfl, rfl, rfl⟩ := trodAll_nil r2
  obtain rfl : args = #[v0, v1, v2] := by cases args; simp_all
  obtain ⟨rfl, rfl⟩ := trodVars_none hV
  obtain ⟨a0, len0, cap0, rfl⟩ := okWide_slice Tryz.underlying22 (hval 0 22 v0 rfl rfl)
  have k0 := h0
  have lt0 : ∀ x ∈ p0, x.block < W.heap.size := by obtain ⟨m, hm⟩ := k0; exact DataW.trod_lt m _ _ _ hm
  have hw0 : (d0.weights Tryz.prog 22).all (· ≤ reachBytes) = true := List.all_eq_true.2 (fun n hn => List.all_eq_true.1 hsz n (DataW.weights_mem_each (j := 0) (t := 22) rfl rfl n hn))
  obtain ⟨L0, rfl, hlen0, hx0, hr0⟩ : ∃ L : List Sha, len0 = L.length ∧ L.length * 32 ≤ 140737488351232 ∧ (∀ j (h : j < L.length), L[j].prj.length ≤ 140737488351232) ∧ ReadsH W a0 L := by
    obtain ⟨fuel, hf⟩ := h0
    exact open_shares fuel a0 len0 cap0 _ (by simpa [Value.cells] using hf) hw0
  obtain ⟨a1, rfl, rfl, rfl, w1⟩ := open_string Tryz.underlying9 (hval 1 9 v1 rfl rfl) h1
  obtain ⟨a2, rfl, rfl, rfl, w2⟩ := open_int Tryz.underlying3 (hval 2 3 v2 rfl rfl) h2
  have z1 : a1.size ≤ 140737488355327 := by
    have h := sized_string hsz (j := 1) (t := 9) rfl rfl
    rw [Array.length_toList] at h
    exact Nat.le_trans h (by decide)
  clear hA0 hval0
  refine (walk a0 cap0 L0 hlen0 hx0 a1 a2 z1 w2 W (tab23_of hL hsh) hr0).mono fun e W' ⟨he, bel⟩ => ?_
  subst he
  exact ⟨_, rfl, _, _, _, [], _, [], hW', trodAll_mk1 (shut_bool Tryz.underlying4 _), (trodAll_cons_mk (Below.trod laidOut (by kernel_rfl) (of_decide_eq_true (by kernel_rfl)) k0 bel lt0) (trodAll_cons_mk (shut_string Tryz.underlying9 w1) (trodAll_cons_mk (shut_int Tryz.underlying3 w2) trodAll_mk0))), rfl, bel.frame _, fun h => by cases h⟩

theorem over : Rows.fairnessJoinsRow.holds Tryz.pinned (OpenSpec.ofChange Rows.fairnessJoinsSpec) :=
  OpenClaim.holds_of_wide 7 Tryz.f7 rfl rfl rfl rfl rfl rfl rfl ⟨rfl, rfl, rfl, rfl, rfl⟩ rfl rfl rfl rfl rfl (by kernel_rfl) Tryz.func7 (by kernel_rfl)
    (of_decide_eq_true (by kernel_rfl)) (by unfold Func.isWrapper; first | (rw [if_pos (by decide +kernel)]; kernel_rfl) | (rw [if_neg (by decide +kernel)]; exact ⟨rfl, rfl⟩))
    (fun os started H enc _ => lifted os started H enc)

/-- THE STATEMENT. -/
theorem proved : Rows.FairnessJoinsCardSaid :=
  Claim7.holds_tied_plain_at .later [] [.data, .pinned] true Rows.fairnessJoinsCard.stood.harness false
    over (fun _ h => by cases h) (by kernel_rfl) (fun _ h => by cases h) fairnessJoins_row_tie rfl ⟨rfl, rfl⟩ (by kernel_rfl) rfl
    (fun f fn hf hfn => by
      obtain rfl : f = 7 := Option.some.inj ((show Tryz.prog.funcNamed "pipeline/pipelinelaw23.FairnessJoins" = some 7 by kernel_rfl).symm.trans hf) |>.symm
      obtain rfl : fn = Tryz.f7 := (Option.some.inj (Tryz.func7.symm.trans hfn)).symm
      exact ⟨by kernel_rfl, fun j t ht => by
        rw [Tryz.params7] at ht
        have hm : t ∈ [22, 9, 3] := by simpa using Array.mem_of_getElem? ht
        have hall : ([22, 9, 3].all fun u => !Tryz.prog.wantsStandIn u) = true := by kernel_rfl
        exact (show Tryz.prog.wantsStandIn t = false by simpa using List.all_eq_true.1 hall t hm)⟩)
    (by kernel_rfl)
#print axioms proved
end Go.Proofs.YtmjikddceegloaaGreatDoor.fairnessJoins
