/- If the project that is picked is charged, again and again, the ratio of a project exceeds that of another one by no more than at the beginning, or than its largest cost by its weight. -/
import Derived.Test.YtmjikddceegloaaGreatDoorTie
import Derived.Test.YtmjikddceegloaaGreatDoorCards
import Derived.Test.YtmjikddceegloaaGreatDoorFrTab
import Derived.Test.YtmjikddceegloaaGreatDoorFrY
import Derived.Test.YtmjikddceegloaaGreatDoorFsA
import Derived.Test.YtmjikddceegloaaGreatDoorFtL
import Derived.ProofKit
import Derived.OpenShut
import Derived.LaidMore
import Derived.Stop.Joined
import Derived.SevenTiedAt
import Derived.SizedLaws
namespace Go.Proofs.YtmjikddceegloaaGreatDoor.fairnessBound
open Go.ChangeShapes Go.WideShapes Go.ChangeAt Go.RowKit
set_option linter.unusedVariables false

theorem own : ownKnob Tryz.prog.godebug = none := by kernel_rfl
theorem laidOut : laidOutB Tryz.prog = true := by kernel_rfl

set_option linter.unusedVariables false
theorem first_idxB {p : Nat → Prop} {j : Nat} (h : p j) : ∃ i, p i ∧ ∀ t, t < i → ¬ p t := by
  refine Classical.byContradiction fun hc => ?_
  have all : ∀ n i, i < n → ¬ p i := by
    intro n
    induction n with
    | zero => intro i hi; omega
    | succ n ih =>
      intro i hi hp
      exact hc ⟨i, hp, fun t ht => ih t (by omega)⟩
  exact all (j + 1) j (by omega) h
theorem best_ofB {L : List Sha} {N : List (List UInt8)} (P : List (List UInt8)) (hV : ValidS L) (hN : OrdR L N) : ∃ i, BestI L P i := by
  rcases hN with ⟨hn, _⟩ | ⟨_, L', hp, hs, rfl⟩
  · exact absurd hV hn
  by_cases hex : ∃ j, ∃ hj : j < L'.length, (L'[j]).prj ∈ P
  · obtain ⟨j0, h0⟩ := hex
    obtain ⟨j, ⟨hj, hjp⟩, hmin⟩ := first_idxB (p := fun j => ∃ hj : j < L'.length, (L'[j]).prj ∈ P) h0
    obtain ⟨u, hu, eu⟩ := List.getElem_of_mem (hp.mem_iff.1 (List.getElem_mem hj))
    refine ⟨u, .inr ⟨u, rfl, hu, by rw [eu]; exact hjp, fun t ht hm => ?_⟩⟩
    obtain ⟨m, hm', em⟩ := List.getElem_of_mem (hp.mem_iff.2 (List.getElem_mem ht))
    have hjm : j ≤ m := Classical.byContradiction fun hc => hmin m (by omega) ⟨hm', by rw [em]; exact hm⟩
    rw [eu]
    rcases Nat.lt_or_eq_of_le hjm with hlt | rfl
    · have := List.pairwise_iff_getElem.1 hs j m hj hm' hlt
      rw [em] at this
      omega
    · rw [← em]
      exact bef_irrefl _
  · refine ⟨-1, .inl ⟨rfl, fun t ht hm => hex ?_⟩⟩
    obtain ⟨m, hm', em⟩ := List.getElem_of_mem (hp.mem_iff.2 (List.getElem_mem ht))
    exact ⟨m, hm', by rw [em]; exact hm⟩
/-- The picked project has the least ratio. -/
theorem pick_least {L : List Sha} {N M : List (List UInt8)} (hV : ValidS L) (hN : OrdR L N) (hM : ∀ i (h : i < L.length), L[i].prj ∈ M) :
    (L.length = 0 ∧ pickN N M = ([], false)) ∨ ∃ k, ∃ h : k < L.length, pickN N M = (L[k].prj, true) ∧ ∀ t (ht : t < L.length), RLe L[k] L[t] := by
  obtain ⟨i, hi⟩ := best_ofB M hV hN
  rw [pick_best hV hN hi]
  rcases hi with ⟨rfl, h⟩ | ⟨k, rfl, hk, _, hb⟩
  · left
    constructor
    · by_cases h0 : L.length = 0
      · exact h0
      · exact absurd (hM 0 (by omega)) (h 0 (by omega))
    · rw [outB, dif_neg (by omega)]
  · right
    refine ⟨k, hk, ?_, fun t ht => ?_⟩
    · rw [outB, dif_pos ⟨by omega, by simpa using hk⟩]
      simp
    · have := hb t ht (hM t ht)
      rw [bef_not] at this
      rcases this with h | ⟨_, h, _⟩
      · exact (RLe.total L[t] L[k]).resolve_left h
      · exact h
theorem set_valid {L : List Sha} (hV : ValidS L) (j : Nat) (hj : j < L.length) (s : Sha) (hp : s.prj = L[j].prj) (hs : rightS s = true) : ValidS (L.set j s) := by
  refine ⟨by rw [List.length_set]; exact hV.len, fun i h => ?_⟩
  rw [List.length_set] at h
  have e : ∀ t (ht : t < L.length) (ht' : t < (L.set j s).length), (L.set j s)[t].prj = L[t].prj := fun t ht ht' => by
    rw [List.getElem_set]
    split
    · rename_i e; subst e; exact hp
    · rfl
  obtain ⟨h1, h2⟩ := hV.ok i h
  refine ⟨?_, fun h0 => ?_⟩
  · rw [List.getElem_set]
    split
    · exact hs
    · exact h1
  · rw [e i h, e (i - 1) (by omega)]
    exact h2 h0
/-- How much the one's ratio is above the other's. -/
def gapL (L : List Sha) (i k : Nat) (hi : i < L.length) (hk : k < L.length) : Int := L[i].srv * L[k].wgt - L[k].srv * L[i].wgt
/-- What holds between the calls. -/
structure BndI (l cur : List Sha) (g : List Int) : Prop where
  hl : cur.length = l.length
  hg : g.length = l.length
  vs : ValidS cur
  prj : ∀ i (h : i < l.length) (h' : i < cur.length), cur[i].prj = l[i].prj
  wgt : ∀ i (h : i < l.length) (h' : i < cur.length), cur[i].wgt = l[i].wgt
  rng : ∀ i (h : i < g.length), 0 ≤ g[i] ∧ g[i] ≤ 1000000
  gap : ∀ i k (hi : i < l.length) (hk : k < l.length) (hi' : i < cur.length) (hk' : k < cur.length) (hgi : i < g.length), gapL cur i k hi' hk' ≤ max (gapL l i k hi hk) (g[i] * cur[k].wgt)
theorem bndI_start {l : List Sha} (hV : ValidS l) : BndI l l (List.replicate l.length 0) :=
  ⟨rfl, List.length_replicate, hV, fun _ _ _ => rfl, fun _ _ _ => rfl, fun i h => by rw [List.getElem_replicate]; omega, fun i k hi hk hi' hk' hgi => Int.le_max_left _ _⟩
theorem bndI_step {l cur : List Sha} {g : List Int} (h : BndI l cur g) (j : Nat) (hj : j < cur.length) (hjg : j < g.length) (c : Int) (hc : 1 ≤ c ∧ c ≤ 1000000) (hs : cur[j].srv + c ≤ 1125899906842624) (hR : ∀ t (ht : t < cur.length), RLe cur[j] cur[t]) :
    BndI l (cur.set j (cur[j].plus c)) (g.set j (max g[j] c)) := by
  have hw : ∀ t (ht : t < cur.length), 1 ≤ cur[t].wgt := fun t ht => (h.vs.right ht).2.1.1
  obtain ⟨r1, r2, r3⟩ := h.vs.right hj
  have pw : (cur[j].plus c).wgt = cur[j].wgt := rfl
  have ps : (cur[j].plus c).srv = cur[j].srv + c := rfl
  have pp : (cur[j].plus c).prj = cur[j].prj := rfl
  have ww : ∀ t (ht : t < cur.length) (ht' : t < (cur.set j (cur[j].plus c)).length), (cur.set j (cur[j].plus c))[t].wgt = cur[t].wgt := fun t ht ht' => by
    rw [List.getElem_set]
    split
    · rename_i e; subst e; exact pw
    · rfl
  refine ⟨by rw [List.length_set]; exact h.hl, by rw [List.length_set]; exact h.hg, set_valid h.vs j hj _ pp ((rightS_iff _).2 ⟨r1, r2, by rw [ps]; omega⟩), ?_, ?_, ?_, ?_⟩
  · intro i hi hi'
    rw [List.getElem_set]
    split
    · rename_i e
      subst e
      rw [pp]
      exact h.prj j hi hj
    · exact h.prj i hi (by rw [List.length_set] at hi'; exact hi')
  · intro i hi hi'
    rw [List.length_set] at hi'
    rw [ww i hi']
    exact h.wgt i hi hi'
  · intro i hi
    rw [List.length_set] at hi
    rw [List.getElem_set]
    have := h.rng i hi
    split
    · have := h.rng j hjg
      omega
    · exact this
  · intro i k hi hk hi' hk' hgi
    rw [List.length_set] at hi' hk' hgi
    have old := h.gap i k hi hk hi' hk' hgi
    have wi := hw i hi'
    have wk := hw k hk'
    unfold gapL at old ⊢
    rw [ww i hi', ww k hk']
    rw [List.getElem_set, List.getElem_set, List.getElem_set]
    by_cases eij : j = i
    · subst eij
      rw [if_pos rfl, if_pos rfl]
      by_cases ejk : j = k
      · subst ejk
        rw [if_pos rfl]
        refine Int.le_trans (b := 0) (by omega) (Int.le_trans ?_ (Int.le_max_left _ _))
        omega
      · rw [if_neg ejk, ps, Int.add_mul]
        have hr := hR k hk'
        unfold RLe at hr
        refine Int.le_trans ?_ (Int.le_max_right _ _)
        have : c * cur[k].wgt ≤ max g[j] c * cur[k].wgt := Int.mul_le_mul_of_nonneg_right (Int.le_max_right _ _) (by omega)
        omega
    · rw [if_neg eij, if_neg eij]
      by_cases ejk : j = k
      · subst ejk
        rw [if_pos rfl, ps, Int.add_mul]
        have : 0 ≤ c * cur[i].wgt := Int.mul_nonneg (by omega) (by omega)
        omega
      · rw [if_neg ejk]
        exact old
/-- What Charge of the picked project answers. -/
theorem chR_inv {L : List Sha} {p : List UInt8} {c : Int} {R : List Sha} {E : Int} (h : ChR L p c R E) : (E ≠ 0 ∧ R = L) ∨ (E = 0 ∧ (1 ≤ c ∧ c ≤ 1000000) ∧ ∃ k, ∃ hk : k < L.length, L[k].prj = p ∧ L[k].srv + c ≤ 1125899906842624 ∧ R = L.set k (L[k].plus c)) := by
  cases h with
  | bad _ => exact .inl ⟨by decide, rfl⟩
  | cost _ _ => exact .inl ⟨by decide, rfl⟩
  | none _ _ _ => exact .inl ⟨by decide, rfl⟩
  | much _ _ _ _ _ _ => exact .inl ⟨by decide, rfl⟩
  | done k hk _ h2 h3 h4 => exact .inr ⟨rfl, h2, k, hk, h3, h4, rfl⟩
/-- Order lists every project. -/
theorem ord_all {L : List Sha} {N : List (List UInt8)} (hV : ValidS L) (hN : OrdR L N) : ∀ i (h : i < L.length), L[i].prj ∈ N := by
  rcases hN with ⟨hn, _⟩ | ⟨_, L', hp, _, rfl⟩
  · exact absurd hV hn
  · intro i h
    exact List.mem_map.2 ⟨L[i], hp.mem_iff.2 (List.getElem_mem h), rfl⟩
theorem ord_len {L : List Sha} {N : List (List UInt8)} (hV : ValidS L) (hN : OrdR L N) : N.length = L.length := by
  rcases hN with ⟨hn, _⟩ | ⟨_, L', hp, _, rfl⟩
  · exact absurd hV hn
  · rw [List.length_map]
    exact hp.length_eq
/-- The numbers of the last check are small. -/
theorem prod_small {a b : Int} (ha : 0 ≤ a ∧ a ≤ 1125899906842624) (hb : 1 ≤ b ∧ b ≤ 1000) : 0 ≤ a * b ∧ a * b ≤ 1125899906842624000 := by
  refine ⟨Int.mul_nonneg ha.1 (by omega), ?_⟩
  have : a * b ≤ 1125899906842624 * 1000 := Int.mul_le_mul ha.2 hb.2 (by omega) (by omega)
  omega
theorem made_zero (n : Nat) : madeCells #[Value.int .i64 0] n = ((List.replicate n (0 : Int)).map (Value.int .i64)).toArray := by
  apply Array.toList_inj.1
  rw [toList_madeCells_one, List.map_replicate]
attribute [local irreducible] wpQuiet pickN
set_option maxHeartbeats 8000000 in
set_option maxRecDepth 100000 in
theorem walk (v : Option Addr) (cap : Nat) (L : List Sha) (hlen : L.length * 32 ≤ 140737488351232) (_ : ∀ j (h : j < L.length), L[j].prj.length ≤ 140737488351232) (av : Option Addr) (ac : Nat) (C : List Int) (hC : ∀ j (h : j < C.length), (Lit.int .i64 C[j]).wf = true) (w : World) (_ : Tab23 w) (hr : ReadsH w v L) (hrc : ReadsN w av C) :
    Calls Tryz.prog 8 #[.slice v L.length cap, .slice av C.length ac] w fun e w' => e = .returned (.bool true) ∧ Below w.heap.size w w' := by
  have HR := Lib.hid hr
  have HC := Lib.hid hrc
  have F := Lib.hid (fun b hb => few_any v cap L b hb (by omega) w hr)
  have A := Lib.hid (fun w' => awake_any w')
  have hmx : Tryz.prog.follows .mixedOrders = true := by kernel_rfl
  by_cases hf : FewS L
  · have F1 := Lib.hid (F.out true ⟨fun _ => hf, fun _ => rfl⟩)
    clear F
    by_cases h6 : L.length ≤ 6
    · have h6I : ¬ (6 : Int) < (L.length : Int) := by omega
      by_cases h60 : C.length ≤ 60
      · have h60I : ¬ (60 : Int) < (C.length : Int) := by omega
        have hx : ∀ x ∈ L, x.prj.length ≤ 1000000 := fun x hx => by
          obtain ⟨i, hi, rfl⟩ := List.getElem_of_mem hx
          have := hf.names i hi
          omega
        have VA := fun b hb w' (h : Below w.heap.size w w') => refValid_any v cap L b hb (by omega) hx w' (HR.out.below h)
        have OR := Lib.hid (fun w' (h : Below w.heap.size w w') => order_any v cap L (by omega) hx w' (HR.out.below h))
        have FI := Lib.hid (fun p w' (h : Below w.heap.size w w') => refFind_any v cap L p (by omega) w' (HR.out.below h))
        clear hf hr hrc hlen
        by_cases hV : ValidS L
        · have VA1 := Lib.hid (VA true ⟨fun _ => hV, fun _ => rfl⟩)
          have HV := Lib.hid hV
          have CH := Lib.hid (fun a c (cur : List Sha) (hc : ValidS cur) (p : ByteArray) (n : Int) (hp : p.size ≤ 1000000) w' (h : ReadsH w' a cur) => charge_any a c cur p n hp (by have := hc.len; omega) (fun x hx => by
            obtain ⟨i, hi, rfl⟩ := List.getElem_of_mem hx
            have := hc.plen hi
            omega) w' h)
          have hmk := run_make_row' (P := Tryz.prog) 42 3 (.int .i64 0) 8 Tryz.underlying42 (by kernel_rfl) rfl .i64 .i64 L.length (by omega) (by omega)
          have HB0 := Lib.hid (bndI_start hV)
          clear VA hV hx
          by_cases hL0 : L = []
          · subst hL0
            go_enter Tryz.func8, Tryz.ntmps8
            go_wp2_with fail
            go_fit F1.out
            rintro e w1 ⟨rfl, rfl⟩
            go_wp2_with fail
            go_fit (VA1.out _ (Below.refl _ _))
            rintro e w2 ⟨rfl, hb2⟩
            have B2 := Lib.hid hb2
            clear hb2
            go_wp2_with fail
            go_fit (OR.out _ B2.out)
            rintro e w3 ⟨a3, c3, M, rfl, hM, hrM, hb3⟩
            have B3 := Lib.hid (B2.out.trans (hb3.mono B2.out.size))
            have HM := Lib.hid hrM
            have hMl := ord_len HV.out hM
            have hM6 : M.length ≤ 1000000 := by rw [hMl]; decide
            have PK := Lib.hid (fun a c w' (h : ReadsH w' a []) (hb : Below w3.heap.size w3 w') => pick_any a c [] a3 c3 M (by decide) (fun x hx => by cases hx) hM6 w' h (HM.out.below hb))
            have HPL := Lib.hid (fun N (hN : OrdR [] N) => pick_least (M := M) HV.out hN (fun i h => absurd h (Nat.not_lt_zero _)))
            clear hM hrM hb3 hM6 hMl
            have hmk0 : ∀ w, (Instr.makeSlice 42 (.int .i64 0) (.int .i64 0)).run Tryz.prog w = .ok (.slice (some ⟨w.heap.size, 0, none⟩) 0 0) (w.alloc (.cells (madeCells #[.int .i64 0] 0) 3)) := hmk
            go_wp2_with fail
            obtain ⟨W4, hW4⟩ : ∃ W4, W4 = w3.alloc (.cells (madeCells #[.int .i64 0] 0) 3) := ⟨_, rfl⟩
            have B4 := Lib.hid (show Below w3.heap.size w3 W4 by rw [hW4]; exact (Below.refl _ _).alloc (Nat.le_refl _) _)
            obtain ⟨gb, hgb⟩ : ∃ gb, gb = w3.heap.size := ⟨_, rfl⟩
            rw [← hgb, ← hW4]
            clear hgb hW4 hmk hmk0
            go_loopw [6, 8] (fun s6 s8 wr => ∃ (i : Nat) (a : Option Addr) (c : Nat), s6 = .slice a 0 c ∧ s8 = .int .i64 (i : Int) ∧ i ≤ C.length ∧ Hid (ReadsH wr a []) ∧ Hid (Below w3.heap.size w3 wr)) (fun _ s8 _ => C.length - (RowKit.intOf s8).toNat)
            case atStart => exact ⟨0, v, cap, rfl, rfl, by omega, Lib.hid (HR.out.below (B3.out.trans (B4.out.mono B3.out.size))), B4⟩
            case round =>
              obtain ⟨i, a, c, rfl, rfl, hi, RH, BW⟩ := hrel
              by_cases hil : i < C.length
              · have hiI : (i : Int) < (C.length : Int) := by omega
                have hi0 : (0 : Int) ≤ (i : Int) := by omega
                have PK1 := Lib.hid (PK.out a c wr RH.out BW.out)
                obtain ⟨b1, o1, rfl, hb1l, q0⟩ := (HC.out.below (B3.out.trans (BW.out.mono B3.out.size))) i hil
                go_wp2_with fail
                go_fit PK1.out
                rintro e w5 ⟨N, hN, rfl, hb5⟩
                have B5 := Lib.hid (BW.out.trans (hb5.mono BW.out.size))
                have RH5 := Lib.hid (RH.out.below hb5)
                replace q0 := (hb5.cell (p := ⟨b1, _, none⟩) hb1l).trans q0
                have hPL := HPL.out N hN
                generalize C[i] = ci at *
                clear hb5 hN PK1
                generalize hpk : pickN N M = pk at hPL ⊢
                obtain ⟨pn, pb⟩ := pk
                clear hpk
                rcases hPL with ⟨h0, e0⟩ | ⟨k, hk, _⟩
                · cases e0
                  have CH1 := Lib.hid (CH.out a c [] HV.out ⟨#[]⟩ ci (by decide) w5 RH5.out)
                  dsimp only
                  have hpe : (⟨([] : List UInt8).toArray⟩ : ByteArray) = ⟨#[]⟩ := rfl
                  rw [hpe]
                  clear h0
                  go_wp2_with fail
                  go_fit CH1.out
                  rintro e w6 ⟨a6, c6, R, E, rfl, hR, hrR, hb6⟩
                  have B6 := Lib.hid (B5.out.trans (hb6.mono B5.out.size))
                  have RH6 := Lib.hid (RH5.out.below hb6)
                  rcases chR_inv hR with ⟨hE, hRc⟩ | ⟨_, _, k', hk', _⟩
                  · have hEq : (E == 0) = false := by rw [beq_eq_false_iff_ne]; exact hE
                    clear hR hrR hb6 hE hRc CH1
                    go_wp2_with fail
                    exact ⟨⟨i + 1, a, c, rfl, by go_num, by omega, RH6, B6⟩, by simp [RowKit.intOf]; omega⟩
                  · exact absurd hk' (Nat.not_lt_zero _)
                · exact absurd hk (Nat.not_lt_zero _)
              · have hiI : ¬ (i : Int) < (C.length : Int) := by omega
                go_wp2_with fail
                go_loopw [14] (fun s14 wr => s14 = .int .i64 0 ∧ Hid (Below w3.heap.size w3 wr)) (fun _ _ => 0)
                case atStart => exact ⟨rfl, BW⟩
                case round =>
                  obtain ⟨rfl, BW⟩ := hrel
                  have B8 := Lib.hid (B3.out.trans (BW.out.mono B3.out.size))
                  go_wp2_with fail
                  go_fit (A.out _)
                  rintro e w9 ⟨rfl, hb9⟩
                  have B9 := Lib.hid (B8.out.trans (hb9.mono B8.out.size))
                  clear hb9
                  go_wp2_with fail
                  go_ret
                  exact ⟨rfl, B9.out⟩
          have hLn : L.length ≠ 0 := fun h => hL0 (List.eq_nil_of_length_eq_zero h)
          have HLN := Lib.hid hLn
          have hLp : 0 < L.length := by omega
          go_enter Tryz.func8, Tryz.ntmps8
          go_wp2_with fail
          go_fit F1.out
          rintro e w1 ⟨rfl, rfl⟩
          go_wp2_with fail
          go_fit (VA1.out _ (Below.refl _ _))
          rintro e w2 ⟨rfl, hb2⟩
          have B2 := Lib.hid hb2
          clear hb2
          go_wp2_with fail
          go_fit (OR.out _ B2.out)
          rintro e w3 ⟨a3, c3, M, rfl, hM, hrM, hb3⟩
          have B3 := Lib.hid (B2.out.trans (hb3.mono B2.out.size))
          have HM := Lib.hid hrM
          have HMA := Lib.hid (ord_all HV.out hM)
          have hMl := ord_len HV.out hM
          have hM6 : M.length ≤ 1000000 := by omega
          have PK := Lib.hid (fun a c (cur : List Sha) (hc : ValidS cur) w' (h : ReadsH w' a cur) (hb : Below w3.heap.size w3 w') => pick_any a c cur a3 c3 M (by have := hc.len; omega) (fun x hx => by
            obtain ⟨i, hi, rfl⟩ := List.getElem_of_mem hx
            have := hc.plen hi
            omega) hM6 w' h (HM.out.below hb))
          have HPL := Lib.hid (fun (cur : List Sha) N (hc : ValidS cur) (hN : OrdR cur N) (h : ∀ i (h : i < cur.length), cur[i].prj ∈ M) => pick_least hc hN h)
          clear hM hrM hb3 hM6 hMl
          go_wp2_with fail
          obtain ⟨gb, hgb⟩ : ∃ gb, gb = w3.heap.size := ⟨_, rfl⟩
          have hgbw : w3.heap.size ≤ gb := by omega
          obtain ⟨W4, hW4⟩ : ∃ W4, W4 = w3.alloc (.cells (madeCells #[.int .i64 0] L.length) 3) := ⟨_, rfl⟩
          have RN := Lib.hid (show RowN W4 gb (List.replicate L.length 0) from ⟨by rw [hW4, hgb, made_zero]; exact heap_alloc_new w3 _⟩)
          have B4 := Lib.hid (show Below w3.heap.size w3 W4 by rw [hW4]; exact (Below.refl _ _).alloc (Nat.le_refl _) _)
          rw [← hgb, ← hW4]
          clear hgb hW4 hmk
          go_loopw [6, 8] (fun s6 s8 wr => ∃ (i : Nat) (a : Option Addr) (c : Nat) (cur : List Sha) (g : List Int), s6 = .slice a L.length c ∧ s8 = .int .i64 (i : Int) ∧ i ≤ C.length ∧ Hid (BndI L cur g) ∧ Hid (ReadsH wr a cur) ∧ Hid (RowN wr gb g) ∧ Hid (Below w3.heap.size w3 wr)) (fun _ s8 _ => C.length - (RowKit.intOf s8).toNat)
          case atStart => exact ⟨0, v, cap, L, _, rfl, rfl, by omega, HB0, Lib.hid (HR.out.below (B3.out.trans (B4.out.mono B3.out.size))), RN, B4⟩
          case round =>
            obtain ⟨i, a, c, cur, g, rfl, rfl, hi, BI, RH, RG, BW⟩ := hrel
            have hcl := BI.out.hl
            by_cases hil : i < C.length
            · have hiI : (i : Int) < (C.length : Int) := by omega
              have hi0 : (0 : Int) ≤ (i : Int) := by omega
              have PK1 := PK.out a c cur BI.out.vs wr RH.out BW.out
              rw [hcl] at PK1
              have PK1 := Lib.hid PK1
              obtain ⟨b1, o1, rfl, hb1l, q0⟩ := (HC.out.below (B3.out.trans (BW.out.mono B3.out.size))) i hil
              go_wp2_with fail
              go_fit PK1.out
              rintro e w5 ⟨N, hN, rfl, hb5⟩
              have B5 := Lib.hid (BW.out.trans (hb5.mono BW.out.size))
              have B5L := Lib.hid (B3.out.trans (B5.out.mono B3.out.size))
              have RH5 := Lib.hid (RH.out.below hb5)
              have RG5 := Lib.hid (RG.out.below hb5)
              replace q0 := (hb5.cell (p := ⟨b1, _, none⟩) hb1l).trans q0
              have hb1l5 : b1 < w5.heap.size := Nat.lt_of_lt_of_le hb1l hb5.size
              have hPL := HPL.out cur N BI.out.vs hN (fun t ht => by rw [BI.out.prj t (by omega) ht]; exact HMA.out t (by omega))
              generalize C[i] = ci at *
              clear hb5 hN PK1
              generalize hpk : pickN N M = pk at hPL ⊢
              obtain ⟨pn, pb⟩ := pk
              clear hpk
              rcases hPL with ⟨h0, e0⟩ | ⟨k, hk, e0, hle⟩
              · exact absurd (by omega) HLN.out
              · cases e0
                have CH1 := CH.out a c cur BI.out.vs ⟨cur[k].prj.toArray⟩ ci (by show cur[k].prj.toArray.size ≤ _; have := BI.out.vs.plen hk; simp; omega) w5 RH5.out
                rw [hcl] at CH1
                have FI1 := Lib.hid (fun w' h => FI.out ⟨cur[k].prj.toArray⟩ w' h)
                have HPR := Lib.hid (show (⟨cur[k].prj.toArray⟩ : ByteArray).data.toList = cur[k].prj from rfl)
                have CH1 := Lib.hid CH1
                have HLE := Lib.hid hle
                obtain ⟨ps, hps⟩ : ∃ z : ByteArray, z = ⟨cur[k].prj.toArray⟩ := ⟨_, rfl⟩
                rw [← hps] at CH1 FI1 HPR
                dsimp only
                rw [← hps]
                clear hps hle
                go_wp2_with fail
                go_fit CH1.out
                rintro e w6 ⟨a6, c6, R, E, rfl, hR, hrR, hb6⟩
                have B6 := Lib.hid (B5.out.trans (hb6.mono B5.out.size))
                have B6L := Lib.hid (B3.out.trans (B6.out.mono B3.out.size))
                have RG6 := Lib.hid (RG5.out.below hb6)
                have RH6 := Lib.hid (RH5.out.below hb6)
                replace q0 := (hb6.cell (p := ⟨b1, _, none⟩) hb1l5).trans q0
                rcases chR_inv hR with ⟨hE, hRc⟩ | ⟨hE, hci, k', hk', hkp, hsv, hRc⟩
                · have hEq : (E == 0) = false := by rw [beq_eq_false_iff_ne]; exact hE
                  clear hR hrR hb6 hE hRc CH1
                  go_wp2_with fail
                  exact ⟨⟨i + 1, a, c, cur, g, rfl, by go_num, by omega, BI, RH6, RG6, B6⟩, by simp [RowKit.intOf]; omega⟩
                · obtain rfl : k' = k := BI.out.vs.inj hk' hk (hkp.trans HPR.out)
                  have hRl : R.length = L.length := by rw [hRc, List.length_set, hcl]
                  have RR := Lib.hid (show ReadsH w6 a6 R from hrR)
                  have hkg : k' < g.length := by have := BI.out.hg; omega
                  have BS := Lib.hid (show BndI L R (g.set k' (max g[k'] ci)) by rw [hRc]; exact bndI_step BI.out k' hk hkg ci hci hsv HLE.out)
                  have HFK := Lib.hid (show ∀ j, FindPostD L ps.data.toList j → j = (k' : Int) from fun j hj => by
                    rw [HPR.out, BI.out.prj k' (by omega) hk] at hj
                    rcases hj with ⟨_, hn⟩ | ⟨t, rfl, ht, et, _⟩
                    · exact absurd rfl (hn k' (by omega))
                    · rw [HV.out.inj ht (show k' < L.length by omega) et])
                  subst hE
                  rw [hRl]
                  have HRL := Lib.hid hRl
                  clear hR hrR hb6 hRc CH1 hkp hsv hRl
                  go_wp2_with fail
                  go_fit (FI1.out _ B6L.out)
                  rintro e w7 ⟨j7, rfl, rfl, hf7⟩
                  obtain rfl := HFK.out j7 hf7
                  have hkI : (k' : Int) < (L.length : Int) := by omega
                  have hk0 : (0 : Int) ≤ (k' : Int) := by omega
                  have hkn : ¬ (k' : Int) < 0 := by omega
                  have gk := RG6.out.cell k' hkg
                  have gf := RG6.out.froz k'
                  have RS := Lib.hid (RG6.out.set k' (max g[k'] ci))
                  have RHS := Lib.hid (readsH_setN RR.out RG6.out k' (max g[k'] ci))
                  have BXS := Lib.hid (B6.out.setCell (p := ⟨gb, k', none⟩) hgbw (.int .i64 (max g[k'] ci)))
                  generalize g[k'] = gv at *
                  clear hf7
                  go_wp2_with fail
                  go_region
                  all_goals
                    go_wp2_with fail
                    exact ⟨⟨i + 1, a6, c6, R, _, rfl, by go_num, by omega, BS, Lib.hid (RHS.out.below (Below.refl _ _).drew), Lib.hid (RS.out.below (Below.refl _ _).drew), Lib.hid BXS.out.drew⟩, by simp [RowKit.intOf]; omega⟩
            · clear PK HPL CH FI HC HMA HM
              go_wp2_with fail
              go_loopw [14] (fun s14 wr => ∃ x : Nat, x ≤ L.length ∧ s14 = .int .i64 (x : Int) ∧ Hid (ReadsH wr a cur) ∧ Hid (RowN wr gb g) ∧ Hid (Below w3.heap.size w3 wr)) (fun s14 _ => L.length - (RowKit.intOf s14).toNat)
              case atStart => exact ⟨0, by omega, rfl, RH, RG, BW⟩
              case round =>
                obtain ⟨x, hx, rfl, RH, RG, BW⟩ := hrel
                by_cases hxl : x < L.length
                · have hxI : (x : Int) < (L.length : Int) := by omega
                  have hx0 : (0 : Int) ≤ (x : Int) := by omega
                  have hwx : IntKind.i64.wrap ((x : Int) + 1) = (x : Int) + 1 := by rw [IntKind.wrap_i64]; omega
                  go_wp2_with fail
                  go_loopw [15] (fun s15 wr => ∃ y : Nat, y ≤ L.length ∧ s15 = .int .i64 (y : Int) ∧ Hid (ReadsH wr a cur) ∧ Hid (RowN wr gb g) ∧ Hid (Below w3.heap.size w3 wr)) (fun s15 _ => L.length - (RowKit.intOf s15).toNat)
                  case atStart => exact ⟨0, by omega, rfl, RH, RG, BW⟩
                  case round =>
                    obtain ⟨y, hy, rfl, RH, RG, BW⟩ := hrel
                    by_cases hyl : y < L.length
                    · have hyI : (y : Int) < (L.length : Int) := by omega
                      have hy0 : (0 : Int) ≤ (y : Int) := by omega
                      obtain ⟨ba, oa, rfl, hba, p0, p1, p2⟩ := RH.out x (by omega)
                      obtain ⟨_, _, e, _, q0, q1, q2⟩ := RH.out y (by omega)
                      cases e
                      obtain ⟨bl, ol, rfl, hbl, l0, l1, l2⟩ := (HR.out.below (B3.out.trans (BW.out.mono B3.out.size))) x hxl
                      obtain ⟨_, _, e, _, n0, n1, n2⟩ := (HR.out.below (B3.out.trans (BW.out.mono B3.out.size))) y hyl
                      cases e
                      have hgx : x < g.length := by have := BI.out.hg; omega
                      have hxc : x < cur.length := by omega
                      have hyc : y < cur.length := by omega
                      have hw : cur[x].wgt = L[x].wgt := BI.out.wgt x hxl hxc
                      have hw2 : cur[y].wgt = L[y].wgt := BI.out.wgt y hyl hyc
                      have G := BI.out.gap x y hxl hyl hxc hyc hgx
                      unfold gapL at G
                      obtain ⟨_, rx2, rx3⟩ := BI.out.vs.right hxc
                      obtain ⟨_, ry2, ry3⟩ := BI.out.vs.right hyc
                      obtain ⟨_, _, rx4⟩ := HV.out.right hxl
                      obtain ⟨_, _, ry4⟩ := HV.out.right hyl
                      have gr := BI.out.rng x hgx
                      have z1 := prod_small rx3 ry2
                      have z2 := prod_small ry3 rx2
                      have z3 := prod_small rx4 ry2
                      have z4 := prod_small ry4 rx2
                      have z5 := prod_small (a := g[x]) (b := cur[y].wgt) ⟨gr.1, by omega⟩ ry2
                      rw [← hw] at l1 G
                      rw [← hw2] at n1 G
                      have gk := RG.out.cell x hgx
                      clear hw hw2 gr rx3 ry3 rx4 ry4
                      generalize cur[x].wgt = ax at *
                      generalize cur[x].srv = sx at *
                      generalize cur[y].wgt = ay at *
                      generalize cur[y].srv = sy at *
                      generalize L[x].srv = tx at *
                      generalize L[y].srv = ty at *
                      generalize g[x] = gx at *
                      generalize (⟨cur[x].prj.toArray⟩ : ByteArray) = nx at *
                      generalize (⟨cur[y].prj.toArray⟩ : ByteArray) = ny at *
                      have e1 : wrap64 (sx * ay) = sx * ay := by unfold wrap64; omega
                      have e2 : wrap64 (sy * ax) = sy * ax := by unfold wrap64; omega
                      have e3 : wrap64 (sx * ay - sy * ax) = sx * ay - sy * ax := by unfold wrap64; omega
                      have e4 : wrap64 (tx * ay) = tx * ay := by unfold wrap64; omega
                      have e5 : wrap64 (ty * ax) = ty * ax := by unfold wrap64; omega
                      have e6 : wrap64 (tx * ay - ty * ax) = tx * ay - ty * ax := by unfold wrap64; omega
                      have e7 : wrap64 (gx * ay) = gx * ay := by unfold wrap64; omega
                      have G2 : ¬ max (tx * ay - ty * ax) (gx * ay) < sx * ay - sy * ax := by omega
                      have hGd := decide_eq_false G2
                      have hnq : (ax != ax) = false := by simp
                      clear z1 z2 z3 z4 z5 G rx2 ry2
                      have HX := Lib.hid (show wr.cell? ⟨bl, ol + x * 3 + 1, none⟩ = some (.int .i64 ax) ∧ wr.cell? ⟨bl, ol + x * 3 + 2, none⟩ = some (.int .i64 tx) ∧ wr.cell? ⟨bl, ol + y * 3 + 1, none⟩ = some (.int .i64 ay) ∧ wr.cell? ⟨bl, ol + y * 3 + 2, none⟩ = some (.int .i64 ty) from ⟨l1, l2, n1, n2⟩)
                      have HGK := Lib.hid gk
                      have hgbr := RG.out.lt
                      clear l0 l1 l2 n0 n1 n2 gk
                      go_wp2_with fail
                      go_region
                      · have TA := (ThH.new wr (.string nx) (.int .i64 ax) (.int .i64 sx)).alloc (.cells #[.string ny, .int .i64 ay, .int .i64 sy] 41)
                        have TB := ThH.new (wr.alloc (.cells #[.string nx, .int .i64 ax, .int .i64 sx] 41)) (.string ny) (.int .i64 ay) (.int .i64 sy)
                        rw [World.size_alloc] at TB
                        have BE := (((Below.refl wr.heap.size wr).alloc (Nat.le_refl _) (.cells #[.string nx, .int .i64 ax, .int .i64 sx] 41)).alloc (by simp) (.cells #[.string ny, .int .i64 ay, .int .i64 sy] 41)).drew
                        replace TA := TA.below (Below.refl _ _).drew
                        replace TB := TB.below (Below.refl _ _).drew
                        obtain ⟨W, hW⟩ : ∃ W, W = ((wr.alloc (.cells #[.string nx, .int .i64 ax, .int .i64 sx] 41)).alloc (.cells #[.string ny, .int .i64 ay, .int .i64 sy] 41)).drew := ⟨_, rfl⟩
                        rw [← hW] at TA TB BE ⊢
                        clear hW
                        obtain ⟨l1, l2, n1, n2⟩ := HX.out
                        replace l1 := (BE.cell (p := ⟨bl, _, none⟩) hbl).trans l1
                        replace l2 := (BE.cell (p := ⟨bl, _, none⟩) hbl).trans l2
                        replace n1 := (BE.cell (p := ⟨bl, _, none⟩) hbl).trans n1
                        replace n2 := (BE.cell (p := ⟨bl, _, none⟩) hbl).trans n2
                        have gk := (BE.cell (p := ⟨gb, x, none⟩) hgbr).trans HGK.out
                        obtain ⟨t0, t1, t2⟩ := TA.facts
                        obtain ⟨u0, u1, u2⟩ := TB.facts
                        have BE := Lib.hid BE
                        clear TA TB p0 p1 p2 q0 q1 q2
                        go_wp2_with fail
                        go_quiet (fail)
                        go_wp2_with fail
                        go_quiet (fail)
                        go_wp2_with fail
                        exact ⟨⟨y + 1, by omega, by go_num, Lib.hid (RH.out.below (below_drewN BE.out _)), Lib.hid (RG.out.below (below_drewN BE.out _)), Lib.hid (BW.out.trans ((below_drewN BE.out _).mono BW.out.size))⟩, by simp [RowKit.intOf]; omega⟩
                      · have TA := (ThH.new wr (.string ny) (.int .i64 ay) (.int .i64 sy)).alloc (.cells #[.string nx, .int .i64 ax, .int .i64 sx] 41)
                        have TB := ThH.new (wr.alloc (.cells #[.string ny, .int .i64 ay, .int .i64 sy] 41)) (.string nx) (.int .i64 ax) (.int .i64 sx)
                        rw [World.size_alloc] at TB
                        have BE := (((Below.refl wr.heap.size wr).alloc (Nat.le_refl _) (.cells #[.string ny, .int .i64 ay, .int .i64 sy] 41)).alloc (by simp) (.cells #[.string nx, .int .i64 ax, .int .i64 sx] 41)).drew
                        replace TA := TA.below (Below.refl _ _).drew
                        replace TB := TB.below (Below.refl _ _).drew
                        obtain ⟨W, hW⟩ : ∃ W, W = ((wr.alloc (.cells #[.string ny, .int .i64 ay, .int .i64 sy] 41)).alloc (.cells #[.string nx, .int .i64 ax, .int .i64 sx] 41)).drew := ⟨_, rfl⟩
                        rw [← hW] at TA TB BE ⊢
                        clear hW
                        obtain ⟨l1, l2, n1, n2⟩ := HX.out
                        replace l1 := (BE.cell (p := ⟨bl, _, none⟩) hbl).trans l1
                        replace l2 := (BE.cell (p := ⟨bl, _, none⟩) hbl).trans l2
                        replace n1 := (BE.cell (p := ⟨bl, _, none⟩) hbl).trans n1
                        replace n2 := (BE.cell (p := ⟨bl, _, none⟩) hbl).trans n2
                        have gk := (BE.cell (p := ⟨gb, x, none⟩) hgbr).trans HGK.out
                        obtain ⟨t0, t1, t2⟩ := TA.facts
                        obtain ⟨u0, u1, u2⟩ := TB.facts
                        have BE := Lib.hid BE
                        clear TA TB p0 p1 p2 q0 q1 q2
                        go_wp2_with fail
                        go_quiet (fail)
                        go_wp2_with fail
                        go_quiet (fail)
                        go_wp2_with fail
                        exact ⟨⟨y + 1, by omega, by go_num, Lib.hid (RH.out.below (below_drewN BE.out _)), Lib.hid (RG.out.below (below_drewN BE.out _)), Lib.hid (BW.out.trans ((below_drewN BE.out _).mono BW.out.size))⟩, by simp [RowKit.intOf]; omega⟩
                    · obtain rfl : y = L.length := by omega
                      have hyI : ¬ (L.length : Int) < (L.length : Int) := by omega
                      go_wp2_with fail
                      exact ⟨⟨x + 1, by omega, by go_num, RH, RG, BW⟩, by simp [RowKit.intOf]; omega⟩
                · obtain rfl : x = L.length := by omega
                  have hxI : ¬ (L.length : Int) < (L.length : Int) := by omega
                  have B8 := Lib.hid (B3.out.trans (BW.out.mono B3.out.size))
                  go_wp2_with fail
                  go_fit (A.out _)
                  rintro e w9 ⟨rfl, hb9⟩
                  have B9 := Lib.hid (B8.out.trans (hb9.mono B8.out.size))
                  clear hb9
                  go_wp2_with fail
                  go_ret
                  exact ⟨rfl, B9.out⟩
        · have VA0 := Lib.hid (VA false ⟨fun h => (by cases h), fun h => absurd h hV⟩)
          clear VA hV hx
          go_enter Tryz.func8, Tryz.ntmps8
          go_wp2_with fail
          go_fit F1.out
          rintro e w1 ⟨rfl, rfl⟩
          go_wp2_with fail
          go_fit (VA0.out _ (Below.refl _ _))
          rintro e w2 ⟨rfl, hb2⟩
          have B2 := Lib.hid hb2
          clear hb2
          go_wp2_with fail
          go_fit (A.out _)
          rintro e w6 ⟨rfl, hb6⟩
          have B6 := Lib.hid (B2.out.trans (hb6.mono B2.out.size))
          clear hb6
          go_wp2_with fail
          go_ret
          exact ⟨rfl, B6.out⟩
      · have h60I : (60 : Int) < (C.length : Int) := by omega
        clear hf hr hrc hlen
        go_enter Tryz.func8, Tryz.ntmps8
        go_wp2_with fail
        go_fit F1.out
        rintro e w1 ⟨rfl, rfl⟩
        go_wp2_with fail
        go_fit (A.out _)
        rintro e w6 ⟨rfl, hb6⟩
        have B6 := Lib.hid (hb6)
        clear hb6
        go_wp2_with fail
        go_ret
        exact ⟨rfl, B6.out⟩
    · have h6I : (6 : Int) < (L.length : Int) := by omega
      clear hf hr hrc hlen
      go_enter Tryz.func8, Tryz.ntmps8
      go_wp2_with fail
      go_fit F1.out
      rintro e w1 ⟨rfl, rfl⟩
      go_wp2_with fail
      go_fit (A.out _)
      rintro e w6 ⟨rfl, hb6⟩
      have B6 := Lib.hid (hb6)
      clear hb6
      go_wp2_with fail
      go_ret
      exact ⟨rfl, B6.out⟩
  · have F0 := Lib.hid (F.out false ⟨fun h => (by cases h), fun h => absurd h hf⟩)
    clear hf hr hrc F hlen
    go_enter Tryz.func8, Tryz.ntmps8
    go_wp2_with fail
    go_fit F0.out
    rintro e w1 ⟨rfl, rfl⟩
    go_wp2_with fail
    go_fit (A.out _)
    rintro e w6 ⟨rfl, hb6⟩
    have B6 := Lib.hid (hb6)
    clear hb6
    go_wp2_with fail
    go_ret
    exact ⟨rfl, B6.out⟩

set_option maxRecDepth 100000 in
theorem lifted (os : Os) (started : os.Started) (H : Type) (enc : TypeId × Value → H) :
    ReturnsInHanded {} Tryz.checked os 8 .any (fun w args => (Rows.fairnessBoundSpec.pre enc Tryz.prog Tryz.f8 Rows.fairnessBoundRow.domain false w args ∧ laidMetH Tryz.prog laid23 w) ∧ sizedMet enc Tryz.prog Tryz.f8 (OpenSpec.ofChange Rows.fairnessBoundSpec) false w args) (Rows.fairnessBoundSpec.post enc Tryz.prog Tryz.f8 false true false false) := by
  refine returnsInHanded_of_change_andShaped (C := Tryz.checked) (X := fun w _ => laidMetH Tryz.prog laid23 w) (fun _ _ _ hh h => h.of_heap hh) own started (by kernel_rfl) Tryz.func8
    (ChangeSpec.witness_shaped (enc := enc) (C := Tryz.checked) (os := os) (X := fun w _ => laidMetH Tryz.prog laid23 w) false (World.laidAll Tryz.prog os laid23) #[.slice none 0 0, .slice none 0 0] 8 (World.laidAll_os _ _ _) (World.shaped_of_ZipB (by kernel_rfl) (by kernel_rfl)) (by kernel_rfl) (by kernel_rfl) (by kernel_rfl) (lay23_met os _)) ?_
  intro W base args ds gs before hval0 hW hcnd hsz hL hsh _
  have hval : ∀ (j : Nat) t v, Tryz.f8.params[j]? = some t → args[j]? = some v → Value.okWide Tryz.prog W .any base t v := hval0
  have hW' := hW
  obtain ⟨p, q, hA0, hV, rfl, hfz, hnd⟩ := hW
  have hA : DataW.TrodAll enc Tryz.prog W 0 (fun _ => true) true Tryz.f8.params.toList args.toList ds p := hA0
  rw [Tryz.params8] at hA hval hsz
  obtain ⟨v0, vs0, d0, ds0, p0, q0, hargs, rfl, rfl, h0, r0⟩ := trodAll_cons hA
  obtain ⟨v1, vs1, d1, ds1, p1, q1, rfl, rfl, rfl, h1, r1⟩ := trodAll_cons r0
  obtain ⟨rfl, rfl, rfl⟩ := trodAll_nil r1
  obtain rfl : args = #[v0, v1] := by cases args; simp_all
  obtain ⟨rfl, rfl⟩ := trodVars_none hV
  obtain ⟨a0, len0, cap0, rfl⟩ := okWide_slice Tryz.underlying22 (hval 0 22 v0 rfl rfl)
  have k0 := h0
  have lt0 : ∀ x ∈ p0, x.block < W.heap.size := by obtain ⟨m, hm⟩ := k0; exact DataW.trod_lt m _ _ _ hm
  have hw0 : (d0.weights Tryz.prog 22).all (· ≤ reachBytes) = true := List.all_eq_true.2 (fun n hn => List.all_eq_true.1 hsz n (DataW.weights_mem_each (j := 0) (t := 22) rfl rfl n hn))
  obtain ⟨L0, rfl, hlen0, hx0, hr0⟩ : ∃ L : List Sha, len0 = L.length ∧ L.length * 32 ≤ 140737488351232 ∧ (∀ j (h : j < L.length), L[j].prj.length ≤ 140737488351232) ∧ ReadsH W a0 L := by
    obtain ⟨fuel, hf⟩ := h0
    exact open_shares fuel a0 len0 cap0 _ (by simpa [Value.cells] using hf) hw0
  obtain ⟨a1, len1, cap1, rfl⟩ := okWide_slice Tryz.underlying42 (hval 1 42 v1 rfl rfl)
  have k1 := h1
  have lt1 : ∀ x ∈ p1, x.block < W.heap.size := by obtain ⟨m, hm⟩ := k1; exact DataW.trod_lt m _ _ _ hm
  obtain ⟨L1, rfl, hn1, hr1⟩ : ∃ L : List Int, len1 = L.length ∧ (∀ j (h : j < L.length), (Lit.int .i64 L[j]).wf = true) ∧ ReadsN W a1 L := by
    obtain ⟨fuel, hf⟩ := h1
    exact open_nums fuel a1 len1 cap1 _ (by simpa [Value.cells] using hf)
  clear hA0 hval0
  refine (walk a0 cap0 L0 hlen0 hx0 a1 cap1 L1 hn1  W (tab23_of hL hsh) hr0 hr1).mono fun e W' ⟨he, bel⟩ => ?_
  subst he
  exact ⟨_, rfl, _, _, _, [], _, [], hW', trodAll_mk1 (shut_bool Tryz.underlying4 _), (trodAll_cons_mk (Below.trod laidOut (by kernel_rfl) (of_decide_eq_true (by kernel_rfl)) k0 bel lt0) (trodAll_cons_mk (Below.trod laidOut (by kernel_rfl) (of_decide_eq_true (by kernel_rfl)) k1 bel lt1) trodAll_mk0)), rfl, bel.frame _, fun h => by cases h⟩

theorem over : Rows.fairnessBoundRow.holds Tryz.pinned (OpenSpec.ofChange Rows.fairnessBoundSpec) :=
  OpenClaim.holds_of_wide 8 Tryz.f8 rfl rfl rfl rfl rfl rfl rfl ⟨rfl, rfl, rfl, rfl, rfl⟩ rfl rfl rfl rfl rfl (by kernel_rfl) Tryz.func8 (by kernel_rfl)
    (of_decide_eq_true (by kernel_rfl)) (by unfold Func.isWrapper; first | (rw [if_pos (by decide +kernel)]; kernel_rfl) | (rw [if_neg (by decide +kernel)]; exact ⟨rfl, rfl⟩))
    (fun os started H enc _ => lifted os started H enc)

/-- THE STATEMENT. -/
theorem proved : Rows.FairnessBoundCardSaid :=
  Claim7.holds_tied_plain_at .later [] [.data, .pinned] true Rows.fairnessBoundCard.stood.harness false
    over (fun _ h => by cases h) (by kernel_rfl) (fun _ h => by cases h) fairnessBound_row_tie rfl ⟨rfl, rfl⟩ (by kernel_rfl) rfl
    (fun f fn hf hfn => by
      obtain rfl : f = 8 := Option.some.inj ((show Tryz.prog.funcNamed "pipeline/pipelinelaw23.FairnessBound" = some 8 by kernel_rfl).symm.trans hf) |>.symm
      obtain rfl : fn = Tryz.f8 := (Option.some.inj (Tryz.func8.symm.trans hfn)).symm
      exact ⟨by kernel_rfl, fun j t ht => by
        rw [Tryz.params8] at ht
        have hm : t ∈ [22, 42] := by simpa using Array.mem_of_getElem? ht
        have hall : ([22, 42].all fun u => !Tryz.prog.wantsStandIn u) = true := by kernel_rfl
        exact (show Tryz.prog.wantsStandIn t = false by simpa using List.all_eq_true.1 hall t hm)⟩)
    (by kernel_rfl)
#print axioms proved
end Go.Proofs.YtmjikddceegloaaGreatDoor.fairnessBound
