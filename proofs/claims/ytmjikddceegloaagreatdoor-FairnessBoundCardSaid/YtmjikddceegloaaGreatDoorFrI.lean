/- The contract of Charge (fairness). -/
import Derived.Test.YtmjikddceegloaaGreatDoorFrH
namespace Go.Proofs.YtmjikddceegloaaGreatDoor
open Go.RowKit Go.Lib
set_option linter.unusedSimpArgs false

def Sha.plus (s : Sha) (c : Int) : Sha := ⟨s.prj, s.wgt, s.srv + c⟩
/-- What Charge answers. -/
inductive ChR (L : List Sha) (p : List UInt8) (c : Int) : List Sha → Int → Prop
  | bad : ¬ ValidS L → ChR L p c L 1
  | cost : ValidS L → ¬ (1 ≤ c ∧ c ≤ 1000000) → ChR L p c L 2
  | none : ValidS L → (1 ≤ c ∧ c ≤ 1000000) → (∀ k (h : k < L.length), L[k].prj ≠ p) → ChR L p c L 8
  | much (k : Nat) (h : k < L.length) : ValidS L → (1 ≤ c ∧ c ≤ 1000000) → L[k].prj = p → 1125899906842624 < L[k].srv + c → ChR L p c L 15
  | done (k : Nat) (h : k < L.length) : ValidS L → (1 ≤ c ∧ c ≤ 1000000) → L[k].prj = p → L[k].srv + c ≤ 1125899906842624 → ChR L p c (L.set k (L[k].plus c)) 0
theorem ChR.one {L : List Sha} {p : List UInt8} {c : Int} {R R' : List Sha} {E E' : Int} (h : ChR L p c R E) (h' : ChR L p c R' E') : R = R' ∧ E = E' := by
  cases h with
  | bad h1 => cases h' with
    | bad _ => exact ⟨rfl, rfl⟩
    | cost g _ => exact absurd g h1
    | none g _ _ => exact absurd g h1
    | much _ _ g _ _ _ => exact absurd g h1
    | done _ _ g _ _ _ => exact absurd g h1
  | cost h1 h2 => cases h' with
    | bad g => exact absurd h1 g
    | cost _ _ => exact ⟨rfl, rfl⟩
    | none _ g _ => exact absurd g h2
    | much _ _ _ g _ _ => exact absurd g h2
    | done _ _ _ g _ _ => exact absurd g h2
  | none h1 h2 h3 => cases h' with
    | bad g => exact absurd h1 g
    | cost _ g => exact absurd h2 g
    | none _ _ _ => exact ⟨rfl, rfl⟩
    | much k hk _ _ e _ => exact absurd e (h3 k hk)
    | done k hk _ _ e _ => exact absurd e (h3 k hk)
  | much k hk h1 h2 h3 h4 => cases h' with
    | bad g => exact absurd h1 g
    | cost _ g => exact absurd h2 g
    | none _ _ g => exact absurd h3 (g k hk)
    | much _ _ _ _ _ _ => exact ⟨rfl, rfl⟩
    | done k' hk' _ _ e g =>
      obtain rfl := h1.inj hk hk' (h3.trans e.symm)
      omega
  | done k hk h1 h2 h3 h4 => cases h' with
    | bad g => exact absurd h1 g
    | cost _ g => exact absurd h2 g
    | none _ _ g => exact absurd h3 (g k hk)
    | much k' hk' _ _ e g =>
      obtain rfl := h1.inj hk hk' (h3.trans e.symm)
      omega
    | done k' hk' _ _ e _ =>
      obtain rfl := h1.inj hk hk' (h3.trans e.symm)
      exact ⟨rfl, rfl⟩
def ChPost (L : List Sha) (p : List UInt8) (c : Int) (w : World) (e : Ending) (w' : World) : Prop := ∃ (a : Option Addr) (cp : Nat) (R : List Sha) (E : Int), e = .returned (.tuple #[.slice a R.length cp, .int .i64 E]) ∧ ChR L p c R E ∧ ReadsH w' a R ∧ Below w.heap.size w w'
set_option maxHeartbeats 4000000 in
set_option maxRecDepth 100000 in
theorem charge_any (v : Option Addr) (cap : Nat) (L : List Sha) (p : ByteArray) (c : Int) (hp : p.size ≤ 1000000) (hlen : L.length ≤ 1000000) (hx : ∀ x ∈ L, x.prj.length ≤ 1000000) (w : World) (hr : ReadsH w v L) :
    Calls Tryz.prog 14 #[.slice v L.length cap, .string p, .int .i64 c] w (ChPost L p.data.toList c w) := by
  have HR := Lib.hid hr
  have VA := Lib.hid (fun b hb => valid_any v cap L b hb hlen hx w hr)
  have CO := Lib.hid (fun w => cost_any c w)
  obtain ⟨pl, hpl⟩ : ∃ pl, pl = p.data.toList := ⟨_, rfl⟩
  rw [← hpl]
  have HPL := Lib.hid hpl
  clear hx hr hpl
  by_cases hV : ValidS L
  · have VA1 := Lib.hid (VA.out true ⟨fun _ => hV, fun _ => rfl⟩)
    have FI := Lib.hid (fun w' (hb : Below w.heap.size w w') => find_any v cap L hV p hp w' (HR.out.below hb))
    rw [← HPL.out] at FI
    have HV := Lib.hid hV
    clear VA hV
    by_cases hc : 1 ≤ c ∧ c ≤ 1000000
    · rw [decide_eq_true hc] at CO
      have HC := Lib.hid hc
      obtain ⟨hc1, hc2⟩ := hc
      go_enter Tryz.func14, Tryz.ntmps14
      go_wp2_with fail
      go_fit VA1.out
      rintro e w1 ⟨rfl, hb⟩
      have B1 := Lib.hid hb
      clear hb
      go_wp2_with fail
      go_fit (CO.out _)
      rintro e w2 ⟨rfl, rfl⟩
      go_wp2_with fail
      go_fit (FI.out _ B1.out)
      rintro e w2 ⟨k, b, rfl, hf, hb⟩
      have B2 := Lib.hid (B1.out.trans (hb.mono B1.out.size))
      have HP := Lib.hid hf.1
      have HB := Lib.hid hf.2
      clear hb hf
      cases b
      · have HN := Lib.hid (show ChR L pl c L 8 from .none HV.out HC.out (fun t ht e => by
          have h1 := HP.out
          by_cases htk : t < k
          · have := h1.low t ht htk
            rw [e, cmp_self] at this
            omega
          · by_cases hkt : t = k
            · subst hkt
              exact absurd (HB.out.2 ⟨ht, e⟩) (by decide)
            · have hkl : k < L.length := by omega
              have h2 := h1.high k hkl (Nat.le_refl _)
              have h3 := HV.out.lt (show k < t by omega) ht
              rw [e] at h3
              omega))
        go_wp2_with fail
        go_ret2
        exact ⟨v, cap, L, 8, rfl, HN.out, HR.out.below B2.out, B2.out⟩
      · obtain ⟨hk, hkp⟩ := HB.out.1 rfl
        obtain ⟨bk, off, rfl, hbl, c0, c1, c2⟩ := HR.out k hk
        replace c0 := (B2.out.cell (p := ⟨bk, _, none⟩) hbl).trans c0
        replace c1 := (B2.out.cell (p := ⟨bk, _, none⟩) hbl).trans c1
        replace c2 := (B2.out.cell (p := ⟨bk, _, none⟩) hbl).trans c2
        obtain ⟨r1, r2, r3⟩ := HV.out.right hk
        have hkI : (k : Int) < (L.length : Int) := by omega
        have hk0 : (0 : Int) ≤ (k : Int) := by omega
        have WI := Lib.hid (fun w' (hb : Below w.heap.size w w') => with_any (some ⟨bk, off, none⟩) L cap k (L[k].plus c) hk hlen w' (HR.out.below hb))
        have HM := Lib.hid (fun (h : 1125899906842624 < L[k].srv + c) => ChR.much k hk HV.out HC.out (hkp.trans rfl) h)
        have HD := Lib.hid (fun (h : L[k].srv + c ≤ 1125899906842624) => ChR.done k hk HV.out HC.out (hkp.trans rfl) h)
        have HLS := Lib.hid (show (L.set k (L[k].plus c)).length = L.length from List.length_set)
        unfold shV Sha.plus at WI
        dsimp only at WI
        unfold Sha.plus at HD HLS
        generalize L[k].srv = sv at *
        generalize L[k].wgt = sg at *
        obtain ⟨sx, hsx⟩ : ∃ s : ByteArray, s = ⟨L[k].prj.toArray⟩ := ⟨_, rfl⟩
        rw [← hsx] at c0 WI
        generalize L.set k _ = R at *
        clear hkp r1 hsx HB HP
        by_cases hm : 1125899906842624 < sv + c
        · have HN := Lib.hid (HM.out hm)
          have B3 := Lib.hid (B2.out.alloc B2.out.size (.cells #[.string sx, .int .i64 sg, .int .i64 (sv + c)] 41))
          go_wp2_with fail
          go_ret2
          exact ⟨some ⟨bk, off, none⟩, cap, L, 15, rfl, HN.out, HR.out.below B3.out, B3.out⟩
        · have HN := Lib.hid (HD.out (by omega))
          have B3 := Lib.hid (B2.out.alloc B2.out.size (.cells #[.string sx, .int .i64 sg, .int .i64 (sv + c)] 41))
          go_wp2_with fail
          go_fit (WI.out _ B3.out)
          rintro e w4 ⟨v', rfl, hrow, hb⟩
          have B4 := Lib.hid (B3.out.trans (hb.mono B3.out.size))
          obtain ⟨a', c', rfl, _, hrd⟩ := hrow.reads
          have RD := Lib.hid hrd
          clear hrow hb hrd
          go_wp2_with fail
          go_ret2
          exact ⟨a', c', R, 0, rfl, HN.out, RD.out, B4.out⟩
    · rw [decide_eq_false hc] at CO
      have HN := Lib.hid (show ChR L pl c L 2 from .cost HV.out hc)
      clear hc
      go_enter Tryz.func14, Tryz.ntmps14
      go_wp2_with fail
      go_fit VA1.out
      rintro e w1 ⟨rfl, hb⟩
      have B1 := Lib.hid hb
      clear hb
      go_wp2_with fail
      go_fit (CO.out _)
      rintro e w2 ⟨rfl, rfl⟩
      go_wp2_with fail
      go_ret2
      exact ⟨v, cap, L, 2, rfl, HN.out, HR.out.below B1.out, B1.out⟩
  · have VA1 := Lib.hid (VA.out false ⟨(fun h => by cases h), fun h => absurd h hV⟩)
    have HN := Lib.hid (show ChR L pl c L 1 from .bad hV)
    clear VA hV
    go_enter Tryz.func14, Tryz.ntmps14
    go_wp2_with fail
    go_fit VA1.out
    rintro e w1 ⟨rfl, hb⟩
    have B1 := Lib.hid hb
    clear hb
    go_wp2_with fail
    go_ret2
    exact ⟨v, cap, L, 1, rfl, HN.out, HR.out.below B1.out, B1.out⟩
end Go.Proofs.YtmjikddceegloaaGreatDoor
