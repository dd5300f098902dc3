/- Contract of the program's movesBy (glob). -/
import Derived.Test.YtaalfnfikjmomaaGlbNa
import Derived.Test.YtaalfnfikjmomaaGlbU
namespace Go.Proofs.Ytaalfnfikjmomaa
open Go.RowKit Go.Lib
/-- The states before i from which a byte leads on (or back). -/
def upto (f : Nat → Bool) (i : Nat) : Nat → Bool := fun j => decide (j < i) && f j
theorem upto_zero (f : Nat → Bool) : upto f 0 = fun _ => false := by funext j; simp [upto]
theorem upto_yes (f : Nat → Bool) (i : Nat) (h : f i = true) : upd (upto f i) i true = upto f (i + 1) := by
  funext j
  unfold upd upto
  by_cases e : j = i
  · subst e; simp [h]
  · have : decide (j < i + 1) = decide (j < i) := decide_eq_decide.2 (by omega)
    rw [if_neg e, this]
theorem upto_no (f : Nat → Bool) (i : Nat) (h : f i = false) : upto f i = upto f (i + 1) := by
  funext j
  unfold upto
  by_cases e : j = i
  · subst e; simp [h]
  · have : decide (j < i + 1) = decide (j < i) := decide_eq_decide.2 (by omega)
    rw [this]
theorem upto_all (f : Nat → Bool) (n : Nat) (h : ∀ j, n ≤ j → f j = false) : upto f n = f := by
  funext j
  unfold upto
  by_cases e : j < n
  · simp [e]
  · simp [e, h j (by omega)]
theorem stepN_ge {M : List MSt} {c j : Nat} (h : M.length ≤ j) : stepN M c j = false := by unfold stepN; rw [List.getElem?_eq_none h]
theorem loopN_ge {M : List MSt} {c j : Nat} (h : M.length ≤ j) : loopN M c j = false := by unfold loopN; rw [List.getElem?_eq_none h]
set_option maxHeartbeats 8000000 in
set_option maxRecDepth 100000 in
theorem movesBy_any (a : Option Addr) (cp : Nat) (M : List MSt) (c : Nat) (hc : c < 256) (h1 : 1 ≤ M.length) (hM : M.length ≤ 4097) (w : World) (hr : ReadsM w a M) :
    Calls Try.prog 36 #[.slice a M.length cp, .int .u8 c] w fun e w' => ∃ g s l : Nat, w.heap.size ≤ g ∧ w.heap.size ≤ s ∧ w.heap.size ≤ l ∧ e = .returned (.pointer (some ⟨g, 0, none⟩)) ∧ TwoAt w' g 93 (.slice (some ⟨s, 0, none⟩) ((M.length + 63) / 64) ((M.length + 63) / 64)) (.slice (some ⟨l, 0, none⟩) ((M.length + 63) / 64) ((M.length + 63) / 64)) ∧ StAt w' s ((M.length + 63) / 64) (stepN M c) ∧ StAt w' l ((M.length + 63) / 64) (loopN M c) ∧ Below w.heap.size w w' := by
  have N := Lib.hid (fun w => noStates_any M.length cp a hM w)
  have R := Lib.hid hr
  have HM := Lib.hid (And.intro h1 hM)
  have HC := Lib.hid hc
  have m0 : (0 : Int) ≤ M.length ∧ (M.length : Int) ≤ 4097 := by omega
  clear hr h1 hM hc
  go_enter Try.func36, Try.ntmps36
  go_wp2_with fail
  go_fit (N.out _)
  rintro e w1 ⟨s, hs, rfl, hst, hb1⟩
  have A1 := Lib.hid (And.intro hs (And.intro hst hb1))
  clear hs hst hb1
  go_wp2_with fail
  go_fit (N.out _)
  rintro e w2 ⟨l, hl, rfl, hst, hb2⟩
  have A2 := Lib.hid (And.intro hl (And.intro hst hb2))
  clear hl hst hb2
  have HQ9 := Lib.hid (show ∃ q, q = (M.length + 63) / 64 from ⟨_, rfl⟩)
  obtain ⟨q, hq⟩ := HQ9.out
  have HQ := Lib.hid hq
  rw [← hq] at A1 A2 ⊢
  clear hq HQ9
  go_wp2_with fail
  have HG := Lib.hid (show w.heap.size ≤ s ∧ w.heap.size ≤ l ∧ w.heap.size ≤ w2.heap.size ∧ s ≠ l ∧ s ≠ w2.heap.size ∧ l ≠ w2.heap.size from by
    have := A1.out.2.1.lt; have := A2.out.2.1.lt; have := A1.out.1; have := A2.out.1; have := A2.out.2.2.size; have := A1.out.2.2.size
    refine ⟨?_, ?_, ?_, ?_, ?_, ?_⟩ <;> omega)
  have ST := Lib.hid (show TwoAt (w2.alloc (Obj.cells #[.slice (some ⟨s, 0, none⟩) q q, .slice (some ⟨l, 0, none⟩) q q] 93)) w2.heap.size 93 (.slice (some ⟨s, 0, none⟩) q q) (.slice (some ⟨l, 0, none⟩) q q) ∧ StAt (w2.alloc (Obj.cells #[.slice (some ⟨s, 0, none⟩) q q, .slice (some ⟨l, 0, none⟩) q q] 93)) s q (upto (stepN M c) 0) ∧ StAt (w2.alloc (Obj.cells #[.slice (some ⟨s, 0, none⟩) q q, .slice (some ⟨l, 0, none⟩) q q] 93)) l q (upto (loopN M c) 0) ∧ Below w.heap.size w (w2.alloc (Obj.cells #[.slice (some ⟨s, 0, none⟩) q q, .slice (some ⟨l, 0, none⟩) q q] 93)) from by
    rw [upto_zero, upto_zero]
    refine ⟨TwoAt.new _ _ _ _, ?_, ?_, ?_⟩
    · exact (A1.out.2.1.of_block (A2.out.2.2.block _ A1.out.2.1.lt)).of_block (Below.heap_alloc _ _ _ (Nat.lt_of_lt_of_le A1.out.2.1.lt A2.out.2.2.size))
    · exact A2.out.2.1.of_block (Below.heap_alloc _ _ _ A2.out.2.1.lt)
    · exact (A1.out.2.2.trans (A2.out.2.2.mono A1.out.2.2.size)).alloc HG.out.2.2.1 _)
  generalize hg : w2.heap.size = g at HG ST ⊢
  go_loopw [14] (fun s14 wr => ∃ i : Nat, s14 = .int .i64 (i : Int) ∧ i ≤ M.length ∧ TwoAt wr g 93 (.slice (some ⟨s, 0, none⟩) q q) (.slice (some ⟨l, 0, none⟩) q q) ∧ StAt wr s q (upto (stepN M c) i) ∧ StAt wr l q (upto (loopN M c) i) ∧ Below w.heap.size w wr) (fun s14 _ => M.length - (RowKit.intOf s14).toNat)
  case atStart => exact ⟨0, rfl, by omega, ST.out⟩
  case round =>
    obtain ⟨i, rfl, hi, ht, hs, hl, hb⟩ := hrel
    have HR := Lib.hid (And.intro ht (And.intro hs (And.intro hl hb)))
    by_cases hlt : i < M.length
    · obtain ⟨b, rfl, hb9, hc⟩ := R.out.below hb i hlt
      obtain ⟨t, hx⟩ : ∃ t, t = M[i] := ⟨_, rfl⟩
      rw [← hx] at hc
      obtain ⟨k0, k1, k2, k3, hk⟩ := setC_words t.step
      obtain ⟨u0, u1, u2, u3, hu⟩ := setC_words t.loop
      have hel : stC t = [.int .u64 (k0 : Nat), .int .u64 (k1 : Nat), .int .u64 (k2 : Nat), .int .u64 (k3 : Nat), .int .u64 (u0 : Nat), .int .u64 (u1 : Nat), .int .u64 (u2 : Nat), .int .u64 (u3 : Nat)] := by unfold stC; rw [hk, hu]; rfl
      rw [hel] at hc
      have c0 : wr.cell? ⟨b, i * 8, none⟩ = some (.int .u64 (k0 : Nat)) := by have := hc 0 (by omega); rwa [Nat.mul_comm] at this
      have c1 : wr.cell? ⟨b, i * 8 + 1, none⟩ = some (.int .u64 (k1 : Nat)) := by have := hc 1 (by omega); rwa [Nat.mul_comm] at this
      have c2 : wr.cell? ⟨b, i * 8 + 2, none⟩ = some (.int .u64 (k2 : Nat)) := by have := hc 2 (by omega); rwa [Nat.mul_comm] at this
      have c3 : wr.cell? ⟨b, i * 8 + 3, none⟩ = some (.int .u64 (k3 : Nat)) := by have := hc 3 (by omega); rwa [Nat.mul_comm] at this
      have e1 : setV t.step = .agg #[.int .u64 (k0 : Nat), .int .u64 (k1 : Nat), .int .u64 (k2 : Nat), .int .u64 (k3 : Nat)] := by rw [setV_set, hk]
      have e2 : setV t.loop = .agg #[.int .u64 (u0 : Nat), .int .u64 (u1 : Nat), .int .u64 (u2 : Nat), .int .u64 (u3 : Nat)] := by rw [setV_set, hu]
      have H1 := Lib.hid (fun w => has_any t.step c HC.out w)
      have H2 := Lib.hid (fun w => has_any t.loop c HC.out w)
      rw [e1, show t.step c = stepN M c i by rw [stepN_at hlt, hx]] at H1
      rw [e2, show t.loop c = loopN M c i by rw [loopN_at hlt, hx]] at H2
      have CE := Lib.hid (fun (W : World) (hW : Below w.heap.size w W) => show W.cell? ⟨b, i * 8 + 4, none⟩ = some (.int .u64 (u0 : Nat)) ∧ W.cell? ⟨b, i * 8 + 5, none⟩ = some (.int .u64 (u1 : Nat)) ∧ W.cell? ⟨b, i * 8 + 6, none⟩ = some (.int .u64 (u2 : Nat)) ∧ W.cell? ⟨b, i * 8 + 7, none⟩ = some (.int .u64 (u3 : Nat)) from by
        obtain ⟨b', hbe, _, hc'⟩ := R.out.below hW i hlt
        injection hbe with hbe
        injection hbe with hbe
        subst hbe
        rw [← hx, hel] at hc'
        have h4 := hc' 4 (by omega)
        have h5 := hc' 5 (by omega)
        have h6 := hc' 6 (by omega)
        have h7 := hc' 7 (by omega)
        rw [Nat.mul_comm] at h4 h5 h6 h7
        exact ⟨h4, h5, h6, h7⟩)
      have i1 : (0 : Int) ≤ i ∧ (i : Int) < (M.length : Int) := by omega
      have HL := Lib.hid hlt
      clear hc hel hk hu e1 e2 hx hi ht hs hl hb hlt
      go_wp2_with fail
      go_fit (H1.out _)
      rintro e w3 ⟨rfl, hb3⟩
      have B3 := Lib.hid hb3
      clear hb3
      go_upto_if 23 with (fail)
      go_cut [] (fun wx => TwoAt wx g 93 (.slice (some ⟨s, 0, none⟩) q q) (.slice (some ⟨l, 0, none⟩) q q) ∧ StAt wx s q (upto (stepN M c) (i + 1)) ∧ StAt wx l q (upto (loopN M c) i) ∧ Below w.heap.size w wx)
      case first =>
        have h0 := (HR.out.1.below B3.out).cell0
        have SA := Lib.hid (stadd_any (upto (stepN M c) i) s q q i w.heap.size (by have := HL.out; have := HQ.out; omega) (by have := HM.out; have := HQ.out; omega) HG.out.1 w3 (HR.out.2.1.of_block (B3.out.block _ HR.out.2.1.lt)))
        cases hv : stepN M c i
        · have HV := Lib.hid hv
          clear hv
          go_wp2_with fail
          go_meet
          exact ⟨HR.out.1.below B3.out, by rw [← upto_no _ _ HV.out]; exact HR.out.2.1.of_block (B3.out.block _ HR.out.2.1.lt), HR.out.2.2.1.of_block (B3.out.block _ HR.out.2.2.1.lt), HR.out.2.2.2.trans (B3.out.mono HR.out.2.2.2.size)⟩
        · have HV := Lib.hid hv
          clear hv
          go_wp2_with fail
          go_fit SA.out
          rintro e w4 ⟨rfl, h1, h2, h3⟩
          have A4 := Lib.hid (And.intro h1 (And.intro h2 h3))
          clear h1 h2 h3
          go_wp2_with fail
          go_meet
          refine ⟨(HR.out.1.below B3.out).of_block (A4.out.2.2 _ (fun e => HG.out.2.2.2.2.1 e.symm)), by rw [← upto_yes _ _ HV.out]; exact A4.out.1, (HR.out.2.2.1.of_block (B3.out.block _ HR.out.2.2.1.lt)).of_block (A4.out.2.2 _ (fun e => HG.out.2.2.2.1 e.symm)), (HR.out.2.2.2.trans (B3.out.mono HR.out.2.2.2.size)).trans A4.out.2.1⟩
      case rest =>
        have HR2 := Lib.hid hcut
        obtain ⟨c4, c5, c6, c7⟩ := CE.out wc hcut.2.2.2
        clear hcut
        go_wp2_with fail
        go_fit (H2.out _)
        rintro e w4 ⟨rfl, hb3⟩
        have B4 := Lib.hid hb3
        clear hb3
        have h0 := (HR2.out.1.below B4.out).cell1
        have SA := Lib.hid (stadd_any (upto (loopN M c) i) l q q i w.heap.size (by have := HL.out; have := HQ.out; omega) (by have := HM.out; have := HQ.out; omega) HG.out.2.1 w4 (HR2.out.2.2.1.of_block (B4.out.block _ HR2.out.2.2.1.lt)))
        clear c4 c5 c6 c7
        cases hv : loopN M c i
        · have HV := Lib.hid hv
          clear hv
          go_wp2_with fail
          go_roundw
          case rel => exact ⟨i + 1, by go_num, HL.out, HR2.out.1.below B4.out, HR2.out.2.1.of_block (B4.out.block _ HR2.out.2.1.lt), by rw [← upto_no _ _ HV.out]; exact HR2.out.2.2.1.of_block (B4.out.block _ HR2.out.2.2.1.lt), HR2.out.2.2.2.trans (B4.out.mono HR2.out.2.2.2.size)⟩
          case measure => have := HL.out; simp [RowKit.intOf]; omega
        · have HV := Lib.hid hv
          clear hv
          go_wp2_with fail
          go_fit SA.out
          rintro e w5 ⟨rfl, h1, h2, h3⟩
          have A4 := Lib.hid (And.intro h1 (And.intro h2 h3))
          clear h1 h2 h3
          go_wp2_with fail
          go_roundw
          case rel => exact ⟨i + 1, by go_num, HL.out, (HR2.out.1.below B4.out).of_block (A4.out.2.2 _ (fun e => HG.out.2.2.2.2.2 e.symm)), (HR2.out.2.1.of_block (B4.out.block _ HR2.out.2.1.lt)).of_block (A4.out.2.2 _ HG.out.2.2.2.1), by rw [← upto_yes _ _ HV.out]; exact A4.out.1, (HR2.out.2.2.2.trans (B4.out.mono HR2.out.2.2.2.size)).trans A4.out.2.1⟩
          case measure => have := HL.out; simp [RowKit.intOf]; omega
    · obtain rfl : i = M.length := by omega
      have HLT := Lib.hid hlt
      clear ht hs hl hb hi hlt
      go_wp2_with fail
      go_ret
      have e1 := upto_all (stepN M c) M.length (fun j hj => stepN_ge hj)
      have e2 := upto_all (loopN M c) M.length (fun j hj => loopN_ge hj)
      rw [e1, e2] at HR
      rw [← HQ.out]
      exact ⟨g, s, l, HG.out.2.2.1, HG.out.1, HG.out.2.1, rfl, HR.out.1, HR.out.2.1, HR.out.2.2.1, HR.out.2.2.2⟩
end Go.Proofs.Ytaalfnfikjmomaa
