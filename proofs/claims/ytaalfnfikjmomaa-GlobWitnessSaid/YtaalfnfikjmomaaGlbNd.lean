/- Contract of the program's matches (glob). -/
import Derived.Test.YtaalfnfikjmomaaGlbNc
namespace Go.Proofs.Ytaalfnfikjmomaa
open Go.RowKit Go.Lib
theorem zero_known (w : World) : (zeroValue 69).run Try.prog w = .ok (.agg (Array.replicate 256 (.pointer none))) w := by kernel_rfl
/-- What is known of the moves by bytes: none, or a block that holds them. -/
def KnownAt (M : List MSt) (b n K : Nat) (w : World) (f : Nat → Option Nat) : Prop :=
  w.rowIs K 69 256 (fun c => .pointer ((f c).map fun g => ⟨g, 0, none⟩)) ∧ K ≠ b ∧
    ∀ c g, c < 256 → f c = some g → ∃ s l : Nat, g ≠ b ∧ s ≠ b ∧ l ≠ b ∧ g ≠ K ∧ s ≠ K ∧ l ≠ K ∧ TwoAt w g 93 (.slice (some ⟨s, 0, none⟩) n n) (.slice (some ⟨l, 0, none⟩) n n) ∧ StAt w s n (stepN M c) ∧ StAt w l n (loopN M c)
theorem KnownAt.move {M : List MSt} {b n K : Nat} {w w' : World} {f : Nat → Option Nat} (h : KnownAt M b n K w f) (e : ∀ j, j ≠ b → j < w.heap.size → w'.heap[j]? = w.heap[j]?) : KnownAt M b n K w' f := by
  obtain ⟨h1, h2, h3⟩ := h
  refine ⟨h1.of_block (e K h2 h1.lt), h2, fun c g hc hf => ?_⟩
  obtain ⟨s, l, a1, a2, a3, a4, a5, a6, a7, a8, a9⟩ := h3 c g hc hf
  exact ⟨s, l, a1, a2, a3, a4, a5, a6, a7.of_block (e g a1 a7.lt), a8.of_block (e s a2 a8.lt), a9.of_block (e l a3 a9.lt)⟩
theorem KnownAt.put {M : List MSt} {b n K c g s l : Nat} {w : World} {f : Nat → Option Nat} (h : KnownAt M b n K w f)
    (a1 : g ≠ b) (a2 : s ≠ b) (a3 : l ≠ b) (a4 : g ≠ K) (a5 : s ≠ K) (a6 : l ≠ K) (a7 : TwoAt w g 93 (.slice (some ⟨s, 0, none⟩) n n) (.slice (some ⟨l, 0, none⟩) n n)) (a8 : StAt w s n (stepN M c)) (a9 : StAt w l n (loopN M c)) :
    KnownAt M b n K (w.setCell ⟨K, c, none⟩ (.pointer (some ⟨g, 0, none⟩))) (fun i => if i = c then some g else f i) := by
  obtain ⟨h1, h2, h3⟩ := h
  have e : ∀ j, j ≠ K → (w.setCell ⟨K, c, none⟩ (.pointer (some ⟨g, 0, none⟩))).heap[j]? = w.heap[j]? := fun j hj => Below.heap_setCell _ _ _ _ hj
  refine ⟨(World.rowIs.set h1 c _).congr (fun i _ => ?_), h2, fun c' g' hc hf => ?_⟩
  · by_cases e : i = c
    · rw [if_pos e]; simp only [e, if_true]; rfl
    · rw [if_neg e]; simp only [e, if_false]
  · change (if c' = c then some g else f c') = some g' at hf
    by_cases e2 : c' = c
    · rw [if_pos e2] at hf
      injection hf with hf
      subst hf
      subst e2
      exact ⟨s, l, a1, a2, a3, a4, a5, a6, a7.of_block (e _ a4), a8.of_block (e _ a5), a9.of_block (e _ a6)⟩
    · rw [if_neg e2] at hf
      obtain ⟨s, l, b1, b2, b3, b4, b5, b6, b7, b8, b9⟩ := h3 c' g' hc hf
      exact ⟨s, l, b1, b2, b3, b4, b5, b6, b7.of_block (e _ b4), b8.of_block (e _ b5), b9.of_block (e _ b6)⟩
set_option maxHeartbeats 8000000 in
set_option maxRecDepth 100000 in
theorem matches_any (a : Option Addr) (cp : Nat) (M : List MSt) (s : ByteArray) (hs : s.size ≤ 1099511627776) (h1 : 1 ≤ M.length) (hM : M.length ≤ 4097) (w : World) (hr : ReadsM w a M) :
    Calls Try.prog 25 #[.slice a M.length cp, .string s] w fun e w' => (∃ b : Bool, e = .returned (.bool b) ∧ (b = true ↔ MA M s.data.toList)) ∧ Below w.heap.size w w' := by
  have N := Lib.hid (fun w => noStates_any M.length cp a hM w)
  have R := Lib.hid hr
  have HM := Lib.hid (And.intro h1 hM)
  have m0 : (0 : Int) ≤ M.length ∧ (M.length : Int) ≤ 4097 := by omega
  have s0 : (0 : Int) ≤ s.size ∧ (s.size : Int) ≤ 1099511627776 := by omega
  clear hr h1 hM hs
  obtain ⟨Z, hZ⟩ : ∃ Z : Array Value, Z = Array.replicate 256 (.pointer none) := ⟨_, rfl⟩
  have hz := zero_known
  rw [← hZ] at hz
  have HZ := Lib.hid hZ
  clear hZ
  go_enter Try.func25, Try.ntmps25
  go_wp2_with fail
  go_fit (N.out _)
  rintro e w1 ⟨b, hb9, rfl, hst, hb1⟩
  have HQ9 := Lib.hid (show ∃ q, q = (M.length + 63) / 64 from ⟨_, rfl⟩)
  obtain ⟨q, hq⟩ := HQ9.out
  have HQ := Lib.hid hq
  rw [← hq] at hst ⊢
  clear hq HQ9
  have SA := Lib.hid (stadd_any (fun _ => false) b q q 0 (w.heap.size + 1) (by have := HM.out; have := HQ.out; omega) (by have := HM.out; have := HQ.out; omega) (by simpa using hb9) w1 hst)
  have A1 := Lib.hid (And.intro hb9 hb1)
  clear hb9 hb1 hst
  go_wp2_with fail
  go_fit SA.out
  rintro e w2 ⟨rfl, h2, h3, h4⟩
  have A2 := Lib.hid (And.intro h2 (And.intro h3 h4))
  clear h2 h3 h4
  go_wp2_with fail
  have HK := Lib.hid (show w.heap.size < b by have := A1.out.1; simp at this; omega)
  have ST := Lib.hid (show KnownAt M b q w.heap.size w2 (fun _ => none) ∧ Below w.heap.size w w2 from by
    have hk0 : (w.alloc (Obj.cells Z 69)).rowIs w.heap.size 69 256 (fun _ => .pointer none) := by
      have := World.rowIs_alloc w Z 69 (fun _ => .pointer none) (fun i hi => by rw [HZ.out] at hi ⊢; simp at hi; simp [hi])
      rw [show Z.size = 256 by rw [HZ.out]; simp] at this
      exact this
    refine ⟨⟨(hk0.of_block (A1.out.2.block _ (by simp))).of_block (A2.out.2.2 _ (by have := HK.out; omega)), by have := HK.out; omega, fun c g _ h => (nomatch h)⟩, ?_⟩
    exact (((Below.refl w.heap.size w).alloc (Nat.le_refl _) _).trans (A1.out.2.mono (by simp))).trans (A2.out.2.1.mono (by omega)))
  go_loopw [15] (fun s15 wr => ∃ (k : Nat) (p : Nat → Bool) (f : Nat → Option Nat), s15 = .int .i64 (k : Int) ∧ k ≤ s.size ∧ OnM M s.data.toList k p ∧ StAt wr b q p ∧ KnownAt M b q w.heap.size wr f ∧ Below w.heap.size w wr) (fun s15 _ => s.size - (RowKit.intOf s15).toNat)
  case atStart => exact ⟨0, _, _, rfl, by omega, onM_start M _ (List.length_pos_iff.1 HM.out.1), A2.out.1, ST.out⟩
  case round =>
    obtain ⟨k, p, f, rfl, hk, hon, hst, hkn, hb⟩ := hrel
    have HR := Lib.hid (And.intro hon (And.intro hst (And.intro hkn hb)))
    by_cases hlt : k < s.size
    · have hix := index_at s k hlt
      obtain ⟨c, hc⟩ : ∃ c, c = s[k] := ⟨_, rfl⟩
      rw [← hc] at hix
      have HC := Lib.hid (show ∃ h : k < s.data.toList.length, s.data.toList[k] = c from ⟨by rw [lenB]; exact hlt, by rw [hc]; rfl⟩)
      have c9 := c.toNat_lt
      obtain ⟨n, hn⟩ : ∃ n, n = c.toNat := ⟨_, rfl⟩
      have HN := Lib.hid hn
      rw [← hn] at hix c9
      have n0 : (0 : Int) ≤ n ∧ (n : Int) < 256 := by omega
      have k0 : (0 : Int) ≤ k ∧ (k : Int) < (s.size : Int) := by omega
      have r0 := World.rowIs.cell hkn.1 c9
      have f0 := World.rowIs.frozen hkn.1 n
      have HL := Lib.hid (And.intro hlt c9)
      clear hc hn hk hon hst hkn hb hlt c9
      have hcase : Value.pointer ((f n).map fun g => (⟨g, 0, none⟩ : Addr)) = .pointer none ∧ f n = none ∨ ∃ g, Value.pointer ((f n).map fun g => (⟨g, 0, none⟩ : Addr)) = .pointer (some ⟨g, 0, none⟩) ∧ f n = some g := by
        cases hf : f n with
        | none => exact .inl ⟨rfl, rfl⟩
        | some g => exact .inr ⟨g, rfl, rfl⟩
      go_upto_if 24 with (fail)
      go_cut [] (fun wx => ∃ (g : Nat) (f : Nat → Option Nat), f n = some g ∧ StAt wx b q p ∧ KnownAt M b q w.heap.size wx f ∧ Below w.heap.size w wx)
      case first =>
        rcases hcase with ⟨e1, e2⟩ | ⟨g, e1, e2⟩
        · rw [e1] at r0
          have MB := Lib.hid (movesBy_any a cp M n HL.out.2 HM.out.1 HM.out.2 wr (R.out.below HR.out.2.2.2))
          have E2 := Lib.hid e2
          have e3 : (f n).isNone = true := by rw [e2]; rfl
          rw [e3]
          clear e1 e2 e3
          go_wp2_with fail
          go_fit MB.out
          rintro e w3 ⟨g, s', l', hg, hs', hl', rfl, ht, hss, hll, hb3⟩
          have G := Lib.hid (And.intro hg (And.intro hs' (And.intro hl' (And.intro ht (And.intro hss (And.intro hll hb3))))))
          have r1 := World.rowIs.cell (rowIs_below HR.out.2.2.1.1 hb3) HL.out.2
          have f1 := World.rowIs.frozen (rowIs_below HR.out.2.2.1.1 hb3) n
          rw [← HQ.out] at G
          clear hg hs' hl' ht hss hll hb3
          go_wp2_with fail
          go_meet
          have z1 := HR.out.2.1.lt
          have z2 := HR.out.2.2.1.1.lt
          have G' := G.out
          refine ⟨g, _, if_pos rfl, ?_, KnownAt.put (g := g) (s := s') (l := l') (HR.out.2.2.1.move (fun j _ hj => G'.2.2.2.2.2.2.block j hj)) (by omega) (by omega) (by omega) (by omega) (by omega) (by omega) G'.2.2.2.1 G'.2.2.2.2.1 G'.2.2.2.2.2.1, ?_⟩
          · exact (HR.out.2.1.of_block (G'.2.2.2.2.2.2.block _ z1)).of_block (Below.heap_setCell _ _ _ _ (by have := HK.out; show b ≠ w.heap.size; omega))
          · exact (HR.out.2.2.2.trans (G'.2.2.2.2.2.2.mono HR.out.2.2.2.size)).setCell (p := ⟨w.heap.size, n, none⟩) (Nat.le_refl _) _
        · rw [e1] at r0
          have E2 := Lib.hid e2
          have e3 : (f n).isNone = false := by rw [e2]; rfl
          rw [e3]
          clear e1 e2 e3
          go_wp2_with fail
          go_meet
          exact ⟨g, f, E2.out, HR.out.2⟩
      case rest =>
        obtain ⟨g, f2, hf, hst, hkn, hb⟩ := hcut
        obtain ⟨s', l', a1, a2, a3, a4, a5, a6, a7, a8, a9⟩ := hkn.2.2 n g HL.out.2 hf
        have r1 := World.rowIs.cell hkn.1 HL.out.2
        have r1' : wc.cell? ⟨w.heap.size, n, none⟩ = some (.pointer (some ⟨g, 0, none⟩)) := by rw [r1]; simp only [hf]; rfl
        have MV := Lib.hid (move_any p (loopN M n) (stepN M n) b g s' l' q q q q 93 (by have := HM.out; have := HQ.out; omega) a2 a3 a1 (w.heap.size) (by have := HK.out; omega) wc hst a7 a8 a9)
        have HX := Lib.hid (And.intro hkn hb)
        clear hcase r0 f0 r1 hf hst hkn hb a1 a2 a3 a4 a5 a6 a7 a8 a9
        go_wp2_with fail
        go_fit MV.out
        rintro e w4 ⟨rfl, h1, h2, h3⟩
        have G := Lib.hid (And.intro h1 (And.intro h2 h3))
        have HON := Lib.hid (show OnM M s.data.toList (k + 1) (nextB p (loopN M n) (stepN M n)) from by
          obtain ⟨h, e⟩ := HC.out
          have := onM_next h HR.out.1
          rw [e, ← HN.out] at this
          exact this)
        clear h1 h2 h3
        by_cases hz0 : anyW (nextB p (loopN M n) (stepN M n)) q = 0
        · have HF := Lib.hid (show ¬ MA M s.data.toList from onM_none HON.out (fun j hj => anyW_zero _ q hz0 j (by have := HQ.out; omega)))
          have hd : decide (anyW (nextB p (loopN M n) (stepN M n)) q ≠ 0) = false := decide_eq_false (fun h => h hz0)
          rw [hd]
          clear hz0 hd
          go_wp2_with fail
          go_ret
          exact ⟨⟨false, rfl, fun h => (nomatch h), fun h => absurd h HF.out⟩, HX.out.2.trans G.out.2.1⟩
        · have hd : decide (anyW (nextB p (loopN M n) (stepN M n)) q ≠ 0) = true := decide_eq_true hz0
          rw [hd]
          clear hz0 hd
          go_wp2_with fail
          go_roundw
          case rel => exact ⟨k + 1, _, f2, by go_num, HL.out.1, HON.out, G.out.1, HX.out.1.move (fun j hj _ => G.out.2.2 j hj), HX.out.2.trans G.out.2.1⟩
          case measure => have := HL.out.1; simp [RowKit.intOf]; omega
    · obtain rfl : k = s.size := by omega
      have e9 : ((M.length - 1 : Nat) : Int) = (M.length : Int) - 1 := by have := HM.out; omega
      have SH := Lib.hid (sthas_any p b q q (M.length - 1) (by have := HM.out; have := HQ.out; omega) (by have := HM.out; have := HQ.out; omega) wr hst)
      rw [e9] at SH
      have HV := Lib.hid (show MA M s.data.toList ↔ p (M.length - 1) = true from onM_end (List.length_pos_iff.1 HM.out.1) (by have := HR.out.1; rw [← lenB] at this; exact this))
      clear e9 hlt hon hst hkn hb hk
      go_wp2_with fail
      go_fit SH.out
      rintro e w3 ⟨rfl, rfl⟩
      go_wp2_with fail
      go_ret
      exact ⟨⟨_, rfl, HV.out.symm⟩, HR.out.2.2.2⟩
end Go.Proofs.Ytaalfnfikjmomaa
