/- Contract of the program's union (sets of bytes). -/
import Derived.Test.YtaalfnfikjmomaaGlbQ
import Derived.LoopTactic
namespace Go.Proofs.Ytaalfnfikjmomaa
open Go.RowKit Go.Lib

/-- One set with the first words of another. -/
def mix (f g : Nat → Bool) (i : Nat) : Nat → Bool := fun c => f c || (decide (c < 64 * i) && g c)
theorem mix_word (f g : Nat → Bool) (i k : Nat) (h : k ≠ i) : wordK (mix f g (i + 1)) k = wordK (mix f g i) k := by
  symm
  apply word_eq (wordK_lt _ k)
  intro j hj
  rw [testBit_wordK _ k j hj, mix, mix]
  congr 2
  exact decide_eq_decide.2 (by omega)
theorem mix_or (f g : Nat → Bool) (i : Nat) : wordK (mix f g i) i ||| wordK g i = wordK (mix f g (i + 1)) i := by
  apply word_eq (Nat.or_lt_two_pow (n := 64) (wordK_lt _ i) (wordK_lt _ i))
  intro j hj
  rw [Nat.testBit_or, testBit_wordK _ i j hj, testBit_wordK _ i j hj, mix, mix, decide_eq_true (by omega : 64 * i + j < 64 * (i + 1)), decide_eq_false (by omega : ¬ 64 * i + j < 64 * i)]
  simp
theorem mix_cells (f g : Nat → Bool) (i : Nat) (hi : i < 4) : (setC (mix f g i)).toArray.setIfInBounds i (.int .u64 (wordK (mix f g (i + 1)) i : Nat)) = (setC (mix f g (i + 1))).toArray := by
  have h0 : ∀ k, k ≠ i → wordK (mix f g (i + 1)) k = wordK (mix f g i) k := fun k h => mix_word f g i k h
  rcases (show i = 0 ∨ i = 1 ∨ i = 2 ∨ i = 3 by omega) with rfl | rfl | rfl | rfl
  all_goals
    simp only [setC]
    simp (discharger := omega) [h0]
theorem setC_congr {f g : Nat → Bool} (h : ∀ c, c < 256 → f c = g c) : setC f = setC g := by
  have : ∀ k, k < 4 → wordK f k = wordK g k := fun k hk => word_eq (wordK_lt f k) (fun j hj => by rw [testBit_wordK f k j hj]; exact h _ (by omega))
  unfold setC
  rw [this 0 (by omega), this 1 (by omega), this 2 (by omega), this 3 (by omega)]
theorem mix_zero (f g : Nat → Bool) : mix f g 0 = f := by
  funext c
  simp [mix]
theorem mix_four (f g : Nat → Bool) : setC (mix f g 4) = setC (fun c => f c || g c) := setC_congr (fun c hc => by rw [mix, decide_eq_true (by omega : c < 64 * 4)]; rfl)
theorem setC_cell (f : Nat → Bool) (k : Nat) (hk : k < 4) : (setC f).toArray[k]? = some (.int .u64 (wordK f k : Nat)) := by
  have := setC_at f [] k hk
  rwa [List.append_nil] at this
theorem BlkAt.setOther {w : World} {b : Nat} {t : TypeId} {cs : Array Value} (h : BlkAt w b t cs) {a : Addr} (hab : b ≠ a.block) (u : Value) : BlkAt (w.setCell a u) b t cs := h.of_block (Below.heap_setCell _ _ _ _ hab)
set_option maxHeartbeats 2000000 in
theorem union_any (f g : Nat → Bool) (w : World) :
    Calls Try.prog 33 #[setV f, setV g] w fun e w' => e = .returned (setV (fun c => f c || g c)) ∧ Below w.heap.size w w' := by
  obtain ⟨w3, hw3⟩ : ∃ w3, w3 = ((w.alloc (.cells (setC f).toArray 48)).alloc (.cells (setC g).toArray 48)).alloc (.cells #[.int .u64 0, .int .u64 0, .int .u64 0, .int .u64 0] 48) := ⟨_, rfl⟩
  have hB : Below w.heap.size w w3 := by rw [hw3]; exact (((Below.refl w.heap.size w).alloc (Nat.le_refl _) _).alloc (by simp) _).alloc (by simp; omega) _
  have a1 := BlkAt.new w 48 (setC f).toArray
  have a2 := BlkAt.new (w.alloc (.cells (setC f).toArray 48)) 48 (setC g).toArray
  have a3 := BlkAt.new ((w.alloc (.cells (setC f).toArray 48)).alloc (.cells (setC g).toArray 48)) 48 #[.int .u64 0, .int .u64 0, .int .u64 0, .int .u64 0]
  have b1 := (a1.below ((Below.refl _ _).alloc (Nat.le_refl _) (.cells (setC g).toArray 48)))
  have b1' := (b1.below ((Below.refl _ _).alloc (Nat.le_refl _) (.cells #[.int .u64 0, .int .u64 0, .int .u64 0, .int .u64 0] 48)))
  have b2 := (a2.below ((Below.refl _ _).alloc (Nat.le_refl _) (.cells #[.int .u64 0, .int .u64 0, .int .u64 0, .int .u64 0] 48)))
  rw [← hw3] at b1' b2 a3
  simp only [World.size_alloc] at b2 a3
  have ST := Lib.hid (And.intro b1' (And.intro b2 (And.intro a3 hB)))
  have HW := Lib.hid hw3
  clear a1 a2 a3 b1 b1' b2 hB
  unfold setC at hw3
  unfold setV
  go_enter Try.func33, Try.ntmps33
  go_wp2_with fail
  rw [← hw3]
  clear hw3 HW
  go_loopw [6] (fun s6 wr => ∃ i : Nat, s6 = .int .i64 (i : Int) ∧ i ≤ 4 ∧ BlkAt wr w.heap.size 48 (setC (mix f g i)).toArray ∧ BlkAt wr (w.heap.size + 1) 48 (setC g).toArray ∧ BlkAt wr (w.heap.size + 1 + 1) 48 #[.int .u64 0, .int .u64 0, .int .u64 0, .int .u64 0] ∧ Below w.heap.size w wr) (fun s6 _ => 4 - (RowKit.intOf s6).toNat)
  case atStart => exact ⟨0, rfl, by omega, by rw [mix_zero]; exact ST.out.1, ST.out.2.1, ST.out.2.2.1, ST.out.2.2.2⟩
  case round =>
    obtain ⟨i, rfl, hi, hs, ho, hr, hb⟩ := hrel
    have S := Lib.hid (And.intro hs (And.intro ho (And.intro hr hb)))
    by_cases hlt : i < 4
    · have i0 : (0 : Int) ≤ i ∧ (i : Int) < 4 := by omega
      have HI := Lib.hid hlt
      have s0 := hs.cell (setC_cell _ i hlt)
      have s1 := hs.frozen i
      have o0 := ho.cell (setC_cell _ i hlt)
      have OR := Lib.hid (show bits .or .u64 (wordK (mix f g i) i : Int) (wordK g i : Int) = (wordK (mix f g (i + 1)) i : Nat) by rw [bits_or_u64_nat _ _ (wordK_lt _ _) (wordK_lt _ _), mix_or])
      generalize wordK (mix f g i) i = x at s0 OR
      generalize wordK g i = y at o0 OR
      clear hs ho hr hb hlt hi
      go_wp2_with fail
      go_region
      go_wp2_with fail
      refine ⟨⟨i + 1, by go_num, HI.out, ?_, ?_, ?_, ?_⟩, ?_⟩
      · rw [← mix_cells f g i HI.out, ← OR.out]
        exact (S.out.1.set i _).drew
      · exact (S.out.2.1.setOther (a := ⟨w.heap.size, i, none⟩) (by show w.heap.size + 1 ≠ w.heap.size; omega) _).drew
      · exact (S.out.2.2.1.setOther (a := ⟨w.heap.size, i, none⟩) (by show w.heap.size + 1 + 1 ≠ w.heap.size; omega) _).drew
      · exact (S.out.2.2.2.setCell (p := ⟨w.heap.size, i, none⟩) (Nat.le_refl _) _).drew
      · have := HI.out; simp [RowKit.intOf]; omega
    · obtain rfl : i = 4 := by omega
      have hm := mix_four f g
      obtain ⟨k0, k1, k2, k3, hk⟩ := setC_words (fun c => f c || g c)
      have HK := Lib.hid (show (.agg #[.int .u64 (k0 : Nat), .int .u64 (k1 : Nat), .int .u64 (k2 : Nat), .int .u64 (k3 : Nat)] : Value) = setV (fun c => f c || g c) by rw [setV_set, hk])
      rw [hm, hk] at hs
      have c0 := hr.cell (k := 0) rfl
      have f0 := hr.frozen 0
      have c1 := hr.cell (k := 1) rfl
      have f1 := hr.frozen 1
      have c2 := hr.cell (k := 2) rfl
      have f2 := hr.frozen 2
      have c3 := hr.cell (k := 3) rfl
      have f3 := hr.frozen 3
      have s0 := hs.cell (k := 0) (v := .int .u64 (k0 : Nat)) rfl
      have s1 := hs.cell (k := 1) (v := .int .u64 (k1 : Nat)) rfl
      have s2 := hs.cell (k := 2) (v := .int .u64 (k2 : Nat)) rfl
      have s3 := hs.cell (k := 3) (v := .int .u64 (k3 : Nat)) rfl
      clear hs ho hr hb hi hlt hm hk
      go_wp2_with fail
      refine bodyPost_ret (v := .agg #[.int .u64 (k0 : Nat), .int .u64 (k1 : Nat), .int .u64 (k2 : Nat), .int .u64 (k3 : Nat)]) (by simp [results, Try.results33, go_sem, c0, c1, c2, c3]) rfl ⟨by rw [HK.out]; rfl, ?_⟩
      exact (((S.out.2.2.2.setCell (p := ⟨w.heap.size + 1 + 1, 0, none⟩) (by show w.heap.size ≤ w.heap.size + 1 + 1; omega) _).setCell (p := ⟨w.heap.size + 1 + 1, 1, none⟩) (by show w.heap.size ≤ w.heap.size + 1 + 1; omega) _).setCell (p := ⟨w.heap.size + 1 + 1, 2, none⟩) (by show w.heap.size ≤ w.heap.size + 1 + 1; omega) _).setCell (p := ⟨w.heap.size + 1 + 1, 3, none⟩) (by show w.heap.size ≤ w.heap.size + 1 + 1; omega) _
end Go.Proofs.Ytaalfnfikjmomaa
