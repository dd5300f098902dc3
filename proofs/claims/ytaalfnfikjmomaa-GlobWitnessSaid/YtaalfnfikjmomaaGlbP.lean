/- Sets of bytes (four words of 64 bits): what the program's operations on them do. -/
import Derived.Test.YtaalfnfikjmomaaRows
import Derived.WalkKit
import Derived.WalkSpells
import Derived.WalkLawsBesides
import Derived.Laws.Bits64
import Derived.Laws.Bits64b
import Derived.Laws.Shifts
import Derived.Lib.EndianBits
import Derived.Lib.Hide
import Derived.Deep.DeepFit
import Derived.Outline
import Derived.BigQuiet
import Derived.Deep.OwnRows
import Derived.Deep.RegionWith
import Derived.Deep.QuietTactic
namespace Go.Proofs.Ytaalfnfikjmomaa
open Go.RowKit Go.Lib

def wordF (f : Nat → Bool) : Nat → Nat
  | 0 => 0
  | n + 1 => wordF f n + if f n then 2 ^ n else 0
theorem wordF_lt (f : Nat → Bool) : ∀ n, wordF f n < 2 ^ n
  | 0 => by simp [wordF]
  | n + 1 => by
    have := wordF_lt f n
    rw [wordF, Nat.pow_succ]
    split <;> omega
theorem testBit_wordF (f : Nat → Bool) (j : Nat) : ∀ n, (wordF f n).testBit j = (decide (j < n) && f j)
  | 0 => by simp [wordF]
  | n + 1 => by
    have h := testBit_wordF f j n
    have hl := wordF_lt f n
    rw [wordF]
    by_cases hf : f n = true
    · rw [if_pos hf, show wordF f n + 2 ^ n = 2 ^ n * 1 ||| wordF f n by rw [← Nat.two_pow_add_eq_or_of_lt hl]; omega, Nat.testBit_or, h, Nat.mul_one, Nat.testBit_two_pow]
      by_cases e : n = j
      · subst e; simp [hf]
      · have : j < n + 1 ↔ j < n := by omega
        simp [this, e]
    · rw [if_neg hf, Nat.add_zero, h]
      by_cases e : j = n
      · subst e; simp [hf]
      · have : j < n + 1 ↔ j < n := by omega
        simp [this]
/-- The word k of a set. -/
def wordK (f : Nat → Bool) (k : Nat) : Nat := wordF (fun j => f (64 * k + j)) 64
def setV (f : Nat → Bool) : Value := .agg #[.int .u64 (wordK f 0 : Nat), .int .u64 (wordK f 1 : Nat), .int .u64 (wordK f 2 : Nat), .int .u64 (wordK f 3 : Nat)]
theorem shl_nat (r : Nat) (hr : r < 64) : IntKind.u64.wrap (2 ^ r) = ((2 ^ r : Nat) : Int) := by
  have h2 : (2 : Nat) ^ r < 18446744073709551616 := Nat.pow_lt_pow_right (m := r) (n := 64) (by omega) hr
  have h3 : (2 : Int) ^ r = ((2 ^ r : Nat) : Int) := by rw [Int.natCast_pow]; rfl
  rw [IntKind.wrap_u64, h3]
  generalize (2 : Nat) ^ r = v at h2 ⊢
  omega
theorem and1_nat (v : Nat) (hv : v < 18446744073709551616) : bits .and .u64 (v : Int) 1 = ((v % 2 : Nat) : Int) := by
  have h := bits_and_u64_nat v 1 hv (by omega)
  rw [Nat.and_one_is_mod] at h
  exact h
/-- What a test of one bit does. -/
theorem has_word (a r : Nat) (ha : a < 18446744073709551616) : (bits .and .u64 ((a : Int) / 2 ^ r) 1 == 1) = a.testBit r := by
  have h3 : (2 : Int) ^ r = ((2 ^ r : Nat) : Int) := by rw [Int.natCast_pow]; rfl
  rw [h3, ← Int.natCast_ediv, and1_nat _ (Nat.lt_of_le_of_lt (Nat.div_le_self _ _) ha), Nat.testBit_eq_decide_div_mod_eq]
  generalize a / 2 ^ r = v
  by_cases e : v % 2 = 1
  · simp [e]
  · have : v % 2 = 0 := by omega
    simp [this]
set_option maxHeartbeats 1000000 in
theorem has_words (a0 a1 a2 a3 : Nat) (c r : Nat) (hc : c < 256) (hr : r < 64) (hcr : c % 64 = r) (h0 : a0 < 18446744073709551616) (h1 : a1 < 18446744073709551616) (h2 : a2 < 18446744073709551616) (h3 : a3 < 18446744073709551616) (w : World) :
    Calls Try.prog 51 #[.agg #[.int .u64 a0, .int .u64 a1, .int .u64 a2, .int .u64 a3], .int .u8 c] w fun e w' => e = .returned (.bool (((if c / 64 = 0 then a0 else if c / 64 = 1 then a1 else if c / 64 = 2 then a2 else a3)).testBit r)) ∧ Below w.heap.size w w' := by
  have c0 : (0 : Int) ≤ c ∧ (c : Int) < 256 := by omega
  have r0 : (0 : Int) ≤ r ∧ (r : Int) < 64 := by omega
  have e0 : (c : Int).tmod 64 = r := by rw [Int.tmod_eq_emod_of_nonneg (by omega)]; omega
  obtain ⟨x, hx⟩ : ∃ x, x = (if c / 64 = 0 then a0 else if c / 64 = 1 then a1 else if c / 64 = 2 then a2 else a3) := ⟨_, rfl⟩
  have hx9 : x < 18446744073709551616 := by rw [hx]; repeat (first | assumption | split)
  rw [← hx]
  have K := Lib.hid (has_word x r hx9)
  have HX := Lib.hid hx
  have hq : c / 64 = 0 ∨ c / 64 = 1 ∨ c / 64 = 2 ∨ c / 64 = 3 := by omega
  have B := Lib.hid ((Below.refl w.heap.size w).alloc (Nat.le_refl _) (Obj.cells #[.int .u64 (a0 : Nat), .int .u64 (a1 : Nat), .int .u64 (a2 : Nat), .int .u64 (a3 : Nat)] 48))
  clear h0 h1 h2 h3 hx9 hcr hx
  rcases hq with hq | hq | hq | hq
  all_goals
    have d0 : (c : Int) / 64 = ((c / 64 : Nat) : Int) := by omega
    rw [hq] at d0
    have hx := HX.out
    simp only [hq] at hx
    simp at hx
    subst hx
    clear hq HX
    go_enter Try.func51, Try.ntmps51
    go_wp2_with fail
    go_ret
    exact ⟨by rw [K.out]; rfl, B.out⟩
theorem wordK_lt (f : Nat → Bool) (k : Nat) : wordK f k < 18446744073709551616 := wordF_lt _ 64
theorem testBit_wordK (f : Nat → Bool) (k j : Nat) (hj : j < 64) : (wordK f k).testBit j = f (64 * k + j) := by
  unfold wordK
  rw [testBit_wordF]
  simp [hj]
theorem has_any (f : Nat → Bool) (c : Nat) (hc : c < 256) (w : World) :
    Calls Try.prog 51 #[setV f, .int .u8 c] w fun e w' => e = .returned (.bool (f c)) ∧ Below w.heap.size w w' := by
  have h := has_words (wordK f 0) (wordK f 1) (wordK f 2) (wordK f 3) c (c % 64) hc (Nat.mod_lt _ (by omega)) rfl (wordK_lt _ _) (wordK_lt _ _) (wordK_lt _ _) (wordK_lt _ _) w
  have e : (if c / 64 = 0 then wordK f 0 else if c / 64 = 1 then wordK f 1 else if c / 64 = 2 then wordK f 2 else wordK f 3) = wordK f (c / 64) := by
    rcases (show c / 64 = 0 ∨ c / 64 = 1 ∨ c / 64 = 2 ∨ c / 64 = 3 by omega) with h | h | h | h <;> rw [h] <;> rfl
  rw [e, testBit_wordK _ _ _ (Nat.mod_lt _ (by omega)), Nat.div_add_mod] at h
  exact h
/-- A block and its cells. -/
structure BlkAt (w : World) (b : Nat) (t : TypeId) (cs : Array Value) : Prop where
  blk : w.heap[b]? = some (.cells cs t (0, 0))
theorem BlkAt.lt {w : World} {b : Nat} {t : TypeId} {cs : Array Value} (h : BlkAt w b t cs) : b < w.heap.size := (Array.getElem?_eq_some_iff.1 h.blk).1
theorem BlkAt.cell {w : World} {b k : Nat} {t : TypeId} {cs : Array Value} {v : Value} (h : BlkAt w b t cs) (hk : cs[k]? = some v) : w.cell? ⟨b, k, none⟩ = some v := by
  have h := h.blk
  simp [World.cell?, h, hk]
theorem BlkAt.frozen {w : World} {b : Nat} {t : TypeId} {cs : Array Value} (h : BlkAt w b t cs) (k : Nat) : w.frozen? ⟨b, k, none⟩ = false := by
  have h := h.blk
  simp [World.frozen?, h]
theorem BlkAt.of_block {w w' : World} {b : Nat} {t : TypeId} {cs : Array Value} (h : BlkAt w b t cs) (e : w'.heap[b]? = w.heap[b]?) : BlkAt w' b t cs := ⟨e.trans h.blk⟩
theorem BlkAt.below {w w' : World} {b : Nat} {t : TypeId} {cs : Array Value} (h : BlkAt w b t cs) (hb : Below w.heap.size w w') : BlkAt w' b t cs := h.of_block (hb.block b h.lt)
theorem BlkAt.drew {w : World} {b : Nat} {t : TypeId} {cs : Array Value} (h : BlkAt w b t cs) : BlkAt w.drew b t cs := ⟨h.blk⟩
theorem BlkAt.new (w : World) (t : TypeId) (cs : Array Value) : BlkAt (w.alloc (.cells cs t)) w.heap.size t cs := ⟨heap_alloc_new w _⟩
theorem BlkAt.set {w : World} {b : Nat} {t : TypeId} {cs : Array Value} (h : BlkAt w b t cs) (k : Nat) (u : Value) : BlkAt (w.setCell ⟨b, k, none⟩ u) b t (cs.setIfInBounds k u) := by
  have h := h.blk
  constructor
  simp [World.setCell, Array.getElem?_modify, h]
theorem or_word (a r : Nat) (ha : a < 18446744073709551616) (hr : r < 64) : bits .or .u64 (a : Int) (IntKind.u64.wrap (2 ^ r)) = ((a ||| 2 ^ r : Nat) : Int) := by
  rw [shl_nat r hr]
  exact bits_or_u64_nat a (2 ^ r) ha (Nat.pow_lt_pow_right (m := r) (n := 64) (by omega) hr)
set_option maxHeartbeats 1000000 in
theorem add_at (b n c r q a : Nat) (t : TypeId) (cs : Array Value) (hn : n ≤ b) (hc : c < 256) (hcr : c % 64 = r) (hcq : c / 64 = q) (ha : a < 18446744073709551616) (w : World) (h : BlkAt w b t cs) (hq : cs[q]? = some (.int .u64 (a : Nat))) :
    Calls Try.prog 56 #[.pointer (some ⟨b, 0, none⟩), .int .u8 c] w fun e w' => e = .returned (.tuple #[]) ∧ BlkAt w' b t (cs.setIfInBounds q (.int .u64 ((a ||| 2 ^ r : Nat) : Int))) ∧ Below n w w' := by
  have c0 : (0 : Int) ≤ c ∧ (c : Int) < 256 := by omega
  have r0 : (0 : Int) ≤ r ∧ (r : Int) < 64 := by omega
  have q0 : (0 : Int) ≤ q ∧ (q : Int) < 4 := by omega
  have e0 : (c : Int).tmod 64 = r := by rw [Int.tmod_eq_emod_of_nonneg (by omega)]; omega
  have d0 : (c : Int) / 64 = q := by omega
  have v0 := h.cell hq
  have v1 := h.frozen q
  have OW := Lib.hid (or_word a r ha (by omega))
  have HB := Lib.hid (And.intro h hn)
  have hnb : (n : Int) ≤ b := by omega
  clear hcr hcq ha hq h hn hc
  go_enter Try.func56, Try.ntmps56
  go_wp2_with fail
  go_region
  go_wp2_with fail
  go_end0
  refine ⟨rfl, ?_, ?_⟩
  · rw [← OW.out]
    exact (HB.out.1.set q _).drew
  · exact ((Below.refl n w).setCell (p := ⟨b, q, none⟩) HB.out.2 _).drew
theorem andNot_word (a r : Nat) (hr : r < 64) : ∃ m : Nat, bits .andNot .u64 (a : Int) (IntKind.u64.wrap (2 ^ r)) = (m : Int) ∧ m < 18446744073709551616 ∧ ∀ i, i < 64 → m.testBit i = (a.testBit i && decide (i ≠ r)) := by
  rw [shl_nat r hr]
  have h2 : (2 : Nat) ^ r < 18446744073709551616 := Nat.pow_lt_pow_right (m := r) (n := 64) (by omega) hr
  refine ⟨(BitVec.ofNat 64 a &&& ~~~ BitVec.ofNat 64 (2 ^ r)).toNat, ?_, ?_, fun i hi => ?_⟩
  · show IntKind.u64.wrap ((BitVec.ofInt 64 (a : Int) &&& ~~~ BitVec.ofInt 64 ((2 ^ r : Nat) : Int)).toNat : Int) = _
    rw [BitVec.ofInt_natCast, BitVec.ofInt_natCast, IntKind.wrap_u64]
    have := (BitVec.ofNat 64 a &&& ~~~ BitVec.ofNat 64 (2 ^ r)).isLt
    generalize (BitVec.ofNat 64 a &&& ~~~ BitVec.ofNat 64 (2 ^ r)).toNat = v at this ⊢
    omega
  · exact (BitVec.ofNat 64 a &&& ~~~ BitVec.ofNat 64 (2 ^ r)).isLt
  · rw [← BitVec.getLsbD, BitVec.getLsbD_and, BitVec.getLsbD_not, BitVec.getLsbD_ofNat, BitVec.getLsbD_ofNat, Nat.testBit_two_pow]
    by_cases e : r = i
    · subst e; simp [hi]
    · simp [hi, e, Ne.symm e]
set_option maxHeartbeats 1000000 in
theorem remove_at (b n c r q a m : Nat) (t : TypeId) (cs : Array Value) (hn : n ≤ b) (hc : c < 256) (hcr : c % 64 = r) (hcq : c / 64 = q) (hm : bits .andNot .u64 (a : Int) (IntKind.u64.wrap (2 ^ r)) = (m : Int)) (w : World) (h : BlkAt w b t cs) (hq : cs[q]? = some (.int .u64 (a : Nat))) :
    Calls Try.prog 54 #[.pointer (some ⟨b, 0, none⟩), .int .u8 c] w fun e w' => e = .returned (.tuple #[]) ∧ BlkAt w' b t (cs.setIfInBounds q (.int .u64 (m : Int))) ∧ Below n w w' := by
  have c0 : (0 : Int) ≤ c ∧ (c : Int) < 256 := by omega
  have r0 : (0 : Int) ≤ r ∧ (r : Int) < 64 := by omega
  have q0 : (0 : Int) ≤ q ∧ (q : Int) < 4 := by omega
  have e0 : (c : Int).tmod 64 = r := by rw [Int.tmod_eq_emod_of_nonneg (by omega)]; omega
  have d0 : (c : Int) / 64 = q := by omega
  have v0 := h.cell hq
  have v1 := h.frozen q
  have OW := Lib.hid hm
  have HB := Lib.hid (And.intro h hn)
  have hnb : (n : Int) ≤ b := by omega
  clear hcr hcq hm hq h hn hc
  go_enter Try.func54, Try.ntmps54
  go_wp2_with fail
  go_region
  go_wp2_with fail
  go_end0
  refine ⟨rfl, ?_, ?_⟩
  · rw [← OW.out]
    exact (HB.out.1.set q _).drew
  · exact ((Below.refl n w).setCell (p := ⟨b, q, none⟩) HB.out.2 _).drew

/-- A set with one byte put in or taken out. -/
def upd (f : Nat → Bool) (c : Nat) (v : Bool) : Nat → Bool := fun i => if i = c then v else f i
def setC (f : Nat → Bool) : List Value := [.int .u64 (wordK f 0 : Nat), .int .u64 (wordK f 1 : Nat), .int .u64 (wordK f 2 : Nat), .int .u64 (wordK f 3 : Nat)]
theorem word_eq {f : Nat → Bool} {k m : Nat} (hm : m < 18446744073709551616) (h : ∀ j, j < 64 → m.testBit j = f (64 * k + j)) : m = wordK f k := by
  apply Nat.eq_of_testBit_eq
  intro j
  by_cases hj : j < 64
  · rw [h j hj, testBit_wordK f k j hj]
  · have h1 : m < 2 ^ j := Nat.lt_of_lt_of_le hm (Nat.pow_le_pow_right (n := 2) (i := 64) (by omega) (by omega))
    have h2 : wordK f k < 2 ^ j := Nat.lt_of_lt_of_le (wordK_lt f k) (Nat.pow_le_pow_right (n := 2) (i := 64) (by omega) (by omega))
    rw [Nat.testBit_lt_two_pow h1, Nat.testBit_lt_two_pow h2]
theorem upd_word {f : Nat → Bool} {c k : Nat} {v : Bool} (h : c / 64 ≠ k) : wordK (upd f c v) k = wordK f k := by
  symm
  apply word_eq (wordK_lt f k)
  intro j hj
  rw [testBit_wordK f k j hj, upd, if_neg (by omega)]
theorem upd_cells (f : Nat → Bool) (c : Nat) (hc : c < 256) (v : Bool) (rest : List Value) (m : Nat) (hm : m = wordK (upd f c v) (c / 64)) :
    (setC f ++ rest).toArray.setIfInBounds (c / 64) (.int .u64 (m : Int)) = (setC (upd f c v) ++ rest).toArray := by
  subst hm
  have h0 : ∀ k, c / 64 ≠ k → wordK (upd f c v) k = wordK f k := fun k h => upd_word h
  rcases (show c / 64 = 0 ∨ c / 64 = 1 ∨ c / 64 = 2 ∨ c / 64 = 3 by omega) with h | h | h | h
  all_goals
    rw [h] at h0 ⊢
    simp only [setC]
    simp (discharger := omega) [h0]
theorem setC_at (f : Nat → Bool) (rest : List Value) (k : Nat) (hk : k < 4) : (setC f ++ rest).toArray[k]? = some (.int .u64 (wordK f k : Nat)) := by
  rcases (show k = 0 ∨ k = 1 ∨ k = 2 ∨ k = 3 by omega) with rfl | rfl | rfl | rfl <;> simp [setC]
theorem add_set (f : Nat → Bool) (b n c : Nat) (t : TypeId) (rest : List Value) (hn : n ≤ b) (hc : c < 256) (w : World) (h : BlkAt w b t (setC f ++ rest).toArray) :
    Calls Try.prog 56 #[.pointer (some ⟨b, 0, none⟩), .int .u8 c] w fun e w' => e = .returned (.tuple #[]) ∧ BlkAt w' b t (setC (upd f c true) ++ rest).toArray ∧ Below n w w' := by
  have hr : c % 64 < 64 := Nat.mod_lt _ (by omega)
  have K := add_at b n c (c % 64) (c / 64) (wordK f (c / 64)) t _ hn hc rfl rfl (wordK_lt _ _) w h (setC_at f rest _ (by omega))
  rw [upd_cells f c hc true rest _ ?_] at K
  · exact K
  · apply word_eq (Nat.or_lt_two_pow (n := 64) (wordK_lt f _) (Nat.pow_lt_pow_right (m := c % 64) (n := 64) (by omega) hr))
    intro j hj
    rw [Nat.testBit_or, testBit_wordK f _ j hj, Nat.testBit_two_pow, upd]
    by_cases e : c % 64 = j
    · rw [if_pos (by omega)]; simp [e]
    · rw [if_neg (by omega)]; simp [e]
theorem remove_set (f : Nat → Bool) (b n c : Nat) (t : TypeId) (rest : List Value) (hn : n ≤ b) (hc : c < 256) (w : World) (h : BlkAt w b t (setC f ++ rest).toArray) :
    Calls Try.prog 54 #[.pointer (some ⟨b, 0, none⟩), .int .u8 c] w fun e w' => e = .returned (.tuple #[]) ∧ BlkAt w' b t (setC (upd f c false) ++ rest).toArray ∧ Below n w w' := by
  have hr : c % 64 < 64 := Nat.mod_lt _ (by omega)
  obtain ⟨m, h1, h2, h3⟩ := andNot_word (wordK f (c / 64)) (c % 64) hr
  have K := remove_at b n c (c % 64) (c / 64) (wordK f (c / 64)) m t _ hn hc rfl rfl h1 w h (setC_at f rest _ (by omega))
  rw [upd_cells f c hc false rest _ ?_] at K
  · exact K
  · apply word_eq h2
    intro j hj
    rw [h3 j hj, testBit_wordK f _ j hj, upd]
    by_cases e : c % 64 = j
    · rw [if_pos (by omega)]; simp [e]
    · rw [if_neg (by omega)]; simp [Ne.symm e]
end Go.Proofs.Ytaalfnfikjmomaa
