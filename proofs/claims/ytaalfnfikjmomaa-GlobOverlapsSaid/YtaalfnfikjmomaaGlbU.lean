/- Contracts of the program's sets of states: noStates, add and has (glob). -/
import Derived.Test.YtaalfnfikjmomaaGlbT
import Derived.Deep.OwnRows
namespace Go.Proofs.Ytaalfnfikjmomaa
open Go.RowKit Go.Lib

/-- A row of words that holds a set of states. -/
def StAt (w : World) (b n : Nat) (p : Nat → Bool) : Prop := w.rowIs b 46 n (fun k => .int .u64 (wordK p k : Nat))
set_option maxHeartbeats 1000000 in
theorem sthas_any (p : Nat → Bool) (b n c i : Nat) (hi : i < 64 * n) (hn : n ≤ 4096) (w : World) (h : StAt w b n p) :
    Calls Try.prog 38 #[.slice (some ⟨b, 0, none⟩) n c, .int .i64 i] w fun e w' => e = .returned (.bool (p i)) ∧ w = w' := by
  obtain ⟨q, hq⟩ : ∃ q, q = i / 64 := ⟨_, rfl⟩
  obtain ⟨r, hr⟩ : ∃ r, r = i % 64 := ⟨_, rfl⟩
  have hr64 : r < 64 := by rw [hr]; exact Nat.mod_lt _ (by omega)
  have hql : q < n := by omega
  have i0 : (0 : Int) ≤ i ∧ (i : Int) ≤ 262144 := by omega
  have q0 : (0 : Int) ≤ q ∧ (q : Int) < (n : Int) := by omega
  have r0 : (0 : Int) ≤ r ∧ (r : Int) < 64 := by omega
  have n0 : (n : Int) ≤ 4096 := by omega
  have d0 : (i : Int) / 64 = q := by omega
  have d1 : (i : Int).tdiv 64 = q := by rw [Int.tdiv_eq_ediv_of_nonneg (by omega)]; omega
  have e0 : (i : Int).tmod 64 = r := by rw [Int.tmod_eq_emod_of_nonneg (by omega)]; omega
  have c0 := World.rowIs.cell h hql
  have K := Lib.hid (show (bits .and .u64 ((wordK p q : Nat) / 2 ^ r : Int) 1 == 1) = p i by rw [has_word _ r (wordK_lt p q), testBit_wordK p q r hr64]; congr 1; omega)
  generalize wordK p q = a at c0 K
  clear hq hr hr64 hql hi hn h
  go_enter Try.func38, Try.ntmps38
  go_wp2_with fail
  go_ret
  exact ⟨by rw [← K.out]; rfl, rfl⟩
set_option maxHeartbeats 1000000 in
theorem stadd_any (p : Nat → Bool) (b n c i N : Nat) (hi : i < 64 * n) (hn : n ≤ 4096) (hN : N ≤ b) (w : World) (h : StAt w b n p) :
    Calls Try.prog 35 #[.slice (some ⟨b, 0, none⟩) n c, .int .i64 i] w fun e w' => e = .returned (.tuple #[]) ∧ StAt w' b n (upd p i true) ∧ Below N w w' ∧ ∀ k, k ≠ b → w'.heap[k]? = w.heap[k]? := by
  obtain ⟨q, hq⟩ : ∃ q, q = i / 64 := ⟨_, rfl⟩
  obtain ⟨r, hr⟩ : ∃ r, r = i % 64 := ⟨_, rfl⟩
  have hr64 : r < 64 := by rw [hr]; exact Nat.mod_lt _ (by omega)
  have hql : q < n := by omega
  have i0 : (0 : Int) ≤ i ∧ (i : Int) ≤ 262144 := by omega
  have q0 : (0 : Int) ≤ q ∧ (q : Int) < (n : Int) := by omega
  have r0 : (0 : Int) ≤ r ∧ (r : Int) < 64 := by omega
  have n0 : (n : Int) ≤ 4096 := by omega
  have d0 : (i : Int) / 64 = q := by omega
  have d1 : (i : Int).tdiv 64 = q := by rw [Int.tdiv_eq_ediv_of_nonneg (by omega)]; omega
  have e0 : (i : Int).tmod 64 = r := by rw [Int.tmod_eq_emod_of_nonneg (by omega)]; omega
  have c0 := World.rowIs.cell h hql
  have f0 := World.rowIs.frozen h q
  have hw : wordK p q ||| 2 ^ r = wordK (upd p i true) q := by
    apply word_eq (Nat.or_lt_two_pow (n := 64) (wordK_lt p q) (Nat.pow_lt_pow_right (m := r) (n := 64) (by omega) hr64))
    intro j hj
    rw [Nat.testBit_or, testBit_wordK p _ j hj, Nat.testBit_two_pow, upd]
    by_cases e : r = j
    · rw [if_pos (by omega)]; simp [e]
    · rw [if_neg (by omega)]; simp [e]
  have OR := Lib.hid (show bits .or .u64 (wordK p q : Int) (IntKind.u64.wrap (2 ^ r)) = ((wordK (upd p i true) q : Nat) : Int) by rw [or_word _ r (wordK_lt p q) hr64, hw])
  have HS := Lib.hid (fun u (hu : u = .int .u64 ((wordK (upd p i true) q : Nat) : Int)) => show StAt (w.setCell ⟨b, q, none⟩ u).drew b n (upd p i true) from by
    refine World.rowIs.drew ((World.rowIs.set h q u).congr (fun k _ => ?_))
    rw [hu]
    by_cases e : k = q
    · subst e; simp
    · simp only [e, if_false]
      have : i / 64 ≠ k := by omega
      rw [upd_word this])
  have HN := Lib.hid hN
  generalize wordK p q = a at c0 OR
  clear hq hr hr64 hql hi hn h hN hw
  go_enter Try.func35, Try.ntmps35
  go_wp2_with fail
  go_region
  go_wp2_with fail
  go_end0
  exact ⟨rfl, HS.out _ (by rw [OR.out]), ((Below.refl N w).setCell (p := ⟨b, q, none⟩) HN.out _).drew, fun k hk => Below.heap_setCell _ _ _ _ hk⟩
theorem StAt.of_block {w w' : World} {b n : Nat} {p : Nat → Bool} (h : StAt w b n p) (e : w'.heap[b]? = w.heap[b]?) : StAt w' b n p := World.rowIs.of_block h e
theorem empty_st (w : World) (b n : Nat) (h : w.rowIs b 46 n (fun _ => .int .u64 0)) : StAt w b n (fun _ => false) := h.congr (fun k _ => by rw [← empty_word k]; rfl)
set_option maxHeartbeats 1000000 in
theorem noStates_any (L c : Nat) (m : Option Addr) (hL : L ≤ 4097) (w : World) :
    Calls Try.prog 34 #[.slice m L c] w fun e w' => ∃ b, w.heap.size ≤ b ∧ e = .returned (.slice (some ⟨b, 0, none⟩) ((L + 63) / 64) ((L + 63) / 64)) ∧ StAt w' b ((L + 63) / 64) (fun _ => false) ∧ Below w.heap.size w w' := by
  obtain ⟨n, hn⟩ : ∃ n, n = (L + 63) / 64 := ⟨_, rfl⟩
  rw [← hn]
  have l0 : (0 : Int) ≤ L ∧ (L : Int) ≤ 4097 := by omega
  have d0 : ((L : Int) + 64 - 1) / 64 = n := by omega
  have d1 : ((L : Int) + 64 - 1).tdiv 64 = n := by rw [Int.tdiv_eq_ediv_of_nonneg (by omega)]; omega
  have hmk := Go.run_make_row' (P := Try.prog) 71 46 (.int .u64 0) 8 Try.underlying71 (by kernel_rfl) rfl .i64 .i64 n (by omega) (by omega) w
  have hr0 := World.rowIs_made w (.int .u64 0) n 46
  have B0 := Lib.hid ((Below.refl w.heap.size w).alloc (Nat.le_refl _) (.cells (madeCells #[.int .u64 0] n) 46))
  have R0 := Lib.hid (empty_st _ _ _ hr0)
  clear hr0 hn hL
  go_enter Try.func34, Try.ntmps34
  go_wp2_with fail
  go_ret
  exact ⟨w.heap.size, Nat.le_refl _, rfl, R0.out, B0.out⟩
end Go.Proofs.Ytaalfnfikjmomaa
