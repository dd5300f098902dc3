/- Contract of the program's move (glob). -/
import Derived.Test.YtaalfnfikjmomaaGlbNb
namespace Go.Proofs.Ytaalfnfikjmomaa
open Go.RowKit Go.Lib
/-- A row of which the words before k are new. -/
def mixW (p q : Nat → Bool) (k : Nat) : Nat → Bool := fun j => if j < 64 * k then q j else p j
def anyW (q : Nat → Bool) (k : Nat) : Nat := (List.range k).foldl (fun a i => a ||| wordK q i) 0
theorem anyW_succ (q : Nat → Bool) (k : Nat) : anyW q (k + 1) = anyW q k ||| wordK q k := by unfold anyW; rw [List.range_succ, List.foldl_append]; rfl
theorem anyW_lt (q : Nat → Bool) : ∀ k, anyW q k < 18446744073709551616
  | 0 => by show (0 : Nat) < _; omega
  | k + 1 => by rw [anyW_succ]; exact Nat.or_lt_two_pow (n := 64) (anyW_lt q k) (wordK_lt q k)
theorem anyW_zero (q : Nat → Bool) : ∀ k, anyW q k = 0 → ∀ j, j < 64 * k → q j = false
  | 0, _, j, hj => by omega
  | k + 1, h, j, hj => by
    rw [anyW_succ, Nat.or_eq_zero_iff] at h
    by_cases e : j < 64 * k
    · exact anyW_zero q k h.1 j e
    · have := word_zero h.2 (j - 64 * k) (by omega)
      rwa [show 64 * k + (j - 64 * k) = j by omega] at this
theorem mixW_old (p q : Nat → Bool) {j k : Nat} (h : j < k) : wordK (mixW p q k) j = wordK q j := by
  apply word_eq (wordK_lt _ _)
  intro i hi
  rw [testBit_wordK _ _ _ hi, mixW, if_pos (by omega)]
theorem mixW_step (p q : Nat → Bool) {j k : Nat} (h : j ≠ k) : wordK (mixW p q k) j = wordK (mixW p q (k + 1)) j := by
  apply word_eq (wordK_lt _ _)
  intro i hi
  rw [testBit_wordK _ _ _ hi, mixW, mixW]
  by_cases h2 : 64 * j + i < 64 * k
  · rw [if_pos h2, if_pos (by omega)]
  · rw [if_neg h2, if_neg (by omega)]
theorem carryN_lt (p S : Nat → Bool) (w : Nat) : carryN p S w < 18446744073709551616 := by
  unfold carryN
  split
  · decide
  · exact Nat.lt_of_le_of_lt (Nat.div_le_self _ _) (Nat.and_lt_two_pow (n := 64) _ (wordK_lt _ _))
set_option maxHeartbeats 8000000 in
set_option maxRecDepth 100000 in
theorem move_any (p L S : Nat → Bool) (b g s l n cp c1 c2 : Nat) (t : TypeId) (hn : n ≤ 4096) (hsb : s ≠ b) (hlb : l ≠ b) (hgb : g ≠ b) (N : Nat) (hN : N ≤ b) (w : World) (hp : StAt w b n p) (hg : TwoAt w g t (.slice (some ⟨s, 0, none⟩) n c1) (.slice (some ⟨l, 0, none⟩) n c2)) (hs : StAt w s n S) (hl : StAt w l n L) :
    Calls Try.prog 37 #[.slice (some ⟨b, 0, none⟩) n cp, .pointer (some ⟨g, 0, none⟩)] w fun e w' => e = .returned (.bool (decide (anyW (nextB p L S) n ≠ 0))) ∧ StAt w' b n (nextB p L S) ∧ Below N w w' ∧ ∀ k, k ≠ b → w'.heap[k]? = w.heap[k]? := by
  have n0 : (0 : Int) ≤ n ∧ (n : Int) ≤ 4096 := by omega
  have ST := Lib.hid (And.intro hp (And.intro hg (And.intro hs hl)))
  have HNE := Lib.hid (And.intro hsb (And.intro hlb (And.intro hgb (And.intro hN hn))))
  clear hp hg hs hl hsb hlb hgb hN hn
  go_enter Try.func37, Try.ntmps37
  go_wp2_with fail
  go_loopw [5, 6, 12] (fun s5 s6 s12 wr => ∃ k a c : Nat, s12 = .int .i64 (k : Int) ∧ s5 = .int .u64 (a : Nat) ∧ s6 = .int .u64 (c : Nat) ∧ a = anyW (nextB p L S) k ∧ c = carryN p S k ∧ k ≤ n ∧ StAt wr b n (mixW p (nextB p L S) k) ∧ Below N w wr ∧ ∀ k, k ≠ b → wr.heap[k]? = w.heap[k]?) (fun _ _ s12 _ => n - (RowKit.intOf s12).toNat)
  case atStart => exact ⟨0, 0, 0, rfl, rfl, rfl, rfl, rfl, by omega, by (have : mixW p (nextB p L S) 0 = p := by (funext j; simp [mixW])); rw [this]; exact ST.out.1, Below.refl _ _, fun _ _ => rfl⟩
  case round =>
    obtain ⟨k, a, c, rfl, rfl, rfl, ha, hc, hk, hst, hb, hoth⟩ := hrel
    have HR := Lib.hid (And.intro hst (And.intro hb hoth))
    have HA := Lib.hid (And.intro ha hc)
    by_cases hlt : k < n
    · have k0 : (0 : Int) ≤ k ∧ (k : Int) < (n : Int) := by omega
      have r0 := World.rowIs.cell hst hlt
      have f0 := World.rowIs.frozen hst k
      have g0 := (ST.out.2.1.of_block (hoth g HNE.out.2.2.1)).cell0
      have g1 := (ST.out.2.1.of_block (hoth g HNE.out.2.2.1)).cell1
      have s0 := World.rowIs.cell (ST.out.2.2.1.of_block (hoth s HNE.out.1)) hlt
      have l0 := World.rowIs.cell (ST.out.2.2.2.of_block (hoth l HNE.out.2.1)) hlt
      have em : wordK (mixW p (nextB p L S) k) k = wordK p k := by
        symm
        apply word_eq (wordK_lt p k)
        intro j hj
        rw [testBit_wordK p k j hj, mixW, if_neg (by omega)]
      rw [em] at r0
      obtain ⟨v, hv⟩ : ∃ v, v = wordK p k := ⟨_, rfl⟩
      obtain ⟨sw, hsw⟩ : ∃ sw, sw = wordK S k := ⟨_, rfl⟩
      obtain ⟨lw, hlw⟩ : ∃ lw, lw = wordK L k := ⟨_, rfl⟩
      rw [← hv] at r0
      rw [← hsw] at s0
      rw [← hlw] at l0
      have v9 : v < 18446744073709551616 := by rw [hv]; exact wordK_lt _ _
      have sw9 : sw < 18446744073709551616 := by rw [hsw]; exact wordK_lt _ _
      have lw9 : lw < 18446744073709551616 := by rw [hlw]; exact wordK_lt _ _
      have c9 : c < 18446744073709551616 := by rw [hc]; exact carryN_lt _ _ _
      have a9 : a < 18446744073709551616 := by rw [ha]; exact anyW_lt _ _
      have e1 := bits_and_u64_nat v sw v9 sw9
      have e2 := bits_and_u64_nat v lw v9 lw9
      have hnw := next_word p L S k
      rw [← hv, ← hsw, ← hlw, ← hc] at hnw
      have x9 : v &&& sw < 18446744073709551616 := Nat.and_lt_two_pow (n := 64) _ sw9
      have y9 : v &&& lw < 18446744073709551616 := Nat.and_lt_two_pow (n := 64) _ lw9
      have hcn := carry_next p S k
      rw [← hv, ← hsw] at hcn
      obtain ⟨x, hx⟩ : ∃ x, x = v &&& sw := ⟨_, rfl⟩
      obtain ⟨y, hy⟩ : ∃ y, y = v &&& lw := ⟨_, rfl⟩
      rw [← hx] at e1 hnw hcn x9
      rw [← hy] at e2 hnw y9
      have e4 := bits_or_u64_nat y (x * 2 % 18446744073709551616) y9 (Nat.mod_lt _ (by omega))
      have z9 : y ||| (x * 2 % 18446744073709551616) < 18446744073709551616 := Nat.or_lt_two_pow (n := 64) y9 (Nat.mod_lt _ (by omega))
      have e5 := bits_or_u64_nat _ c z9 c9
      rw [hnw] at e5
      clear hnw hx hy hv hsw hlw ha hc em hst hoth hb z9
      go_wp2_with fail
      have ew : IntKind.u64.wrap ((x : Int) * 2) = ((x * 2 % 18446744073709551616 : Nat) : Int) := by rw [IntKind.wrap_u64]; omega
      have ed : (x : Int) / 9223372036854775808 = ((x / 9223372036854775808 : Nat) : Int) := by omega
      rw [ew, e4, e5, ed]
      have ed2 : x / 9223372036854775808 = carryN p S (k + 1) := hcn
      generalize x / 9223372036854775808 = x2 at ed2 ⊢
      clear e1 e2 e4 e5 ew ed hcn
      have e7 := bits_or_u64_nat a (wordK (nextB p L S) k) a9 (wordK_lt _ _)
      rw [e7]
      refine ⟨⟨k + 1, a ||| wordK (nextB p L S) k, x2, by go_num, rfl, rfl, by rw [anyW_succ, HA.out.1], ed2, hlt, ?_, HR.out.2.1.setCell (p := ⟨b, k, none⟩) HNE.out.2.2.2.1 _, fun j hj => (Below.heap_setCell _ _ _ _ hj).trans (HR.out.2.2 j hj)⟩, by simp [RowKit.intOf]; omega⟩
      refine (World.rowIs.set HR.out.1 k _).congr (fun j _ => ?_)
      by_cases e : j = k
      · subst e
        rw [if_pos rfl, mixW_old _ _ (Nat.lt_succ_self j)]
      · rw [if_neg e, mixW_step _ _ e]
    · obtain rfl : k = n := by omega
      have HV := Lib.hid (show anyW (nextB p L S) k = a from ha.symm)
      clear hlt hst hb hoth
      have a9 : a < 18446744073709551616 := by rw [ha]; exact anyW_lt _ _
      clear ha hc
      go_wp2_with fail
      go_ret
      refine ⟨?_, ?_, HR.out.2.1, HR.out.2.2⟩
      · rw [HV.out]
        by_cases e : a = 0
        · subst e; rfl
        · have h1 : ((a : Int) != 0) = true := by rw [bne_iff_ne]; omega
          have h2 : decide (a ≠ 0) = true := decide_eq_true e
          rw [h1, h2]
          rfl
      · refine HR.out.1.congr (fun j hj => ?_)
        rw [mixW_old _ _ hj]
end Go.Proofs.Ytaalfnfikjmomaa
