/- Rows of states in memory; contract of the program's newMachine (glob). -/
import Derived.Test.YtaalfnfikjmomaaGlbZd
import Derived.Test.YtaalfnfikjmomaaGlbK
namespace Go.Proofs.Ytaalfnfikjmomaa
open Go.RowKit Go.Lib
/-- The cells of a state, and of a machine. -/
def stC (t : MSt) : List Value := setC t.step ++ setC t.loop
def stCs (M : List MSt) : List Value := M.flatMap stC
theorem stC_len (t : MSt) : (stC t).length = 8 := rfl
theorem stCs_snoc (M : List MSt) (t : MSt) : stCs (M ++ [t]) = stCs M ++ stC t := by unfold stCs; rw [List.flatMap_append]; simp
theorem stCs_len (M : List MSt) : (stCs M).length = M.length * 8 := by
  induction M with
  | nil => rfl
  | cons a M ih => rw [show a :: M = [a] ++ M from rfl, stCs, List.flatMap_append, List.length_append]; show 8 + (stCs M).length = _; rw [ih, List.length_append, List.length_singleton]; omega
theorem stCs_at : ∀ (M : List MSt) (k : Nat) (h : k < M.length) (j : Nat), j < 8 → (stCs M)[8 * k + j]? = (stC M[k])[j]?
  | [], k, h, _, _ => by simp at h
  | a :: M, 0, _, j, hj => by
    rw [show stCs (a :: M) = stC a ++ stCs M from rfl, List.getElem?_append_left (by rw [stC_len]; omega)]
    simp
  | a :: M, k + 1, h, j, hj => by
    have := stCs_at M k (by simpa using h) j hj
    rw [show stCs (a :: M) = stC a ++ stCs M from rfl, List.getElem?_append_right (by rw [stC_len]; omega), stC_len, show 8 * (k + 1) + j - 8 = 8 * k + j by omega, this]
    simp
/-- A slice of states reads as a machine. -/
def ReadsM (w : World) (v : Option Addr) (M : List MSt) : Prop :=
  ∀ k (h : k < M.length), ∃ b, v = some ⟨b, 0, none⟩ ∧ b < w.heap.size ∧ ∀ j, j < 8 → w.cell? ⟨b, 8 * k + j, none⟩ = (stC M[k])[j]?
theorem ReadsM.below {w w' : World} {v : Option Addr} {M : List MSt} (h : ReadsM w v M) (hb : Below w.heap.size w w') : ReadsM w' v M := by
  intro k hk
  obtain ⟨b, e, hlt, h1⟩ := h k hk
  exact ⟨b, e, Nat.lt_of_lt_of_le hlt hb.size, fun j hj => (hb.cell (p := ⟨b, 8 * k + j, none⟩) hlt).trans (h1 j hj)⟩
theorem own_readsM {w : World} {B n : Nat} {v : Value} {M : List MSt} (h : w.ownsRow B 66 8 v n (stCs M)) (hn : n = M.length) :
    ∃ a c, v = .slice a M.length c ∧ M.length ≤ c ∧ c ≤ maxLen ∧ ReadsM w a M := by
  rcases h.2 with ⟨rfl, h0⟩ | ⟨g, cap, cur, rfl, hB, hg, hnc, hcm, _⟩
  · have hl : M = [] := List.eq_nil_of_length_eq_zero (by omega)
    subst hl
    exact ⟨none, 0, rfl, by simp, by simp, fun k hk => by simp at hk⟩
  · subst hn
    refine ⟨some ⟨g, 0, none⟩, cap, rfl, hnc, hcm, ?_⟩
    intro k hk
    have hlt := (Array.getElem?_eq_some_iff.1 hg).1
    refine ⟨g, rfl, hlt, fun j hj => ?_⟩
    have he := stCs_at M k hk j hj
    obtain ⟨u, hu⟩ : ∃ u, (stC M[k])[j]? = some u := ⟨_, List.getElem?_eq_getElem (by rw [stC_len M[k]]; exact hj)⟩
    rw [hu] at he ⊢
    have := h.cells (g := g) rfl _ _ he
    rwa [addr_add0] at this
theorem info66 : (Try.prog.info? 66).map (fun i => (i.zero, i.size, i.bytes)) = some (some (.agg #[.int .u64 0, .int .u64 0, .int .u64 0, .int .u64 0, .int .u64 0, .int .u64 0, .int .u64 0, .int .u64 0]), 8, 64) := by kernel_rfl
theorem noS_cells : setC noS = [.int .u64 0, .int .u64 0, .int .u64 0, .int .u64 0] := by
  have := empty_arr []
  rw [List.append_nil, List.append_nil] at this
  exact congrArg Array.toList this
theorem zero_row (n : Nat) (h : 8 ≤ n) : (madeCells #[.int .u64 0, .int .u64 0, .int .u64 0, .int .u64 0, .int .u64 0, .int .u64 0, .int .u64 0, .int .u64 0] n).toList.take 8 = stCs [⟨noS, noS⟩] := by
  have : stCs [⟨noS, noS⟩] = List.replicate 8 (.int .u64 0) := by
    show setC noS ++ setC noS ++ [] = _
    rw [noS_cells]
    rfl
  rw [this]
  apply List.ext_getElem
  · rw [List.length_take, Array.length_toList, size_madeCells]; simp; omega
  · intro k h1 h2
    rw [List.getElem_take, List.getElem_replicate]
    simp only [madeCells, Array.getElem_toList, Array.getElem_map, Array.getElem_range]
    have hk : k % 8 = 0 ∨ k % 8 = 1 ∨ k % 8 = 2 ∨ k % 8 = 3 ∨ k % 8 = 4 ∨ k % 8 = 5 ∨ k % 8 = 6 ∨ k % 8 = 7 := by omega
    show (#[Value.int .u64 0, .int .u64 0, .int .u64 0, .int .u64 0, .int .u64 0, .int .u64 0, .int .u64 0, .int .u64 0] : Array Value)[k % 8]! = _
    rcases hk with e | e | e | e | e | e | e | e <;> rw [e] <;> rfl
theorem set4 (xs : List Value) (n : Nat) (hn : xs.length = n * 8) (a0 a1 a2 a3 a4 a5 a6 a7 b0 b1 b2 b3 : Value) :
    ((((xs ++ [a0, a1, a2, a3, a4, a5, a6, a7]).set (n * 8) b0).set (n * 8 + 1) b1).set (n * 8 + 2) b2).set (n * 8 + 3) b3 = xs ++ [b0, b1, b2, b3, a4, a5, a6, a7] := by
  rw [List.set_append_right _ _ (by omega), List.set_append_right _ _ (by omega), List.set_append_right _ _ (by omega), List.set_append_right _ _ (by omega), hn, Nat.sub_self, show n * 8 + 1 - n * 8 = 1 by omega, show n * 8 + 2 - n * 8 = 2 by omega, show n * 8 + 3 - n * 8 = 3 by omega]
  rfl
theorem set8 (xs : List Value) (n : Nat) (hn : xs.length = n * 8) (a0 a1 a2 a3 a4 a5 a6 a7 b0 b1 b2 b3 : Value) :
    ((((xs ++ [a0, a1, a2, a3, a4, a5, a6, a7]).set (n * 8 + 4) b0).set (n * 8 + 5) b1).set (n * 8 + 6) b2).set (n * 8 + 7) b3 = xs ++ [a0, a1, a2, a3, b0, b1, b2, b3] := by
  rw [List.set_append_right _ _ (by omega), List.set_append_right _ _ (by omega), List.set_append_right _ _ (by omega), List.set_append_right _ _ (by omega), hn, show n * 8 + 4 - n * 8 = 4 by omega, show n * 8 + 5 - n * 8 = 5 by omega, show n * 8 + 6 - n * 8 = 6 by omega, show n * 8 + 7 - n * 8 = 7 by omega]
  rfl
theorem own_step {w : World} {B g n cap : Nat} {Q : List MSt} {f lp s : Nat → Bool} {b0 b1 b2 b3 : Value} (h : w.ownsRow B 66 8 (.slice (some ⟨g, 0, none⟩) (n + 1) cap) (n + 1) (stCs (Q ++ [⟨f, lp⟩]))) (hn : n = Q.length) (hk : setC s = [b0, b1, b2, b3]) :
    ((((w.setCell ⟨g, n * 8, none⟩ b0).setCell ⟨g, n * 8 + 1, none⟩ b1).setCell ⟨g, n * 8 + 2, none⟩ b2).setCell ⟨g, n * 8 + 3, none⟩ b3).ownsRow B 66 8 (.slice (some ⟨g, 0, none⟩) (n + 1) cap) (n + 1) (stCs (Q ++ [⟨s, lp⟩])) := by
  have h4 := ((((h.stored (n * 8) b0).1.stored (n * 8 + 1) b1).1.stored (n * 8 + 2) b2).1.stored (n * 8 + 3) b3).1
  have e : ∀ t : MSt, stCs (Q ++ [t]) = stCs Q ++ (setC t.step ++ setC t.loop) := fun t => stCs_snoc Q t
  rw [e] at h4 ⊢
  have := set4 (stCs Q) n (by rw [stCs_len, hn]) (.int .u64 (wordK f 0 : Nat)) (.int .u64 (wordK f 1 : Nat)) (.int .u64 (wordK f 2 : Nat)) (.int .u64 (wordK f 3 : Nat)) (.int .u64 (wordK lp 0 : Nat)) (.int .u64 (wordK lp 1 : Nat)) (.int .u64 (wordK lp 2 : Nat)) (.int .u64 (wordK lp 3 : Nat)) b0 b1 b2 b3
  have e2 : setC f ++ setC lp = [.int .u64 (wordK f 0 : Nat), .int .u64 (wordK f 1 : Nat), .int .u64 (wordK f 2 : Nat), .int .u64 (wordK f 3 : Nat), .int .u64 (wordK lp 0 : Nat), .int .u64 (wordK lp 1 : Nat), .int .u64 (wordK lp 2 : Nat), .int .u64 (wordK lp 3 : Nat)] := rfl
  simp only at h4
  rw [e2, this] at h4
  simp only [hk]
  exact h4
theorem own_loop {w : World} {B g n cap : Nat} {Q : List MSt} {f lp s : Nat → Bool} {b0 b1 b2 b3 : Value} (h : w.ownsRow B 66 8 (.slice (some ⟨g, 0, none⟩) (n + 1) cap) (n + 1) (stCs (Q ++ [⟨f, lp⟩]))) (hn : n = Q.length) (hk : setC s = [b0, b1, b2, b3]) :
    ((((w.setCell ⟨g, n * 8 + 4, none⟩ b0).setCell ⟨g, n * 8 + 5, none⟩ b1).setCell ⟨g, n * 8 + 6, none⟩ b2).setCell ⟨g, n * 8 + 7, none⟩ b3).ownsRow B 66 8 (.slice (some ⟨g, 0, none⟩) (n + 1) cap) (n + 1) (stCs (Q ++ [⟨f, s⟩])) := by
  have h4 := ((((h.stored (n * 8 + 4) b0).1.stored (n * 8 + 5) b1).1.stored (n * 8 + 6) b2).1.stored (n * 8 + 7) b3).1
  have e : ∀ t : MSt, stCs (Q ++ [t]) = stCs Q ++ (setC t.step ++ setC t.loop) := fun t => stCs_snoc Q t
  rw [e] at h4 ⊢
  have := set8 (stCs Q) n (by rw [stCs_len, hn]) (.int .u64 (wordK f 0 : Nat)) (.int .u64 (wordK f 1 : Nat)) (.int .u64 (wordK f 2 : Nat)) (.int .u64 (wordK f 3 : Nat)) (.int .u64 (wordK lp 0 : Nat)) (.int .u64 (wordK lp 1 : Nat)) (.int .u64 (wordK lp 2 : Nat)) (.int .u64 (wordK lp 3 : Nat)) b0 b1 b2 b3
  have e2 : setC f ++ setC lp = [.int .u64 (wordK f 0 : Nat), .int .u64 (wordK f 1 : Nat), .int .u64 (wordK f 2 : Nat), .int .u64 (wordK f 3 : Nat), .int .u64 (wordK lp 0 : Nat), .int .u64 (wordK lp 1 : Nat), .int .u64 (wordK lp 2 : Nat), .int .u64 (wordK lp 3 : Nat)] := rfl
  simp only at h4
  rw [e2, this] at h4
  simp only [hk]
  exact h4
/-- The cells of the last state. -/
theorem own_last {w : World} {B g n cap : Nat} {Q : List MSt} {f lp : Nat → Bool} (h : w.ownsRow B 66 8 (.slice (some ⟨g, 0, none⟩) (n + 1) cap) (n + 1) (stCs (Q ++ [⟨f, lp⟩]))) (hn : n = Q.length) (t : Nat) (ht : t < 8) :
    w.cell? ⟨g, n * 8 + t, none⟩ = (setC f ++ setC lp)[t]? ∧ w.frozen? ⟨g, n * 8 + t, none⟩ = false := by
  refine ⟨?_, h.frozenAt _⟩
  rw [h.cellAt _ (by omega), stCs_snoc, List.getElem?_append_right (by rw [stCs_len]; omega), stCs_len, hn, show Q.length * 8 + t - Q.length * 8 = t by omega]
  rfl
theorem own_last_step {w : World} {B g n cap : Nat} {Q : List MSt} {f lp : Nat → Bool} (h : w.ownsRow B 66 8 (.slice (some ⟨g, 0, none⟩) (n + 1) cap) (n + 1) (stCs (Q ++ [⟨f, lp⟩]))) (hn : n = Q.length) :
    ∃ v0 v1 v2 v3 : Nat, setC f = [.int .u64 (v0 : Nat), .int .u64 (v1 : Nat), .int .u64 (v2 : Nat), .int .u64 (v3 : Nat)] ∧ w.cell? ⟨g, n * 8, none⟩ = some (.int .u64 (v0 : Nat)) ∧ w.cell? ⟨g, n * 8 + 1, none⟩ = some (.int .u64 (v1 : Nat)) ∧ w.cell? ⟨g, n * 8 + 2, none⟩ = some (.int .u64 (v2 : Nat)) ∧ w.cell? ⟨g, n * 8 + 3, none⟩ = some (.int .u64 (v3 : Nat)) :=
  ⟨_, _, _, _, rfl, (own_last h hn 0 (by omega)).1, (own_last h hn 1 (by omega)).1, (own_last h hn 2 (by omega)).1, (own_last h hn 3 (by omega)).1⟩
theorem own_last_loop {w : World} {B g n cap : Nat} {Q : List MSt} {f lp : Nat → Bool} (h : w.ownsRow B 66 8 (.slice (some ⟨g, 0, none⟩) (n + 1) cap) (n + 1) (stCs (Q ++ [⟨f, lp⟩]))) (hn : n = Q.length) :
    ∃ v0 v1 v2 v3 : Nat, setC lp = [.int .u64 (v0 : Nat), .int .u64 (v1 : Nat), .int .u64 (v2 : Nat), .int .u64 (v3 : Nat)] ∧ w.cell? ⟨g, n * 8 + 4, none⟩ = some (.int .u64 (v0 : Nat)) ∧ w.cell? ⟨g, n * 8 + 5, none⟩ = some (.int .u64 (v1 : Nat)) ∧ w.cell? ⟨g, n * 8 + 6, none⟩ = some (.int .u64 (v2 : Nat)) ∧ w.cell? ⟨g, n * 8 + 7, none⟩ = some (.int .u64 (v3 : Nat)) :=
  ⟨_, _, _, _, rfl, (own_last h hn 4 (by omega)).1, (own_last h hn 5 (by omega)).1, (own_last h hn 6 (by omega)).1, (own_last h hn 7 (by omega)).1⟩
theorem new_cells' (w : World) (m : Nat) (hm : w.heap.size = m) (cs : List Value) (t : TypeId) : ∀ j u, cs[j]? = some u → (w.alloc (.cells cs.toArray t)).cell? ((⟨m, 0, none⟩ : Addr).add j) = some u := by
  subst hm
  exact new_cells
/-- What holds at each round's head of newMachine. -/
def MRel (w : World) (L : List GE) (i : Nat) (Q : List MSt) (lp : Nat → Bool) (wr : World) : Prop :=
  i ≤ L.length ∧ Q.length ≤ i ∧ wr.ownsRow w.heap.size 66 8 (.slice (some ⟨w.heap.size, 0, none⟩) (Q.length + 1) (L.length + 1)) (Q.length + 1) (stCs (Q ++ [⟨noS, lp⟩])) ∧ Below w.heap.size w wr ∧ machR noS L = Q ++ machR lp (L.drop i)
theorem mrel_one {w w' : World} {L : List GE} {i n : Nat} {Q : List MSt} {lp : Nat → Bool} {wr : World} {x : GE} (h : MRel w L i Q lp wr) (hn : n = Q.length) (hx : ∃ h : i < L.length, L[i] = x) (hm : manyB x = false)
    (ho : w'.ownsRow w.heap.size 66 8 (.slice (some ⟨w.heap.size, 0, none⟩) (n + 1 + 1) (L.length + 1)) (n + 1 + 1) (stCs (Q ++ [⟨accN x, lp⟩]) ++ [.int .u64 0, .int .u64 0, .int .u64 0, .int .u64 0, .int .u64 0, .int .u64 0, .int .u64 0, .int .u64 0])) (hb : Below w.heap.size w w') :
    MRel w L (i + 1) (Q ++ [⟨accN x, lp⟩]) noS w' := by
  obtain ⟨h1, h2, h3, h4, h5⟩ := h
  obtain ⟨hi, hx⟩ := hx
  refine ⟨by omega, by simp; omega, ?_, hb, ?_⟩
  · rw [List.length_append, List.length_singleton, ← hn, stCs_snoc _ (⟨noS, noS⟩ : MSt)]
    have : stC ⟨noS, noS⟩ = [.int .u64 0, .int .u64 0, .int .u64 0, .int .u64 0, .int .u64 0, .int .u64 0, .int .u64 0, .int .u64 0] := by
      show setC noS ++ setC noS = _
      rw [noS_cells]; rfl
    rw [this]
    exact ho
  · rw [h5, List.drop_eq_getElem_cons hi, hx, machR, if_neg (by rw [hm]; decide), List.append_assoc]
    rfl
theorem mrel_many {w w' : World} {L : List GE} {i n : Nat} {Q : List MSt} {lp : Nat → Bool} {wr : World} {x : GE} (h : MRel w L i Q lp wr) (hn : n = Q.length) (hx : ∃ h : i < L.length, L[i] = x) (hm : manyB x = true)
    (ho : w'.ownsRow w.heap.size 66 8 (.slice (some ⟨w.heap.size, 0, none⟩) (n + 1) (L.length + 1)) (n + 1) (stCs (Q ++ [⟨noS, fun c => lp c || accN x c⟩]))) (hb : Below w.heap.size w w') :
    MRel w L (i + 1) Q (fun c => lp c || accN x c) w' := by
  obtain ⟨h1, h2, h3, h4, h5⟩ := h
  obtain ⟨hi, hx⟩ := hx
  refine ⟨by omega, by omega, by rw [← hn]; exact ho, hb, ?_⟩
  rw [h5, List.drop_eq_getElem_cons hi, hx, machR, if_pos hm]
  rfl
set_option maxHeartbeats 8000000 in
set_option maxRecDepth 100000 in
theorem newMachine_any (a : Option Addr) (c : Nat) (L : List GE) (hL : L.length ≤ 4096) (w : World) (hr : ReadsP w a L) :
    Calls Try.prog 24 #[.slice a L.length c] w fun e w' => ∃ (v : Option Addr) (c : Nat), e = .returned (.slice v (machR noS L).length c) ∧ ReadsM w' v (machR noS L) ∧ Below w.heap.size w w' := by
  obtain ⟨i0, hi0, hz0, hz1, hzb⟩ := info_parts info66
  have h0 : (L.length : Int) ≤ 4096 := by omega
  have hmk : ∀ w, (Instr.makeSlice 41 (.int .i64 1) (.int .i64 ((L.length : Int) + 1))).run Try.prog w = .ok (.slice (some ⟨w.heap.size, 0, none⟩) 1 (L.length + 1)) (w.alloc (.cells (madeCells #[.int .u64 0, .int .u64 0, .int .u64 0, .int .u64 0, .int .u64 0, .int .u64 0, .int .u64 0, .int .u64 0] ((L.length + 1) * 8)) 66)) := by
    intro w
    have := run_make (P := Try.prog) w 41 66 i0 _ Try.underlying41 hi0 hz0 .i64 .i64 1 ((L.length : Int) + 1) (by omega) (by omega) (by rw [hzb]; omega) (by omega)
    rw [this, hz1]
    rfl
  have ST := Lib.hid (show (w.alloc (.cells (madeCells #[.int .u64 0, .int .u64 0, .int .u64 0, .int .u64 0, .int .u64 0, .int .u64 0, .int .u64 0, .int .u64 0] ((L.length + 1) * 8)) 66)).ownsRow w.heap.size 66 8 (.slice (some ⟨w.heap.size, 0, none⟩) 1 (L.length + 1)) 1 (stCs ([] ++ [⟨noS, noS⟩])) from
    ⟨by rw [List.nil_append, stCs_len]; rfl, .inr ⟨w.heap.size, L.length + 1, _, rfl, Nat.le_refl _, heap_alloc_new w _, by omega, by unfold maxLen; omega, by rw [size_madeCells], zero_row _ (by omega)⟩⟩)
  have B0 := Lib.hid ((Below.refl w.heap.size w).alloc (Nat.le_refl _) (.cells (madeCells #[.int .u64 0, .int .u64 0, .int .u64 0, .int .u64 0, .int .u64 0, .int .u64 0, .int .u64 0, .int .u64 0] ((L.length + 1) * 8)) 66))
  have R := Lib.hid hr
  have HL := Lib.hid hL
  clear hr hL
  go_enter Try.func24, Try.ntmps24
  go_wp2_with fail
  go_loopw [3, 13] (fun s3 s13 wr => ∃ (i n : Nat) (Q : List MSt) (lp : Nat → Bool), s13 = .int .i64 (i : Int) ∧ n = Q.length ∧ s3 = .slice (some ⟨w.heap.size, 0, none⟩) (n + 1) (L.length + 1) ∧ MRel w L i Q lp wr) (fun _ s13 _ => L.length - (RowKit.intOf s13).toNat)
  case atStart => exact ⟨0, 0, [], noS, rfl, rfl, rfl, by omega, by simp, ST.out, B0.out, by simp⟩
  case round =>
    obtain ⟨i, n, Q, lp, rfl, hn, rfl, hrel⟩ := hrel
    have HR := Lib.hid hrel
    by_cases hlt : i < L.length
    · obtain ⟨b, rfl, hb, hc⟩ := R.out.below (hrel.2.2.2.1) i hlt
      obtain ⟨x, hx⟩ : ∃ x, x = L[i] := ⟨_, rfl⟩
      rw [← hx] at hc
      obtain ⟨k0, k1, k2, k3, hk, hel⟩ := elC_cells x
      rw [hel] at hc
      have c0 : wr.cell? ⟨b, i * 7, none⟩ = some (.int .u64 (k0 : Nat)) := by have := hc 0 (by omega); rwa [Nat.mul_comm] at this
      have c1 : wr.cell? ⟨b, i * 7 + 1, none⟩ = some (.int .u64 (k1 : Nat)) := by have := hc 1 (by omega); rwa [Nat.mul_comm] at this
      have c2 : wr.cell? ⟨b, i * 7 + 2, none⟩ = some (.int .u64 (k2 : Nat)) := by have := hc 2 (by omega); rwa [Nat.mul_comm] at this
      have c3 : wr.cell? ⟨b, i * 7 + 3, none⟩ = some (.int .u64 (k3 : Nat)) := by have := hc 3 (by omega); rwa [Nat.mul_comm] at this
      have c4 : wr.cell? ⟨b, i * 7 + 4, none⟩ = some (.bool (manyB x)) := by have := hc 4 (by omega); rwa [Nat.mul_comm] at this
      have c5 : wr.cell? ⟨b, i * 7 + 5, none⟩ = some (.bool (isLit x)) := by have := hc 5 (by omega); rwa [Nat.mul_comm] at this
      have c6 : wr.cell? ⟨b, i * 7 + 6, none⟩ = some (.int .u8 (litN x : Nat)) := by have := hc 6 (by omega); rwa [Nat.mul_comm] at this
      have i1 : (0 : Int) ≤ i ∧ (i : Int) < (L.length : Int) := by omega
      have n1 : (0 : Int) ≤ n ∧ (n : Int) ≤ i ∧ (n : Int) ≤ 4096 := by have := hrel.2.1; have := HL.out; omega
      have HN := Lib.hid hn
      have HX := Lib.hid (show ∃ h : i < L.length, L[i] = x ∧ setC (accN x) = [.int .u64 (k0 : Nat), .int .u64 (k1 : Nat), .int .u64 (k2 : Nat), .int .u64 (k3 : Nat)] from ⟨hlt, hx.symm, hk⟩)
      generalize isLit x = z1 at c5
      generalize litN x = z2 at c6
      clear hc hel hx hk hrel hlt hb hn
      cases hm : manyB x
      · rw [hm] at c4
        have HO5 := Lib.hid (HR.out.2.2.1.alloc (Obj.cells #[.int .u64 (k0 : Nat), .int .u64 (k1 : Nat), .int .u64 (k2 : Nat), .int .u64 (k3 : Nat), .bool false, .bool z1, .int .u8 (z2 : Nat)] 50))
        rw [← HN.out] at HO5
        have HB5 := Lib.hid (HR.out.2.2.2.1.alloc HR.out.2.2.2.1.size (Obj.cells #[.int .u64 (k0 : Nat), .int .u64 (k1 : Nat), .int .u64 (k2 : Nat), .int .u64 (k3 : Nat), .bool false, .bool z1, .int .u8 (z2 : Nat)] 50))
        obtain ⟨v0, v1, v2, v3, _, d0, d1, d2, d3⟩ := own_last_step HO5.out HN.out
        have f0 := HO5.out.frozenAt (n * 8)
        have f1 := HO5.out.frozenAt (n * 8 + 1)
        have f2 := HO5.out.frozenAt (n * 8 + 2)
        have f3 := HO5.out.frozenAt (n * 8 + 3)
        have HM := Lib.hid hm
        clear hm
        have hn2 : Q.length ≤ i := HR.out.2.1
        have HS5 := Lib.hid (own_step (Q := Q) (s := accN x) (b0 := .int .u64 (k0 : Nat)) (b1 := .int .u64 (k1 : Nat)) (b2 := .int .u64 (k2 : Nat)) (b3 := .int .u64 (k3 : Nat)) HO5.out HN.out (by obtain ⟨_, _, e⟩ := HX.out; exact e))
        have HO6 := Lib.hid (HS5.out.alloc (Obj.cells #[.int .u64 0, .int .u64 0, .int .u64 0, .int .u64 0, .int .u64 0, .int .u64 0, .int .u64 0, .int .u64 0] 66))
        have HB6 := Lib.hid (((((HB5.out.setCell (p := ⟨w.heap.size, n * 8, none⟩) (Nat.le_refl _) (.int .u64 (k0 : Nat))).setCell (p := ⟨w.heap.size, n * 8 + 1, none⟩) (Nat.le_refl _) (.int .u64 (k1 : Nat))).setCell (p := ⟨w.heap.size, n * 8 + 2, none⟩) (Nat.le_refl _) (.int .u64 (k2 : Nat))).setCell (p := ⟨w.heap.size, n * 8 + 3, none⟩) (Nat.le_refl _) (.int .u64 (k3 : Nat))).alloc (by simp; have := HR.out.2.2.2.1.size; omega) (Obj.cells #[.int .u64 0, .int .u64 0, .int .u64 0, .int .u64 0, .int .u64 0, .int .u64 0, .int .u64 0, .int .u64 0] 66))
        clear hn2
        go_wp2_with (at_builtin; go_loud (refine wpList_append_fits _ rfl _ _ 41 rfl w.heap.size 66 i0 8 Try.underlying41 hi0 hz1 w.heap.size (n + 1) (L.length + 1) _ rfl HO6.out ⟨wr.heap.size + 1, 0, none⟩ 1 1 [.int .u64 0, .int .u64 0, .int .u64 0, .int .u64 0, .int .u64 0, .int .u64 0, .int .u64 0, .int .u64 0] rfl rfl ?c1 ?c2 ?c3 ?_))
        case c1 => exact new_cells' _ _ (by simp [World.setCell]) _ _
        case c2 => intro u hu; simp at hu; subst hu; rfl
        case c3 => have := HR.out.2.1; have := HN.out; obtain ⟨h, _⟩ := HX.out; omega
        intro w3 hown hgrow
        have REL := Lib.hid (mrel_one HR.out HN.out ⟨HX.out.1, HX.out.2.1⟩ HM.out hown (HB6.out.grown hgrow (by simp [World.setCell]; have := HR.out.2.2.2.1.size; omega) (fun k hk => by injection hk with hk; omega)))
        have HLT := Lib.hid (show i + 1 ≤ L.length from HX.out.1)
        clear hown hgrow
        go_wp2_with fail
        go_roundw
        case rel => exact ⟨i + 1, n + 1, Q ++ [⟨accN x, lp⟩], noS, by go_num, by rw [List.length_append, List.length_singleton, ← HN.out], rfl, REL.out⟩
        case measure => have := HLT.out; simp [RowKit.intOf]; omega
      · rw [hm] at c4
        have HO5 := Lib.hid (HR.out.2.2.1.alloc (Obj.cells #[.int .u64 (k0 : Nat), .int .u64 (k1 : Nat), .int .u64 (k2 : Nat), .int .u64 (k3 : Nat), .bool true, .bool z1, .int .u8 (z2 : Nat)] 50))
        rw [← HN.out] at HO5
        have HB5 := Lib.hid (HR.out.2.2.2.1.alloc HR.out.2.2.2.1.size (Obj.cells #[.int .u64 (k0 : Nat), .int .u64 (k1 : Nat), .int .u64 (k2 : Nat), .int .u64 (k3 : Nat), .bool true, .bool z1, .int .u8 (z2 : Nat)] 50))
        obtain ⟨v0, v1, v2, v3, hv, d0, d1, d2, d3⟩ := own_last_loop HO5.out HN.out
        have U := Lib.hid (fun w => union_any lp (accN x) w)
        obtain ⟨u0, u1, u2, u3, hu⟩ := setC_words (fun c => lp c || accN x c)
        have e1 : setV lp = .agg #[.int .u64 (v0 : Nat), .int .u64 (v1 : Nat), .int .u64 (v2 : Nat), .int .u64 (v3 : Nat)] := by rw [setV_set, hv]
        have e2 : setV (accN x) = .agg #[.int .u64 (k0 : Nat), .int .u64 (k1 : Nat), .int .u64 (k2 : Nat), .int .u64 (k3 : Nat)] := by rw [setV_set, HX.out.2.2]
        have e3 : setV (fun c => lp c || accN x c) = .agg #[.int .u64 (u0 : Nat), .int .u64 (u1 : Nat), .int .u64 (u2 : Nat), .int .u64 (u3 : Nat)] := by rw [setV_set, hu]
        rw [e1, e2, e3] at U
        have HU := Lib.hid hu
        have HM := Lib.hid hm
        clear hm e1 e2 e3 hu hv
        go_wp2_with fail
        go_region_with (go_at_call 33; go_fit (U.out _); rintro e w2 ⟨rfl, hb2⟩; have hq := own_keep (w' := w2) HO5.out.drew hb2; obtain ⟨y0, y1, y2, y3, _, q0, q1, q2, q3⟩ := own_last_loop hq HN.out; have g0 := hq.frozenAt (n * 8 + 4); have g1 := hq.frozenAt (n * 8 + 5); have g2 := hq.frozenAt (n * 8 + 6); have g3 := hq.frozenAt (n * 8 + 7); go_wp2_with fail)
        all_goals
          have HQ := Lib.hid (own_loop hq HN.out HU.out)
          have HBB := Lib.hid (((((HB5.out.drew.trans (hb2.mono HB5.out.drew.size)).setCell (p := ⟨w.heap.size, n * 8 + 4, none⟩) (Nat.le_refl _) (.int .u64 (u0 : Nat))).setCell (p := ⟨w.heap.size, n * 8 + 5, none⟩) (Nat.le_refl _) (.int .u64 (u1 : Nat))).setCell (p := ⟨w.heap.size, n * 8 + 6, none⟩) (Nat.le_refl _) (.int .u64 (u2 : Nat))).setCell (p := ⟨w.heap.size, n * 8 + 7, none⟩) (Nat.le_refl _) (.int .u64 (u3 : Nat)))
          have HLT := Lib.hid (show i + 1 ≤ L.length from HX.out.1)
          clear hq hb2 q0 q1 q2 q3 g0 g1 g2 g3 d0 d1 d2 d3
          go_wp2_with fail
          go_roundw
          case rel => exact ⟨i + 1, n, Q, fun c => lp c || accN x c, by go_num, HN.out, rfl, mrel_many HR.out HN.out ⟨HX.out.1, HX.out.2.1⟩ HM.out HQ.out HBB.out⟩
          case measure => have := HLT.out; simp [RowKit.intOf]; omega
    · obtain rfl : i = L.length := by have := hrel.1; omega
      have HE := Lib.hid (show machR noS L = Q ++ [⟨noS, lp⟩] by rw [hrel.2.2.2.2, List.drop_eq_nil_of_le (Nat.le_refl _)]; rfl)
      have HV := Lib.hid (own_readsM (M := Q ++ [⟨noS, lp⟩]) hrel.2.2.1 (by rw [List.length_append, List.length_singleton]))
      have HB := Lib.hid hrel.2.2.2.1
      have HN := Lib.hid hn
      clear hrel hlt hn
      go_wp2_with fail
      go_ret
      obtain ⟨a2, c2, e, _, _, hrm⟩ := HV.out
      injection e with e1 e2 e3
      refine ⟨some ⟨w.heap.size, 0, none⟩, L.length + 1, ?_, ?_, HB.out⟩
      · rw [HE.out, List.length_append, List.length_singleton, HN.out]; rfl
      · rw [HE.out, e1]; exact hrm
end Go.Proofs.Ytaalfnfikjmomaa
