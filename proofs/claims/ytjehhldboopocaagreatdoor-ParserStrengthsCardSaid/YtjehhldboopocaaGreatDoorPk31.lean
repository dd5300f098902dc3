/- Contracts of functions of the program, and what they are made of (parser; Pk31). -/
import Derived.Test.YtjehhldboopocaaGreatDoorPk24
import Derived.Test.YtjehhldboopocaaGreatDoorPk25
import Derived.Test.YtjehhldboopocaaGreatDoorPk30
import Derived.Defers
import Derived.Recover
namespace Go.Proofs.YtjehhldboopocaaGreatDoor.Lx
open Go.RowKit Go.Lib
set_option linter.unusedVariables false
section
variable {w0 : World} {ta : Option Addr} {tc : Nat} {toks : List Tm} {R : Nat}
structure AllOk (w0 : World) (ta : Option Addr) (tc : Nat) (toks : List Tm) (R f : Nat) : Prop where
  c : PartOk w0 ta tc toks R 51 #[.pointer (some ⟨R, 0, none⟩)] f .cond
  o : ∀ n, 2 ≤ n → n ≤ 7 → PartOk w0 ta tc toks R 89 #[.pointer (some ⟨R, 0, none⟩), .int .i64 (n : Nat)] f (.oper n)
  u : PartOk w0 ta tc toks R 127 #[.pointer (some ⟨R, 0, none⟩)] f .un
  h : PartOk w0 ta tc toks R 167 #[.pointer (some ⟨R, 0, none⟩)] f .chn
  a : PartOk w0 ta tc toks R 203 #[.pointer (some ⟨R, 0, none⟩)] f .atm
theorem part_zero (K : FuncId) (args : Array Value) (t : NT Vl) : PartOk w0 ta tc toks R K args 0 t := fun Z i G L w _ _ hne => absurd rfl hne
theorem all_ok (hE : EnvR w0 ta toks) : ∀ f, AllOk w0 ta tc toks R f := by
  intro f
  induction f using Nat.strongRecOn with
  | ind f ih =>
    cases f with
    | zero => exact ⟨part_zero _ _ _, fun n _ _ => part_zero _ _ _, part_zero _ _ _, part_zero _ _ _, part_zero _ _ _⟩
    | succ f =>
      have I := ih f (Nat.lt_succ_self f)
      exact ⟨condition_of hE f (I.o 2 (Nat.le_refl _) (by omega)) I.c, fun n h2 h7 => operation_of hE f n h2 h7 I.u (fun f' hf m hm2 hm7 => (ih f' (by omega)).o m hm2 hm7), unary_of hE f I.u I.h,
        chain_of hE f I.a (fun f' hf => (ih f' (by omega)).c), atom_of hE f (fun f' hf => (ih f' (by omega)).c)⟩
end
set_option maxRecDepth 100000 in
set_option maxHeartbeats 4000000 in
theorem catch_idle (E Er : Nat) (w : World) :
    CallsD Tryz.prog 49 #[.pointer (some ⟨E, 0, none⟩), .pointer (some ⟨Er, 0, none⟩)] .returning w fun e u' w' => e = .returned (.tuple #[]) ∧ u' = .returning ∧ w' = w := by
  refine callsD_of_wpS Tryz.func49 rfl fun c₀ cs hu => ?_
  apply wpS_seq
  apply wpS_region
  simp [wpOpsS, go_sem, recoverD, hu, Tryz.ntmps49, Exit.thenS]
  apply wpS_seq
  apply wpS_region
  simp [wpOpsS, go_sem, Exit.thenS]
  refine wpS_cond (t := false) (by simp [Act.eval, Array.replicate]) ?_
  simp only [Bool.false_eq_true, if_false]
  refine wpS_of_wp (wp_skip ?_)
  cases c₀
  simp_all [bodyPostS, results, Tryz.results49]
theorem catch_world (E Er er : Nat) (hne : E ≠ Er) (w : World) (hE : CellsAt w E 29 zeroC.toArray) (hr : CellsAt w Er 30 #[.int .i64 0]) (W : World) (hW : W = (((((((((((w.setCell ⟨E, 0, none⟩ (.int .i64 0)).setCell ⟨E, 1, none⟩ (.string ⟨#[]⟩)).setCell ⟨E, 2, none⟩ (.int .i64 0)).setCell ⟨E, 3, none⟩ (.bool false)).setCell ⟨E, 4, none⟩ (.int .i64 0)).setCell ⟨E, 5, none⟩ (.string ⟨#[]⟩)).setCell ⟨E, 6, none⟩ (.slice none 0 0)).setCell ⟨E, 7, none⟩ (.slice none 0 0)).setCell ⟨E, 8, none⟩ (.slice none 0 0)).setCell ⟨E, 9, none⟩ (.slice none 0 0)).setCell ⟨Er, 0, none⟩ (.int .i64 (er : Nat))).drew) :
    CellsAt W E 29 zeroC.toArray ∧ CellsAt W Er 30 #[.int .i64 (er : Nat)] ∧ (∀ j, j ≠ E → j ≠ Er → W.heap[j]? = w.heap[j]?) ∧ W.os = w.os ∧ W.tape = w.tape ∧ W.output = w.output ∧ W.heap.size = w.heap.size := by
  have h1 := (((((((((((hE.set 0 (.int .i64 0)).set 1 (.string ⟨#[]⟩)).set 2 (.int .i64 0)).set 3 (.bool false)).set 4 (.int .i64 0)).set 5 (.string ⟨#[]⟩)).set 6 (.slice none 0 0)).set 7 (.slice none 0 0)).set 8 (.slice none 0 0)).set 9 (.slice none 0 0)).other hne 0 (.int .i64 (er : Nat))).drew
  have h2 := (((((((((((hr.other (Ne.symm hne) 0 (.int .i64 0)).other (Ne.symm hne) 1 (.string ⟨#[]⟩)).other (Ne.symm hne) 2 (.int .i64 0)).other (Ne.symm hne) 3 (.bool false)).other (Ne.symm hne) 4 (.int .i64 0)).other (Ne.symm hne) 5 (.string ⟨#[]⟩)).other (Ne.symm hne) 6 (.slice none 0 0)).other (Ne.symm hne) 7 (.slice none 0 0)).other (Ne.symm hne) 8 (.slice none 0 0)).other (Ne.symm hne) 9 (.slice none 0 0)).set 0 (.int .i64 (er : Nat))).drew
  rw [← hW] at h1 h2
  have s1 : ∀ (u : World) (p : Addr) (v : Value), (u.setCell p v).os = u.os ∧ (u.setCell p v).tape = u.tape ∧ (u.setCell p v).output = u.output ∧ (u.setCell p v).heap.size = u.heap.size := fun u p v => ⟨rfl, rfl, rfl, by simp⟩
  have s2 : ∀ (u : World), u.drew.os = u.os ∧ u.drew.tape = u.tape ∧ u.drew.output = u.output ∧ u.drew.heap.size = u.heap.size := fun u => ⟨rfl, rfl, rfl, rfl⟩
  have a1 := fun u p v => (s1 u p v).1
  have a2 := fun u p v => (s1 u p v).2.1
  have a3 := fun u p v => (s1 u p v).2.2.1
  have a4 := fun u p v => (s1 u p v).2.2.2
  have b1 := fun u => (s2 u).1
  have b2 := fun u => (s2 u).2.1
  have b3 := fun u => (s2 u).2.2.1
  have b4 := fun u => (s2 u).2.2.2
  refine ⟨h1, h2, fun j a b => ?_, by simp only [hW, a1, b1], by simp only [hW, a2, b2], by simp only [hW, a3, b3], by simp only [hW, a4, b4]⟩
  have hd : ∀ u : World, u.drew.heap[j]? = u.heap[j]? := fun _ => rfl
  rw [hW, hd, set_other b, set_other a, set_other a, set_other a, set_other a, set_other a, set_other a, set_other a, set_other a, set_other a, set_other a]
theorem typeA (er : Nat) (w : World) : (Instr.typeAssert (.iface 30 (.int .i64 (er : Nat))) 20 30 false).run Tryz.prog w = .ok (.int .i64 (er : Nat)) w := by kernel_rfl
set_option maxRecDepth 100000 in
set_option maxHeartbeats 4000000 in
theorem catch_panicking (E Er er : Nat) (hne : E ≠ Er) (w : World) (hE : CellsAt w E 29 zeroC.toArray) (hr : CellsAt w Er 30 #[.int .i64 0]) :
    CallsD Tryz.prog 49 #[.pointer (some ⟨E, 0, none⟩), .pointer (some ⟨Er, 0, none⟩)] (.panicking ({ v := .iface 30 (.int .i64 (er : Nat)), recovered := false } :: [])) w fun e u' w' => e = .returned (.tuple #[]) ∧ u' = .panicking ({ v := .iface 30 (.int .i64 (er : Nat)), recovered := true } :: []) ∧
      CellsAt w' E 29 zeroC.toArray ∧ CellsAt w' Er 30 #[.int .i64 (er : Nat)] ∧ (∀ j, j ≠ E → j ≠ Er → w'.heap[j]? = w.heap[j]?) ∧ w'.os = w.os ∧ w'.tape = w.tape ∧ w'.output = w.output ∧ w'.heap.size = w.heap.size := by
  have e0 := hE.cell (k := 0) (u := .int .i64 0) rfl
  have e1 := hE.cell (k := 1) (u := .string ⟨#[]⟩) rfl
  have e2 := hE.cell (k := 2) (u := .int .i64 0) rfl
  have e3 := hE.cell (k := 3) (u := .bool false) rfl
  have e4 := hE.cell (k := 4) (u := .int .i64 0) rfl
  have e5 := hE.cell (k := 5) (u := .string ⟨#[]⟩) rfl
  have e6 := hE.cell (k := 6) (u := .slice none 0 0) rfl
  have e7 := hE.cell (k := 7) (u := .slice none 0 0) rfl
  have e8 := hE.cell (k := 8) (u := .slice none 0 0) rfl
  have e9 := hE.cell (k := 9) (u := .slice none 0 0) rfl
  have f0 := hE.frozen 0
  have f1 := hE.frozen 1
  have f2 := hE.frozen 2
  have f3 := hE.frozen 3
  have f4 := hE.frozen 4
  have f5 := hE.frozen 5
  have f6 := hE.frozen 6
  have f7 := hE.frozen 7
  have f8 := hE.frozen 8
  have f9 := hE.frozen 9
  have r0 := hr.cell (k := 0) (u := .int .i64 0) rfl
  have rf := hr.frozen 0
  have hta := typeA er
  refine callsD_of_wpS Tryz.func49 rfl fun c₀ cs hu => ?_
  apply wpS_seq
  apply wpS_region
  simp [wpOpsS, go_sem, recoverD, hu, Tryz.ntmps49, Exit.thenS]
  apply wpS_seq
  apply wpS_region
  simp [wpOpsS, go_sem, Exit.thenS]
  refine wpS_cond (t := true) (by simp [Act.eval, Array.replicate]) ?_
  simp only [if_true]
  refine wpS_of_wp ?_
  simp only [Array.replicate_succ, Array.replicate_zero, List.push_toArray, List.append_toArray, List.nil_append, List.cons_append, List.setIfInBounds_toArray, List.set_cons_zero, List.set_cons_succ]
  go_region
  exact ⟨rfl, _, rfl, .tuple #[], by simp [results, Tryz.results49], rfl, rfl, catch_world E Er er hne w hE hr _ rfl⟩
end Go.Proofs.YtjehhldboopocaaGreatDoor.Lx
namespace Go.Proofs.YtjehhldboopocaaGreatDoor.Lx
open Go.RowKit Go.Lib
set_option linter.unusedVariables false
theorem store_world (E Er : Nat) (hne : E ≠ Er) (c0 c1 c2 c3 c4 c5 c6 c7 c8 c9 : Value) (w : World) (hE : CellsAt w E 29 zeroC.toArray) (hr : CellsAt w Er 30 #[.int .i64 0]) (W : World) (hW : W = ((((((((((w.setCell ⟨E, 0, none⟩ c0).setCell ⟨E, 1, none⟩ c1).setCell ⟨E, 2, none⟩ c2).setCell ⟨E, 3, none⟩ c3).setCell ⟨E, 4, none⟩ c4).setCell ⟨E, 5, none⟩ c5).setCell ⟨E, 6, none⟩ c6).setCell ⟨E, 7, none⟩ c7).setCell ⟨E, 8, none⟩ c8).setCell ⟨E, 9, none⟩ c9).setCell ⟨Er, 0, none⟩ (.int .i64 0)) :
    CellsAt W E 29 #[c0, c1, c2, c3, c4, c5, c6, c7, c8, c9] ∧ CellsAt W Er 30 #[.int .i64 0] ∧ (∀ j, j ≠ E → j ≠ Er → W.heap[j]? = w.heap[j]?) ∧ W.os = w.os ∧ W.tape = w.tape ∧ W.output = w.output ∧ W.heap.size = w.heap.size := by
  have h1 := ((((((((((hE.set 0 c0).set 1 c1).set 2 c2).set 3 c3).set 4 c4).set 5 c5).set 6 c6).set 7 c7).set 8 c8).set 9 c9).other hne 0 (.int .i64 0)
  have h2 := ((((((((((hr.other (Ne.symm hne) 0 c0).other (Ne.symm hne) 1 c1).other (Ne.symm hne) 2 c2).other (Ne.symm hne) 3 c3).other (Ne.symm hne) 4 c4).other (Ne.symm hne) 5 c5).other (Ne.symm hne) 6 c6).other (Ne.symm hne) 7 c7).other (Ne.symm hne) 8 c8).other (Ne.symm hne) 9 c9).set 0 (.int .i64 0)
  rw [← hW] at h1 h2
  have e1 : ((((((((((zeroC.toArray.setIfInBounds 0 c0).setIfInBounds 1 c1).setIfInBounds 2 c2).setIfInBounds 3 c3).setIfInBounds 4 c4).setIfInBounds 5 c5).setIfInBounds 6 c6).setIfInBounds 7 c7).setIfInBounds 8 c8).setIfInBounds 9 c9) = #[c0, c1, c2, c3, c4, c5, c6, c7, c8, c9] := by simp only [zeroC, List.setIfInBounds_toArray, List.set_cons_zero, List.set_cons_succ]
  rw [e1] at h1
  have s1 : ∀ (u : World) (p : Addr) (v : Value), (u.setCell p v).os = u.os ∧ (u.setCell p v).tape = u.tape ∧ (u.setCell p v).output = u.output ∧ (u.setCell p v).heap.size = u.heap.size := fun u p v => ⟨rfl, rfl, rfl, by simp⟩
  have a1 := fun u p v => (s1 u p v).1
  have a2 := fun u p v => (s1 u p v).2.1
  have a3 := fun u p v => (s1 u p v).2.2.1
  have a4 := fun u p v => (s1 u p v).2.2.2
  refine ⟨h1, h2, fun j a b => ?_, by simp only [hW, a1], by simp only [hW, a2], by simp only [hW, a3], by simp only [hW, a4]⟩
  rw [hW, set_other b, set_other a, set_other a, set_other a, set_other a, set_other a, set_other a, set_other a, set_other a, set_other a, set_other a]
theorem top_read {w0 : World} {ta : Option Addr} {tc : Nat} {toks : List Tm} {Z : Nat → Prop} {R i : Nat} {G : Value} {x : Xp} {w : World} (h : RS w0 ta tc toks Z R i G ([] ++ [x]) w) :
    ∃ g cap C m, G = .slice (some ⟨g, 0, none⟩) 1 cap ∧ (∀ q u, C[q]? = some u → w.cell? ⟨g, q, none⟩ = some u) ∧ StD (OkB Z R G) w (fun w' => IsE m w' C x) ∧ R + 1 ≤ g := by
  obtain ⟨Cs, hown, hels⟩ := h.stk.els
  have hl := hels.1
  obtain ⟨C, rfl⟩ : ∃ C, Cs = [C] := List.length_eq_one_iff.1 (by rw [hl]; rfl)
  obtain ⟨m, hm⟩ := hels.2 0 C x rfl rfl
  rcases own_shape hown with ⟨_, h0, _⟩ | ⟨g, cap, hG, _, _, hg, _⟩
  · simp at h0
  · subst hG
    refine ⟨g, cap, C, m, rfl, fun q u hq => own_cell hown (by rw [List.flatten_cons, List.flatten_nil, List.append_nil]; exact hq), hm, hg⟩
section
variable {w0 : World} {ta : Option Addr} {tc : Nat} {toks : List Tm} {R : Nat}
/-- What expression and Take answer: an expression with the tokens read, or the error with its index. -/
def ExpPost (w0 : World) (R : Nat) (r : PR Vl) (e : Ending) (w' : World) : Prop := Below w0.heap.size w0 w' ∧ match r with
  | .out => True
  | .err a er => e = .returned (.tuple #[.agg zeroC.toArray, .int .i64 (er : Nat)]) ∧ w'.cell? ⟨R, 1, none⟩ = some (.int .i64 a)
  | .ok x a => (∃ C m, e = .returned (.tuple #[.agg (List.toArray C), .int .i64 0]) ∧ StD (fun j => w0.heap.size ≤ j ∧ j ≠ R) w' (fun w2 => IsE m w2 C x)) ∧ w'.cell? ⟨R, 1, none⟩ = some (.int .i64 a)
set_option maxRecDepth 100000 in
set_option maxHeartbeats 8000000 in
theorem expression_any (hE : EnvR w0 ta toks) (F : Nat) (hF : pP toks F .cond 0 ≠ .out) (hR : w0.heap.size ≤ R) (w : World) (hb : Below w0.heap.size w0 w)
    (hc : CellsAt w R 61 #[.slice ta toks.length tc, .int .i64 0, .int .i64 0, .string ⟨#[]⟩, .int .i64 0, .slice none 0 0]) :
    Calls Tryz.prog 29 #[.pointer (some ⟨R, 0, none⟩)] w (ExpPost w0 R (pP toks F .cond 0)) := by
  obtain ⟨W1, hW1⟩ : ∃ W1, W1 = (w.alloc (.cells #[.int .i64 0, .string ⟨#[]⟩, .int .i64 0, .bool false, .int .i64 0, .string ⟨#[]⟩, .slice none 0 0, .slice none 0 0, .slice none 0 0, .slice none 0 0] 29)).alloc (.cells #[.int .i64 0] 30) := ⟨_, rfl⟩
  have hB1 : Below w.heap.size w W1 := by rw [hW1]; exact ((Below.refl _ w).alloc (Nat.le_refl _) _).alloc (by simp) _
  have hlt := hc.lt
  have hz0 := hb.size
  have hc1 := hc.below hB1
  have hE1 : CellsAt W1 w.heap.size 29 zeroC.toArray := by rw [hW1]; exact (CellsAt.new w _ _).alloc _
  have hEr1 : CellsAt W1 (w.heap.size + 1) 30 #[.int .i64 0] := by
    have := CellsAt.new (w.alloc (.cells #[.int .i64 0, .string ⟨#[]⟩, .int .i64 0, .bool false, .int .i64 0, .string ⟨#[]⟩, .slice none 0 0, .slice none 0 0, .slice none 0 0, .slice none 0 0] 29)) 30 #[.int .i64 0]
    rw [← hW1] at this
    simpa using this
  have K := look_any (tc := tc) hE R 0 hR (Nat.zero_le _) 0 0 ⟨#[]⟩ (.slice none 0 0) W1 (hb.trans (hB1.mono hz0)) hc1
  rw [hW1] at K
  have K := Lib.hid K
  have HW1 := Lib.hid hW1
  have HE := Lib.hid hE
  have HE1 := Lib.hid hE1
  have HEr1 := Lib.hid hEr1
  have HB1 := Lib.hid (hb.trans (hB1.mono hz0))
  have HF := Lib.hid hF
  have hWz : w.heap.size + 2 = W1.heap.size := by rw [hW1]; simp
  have HWZ := Lib.hid hWz
  obtain ⟨r, hr⟩ : ∃ r, r = pP toks F .cond 0 := ⟨_, rfl⟩
  rw [← hr]
  have HR := Lib.hid hr
  have hmf : ∀ (fn : Fn) (first cap : Array Value) (w : World), (Instr.makeFunc fn first cap).run Tryz.prog w = .ok (.func fn first cap) w := fun _ _ _ _ => rfl
  obtain ⟨Q, hQ⟩ : ∃ Q, Q = ExpPost w0 R r := ⟨_, rfl⟩
  rw [← hQ]
  have HQ := Lib.hid hQ
  clear hW1 hB1 hc1 hE1 hEr1 hE hb hc hF hWz hr hQ
  go_enter_defers Tryz.func29, Tryz.ntmps29
  go_wp2_with fail
  go_fit K.out
  rw [← HW1.out]
  rintro e w2 ⟨rfl, hcb, hb2⟩
  have HE2 := HE1.out.of_block (hb2.at HE1.out.lt (by omega))
  have HEr2 := HEr1.out.of_block (hb2.at HEr1.out.lt (by omega))
  have hRS : RS w0 ta tc toks (fun k => (k = w.heap.size ∨ k = w.heap.size + 1) ∨ k < w0.heap.size) R 0 (.slice none 0 0) [] w2 :=
    ⟨hb2.below hR HB1.out, hR, Nat.zero_le _, Nat.le_refl _, hcb, ⟨[], World.ownsRow_nil _ _ _ _, rfl, fun j C x hC => by simp at hC⟩⟩
  have CC := (all_ok (tc := tc) (R := R) HE.out F).c _ 0 _ [] w2 (fun k hk => by have := hb2.size; have := HWZ.out; rcases hk with (e | e) | e <;> omega) hRS HF.out
  rw [← HR.out] at CC
  have CC := Lib.hid CC
  have HE2 := Lib.hid HE2
  have HEr2 := Lib.hid HEr2
  have HN := Lib.hid (show r ≠ .out by rw [HR.out]; exact HF.out)
  clear hcb hb2 hRS K HF HR HE1 HEr1 HW1
  go_wp2_with fail
  go_fit CC.out
  clear CC
  cases r with
  | out => exact absurd rfl HN.out
  | err a er =>
    rintro e w3 ⟨rfl, ⟨G3, f3⟩, hb3, hc3⟩
    have E3 := Lib.hid (HE2.out.of_block (f3.block _ HE2.out.lt (by omega) (by simp [Value.ownBlock])))
    have Er3 := Lib.hid (HEr2.out.of_block (f3.block _ HEr2.out.lt (by omega) (by simp [Value.ownBlock])))
    have HB3 := Lib.hid hb3
    have HC3 := Lib.hid hc3
    clear f3 hb3 hc3
    go_wp2_with fail
    refine leaves_cons (f := 49) (args := #[.pointer (some ⟨w.heap.size, 0, none⟩), .pointer (some ⟨w.heap.size + 1, 0, none⟩)]) (by simp) (by simp [go_sem]) ?_
    refine (catch_panicking w.heap.size (w.heap.size + 1) er (by omega) w3 E3.out Er3.out).mono ?_
    rintro e u' w4 ⟨rfl, rfl, h1, h2, h3, h4, h5, h6, h7⟩
    have HB4 := Lib.hid (show Below w0.heap.size w0 w4 from ⟨h4.trans HB3.out.os, h5.trans HB3.out.tape, h6.trans HB3.out.output, by have := HB3.out.size; omega, fun j hj => (h3 j (by omega) (by omega)).trans (HB3.out.block j hj)⟩)
    have HC4 := Lib.hid (show w4.cell? ⟨R, 1, none⟩ = some (.int .i64 a) from (World.cell?_of_block (w := w3) (a := ⟨R, 1, none⟩) (h3 R (by omega) (by omega))).trans HC3.out)
    have y0 := h1.cell (k := 0) (u := .int .i64 0) rfl
    have y1 := h1.cell (k := 1) (u := .string ⟨#[]⟩) rfl
    have y2 := h1.cell (k := 2) (u := .int .i64 0) rfl
    have y3 := h1.cell (k := 3) (u := .bool false) rfl
    have y4 := h1.cell (k := 4) (u := .int .i64 0) rfl
    have y5 := h1.cell (k := 5) (u := .string ⟨#[]⟩) rfl
    have y6 := h1.cell (k := 6) (u := .slice none 0 0) rfl
    have y7 := h1.cell (k := 7) (u := .slice none 0 0) rfl
    have y8 := h1.cell (k := 8) (u := .slice none 0 0) rfl
    have y9 := h1.cell (k := 9) (u := .slice none 0 0) rfl
    have yr := h2.cell (k := 0) (u := .int .i64 (er : Nat)) rfl
    clear h1 h2 h3 h4 h5 h6 h7
    simp [Leaves, settle, results, Tryz.results29, go_sem, y0, y1, y2, y3, y4, y5, y6, y7, y8, y9, yr]
    rw [HQ.out]
    exact ⟨HB4.out, rfl, HC4.out⟩
  | ok x a =>
    rintro e w3 ⟨rfl, hlt3, G3, h3, f3⟩
    have HB3 := Lib.hid h3.below
    obtain ⟨na, hcb⟩ := h3.box
    have hc1 := hcb.cell (k := 1) (u := .int .i64 a) rfl
    obtain ⟨g, cap, C, m, rfl, hcell, hst, hgR⟩ := top_read h3
    have c5 := hcb.cell (k := 5) (u := .slice (some ⟨g, 0, none⟩) 1 cap) rfl
    have hgE : ∀ j, j < w2.heap.size → R + 1 ≤ j → j ≠ g := fun j hj hR' e => by
      subst e
      rcases f3.lies with e2 | ⟨k, e2, hk⟩
      · simp [Value.ownBlock] at e2
      · simp only [Value.ownBlock, Option.some.injEq] at e2
        omega
    have hg1 := hgE _ HE2.out.lt (by omega)
    have hg2 := hgE _ HEr2.out.lt (by omega)
    obtain ⟨k, n, vk, vt, vi, vs, vl, vks, vav, vc, vkv, vkc, l, ks, av, c, kv, kc, hxe, rfl, _⟩ := hst.here
    have E3 := HE2.out.of_block (f3.block _ HE2.out.lt (by omega) (by simp [Value.ownBlock]))
    have Er3 := HEr2.out.of_block (f3.block _ HEr2.out.lt (by omega) (by simp [Value.ownBlock]))
    have z0 := hcell 0 (.int .i64 k) rfl
    have z1 := hcell 1 (.string ⟨n.toArray⟩) rfl
    have z2 := hcell 2 (.int .i64 vk) rfl
    have z3 := hcell 3 (.bool vt) rfl
    have z4 := hcell 4 (.int .i64 vi) rfl
    have z5 := hcell 5 (.string vs) rfl
    have z6 := hcell 6 (.slice vav vl.length vc) rfl
    have z7 := hcell 7 (.slice vkv vks.length vkc) rfl
    have z8 := hcell 8 (.slice av l.length c) rfl
    have z9 := hcell 9 (.slice kv ks.length kc) rfl
    have e0 := E3.cell (k := 0) (u := .int .i64 0) rfl
    have fe0 := E3.frozen 0
    have e1 := E3.cell (k := 1) (u := .string ⟨#[]⟩) rfl
    have fe1 := E3.frozen 1
    have e2 := E3.cell (k := 2) (u := .int .i64 0) rfl
    have fe2 := E3.frozen 2
    have e3 := E3.cell (k := 3) (u := .bool false) rfl
    have fe3 := E3.frozen 3
    have e4 := E3.cell (k := 4) (u := .int .i64 0) rfl
    have fe4 := E3.frozen 4
    have e5 := E3.cell (k := 5) (u := .string ⟨#[]⟩) rfl
    have fe5 := E3.frozen 5
    have e6 := E3.cell (k := 6) (u := .slice none 0 0) rfl
    have fe6 := E3.frozen 6
    have e7 := E3.cell (k := 7) (u := .slice none 0 0) rfl
    have fe7 := E3.frozen 7
    have e8 := E3.cell (k := 8) (u := .slice none 0 0) rfl
    have fe8 := E3.frozen 8
    have e9 := E3.cell (k := 9) (u := .slice none 0 0) rfl
    have fe9 := E3.frozen 9
    have er0 := Er3.cell (k := 0) (u := .int .i64 0) rfl
    have fer := Er3.frozen 0
    have HST := Lib.hid hst
    have HE3 := Lib.hid E3
    have HEr3 := Lib.hid Er3
    have HC1 := Lib.hid hc1
    obtain ⟨nx, hnx⟩ : ∃ nx : ByteArray, nx = ⟨n.toArray⟩ := ⟨_, rfl⟩
    rw [← hnx] at z1 HST
    have HXE := Lib.hid hxe
    clear f3 h3 hcb hcell hst E3 Er3 hgE HE2 HEr2 hc1 hnx hxe
    go_wp2_with fail
    refine leaves_cons (f := 49) (args := #[.pointer (some ⟨w.heap.size, 0, none⟩), .pointer (some ⟨w.heap.size + 1, 0, none⟩)]) (by simp) (by simp [go_sem]) ?_
    refine (catch_idle w.heap.size (w.heap.size + 1) _).mono ?_
    rintro e u' w4 ⟨rfl, rfl, hw4⟩
    obtain ⟨h1, h2, h3, h4, h5, h6, h7⟩ := store_world w.heap.size (w.heap.size + 1) (by omega) _ _ _ _ _ _ _ _ _ _ w3 HE3.out HEr3.out w4 hw4
    have HB4 := Lib.hid (show Below w0.heap.size w0 w4 from ⟨h4.trans HB3.out.os, h5.trans HB3.out.tape, h6.trans HB3.out.output, by have := HB3.out.size; omega, fun j hj => (h3 j (by omega) (by omega)).trans (HB3.out.block j hj)⟩)
    have HC4 := Lib.hid (show w4.cell? ⟨R, 1, none⟩ = some (.int .i64 a) from (World.cell?_of_block (w := w3) (a := ⟨R, 1, none⟩) (h3 R (by omega) (by omega))).trans HC1.out)
    have HX := Lib.hid (HST.out.on (E := fun j => w0.heap.size ≤ j ∧ j ≠ R) (w' := w4) (by omega) fun j hj hok => ⟨h3 j (fun e => hok.2.2 (.inl (.inl e))) (fun e => hok.2.2 (.inl (.inr e))), Nat.le_of_not_lt fun e => hok.2.2 (.inr e), hok.1⟩)
    have y0 := h1.cell (k := 0) (u := .int .i64 k) rfl
    have y1 := h1.cell (k := 1) (u := .string nx) rfl
    have y2 := h1.cell (k := 2) (u := .int .i64 vk) rfl
    have y3 := h1.cell (k := 3) (u := .bool vt) rfl
    have y4 := h1.cell (k := 4) (u := .int .i64 vi) rfl
    have y5 := h1.cell (k := 5) (u := .string vs) rfl
    have y6 := h1.cell (k := 6) (u := .slice vav vl.length vc) rfl
    have y7 := h1.cell (k := 7) (u := .slice vkv vks.length vkc) rfl
    have y8 := h1.cell (k := 8) (u := .slice av l.length c) rfl
    have y9 := h1.cell (k := 9) (u := .slice kv ks.length kc) rfl
    have yr := h2.cell (k := 0) (u := .int .i64 0) rfl
    clear h1 h2 h3 h4 h5 h6 h7 hw4
    simp [Leaves, settle, results, Tryz.results29, go_sem, y0, y1, y2, y3, y4, y5, y6, y7, y8, y9, yr]
    rw [HQ.out]
    exact ⟨HB4.out, ⟨_, m, rfl, HX.out⟩, HC4.out⟩
end
end Go.Proofs.YtjehhldboopocaaGreatDoor.Lx
namespace Go.Proofs.YtjehhldboopocaaGreatDoor.Lx
open Go.RowKit Go.Lib
/-- The error of an expression. -/
noncomputable def validX (x : Xp) : Nat := if 4096 < (nodesX x).length then 15 else firstN (nodesX x)
theorem validE_X {w : World} {m : Nat} {C : List Value} {x : Xp} (h : IsE m w C x) : validE m x = validX x := by
  unfold validE validX
  rw [pre_nodes h]
/-- What Take answers. -/
def TakePost (w : World) (r : PR Vl) (e : Ending) (w' : World) : Prop := Below w.heap.size w w' ∧ match r with
  | .out => True
  | .err a er => e = .returned (.tuple #[.agg zeroC.toArray, .int .i64 a, .int .i64 (er : Nat)])
  | .ok x a => if validX x = 0 then ∃ C m, e = .returned (.tuple #[.agg (List.toArray C), .int .i64 a, .int .i64 0]) ∧ StD (fun j => w.heap.size ≤ j) w' (fun w2 => IsE m w2 C x)
      else e = .returned (.tuple #[.agg zeroC.toArray, .int .i64 0, .int .i64 (validX x : Nat)])
theorem EnvR.below {w w' : World} {ta : Option Addr} {toks : List Tm} (h : EnvR w ta toks) (hb : Below w.heap.size w w') : EnvR w' ta toks :=
  ⟨h.tab.below hb, h.reads.below hb, h.few, h.short⟩
theorem tsOf_len (toks : List Tm) : (tsOf toks).length = toks.length := by
  unfold tsOf seen
  simp
theorem tsOf_short {toks : List Tm} (h : ∀ t, t ∈ toks → t.text.length ≤ 1099511627776) (i : Nat) (k : Int) (s : List UInt8) (hs : (tsOf toks)[i]? = some (k, s)) : s.length ≤ 1099511627776 := by
  by_cases hi : i < toks.length
  · have h1 := nxt_get hi
    have h2 : nxt toks i = (k, s) := by unfold nxt; rw [hs]; rfl
    rw [h2] at h1
    split at h1
    · injection h1 with _ h1
      rw [h1]
      exact h _ (List.getElem_mem hi)
    · injection h1 with _ h1
      rw [h1]
      simp
  · rw [List.getElem?_eq_none (by rw [tsOf_len]; omega)] at hs
    cases hs

theorem store10 (E : Nat) (c0 c1 c2 c3 c4 c5 c6 c7 c8 c9 : Value) (w : World) (hE : CellsAt w E 29 zeroC.toArray) (W : World) (hW : W = (((((((((w.setCell ⟨E, 0, none⟩ c0).setCell ⟨E, 1, none⟩ c1).setCell ⟨E, 2, none⟩ c2).setCell ⟨E, 3, none⟩ c3).setCell ⟨E, 4, none⟩ c4).setCell ⟨E, 5, none⟩ c5).setCell ⟨E, 6, none⟩ c6).setCell ⟨E, 7, none⟩ c7).setCell ⟨E, 8, none⟩ c8).setCell ⟨E, 9, none⟩ c9) :
    CellsAt W E 29 #[c0, c1, c2, c3, c4, c5, c6, c7, c8, c9] ∧ (∀ n, n ≤ E → Below n w W) ∧ ∀ k, k ≠ E → W.heap[k]? = w.heap[k]? := by
  have h1 := (((((((((hE.set 0 c0).set 1 c1).set 2 c2).set 3 c3).set 4 c4).set 5 c5).set 6 c6).set 7 c7).set 8 c8).set 9 c9
  rw [← hW] at h1
  have e1 : ((((((((((zeroC.toArray.setIfInBounds 0 c0).setIfInBounds 1 c1).setIfInBounds 2 c2).setIfInBounds 3 c3).setIfInBounds 4 c4).setIfInBounds 5 c5).setIfInBounds 6 c6).setIfInBounds 7 c7).setIfInBounds 8 c8).setIfInBounds 9 c9) = #[c0, c1, c2, c3, c4, c5, c6, c7, c8, c9] := by simp only [zeroC, List.setIfInBounds_toArray, List.set_cons_zero, List.set_cons_succ]
  rw [e1] at h1
  refine ⟨h1, fun n hn => ?_, fun k hk => by rw [hW, set_other hk, set_other hk, set_other hk, set_other hk, set_other hk, set_other hk, set_other hk, set_other hk, set_other hk, set_other hk]⟩
  rw [hW]
  exact ((((((((((Below.refl _ w).setCell hn _).setCell hn _).setCell hn _).setCell hn _).setCell hn _).setCell hn _).setCell hn _).setCell hn _).setCell hn _).setCell hn _

theorem take_fin {n E R : Nat} {w2 w4 W : World} {P : World → Prop} (h : StD (fun j => n ≤ j ∧ j ≠ R) w2 P) (hn : n = E + 1) (hR : R = n) (hs : w2.heap.size ≤ w4.heap.size) (hz : w4.heap.size ≤ W.heap.size)
    (h4 : ∀ k, k < w2.heap.size → w4.heap[k]? = w2.heap[k]?) (hW : ∀ k, k ≠ E → W.heap[k]? = w4.heap[k]?) : StD (fun j => E ≤ j) W.drew P := by
  refine h.on (w' := W.drew) (Nat.le_trans hs hz) fun j hj hok => ⟨?_, by omega⟩
  show W.heap[j]? = _
  exact (hW j (by omega)).trans (h4 j hj)

set_option maxRecDepth 100000 in
set_option maxHeartbeats 8000000 in
theorem take_any (ta : Option Addr) (tc : Nat) (toks : List Tm) (w : World) (hE : EnvR w ta toks) (F : Nat) (hF : pP toks F .cond 0 ≠ .out) :
    Calls Tryz.prog 14 #[.slice ta toks.length tc] w (TakePost w (pP toks F .cond 0)) := by
  obtain ⟨w0, hw0⟩ : ∃ w0, w0 = w.alloc (.cells #[.int .i64 0, .string ⟨#[]⟩, .int .i64 0, .bool false, .int .i64 0, .string ⟨#[]⟩, .slice none 0 0, .slice none 0 0, .slice none 0 0, .slice none 0 0] 29) := ⟨_, rfl⟩
  have hs0 : w0.heap.size = w.heap.size + 1 := by rw [hw0]; simp
  have hb0 : Below w.heap.size w w0 := by rw [hw0]; exact (Below.refl _ w).alloc (Nat.le_refl _) _
  have hc0 : CellsAt w0 w.heap.size 29 zeroC.toArray := by rw [hw0]; exact CellsAt.new w _ _
  have hE0 := hE.below hb0
  have gm : GoodR (pP toks F .cond 0) := pG_sm litsP (tsOf_short hE.short) F .cond 0 trivial
  have ge : GoodE (tsOf toks).length (pP toks F .cond 0) := pG_er litsP F .cond 0 (Nat.zero_le _) trivial
  obtain ⟨w1, hw1⟩ : ∃ w1, w1 = w0.alloc (.cells #[.slice ta toks.length tc, .int .i64 0, .int .i64 0, .string ⟨#[]⟩, .int .i64 0, .slice none 0 0] 61) := ⟨_, rfl⟩
  have hb1 : Below w0.heap.size w0 w1 := by rw [hw1]; exact (Below.refl _ w0).alloc (Nat.le_refl _) _
  have K := expression_any (tc := tc) hE0 F hF (R := w0.heap.size) (Nat.le_refl _) w1 hb1 (by rw [hw1]; exact CellsAt.new w0 _ _)
  rw [hs0, hw1, hw0] at K
  have HK := Lib.hid K
  clear K
  obtain ⟨r, hr⟩ : ∃ r, r = pP toks F .cond 0 := ⟨_, rfl⟩
  rw [← hr] at HK gm ge hF ⊢
  have HT := Lib.hid hE0.tab
  have HW0 := Lib.hid hw0
  have HC0 := Lib.hid hc0
  have HB0 := Lib.hid hb0
  have HN := Lib.hid hF
  have GM := Lib.hid gm
  have GE := Lib.hid ge
  obtain ⟨Q, hQ⟩ : ∃ Q, Q = TakePost w r := ⟨_, rfl⟩
  rw [← hQ]
  have HQ := Lib.hid hQ
  clear hr hw0 hc0 hb0 hE0 gm ge hF hE hb1 hw1 hQ
  go_enter Tryz.func14, Tryz.ntmps14
  go_wp2_with fail
  go_fit HK.out
  clear HK
  rw [← HW0.out]
  cases r with
  | out => exact absurd rfl HN.out
  | err a er =>
    rintro e w2 ⟨hb2, hret, hc1⟩
    unfold zeroC at hret
    subst hret
    have hc1 : w2.cell? ⟨w.heap.size + 1, 1, none⟩ = some (.int .i64 (a : Int)) := hc1
    have hz1 : w.heap.size + 1 < w2.heap.size := World.block_lt_of_cell? w2 _ hc1
    have hc2 := HC0.out.of_block (hb2.block _ (by omega))
    have f0 := hc2.frozen 0
    have z0 := hc2.cell (k := 0) (u := .int .i64 0) rfl
    have f1 := hc2.frozen 1
    have z1 := hc2.cell (k := 1) (u := .string ⟨#[]⟩) rfl
    have f2 := hc2.frozen 2
    have z2 := hc2.cell (k := 2) (u := .int .i64 0) rfl
    have f3 := hc2.frozen 3
    have z3 := hc2.cell (k := 3) (u := .bool false) rfl
    have f4 := hc2.frozen 4
    have z4 := hc2.cell (k := 4) (u := .int .i64 0) rfl
    have f5 := hc2.frozen 5
    have z5 := hc2.cell (k := 5) (u := .string ⟨#[]⟩) rfl
    have f6 := hc2.frozen 6
    have z6 := hc2.cell (k := 6) (u := .slice none 0 0) rfl
    have f7 := hc2.frozen 7
    have z7 := hc2.cell (k := 7) (u := .slice none 0 0) rfl
    have f8 := hc2.frozen 8
    have z8 := hc2.cell (k := 8) (u := .slice none 0 0) rfl
    have f9 := hc2.frozen 9
    have z9 := hc2.cell (k := 9) (u := .slice none 0 0) rfl
    have e0 : ((er : Int) == 0) = false := by rw [beq_eq_false_iff_ne]; rcases GE.out.1 with e | e <;> omega
    have e1 : ((er : Int) != 0) = true := by rw [bne, e0]; rfl
    have HC2 := Lib.hid hc2
    have HB2 := Lib.hid (HB0.out.trans (hb2.mono HB0.out.size))
    have hlt2 := hc2.lt
    clear hc2 hb2
    go_wp2_with fail
    go_region
    go_wp2_with fail
    have h10 := store10 w.heap.size (.int .i64 0) (.string ⟨#[]⟩) (.int .i64 0) (.bool false) (.int .i64 0) (.string ⟨#[]⟩) (.slice none 0 0) (.slice none 0 0) (.slice none 0 0) (.slice none 0 0) w2 HC2.out _ rfl
    have hA := h10.1.alloc (.cells #[.int .i64 0, .string ⟨#[]⟩, .int .i64 0, .bool false, .int .i64 0, .string ⟨#[]⟩, .slice none 0 0, .slice none 0 0, .slice none 0 0, .slice none 0 0] 29)
    have y0 := hA.cell (k := 0) (u := .int .i64 0) rfl
    have y1 := hA.cell (k := 1) (u := .string ⟨#[]⟩) rfl
    have y2 := hA.cell (k := 2) (u := .int .i64 0) rfl
    have y3 := hA.cell (k := 3) (u := .bool false) rfl
    have y4 := hA.cell (k := 4) (u := .int .i64 0) rfl
    have y5 := hA.cell (k := 5) (u := .string ⟨#[]⟩) rfl
    have y6 := hA.cell (k := 6) (u := .slice none 0 0) rfl
    have y7 := hA.cell (k := 7) (u := .slice none 0 0) rfl
    have y8 := hA.cell (k := 8) (u := .slice none 0 0) rfl
    have y9 := hA.cell (k := 9) (u := .slice none 0 0) rfl
    refine bodyPost_ret (v := .tuple #[.agg #[.int .i64 0, .string ⟨#[]⟩, .int .i64 0, .bool false, .int .i64 0, .string ⟨#[]⟩, .slice none 0 0, .slice none 0 0, .slice none 0 0, .slice none 0 0], .int .i64 a, .int .i64 (er : Nat)]) (by simp [results, Tryz.results14, go_sem, y0, y1, y2, y3, y4, y5, y6, y7, y8, y9]) rfl ?_
    rw [HQ.out]
    exact ⟨((HB2.out.trans (h10.2.1 _ (Nat.le_refl _))).alloc (by have := HB2.out.size; simp; omega) _).drew, rfl⟩
  | ok x a =>
    rintro e w2 ⟨hb2, ⟨C, m, hret, hst⟩, hc1⟩
    have hx := hst.here
    have HST := Lib.hid hst
    have hc1 : w2.cell? ⟨w.heap.size + 1, 1, none⟩ = some (.int .i64 (a : Int)) := hc1
    have hz1 : w.heap.size + 1 < w2.heap.size := World.block_lt_of_cell? w2 _ hc1
    have hc2 := HC0.out.of_block (hb2.block _ (by omega))
    have hB2 := HB0.out.trans (hb2.mono HB0.out.size)
    have hbA : Below w2.heap.size w2 (w2.alloc (.cells C.toArray 29)) := (Below.refl _ _).alloc (Nat.le_refl _) _
    have V := validE_any m C x _ (hx.below hbA) GM.out ((HT.out.below hb2).below hbA)
    rw [validE_X hx] at V
    have CE := CellsAt.new w2 29 C.toArray
    have HX := Lib.hid (hx.below hbA)
    have HB3 := Lib.hid (hB2.trans (hbA.mono hB2.size))
    have HC3 := Lib.hid (hc2.below hbA)
    have HC1 := Lib.hid ((hbA.cell (p := ⟨w.heap.size + 1, 1, none⟩) hz1).trans hc1)
    obtain ⟨z, hz⟩ : ∃ z, z = validX x := ⟨_, rfl⟩
    rw [← hz] at V
    have HZ := Lib.hid hz
    obtain ⟨k, n, vk, vt, vi, vs, vl, vks, vav, vc, vkv, vkc, l, ks, av, c, kv, kc, _, rfl, hrest⟩ := id hx
    obtain ⟨nx, hnx⟩ : ∃ nx : ByteArray, nx = ⟨n.toArray⟩ := ⟨_, rfl⟩
    rw [← hnx] at V HX HB3 HC3 HC1 CE hret HST
    have HV := Lib.hid V
    have HCE := Lib.hid CE
    subst hret
    have hlt3 : w.heap.size < w2.heap.size := by omega
    clear V CE hz hrest hnx hx hbA hB2 hc2 hb2 hst
    go_wp2_with fail
    go_fit HV.out
    rintro e w4 ⟨rfl, hb4⟩
    have HB4 := Lib.hid (HB3.out.trans (hb4.mono HB3.out.size))
    have hlt4 := hb4.size
    have hR := HC3.out.below hb4
    have hE4 := HCE.out.below hb4
    have g1 := (hb4.cell (p := ⟨w.heap.size + 1, 1, none⟩) (by simp; omega)).trans HC1.out
    have HK4 := Lib.hid (show ∀ k, k < w2.heap.size → w4.heap[k]? = w2.heap[k]? from fun k hk => (hb4.block k (by simp; omega)).trans (Below.heap_alloc _ _ k hk))
    have f0 := hR.frozen 0
    have z0 := hR.cell (k := 0) (u := .int .i64 0) rfl
    have f1 := hR.frozen 1
    have z1 := hR.cell (k := 1) (u := .string ⟨#[]⟩) rfl
    have f2 := hR.frozen 2
    have z2 := hR.cell (k := 2) (u := .int .i64 0) rfl
    have f3 := hR.frozen 3
    have z3 := hR.cell (k := 3) (u := .bool false) rfl
    have f4 := hR.frozen 4
    have z4 := hR.cell (k := 4) (u := .int .i64 0) rfl
    have f5 := hR.frozen 5
    have z5 := hR.cell (k := 5) (u := .string ⟨#[]⟩) rfl
    have f6 := hR.frozen 6
    have z6 := hR.cell (k := 6) (u := .slice none 0 0) rfl
    have f7 := hR.frozen 7
    have z7 := hR.cell (k := 7) (u := .slice none 0 0) rfl
    have f8 := hR.frozen 8
    have z8 := hR.cell (k := 8) (u := .slice none 0 0) rfl
    have f9 := hR.frozen 9
    have z9 := hR.cell (k := 9) (u := .slice none 0 0) rfl
    have d0 := hE4.cell (k := 0) (u := .int .i64 k) rfl
    have d1 := hE4.cell (k := 1) (u := .string nx) rfl
    have d2 := hE4.cell (k := 2) (u := .int .i64 vk) rfl
    have d3 := hE4.cell (k := 3) (u := .bool vt) rfl
    have d4 := hE4.cell (k := 4) (u := .int .i64 vi) rfl
    have d5 := hE4.cell (k := 5) (u := .string vs) rfl
    have d6 := hE4.cell (k := 6) (u := .slice vav vl.length vc) rfl
    have d7 := hE4.cell (k := 7) (u := .slice vkv vks.length vkc) rfl
    have d8 := hE4.cell (k := 8) (u := .slice av l.length c) rfl
    have d9 := hE4.cell (k := 9) (u := .slice kv ks.length kc) rfl
    have HR := Lib.hid hR
    clear hR hE4 hb4 hc1
    by_cases h0 : z = 0
    · subst h0
      go_wp2_with fail
      go_region
      go_wp2_with fail
      have h10 := store10 w.heap.size (.int .i64 k) (.string nx) (.int .i64 vk) (.bool vt) (.int .i64 vi) (.string vs) (.slice vav vl.length vc) (.slice vkv vks.length vkc) (.slice av l.length c) (.slice kv ks.length kc) w4 HR.out _ rfl
      have hA := h10.1
      have y0 := hA.cell (k := 0) (u := .int .i64 k) rfl
      have y1 := hA.cell (k := 1) (u := .string nx) rfl
      have y2 := hA.cell (k := 2) (u := .int .i64 vk) rfl
      have y3 := hA.cell (k := 3) (u := .bool vt) rfl
      have y4 := hA.cell (k := 4) (u := .int .i64 vi) rfl
      have y5 := hA.cell (k := 5) (u := .string vs) rfl
      have y6 := hA.cell (k := 6) (u := .slice vav vl.length vc) rfl
      have y7 := hA.cell (k := 7) (u := .slice vkv vks.length vkc) rfl
      have y8 := hA.cell (k := 8) (u := .slice av l.length c) rfl
      have y9 := hA.cell (k := 9) (u := .slice kv ks.length kc) rfl
      refine bodyPost_ret (v := .tuple #[.agg #[.int .i64 k, .string nx, .int .i64 vk, .bool vt, .int .i64 vi, .string vs, .slice vav vl.length vc, .slice vkv vks.length vkc, .slice av l.length c, .slice kv ks.length kc], .int .i64 a, .int .i64 0]) (by simp [results, Tryz.results14, go_sem, y0, y1, y2, y3, y4, y5, y6, y7, y8, y9]) rfl ?_
      rw [HQ.out]
      refine ⟨(HB4.out.trans (h10.2.1 _ (Nat.le_refl _))).drew, ?_⟩
      show if validX x = 0 then _ else _
      rw [← HZ.out, if_pos rfl]
      refine ⟨[.int .i64 k, .string nx, .int .i64 vk, .bool vt, .int .i64 vi, .string vs, .slice vav vl.length vc, .slice vkv vks.length vkc, .slice av l.length c, .slice kv ks.length kc], m, rfl, ?_⟩
      exact take_fin HST.out hs0 hs0.symm (by simp at hlt4; omega) (h10.2.1 _ (Nat.le_refl _)).size HK4.out h10.2.2
    · have e0 : ((z : Int) == 0) = false := by rw [beq_eq_false_iff_ne]; omega
      have e1 : ((z : Int) != 0) = true := by rw [bne, e0]; rfl
      go_wp2_with fail
      have h10 := store10 w.heap.size (.int .i64 0) (.string ⟨#[]⟩) (.int .i64 0) (.bool false) (.int .i64 0) (.string ⟨#[]⟩) (.slice none 0 0) (.slice none 0 0) (.slice none 0 0) (.slice none 0 0) w4 HR.out _ rfl
      have hA := h10.1
      have y0 := hA.cell (k := 0) (u := .int .i64 0) rfl
      have y1 := hA.cell (k := 1) (u := .string ⟨#[]⟩) rfl
      have y2 := hA.cell (k := 2) (u := .int .i64 0) rfl
      have y3 := hA.cell (k := 3) (u := .bool false) rfl
      have y4 := hA.cell (k := 4) (u := .int .i64 0) rfl
      have y5 := hA.cell (k := 5) (u := .string ⟨#[]⟩) rfl
      have y6 := hA.cell (k := 6) (u := .slice none 0 0) rfl
      have y7 := hA.cell (k := 7) (u := .slice none 0 0) rfl
      have y8 := hA.cell (k := 8) (u := .slice none 0 0) rfl
      have y9 := hA.cell (k := 9) (u := .slice none 0 0) rfl
      refine bodyPost_ret (v := .tuple #[.agg #[.int .i64 0, .string ⟨#[]⟩, .int .i64 0, .bool false, .int .i64 0, .string ⟨#[]⟩, .slice none 0 0, .slice none 0 0, .slice none 0 0, .slice none 0 0], .int .i64 0, .int .i64 (z : Nat)]) (by simp [results, Tryz.results14, go_sem, y0, y1, y2, y3, y4, y5, y6, y7, y8, y9]) rfl ?_
      rw [HQ.out]
      refine ⟨HB4.out.trans (h10.2.1 _ (Nat.le_refl _)), ?_⟩
      show if validX x = 0 then _ else _
      rw [← HZ.out, if_neg h0]
      rfl
end Go.Proofs.YtjehhldboopocaaGreatDoor.Lx
