/- slices.Clone over entries (value). Entries' cells before and after the library's sort (value). The library's sort of the entries by name (value). Contract of the program's Map (value). The clone's cells are the entries' cells (value). -/
import Derived.Test.YtabopneehhnhfaaGreatDoorVluV
import Derived.Test.YtabopneehhnhfaaGreatDoorVluL
import Derived.Test.YtabopneehhnhfaaGreatDoorVluZc
import Derived.Test.YtabopneehhnhfaaGreatDoorVluY
import Derived.Test.YtabopneehhnhfaaGreatDoorShelfG
namespace Go.Proofs.YtabopneehhnhfaaGreatDoor
open Go.RowKit Go.Lib

/-- The cells that a slice of entries has. -/
def newsR (w : World) (p : Addr) (n : Nat) : List Value := (List.range (n * 7)).map fun j => (w.cell? (p.add j)).getD undef
theorem newsR_at {w : World} {p : Addr} {n j : Nat} (h : j < n * 7) : (newsR w p n)[j]? = some ((w.cell? (p.add j)).getD undef) := by
  unfold newsR
  rw [List.getElem?_map, List.getElem?_range h]
  rfl
theorem reads_seven {m : Nat} {w : World} {p : Addr} {l : List Vr} (hr : ReadsR m w (some p) l) {j : Nat} (h : j < l.length * 7) : ∃ u, w.cell? (p.add j) = some u ∧ u.oneCell' = true := by
  obtain ⟨b, off, n, k, t, i, s, l', ks, av, c, kv, kc, h0, e, h2, c0, c1, c2, c3, c4, c5, c6, _⟩ := hr (j / 7) (by omega)
  cases e
  have ha : ∀ d, j = j / 7 * 7 + d → (⟨b, off, none⟩ : Addr).add j = ⟨b, off + j / 7 * 7 + d, none⟩ := by
    intro d hd
    unfold Addr.add
    split
    · rename_i h; subst h; simp at hd ⊢
    · simp; omega
  rcases (show j % 7 = 0 ∨ j % 7 = 1 ∨ j % 7 = 2 ∨ j % 7 = 3 ∨ j % 7 = 4 ∨ j % 7 = 5 ∨ j % 7 = 6 by omega) with h | h | h | h | h | h | h
  · exact ⟨_, by rw [ha 0 (by omega)]; exact c0, rfl⟩
  · exact ⟨_, by rw [ha 1 (by omega)]; exact c1, rfl⟩
  · exact ⟨_, by rw [ha 2 (by omega)]; exact c2, rfl⟩
  · exact ⟨_, by rw [ha 3 (by omega)]; exact c3, rfl⟩
  · exact ⟨_, by rw [ha 4 (by omega)]; exact c4, rfl⟩
  · exact ⟨_, by rw [ha 5 (by omega)]; exact c5, rfl⟩
  · exact ⟨_, by rw [ha 6 (by omega)]; exact c6, rfl⟩

set_option maxRecDepth 100000 in
set_option maxHeartbeats 2000000 in
theorem cloneR_own (m : Nat) (p : Addr) (l : List Vr) (c : Nat) (hl : l.length * 104 ≤ 140737488351232) (w : World) (hr : ReadsR m w (some p) l) :
    Calls Tryz.prog 44 #[.slice (some p) l.length c] w fun e w' => ∃ v', e = .returned v' ∧ w'.ownsRow w.heap.size 55 7 v' l.length (newsR w p l.length) ∧ Below w.heap.size w w' := by
  obtain ⟨i0, hi, hz0, hz1, hz2⟩ := info_parts infoVar
  have A : Aside (∀ j u, (newsR w p l.length)[j]? = some u → w.cell? (p.add j) = some u ∧ u.oneCell' = true) := by
    intro j u hj
    obtain ⟨hlt, _⟩ := List.getElem?_eq_some_iff.1 hj
    have hlt' : j < l.length * 7 := by simpa [newsR] using hlt
    obtain ⟨x, hx, h1⟩ := reads_seven hr hlt'
    rw [newsR_at hlt', hx] at hj
    injection hj with hj
    have hj : x = u := hj
    subst hj
    exact ⟨hx, h1⟩
  have hlen : (newsR w p l.length).length = l.length * 7 := by simp [newsR]
  generalize newsR w p l.length = news at A hlen ⊢
  clear hr
  have q23 : ∀ (w : World) (a : Option Addr) (n c n' c' : Nat), (binOp .eql 35 (.slice a n c) (.slice none n' c')).run Tryz.prog w = .ok (.bool a.isNone) w := fun w a n c n' c' => Lib.run_eql_slice_nil w _ _ a n c n' c' Tryz.underlying35
  go_enter Tryz.func44, Tryz.ntmps44
  go_wp2_with (at_builtin; refine wpList_append_own _ rfl _ _ 35 rfl w.heap.size 55 i0 _ 7 104 Tryz.underlying35 hi hz0 hz1 hz2 rfl (by decide) _ _ _ rfl (World.ownsRow_made w #[] 0 (Nat.le_refl _) (Nat.zero_le _) (by simp)) p l.length c news rfl ?qc1 ?qc2 ?qc3 ?qc4 ?qc5 ?qc6 ?_)
  case qc1 => exact hlen
  case qc2 =>
    intro j u hj
    exact Lib.cell?_alloc_some _ (A.out j u hj).1
  case qc3 =>
    intro u hu
    obtain ⟨j, hj⟩ := List.getElem?_of_mem hu
    exact (A.out j u hj).2
  case qc4 => rw [Nat.zero_add]; unfold maxLen; omega
  case qc5 => rw [Nat.zero_add]; omega
  case qc6 => simp
  intro v' w1 hown hgrow hnil
  go_wp2_with fail
  go_ret
  refine ⟨v', rfl, by simpa using hown, ?_⟩
  exact ((Below.refl _ w).alloc (Nat.le_refl _) _).grown hgrow (by simp) (by intro k hk; simp [Value.ownBlock] at hk; omega)

end Go.Proofs.YtabopneehhnhfaaGreatDoor
namespace Go.Proofs.YtabopneehhnhfaaGreatDoor
open Go.RowKit Go.Lib Go.Sort Go.Shelf

/-- These cells are that entry. -/
def RelR (m : Nat) (w : World) (x : Raw) (p : Vr) : Prop := ∃ k t i s l' ks av c kv kc, p = (x.n, .mk k t i s l' ks) ∧ x.a1 = .int .i64 k ∧ x.a2 = .bool t ∧ x.a3 = .int .i64 i ∧ x.a4 = .string s ∧ x.a5 = .slice av l'.length c ∧ x.a6 = .slice kv ks.length kc ∧
  IsV m w (.agg #[.int .i64 k, .bool t, .int .i64 i, .string s, .slice av l'.length c, .slice kv ks.length kc]) (.mk k t i s l' ks)
theorem raw_at {m : Nat} {w : World} {p : Addr} {l : List Vr} (hr : ReadsR m w (some p) l) (j : Nat) (hj : j < l.length) : ∃ x : Raw, RelR m w x l[j] ∧ ∀ d, d < 7 → w.cell? (p.add (j * 7 + d)) = some ((encR x)[d]!) := by
  obtain ⟨b, off, n, k, t, i, s, l', ks, av, c, kv, kc, h0, e, h2, c0, c1, c2, c3, c4, c5, c6, gn, g0, g1, g2, g3, g4, g5, g6, g7, g8, g9, hs, hl⟩ := hr j hj
  cases e
  have ha : ∀ d, (⟨b, off, none⟩ : Addr).add (j * 7 + d) = ⟨b, off + j * 7 + d, none⟩ := by
    intro d
    unfold Addr.add
    split
    · rename_i h; congr 1; omega
    · simp; omega
  refine ⟨⟨n, .int .i64 k, .bool t, .int .i64 i, .string s, .slice av l'.length c, .slice kv ks.length kc, gn, ⟨rfl, rfl, rfl, rfl, rfl, rfl⟩⟩, ⟨k, t, i, s, l', ks, av, c, kv, kc, (List.getElem?_eq_some_iff.1 h0).2, rfl, rfl, rfl, rfl, rfl, rfl, ⟨k, t, i, s, l', ks, av, c, kv, kc, rfl, rfl, g0, g1, g2, g3, g4, g5, g6, g7, g8, g9, hs, hl⟩⟩, ?_⟩
  intro d hd
  rw [ha d]
  match d, hd with
  | 0, _ => exact c0
  | 1, _ => exact c1
  | 2, _ => exact c2
  | 3, _ => exact c3
  | 4, _ => exact c4
  | 5, _ => exact c5
  | 6, _ => exact c6
/-- The cells of all entries, each with its entry. -/
theorem raws {m : Nat} {w : World} {p : Addr} {l : List Vr} (hr : ReadsR m w (some p) l) : ∃ Q : List (Raw × Vr), Q.map (·.2) = l ∧ (∀ q, q ∈ Q → RelR m w q.1 q.2) ∧ ∀ j d (h : j < Q.length), d < 7 → w.cell? (p.add (j * 7 + d)) = some ((encR (Q[j]).1)[d]!) := by
  have H : ∀ n, n ≤ l.length → ∃ Q : List (Raw × Vr), Q.map (·.2) = l.take n ∧ (∀ q, q ∈ Q → RelR m w q.1 q.2) ∧ ∀ j d (h : j < Q.length), d < 7 → w.cell? (p.add (j * 7 + d)) = some ((encR (Q[j]).1)[d]!) := by
    intro n
    induction n with
    | zero => exact fun _ => ⟨[], by simp, by simp, fun j d h => by simp at h⟩
    | succ n ih =>
      intro hn
      obtain ⟨Q, h1, h2, h3⟩ := ih (by omega)
      obtain ⟨x, h4, h5⟩ := raw_at hr n (by omega)
      have hQ : Q.length = n := by
        have := congrArg List.length h1
        rw [List.length_map, List.length_take] at this
        omega
      refine ⟨Q ++ [(x, l[n])], ?_, ?_, ?_⟩
      · rw [List.map_append, h1, List.map_cons, List.map_nil, List.take_succ_eq_append_getElem (by omega)]
      · intro q hq
        rcases List.mem_append.1 hq with hq | hq
        · exact h2 q hq
        · rw [List.mem_singleton] at hq
          subst hq
          exact h4
      · intro j d hj hd
        rw [List.length_append, List.length_singleton] at hj
        by_cases e : j < Q.length
        · rw [List.getElem_append_left e]
          exact h3 j d e hd
        · obtain rfl : j = n := by omega
          rw [List.getElem_append_right (by omega)]
          simp only [hQ, Nat.sub_self, List.getElem_cons_zero]
          exact h5 d hd
  obtain ⟨Q, h1, h2, h3⟩ := H l.length (Nat.le_refl _)
  exact ⟨Q, by rw [h1, List.take_length], h2, h3⟩
theorem holdsK_of {w : World} {g : Nat} {d : Array Raw} (h : ∀ j c, j < d.size → c < 7 → w.cell? ⟨g, j * 7 + c, none⟩ = some ((encR d[j]!)[c]!)) (hf : ∀ q, w.frozen? ⟨g, q, none⟩ = false) : HoldsK encR 7 w g 0 d := by
  intro t ht
  rw [size_flatK] at ht
  refine ⟨?_, hf _⟩
  rw [get_flatK _ _ _ _ ht]
  have e := h (t / 7) (t % 7) (by omega) (Nat.mod_lt _ (by decide))
  rw [show t / 7 * 7 + t % 7 = 0 + t by omega] at e
  exact e
theorem sorted_block {w : World} {g n : Nat} {d : Array Raw} {os : Array Obj} {b : Nat} (hb : b < w.heap.size) (hne : b ≠ g) : (sortWorldK encR 7 w g 0 n d os).heap[b]? = w.heap[b]? := by
  unfold sortWorldK
  rw [heap_grow_old _ _ (by rw [size_putRowK]; exact hb)]
  simp [putRowK, putRow, mapBlock, Sort.ahead, Array.getElem?_modify, Ne.symm hne]
theorem sorted_below {w0 w : World} {g n : Nat} {d : Array Raw} {os : Array Obj} (h : Go.RowKit.Below w0.heap.size w0 w) (hg : w0.heap.size ≤ g) : Go.RowKit.Below w0.heap.size w0 (sortWorldK encR 7 w g 0 n d os) :=
  ⟨h.os, h.tape, h.output, Nat.le_trans h.size (size_sortWorldK_c encR 7 w g 0 n d os), fun k hk => (sorted_block (Nat.lt_of_lt_of_le hk h.size) (by omega)).trans (h.block k hk)⟩
end Go.Proofs.YtabopneehhnhfaaGreatDoor
namespace Go.Proofs.YtabopneehhnhfaaGreatDoor
open Go.RowKit Go.Lib Go.Sort Go.Shelf

theorem agg_var (w : World) : (isAgg 55).run Tryz.prog w = .ok true w := by kernel_rfl
theorem size_var (w : World) : (Go.sizeOf 55).run Tryz.prog w = .ok 7 w := by kernel_rfl
/-- The row of the entries' cells holds them in the order of their names. -/
theorem sortVars_any (m : Nat) (w0 w1 : World) (g c : Nat) (Q : List (Raw × Vr)) (l : List Vr) (hQ : Q.map (·.2) = l) (hrel : ∀ q, q ∈ Q → RelR m w0 q.1 q.2) (ho : Once l) (hg : g < w1.heap.size)
    (hcells : ∀ j d (h : j < Q.length), d < 7 → w1.cell? ⟨g, j * 7 + d, none⟩ = some ((encR (Q[j]).1)[d]!)) (hfr : ∀ q, w1.frozen? ⟨g, q, none⟩ = false) (hsz : Q.length < 4611686018427387904) :
    Calls Tryz.prog 45 #[.slice (some ⟨g, 0, none⟩) Q.length c, .func (.func 46) #[] #[]] w1 fun e w' => e = .returned (.tuple #[]) ∧ ∃ Q' : List (Raw × Vr), Q'.map (·.2) = sortM l ∧ Q'.length = Q.length ∧ (∀ q, q ∈ Q' → RelR m w0 q.1 q.2) ∧
      (∀ j d (h : j < Q'.length), d < 7 → w'.cell? ⟨g, j * 7 + d, none⟩ = some ((encR (Q'[j]).1)[d]!)) ∧ w1.heap.size ≤ w'.heap.size ∧ (∀ b, b ≠ g → b < w1.heap.size → w'.heap[b]? = w1.heap[b]?) ∧ (RowKit.Below w0.heap.size w0 w1 → w0.heap.size ≤ g → RowKit.Below w0.heap.size w0 w') := by
  obtain ⟨D, hD⟩ : ∃ D : List Raw, D = Q.map (·.1) := ⟨_, rfl⟩
  have hDl : D.length = Q.length := by rw [hD, List.length_map]
  have hget : ∀ (R : List (Raw × Vr)) j (h : j < R.length), ((R.map (·.1)).toArray)[j]! = (R[j]).1 := by
    intro R j h
    rw [getElem!_pos _ j (by simpa using h)]
    simp
  have hH : HoldsK encR 7 w1 g 0 D.toArray := by
    refine holdsK_of (fun j d hj hd => ?_) hfr
    have hj' : j < Q.length := by rw [List.size_toArray, hDl] at hj; exact hj
    rw [hD, hget Q j hj']
    exact hcells j d hj' hd
  have S := AnyQ.slices_SortFunc Tryz.sortVar 7 agg_var size_var encR encR_seven encR_one cmpRw cmpRw_swo 46 #[] g 0 c D.toArray w1 (enters_of Tryz.func46 (by kernel_rfl) rfl) (mapLess_lays g 0 _ w1) hH hg (by rw [List.size_toArray, hDl]; exact hsz)
  rw [List.size_toArray, hDl] at S
  refine S.mono ?_
  rintro e w' ⟨rfl, d', n, os, hp, hs, rfl⟩
  rw [show Q.length = D.toArray.size by rw [List.size_toArray, hDl]] at hp hs
  have hsz' : d'.size = D.toArray.size := hp.1
  have hperm := permIn_perm hp
  rw [List.toList_toArray] at hperm
  obtain ⟨Q', h1, h2⟩ := perm_lift (fun q : Raw × Vr => q.1) hperm.symm Q hD.symm
  have hl' : Q'.length = Q.length := h1.length_eq
  have hd' : d' = (Q'.map (·.1)).toArray := by rw [h2]
  have hrel' : ∀ q, q ∈ Q' → RelR m w0 q.1 q.2 := fun q hq => hrel q (h1.mem_iff.1 hq)
  have hpw := sortedIn_pairwise hsz' hs
  rw [← h2, List.pairwise_map] at hpw
  refine ⟨rfl, Q', ?_, hl', hrel', ?_, size_sortWorldK_c encR 7 w1 g 0 n d' os, fun b hb hlt => sorted_block hlt hb, fun hb hge => sorted_below hb hge⟩
  · refine sorted_entries (by rw [← hQ]; exact h1.map _) (fun q hq => ?_) ho hpw
    obtain ⟨k, t, i, s, l', ks, av, c, kv, kc, e, _⟩ := hrel' q hq
    rw [e]
  · intro j d hj hd
    have hh := holdsK_sortWorldK_c encR 7 w1 g 0 D.toArray d' n os hH hg hsz'
    have hc := (hh.cell (i := j) (c := d) (by rw [hd', List.size_toArray, List.length_map]; exact hj) hd).1
    rw [Nat.zero_add] at hc
    rw [hc, hd', hget Q' j hj]
end Go.Proofs.YtabopneehhnhfaaGreatDoor
namespace Go.Proofs.YtabopneehhnhfaaGreatDoor
open Go.RowKit Go.Lib

set_option maxRecDepth 100000 in
set_option maxHeartbeats 4000000 in
theorem map_err (m : Nat) (v : Option Addr) (l : List Vr) (c : Nat) (w : World) (hr : ReadsR m w v l) (hlen : l.length ≤ 9223372036854775000) (h0 : errVs l ≠ 0) :
    Calls Tryz.prog 21 #[.slice v l.length c] w fun e w' => ∃ R, e = .returned (.tuple #[R, .int .i64 (errVs l : Nat)]) ∧ Stb w.heap.size w' (fun w2 => IsV (m + 1) w2 R zeroV) ∧ Below w.heap.size w w' := by
  have M := Lib.hid (fun w' (hb : Below w.heap.size w w') => validVars_any m v l c w' (hr.below hb) hlen)
  obtain ⟨z, hz⟩ : ∃ z, z = errVs l := ⟨_, rfl⟩
  rw [← hz] at M h0 ⊢
  have g1 : ((z : Int) != 0) = true := by rw [bne_iff_ne]; omega
  have g2 : ((z : Int) == 0) = false := by rw [beq_eq_false_iff_ne]; omega
  have B0 := Lib.hid ((Below.refl w.heap.size w).alloc (Nat.le_refl _) (.cells #[.int .i64 0, .bool false, .int .i64 0, .string ⟨#[]⟩, .slice none 0 0, .slice none 0 0] 25))
  have Z0 := CellsAt.new w 25 #[.int .i64 0, .bool false, .int .i64 0, .string ⟨#[]⟩, .slice none 0 0, .slice none 0 0]
  clear hz hr hlen h0
  go_enter Tryz.func21, Tryz.ntmps21
  go_wp2_with fail
  go_fit (M.out _ B0.out)
  rintro e w1 ⟨rfl, hb1⟩
  have B1 := Lib.hid (B0.out.trans (hb1.mono B0.out.size))
  have Z1 := Z0.below hb1
  have z0 : w1.cell? ⟨w.heap.size, 0, none⟩ = some (.int .i64 0) := Z1.cell rfl
  have z1 : w1.cell? ⟨w.heap.size, 1, none⟩ = some (.bool false) := Z1.cell rfl
  have z2 : w1.cell? ⟨w.heap.size, 2, none⟩ = some (.int .i64 0) := Z1.cell rfl
  have z3 : w1.cell? ⟨w.heap.size, 3, none⟩ = some (.string ⟨#[]⟩) := Z1.cell rfl
  have z4 : w1.cell? ⟨w.heap.size, 4, none⟩ = some (.slice none 0 0) := Z1.cell rfl
  have z5 : w1.cell? ⟨w.heap.size, 5, none⟩ = some (.slice none 0 0) := Z1.cell rfl
  have zf := Z1.frozen
  clear hb1 Z0 B0
  go_wp2_with fail
  obtain ⟨W3, hW3⟩ : ∃ W3, W3 = (((((w1.setCell ⟨w.heap.size, 0, none⟩ (.int .i64 0)).setCell ⟨w.heap.size, 1, none⟩ (.bool false)).setCell ⟨w.heap.size, 2, none⟩ (.int .i64 0)).setCell ⟨w.heap.size, 3, none⟩ (.string ⟨#[]⟩)).setCell ⟨w.heap.size, 4, none⟩ (.slice none 0 0)).setCell ⟨w.heap.size, 5, none⟩ (.slice none 0 0) := ⟨_, rfl⟩
  rw [← hW3]
  obtain ⟨⟨cs', G4, h1, h2⟩, h3, h4, h5⟩ := six_set Z1 0 _ _ _ _ _ _ W3 hW3
  obtain ⟨q0, q1, q2, q3, q4, q5⟩ := h1 (by decide)
  have u0 : W3.cell? ⟨w.heap.size, 0, none⟩ = _ := G4.cell q0
  have u1 : W3.cell? ⟨w.heap.size, 1, none⟩ = _ := G4.cell q1
  have u2 : W3.cell? ⟨w.heap.size, 2, none⟩ = _ := G4.cell q2
  have u3 : W3.cell? ⟨w.heap.size, 3, none⟩ = _ := G4.cell q3
  have u4 : W3.cell? ⟨w.heap.size, 4, none⟩ = _ := G4.cell q4
  have u5 : W3.cell? ⟨w.heap.size, 5, none⟩ = _ := G4.cell q5
  have hB := h5 w.heap.size w (by omega) B1.out
  exact bodyPost_ret (v := .tuple #[.agg #[.int .i64 0, .bool false, .int .i64 0, .string ⟨#[]⟩, .slice none 0 0, .slice none 0 0], .int .i64 z]) (by simp [results, Tryz.f21, go_sem, u0, u1, u2, u3, u4, u5]) rfl ⟨_, rfl, fun w2 _ => isV_zero _ _, hB⟩
end Go.Proofs.YtabopneehhnhfaaGreatDoor
namespace Go.Proofs.YtabopneehhnhfaaGreatDoor
open Go.RowKit Go.Lib

/-- The clone's cells are the entries' cells. -/
theorem clone_cells {m : Nat} {w w1 w2 : World} {p : Addr} {l : List Vr} {Q : List (Raw × Vr)} {v' : Value} (_hr : ReadsR m w (some p) l) (hb : Below w.heap.size w w1) (hQl : Q.length = l.length) (hQ : ∀ j d (h : j < Q.length), d < 7 → w.cell? (p.add (j * 7 + d)) = some ((encR (Q[j]).1)[d]!))
    (ho : w2.ownsRow w1.heap.size 55 7 v' l.length (newsR w1 p l.length)) (hne : l ≠ []) : ∃ g cap, v' = .slice (some ⟨g, 0, none⟩) Q.length cap ∧ w1.heap.size ≤ g ∧ g < w2.heap.size ∧ (∀ j d (h : j < Q.length), d < 7 → w2.cell? ⟨g, j * 7 + d, none⟩ = some ((encR (Q[j]).1)[d]!)) ∧ ∀ q, w2.frozen? ⟨g, q, none⟩ = false := by
  rcases ho.2 with ⟨rfl, h0⟩ | ⟨g, cap, cur, rfl, hg, hh, h3, h4, h5, h6⟩
  · exact absurd (List.length_eq_zero_iff.1 h0) hne
  · have hlt := (Array.getElem?_eq_some_iff.1 hh).1
    refine ⟨g, cap, by rw [hQl], hg, hlt, ?_, fun q => by simp [World.frozen?, hh]⟩
    intro j d hj hd
    have hlt' : j * 7 + d < l.length * 7 := by omega
    have e := hQ j d hj hd
    have hpb := World.block_lt_of_cell? w _ e
    have e1 := (hb.cell hpb).trans e
    have e2 : (newsR w1 p l.length)[j * 7 + d]? = some ((encR (Q[j]).1)[d]!) := by
      rw [newsR_at hlt', e1]
      rfl
    have e3 := ho.cells (g := g) rfl _ _ e2
    rwa [addr_add, Nat.zero_add] at e3
end Go.Proofs.YtabopneehhnhfaaGreatDoor
