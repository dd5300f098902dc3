/- Blocks of cells, and what of a world may turn without a result's turning; contracts of slices.Clone (value). Contract of the program's copied (value). Contracts of the program's slices.Index over strings and of Get (value). -/
import Derived.Test.YtabopneehhnhfaaGreatDoorVluA
import Derived.Test.YtabopneehhnhfaaGreatDoorValD
import Derived.Lib.SliceRun
namespace Go.Proofs.YtabopneehhnhfaaGreatDoor
open Go.RowKit Go.Lib

/-- A block holds these cells. -/
structure CellsAt (w : World) (b : Nat) (t : TypeId) (cs : Array Value) : Prop where
  blk : w.heap[b]? = some (.cells cs t (0, 0))
theorem CellsAt.lt {w : World} {b : Nat} {t : TypeId} {cs : Array Value} (h : CellsAt w b t cs) : b < w.heap.size := (Array.getElem?_eq_some_iff.1 h.blk).1
theorem CellsAt.cell {w : World} {b : Nat} {t : TypeId} {cs : Array Value} (h : CellsAt w b t cs) {k : Nat} {u : Value} (hk : cs[k]? = some u) : w.cell? ⟨b, k, none⟩ = some u := by
  have h := h.blk
  simp [World.cell?, h, hk]
theorem CellsAt.frozen {w : World} {b : Nat} {t : TypeId} {cs : Array Value} (h : CellsAt w b t cs) (k : Nat) : w.frozen? ⟨b, k, none⟩ = false := by
  have h := h.blk
  simp [World.frozen?, h]
theorem CellsAt.of_block {w w' : World} {b : Nat} {t : TypeId} {cs : Array Value} (h : CellsAt w b t cs) (e : w'.heap[b]? = w.heap[b]?) : CellsAt w' b t cs := ⟨e.trans h.blk⟩
theorem CellsAt.below {w w' : World} {b : Nat} {t : TypeId} {cs : Array Value} (h : CellsAt w b t cs) (hb : Below w.heap.size w w') : CellsAt w' b t cs := h.of_block (hb.block b h.lt)
theorem CellsAt.alloc {w : World} {b : Nat} {t : TypeId} {cs : Array Value} (h : CellsAt w b t cs) (o : Obj) : CellsAt (w.alloc o) b t cs := h.of_block (Below.heap_alloc w o b h.lt)
theorem CellsAt.new (w : World) (t : TypeId) (cs : Array Value) : CellsAt (w.alloc (.cells cs t)) w.heap.size t cs := ⟨heap_alloc_new w _⟩
theorem CellsAt.set {w : World} {b : Nat} {t : TypeId} {cs : Array Value} (h : CellsAt w b t cs) (k : Nat) (u : Value) : CellsAt (w.setCell ⟨b, k, none⟩ u) b t (cs.setIfInBounds k u) := by
  have h := h.blk
  constructor
  simp [World.setCell, Array.getElem?_modify, h]
theorem CellsAt.other {w : World} {b : Nat} {t : TypeId} {cs : Array Value} (h : CellsAt w b t cs) {c : Nat} (hc : b ≠ c) (k : Nat) (u : Value) : CellsAt (w.setCell ⟨c, k, none⟩ u) b t cs := h.of_block (Below.heap_setCell _ _ _ b hc)

/-- Nothing from block n on has turned. -/
def From (n : Nat) (w w2 : World) : Prop := w.heap.size ≤ w2.heap.size ∧ ∀ b, n ≤ b → b < w.heap.size → w2.heap[b]? = w.heap[b]?
theorem From.refl (n : Nat) (w : World) : From n w w := ⟨Nat.le_refl _, fun _ _ _ => rfl⟩
theorem From.trans {n : Nat} {a b c : World} (h : From n a b) (k : From n b c) : From n a c :=
  ⟨Nat.le_trans h.1 k.1, fun i h1 h2 => (k.2 i h1 (Nat.lt_of_lt_of_le h2 h.1)).trans (h.2 i h1 h2)⟩
theorem From.mono {n m : Nat} {a b : World} (h : From n a b) (hm : n ≤ m) : From m a b := ⟨h.1, fun i h1 h2 => h.2 i (Nat.le_trans hm h1) h2⟩
theorem From.of_below {n : Nat} {a b : World} (h : Below a.heap.size a b) : From n a b := ⟨h.size, fun i _ h2 => h.block i h2⟩
theorem From.set {n : Nat} {w : World} {b : Nat} (h : b < n) (k : Nat) (u : Value) : From n w (w.setCell ⟨b, k, none⟩ u) := ⟨by simp, fun i h1 _ => Below.heap_setCell _ _ _ i (by show i ≠ b; omega)⟩
theorem From.cell {n : Nat} {a b : World} (h : From n a b) {p : Addr} {v : Value} (hp : n ≤ p.block) (hc : a.cell? p = some v) : b.cell? p = some v :=
  (World.cell?_of_block (h.2 p.block hp (World.block_lt_of_cell? a p hc))).trans hc
theorem From.at {n : Nat} {a b : World} (h : From n a b) {g : Nat} {t : TypeId} {cs : Array Value} (hg : n ≤ g) (hc : CellsAt a g t cs) : CellsAt b g t cs := hc.of_block (h.2 g hg hc.lt)

/-- What lies from block n on holds P, whatever else turns. -/
def Stb (n : Nat) (w : World) (P : World → Prop) : Prop := ∀ w2, From n w w2 → P w2
theorem Stb.here {n : Nat} {w : World} {P : World → Prop} (h : Stb n w P) : P w := h w (From.refl n w)
theorem Stb.on {n : Nat} {w w' : World} {P : World → Prop} (h : Stb n w P) (hf : From n w w') : Stb n w' P := fun w2 h2 => h w2 (hf.trans h2)
theorem Stb.mono {n m : Nat} {w : World} {P : World → Prop} (h : Stb n w P) (hm : m ≤ n) : Stb m w P := fun w2 h2 => h w2 (h2.mono hm)

theorem infoStr : (Tryz.prog.info? 9).map (fun i => (i.zero, i.size, i.bytes)) = some (some (.string ⟨#[]⟩), 1, 16) := by kernel_rfl
theorem infoVal : (Tryz.prog.info? 25).map (fun i => (i.zero, i.size, i.bytes)) = some (some (.agg #[.int .i64 0, .bool false, .int .i64 0, .string ⟨#[]⟩, .slice none 0 0, .slice none 0 0]), 6, 88) := by kernel_rfl

set_option maxRecDepth 100000 in
set_option maxHeartbeats 2000000 in
theorem cloneS_own (p : Addr) (L : List (List UInt8)) (c : Nat) (hl : L.length * 16 ≤ 140737488351232) (w : World) (hr : ReadsStr w (some p) L) :
    Calls Tryz.prog 71 #[.slice (some p) L.length c] w fun e w' => ∃ v', e = .returned v' ∧ w'.ownsRow w.heap.size 9 1 v' L.length (L.map strV) ∧ Below w.heap.size w w' := by
  obtain ⟨i0, hi, hz0, hz1, hz2⟩ := info_parts infoStr
  have A : Aside (∀ j u, (L.map strV)[j]? = some u → w.cell? (p.add j) = some u) := by
    intro j u hj
    obtain ⟨hlt, _⟩ := List.getElem?_eq_some_iff.1 hj
    rw [List.length_map] at hlt
    obtain ⟨b, off, e, _, _⟩ := hr j hlt
    cases e
    exact readsS_cells hr j u hj
  clear hr
  have q23 : ∀ (w : World) (a : Option Addr) (n c n' c' : Nat), (binOp .eql 23 (.slice a n c) (.slice none n' c')).run Tryz.prog w = .ok (.bool a.isNone) w := fun w a n c n' c' => Lib.run_eql_slice_nil w _ _ a n c n' c' Tryz.underlying23
  go_enter Tryz.func71, Tryz.ntmps71
  go_wp2_with (at_builtin; refine wpList_append_own _ rfl _ _ 23 rfl w.heap.size 9 i0 _ 1 16 Tryz.underlying23 hi hz0 hz1 hz2 rfl (by decide) _ _ _ rfl (World.ownsRow_made w #[] 0 (Nat.le_refl _) (Nat.zero_le _) (by simp)) p L.length c (L.map strV) rfl ?qc1 ?qc2 ?qc3 ?qc4 ?qc5 ?qc6 ?_)
  case qc1 => simp
  case qc2 =>
    intro j u hj
    exact Lib.cell?_alloc_some _ (A.out j u hj)
  case qc3 => exact mapS_one L
  case qc4 => rw [Nat.zero_add]; unfold maxLen; omega
  case qc5 => rw [Nat.zero_add]; omega
  case qc6 => simp
  intro v' w1 hown hgrow hnil
  go_wp2_with fail
  go_ret
  refine ⟨v', rfl, by simpa using hown, ?_⟩
  exact ((Below.refl _ w).alloc (Nat.le_refl _) _).grown hgrow (by simp) (by intro k hk; simp [Value.ownBlock] at hk; omega)

theorem own_from {w w2 : World} {B n size : Nat} {t : TypeId} {v : Value} {xs : List Value} (h : w.ownsRow B t size v n xs) (hf : From B w w2) : w2.ownsRow B t size v n xs := by
  obtain ⟨h1, h2 | ⟨g, cap, cur, rfl, hg, hh, r⟩⟩ := h
  · exact ⟨h1, .inl h2⟩
  · exact ⟨h1, .inr ⟨g, cap, cur, rfl, hg, (hf.2 g hg (Array.getElem?_eq_some_iff.1 hh).1).trans hh, r⟩⟩
set_option maxRecDepth 100000 in
set_option maxHeartbeats 1000000 in
theorem cloneS_any (v : Option Addr) (L : List (List UInt8)) (c : Nat) (hl : L.length * 16 ≤ 140737488351232) (w : World) (hr : ReadsStr w v L) :
    Calls Tryz.prog 71 #[.slice v L.length c] w fun e w' => ∃ a' c', e = .returned (.slice a' L.length c') ∧ L.length ≤ c' ∧ c' ≤ 9223372036854775807 ∧ Stb w.heap.size w' (fun w2 => ReadsStr w2 a' L) ∧ Below w.heap.size w w' := by
  cases v with
  | some p =>
    refine (cloneS_own p L c hl w hr).mono ?_
    rintro e w' ⟨v', rfl, hown, hb⟩
    obtain ⟨a, c', rfl, h1, h2, _⟩ := own_readsS hown rfl
    refine ⟨a, c', rfl, h1, h2, ?_, hb⟩
    intro w2 hf
    obtain ⟨a2, c2, e, _, _, h5⟩ := own_readsS (own_from hown hf) rfl
    cases e
    exact h5
  | none =>
    obtain rfl : L = [] := by
      cases L with
      | nil => rfl
      | cons x r => obtain ⟨_, _, e, _⟩ := hr 0 (by simp); cases e
    have q23 : ∀ (w : World) (a : Option Addr) (n c n' c' : Nat), (binOp .eql 23 (.slice a n c) (.slice none n' c')).run Tryz.prog w = .ok (.bool a.isNone) w := fun w a n c n' c' => Lib.run_eql_slice_nil w _ _ a n c n' c' Tryz.underlying23
    clear hr hl
    go_enter Tryz.func71, Tryz.ntmps71
    go_wp2_with fail
    go_ret
    exact ⟨none, 0, rfl, by simp, by simp, fun w2 _ k hk => by simp at hk, Below.refl _ _⟩

/-- An element of a list of values, as its cells tell. -/
def El (l : List Vl) (cs : Array Value) (P : Option Addr → List (List UInt8) → Option Addr → List Vl → Prop) (j : Nat) : Prop := ∃ k t i s l' ks av c kv kc, l[j]? = some (.mk k t i s l' ks) ∧
  cs[j * 6]? = some (.int .i64 k) ∧ cs[j * 6 + 1]? = some (.bool t) ∧ cs[j * 6 + 2]? = some (.int .i64 i) ∧ cs[j * 6 + 3]? = some (.string s) ∧ cs[j * 6 + 4]? = some (.slice av l'.length c) ∧ cs[j * 6 + 5]? = some (.slice kv ks.length kc) ∧
  (-9223372036854775808 ≤ k ∧ k ≤ 9223372036854775807) ∧ (-9223372036854775808 ≤ i ∧ i ≤ 9223372036854775807) ∧ s.size ≤ 140737488351232 ∧ l'.length * 88 ≤ 140737488351232 ∧ l'.length ≤ c ∧ c ≤ 9223372036854775807 ∧ ks.length * 16 ≤ 140737488351232 ∧ ks.length ≤ kc ∧ kc ≤ 9223372036854775807 ∧
  (∀ x, x ∈ ks → x.length ≤ 140737488351232) ∧ P kv ks av l'
theorem El.mono {l : List Vl} {cs cs' : Array Value} {P Q : Option Addr → List (List UInt8) → Option Addr → List Vl → Prop} {j : Nat} (h : El l cs P j) (hc : ∀ k, j * 6 ≤ k → k < j * 6 + 6 → cs'[k]? = cs[k]?) (hP : ∀ a b c d, P a b c d → Q a b c d) : El l cs' Q j := by
  obtain ⟨k, t, i, s, l', ks, av, c, kv, kc, e, c0, c1, c2, c3, c4, c5, g0, g1, g2, g3, g4, g5, g6, g7, g8, g9, hp⟩ := h
  exact ⟨k, t, i, s, l', ks, av, c, kv, kc, e, (hc _ (by omega) (by omega)).trans c0, (hc _ (by omega) (by omega)).trans c1, (hc _ (by omega) (by omega)).trans c2, (hc _ (by omega) (by omega)).trans c3, (hc _ (by omega) (by omega)).trans c4, (hc _ (by omega) (by omega)).trans c5, g0, g1, g2, g3, g4, g5, g6, g7, g8, g9, hP _ _ _ _ hp⟩
/-- Elements that lie in a block, and what they point to, read as the list. -/
theorem els_reads {m : Nat} {w : World} {g : Nat} {t : TypeId} {l : List Vl} {cs : Array Value} (hc : CellsAt w g t cs) (h : ∀ j, j < l.length → El l cs (fun kv ks av l' => ReadsStr w kv ks ∧ ReadsV m w av l') j) : ReadsV (m + 1) w (some ⟨g, 0, none⟩) l := by
  intro j hj
  obtain ⟨k, t, i, s, l', ks, av, c, kv, kc, e, c0, c1, c2, c3, c4, c5, g0, g1, g2, g3, g4, g5, g6, g7, g8, g9, hp⟩ := h j hj
  refine ⟨g, 0, k, t, i, s, l', ks, av, c, kv, kc, e, rfl, hc.lt, ?_, ?_, ?_, ?_, ?_, ?_, g0, g1, g2, g3, g4, g5, g6, g7, g8, g9, hp.1, hp.2⟩
  all_goals
    rw [Nat.zero_add]
  · exact hc.cell c0
  · exact hc.cell c1
  · exact hc.cell c2
  · exact hc.cell c3
  · exact hc.cell c4
  · exact hc.cell c5

/-- The cells that a slice of values has. -/
def newsV (w : World) (p : Addr) (n : Nat) : List Value := (List.range (n * 6)).map fun j => (w.cell? (p.add j)).getD undef
theorem newsV_at {w : World} {p : Addr} {n j : Nat} (h : j < n * 6) : (newsV w p n)[j]? = some ((w.cell? (p.add j)).getD undef) := by
  unfold newsV
  rw [List.getElem?_map, List.getElem?_range h]
  rfl
theorem reads_six {m : Nat} {w : World} {p : Addr} {l : List Vl} (hr : ReadsV (m + 1) w (some p) l) {j : Nat} (h : j < l.length * 6) : ∃ u, w.cell? (p.add j) = some u ∧ u.oneCell' = true := by
  obtain ⟨b, off, k, t, i, s, l', ks, av, c, kv, kc, h0, e, h2, c0, c1, c2, c3, c4, c5, _⟩ := hr (j / 6) (by omega)
  cases e
  have ha : ∀ d, j = j / 6 * 6 + d → (⟨b, off, none⟩ : Addr).add j = ⟨b, off + j / 6 * 6 + d, none⟩ := by
    intro d hd
    unfold Addr.add
    split
    · rename_i h; subst h; simp at hd ⊢
    · simp; omega
  rcases (show j % 6 = 0 ∨ j % 6 = 1 ∨ j % 6 = 2 ∨ j % 6 = 3 ∨ j % 6 = 4 ∨ j % 6 = 5 by omega) with h | h | h | h | h | h
  · exact ⟨_, by rw [ha 0 (by omega)]; exact c0, rfl⟩
  · exact ⟨_, by rw [ha 1 (by omega)]; exact c1, rfl⟩
  · exact ⟨_, by rw [ha 2 (by omega)]; exact c2, rfl⟩
  · exact ⟨_, by rw [ha 3 (by omega)]; exact c3, rfl⟩
  · exact ⟨_, by rw [ha 4 (by omega)]; exact c4, rfl⟩
  · exact ⟨_, by rw [ha 5 (by omega)]; exact c5, rfl⟩

set_option maxRecDepth 100000 in
set_option maxHeartbeats 2000000 in
theorem cloneV_own (m : Nat) (p : Addr) (l : List Vl) (c : Nat) (hl : l.length * 88 ≤ 140737488351232) (w : World) (hr : ReadsV (m + 1) w (some p) l) :
    Calls Tryz.prog 72 #[.slice (some p) l.length c] w fun e w' => ∃ v', e = .returned v' ∧ w'.ownsRow w.heap.size 25 6 v' l.length (newsV w p l.length) ∧ Below w.heap.size w w' := by
  obtain ⟨i0, hi, hz0, hz1, hz2⟩ := info_parts infoVal
  have A : Aside (∀ j u, (newsV w p l.length)[j]? = some u → w.cell? (p.add j) = some u ∧ u.oneCell' = true) := by
    intro j u hj
    obtain ⟨hlt, _⟩ := List.getElem?_eq_some_iff.1 hj
    have hlt' : j < l.length * 6 := by simpa [newsV] using hlt
    obtain ⟨x, hx, h1⟩ := reads_six hr hlt'
    rw [newsV_at hlt', hx] at hj
    injection hj with hj
    have hj : x = u := hj
    subst hj
    exact ⟨hx, h1⟩
  have hlen : (newsV w p l.length).length = l.length * 6 := by simp [newsV]
  generalize newsV w p l.length = news at A hlen ⊢
  clear hr
  have q23 : ∀ (w : World) (a : Option Addr) (n c n' c' : Nat), (binOp .eql 22 (.slice a n c) (.slice none n' c')).run Tryz.prog w = .ok (.bool a.isNone) w := fun w a n c n' c' => Lib.run_eql_slice_nil w _ _ a n c n' c' Tryz.underlying22
  go_enter Tryz.func72, Tryz.ntmps72
  go_wp2_with (at_builtin; refine wpList_append_own _ rfl _ _ 22 rfl w.heap.size 25 i0 _ 6 88 Tryz.underlying22 hi hz0 hz1 hz2 rfl (by decide) _ _ _ rfl (World.ownsRow_made w #[] 0 (Nat.le_refl _) (Nat.zero_le _) (by simp)) p l.length c news rfl ?qc1 ?qc2 ?qc3 ?qc4 ?qc5 ?qc6 ?_)
  case qc1 => exact hlen
  case qc2 =>
    intro j u hj
    exact Lib.cell?_alloc_some _ (A.out j u hj).1
  case qc3 =>
    intro u hu
    obtain ⟨j, hj⟩ := List.getElem?_of_mem hu
    exact (A.out j u hj).2
  case qc4 => rw [Nat.zero_add]; unfold maxLen; omega
  case qc5 => rw [Nat.zero_add]; omega
  case qc6 => simp
  intro v' w1 hown hgrow hnil
  go_wp2_with fail
  go_ret
  refine ⟨v', rfl, by simpa using hown, ?_⟩
  exact ((Below.refl _ w).alloc (Nat.le_refl _) _).grown hgrow (by simp) (by intro k hk; simp [Value.ownBlock] at hk; omega)

set_option maxRecDepth 100000 in
set_option maxHeartbeats 1000000 in
theorem cloneV_any (m : Nat) (v : Option Addr) (l : List Vl) (c : Nat) (hl : l.length * 88 ≤ 140737488351232) (w0 w : World) (hb0 : Below w0.heap.size w0 w) (hr : ReadsV (m + 1) w0 v l) :
    Calls Tryz.prog 72 #[.slice v l.length c] w fun e w' => ∃ a' c', e = .returned (.slice a' l.length c') ∧ l.length ≤ c' ∧ c' ≤ 9223372036854775807 ∧
      (l = [] ∨ ∃ g cs, a' = some ⟨g, 0, none⟩ ∧ w.heap.size ≤ g ∧ CellsAt w' g 25 cs ∧ ∀ j, j < l.length → El l cs (fun kv ks av l' => ReadsStr w0 kv ks ∧ ReadsV m w0 av l') j) ∧ Below w.heap.size w w' := by
  cases v with
  | some p =>
    refine (cloneV_own m p l c hl w (ReadsV.below hb0 (m + 1) _ _ hr)).mono ?_
    rintro e w' ⟨v', rfl, hown, hb⟩
    rcases hown.2 with ⟨rfl, h0⟩ | ⟨g, cap, cur, rfl, hg, hh, h3, h4, h5, h6⟩
    · rw [h0]
      exact ⟨none, 0, rfl, Nat.le_refl _, by simp, .inl (List.length_eq_zero_iff.1 h0), hb⟩
    · refine ⟨_, cap, rfl, h3, h4, .inr ⟨g, cur, rfl, hg, ⟨hh⟩, ?_⟩, hb⟩
      intro j hj
      obtain ⟨b, off, k, t, i, s, l', ks, av, c', kv, kc, e0, e, h2, c0, c1, c2, c3, c4, c5, g0, g1, g2, g3, g4, g5, g6, g7, g8, g9, hs, hl'⟩ := hr j hj
      cases e
      have hcell : ∀ d u, d < 6 → w.cell? ⟨b, off + j * 6 + d, none⟩ = some u → cur[j * 6 + d]? = some u := by
        intro d u hd hu
        have hlt : j * 6 + d < l.length * 6 := by omega
        have e1 : (newsV w ⟨b, off, none⟩ l.length)[j * 6 + d]? = some u := by
          have ha : (⟨b, off, none⟩ : Addr).add (j * 6 + d) = ⟨b, off + j * 6 + d, none⟩ := by
            unfold Addr.add
            split
            · simp
            · simp; omega
          rw [newsV_at hlt, ha, hu]
          rfl
        rw [← h6, List.getElem?_take_of_lt hlt, Array.getElem?_toList] at e1
        exact e1
      exact ⟨k, t, i, s, l', ks, av, c', kv, kc, e0, hcell 0 _ (by decide) ((hb0.cell (p := ⟨b, _, none⟩) h2).trans c0), hcell 1 _ (by decide) ((hb0.cell (p := ⟨b, _, none⟩) h2).trans c1), hcell 2 _ (by decide) ((hb0.cell (p := ⟨b, _, none⟩) h2).trans c2), hcell 3 _ (by decide) ((hb0.cell (p := ⟨b, _, none⟩) h2).trans c3), hcell 4 _ (by decide) ((hb0.cell (p := ⟨b, _, none⟩) h2).trans c4), hcell 5 _ (by decide) ((hb0.cell (p := ⟨b, _, none⟩) h2).trans c5), g0, g1, g2, g3, g4, g5, g6, g7, g8, g9, hs, hl'⟩
  | none =>
    obtain rfl : l = [] := by
      cases l with
      | nil => rfl
      | cons x r => obtain ⟨_, _, _, _, _, _, _, _, _, _, _, _, _, e, _⟩ := hr 0 (by simp); cases e
    have q23 : ∀ (w : World) (a : Option Addr) (n c n' c' : Nat), (binOp .eql 22 (.slice a n c) (.slice none n' c')).run Tryz.prog w = .ok (.bool a.isNone) w := fun w a n c n' c' => Lib.run_eql_slice_nil w _ _ a n c n' c' Tryz.underlying22
    clear hr hl hb0
    go_enter Tryz.func72, Tryz.ntmps72
    go_wp2_with fail
    go_ret
    exact ⟨none, 0, rfl, by simp, by simp, .inl trivial, Below.refl _ _⟩

theorem CellsAt.drew {w : World} {b : Nat} {t : TypeId} {cs : Array Value} (h : CellsAt w b t cs) : CellsAt w.drew b t cs := ⟨h.blk⟩
/-- A result that stays is spelled out. -/
theorem isV_stb {n m : Nat} {w : World} {R : Value} {k : Int} {t : Bool} {i : Int} {s : ByteArray} {l : List Vl} {ks : List (List UInt8)} (h : Stb n w (fun w2 => IsV m w2 R (.mk k t i s l ks))) :
    ∃ av c kv kc, R = .agg #[.int .i64 k, .bool t, .int .i64 i, .string s, .slice av l.length c, .slice kv ks.length kc] ∧ (-9223372036854775808 ≤ k ∧ k ≤ 9223372036854775807) ∧ (-9223372036854775808 ≤ i ∧ i ≤ 9223372036854775807) ∧ s.size ≤ 140737488351232 ∧ l.length * 88 ≤ 140737488351232 ∧ l.length ≤ c ∧ c ≤ 9223372036854775807 ∧ ks.length * 16 ≤ 140737488351232 ∧ ks.length ≤ kc ∧ kc ≤ 9223372036854775807 ∧
      (∀ x, x ∈ ks → x.length ≤ 140737488351232) ∧ Stb n w (fun w2 => ReadsStr w2 kv ks ∧ ReadsV m w2 av l) := by
  obtain ⟨k', t', i', s', l', ks', av, c, kv, kc, e, eR, g0, g1, g2, g3, g4, g5, g6, g7, g8, g9, _⟩ := h.here
  injection e with e1 e2 e3 e4 e5 e6
  subst e1 e2 e3 e4 e5 e6 eR
  refine ⟨av, c, kv, kc, rfl, g0, g1, g2, g3, g4, g5, g6, g7, g8, g9, ?_⟩
  intro w2 h2
  obtain ⟨k', t', i', s', l', ks', av', c', kv', kc', e, eR, _, _, _, _, _, _, _, _, _, _, q1, q2⟩ := h w2 h2
  injection e with e1 e2 e3 e4 e5 e6
  subst e1 e2 e3 e4 e5 e6
  simp only [Value.agg.injEq, Array.mk.injEq, List.cons.injEq, Value.slice.injEq, true_and, and_true] at eR
  obtain ⟨⟨rfl, _⟩, rfl, _⟩ := eR
  exact ⟨q1, q2⟩
end Go.Proofs.YtabopneehhnhfaaGreatDoor
namespace Go.Proofs.YtabopneehhnhfaaGreatDoor
open Go.RowKit Go.Lib

theorem readsV_nil (m : Nat) (w : World) (v : Option Addr) : ReadsV m w v [] := by
  cases m with
  | zero => rfl
  | succ m => intro j hj; simp at hj
theorem set_other {w : World} {g b : Nat} (h : b ≠ g) (k : Nat) (u : Value) : (w.setCell ⟨g, k, none⟩ u).heap[b]? = w.heap[b]? := Below.heap_setCell _ _ _ b h
theorem sib {cs : Array Value} {k q : Nat} {u : Value} (h : k ≠ q) : (cs.setIfInBounds k u)[q]? = cs[q]? := by
  rw [Array.getElem?_setIfInBounds, if_neg h]
theorem sis {cs : Array Value} {k : Nat} {u : Value} (h : k < cs.size) : (cs.setIfInBounds k u)[k]? = some u := by
  rw [Array.getElem?_setIfInBounds, if_pos rfl, if_pos h]
/-- Six cells in a row are written. -/
theorem six_set {w : World} {g : Nat} {t : TypeId} {cs : Array Value} (h : CellsAt w g t cs) (o : Nat) (v0 v1 v2 v3 v4 v5 : Value) (W : World)
    (hW : W = (((((w.setCell ⟨g, o, none⟩ v0).setCell ⟨g, o + 1, none⟩ v1).setCell ⟨g, o + 2, none⟩ v2).setCell ⟨g, o + 3, none⟩ v3).setCell ⟨g, o + 4, none⟩ v4).setCell ⟨g, o + 5, none⟩ v5) :
    (∃ cs', CellsAt W g t cs' ∧ (o + 5 < cs.size → cs'[o]? = some v0 ∧ cs'[o + 1]? = some v1 ∧ cs'[o + 2]? = some v2 ∧ cs'[o + 3]? = some v3 ∧ cs'[o + 4]? = some v4 ∧ cs'[o + 5]? = some v5) ∧ (∀ q, (q < o ∨ o + 5 < q) → cs'[q]? = cs[q]?)) ∧ (∀ b, b ≠ g → W.heap[b]? = w.heap[b]?) ∧ W.heap.size = w.heap.size ∧ (∀ n w0, n ≤ g → Below n w0 w → Below n w0 W) := by
  refine ⟨⟨_, by rw [hW]; exact (((((h.set o v0).set (o + 1) v1).set (o + 2) v2).set (o + 3) v3).set (o + 4) v4).set (o + 5) v5, ?_, ?_⟩, ?_, by rw [hW]; simp, ?_⟩
  · intro hs
    refine ⟨?_, ?_, ?_, ?_, ?_, ?_⟩
    · rw [sib (by omega), sib (by omega), sib (by omega), sib (by omega), sib (by omega), sis (by omega)]
    · rw [sib (by omega), sib (by omega), sib (by omega), sib (by omega), sis (by simp; omega)]
    · rw [sib (by omega), sib (by omega), sib (by omega), sis (by simp; omega)]
    · rw [sib (by omega), sib (by omega), sis (by simp; omega)]
    · rw [sib (by omega), sis (by simp; omega)]
    · rw [sis (by simp; omega)]
  · intro q hq
    rw [sib (by omega), sib (by omega), sib (by omega), sib (by omega), sib (by omega), sib (by omega)]
  · intro b hb
    rw [hW, set_other hb, set_other hb, set_other hb, set_other hb, set_other hb, set_other hb]
  · intro n w0 hn hb
    rw [hW]
    exact (((((hb.setCell (p := ⟨g, o, none⟩) hn _).setCell (p := ⟨g, o + 1, none⟩) hn _).setCell (p := ⟨g, o + 2, none⟩) hn _).setCell (p := ⟨g, o + 3, none⟩) hn _).setCell (p := ⟨g, o + 4, none⟩) hn _).setCell (p := ⟨g, o + 5, none⟩) hn _
/-- copied at values of at most m levels below. -/
def CpyP (m : Nat) : Prop := ∀ (V : Value) (x : Vl) (w : World), IsV m w V x →
  Calls Tryz.prog 47 #[V] w fun e w' => ∃ R, e = .returned R ∧ Stb w.heap.size w' (fun w2 => IsV m w2 R x) ∧ Below w.heap.size w w'

set_option maxRecDepth 100000 in
set_option maxHeartbeats 4000000 in
theorem copied_any : ∀ m, CpyP m := by
  intro m
  induction m using Nat.strongRecOn with
  | ind m ih =>
    intro V x w hV
    obtain ⟨k, t, i, s, l, ks, av, c, kv, kc, rfl, rfl, g0, g1, g2, g3, g4, g5, g6, g7, g8, g9, hs, hl⟩ := hV
    obtain ⟨m', hl', hm⟩ : ∃ m', ReadsV (m' + 1) w av l ∧ (l ≠ [] → m = m' + 1) := by
      cases m with
      | zero => exact ⟨0, ReadsV.up 0 _ _ hl, fun h => absurd (show l = [] from hl) h⟩
      | succ m => exact ⟨m, hl, fun _ => rfl⟩
    have KS := Lib.hid (fun w' (hb : Below w.heap.size w w') => cloneS_any kv ks kc g6 w' (hs.below hb))
    have KV := Lib.hid (fun w' (hb : Below w.heap.size w w') => cloneV_any m' av l c g3 w w' hb hl')
    have HI := Lib.hid ih
    have HM := Lib.hid hm
    have HG := Lib.hid (show (-9223372036854775808 ≤ k ∧ k ≤ 9223372036854775807) ∧ (-9223372036854775808 ≤ i ∧ i ≤ 9223372036854775807) ∧ s.size ≤ 140737488351232 ∧ l.length * 88 ≤ 140737488351232 ∧ ks.length * 16 ≤ 140737488351232 ∧ (∀ x, x ∈ ks → x.length ≤ 140737488351232) from ⟨g0, g1, g2, g3, g6, g9⟩)
    have hlen : l.length ≤ 9223372036854775000 := by omega
    have C0 := (CellsAt.new w 25 #[.int .i64 k, .bool t, .int .i64 i, .string s, .slice av l.length c, .slice kv ks.length kc]).alloc (.cells #[.int .i64 0, .bool false, .int .i64 0, .string ⟨#[]⟩, .slice none 0 0, .slice none 0 0] 25)
    have Z0 := CellsAt.new (w.alloc (.cells #[.int .i64 k, .bool t, .int .i64 i, .string s, .slice av l.length c, .slice kv ks.length kc] 25)) 25 #[.int .i64 0, .bool false, .int .i64 0, .string ⟨#[]⟩, .slice none 0 0, .slice none 0 0]
    simp only [World.size_alloc] at Z0
    clear ih hm g0 g1 g2 g3 g4 g5 g6 g7 g8 g9 hs hl hl'
    go_enter Tryz.func47, Tryz.ntmps47
    go_wp2_with fail
    go_fit (KS.out _ (by repeat (first | exact Below.refl _ _ | refine Below.alloc ?_ (by simp <;> omega) _)))
    rintro e w1 ⟨ka, kc', rfl, hk1, hk2, hks, hb1⟩
    have C1 := C0.below hb1
    have Z1 := Lib.hid (Z0.below hb1)
    have z1 := hb1.size
    simp only [World.size_alloc] at z1
    have q5 := C1.frozen 5
    have p5 : w1.cell? ⟨w.heap.size, 5, none⟩ = some (.slice kv ks.length kc) := C1.cell rfl
    have p4 : w1.cell? ⟨w.heap.size, 4, none⟩ = some (.slice av l.length c) := C1.cell rfl
    have C2 : CellsAt (w1.setCell ⟨w.heap.size, 5, none⟩ (.slice ka ks.length kc')) w.heap.size 25 #[.int .i64 k, .bool t, .int .i64 i, .string s, .slice av l.length c, .slice ka ks.length kc'] := C1.set 5 (.slice ka ks.length kc')
    have Z2 := Z1.out.other (show w.heap.size + 1 ≠ w.heap.size by omega) 5 (.slice ka ks.length kc')
    have B1 := Lib.hid (Below.trans (show Below w.heap.size w _ from (by repeat (first | exact Below.refl _ _ | refine Below.alloc ?_ (by simp <;> omega) _))) (hb1.mono (by simp <;> omega)))
    have HKS := Lib.hid hks
    clear hb1 KS C0 hks Z0
    have B2 := Lib.hid (B1.out.setCell (p := ⟨w.heap.size, 5, none⟩) (Nat.le_refl _) (.slice ka ks.length kc'))
    have HKS2 := Lib.hid (show Stb (w.heap.size + 1 + 1) (w1.setCell ⟨w.heap.size, 5, none⟩ (.slice ka ks.length kc')) (fun w2 => ReadsStr w2 ka ks) from Stb.on (by simpa using HKS.out) (From.set (by omega) _ _))
    clear Z1 B1 HKS C1
    go_wp2_with fail
    generalize w1.setCell ⟨w.heap.size, 5, none⟩ (.slice ka ks.length kc') = W1 at *
    go_fit (KV.out _ B2.out)
    rintro e w2 ⟨la, lc', rfl, hl1, hl2, hls, hb2⟩
    have C3 := C2.below hb2
    have Z3 := Z2.below hb2
    have q6 := C3.frozen 4
    have p6 : w2.cell? ⟨w.heap.size, 4, none⟩ = some (.slice av l.length c) := C3.cell rfl
    have C4 : CellsAt (w2.setCell ⟨w.heap.size, 4, none⟩ (.slice la l.length lc')) w.heap.size 25 #[.int .i64 k, .bool t, .int .i64 i, .string s, .slice la l.length lc', .slice ka ks.length kc'] := C3.set 4 (.slice la l.length lc')
    have Z4 := Z3.other (show w.heap.size + 1 ≠ w.heap.size by omega) 4 (.slice la l.length lc')
    have hz4 := Z4.lt
    have B4 := Lib.hid ((B2.out.trans (hb2.mono B2.out.size)).setCell (p := ⟨w.heap.size, 4, none⟩) (Nat.le_refl _) (.slice la l.length lc'))
    have HKS4 := Lib.hid (show From (w.heap.size + 1 + 1) W1 (w2.setCell ⟨w.heap.size, 4, none⟩ (.slice la l.length lc')) from (From.of_below hb2).trans (From.set (b := w.heap.size) (by omega) 4 (.slice la l.length lc')))
    have hzW : w.heap.size + 1 + 1 ≤ W1.heap.size := Z2.lt
    go_wp2_with fail
    obtain ⟨W2, hW2⟩ : ∃ W2, W2 = w2.setCell ⟨w.heap.size, 4, none⟩ (.slice la l.length lc') := ⟨_, rfl⟩
    rw [← hW2] at C4 Z4 B4 HKS4 ⊢
    have H0 := Lib.hid (show l = [] ∨ ∃ g cs, la = some ⟨g, 0, none⟩ ∧ W1.heap.size ≤ g ∧ CellsAt W2 g 25 cs ∧ (∀ i, i < l.length → 0 ≤ i → El l cs (fun kv ks av l' => ReadsStr w kv ks ∧ ReadsV m' w av l') i) ∧ ∀ i, i < 0 → El l cs (fun kv ks av l' => Stb (g + 1) W2 (fun w2 => ReadsStr w2 kv ks ∧ ReadsV m' w2 av l')) i by
      rcases hls with h | ⟨g, cs, h1, h2, h3, h4⟩
      · exact .inl h
      · refine .inr ⟨g, cs, h1, h2, ?_, fun i hi _ => h4 i hi, fun i hi => by omega⟩
        rw [hW2]
        exact h3.other (by have := C2.lt; omega) _ _)
    have C4 := Lib.hid C4
    have Z4 := Lib.hid Z4
    clear hls hW2 KV B2 C2 Z2 hb2 C3 Z3 q6 p6 q5 p5 p4 z1 hz4
    go_loopw [16] (fun s16 wr => ∃ j : Nat, j ≤ l.length ∧ s16 = .int .i64 (j : Int) ∧ Hid (CellsAt wr w.heap.size 25 #[.int .i64 k, .bool t, .int .i64 i, .string s, .slice la l.length lc', .slice ka ks.length kc']) ∧ Hid (CellsAt wr (w.heap.size + 1) 25 #[.int .i64 0, .bool false, .int .i64 0, .string ⟨#[]⟩, .slice none 0 0, .slice none 0 0]) ∧
      Hid (l = [] ∨ ∃ g cs, la = some ⟨g, 0, none⟩ ∧ W1.heap.size ≤ g ∧ CellsAt wr g 25 cs ∧ (∀ i, i < l.length → j ≤ i → El l cs (fun kv ks av l' => ReadsStr w kv ks ∧ ReadsV m' w av l') i) ∧ ∀ i, i < j → El l cs (fun kv ks av l' => Stb (g + 1) wr (fun w2 => ReadsStr w2 kv ks ∧ ReadsV m' w2 av l')) i) ∧
      Hid (Below w.heap.size w wr) ∧ Hid (From (w.heap.size + 1 + 1) W1 wr)) (fun s16 _ => l.length - (RowKit.intOf s16).toNat)
    case atStart => exact ⟨0, by omega, rfl, C4, Z4, H0, B4, HKS4⟩
    case round =>
      obtain ⟨j, hj, rfl, C, Z, HE, HB, HK⟩ := hrel
      clear C4 Z4 B4 HKS4 H0
      by_cases hlt : j < l.length
      · rcases HE.out with h | ⟨g, cs, rfl, hg, hcs, hold, hnew⟩
        · rw [h] at hlt; simp at hlt
        obtain ⟨k1, t1, i1, s1, l1, ks1, av1, c1, kv1, kc1, e0, d0, d1, d2, d3, d4, d5, r0, r1, r2, r3, r4, r5, r6, r7, r8, r9, rs, rv⟩ := hold j hlt (Nat.le_refl _)
        have e1 := hcs.cell d0
        have e2 := hcs.cell d1
        have e3 := hcs.cell d2
        have e4 := hcs.cell d3
        have e5 := hcs.cell d4
        have e6 := hcs.cell d5
        have b4 : wr.cell? ⟨w.heap.size, 4, none⟩ = some (.slice (some ⟨g, 0, none⟩) l.length lc') := C.out.cell rfl
        have hmm : m = m' + 1 := HM.out (by intro h; rw [h] at hlt; simp at hlt)
        have F := Lib.hid (fun w' (hb : Below w.heap.size w w') => HI.out m' (by omega) (.agg #[.int .i64 k1, .bool t1, .int .i64 i1, .string s1, .slice av1 l1.length c1, .slice kv1 ks1.length kc1]) (.mk k1 t1 i1 s1 l1 ks1) w' (IsV.below ⟨k1, t1, i1, s1, l1, ks1, av1, c1, kv1, kc1, rfl, rfl, r0, r1, r2, r3, r4, r5, r6, r7, r8, r9, rs, rv⟩ hb))
        have hjI : (j : Int) < (l.length : Int) := by omega
        have hj0 : (0 : Int) ≤ (j : Int) := by omega
        have HCS := Lib.hid hcs
        have HOLD := Lib.hid hold
        have HNEW := Lib.hid hnew
        have HD := Lib.hid (show j * 6 + 5 < cs.size ∧ cs[j * 6]? = some (.int .i64 k1) ∧ cs[j * 6 + 1]? = some (.bool t1) ∧ cs[j * 6 + 2]? = some (.int .i64 i1) ∧ cs[j * 6 + 3]? = some (.string s1) ∧ cs[j * 6 + 4]? = some (.slice av1 l1.length c1) ∧ cs[j * 6 + 5]? = some (.slice kv1 ks1.length kc1) from ⟨(Array.getElem?_eq_some_iff.1 d5).1, d0, d1, d2, d3, d4, d5⟩)
        have HE0 := Lib.hid e0
        clear hcs hold hnew d0 d1 d2 d3 d4 d5 e0 hmm r0 r1 r2 r3 r4 r5 r6 r7 r8 r9 rs rv HE
        go_wp2_with fail
        obtain ⟨WA, hWA⟩ : ∃ WA, WA = wr.alloc (.cells #[.int .i64 k1, .bool t1, .int .i64 i1, .string s1, .slice av1 l1.length c1, .slice kv1 ks1.length kc1] 25) := ⟨_, rfl⟩
        rw [← hWA]
        have EA := (CellsAt.new wr 25 #[.int .i64 k1, .bool t1, .int .i64 i1, .string s1, .slice av1 l1.length c1, .slice kv1 ks1.length kc1]).drew
        have CA := (C.out.alloc (.cells #[.int .i64 k1, .bool t1, .int .i64 i1, .string s1, .slice av1 l1.length c1, .slice kv1 ks1.length kc1] 25)).drew
        have ZA := (Z.out.alloc (.cells #[.int .i64 k1, .bool t1, .int .i64 i1, .string s1, .slice av1 l1.length c1, .slice kv1 ks1.length kc1] 25)).drew
        have GA := (HCS.out.alloc (.cells #[.int .i64 k1, .bool t1, .int .i64 i1, .string s1, .slice av1 l1.length c1, .slice kv1 ks1.length kc1] 25)).drew
        have BA := Lib.hid (HB.out.alloc HB.out.size (.cells #[.int .i64 k1, .bool t1, .int .i64 i1, .string s1, .slice av1 l1.length c1, .slice kv1 ks1.length kc1] 25)).drew
        have FA := Lib.hid (show From (w.heap.size + 1 + 1) wr WA.drew from by rw [hWA]; exact From.of_below ((Below.refl _ wr).alloc (Nat.le_refl _) _).drew)
        rw [← hWA] at EA CA ZA GA BA
        have y0 : WA.drew.cell? ⟨wr.heap.size, 0, none⟩ = some (.int .i64 k1) := EA.cell rfl
        have y1 : WA.drew.cell? ⟨wr.heap.size, 1, none⟩ = some (.bool t1) := EA.cell rfl
        have y2 : WA.drew.cell? ⟨wr.heap.size, 2, none⟩ = some (.int .i64 i1) := EA.cell rfl
        have y3 : WA.drew.cell? ⟨wr.heap.size, 3, none⟩ = some (.string s1) := EA.cell rfl
        have y4 : WA.drew.cell? ⟨wr.heap.size, 4, none⟩ = some (.slice av1 l1.length c1) := EA.cell rfl
        have y5 : WA.drew.cell? ⟨wr.heap.size, 5, none⟩ = some (.slice kv1 ks1.length kc1) := EA.cell rfl
        have y6 : WA.drew.cell? ⟨w.heap.size, 4, none⟩ = some (.slice (some ⟨g, 0, none⟩) l.length lc') := CA.cell rfl
        have CA := Lib.hid CA
        have ZA := Lib.hid ZA
        have GA := Lib.hid GA
        clear EA hWA e1 e2 e3 e4 e5 e6 b4
        go_region_with (go_at_call 47; go_fit (F.out _ BA.out); rintro e w3 ⟨R, rfl, hR, hb3⟩; obtain ⟨av3, c3, kv3, kc3, rfl, x0, x1, x2, x3, x4, x5, x6, x7, x8, x9, hN⟩ := isV_stb hR; have C3 := CA.out.below hb3; have Z3 := ZA.out.below hb3; have G3 := GA.out.below hb3; have b43 : w3.cell? ⟨w.heap.size, 4, none⟩ = some (.slice (some ⟨g, 0, none⟩) l.length lc') := C3.cell rfl; have v0 := G3.cell HD.out.2.1; have v1 := G3.cell HD.out.2.2.1; have v2 := G3.cell HD.out.2.2.2.1; have v3 := G3.cell HD.out.2.2.2.2.1; have v4 := G3.cell HD.out.2.2.2.2.2.1; have v5 := G3.cell HD.out.2.2.2.2.2.2; have u0 := G3.frozen)
        all_goals
          clear y0 y1 y2 y3 y4 y5 y6 b43 v0 v1 v2 v3 v4 v5 u0
          obtain ⟨W3, hW3⟩ : ∃ W3, W3 = (((((w3.setCell ⟨g, j * 6, none⟩ (.int .i64 k1)).setCell ⟨g, j * 6 + 1, none⟩ (.bool t1)).setCell ⟨g, j * 6 + 2, none⟩ (.int .i64 i1)).setCell ⟨g, j * 6 + 3, none⟩ (.string s1)).setCell ⟨g, j * 6 + 4, none⟩ (.slice av3 l1.length c3)).setCell ⟨g, j * 6 + 5, none⟩ (.slice kv3 ks1.length kc3) := ⟨_, rfl⟩
          rw [← hW3]
          have HW3 := Lib.hid hW3
          have HX := Lib.hid (And.intro G3 (And.intro C3 (And.intro Z3 hb3)))
          have HN := Lib.hid hN
          have HXX := Lib.hid (And.intro x0 (And.intro x1 (And.intro x2 (And.intro x3 (And.intro x4 (And.intro x5 (And.intro x6 (And.intro x7 (And.intro x8 x9)))))))))
          clear hW3 G3 C3 Z3 hb3 hN x0 x1 x2 x3 x4 x5 x6 x7 x8 x9 hR
          go_wp2_with fail
          obtain ⟨G3, C3, Z3, hb3⟩ := HX.out
          have hW3 := HW3.out
          have hN := HN.out
          obtain ⟨x0, x1, x2, x3, x4, x5, x6, x7, x8, x9⟩ := HXX.out
          obtain ⟨⟨cs', G4, h1, h2⟩, h3, h4, h5⟩ := six_set G3 (j * 6) _ _ _ _ _ _ W3 hW3
          have hF4 : From (g + 1) w3 W3 := ⟨by omega, fun b hb _ => h3 b (by omega)⟩
          have hF3 : From (g + 1) wr W3 := ((FA.out.mono (by omega)).trans (From.of_below hb3)).trans hF4
          have hsz := hb3.size
          have hgA := GA.out.lt
          have C4 := Lib.hid (C3.of_block (h3 _ (by omega)))
          have Z4 := Lib.hid (Z3.of_block (h3 _ (by omega)))
          have B4 := Lib.hid (h5 w.heap.size w (by omega) (BA.out.trans (hb3.mono BA.out.size)))
          have K4 := Lib.hid (⟨by rw [h4]; exact ((HK.out.trans FA.out).trans (From.of_below hb3)).1, fun b hb hlt' => (h3 b (by omega)).trans (((HK.out.trans FA.out).trans (From.of_below hb3)).2 b hb hlt')⟩ : From (w.heap.size + 1 + 1) W1 W3)
          obtain ⟨q0, q1, q2, q3, q4, q5⟩ := h1 HD.out.1
          refine ⟨⟨j + 1, by omega, by go_num, C4, Z4, Lib.hid (.inr ⟨g, cs', rfl, hg, G4, ?_, ?_⟩), B4, K4⟩, by simp [RowKit.intOf]; omega⟩
          · intro i' hi' hji
            exact (HOLD.out i' hi' (by omega)).mono (fun k hk1 hk2 => h2 k (by omega)) (fun _ _ _ _ h => h)
          · intro i' hi'
            by_cases hij : i' < j
            · exact (HNEW.out i' hij).mono (fun k hk1 hk2 => h2 k (by omega)) (fun _ _ _ _ h => h.on hF3)
            · obtain rfl : i' = j := by omega
              exact ⟨k1, t1, i1, s1, l1, ks1, av3, c3, kv3, kc3, HE0.out, q0, q1, q2, q3, q4, q5, x0, x1, x2, x3, x4, x5, x6, x7, x8, x9, (hN.mono (show g + 1 ≤ WA.drew.heap.size from hgA)).on hF4⟩
      · obtain rfl : j = l.length := by omega
        have c0 : wr.cell? ⟨w.heap.size, 0, none⟩ = some (.int .i64 k) := C.out.cell rfl
        have c1 : wr.cell? ⟨w.heap.size, 1, none⟩ = some (.bool t) := C.out.cell rfl
        have c2 : wr.cell? ⟨w.heap.size, 2, none⟩ = some (.int .i64 i) := C.out.cell rfl
        have c3 : wr.cell? ⟨w.heap.size, 3, none⟩ = some (.string s) := C.out.cell rfl
        have c4 : wr.cell? ⟨w.heap.size, 4, none⟩ = some (.slice la l.length lc') := C.out.cell rfl
        have c5 : wr.cell? ⟨w.heap.size, 5, none⟩ = some (.slice ka ks.length kc') := C.out.cell rfl
        have z0 : wr.cell? ⟨w.heap.size + 1, 0, none⟩ = some (.int .i64 0) := Z.out.cell rfl
        have z1 : wr.cell? ⟨w.heap.size + 1, 1, none⟩ = some (.bool false) := Z.out.cell rfl
        have z2 : wr.cell? ⟨w.heap.size + 1, 2, none⟩ = some (.int .i64 0) := Z.out.cell rfl
        have z3 : wr.cell? ⟨w.heap.size + 1, 3, none⟩ = some (.string ⟨#[]⟩) := Z.out.cell rfl
        have z4 : wr.cell? ⟨w.heap.size + 1, 4, none⟩ = some (.slice none 0 0) := Z.out.cell rfl
        have z5 : wr.cell? ⟨w.heap.size + 1, 5, none⟩ = some (.slice none 0 0) := Z.out.cell rfl
        have zf := Z.out.frozen
        clear hlt
        go_wp2_with fail
        obtain ⟨W3, hW3⟩ : ∃ W3, W3 = (((((wr.setCell ⟨w.heap.size + 1, 0, none⟩ (.int .i64 k)).setCell ⟨w.heap.size + 1, 1, none⟩ (.bool t)).setCell ⟨w.heap.size + 1, 2, none⟩ (.int .i64 i)).setCell ⟨w.heap.size + 1, 3, none⟩ (.string s)).setCell ⟨w.heap.size + 1, 4, none⟩ (.slice la l.length lc')).setCell ⟨w.heap.size + 1, 5, none⟩ (.slice ka ks.length kc') := ⟨_, rfl⟩
        rw [← hW3]
        obtain ⟨⟨cs', G4, h1, h2⟩, h3, h4, h5⟩ := six_set Z.out 0 _ _ _ _ _ _ W3 hW3
        obtain ⟨q0, q1, q2, q3, q4, q5⟩ := h1 (by decide)
        have u0 : W3.cell? ⟨w.heap.size + 1, 0, none⟩ = _ := G4.cell q0
        have u1 : W3.cell? ⟨w.heap.size + 1, 1, none⟩ = _ := G4.cell q1
        have u2 : W3.cell? ⟨w.heap.size + 1, 2, none⟩ = _ := G4.cell q2
        have u3 : W3.cell? ⟨w.heap.size + 1, 3, none⟩ = _ := G4.cell q3
        have u4 : W3.cell? ⟨w.heap.size + 1, 4, none⟩ = _ := G4.cell q4
        have u5 : W3.cell? ⟨w.heap.size + 1, 5, none⟩ = _ := G4.cell q5
        have hB := h5 w.heap.size w (by omega) HB.out
        have hS : Stb w.heap.size W3 (fun w2 => IsV m w2 (.agg #[.int .i64 k, .bool t, .int .i64 i, .string s, .slice la l.length lc', .slice ka ks.length kc']) (.mk k t i s l ks)) := by
          intro w2 hf
          obtain ⟨g0, g1, g2, g3, g6, g9⟩ := HG.out
          refine ⟨k, t, i, s, l, ks, la, lc', ka, kc', rfl, rfl, g0, g1, g2, g3, hl1, hl2, g6, hk1, hk2, g9, ?_, ?_⟩
          · refine HKS2.out w2 ⟨Nat.le_trans HK.out.1 (by rw [← h4]; exact hf.1), fun b hb hlt => ?_⟩
            have hlt2 := Nat.lt_of_lt_of_le hlt HK.out.1
            exact ((hf.2 b (by omega) (by omega)).trans (h3 b (by omega))).trans (HK.out.2 b hb hlt)
          · rcases HE.out with h | ⟨g, cs, rfl, hg, hcs, _, hnew⟩
            · subst h
              exact readsV_nil _ _ _
            · by_cases hl0 : l = []
              · subst hl0
                exact readsV_nil _ _ _
              · have hmm := HM.out hl0
                subst hmm
                have hgl := hcs.lt
                refine els_reads (hcs.of_block ((hf.2 g (by omega) (by omega)).trans (h3 g (by omega)))) (fun j hj => (hnew j hj).mono (fun _ _ _ => rfl) (fun _ _ _ _ h => h w2 ⟨by rw [← h4]; exact hf.1, fun b hb hlt => (hf.2 b (by omega) (by omega)).trans (h3 b (by omega))⟩))
        exact bodyPost_ret (v := .agg #[.int .i64 k, .bool t, .int .i64 i, .string s, .slice la l.length lc', .slice ka ks.length kc']) (by simp [results, Tryz.f47, go_sem, u0, u1, u2, u3, u4, u5]) rfl ⟨_, rfl, hS, hB⟩
end Go.Proofs.YtabopneehhnhfaaGreatDoor
namespace Go.Proofs.YtabopneehhnhfaaGreatDoor
open Go.RowKit Go.Lib

/-- The first place of a key. -/
def firstK (ks : List (List UInt8)) (key : List UInt8) : Option Nat := ks.findIdx? (· == key)
theorem firstK_drop (ks : List (List UInt8)) (key : List UInt8) (j : Nat) (h : j < ks.length) : (firstK (ks.drop j) key).map (· + j) = if ks[j] = key then some j else (firstK (ks.drop (j + 1)) key).map (· + (j + 1)) := by
  unfold firstK
  rw [List.drop_eq_getElem_cons h, List.findIdx?_cons]
  by_cases e : ks[j] = key
  · rw [if_pos (by simpa using e), if_pos e]
    simp
  · rw [if_neg (by simpa using e), if_neg e, Option.map_map]
    congr 1
    funext x
    simp only [Function.comp]
    omega
theorem firstK_end (ks : List (List UInt8)) (key : List UInt8) : (firstK (ks.drop ks.length) key).map (· + ks.length) = none := by
  rw [List.drop_length]
  rfl
def idxZ : Option Nat → Int
  | none => -1
  | some i => i
set_option maxHeartbeats 1000000 in
theorem index_any (v : Option Addr) (c : Nat) (ks : List (List UInt8)) (key : ByteArray) (hl : ks.length ≤ 9223372036854775000) (w : World) (hr : ReadsStr w v ks) :
    Calls Tryz.prog 51 #[.slice v ks.length c, .string key] w fun e w' => e = .returned (.int .i64 (idxZ (firstK ks key.data.toList))) ∧ Below w.heap.size w w' := by
  have HR := Lib.hid hr
  clear hr
  go_enter Tryz.func51, Tryz.ntmps51
  go_wp2_with fail
  go_loopw [8] (fun s8 wr => ∃ j : Nat, j ≤ ks.length ∧ s8 = .int .i64 (j : Int) ∧ Hid (firstK ks key.data.toList = (firstK (ks.drop j) key.data.toList).map (· + j)) ∧ Hid (Below w.heap.size w wr)) (fun s8 _ => ks.length - (RowKit.intOf s8).toNat)
  case atStart => exact ⟨0, by omega, rfl, Lib.hid (by simp), Lib.hid (Below.refl _ _)⟩
  case round =>
    obtain ⟨j, hj, rfl, HD, HB⟩ := hrel
    by_cases hlt : j < ks.length
    · obtain ⟨b, off, rfl, h2, c0⟩ := HR.out j hlt
      have p0 := (HB.out.cell (p := ⟨b, _, none⟩) h2).trans c0
      have h1 := firstK_drop ks key.data.toList j hlt
      rw [← HD.out] at h1
      have hjI : (j : Int) < (ks.length : Int) := by omega
      by_cases he : ks[j] = key.data.toList
      · have HF := Lib.hid (show idxZ (firstK ks key.data.toList) = (j : Int) by rw [h1, if_pos he]; rfl)
        have hq : (key.toList == (⟨ks[j].toArray⟩ : ByteArray).toList) = true := by rw [Lib.toList_data, Lib.toList_data, beq_iff_eq]; exact he.symm
        generalize (⟨ks[j].toArray⟩ : ByteArray) = x at p0 hq
        clear h1 he c0
        go_wp2_with fail
        go_ret
        exact ⟨by rw [HF.out]; rfl, HB.out⟩
      · have HF := Lib.hid (show firstK ks key.data.toList = (firstK (ks.drop (j + 1)) key.data.toList).map (· + (j + 1)) by rw [h1, if_neg he])
        have hq : (key.toList == (⟨ks[j].toArray⟩ : ByteArray).toList) = false := by rw [Lib.toList_data, Lib.toList_data, beq_eq_false_iff_ne]; exact fun h => he h.symm
        generalize (⟨ks[j].toArray⟩ : ByteArray) = x at p0 hq
        clear h1 he c0
        go_wp2_with fail
        exact ⟨⟨j + 1, by omega, by go_num, HF, HB⟩, by simp [RowKit.intOf]; omega⟩
    · obtain rfl : j = ks.length := by omega
      have HF := Lib.hid (show idxZ (firstK ks key.data.toList) = -1 by rw [HD.out, firstK_end]; rfl)
      go_wp2_with fail
      go_ret
      exact ⟨by rw [HF.out]; rfl, HB.out⟩

/-- The zero value. -/
def zeroV : Vl := .mk 0 false 0 ⟨#[]⟩ [] []
/-- An entry of a map. -/
def getV : Vl → List UInt8 → Option Vl
  | .mk k _ _ _ l ks, key => if k = 5 then (firstK ks key).bind (fun i => l[i]?) else none
theorem readsV_up {w : World} {m n : Nat} (h : m ≤ n) (v : Option Addr) (l : List Vl) (hr : ReadsV m w v l) : ReadsV n w v l := by
  induction n with
  | zero => rw [show m = 0 by omega] at hr; exact hr
  | succ n ih =>
    by_cases e : m = n + 1
    · rw [← e]; exact hr
    · exact ReadsV.up n v l (ih (by omega))
theorem isV_up {w : World} {m n : Nat} (hm : m ≤ n) {V : Value} {x : Vl} (h : IsV m w V x) : IsV n w V x := by
  obtain ⟨k, t, i, s, l, ks, av, c, kv, kc, e, eV, g0, g1, g2, g3, g4, g5, g6, g7, g8, g9, hs, hl⟩ := h
  exact ⟨k, t, i, s, l, ks, av, c, kv, kc, e, eV, g0, g1, g2, g3, g4, g5, g6, g7, g8, g9, hs, readsV_up hm _ _ hl⟩
theorem isV_zero (m : Nat) (w : World) : IsV m w (.agg #[.int .i64 0, .bool false, .int .i64 0, .string ⟨#[]⟩, .slice none 0 0, .slice none 0 0]) zeroV :=
  ⟨0, false, 0, ⟨#[]⟩, [], [], none, 0, none, 0, rfl, rfl, by decide, by decide, by decide, by decide, by decide, by decide, by decide, by decide, by decide, by simp, fun _ h => by simp at h, readsV_nil _ _ _⟩
def zeroA : Value := .agg #[.int .i64 0, .bool false, .int .i64 0, .string ⟨#[]⟩, .slice none 0 0, .slice none 0 0]

set_option maxRecDepth 100000 in
set_option maxHeartbeats 4000000 in
theorem get_any (m : Nat) (V : Value) (x : Vl) (key : ByteArray) (w : World) (hV : IsV m w V x) :
    Calls Tryz.prog 25 #[V, .string key] w fun e w' => ∃ R, e = .returned (.tuple #[R, .bool (getV x key.data.toList).isSome]) ∧ Stb w.heap.size w' (fun w2 => IsV m w2 R ((getV x key.data.toList).getD zeroV)) ∧ Below w.heap.size w w' := by
  obtain ⟨k, t, i, s, l, ks, av, c, kv, kc, rfl, rfl, g0, g1, g2, g3, g4, g5, g6, g7, g8, g9, hs, hl⟩ := hV
  have IX := Lib.hid (fun w' (hb : Below w.heap.size w w') => index_any kv kc ks key (by omega) w' (hs.below hb))
  by_cases hk : k = 5
  · subst hk
    cases hf : firstK ks key.data.toList with
    | none =>
      have E := Lib.hid (show getV (.mk 5 t i s l ks) key.data.toList = none by rw [getV, if_pos rfl, hf]; rfl)
      rw [hf] at IX
      clear hf hs hl g9
      have C0 := (CellsAt.new w 25 #[.int .i64 5, .bool t, .int .i64 i, .string s, .slice av l.length c, .slice kv ks.length kc]).alloc (.cells #[.int .i64 0, .bool false, .int .i64 0, .string ⟨#[]⟩, .slice none 0 0, .slice none 0 0] 25)
      have Z0 := CellsAt.new (w.alloc (.cells #[.int .i64 5, .bool t, .int .i64 i, .string s, .slice av l.length c, .slice kv ks.length kc] 25)) 25 #[.int .i64 0, .bool false, .int .i64 0, .string ⟨#[]⟩, .slice none 0 0, .slice none 0 0]
      simp only [World.size_alloc] at Z0
      go_enter Tryz.func25, Tryz.ntmps25
      go_wp2_with fail
      go_fit (IX.out _ (by repeat (first | exact Below.refl _ _ | refine Below.alloc ?_ (by simp <;> omega) _)))
      rintro e w1 ⟨rfl, hb1⟩
      have C1 := C0.below hb1
      have Z1 := Z0.below hb1
      have B1 := Lib.hid (Below.trans (show Below w.heap.size w _ from (by repeat (first | exact Below.refl _ _ | refine Below.alloc ?_ (by simp <;> omega) _))) (hb1.mono (by simp <;> omega)))
      have p4 : w1.cell? ⟨w.heap.size, 4, none⟩ = some (.slice av l.length c) := C1.cell rfl
      have z0 : w1.cell? ⟨w.heap.size + 1, 0, none⟩ = some (.int .i64 0) := Z1.cell rfl
      have z1 : w1.cell? ⟨w.heap.size + 1, 1, none⟩ = some (.bool false) := Z1.cell rfl
      have z2 : w1.cell? ⟨w.heap.size + 1, 2, none⟩ = some (.int .i64 0) := Z1.cell rfl
      have z3 : w1.cell? ⟨w.heap.size + 1, 3, none⟩ = some (.string ⟨#[]⟩) := Z1.cell rfl
      have z4 : w1.cell? ⟨w.heap.size + 1, 4, none⟩ = some (.slice none 0 0) := Z1.cell rfl
      have z5 : w1.cell? ⟨w.heap.size + 1, 5, none⟩ = some (.slice none 0 0) := Z1.cell rfl
      have zf := Z1.frozen
      clear hb1 C0 Z0
      go_wp2_with fail
      obtain ⟨W3, hW3⟩ : ∃ W3, W3 = (((((w1.setCell ⟨w.heap.size + 1, 0, none⟩ (.int .i64 0)).setCell ⟨w.heap.size + 1, 1, none⟩ (.bool false)).setCell ⟨w.heap.size + 1, 2, none⟩ (.int .i64 0)).setCell ⟨w.heap.size + 1, 3, none⟩ (.string ⟨#[]⟩)).setCell ⟨w.heap.size + 1, 4, none⟩ (.slice none 0 0)).setCell ⟨w.heap.size + 1, 5, none⟩ (.slice none 0 0) := ⟨_, rfl⟩
      rw [← hW3]
      obtain ⟨⟨cs', G4, h1, h2⟩, h3, h4, h5⟩ := six_set Z1 0 _ _ _ _ _ _ W3 hW3
      obtain ⟨q0, q1, q2, q3, q4, q5⟩ := h1 (by decide)
      have u0 : W3.cell? ⟨w.heap.size + 1, 0, none⟩ = _ := G4.cell q0
      have u1 : W3.cell? ⟨w.heap.size + 1, 1, none⟩ = _ := G4.cell q1
      have u2 : W3.cell? ⟨w.heap.size + 1, 2, none⟩ = _ := G4.cell q2
      have u3 : W3.cell? ⟨w.heap.size + 1, 3, none⟩ = _ := G4.cell q3
      have u4 : W3.cell? ⟨w.heap.size + 1, 4, none⟩ = _ := G4.cell q4
      have u5 : W3.cell? ⟨w.heap.size + 1, 5, none⟩ = _ := G4.cell q5
      have hB := h5 w.heap.size w (by omega) B1.out
      have hS : Stb w.heap.size W3 (fun w2 => IsV m w2 (.agg #[.int .i64 0, .bool false, .int .i64 0, .string ⟨#[]⟩, .slice none 0 0, .slice none 0 0]) ((getV (.mk 5 t i s l ks) key.data.toList).getD zeroV)) := fun w2 _ => by rw [E.out]; exact isV_zero m w2
      rw [E.out]
      rw [E.out] at hS
      exact bodyPost_ret (v := .tuple #[.agg #[.int .i64 0, .bool false, .int .i64 0, .string ⟨#[]⟩, .slice none 0 0, .slice none 0 0], .bool false]) (by simp [results, Tryz.f25, go_sem, u0, u1, u2, u3, u4, u5]) rfl ⟨_, rfl, hS, hB⟩
    | some j =>
      have hj : j < ks.length := by
        unfold firstK at hf
        exact (List.findIdx?_eq_some_iff_getElem.1 hf).1
      have hz : idxZ (some j) = (j : Int) := rfl
      rw [hf, hz] at IX
      have hj0 : ¬ (j : Int) < 0 := by omega
      by_cases hlt : j < l.length
      · have E := Lib.hid (show getV (.mk 5 t i s l ks) key.data.toList = some l[j] by rw [getV, if_pos rfl, hf]; simp [hlt])
        have hjI : ¬ ((l.length : Int) ≤ (j : Int)) := by omega
        have hjI2 : (j : Int) < (l.length : Int) := by omega
        cases m with
        | zero => exact absurd hlt (by have h : l = [] := hl; rw [h]; simp)
        | succ m =>
        obtain ⟨b, off, k1, t1, i1, s1, l1, ks1, av1, c1, kv1, kc1, h0, rfl, h2, e0, e1, e2, e3, e4, e5, r0, r1, r2, r3, r4, r5, r6, r7, r8, r9, rs, rv⟩ := hl j hlt
        have hx : l[j] = .mk k1 t1 i1 s1 l1 ks1 := (List.getElem?_eq_some_iff.1 h0).2
        rw [hx] at E
        have F := Lib.hid (fun w' (hb : Below w.heap.size w w') => copied_any m (.agg #[.int .i64 k1, .bool t1, .int .i64 i1, .string s1, .slice av1 l1.length c1, .slice kv1 ks1.length kc1]) (.mk k1 t1 i1 s1 l1 ks1) w' (IsV.below ⟨k1, t1, i1, s1, l1, ks1, av1, c1, kv1, kc1, rfl, rfl, r0, r1, r2, r3, r4, r5, r6, r7, r8, r9, rs, rv⟩ hb))
        have HC := Lib.hid (show b < w.heap.size ∧ w.cell? ⟨b, off + j * 6, none⟩ = some (.int .i64 k1) ∧ w.cell? ⟨b, off + j * 6 + 1, none⟩ = some (.bool t1) ∧ w.cell? ⟨b, off + j * 6 + 2, none⟩ = some (.int .i64 i1) ∧ w.cell? ⟨b, off + j * 6 + 3, none⟩ = some (.string s1) ∧ w.cell? ⟨b, off + j * 6 + 4, none⟩ = some (.slice av1 l1.length c1) ∧ w.cell? ⟨b, off + j * 6 + 5, none⟩ = some (.slice kv1 ks1.length kc1) from ⟨h2, e0, e1, e2, e3, e4, e5⟩)
        clear hf hs hl g9 h0 hx h2 e0 e1 e2 e3 e4 e5 r0 r1 r2 r3 r4 r5 r6 r7 r8 r9 rs rv
        have C0 := (CellsAt.new w 25 #[.int .i64 5, .bool t, .int .i64 i, .string s, .slice (some ⟨b, off, none⟩) l.length c, .slice kv ks.length kc]).alloc (.cells #[.int .i64 0, .bool false, .int .i64 0, .string ⟨#[]⟩, .slice none 0 0, .slice none 0 0] 25)
        have Z0 := CellsAt.new (w.alloc (.cells #[.int .i64 5, .bool t, .int .i64 i, .string s, .slice (some ⟨b, off, none⟩) l.length c, .slice kv ks.length kc] 25)) 25 #[.int .i64 0, .bool false, .int .i64 0, .string ⟨#[]⟩, .slice none 0 0, .slice none 0 0]
        simp only [World.size_alloc] at Z0
        go_enter Tryz.func25, Tryz.ntmps25
        go_wp2_with fail
        go_fit (IX.out _ (by repeat (first | exact Below.refl _ _ | refine Below.alloc ?_ (by simp <;> omega) _)))
        rintro e w1 ⟨rfl, hb1⟩
        have C1 := C0.below hb1
        have Z1 := Z0.below hb1
        have B1 := Lib.hid (Below.trans (show Below w.heap.size w _ from (by repeat (first | exact Below.refl _ _ | refine Below.alloc ?_ (by simp <;> omega) _))) (hb1.mono (by simp <;> omega)))
        have p4 : w1.cell? ⟨w.heap.size, 4, none⟩ = some (.slice (some ⟨b, off, none⟩) l.length c) := C1.cell rfl
        have z0 : w1.cell? ⟨w.heap.size + 1, 0, none⟩ = some (.int .i64 0) := Z1.cell rfl
        have z1 : w1.cell? ⟨w.heap.size + 1, 1, none⟩ = some (.bool false) := Z1.cell rfl
        have z2 : w1.cell? ⟨w.heap.size + 1, 2, none⟩ = some (.int .i64 0) := Z1.cell rfl
        have z3 : w1.cell? ⟨w.heap.size + 1, 3, none⟩ = some (.string ⟨#[]⟩) := Z1.cell rfl
        have z4 : w1.cell? ⟨w.heap.size + 1, 4, none⟩ = some (.slice none 0 0) := Z1.cell rfl
        have z5 : w1.cell? ⟨w.heap.size + 1, 5, none⟩ = some (.slice none 0 0) := Z1.cell rfl
        have zf := Z1.frozen
        clear hb1 C0 Z0
        have y0 := (B1.out.cell (p := ⟨b, _, none⟩) HC.out.1).trans HC.out.2.1
        have y1 := (B1.out.cell (p := ⟨b, _, none⟩) HC.out.1).trans HC.out.2.2.1
        have y2 := (B1.out.cell (p := ⟨b, _, none⟩) HC.out.1).trans HC.out.2.2.2.1
        have y3 := (B1.out.cell (p := ⟨b, _, none⟩) HC.out.1).trans HC.out.2.2.2.2.1
        have y4 := (B1.out.cell (p := ⟨b, _, none⟩) HC.out.1).trans HC.out.2.2.2.2.2.1
        have y5 := (B1.out.cell (p := ⟨b, _, none⟩) HC.out.1).trans HC.out.2.2.2.2.2.2
        have hzl : w.heap.size + 1 < w1.heap.size := Z1.lt
        have Z1 := Lib.hid Z1
        clear z0 z1 z2 z3 z4 z5 zf C1
        go_wp2_with fail
        go_fit (F.out _ B1.out)
        rintro e w2 ⟨R, rfl, hR, hb2⟩
        obtain ⟨av3, c3, kv3, kc3, rfl, x0, x1, x2, x3, x4, x5, x6, x7, x8, x9, hN⟩ := isV_stb hR
        have Z2 := Z1.out.below hb2
        have B2 := Lib.hid (B1.out.trans (hb2.mono B1.out.size))
        have hsz := hb2.size
        clear hb2 y0 y1 y2 y3 y4 y5 p4
        have z0 : w2.cell? ⟨w.heap.size + 1, 0, none⟩ = some (.int .i64 0) := Z2.cell rfl
        have z1 : w2.cell? ⟨w.heap.size + 1, 1, none⟩ = some (.bool false) := Z2.cell rfl
        have z2 : w2.cell? ⟨w.heap.size + 1, 2, none⟩ = some (.int .i64 0) := Z2.cell rfl
        have z3 : w2.cell? ⟨w.heap.size + 1, 3, none⟩ = some (.string ⟨#[]⟩) := Z2.cell rfl
        have z4 : w2.cell? ⟨w.heap.size + 1, 4, none⟩ = some (.slice none 0 0) := Z2.cell rfl
        have z5 : w2.cell? ⟨w.heap.size + 1, 5, none⟩ = some (.slice none 0 0) := Z2.cell rfl
        have zf := Z2.frozen
        go_wp2_with fail
        obtain ⟨W3, hW3⟩ : ∃ W3, W3 = (((((w2.setCell ⟨w.heap.size + 1, 0, none⟩ (.int .i64 k1)).setCell ⟨w.heap.size + 1, 1, none⟩ (.bool t1)).setCell ⟨w.heap.size + 1, 2, none⟩ (.int .i64 i1)).setCell ⟨w.heap.size + 1, 3, none⟩ (.string s1)).setCell ⟨w.heap.size + 1, 4, none⟩ (.slice av3 l1.length c3)).setCell ⟨w.heap.size + 1, 5, none⟩ (.slice kv3 ks1.length kc3) := ⟨_, rfl⟩
        rw [← hW3]
        obtain ⟨⟨cs', G4, h1, h2⟩, h3, h4, h5⟩ := six_set Z2 0 _ _ _ _ _ _ W3 hW3
        obtain ⟨q0, q1, q2, q3, q4, q5⟩ := h1 (by decide)
        have u0 : W3.cell? ⟨w.heap.size + 1, 0, none⟩ = _ := G4.cell q0
        have u1 : W3.cell? ⟨w.heap.size + 1, 1, none⟩ = _ := G4.cell q1
        have u2 : W3.cell? ⟨w.heap.size + 1, 2, none⟩ = _ := G4.cell q2
        have u3 : W3.cell? ⟨w.heap.size + 1, 3, none⟩ = _ := G4.cell q3
        have u4 : W3.cell? ⟨w.heap.size + 1, 4, none⟩ = _ := G4.cell q4
        have u5 : W3.cell? ⟨w.heap.size + 1, 5, none⟩ = _ := G4.cell q5
        have hB := h5 w.heap.size w (by omega) B2.out
        have hS : Stb w.heap.size W3 (fun w2 => IsV (m + 1) w2 (.agg #[.int .i64 k1, .bool t1, .int .i64 i1, .string s1, .slice av3 l1.length c3, .slice kv3 ks1.length kc3]) ((getV (.mk 5 t i s l ks) key.data.toList).getD zeroV)) := by
          intro w4 hf
          rw [E.out]
          exact isV_up (Nat.le_succ m) (hR w4 ⟨by rw [← h4]; exact hf.1, fun b hb hlt => (hf.2 b (by omega) (by omega)).trans (h3 b (by omega))⟩)
        rw [E.out] at hS ⊢
        exact bodyPost_ret (v := .tuple #[.agg #[.int .i64 k1, .bool t1, .int .i64 i1, .string s1, .slice av3 l1.length c3, .slice kv3 ks1.length kc3], .bool true]) (by simp [results, Tryz.f25, go_sem, u0, u1, u2, u3, u4, u5]) rfl ⟨_, rfl, hS, hB⟩
      · have E := Lib.hid (show getV (.mk 5 t i s l ks) key.data.toList = none by rw [getV, if_pos rfl, hf]; simp; omega)
        have hjI : ((l.length : Int) ≤ (j : Int)) := by omega
        clear hf hs hl g9
        have C0 := (CellsAt.new w 25 #[.int .i64 5, .bool t, .int .i64 i, .string s, .slice av l.length c, .slice kv ks.length kc]).alloc (.cells #[.int .i64 0, .bool false, .int .i64 0, .string ⟨#[]⟩, .slice none 0 0, .slice none 0 0] 25)
        have Z0 := CellsAt.new (w.alloc (.cells #[.int .i64 5, .bool t, .int .i64 i, .string s, .slice av l.length c, .slice kv ks.length kc] 25)) 25 #[.int .i64 0, .bool false, .int .i64 0, .string ⟨#[]⟩, .slice none 0 0, .slice none 0 0]
        simp only [World.size_alloc] at Z0
        go_enter Tryz.func25, Tryz.ntmps25
        go_wp2_with fail
        go_fit (IX.out _ (by repeat (first | exact Below.refl _ _ | refine Below.alloc ?_ (by simp <;> omega) _)))
        rintro e w1 ⟨rfl, hb1⟩
        have C1 := C0.below hb1
        have Z1 := Z0.below hb1
        have B1 := Lib.hid (Below.trans (show Below w.heap.size w _ from (by repeat (first | exact Below.refl _ _ | refine Below.alloc ?_ (by simp <;> omega) _))) (hb1.mono (by simp <;> omega)))
        have p4 : w1.cell? ⟨w.heap.size, 4, none⟩ = some (.slice av l.length c) := C1.cell rfl
        have z0 : w1.cell? ⟨w.heap.size + 1, 0, none⟩ = some (.int .i64 0) := Z1.cell rfl
        have z1 : w1.cell? ⟨w.heap.size + 1, 1, none⟩ = some (.bool false) := Z1.cell rfl
        have z2 : w1.cell? ⟨w.heap.size + 1, 2, none⟩ = some (.int .i64 0) := Z1.cell rfl
        have z3 : w1.cell? ⟨w.heap.size + 1, 3, none⟩ = some (.string ⟨#[]⟩) := Z1.cell rfl
        have z4 : w1.cell? ⟨w.heap.size + 1, 4, none⟩ = some (.slice none 0 0) := Z1.cell rfl
        have z5 : w1.cell? ⟨w.heap.size + 1, 5, none⟩ = some (.slice none 0 0) := Z1.cell rfl
        have zf := Z1.frozen
        clear hb1 C0 Z0
        go_wp2_with fail
        obtain ⟨W3, hW3⟩ : ∃ W3, W3 = (((((w1.setCell ⟨w.heap.size + 1, 0, none⟩ (.int .i64 0)).setCell ⟨w.heap.size + 1, 1, none⟩ (.bool false)).setCell ⟨w.heap.size + 1, 2, none⟩ (.int .i64 0)).setCell ⟨w.heap.size + 1, 3, none⟩ (.string ⟨#[]⟩)).setCell ⟨w.heap.size + 1, 4, none⟩ (.slice none 0 0)).setCell ⟨w.heap.size + 1, 5, none⟩ (.slice none 0 0) := ⟨_, rfl⟩
        rw [← hW3]
        obtain ⟨⟨cs', G4, h1, h2⟩, h3, h4, h5⟩ := six_set Z1 0 _ _ _ _ _ _ W3 hW3
        obtain ⟨q0, q1, q2, q3, q4, q5⟩ := h1 (by decide)
        have u0 : W3.cell? ⟨w.heap.size + 1, 0, none⟩ = _ := G4.cell q0
        have u1 : W3.cell? ⟨w.heap.size + 1, 1, none⟩ = _ := G4.cell q1
        have u2 : W3.cell? ⟨w.heap.size + 1, 2, none⟩ = _ := G4.cell q2
        have u3 : W3.cell? ⟨w.heap.size + 1, 3, none⟩ = _ := G4.cell q3
        have u4 : W3.cell? ⟨w.heap.size + 1, 4, none⟩ = _ := G4.cell q4
        have u5 : W3.cell? ⟨w.heap.size + 1, 5, none⟩ = _ := G4.cell q5
        have hB := h5 w.heap.size w (by omega) B1.out
        have hS : Stb w.heap.size W3 (fun w2 => IsV m w2 (.agg #[.int .i64 0, .bool false, .int .i64 0, .string ⟨#[]⟩, .slice none 0 0, .slice none 0 0]) ((getV (.mk 5 t i s l ks) key.data.toList).getD zeroV)) := fun w2 _ => by rw [E.out]; exact isV_zero m w2
        rw [E.out]
        rw [E.out] at hS
        exact bodyPost_ret (v := .tuple #[.agg #[.int .i64 0, .bool false, .int .i64 0, .string ⟨#[]⟩, .slice none 0 0, .slice none 0 0], .bool false]) (by simp [results, Tryz.f25, go_sem, u0, u1, u2, u3, u4, u5]) rfl ⟨_, rfl, hS, hB⟩
  · have E := Lib.hid (show getV (.mk k t i s l ks) key.data.toList = none by rw [getV, if_neg hk])
    have g : (k != 5) = true := by simpa using hk
    clear hk IX hs hl g9
    go_enter Tryz.func25, Tryz.ntmps25
    go_wp2_with fail
    have hS : Stb w.heap.size ((w.alloc (.cells #[.int .i64 k, .bool t, .int .i64 i, .string s, .slice av l.length c, .slice kv ks.length kc] 25)).alloc (.cells #[.int .i64 0, .bool false, .int .i64 0, .string ⟨#[]⟩, .slice none 0 0, .slice none 0 0] 25)) (fun w2 => IsV m w2 (.agg #[.int .i64 0, .bool false, .int .i64 0, .string ⟨#[]⟩, .slice none 0 0, .slice none 0 0]) ((getV (.mk k t i s l ks) key.data.toList).getD zeroV)) := fun w2 _ => by rw [E.out]; exact isV_zero m w2
    rw [E.out] at hS ⊢
    exact bodyPost_ret (v := .tuple #[.agg #[.int .i64 0, .bool false, .int .i64 0, .string ⟨#[]⟩, .slice none 0 0, .slice none 0 0], .bool false]) (by simp [results, Tryz.f25, go_sem]) rfl ⟨_, rfl, hS, (by repeat (first | exact Below.refl _ _ | refine Below.alloc ?_ (by simp <;> omega) _))⟩
end Go.Proofs.YtabopneehhnhfaaGreatDoor
