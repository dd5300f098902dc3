/- Contract of the document's with (pipelineref07). -/
import Derived.Test.YtabopneehhnhfaaGreatDoorVluMf
import Derived.Test.YtabopneehhnhfaaGreatDoorVluC
namespace Go.Proofs.YtabopneehhnhfaaGreatDoor
open Go.RowKit Go.Lib

/-- The map with these entries in this order. -/
def pairV (l : List Vr) : Vl := .mk 5 false 0 ⟨#[]⟩ (l.map (·.2)) (l.map (·.1))
theorem ins_step (p q : Vr) (A r l : List Vr) (d : Bool) (h : insM p l = A ++ (if d = true then q :: r else insM p (q :: r))) :
    insM p l = (if d = false ∧ cmpL p.1 q.1 < 0 then A ++ [p] ++ [q] else A ++ [q]) ++ (if (d || decide (cmpL p.1 q.1 < 0)) = true then r else insM p r) := by
  cases d with
  | true => simp [h]
  | false =>
    by_cases hc : cmpL p.1 q.1 < 0
    · simp [h, insM, hc]
    · simp [h, insM, hc]
theorem own_slice {w : World} {B n z : Nat} {t : TypeId} {v : Value} {xs : List Value} (h : w.ownsRow B t z v n xs) : ∃ a m c, v = .slice a m c := by
  rcases h.2 with ⟨rfl, _⟩ | ⟨g, cap, cur, rfl, _⟩
  · exact ⟨_, _, _, rfl⟩
  · exact ⟨_, _, _, rfl⟩
/-- The map that is laid so far: its box, the row of its keys, the row of its values. -/
structure OutS (wb w0 w : World) (m : Nat) (K : List (List UInt8)) (L : List Vl) (kv lv : Value) : Prop where
  box : CellsAt w w0.heap.size 25 #[.int .i64 5, .bool false, .int .i64 0, .string ⟨#[]⟩, lv, kv]
  keys : w.ownsRow (w0.heap.size + 1) 9 1 kv K.length (K.map strV)
  vals : ∃ ys, w.ownsRow (w0.heap.size + 1) 25 6 lv L.length ys ∧ ∀ q, q < L.length → El L ys.toArray (fun kv ks av l' => ReadsStr wb kv ks ∧ ReadsV m wb av l') q
  bel : Below w0.heap.size w0 w
theorem OutS.new (wb w0 : World) (m : Nat) : OutS wb w0 (w0.alloc (.cells #[.int .i64 5, .bool false, .int .i64 0, .string ⟨#[]⟩, .slice none 0 0, .slice none 0 0] 25)) m [] [] (.slice none 0 0) (.slice none 0 0) :=
  ⟨CellsAt.new _ _ _, World.ownsRow_nil _ _ _ _, ⟨[], World.ownsRow_nil _ _ _ _, fun q h => by simp at h⟩, (Below.refl _ _).alloc (Nat.le_refl _) _⟩
theorem OutS.below {wb w0 w w' : World} {m : Nat} {K : List (List UInt8)} {L : List Vl} {kv lv : Value} (h : OutS wb w0 w m K L kv lv) (hb : Below w.heap.size w w') : OutS wb w0 w' m K L kv lv := by
  obtain ⟨ys, h1, h2⟩ := h.vals
  exact ⟨h.box.below hb, own_from h.keys (From.of_below hb), ⟨ys, own_from h1 (From.of_below hb), h2⟩, h.bel.trans (hb.mono h.bel.size)⟩
/-- A further key has been appended. -/
theorem OutS.key {wb w0 w w4 : World} {m : Nat} {K : List (List UInt8)} {L : List Vl} {kv lv : Value} (h : OutS wb w0 w m K L kv lv) {o : Obj} {g cap : Nat} {n : List UInt8}
    (ho : w4.ownsRow (w0.heap.size + 1) 9 1 (.slice (some ⟨g, 0, none⟩) (K.length + 1) cap) (K.length + 1) (K.map strV ++ [.string ⟨n.toArray⟩])) (hg : (w.alloc o).grownBy w4 kv.ownBlock) :
    CellsAt w4 w0.heap.size 25 #[.int .i64 5, .bool false, .int .i64 0, .string ⟨#[]⟩, lv, kv] ∧ OutS wb w0 (w4.setCell ⟨w0.heap.size, 5, none⟩ (.slice (some ⟨g, 0, none⟩) (K.length + 1) cap)) m (K ++ [n]) L (.slice (some ⟨g, 0, none⟩) (K.length + 1) cap) lv := by
  have hk := h.keys.alloc o
  have hne : ∀ b, some b = kv.ownBlock → w0.heap.size + 1 ≤ b := fun b e => (h.keys.lt b e.symm).1
  have hc : CellsAt w4 w0.heap.size 25 #[.int .i64 5, .bool false, .int .i64 0, .string ⟨#[]⟩, lv, kv] := (h.box.alloc o).of_block (hg.block _ (h.box.alloc o).lt (fun e => by have := hne _ e; omega))
  obtain ⟨ys, h1, h2⟩ := h.vals
  have h1a := h1.alloc o
  have hv := own_grown h1a hg (rows_differ h1a hk (by decide))
  refine ⟨hc, ?_, ?_, ⟨ys, own_from hv (From.set (Nat.lt_succ_self _) 5 _), h2⟩, ?_⟩
  · exact hc.set 5 _
  · have h5 := own_from ho (From.set (Nat.lt_succ_self w0.heap.size) 5 (.slice (some ⟨g, 0, none⟩) (K.length + 1) cap))
    rw [List.length_append, List.length_singleton, List.map_append]
    exact h5
  · have hb := (h.bel.alloc h.bel.size o).grown hg (by have := h.bel.size; simp; omega) (fun k hk => by have := hne k hk.symm; omega)
    exact hb.setCell (p := ⟨w0.heap.size, 5, none⟩) (Nat.le_refl _) _
/-- A further value has been appended. -/
theorem OutS.val {wb w0 w w4 : World} {m : Nat} {K : List (List UInt8)} {L : List Vl} {kv lv : Value} (h : OutS wb w0 w m K L kv lv) {ys : List Value} (hy : w.ownsRow (w0.heap.size + 1) 25 6 lv L.length ys) (hel : ∀ q, q < L.length → El L ys.toArray (fun kv ks av l' => ReadsStr wb kv ks ∧ ReadsV m wb av l') q)
    {o : Obj} {g cap : Nat} {k1 : Int} {t1 : Bool} {i1 : Int} {s1 : ByteArray} {l1 : List Vl} {ks1 : List (List UInt8)} {av1 kv1 : Option Addr} {c1 kc1 : Nat} (hG : (-9223372036854775808 ≤ k1 ∧ k1 ≤ 9223372036854775807) ∧ (-9223372036854775808 ≤ i1 ∧ i1 ≤ 9223372036854775807) ∧ s1.size ≤ 140737488351232 ∧ l1.length * 88 ≤ 140737488351232 ∧ l1.length ≤ c1 ∧ c1 ≤ 9223372036854775807 ∧ ks1.length * 16 ≤ 140737488351232 ∧ ks1.length ≤ kc1 ∧ kc1 ≤ 9223372036854775807 ∧ (∀ x, x ∈ ks1 → x.length ≤ 140737488351232)) (hR : ReadsStr wb kv1 ks1 ∧ ReadsV m wb av1 l1)
    (ho : w4.ownsRow (w0.heap.size + 1) 25 6 (.slice (some ⟨g, 0, none⟩) (L.length + 1) cap) (L.length + 1) (ys ++ [.int .i64 k1, .bool t1, .int .i64 i1, .string s1, .slice av1 l1.length c1, .slice kv1 ks1.length kc1])) (hg : (w.alloc o).grownBy w4 lv.ownBlock) :
    CellsAt w4 w0.heap.size 25 #[.int .i64 5, .bool false, .int .i64 0, .string ⟨#[]⟩, lv, kv] ∧ OutS wb w0 (w4.setCell ⟨w0.heap.size, 4, none⟩ (.slice (some ⟨g, 0, none⟩) (L.length + 1) cap)) m K (L ++ [.mk k1 t1 i1 s1 l1 ks1]) kv (.slice (some ⟨g, 0, none⟩) (L.length + 1) cap) := by
  have hya := hy.alloc o
  have hne : ∀ b, some b = lv.ownBlock → w0.heap.size + 1 ≤ b := fun b e => (hy.lt b e.symm).1
  have hc : CellsAt w4 w0.heap.size 25 #[.int .i64 5, .bool false, .int .i64 0, .string ⟨#[]⟩, lv, kv] := (h.box.alloc o).of_block (hg.block _ (h.box.alloc o).lt (fun e => by have := hne _ e; omega))
  have hka := h.keys.alloc o
  have hk := own_grown hka hg (rows_differ hka hya (by decide))
  refine ⟨hc, ?_, own_from hk (From.set (Nat.lt_succ_self _) 4 _), ⟨ys ++ [.int .i64 k1, .bool t1, .int .i64 i1, .string s1, .slice av1 l1.length c1, .slice kv1 ks1.length kc1], ?_, fun q hq => ?_⟩, ?_⟩
  · exact hc.set 4 _
  · have h5 := own_from ho (From.set (Nat.lt_succ_self w0.heap.size) 4 (.slice (some ⟨g, 0, none⟩) (L.length + 1) cap))
    rw [List.length_append, List.length_singleton]
    exact h5
  · rw [List.length_append, List.length_singleton] at hq
    by_cases hq' : q < L.length
    · obtain ⟨k, t, i, s, l', ks, av, c, kv, kc, e, r⟩ := el_app (news := [.int .i64 k1, .bool t1, .int .i64 i1, .string s1, .slice av1 l1.length c1, .slice kv1 ks1.length kc1]) (hel q hq') hq' hy.1
      exact ⟨k, t, i, s, l', ks, av, c, kv, kc, by rw [List.getElem?_append_left hq']; exact e, r⟩
    · obtain rfl : q = L.length := by omega
      exact el_snoc hy.1 (by simp) hG hR
  · have hb := (h.bel.alloc h.bel.size o).grown hg (by have := h.bel.size; simp; omega) (fun k hk => by have := hne k hk.symm; omega)
    exact hb.setCell (p := ⟨w0.heap.size, 4, none⟩) (Nat.le_refl _) _
/-- A row of values whose own pieces read in another world. -/
def RowAt (wb w : World) (m : Nat) (v : Option Addr) (l : List Vl) : Prop := ∀ j (_ : j < l.length), ∃ b off k t i s l' ks av c kv kc, l[j]? = some (.mk k t i s l' ks) ∧ v = some ⟨b, off, none⟩ ∧ b < w.heap.size ∧
  w.cell? ⟨b, off + j * 6, none⟩ = some (.int .i64 k) ∧ w.cell? ⟨b, off + j * 6 + 1, none⟩ = some (.bool t) ∧ w.cell? ⟨b, off + j * 6 + 2, none⟩ = some (.int .i64 i) ∧ w.cell? ⟨b, off + j * 6 + 3, none⟩ = some (.string s) ∧ w.cell? ⟨b, off + j * 6 + 4, none⟩ = some (.slice av l'.length c) ∧ w.cell? ⟨b, off + j * 6 + 5, none⟩ = some (.slice kv ks.length kc) ∧
  (-9223372036854775808 ≤ k ∧ k ≤ 9223372036854775807) ∧ (-9223372036854775808 ≤ i ∧ i ≤ 9223372036854775807) ∧ s.size ≤ 140737488351232 ∧ l'.length * 88 ≤ 140737488351232 ∧ l'.length ≤ c ∧ c ≤ 9223372036854775807 ∧ ks.length * 16 ≤ 140737488351232 ∧ ks.length ≤ kc ∧ kc ≤ 9223372036854775807 ∧
  (∀ x, x ∈ ks → x.length ≤ 140737488351232) ∧ ReadsStr wb kv ks ∧ ReadsV m wb av l'
theorem RowAt.below {wb w w' : World} {m : Nat} {v : Option Addr} {l : List Vl} (h : RowAt wb w m v l) (hb : Below w.heap.size w w') : RowAt wb w' m v l := by
  intro j hj
  obtain ⟨b, off, k, t, i, s, l', ks, av, c, kv, kc, h0, h1, h2, c0, c1, c2, c3, c4, c5, r⟩ := h j hj
  exact ⟨b, off, k, t, i, s, l', ks, av, c, kv, kc, h0, h1, Nat.lt_of_lt_of_le h2 hb.size, (hb.cell (p := ⟨b, _, none⟩) h2).trans c0, (hb.cell (p := ⟨b, _, none⟩) h2).trans c1, (hb.cell (p := ⟨b, _, none⟩) h2).trans c2, (hb.cell (p := ⟨b, _, none⟩) h2).trans c3, (hb.cell (p := ⟨b, _, none⟩) h2).trans c4, (hb.cell (p := ⟨b, _, none⟩) h2).trans c5, r⟩
theorem RowAt.reads {wb w : World} {m : Nat} {v : Option Addr} {l : List Vl} (h : RowAt wb w m v l) (hb : Below wb.heap.size wb w) : ReadsV (m + 1) w v l := by
  intro j hj
  obtain ⟨b, off, k, t, i, s, l', ks, av, c, kv, kc, h0, h1, h2, c0, c1, c2, c3, c4, c5, g0, g1, g2, g3, g4, g5, g6, g7, g8, g9, rs, rv⟩ := h j hj
  exact ⟨b, off, k, t, i, s, l', ks, av, c, kv, kc, h0, h1, h2, c0, c1, c2, c3, c4, c5, g0, g1, g2, g3, g4, g5, g6, g7, g8, g9, rs.below hb, ReadsV.below hb m _ _ rv⟩
theorem els_rowAt {m : Nat} {wb w : World} {g : Nat} {t : TypeId} {l : List Vl} {cs : Array Value} (hc : CellsAt w g t cs) (h : ∀ j, j < l.length → El l cs (fun kv ks av l' => ReadsStr wb kv ks ∧ ReadsV m wb av l') j) : RowAt wb w m (some ⟨g, 0, none⟩) l := by
  intro j hj
  obtain ⟨k, t, i, s, l', ks, av, c, kv, kc, e, c0, c1, c2, c3, c4, c5, g0, g1, g2, g3, g4, g5, g6, g7, g8, g9, rs, rv⟩ := h j hj
  have hq : ∀ q u, cs[q]? = some u → w.cell? ⟨g, 0 + q, none⟩ = some u := fun q u h => by rw [Nat.zero_add]; exact hc.cell h
  refine ⟨g, 0, k, t, i, s, l', ks, av, c, kv, kc, e, rfl, hc.lt, hq _ _ c0, ?_, ?_, ?_, ?_, ?_, g0, g1, g2, g3, g4, g5, g6, g7, g8, g9, rs, rv⟩
  · rw [Nat.add_assoc]; exact hq _ _ c1
  · rw [Nat.add_assoc]; exact hq _ _ c2
  · rw [Nat.add_assoc]; exact hq _ _ c3
  · rw [Nat.add_assoc]; exact hq _ _ c4
  · rw [Nat.add_assoc]; exact hq _ _ c5
/-- What is laid reads as the rows of a map, in every world that keeps the rows' blocks. -/
theorem OutS.rows {wb w0 w : World} {m : Nat} {K : List (List UInt8)} {L : List Vl} {kv lv : Value} (h : OutS wb w0 w m K L kv lv) :
    ∃ ka kc la lc, kv = .slice ka K.length kc ∧ lv = .slice la L.length lc ∧ K.length ≤ kc ∧ kc ≤ 9223372036854775807 ∧ L.length ≤ lc ∧ lc ≤ 9223372036854775807 ∧ ∀ w2, From (w0.heap.size + 1) w w2 → ReadsStr w2 ka K ∧ RowAt wb w2 m la L := by
  obtain ⟨ys, h1, h2⟩ := h.vals
  obtain ⟨ka, kc, rfl, q1, q2, q3⟩ := own_readsS h.keys rfl
  unfold maxLen at q2
  have hk : ∀ w2, From (w0.heap.size + 1) w w2 → ReadsStr w2 ka K := fun w2 hf => by
    obtain ⟨ka2, kc2, e, _, _, q⟩ := own_readsS (own_from h.keys hf) rfl
    cases e
    exact q
  rcases h1.2 with ⟨rfl, h0⟩ | ⟨g, cap, cur, rfl, hB, hg, hnc, hcm, hsz, htk⟩
  · have hl : L = [] := List.length_eq_zero_iff.1 h0
    subst hl
    exact ⟨ka, kc, none, 0, rfl, rfl, q1, by omega, Nat.le_refl _, by omega, fun w2 hf => ⟨hk w2 hf, fun j hj => by simp at hj⟩⟩
  · refine ⟨ka, kc, some ⟨g, 0, none⟩, cap, rfl, rfl, q1, by omega, hnc, hcm, fun w2 hf => ⟨hk w2 hf, ?_⟩⟩
    have hC : CellsAt w2 g 25 cur := (From.at hf hB ⟨hg⟩)
    refine els_rowAt hC (fun j hj => (h2 j hj).mono (fun k _ hk => ?_) (fun _ _ _ _ h => h))
    have e : ys.toArray[k]? = ys[k]? := by simp
    rw [e, ← htk, List.getElem?_take_of_lt (by omega), Array.getElem?_toList]
end Go.Proofs.YtabopneehhnhfaaGreatDoor
