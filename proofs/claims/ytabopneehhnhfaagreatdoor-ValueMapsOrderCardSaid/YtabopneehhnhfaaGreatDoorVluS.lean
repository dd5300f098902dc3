/- Entries in another order: what is read of them, and their map (pure; slices of entries). -/
import Derived.Test.YtabopneehhnhfaaGreatDoorVluO
import Derived.Test.YtabopneehhnhfaaGreatDoorVluZe
import Derived.Deep.AppendSrc
import Derived.Deep.Upon
namespace Go.Proofs.YtabopneehhnhfaaGreatDoor
open Go.RowKit Go.Lib

theorem addr_plus (b off k : Nat) : (⟨b, off, none⟩ : Addr).add k = ⟨b, off + k, none⟩ := by
  unfold Addr.add
  split
  · rename_i h; subst h; rfl
  · rfl
theorem wpList_append_zero {P : Program} {w : World} {ops : Array Oper} {rest : List Oper} {o : Oper} {a : Act} {Q : Exit → Act → World → Prop} (hgd : o.guard = none) (s x : Operand) (t : TypeId)
    (ho : o.op = .call { callee := .builtin .append, args := #[s, x], argTypes := #[t, t] })
    (e : TypeId) (i : TypeInfo) (ht : P.underlying t = some (.slice e)) (hi : P.info? e = some i)
    (b : Option Addr) (n c : Nat) (hle : n ≤ c) (hs : a.eval s = .slice b n c) (ad : Addr) (c' n0 : Nat) (h0 : n0 = 0) (hx : a.eval x = .slice (some ad) n0 c')
    (h : wpList P ops Q rest (a.put o.dst (.slice b n c)) w) : wpList P ops Q (o :: rest) a w := by
  subst h0
  refine wpList_plain hgd fun K hK => ?_
  have hrun := run_append_nothing (P := P) w t t o.type e i ht hi b n c hle (.slice (some ad) 0 c') (Src.ofSlice w ht ad 0 c' [] (by simp) (by simp) (by simp))
  unfold Oper.wp
  simp [execOp, ho, resolve, invoke, builtin, hs, hx, hrun, Result.andThen]
  exact hK _ _ h
set_option maxRecDepth 100000 in
theorem slice_fromR (b off len cap k : Nat) (hk : k ≤ len) (hkc : k < cap) (w : World) : (Instr.sliceAt 35 (.slice (some ⟨b, off, none⟩) len cap) (some (.int .i64 (k : Int))) none none).run Tryz.prog w = .ok (.slice (some ⟨b, off + k * 7, none⟩) (len - k) (cap - k)) w := by
  rw [run_sliceAt_slice _ _ _ _ _ _ Tryz.underlying35, run_slice_l _ _ _ _ _ Tryz.underlying35 .i64 (k : Int) (by omega) (by omega)]
  have hs : (sizeOf (Tryz.prog.elem 35)).run Tryz.prog w = .ok 7 w := by kernel_rfl
  rw [hs]
  simp only [Result.andThen, sliced]
  have hne : ¬ cap = k := by omega
  simp [hne, addr_plus]
set_option maxRecDepth 100000 in
theorem slice_toR (ad : Addr) (len cap h : Nat) (h0 : h ≤ cap) (w : World) : (Instr.sliceAt 35 (.slice (some ad) len cap) none (some (.int .i64 (h : Int))) none).run Tryz.prog w = .ok (.slice (some ad) h cap) w := by
  rw [run_sliceAt_slice _ _ _ _ _ _ Tryz.underlying35, run_slice_h _ _ _ _ _ Tryz.underlying35 .i64 (h : Int) (by omega) (by omega)]
  have hs : (sizeOf (Tryz.prog.elem 35)).run Tryz.prog w = .ok 7 w := by kernel_rfl
  rw [hs]
  simp [Result.andThen, sliced, Addr.add]
theorem ReadsR.drop {m : Nat} {w : World} {b off : Nat} {l : List Vr} (h : ReadsR m w (some ⟨b, off, none⟩) l) (k : Nat) : ReadsR m w (some ⟨b, off + k * 7, none⟩) (l.drop k) := by
  intro j hj
  rw [List.length_drop] at hj
  obtain ⟨b', off', n, k1, t, i, s, l', ks, av, c, kv, kc, h0, h1, h2, c0, c1, c2, c3, c4, c5, c6, r⟩ := h (k + j) (by omega)
  cases h1
  have e : ∀ d, off + (k + j) * 7 + d = off + k * 7 + j * 7 + d := fun d => by omega
  have e0 : off + (k + j) * 7 = off + k * 7 + j * 7 := by omega
  rw [e0] at c0
  rw [e] at c1 c2 c3 c4 c5 c6
  exact ⟨b, off + k * 7, n, k1, t, i, s, l', ks, av, c, kv, kc, by rw [List.getElem?_drop]; exact h0, rfl, h2, c0, c1, c2, c3, c4, c5, c6, r⟩
theorem ReadsR.take {m : Nat} {w : World} {v : Option Addr} {l : List Vr} (h : ReadsR m w v l) (k : Nat) : ReadsR m w v (l.take k) := by
  intro j hj
  rw [List.length_take] at hj
  obtain ⟨b', off', n, k1, t, i, s, l', ks, av, c, kv, kc, h0, r⟩ := h j (by omega)
  exact ⟨b', off', n, k1, t, i, s, l', ks, av, c, kv, kc, by rw [List.getElem?_take_of_lt (by omega)]; exact h0, r⟩
/-- The cells of entries, as a row. -/
theorem news_el {m : Nat} {w : World} {p : Addr} {l : List Vr} (h : ReadsR m w (some p) l) (j : Nat) (hj : j < l.length) : ElR l (newsR w p l.length) (fun kv ks av l' => ReadsStr w kv ks ∧ ReadsV m w av l') j := by
  obtain ⟨b, off, n, k, t, i, s, l', ks, av, c, kv, kc, h0, h1, h2, c0, c1, c2, c3, c4, c5, c6, r⟩ := h j hj
  cases h1
  have hq : ∀ d u, d < 7 → w.cell? ⟨b, off + j * 7 + d, none⟩ = some u → (newsR w ⟨b, off, none⟩ l.length)[j * 7 + d]? = some u := fun d u hd hc => by
    rw [newsR_at (by omega), addr_plus, ← Nat.add_assoc, hc]
    rfl
  exact ⟨n, k, t, i, s, l', ks, av, c, kv, kc, h0, hq 0 _ (by omega) c0, hq 1 _ (by omega) c1, hq 2 _ (by omega) c2, hq 3 _ (by omega) c3, hq 4 _ (by omega) c4, hq 5 _ (by omega) c5, hq 6 _ (by omega) c6, r⟩
theorem news_cell {m : Nat} {w : World} {p : Addr} {l : List Vr} (h : ReadsR m w (some p) l) : ∀ j u, (newsR w p l.length)[j]? = some u → w.cell? (p.add j) = some u ∧ u.oneCell' = true := by
  intro j u hj
  obtain ⟨hlt, _⟩ := List.getElem?_eq_some_iff.1 hj
  have hlt' : j < l.length * 7 := by simpa [newsR] using hlt
  obtain ⟨x, hx, h1⟩ := reads_seven h hlt'
  rw [newsR_at hlt', hx] at hj
  injection hj with hj
  have hj : x = u := hj
  subst hj
  exact ⟨hx, h1⟩
theorem news_len (w : World) (p : Addr) (n : Nat) : (newsR w p n).length = n * 7 := by simp [newsR]
/-- Two rows one behind the other. -/
theorem el_two {l1 l2 : List Vr} {xs ys : List Value} {P : Option Addr → List (List UInt8) → Option Addr → List Vl → Prop} (h1 : ∀ j, j < l1.length → ElR l1 xs P j) (h2 : ∀ j, j < l2.length → ElR l2 ys P j) (hx : xs.length = l1.length * 7) : ∀ j, j < (l1 ++ l2).length → ElR (l1 ++ l2) (xs ++ ys) P j := by
  intro j hj
  by_cases hlt : j < l1.length
  · exact (h1 j hlt).mono (by rw [List.getElem?_append_left hlt]) (fun k _ hk => List.getElem?_append_left (by omega)) (fun _ _ _ _ h => h)
  · rw [List.length_append] at hj
    obtain ⟨n, k, t, i, s, l', ks, av, c, kv, kc, e, c0, c1, c2, c3, c4, c5, c6, r⟩ := h2 (j - l1.length) (by omega)
    have hq : ∀ d u, ys[(j - l1.length) * 7 + d]? = some u → (xs ++ ys)[j * 7 + d]? = some u := fun d u h => by
      rw [List.getElem?_append_right (by omega), hx, ← h]
      congr 1
      omega
    exact ⟨n, k, t, i, s, l', ks, av, c, kv, kc, by rw [List.getElem?_append_right (by omega)]; exact e, hq 0 _ c0, hq 1 _ c1, hq 2 _ c2, hq 3 _ c3, hq 4 _ c4, hq 5 _ c5, hq 6 _ c6, r⟩
theorem errVs_perm {l r : List Vr} (hp : r.Perm l) (h : errVs l = 0) : errVs r = 0 := by
  unfold errVs at h ⊢
  have hl := hp.length_eq
  by_cases hlong : 1024 < l.length
  · rw [if_pos hlong] at h
    cases h
  · rw [if_neg hlong] at h
    rw [if_neg (by omega)]
    obtain ⟨h1, h2⟩ := (errM_zero _ _).1 h
    exact (errM_zero _ _).2 ⟨fun p q => h1 p (hp.mem_iff.1 q), Once.perm hp.symm h2⟩
theorem mapV_perm {l r : List Vr} (hp : r.Perm l) (h : errVs l = 0) : mapV r = mapV l := by
  have ho : Once l := by
    unfold errVs at h
    by_cases hlong : 1024 < l.length
    · rw [if_pos hlong] at h
      cases h
    · rw [if_neg hlong] at h
      exact ((errM_zero _ _).1 h).2
  have e : sortM r = sortM l := sort_eq ho ((sortM_perm r).trans hp) (sort_asc (Once.perm hp.symm ho))
  rw [mapV_eq', mapV_eq', e]
where
  mapV_eq' (l : List Vr) : mapV l = .mk 5 false 0 ⟨#[]⟩ ((sortM l).map (·.2)) ((sortM l).map (·.1)) := rfl
theorem pair_ascB : ∀ ks : List (List UInt8), ks.Pairwise (fun p q => cmpL p q < 0) → ascB ks = true
  | [], _ => rfl
  | [x], _ => rfl
  | x :: y :: r, h => by
    have h1 := List.pairwise_cons.1 h
    rw [ascB, decide_eq_true (h1.1 y (List.mem_cons_self ..)), pair_ascB (y :: r) h1.2]
    rfl
/-- The map of valid entries is valid. -/
theorem map_valid {l : List Vr} (h : errVs l = 0) : errV 16 (mapV l) = 0 := by
  have hl4 : l.length ≤ 1024 := by
    unfold errVs at h
    split at h
    · cases h
    · omega
  unfold errVs at h
  rw [if_neg (by omega)] at h
  obtain ⟨h1, h2⟩ := (errM_zero _ _).1 h
  have hp := sortM_perm l
  have ha := sort_asc h2
  have hlen := hp.length_eq
  refine err_parts.2 ⟨⟨by decide, by decide, ?_, by decide, by decide, by decide, by rw [List.length_map]; omega, by rw [List.length_map]; omega, fun _ => ?_, fun _ _ => by decide⟩, fun y hy => ?_⟩
  · unfold plainB
    simp
  · unfold keysB
    simp only [Bool.and_eq_true, decide_eq_true_eq, List.length_map, true_and]
    refine ⟨?_, pair_ascB _ ?_⟩
    · rw [List.all_eq_true]
      intro x hx
      obtain ⟨p, hp2, rfl⟩ := List.mem_map.1 hx
      exact (h1 p (hp.mem_iff.1 hp2)).1
    · rw [List.pairwise_map]
      exact ha
  · obtain ⟨p, hp2, rfl⟩ := List.mem_map.1 hy
    exact (h1 p (hp.mem_iff.1 hp2)).2.2.1
end Go.Proofs.YtabopneehhnhfaaGreatDoor
