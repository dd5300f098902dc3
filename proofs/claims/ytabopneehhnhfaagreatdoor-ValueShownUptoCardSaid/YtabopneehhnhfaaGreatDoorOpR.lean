/- How values and entries that come in are opened at value's seat. -/
import Derived.Test.YtabopneehhnhfaaGreatDoorOpV
import Derived.Test.YtabopneehhnhfaaGreatDoorVluV
namespace Go.Proofs.YtabopneehhnhfaaGreatDoor
open Go.ChangeShapes Go.WideShapes Go.ChangeAt Go.RowKit Go.Deep Go.Joins

set_option maxRecDepth 100000 in
theorem open_six {H : Type} {enc : TypeId × Value → H} {W : World} {fuel : Nat} {c0 c1 c2 c3 c4 c5 : Value} {d : DataW H} {p : List MemPlace} (ht : DataW.trod enc Tryz.prog W 0 (fun _ => true) true fuel 25 [c0, c1, c2, c3, c4, c5] = some (d, p))
    (hw : (d.weights Tryz.prog 25).all (· ≤ reachBytes) = true) : ∃ k t i s l ks av c kv kc, c0 = .int .i64 k ∧ c1 = .bool t ∧ c2 = .int .i64 i ∧ c3 = .string s ∧ c4 = .slice av (List.length l) c ∧ c5 = .slice kv (List.length ks) kc ∧
      (-9223372036854775808 ≤ k ∧ k ≤ 9223372036854775807) ∧ (-9223372036854775808 ≤ i ∧ i ≤ 9223372036854775807) ∧ s.size ≤ 140737488351232 ∧ l.length * 88 ≤ 140737488351232 ∧ l.length ≤ c ∧ c ≤ 9223372036854775807 ∧ ks.length * 16 ≤ 140737488351232 ∧ ks.length ≤ kc ∧ kc ≤ 9223372036854775807 ∧
      (∀ x, x ∈ ks → x.length ≤ 140737488351232) ∧ ReadsStr W kv ks ∧ ∀ m, fuel ≤ m → ReadsV m W av l := by
  obtain ⟨xs, n', hn, hx, _, hxl, hf⟩ := DataW.trod_struct Tryz.underlying25 ht
  obtain ⟨y0, y1, y2, y3, y4, y5, rfl⟩ := six hxl
  have q0 : DataW.trod enc Tryz.prog W 0 (fun _ => true) true n' 3 (([c0, c1, c2, c3, c4, c5].drop 0).take (Tryz.prog.cellsOf 3)) = some y0 := hf 0 _ rfl
  have q1 : DataW.trod enc Tryz.prog W 0 (fun _ => true) true n' 4 (([c0, c1, c2, c3, c4, c5].drop 1).take (Tryz.prog.cellsOf 4)) = some y1 := hf 1 _ rfl
  have q2 : DataW.trod enc Tryz.prog W 0 (fun _ => true) true n' 3 (([c0, c1, c2, c3, c4, c5].drop 2).take (Tryz.prog.cellsOf 3)) = some y2 := hf 2 _ rfl
  have q3 : DataW.trod enc Tryz.prog W 0 (fun _ => true) true n' 9 (([c0, c1, c2, c3, c4, c5].drop 3).take (Tryz.prog.cellsOf 9)) = some y3 := hf 3 _ rfl
  have q4 : DataW.trod enc Tryz.prog W 0 (fun _ => true) true n' 22 (([c0, c1, c2, c3, c4, c5].drop 4).take (Tryz.prog.cellsOf 22)) = some y4 := hf 4 _ rfl
  have q5 : DataW.trod enc Tryz.prog W 0 (fun _ => true) true n' 23 (([c0, c1, c2, c3, c4, c5].drop 5).take (Tryz.prog.cellsOf 23)) = some y5 := hf 5 _ rfl
  rw [show Tryz.prog.cellsOf 3 = 1 from by kernel_rfl] at q0 q2
  rw [show Tryz.prog.cellsOf 4 = 1 from by kernel_rfl] at q1
  rw [show Tryz.prog.cellsOf 9 = 1 from by kernel_rfl] at q3
  rw [show Tryz.prog.cellsOf 22 = 1 from by kernel_rfl] at q4
  rw [show Tryz.prog.cellsOf 23 = 1 from by kernel_rfl] at q5
  simp only [List.drop_succ_cons, List.drop_zero, List.take_succ_cons, List.take_zero] at q0 q1 q2 q3 q4 q5
  simp only [Prod.mk.injEq] at hx
  rw [hx.1] at hw
  obtain ⟨k, t, i', s, l, ks, av, c, kv, kc, rfl, rfl, rfl, rfl, rfl, rfl, g0, g1, g2, g3, g4, g5, g6, g7, g8, g9, hs', hr⟩ := val6 (open_vals n') q0 q1 q2 q3 q4 q5 hw
  exact ⟨k, t, i', s, l, ks, av, c, kv, kc, rfl, rfl, rfl, rfl, rfl, rfl, g0, g1, g2, g3, g4, g5, g6, g7, g8, g9, hs', fun m hm => hr m (by omega)⟩
set_option maxRecDepth 100000 in
theorem open_value {H : Type} {enc : TypeId × Value → H} {W : World} {r : Reach} {b0 : Nat} {v : Value} {d : DataW H} {p : List MemPlace} (hv : Value.okWide Tryz.prog W r b0 25 v) (h : DataW.Trod enc Tryz.prog W 0 (fun _ => true) true 25 v d p)
    (hw : (d.weights Tryz.prog 25).all (· ≤ reachBytes) = true) : ∃ m y, IsV m W v y := by
  obtain ⟨cs, rfl, hs⟩ := okWide_struct Tryz.underlying25 hv
  obtain ⟨fuel, hf⟩ := h
  obtain ⟨c0, c1, c2, c3, c4, c5, e⟩ := six (l := cs.toList) (by rw [Array.length_toList, hs]; kernel_rfl)
  obtain rfl : cs = #[c0, c1, c2, c3, c4, c5] := by rw [← Array.toList_inj, e]
  have ht : DataW.trod enc Tryz.prog W 0 (fun _ => true) true fuel 25 [c0, c1, c2, c3, c4, c5] = some (d, p) := by simpa [Value.cells] using hf
  obtain ⟨k, t, i', s, l, ks, av, c, kv, kc, rfl, rfl, rfl, rfl, rfl, rfl, g0, g1, g2, g3, g4, g5, g6, g7, g8, g9, hs', hr⟩ := open_six ht hw
  exact ⟨fuel, .mk k t i' s l ks, k, t, i', s, l, ks, av, c, kv, kc, rfl, rfl, g0, g1, g2, g3, g4, g5, g6, g7, g8, g9, hs', hr fuel (Nat.le_refl _)⟩
theorem seven {α : Type} {l : List α} (h : l.length = 7) : ∃ n a b c d e f, l = [n, a, b, c, d, e, f] := by
  match l, h with
  | [n, a, b, c, d, e, f], _ => exact ⟨n, a, b, c, d, e, f, rfl⟩
theorem two {α : Type} {l : List α} (h : l.length = 2) : ∃ a b, l = [a, b] := by
  match l, h with
  | [a, b], _ => exact ⟨a, b, rfl⟩
set_option maxRecDepth 100000 in
set_option maxHeartbeats 1000000 in
theorem open_vars {H : Type} {enc : TypeId × Value → H} {W : World} (fuel : Nat) (a : Option Addr) (len cap : Nat) (x : DataW H × List MemPlace)
    (h : DataW.trod enc Tryz.prog W 0 (fun _ => true) true fuel 35 [.slice a len cap] = some x) (hw : (x.1.weights Tryz.prog 35).all (· ≤ reachBytes) = true) :
    ∃ L : List Vr, len = L.length ∧ len ≤ cap ∧ cap ≤ maxLen ∧ L.length * 104 ≤ 140737488351232 ∧ ∃ m, ReadsR m W a L := by
  rcases DataW.trod_slice Tryz.underlying35 h with ⟨hcs, _⟩ | ⟨ad, len', cap', elems, rest, n, hfu, hcs, rfl, _, hl, hm, hlen, hel, _, _⟩
  · simp at hcs
    obtain ⟨rfl, rfl, rfl⟩ := hcs
    exact ⟨[], rfl, by simp, by simp [maxLen], by simp, 0, fun k hk => by simp at hk⟩
  · simp at hcs
    obtain ⟨rfl, rfl, rfl⟩ := hcs
    obtain ⟨hb, hwe⟩ := wSlice Tryz.underlying35 hw
    rw [show Tryz.prog.bytesOf 55 = 104 from by kernel_rfl, List.length_map] at hb
    unfold reachBytes at hb
    rw [show Tryz.prog.cellsOf 55 = 7 from by kernel_rfl] at hel
    have key : ∀ i, i < len → ∃ f : Vr, ∃ b off nm k t i' s l' ks av c kv kc, f = (nm, .mk k t i' s l' ks) ∧ ad = ⟨b, off, none⟩ ∧ b < W.heap.size ∧
        W.cell? ⟨b, off + i * 7, none⟩ = some (.string ⟨nm.toArray⟩) ∧ W.cell? ⟨b, off + i * 7 + 1, none⟩ = some (.int .i64 k) ∧ W.cell? ⟨b, off + i * 7 + 2, none⟩ = some (.bool t) ∧ W.cell? ⟨b, off + i * 7 + 3, none⟩ = some (.int .i64 i') ∧
        W.cell? ⟨b, off + i * 7 + 4, none⟩ = some (.string s) ∧ W.cell? ⟨b, off + i * 7 + 5, none⟩ = some (.slice av l'.length c) ∧ W.cell? ⟨b, off + i * 7 + 6, none⟩ = some (.slice kv ks.length kc) ∧
        nm.length ≤ 140737488351232 ∧ (-9223372036854775808 ≤ k ∧ k ≤ 9223372036854775807) ∧ (-9223372036854775808 ≤ i' ∧ i' ≤ 9223372036854775807) ∧ s.size ≤ 140737488351232 ∧ l'.length * 88 ≤ 140737488351232 ∧ l'.length ≤ c ∧ c ≤ 9223372036854775807 ∧ ks.length * 16 ≤ 140737488351232 ∧ ks.length ≤ kc ∧ kc ≤ 9223372036854775807 ∧
        (∀ x, x ∈ ks → x.length ≤ 140737488351232) ∧ ReadsStr W kv ks ∧ ReadsV n W av l' := by
      intro i hi
      obtain ⟨b, off, cs, rfl, hlt, hcl, hat, ht⟩ := slot_of (by omega) hlen hel i hi
      have hwd := hwe elems[i].1 (List.mem_map.2 ⟨_, List.getElem_mem _, rfl⟩)
      obtain ⟨nv, c0, c1, c2, c3, c4, c5, rfl⟩ := seven hcl
      obtain ⟨xs, n', hn, hx, _, hxl, hf⟩ := DataW.trod_struct Tryz.underlying55 ht
      obtain ⟨y0, y1, rfl⟩ := two hxl
      have q0 : DataW.trod enc Tryz.prog W 0 (fun _ => true) true n' 9 (([nv, c0, c1, c2, c3, c4, c5].drop 0).take (Tryz.prog.cellsOf 9)) = some y0 := hf 0 _ rfl
      have q1 : DataW.trod enc Tryz.prog W 0 (fun _ => true) true n' 25 (([nv, c0, c1, c2, c3, c4, c5].drop (0 + Tryz.prog.cellsOf 9)).take (Tryz.prog.cellsOf 25)) = some y1 := hf 1 _ rfl
      rw [show Tryz.prog.cellsOf 9 = 1 from by kernel_rfl] at q0 q1
      rw [show Tryz.prog.cellsOf 25 = 6 from by kernel_rfl] at q1
      simp only [Nat.zero_add, List.drop_succ_cons, List.drop_zero, List.take_succ_cons, List.take_zero] at q0 q1
      rw [hx] at hwd
      have hwd' : ((DataW.agg [y0.1, y1.1]).weights Tryz.prog 55).all (· ≤ reachBytes) = true := hwd
      simp only [DataW.weights, Tryz.underlying55, List.map_cons, List.map_nil, DataW.weightsEach, List.all_append, List.append_nil, Bool.and_eq_true] at hwd'
      obtain ⟨w0, w1⟩ := hwd'
      obtain ⟨s0, e0, z0, _⟩ := DataW.trod_string Tryz.underlying9 q0
      simp only [List.cons.injEq, and_true] at e0
      subst e0
      rw [z0] at w0
      simp only [DataW.weights, List.all_cons, List.all_nil, Bool.and_true, decide_eq_true_eq] at w0
      unfold reachBytes at w0
      obtain ⟨k, t, i', s, l, ks, av, c, kv, kc, rfl, rfl, rfl, rfl, rfl, rfl, g0, g1, g2, g3, g4, g5, g6, g7, g8, g9, hs, hr⟩ := open_six (d := y1.1) (p := y1.2) q1 w1
      refine ⟨(s0.data.toList, .mk k t i' s l ks), b, off, s0.data.toList, k, t, i', s, l, ks, av, c, kv, kc, rfl, rfl, hlt, by simpa using hat 0 (by omega), by simpa using hat 1 (by omega), by simpa using hat 2 (by omega), by simpa using hat 3 (by omega), by simpa using hat 4 (by omega), by simpa using hat 5 (by omega), by simpa using hat 6 (by omega),
        by omega, g0, g1, g2, g3, g4, g5, g6, g7, g8, g9, hs, hr n (by omega)⟩
    obtain ⟨L, hLl, hL⟩ := pick_of len key
    refine ⟨L, hLl.symm, hl, hm, by omega, n, fun j hj => ?_⟩
    obtain ⟨f, hf, b, off, nm, k, t, i', s, l', ks, av, c, kv, kc, rfl, rfl, hlt, a0, a1, a2, a3, a4, a5, a6, g, g0, g1, g2, g3, g4, g5, g6, g7, g8, g9, hs, hr⟩ := hL j (by omega)
    exact ⟨b, off, nm, k, t, i', s, l', ks, av, c, kv, kc, hf, rfl, hlt, a0, a1, a2, a3, a4, a5, a6, g, g0, g1, g2, g3, g4, g5, g6, g7, g8, g9, hs, hr⟩
end Go.Proofs.YtabopneehhnhfaaGreatDoor
