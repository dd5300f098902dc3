/- How types, values and three types that come in are opened, by value. -/
import Derived.Test.YtabopneehhnhfabDoorOpV
import Derived.Test.YtabopneehhnhfabDoorTypE
namespace Go.Proofs.YtabopneehhnhfabDoor
open Go.ChangeShapes Go.WideShapes Go.ChangeAt Go.RowKit Go.Deep Go.Joins

theorem two {α : Type} {l : List α} (h : l.length = 2) : ∃ a b, l = [a, b] := by
  match l, h with
  | [a, b], _ => exact ⟨a, b, rfl⟩
set_option maxRecDepth 100000 in
theorem open_types {H : Type} {enc : TypeId × Value → H} {W : World} : ∀ (fuel : Nat) (a : Option Addr) (len cap : Nat) (x : DataW H × List MemPlace),
    DataW.trod enc Tryd.prog W 0 (fun _ => true) true fuel 22 [.slice a len cap] = some x → ∃ L : List Ty, len = L.length ∧ L.length ≤ 9223372036854775807 ∧ ∀ m, fuel ≤ m → ReadsT m W a L := by
  intro fuel
  induction fuel using Nat.strongRecOn with
  | ind fuel ih =>
    intro a len cap x h
    rcases DataW.trod_slice Tryd.underlying22 h with ⟨hcs, _⟩ | ⟨ad, len', cap', elems, rest, n, hfu, hcs, rfl, _, hl, hm, hlen, hel, _, _⟩
    · simp at hcs
      obtain ⟨rfl, rfl, rfl⟩ := hcs
      refine ⟨[], rfl, by simp, fun m hm => ?_⟩
      cases m with
      | zero => exact rfl
      | succ m => intro j hj; simp at hj
    · simp at hcs
      obtain ⟨rfl, rfl, rfl⟩ := hcs
      subst hfu
      unfold maxLen at hm
      rw [show Tryd.prog.cellsOf 24 = 2 from by kernel_rfl] at hel
      have key : ∀ i, i < len → ∃ f : Ty, ∃ b off k l' av c, f = .mk k l' ∧ ad = ⟨b, off, none⟩ ∧ b < W.heap.size ∧
          W.cell? ⟨b, off + i * 2, none⟩ = some (.int .i64 k) ∧ W.cell? ⟨b, off + i * 2 + 1, none⟩ = some (.slice av (List.length l') c) ∧
          (-9223372036854775808 ≤ k ∧ k ≤ 9223372036854775807) ∧ l'.length ≤ 9223372036854775807 ∧ ∀ m, n - 1 ≤ m → ReadsT m W av l' := by
        intro i hi
        obtain ⟨b, off, cs, rfl, hlt, hcl, hat, ht⟩ := slot_of (by omega) hlen hel i hi
        obtain ⟨c0, c1, rfl⟩ := two hcl
        obtain ⟨xs, n', hn, hx, _, hxl, hf⟩ := DataW.trod_struct Tryd.underlying24 ht
        obtain ⟨y0, y1, rfl⟩ := two hxl
        have q0 : DataW.trod enc Tryd.prog W 0 (fun _ => true) true n' 3 (([c0, c1].drop 0).take (Tryd.prog.cellsOf 3)) = some y0 := hf 0 _ rfl
        have q1 : DataW.trod enc Tryd.prog W 0 (fun _ => true) true n' 22 (([c0, c1].drop 1).take (Tryd.prog.cellsOf 22)) = some y1 := hf 1 _ rfl
        rw [show Tryd.prog.cellsOf 3 = 1 from by kernel_rfl] at q0
        rw [show Tryd.prog.cellsOf 22 = 1 from by kernel_rfl] at q1
        simp only [List.drop_succ_cons, List.drop_zero, List.take_succ_cons, List.take_zero] at q0 q1
        obtain ⟨k, e0, _, v0⟩ := DataW.trod_int Tryd.underlying3 q0
        simp only [List.cons.injEq, and_true] at e0
        subst e0
        obtain ⟨av, ln, c, rfl⟩ : ∃ av ln c, c1 = .slice av ln c := by
          rcases DataW.trod_slice Tryd.underlying22 q1 with ⟨hcs, _⟩ | ⟨ad, len', cap', _, _, _, _, hcs, _⟩
          · simp at hcs; exact ⟨_, _, _, hcs⟩
          · simp at hcs; exact ⟨_, _, _, hcs⟩
        obtain ⟨l, rfl, l1, l2⟩ := ih n' (by omega) av ln c y1 q1
        exact ⟨.mk k l, b, off, k, l, av, c, rfl, rfl, hlt, by simpa using hat 0 (by omega), by simpa using hat 1 (by omega), wf64 v0, l1, fun m hm => l2 m (by omega)⟩
      obtain ⟨L, hLl, hL⟩ := pick_of len key
      refine ⟨L, hLl.symm, by omega, fun m hm => ?_⟩
      cases m with
      | zero => omega
      | succ m =>
        intro j hj
        obtain ⟨f, hf, b, off, k, l', av, c, rfl, rfl, hlt, a0, a1, g0, g1, hr⟩ := hL j (by omega)
        exact ⟨b, off, k, l', av, c, hf, rfl, hlt, a0, a1, g0, g1, hr m (by omega)⟩
set_option maxRecDepth 100000 in
/-- The two cells of a type. -/
theorem type_cells {H : Type} {enc : TypeId × Value → H} {W : World} {n : Nat} {c0 c1 : Value} {x : DataW H × List MemPlace} (h : DataW.trod enc Tryd.prog W 0 (fun _ => true) true n 24 [c0, c1] = some x) : ∃ m y, IsT m W (.agg #[c0, c1]) y := by
  obtain ⟨xs, n', hn, hx, _, hxl, hf⟩ := DataW.trod_struct Tryd.underlying24 h
  obtain ⟨y0, y1, rfl⟩ := two hxl
  have q0 : DataW.trod enc Tryd.prog W 0 (fun _ => true) true n' 3 (([c0, c1].drop 0).take (Tryd.prog.cellsOf 3)) = some y0 := hf 0 _ rfl
  have q1 : DataW.trod enc Tryd.prog W 0 (fun _ => true) true n' 22 (([c0, c1].drop 1).take (Tryd.prog.cellsOf 22)) = some y1 := hf 1 _ rfl
  rw [show Tryd.prog.cellsOf 3 = 1 from by kernel_rfl] at q0
  rw [show Tryd.prog.cellsOf 22 = 1 from by kernel_rfl] at q1
  simp only [List.drop_succ_cons, List.drop_zero, List.take_succ_cons, List.take_zero] at q0 q1
  obtain ⟨k, e0, _, v0⟩ := DataW.trod_int Tryd.underlying3 q0
  simp only [List.cons.injEq, and_true] at e0
  subst e0
  obtain ⟨av, ln, c, rfl⟩ : ∃ av ln c, c1 = .slice av ln c := by
    rcases DataW.trod_slice Tryd.underlying22 q1 with ⟨hcs, _⟩ | ⟨ad, len', cap', _, _, _, _, hcs, _⟩
    · simp at hcs; exact ⟨_, _, _, hcs⟩
    · simp at hcs; exact ⟨_, _, _, hcs⟩
  obtain ⟨l, rfl, l1, l2⟩ := open_types n' av ln c y1 q1
  exact ⟨n', .mk k l, k, l, av, c, rfl, rfl, wf64 v0, l1, l2 n' (Nat.le_refl _)⟩
set_option maxRecDepth 100000 in
theorem open_type {H : Type} {enc : TypeId × Value → H} {W : World} {r : Reach} {b0 : Nat} {v : Value} {d : DataW H} {p : List MemPlace} (hv : Value.okWide Tryd.prog W r b0 24 v) (h : DataW.Trod enc Tryd.prog W 0 (fun _ => true) true 24 v d p) : ∃ m y, IsT m W v y := by
  obtain ⟨cs, rfl, hs⟩ := okWide_struct Tryd.underlying24 hv
  obtain ⟨fuel, hf⟩ := h
  obtain ⟨c0, c1, e⟩ := two (l := cs.toList) (by rw [Array.length_toList, hs]; kernel_rfl)
  obtain rfl : cs = #[c0, c1] := by rw [← Array.toList_inj, e]
  exact type_cells (by simpa [Value.cells] using hf)
set_option maxRecDepth 100000 in
theorem open_value {H : Type} {enc : TypeId × Value → H} {W : World} {r : Reach} {b0 : Nat} {v : Value} {d : DataW H} {p : List MemPlace} (hv : Value.okWide Tryd.prog W r b0 33 v) (h : DataW.Trod enc Tryd.prog W 0 (fun _ => true) true 33 v d p)
    (hw : (d.weights Tryd.prog 33).all (· ≤ reachBytes) = true) : ∃ m y, IsV m W v y := by
  obtain ⟨cs, rfl, hs⟩ := okWide_struct Tryd.underlying33 hv
  obtain ⟨fuel, hf⟩ := h
  obtain ⟨c0, c1, c2, c3, c4, c5, e⟩ := six (l := cs.toList) (by rw [Array.length_toList, hs]; kernel_rfl)
  obtain rfl : cs = #[c0, c1, c2, c3, c4, c5] := by rw [← Array.toList_inj, e]
  have ht : DataW.trod enc Tryd.prog W 0 (fun _ => true) true fuel 33 [c0, c1, c2, c3, c4, c5] = some (d, p) := by simpa [Value.cells] using hf
  obtain ⟨xs, n', hn, hx, _, hxl, hf⟩ := DataW.trod_struct Tryd.underlying33 ht
  obtain ⟨y0, y1, y2, y3, y4, y5, rfl⟩ := six hxl
  have q0 : DataW.trod enc Tryd.prog W 0 (fun _ => true) true n' 3 (([c0, c1, c2, c3, c4, c5].drop 0).take (Tryd.prog.cellsOf 3)) = some y0 := hf 0 _ rfl
  have q1 : DataW.trod enc Tryd.prog W 0 (fun _ => true) true n' 4 (([c0, c1, c2, c3, c4, c5].drop 1).take (Tryd.prog.cellsOf 4)) = some y1 := hf 1 _ rfl
  have q2 : DataW.trod enc Tryd.prog W 0 (fun _ => true) true n' 3 (([c0, c1, c2, c3, c4, c5].drop 2).take (Tryd.prog.cellsOf 3)) = some y2 := hf 2 _ rfl
  have q3 : DataW.trod enc Tryd.prog W 0 (fun _ => true) true n' 9 (([c0, c1, c2, c3, c4, c5].drop 3).take (Tryd.prog.cellsOf 9)) = some y3 := hf 3 _ rfl
  have q4 : DataW.trod enc Tryd.prog W 0 (fun _ => true) true n' 30 (([c0, c1, c2, c3, c4, c5].drop 4).take (Tryd.prog.cellsOf 30)) = some y4 := hf 4 _ rfl
  have q5 : DataW.trod enc Tryd.prog W 0 (fun _ => true) true n' 31 (([c0, c1, c2, c3, c4, c5].drop 5).take (Tryd.prog.cellsOf 31)) = some y5 := hf 5 _ rfl
  rw [show Tryd.prog.cellsOf 3 = 1 from by kernel_rfl] at q0 q2
  rw [show Tryd.prog.cellsOf 4 = 1 from by kernel_rfl] at q1
  rw [show Tryd.prog.cellsOf 9 = 1 from by kernel_rfl] at q3
  rw [show Tryd.prog.cellsOf 30 = 1 from by kernel_rfl] at q4
  rw [show Tryd.prog.cellsOf 31 = 1 from by kernel_rfl] at q5
  simp only [List.drop_succ_cons, List.drop_zero, List.take_succ_cons, List.take_zero] at q0 q1 q2 q3 q4 q5
  simp only [Prod.mk.injEq] at hx
  rw [hx.1] at hw
  obtain ⟨k, t, i', s, l, ks, av, c, kv, kc, rfl, rfl, rfl, rfl, rfl, rfl, g0, g1, g2, g3, g4, g5, g6, g7, g8, g9, hs', hr⟩ := val6 (open_vals n') q0 q1 q2 q3 q4 q5 hw
  exact ⟨n', .mk k t i' s l ks, k, t, i', s, l, ks, av, c, kv, kc, rfl, rfl, g0, g1, g2, g3, g4, g5, g6, g7, g8, g9, hs', hr n' (Nat.le_refl _)⟩
set_option maxRecDepth 100000 in
/-- Three types in an array. -/
theorem open_types3 {H : Type} {enc : TypeId × Value → H} {W : World} {r : Reach} {b0 : Nat} {v : Value} {d : DataW H} {p : List MemPlace} (hv : Value.okWide Tryd.prog W r b0 38 v) (h : DataW.Trod enc Tryd.prog W 0 (fun _ => true) true 38 v d p) :
    ∃ a0 a1 b0 b1 c0 c1, v = .agg #[a0, a1, b0, b1, c0, c1] ∧ (∃ m y, IsT m W (.agg #[a0, a1]) y) ∧ (∃ m y, IsT m W (.agg #[b0, b1]) y) ∧ (∃ m y, IsT m W (.agg #[c0, c1]) y) := by
  simp only [Value.okWide, Tryd.underlying38] at hv
  obtain ⟨cs, rfl, hs, _⟩ := hv
  obtain ⟨fuel, hf⟩ := h
  obtain ⟨c0, c1, c2, c3, c4, c5, e⟩ := six (l := cs.toList) (by rw [Array.length_toList, hs]; kernel_rfl)
  obtain rfl : cs = #[c0, c1, c2, c3, c4, c5] := by rw [← Array.toList_inj, e]
  have ht : DataW.trod enc Tryd.prog W 0 (fun _ => true) true fuel 38 [c0, c1, c2, c3, c4, c5] = some (d, p) := by simpa [Value.cells] using hf
  obtain ⟨xs, m, _, _, _, hxl, hi⟩ := DataW.trod_array Tryd.underlying38 ht
  rw [show Tryd.prog.cellsOf 24 = 2 from by kernel_rfl] at hi
  have key : ∀ i, i < 3 → ∃ x, xs[i]? = some x := fun i h => ⟨xs[i]'(by omega), List.getElem?_eq_getElem (by omega)⟩
  obtain ⟨x0, h0⟩ := key 0 (by omega)
  obtain ⟨x1, h1⟩ := key 1 (by omega)
  obtain ⟨x2, h2⟩ := key 2 (by omega)
  have t0 := hi 0 (by omega)
  have t1 := hi 1 (by omega)
  have t2 := hi 2 (by omega)
  rw [h0] at t0
  rw [h1] at t1
  rw [h2] at t2
  simp only [Nat.zero_mul, Nat.one_mul, Nat.reduceMul, List.drop_succ_cons, List.drop_zero, List.take_succ_cons, List.take_zero] at t0 t1 t2
  exact ⟨c0, c1, c2, c3, c4, c5, rfl, type_cells t0, type_cells t1, type_cells t2⟩
end Go.Proofs.YtabopneehhnhfabDoor
