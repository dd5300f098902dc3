/- How values and types that come in are opened: the trees that they read as. -/
import Derived.Test.YtabopneehhnhfabDoorValA
import Derived.ProofKit
import Derived.OpenShut
import Derived.Lib.SmallJoins
import Derived.SizedLaws
import Derived.Deep.Strs
namespace Go.Proofs.YtabopneehhnhfabDoor
open Go.ChangeShapes Go.WideShapes Go.ChangeAt Go.RowKit Go.Deep Go.Joins

theorem pick_of {α : Type} {p : Nat → α → Prop} : ∀ (n : Nat), (∀ i, i < n → ∃ f, p i f) → ∃ L : List α, L.length = n ∧ ∀ i, i < n → ∃ f, L[i]? = some f ∧ p i f
  | 0, _ => ⟨[], rfl, fun i h => by omega⟩
  | n + 1, h => by
    obtain ⟨L, hl, hL⟩ := pick_of n (fun i hi => h i (by omega))
    obtain ⟨f, hf⟩ := h n (by omega)
    refine ⟨L ++ [f], by simp [hl], fun i hi => ?_⟩
    by_cases e : i = n
    · subst e
      exact ⟨f, by rw [← hl]; simp, hf⟩
    · obtain ⟨g, hg, hp⟩ := hL i (by omega)
      exact ⟨g, by rw [List.getElem?_append_left (by omega)]; exact hg, hp⟩
theorem add_off {b off : Nat} (k : Nat) : (⟨b, off, none⟩ : Addr).add k = ⟨b, off + k, none⟩ := by
  unfold Addr.add
  split
  · rename_i h; subst h; rfl
  · rfl
theorem wf64 {k : Int} (h : (Lit.int .i64 k).wf = true) : -9223372036854775808 ≤ k ∧ k ≤ 9223372036854775807 := by
  simpa [Lit.wf, IntKind.signed, IntKind.min, IntKind.max, IntKind.bits] using h
theorem wAll_mem {H : Type} {P : Program} {e : TypeId} {d : DataW H} : ∀ {ds : List (DataW H)}, d ∈ ds → (DataW.weightsAll P e ds).all (· ≤ reachBytes) = true → (d.weights P e).all (· ≤ reachBytes) = true
  | d0 :: r, hd, h => by
    simp only [DataW.weightsAll, List.all_append, Bool.and_eq_true] at h
    rcases List.mem_cons.1 hd with rfl | hd
    · exact h.1
    · exact wAll_mem hd h.2
theorem wSlice {H : Type} {P : Program} {t e : TypeId} {elems spare : List (DataW H)} (hu : P.underlying t = some (.slice e)) (h : ((DataW.slice elems spare).weights P t).all (· ≤ reachBytes) = true) :
    (elems.length + spare.length) * P.bytesOf e ≤ reachBytes ∧ ∀ d, d ∈ elems → (d.weights P e).all (· ≤ reachBytes) = true := by
  simp only [DataW.weights, hu, List.all_cons, List.all_append, Bool.and_eq_true, decide_eq_true_eq] at h
  exact ⟨h.1, fun d hd => wAll_mem hd h.2.1⟩

/-- The place and the cells of the elements of a slice that is read. -/
theorem slot_of {H : Type} {enc : TypeId × Value → H} {P : Program} {W : World} {n c : Nat} {e : TypeId} {ad : Addr} {elems : List (DataW H × List MemPlace)} {len : Nat} (hc0 : 0 < c) (hlen : elems.length = len)
    (hel : ∀ i, i < len → (W.cells? 0 (ad.add (i * c)) c).bind (DataW.trod enc P W 0 (fun _ => true) true n e) = elems[i]?) (i : Nat) (hi : i < len) :
    ∃ b off cs, ad = ⟨b, off, none⟩ ∧ b < W.heap.size ∧ cs.length = c ∧ (∀ j, j < c → W.cell? ⟨b, off + i * c + j, none⟩ = cs[j]?) ∧ DataW.trod enc P W 0 (fun _ => true) true n e cs = some (elems[i]'(by omega)) := by
  have h0 := hel 0 (by omega)
  have hex : elems[0]? = some elems[0] := List.getElem?_eq_getElem (by omega)
  rw [hex] at h0
  obtain ⟨cs0, hc, _⟩ := Option.bind_eq_some_iff.1 h0
  obtain ⟨_, hcl, hat⟩ := World.cells?_some hc
  have a0 := hat 0 (by omega)
  obtain ⟨c00, hc00⟩ : ∃ x, cs0[0]? = some x := ⟨cs0[0]'(by omega), List.getElem?_eq_getElem (by omega)⟩
  rw [hc00] at a0
  have a0 : W.cell? ad = some c00 := by simpa [Addr.add] using a0
  have hsp := World.cell?_spot a0
  have hlt := World.block_lt_of_cell? W _ a0
  obtain ⟨b, off, spot⟩ := ad
  simp only at hsp hlt
  subst hsp
  have h1 := hel i hi
  have hex : elems[i]? = some elems[i] := List.getElem?_eq_getElem (by omega)
  rw [hex] at h1
  obtain ⟨cs, hc, ht⟩ := Option.bind_eq_some_iff.1 h1
  obtain ⟨_, hcl, hat⟩ := World.cells?_some hc
  refine ⟨b, off, cs, rfl, hlt, hcl, fun j hj => ?_, ht⟩
  have h := hat j hj
  rw [add_off, add_off] at h
  exact h

theorem open_keys {H : Type} {enc : TypeId × Value → H} {W : World} (fuel : Nat) (a : Option Addr) (len cap : Nat) (x : DataW H × List MemPlace)
    (h : DataW.trod enc Tryd.prog W 0 (fun _ => true) true fuel 31 [.slice a len cap] = some x) (hw : (x.1.weights Tryd.prog 31).all (· ≤ reachBytes) = true) :
    ∃ L : List (List UInt8), len = L.length ∧ len ≤ cap ∧ cap ≤ maxLen ∧ L.length * 16 ≤ 140737488351232 ∧ (∀ z ∈ L, z.length ≤ 140737488351232) ∧ ReadsStr W a L := by
  rcases DataW.trod_slice Tryd.underlying31 h with ⟨hcs, _⟩ | ⟨ad, len', cap', elems, rest, n, hfu, hcs, rfl, _, hl, hm, hlen, hel, _, _⟩
  · simp at hcs
    obtain ⟨rfl, rfl, rfl⟩ := hcs
    exact ⟨[], rfl, by simp, by simp [maxLen], by simp, by simp, fun k hk => by simp at hk⟩
  · simp at hcs
    obtain ⟨rfl, rfl, rfl⟩ := hcs
    obtain ⟨hb, hwe⟩ := wSlice Tryd.underlying31 hw
    rw [show Tryd.prog.bytesOf 9 = 16 from by kernel_rfl, List.length_map] at hb
    unfold reachBytes at hb
    rw [show Tryd.prog.cellsOf 9 = 1 from by kernel_rfl] at hel
    have key : ∀ i, i < len → ∃ z : List UInt8, z.length ≤ 140737488351232 ∧ ∃ b off, ad = ⟨b, off, none⟩ ∧ b < W.heap.size ∧ W.cell? ⟨b, off + i, none⟩ = some (.string ⟨z.toArray⟩) := by
      intro i hi
      obtain ⟨b, off, cs, rfl, hlt, hcl, hat, ht⟩ := slot_of (by omega) hlen hel i hi
      obtain ⟨s, rfl, hs, _⟩ := DataW.trod_string Tryd.underlying9 ht
      have hwd := hwe elems[i].1 (List.mem_map.2 ⟨_, List.getElem_mem _, rfl⟩)
      rw [hs] at hwd
      simp only [DataW.weights, List.all_cons, List.all_nil, Bool.and_true, decide_eq_true_eq] at hwd
      unfold reachBytes at hwd
      have h0 := hat 0 (by omega)
      exact ⟨s.data.toList, by omega, b, off, rfl, hlt, by simpa using h0⟩
    obtain ⟨L, hLl, hL⟩ := pick_of len key
    refine ⟨L, hLl.symm, hl, hm, by omega, fun z hz => ?_, fun k hk => ?_⟩
    · obtain ⟨i, hi, rfl⟩ := List.getElem_of_mem hz
      obtain ⟨f, hf, h1, _⟩ := hL i (by omega)
      rw [(List.getElem?_eq_some_iff.1 hf).2]
      exact h1
    · obtain ⟨f, hf, _, b, off, h1, h2, h3⟩ := hL k (by omega)
      rw [(List.getElem?_eq_some_iff.1 hf).2]
      exact ⟨b, off, by rw [h1], h2, h3⟩

theorem six {α : Type} {l : List α} (h : l.length = 6) : ∃ a b c d e f, l = [a, b, c, d, e, f] := by
  match l, h with
  | [a, b, c, d, e, f], _ => exact ⟨a, b, c, d, e, f, rfl⟩
/-- What a slice of values is opened to. -/
def OpensV (W : World) (n : Nat) (a : Option Addr) (len cap : Nat) (L : List Vl) : Prop := len = L.length ∧ len ≤ cap ∧ cap ≤ maxLen ∧ L.length * 88 ≤ 140737488351232 ∧ ∀ m, n ≤ m → ReadsV m W a L
set_option maxRecDepth 100000 in
theorem val6 {H : Type} {enc : TypeId × Value → H} {W : World} {n : Nat} {c0 c1 c2 c3 c4 c5 : Value} {y0 y1 y2 y3 y4 y5 : DataW H × List MemPlace}
    (ih : ∀ (a : Option Addr) (len cap : Nat) (x : DataW H × List MemPlace), DataW.trod enc Tryd.prog W 0 (fun _ => true) true n 30 [.slice a len cap] = some x → (x.1.weights Tryd.prog 30).all (· ≤ reachBytes) = true → ∃ L, OpensV W n a len cap L)
    (q0 : DataW.trod enc Tryd.prog W 0 (fun _ => true) true n 3 [c0] = some y0) (q1 : DataW.trod enc Tryd.prog W 0 (fun _ => true) true n 4 [c1] = some y1)
    (q2 : DataW.trod enc Tryd.prog W 0 (fun _ => true) true n 3 [c2] = some y2) (q3 : DataW.trod enc Tryd.prog W 0 (fun _ => true) true n 9 [c3] = some y3)
    (q4 : DataW.trod enc Tryd.prog W 0 (fun _ => true) true n 30 [c4] = some y4) (q5 : DataW.trod enc Tryd.prog W 0 (fun _ => true) true n 31 [c5] = some y5)
    (w : ((DataW.agg [y0.1, y1.1, y2.1, y3.1, y4.1, y5.1]).weights Tryd.prog 33).all (· ≤ reachBytes) = true) :
    ∃ k t i s l ks av c kv kc, c0 = .int .i64 k ∧ c1 = .bool t ∧ c2 = .int .i64 i ∧ c3 = .string s ∧ c4 = .slice av (List.length l) c ∧ c5 = .slice kv (List.length ks) kc ∧
      (-9223372036854775808 ≤ k ∧ k ≤ 9223372036854775807) ∧ (-9223372036854775808 ≤ i ∧ i ≤ 9223372036854775807) ∧ s.size ≤ 140737488351232 ∧ l.length * 88 ≤ 140737488351232 ∧ l.length ≤ c ∧ c ≤ 9223372036854775807 ∧ ks.length * 16 ≤ 140737488351232 ∧ ks.length ≤ kc ∧ kc ≤ 9223372036854775807 ∧
      (∀ x, x ∈ ks → x.length ≤ 140737488351232) ∧ ReadsStr W kv ks ∧ ∀ m, n ≤ m → ReadsV m W av l := by
  simp only [DataW.weights, Tryd.underlying33, List.map_cons, List.map_nil, DataW.weightsEach, List.all_append, List.append_nil, Bool.and_eq_true] at w
  obtain ⟨-, -, -, w3, w4, w5⟩ := w
  obtain ⟨k, e0, _, v0⟩ := DataW.trod_int Tryd.underlying3 q0
  obtain ⟨t, e1, _⟩ := DataW.trod_bool Tryd.underlying4 q1
  obtain ⟨i, e2, _, v2⟩ := DataW.trod_int Tryd.underlying3 q2
  obtain ⟨s, e3, z3, _⟩ := DataW.trod_string Tryd.underlying9 q3
  simp only [List.cons.injEq, and_true] at e0 e1 e2 e3
  subst e0 e1 e2 e3
  rw [z3] at w3
  simp only [DataW.weights, List.all_cons, List.all_nil, Bool.and_true, decide_eq_true_eq] at w3
  unfold reachBytes at w3
  obtain ⟨av, ln, c, rfl⟩ : ∃ av ln c, c4 = .slice av ln c := by
    rcases DataW.trod_slice Tryd.underlying30 q4 with ⟨hcs, _⟩ | ⟨ad, len', cap', _, _, _, _, hcs, _⟩
    · simp at hcs; exact ⟨_, _, _, hcs⟩
    · simp at hcs; exact ⟨_, _, _, hcs⟩
  obtain ⟨kv, kn, kc, rfl⟩ : ∃ av ln c, c5 = .slice av ln c := by
    rcases DataW.trod_slice Tryd.underlying31 q5 with ⟨hcs, _⟩ | ⟨ad, len', cap', _, _, _, _, hcs, _⟩
    · simp at hcs; exact ⟨_, _, _, hcs⟩
    · simp at hcs; exact ⟨_, _, _, hcs⟩
  obtain ⟨l, rfl, l1, l2, l3, l4⟩ := ih av ln c y4 q4 w4
  obtain ⟨ks, rfl, k1, k2, k3, k4, k5⟩ := open_keys n kv kn kc y5 q5 w5
  unfold maxLen at l2 k2
  have es : s.data.toList.length = s.size := by rw [Array.length_toList]; rfl
  exact ⟨k, t, i, s, l, ks, av, c, kv, kc, rfl, rfl, rfl, rfl, rfl, rfl, wf64 v0, wf64 v2, by omega, l3, l1, by omega, k3, k1, by omega, k4, k5, l4⟩

set_option maxRecDepth 100000 in
set_option maxHeartbeats 1000000 in
theorem open_vals {H : Type} {enc : TypeId × Value → H} {W : World} : ∀ (fuel : Nat) (a : Option Addr) (len cap : Nat) (x : DataW H × List MemPlace),
    DataW.trod enc Tryd.prog W 0 (fun _ => true) true fuel 30 [.slice a len cap] = some x → (x.1.weights Tryd.prog 30).all (· ≤ reachBytes) = true → ∃ L, OpensV W fuel a len cap L := by
  intro fuel
  induction fuel using Nat.strongRecOn with
  | ind fuel ih =>
    intro a len cap x h hw
    rcases DataW.trod_slice Tryd.underlying30 h with ⟨hcs, _⟩ | ⟨ad, len', cap', elems, rest, n, hfu, hcs, rfl, _, hl, hm, hlen, hel, _, _⟩
    · simp at hcs
      obtain ⟨rfl, rfl, rfl⟩ := hcs
      refine ⟨[], rfl, by simp, by simp [maxLen], by simp, fun m hm => ?_⟩
      cases m with
      | zero => exact rfl
      | succ m => intro j hj; simp at hj
    · simp at hcs
      obtain ⟨rfl, rfl, rfl⟩ := hcs
      subst hfu
      obtain ⟨hb, hwe⟩ := wSlice Tryd.underlying30 hw
      rw [show Tryd.prog.bytesOf 33 = 88 from by kernel_rfl, List.length_map] at hb
      unfold reachBytes at hb
      rw [show Tryd.prog.cellsOf 33 = 6 from by kernel_rfl] at hel
      have key : ∀ i, i < len → ∃ f : Vl, ∃ b off k t i' s l' ks av c kv kc, f = .mk k t i' s l' ks ∧ ad = ⟨b, off, none⟩ ∧ b < W.heap.size ∧
          W.cell? ⟨b, off + i * 6, none⟩ = some (.int .i64 k) ∧ W.cell? ⟨b, off + i * 6 + 1, none⟩ = some (.bool t) ∧ W.cell? ⟨b, off + i * 6 + 2, none⟩ = some (.int .i64 i') ∧
          W.cell? ⟨b, off + i * 6 + 3, none⟩ = some (.string s) ∧ W.cell? ⟨b, off + i * 6 + 4, none⟩ = some (.slice av l'.length c) ∧ W.cell? ⟨b, off + i * 6 + 5, none⟩ = some (.slice kv ks.length kc) ∧
          (-9223372036854775808 ≤ k ∧ k ≤ 9223372036854775807) ∧ (-9223372036854775808 ≤ i' ∧ i' ≤ 9223372036854775807) ∧ s.size ≤ 140737488351232 ∧ l'.length * 88 ≤ 140737488351232 ∧ l'.length ≤ c ∧ c ≤ 9223372036854775807 ∧ ks.length * 16 ≤ 140737488351232 ∧ ks.length ≤ kc ∧ kc ≤ 9223372036854775807 ∧
          (∀ x, x ∈ ks → x.length ≤ 140737488351232) ∧ ReadsStr W kv ks ∧ ∀ m, n - 1 ≤ m → ReadsV m W av l' := by
        intro i hi
        obtain ⟨b, off, cs, rfl, hlt, hcl, hat, ht⟩ := slot_of (by omega) hlen hel i hi
        have hwd := hwe elems[i].1 (List.mem_map.2 ⟨_, List.getElem_mem _, rfl⟩)
        obtain ⟨c0, c1, c2, c3, c4, c5, rfl⟩ := six hcl
        obtain ⟨xs, n', hn, hx, _, hxl, hf⟩ := DataW.trod_struct Tryd.underlying33 ht
        obtain ⟨y0, y1, y2, y3, y4, y5, rfl⟩ := six hxl
        have q0 : DataW.trod enc Tryd.prog W 0 (fun _ => true) true n' 3 (([c0, c1, c2, c3, c4, c5].drop 0).take (Tryd.prog.cellsOf 3)) = some y0 := hf 0 _ rfl
        have q1 : DataW.trod enc Tryd.prog W 0 (fun _ => true) true n' 4 (([c0, c1, c2, c3, c4, c5].drop 1).take (Tryd.prog.cellsOf 4)) = some y1 := hf 1 _ rfl
        have q2 : DataW.trod enc Tryd.prog W 0 (fun _ => true) true n' 3 (([c0, c1, c2, c3, c4, c5].drop 2).take (Tryd.prog.cellsOf 3)) = some y2 := hf 2 _ rfl
        have q3 : DataW.trod enc Tryd.prog W 0 (fun _ => true) true n' 9 (([c0, c1, c2, c3, c4, c5].drop 3).take (Tryd.prog.cellsOf 9)) = some y3 := hf 3 _ rfl
        have q4 : DataW.trod enc Tryd.prog W 0 (fun _ => true) true n' 30 (([c0, c1, c2, c3, c4, c5].drop 4).take (Tryd.prog.cellsOf 30)) = some y4 := hf 4 _ rfl
        have q5 : DataW.trod enc Tryd.prog W 0 (fun _ => true) true n' 31 (([c0, c1, c2, c3, c4, c5].drop 5).take (Tryd.prog.cellsOf 31)) = some y5 := hf 5 _ rfl
        rw [show Tryd.prog.cellsOf 3 = 1 from by kernel_rfl] at q0 q2
        rw [show Tryd.prog.cellsOf 4 = 1 from by kernel_rfl] at q1
        rw [show Tryd.prog.cellsOf 9 = 1 from by kernel_rfl] at q3
        rw [show Tryd.prog.cellsOf 30 = 1 from by kernel_rfl] at q4
        rw [show Tryd.prog.cellsOf 31 = 1 from by kernel_rfl] at q5
        simp only [List.drop_succ_cons, List.drop_zero, List.take_succ_cons, List.take_zero] at q0 q1 q2 q3 q4 q5
        rw [hx] at hwd
        have hwd' : ((DataW.agg [y0.1, y1.1, y2.1, y3.1, y4.1, y5.1]).weights Tryd.prog 33).all (· ≤ reachBytes) = true := hwd
        obtain ⟨k, t, i', s, l, ks, av, c, kv, kc, rfl, rfl, rfl, rfl, rfl, rfl, g0, g1, g2, g3, g4, g5, g6, g7, g8, g9, hs, hr⟩ := val6 (ih n' (by omega)) q0 q1 q2 q3 q4 q5 hwd'
        exact ⟨.mk k t i' s l ks, b, off, k, t, i', s, l, ks, av, c, kv, kc, rfl, rfl, hlt, by simpa using hat 0 (by omega), by simpa using hat 1 (by omega), by simpa using hat 2 (by omega), by simpa using hat 3 (by omega), by simpa using hat 4 (by omega), by simpa using hat 5 (by omega),
          g0, g1, g2, g3, g4, g5, g6, g7, g8, g9, hs, fun m hm => hr m (by omega)⟩
      obtain ⟨L, hLl, hL⟩ := pick_of len key
      refine ⟨L, hLl.symm, hl, hm, by omega, fun m hm => ?_⟩
      cases m with
      | zero => omega
      | succ m =>
        intro j hj
        obtain ⟨f, hf, b, off, k, t, i', s, l', ks, av, c, kv, kc, rfl, rfl, hlt, a0, a1, a2, a3, a4, a5, g0, g1, g2, g3, g4, g5, g6, g7, g8, g9, hs, hr⟩ := hL j (by omega)
        exact ⟨b, off, k, t, i', s, l', ks, av, c, kv, kc, hf, rfl, hlt, a0, a1, a2, a3, a4, a5, g0, g1, g2, g3, g4, g5, g6, g7, g8, g9, hs, hr m (by omega)⟩
end Go.Proofs.YtabopneehhnhfabDoor
