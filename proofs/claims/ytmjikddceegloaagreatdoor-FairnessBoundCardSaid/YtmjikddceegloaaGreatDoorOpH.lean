/- How shares that come in are opened (fairness). -/
import Derived.Test.YtmjikddceegloaaGreatDoorFrB
import Derived.Test.YtmjikddceegloaaGreatDoorRows
import Derived.ProofKit
import Derived.OpenShut
import Derived.Lib.SmallJoins
import Derived.SizedLaws
import Derived.Deep.Strs
namespace Go.Proofs.YtmjikddceegloaaGreatDoor
open Go.ChangeShapes Go.WideShapes Go.ChangeAt Go.RowKit Go.Deep Go.Joins

theorem add_off (b o k : Nat) : (⟨b, o, none⟩ : Addr).add k = ⟨b, o + k, none⟩ := by
  unfold Addr.add
  split
  · rename_i h; subst h; rfl
  · rfl
theorem pick_of {α : Type} {p : Nat → α → Prop} : ∀ (n : Nat), (∀ i, i < n → ∃ f, p i f) → ∃ L : List α, L.length = n ∧ ∀ i, i < n → ∃ f, L[i]? = some f ∧ p i f
  | 0, _ => ⟨[], rfl, fun i h => by omega⟩
  | n + 1, h => by
    obtain ⟨L, hl, hL⟩ := pick_of n (fun i hi => h i (by omega))
    obtain ⟨f, hf⟩ := h n (by omega)
    refine ⟨L ++ [f], by simp [hl], fun i hi => ?_⟩
    by_cases e : i = n
    · subst e
      exact ⟨f, by rw [← hl]; simp, hf⟩
    · obtain ⟨g, hg, hp⟩ := hL i (by omega)
      exact ⟨g, by rw [List.getElem?_append_left (by omega)]; exact hg, hp⟩
theorem wAll_mem {H : Type} {P : Program} {e : TypeId} {d : DataW H} : ∀ {ds : List (DataW H)}, d ∈ ds → (DataW.weightsAll P e ds).all (· ≤ reachBytes) = true → (d.weights P e).all (· ≤ reachBytes) = true
  | d0 :: r, hd, h => by
    simp only [DataW.weightsAll, List.all_append, Bool.and_eq_true] at h
    rcases List.mem_cons.1 hd with rfl | hd
    · exact h.1
    · exact wAll_mem hd h.2
theorem wSlice {H : Type} {P : Program} {t e : TypeId} {elems spare : List (DataW H)} (hu : P.underlying t = some (.slice e)) (h : ((DataW.slice elems spare).weights P t).all (· ≤ reachBytes) = true) :
    (elems.length + spare.length) * P.bytesOf e ≤ reachBytes ∧ ∀ d, d ∈ elems → (d.weights P e).all (· ≤ reachBytes) = true := by
  simp only [DataW.weights, hu, List.all_cons, List.all_append, Bool.and_eq_true, decide_eq_true_eq] at h
  exact ⟨h.1, fun d hd => wAll_mem hd h.2.1⟩

theorem slot_of {H : Type} {enc : TypeId × Value → H} {P : Program} {W : World} {n c : Nat} {e : TypeId} {ad : Addr} {elems : List (DataW H × List MemPlace)} {len : Nat} (hc0 : 0 < c) (hlen : elems.length = len)
    (hel : ∀ i, i < len → (W.cells? 0 (ad.add (i * c)) c).bind (DataW.trod enc P W 0 (fun _ => true) true n e) = elems[i]?) (i : Nat) (hi : i < len) :
    ∃ b off cs, ad = ⟨b, off, none⟩ ∧ b < W.heap.size ∧ cs.length = c ∧ (∀ j, j < c → W.cell? ⟨b, off + i * c + j, none⟩ = cs[j]?) ∧ DataW.trod enc P W 0 (fun _ => true) true n e cs = some (elems[i]'(by omega)) := by
  have h0 := hel 0 (by omega)
  have hex : elems[0]? = some elems[0] := List.getElem?_eq_getElem (by omega)
  rw [hex] at h0
  obtain ⟨cs0, hc, _⟩ := Option.bind_eq_some_iff.1 h0
  obtain ⟨_, hcl, hat⟩ := World.cells?_some hc
  have a0 := hat 0 (by omega)
  obtain ⟨c00, hc00⟩ : ∃ x, cs0[0]? = some x := ⟨cs0[0]'(by omega), List.getElem?_eq_getElem (by omega)⟩
  rw [hc00] at a0
  have a0 : W.cell? ad = some c00 := by simpa [Addr.add] using a0
  have hsp := World.cell?_spot a0
  have hlt := World.block_lt_of_cell? W _ a0
  obtain ⟨b, off, spot⟩ := ad
  simp only at hsp hlt
  subst hsp
  have h1 := hel i hi
  have hex : elems[i]? = some elems[i] := List.getElem?_eq_getElem (by omega)
  rw [hex] at h1
  obtain ⟨cs, hc, ht⟩ := Option.bind_eq_some_iff.1 h1
  obtain ⟨_, hcl, hat⟩ := World.cells?_some hc
  refine ⟨b, off, cs, rfl, hlt, hcl, fun j hj => ?_, ht⟩
  have h := hat j hj
  rw [add_off, add_off] at h
  exact h

theorem three {α : Type} {l : List α} (h : l.length = 3) : ∃ a b c, l = [a, b, c] := by
  match l, h with
  | [a, b, c], _ => exact ⟨a, b, c, rfl⟩
set_option maxRecDepth 100000 in
set_option maxHeartbeats 1000000 in
theorem open_shares {H : Type} {enc : TypeId × Value → H} {W : World} (fuel : Nat) (a : Option Addr) (len cap : Nat) (x : DataW H × List MemPlace)
    (h : DataW.trod enc Tryz.prog W 0 (fun _ => true) true fuel 22 [.slice a len cap] = some x) (hw : (x.1.weights Tryz.prog 22).all (· ≤ reachBytes) = true) :
    ∃ L : List Sha, len = L.length ∧ L.length * 32 ≤ 140737488351232 ∧ (∀ j (h : j < L.length), L[j].prj.length ≤ 140737488351232) ∧ ReadsH W a L := by
  rcases DataW.trod_slice Tryz.underlying22 h with ⟨hcs, _⟩ | ⟨ad, len', cap', elems, rest, n, hfu, hcs, rfl, _, hl, hm, hlen, hel, _, _⟩
  · simp at hcs
    obtain ⟨rfl, rfl, rfl⟩ := hcs
    exact ⟨[], rfl, by simp, fun j h => by simp at h, fun k hk => by simp at hk⟩
  · simp at hcs
    obtain ⟨rfl, rfl, rfl⟩ := hcs
    obtain ⟨hb, hwe⟩ := wSlice Tryz.underlying22 hw
    rw [show Tryz.prog.bytesOf 41 = 32 from by kernel_rfl, List.length_map] at hb
    unfold reachBytes at hb
    rw [show Tryz.prog.cellsOf 41 = 3 from by kernel_rfl] at hel
    have key : ∀ i, i < len → ∃ f : Sha, f.prj.length ≤ 140737488351232 ∧ ∃ b off, ad = ⟨b, off, none⟩ ∧ b < W.heap.size ∧
        W.cell? ⟨b, off + i * 3, none⟩ = some (.string ⟨f.prj.toArray⟩) ∧ W.cell? ⟨b, off + i * 3 + 1, none⟩ = some (.int .i64 f.wgt) ∧ W.cell? ⟨b, off + i * 3 + 2, none⟩ = some (.int .i64 f.srv) := by
      intro i hi
      obtain ⟨b, off, cs, rfl, hlt, hcl, hat, ht⟩ := slot_of (by omega) hlen hel i hi
      have hwd := hwe elems[i].1 (List.mem_map.2 ⟨_, List.getElem_mem _, rfl⟩)
      obtain ⟨c0, c1, c2, rfl⟩ := three hcl
      obtain ⟨xs, n', hn, hx, _, hxl, hf⟩ := DataW.trod_struct Tryz.underlying41 ht
      obtain ⟨y0, y1, y2, rfl⟩ := three hxl
      have q0 : DataW.trod enc Tryz.prog W 0 (fun _ => true) true n' 9 (([c0, c1, c2].drop 0).take (Tryz.prog.cellsOf 9)) = some y0 := hf 0 _ rfl
      have q1 : DataW.trod enc Tryz.prog W 0 (fun _ => true) true n' 3 (([c0, c1, c2].drop 1).take (Tryz.prog.cellsOf 3)) = some y1 := hf 1 _ rfl
      have q2 : DataW.trod enc Tryz.prog W 0 (fun _ => true) true n' 3 (([c0, c1, c2].drop 2).take (Tryz.prog.cellsOf 3)) = some y2 := hf 2 _ rfl
      rw [show Tryz.prog.cellsOf 9 = 1 from by kernel_rfl] at q0
      rw [show Tryz.prog.cellsOf 3 = 1 from by kernel_rfl] at q1 q2
      simp only [List.drop_succ_cons, List.drop_zero, List.take_succ_cons, List.take_zero] at q0 q1 q2
      rw [hx] at hwd
      have hwd' : ((DataW.agg [y0.1, y1.1, y2.1]).weights Tryz.prog 41).all (· ≤ reachBytes) = true := hwd
      simp only [DataW.weights, Tryz.underlying41, List.map_cons, List.map_nil, DataW.weightsEach, List.all_append, List.append_nil, Bool.and_eq_true] at hwd'
      obtain ⟨w1, -⟩ := hwd'
      obtain ⟨s, e0, z0, _⟩ := DataW.trod_string Tryz.underlying9 q0
      obtain ⟨k, e1, _, _⟩ := DataW.trod_int Tryz.underlying3 q1
      obtain ⟨p, e2, _, _⟩ := DataW.trod_int Tryz.underlying3 q2
      simp only [List.cons.injEq, and_true] at e0 e1 e2
      subst e0 e1 e2
      rw [z0] at w1
      simp only [DataW.weights, List.all_cons, List.all_nil, Bool.and_true, decide_eq_true_eq] at w1
      unfold reachBytes at w1
      have hsl : s.data.toList.length = s.size := by rw [Array.length_toList]; rfl
      refine ⟨⟨s.data.toList, k, p⟩, by show s.data.toList.length ≤ _; omega, b, off, rfl, hlt, hat 0 (by omega), hat 1 (by omega), hat 2 (by omega)⟩
    obtain ⟨L, hLl, hL⟩ := pick_of len key
    refine ⟨L, hLl.symm, by omega, fun j hj => ?_, fun k hk => ?_⟩
    · obtain ⟨f, hf, h1, _⟩ := hL j (by omega)
      rw [(List.getElem?_eq_some_iff.1 hf).2]
      exact h1
    · obtain ⟨f, hf, _, b, off, h1, h2, h3, h4, h5⟩ := hL k (by omega)
      rw [(List.getElem?_eq_some_iff.1 hf).2]
      exact ⟨b, off, by rw [h1], h2, h3, h4, h5⟩
end Go.Proofs.YtmjikddceegloaaGreatDoor
