/- How a bucket and a list of acts that come in are opened. -/
import Derived.Test.YtjeknocbndgikaaBudL
import Derived.ProofKit
import Derived.OpenShut
import Derived.Lib.SmallJoins
namespace Go.Proofs.Ytjeknocbndgikaa
open Go.ChangeShapes Go.WideShapes Go.ChangeAt Go.RowKit Go.Deep Go.Joins

theorem pick_of {α : Type} {p : Nat → α → Prop} : ∀ (n : Nat), (∀ i, i < n → ∃ f, p i f) → ∃ L : List α, L.length = n ∧ ∀ i, i < n → ∃ f, L[i]? = some f ∧ p i f
  | 0, _ => ⟨[], rfl, fun i h => by omega⟩
  | n + 1, h => by
    obtain ⟨L, hl, hL⟩ := pick_of n (fun i hi => h i (by omega))
    obtain ⟨f, hf⟩ := h n (by omega)
    refine ⟨L ++ [f], by simp [hl], fun i hi => ?_⟩
    by_cases e : i = n
    · subst e
      exact ⟨f, by rw [← hl]; simp, hf⟩
    · obtain ⟨g, hg, hp⟩ := hL i (by omega)
      exact ⟨g, by rw [List.getElem?_append_left (by omega)]; exact hg, hp⟩
theorem add_off {b off : Nat} (k : Nat) : (⟨b, off, none⟩ : Addr).add k = ⟨b, off + k, none⟩ := by
  unfold Addr.add
  split
  · rename_i h; subst h; rfl
  · rfl
theorem slot_of {H : Type} {enc : TypeId × Value → H} {P : Program} {W : World} {n c : Nat} {e : TypeId} {ad : Addr} {elems : List (DataW H × List MemPlace)} {len : Nat} (hc0 : 0 < c) (hlen : elems.length = len)
    (hel : ∀ i, i < len → (W.cells? 0 (ad.add (i * c)) c).bind (DataW.trod enc P W 0 (fun _ => true) true n e) = elems[i]?) (i : Nat) (hi : i < len) :
    ∃ b off cs, ad = ⟨b, off, none⟩ ∧ b < W.heap.size ∧ cs.length = c ∧ (∀ j, j < c → W.cell? ⟨b, off + i * c + j, none⟩ = cs[j]?) ∧ DataW.trod enc P W 0 (fun _ => true) true n e cs = some (elems[i]'(by omega)) := by
  have h0 := hel 0 (by omega)
  have hex : elems[0]? = some elems[0] := List.getElem?_eq_getElem (by omega)
  rw [hex] at h0
  obtain ⟨cs0, hc, _⟩ := Option.bind_eq_some_iff.1 h0
  obtain ⟨_, hcl, hat⟩ := World.cells?_some hc
  have a0 := hat 0 (by omega)
  obtain ⟨c00, hc00⟩ : ∃ x, cs0[0]? = some x := ⟨cs0[0]'(by omega), List.getElem?_eq_getElem (by omega)⟩
  rw [hc00] at a0
  have a0 : W.cell? ad = some c00 := by simpa [Addr.add] using a0
  have hsp := World.cell?_spot a0
  have hlt := World.block_lt_of_cell? W _ a0
  obtain ⟨b, off, spot⟩ := ad
  simp only at hsp hlt
  subst hsp
  have h1 := hel i hi
  have hex : elems[i]? = some elems[i] := List.getElem?_eq_getElem (by omega)
  rw [hex] at h1
  obtain ⟨cs, hc, ht⟩ := Option.bind_eq_some_iff.1 h1
  obtain ⟨_, hcl, hat⟩ := World.cells?_some hc
  refine ⟨b, off, cs, rfl, hlt, hcl, fun j hj => ?_, ht⟩
  have h := hat j hj
  rw [add_off, add_off] at h
  exact h

theorem four {α : Type} {l : List α} (h : l.length = 4) : ∃ a b c d, l = [a, b, c, d] := by
  match l, h with
  | [a, b, c, d], _ => exact ⟨a, b, c, d, rfl⟩
set_option maxRecDepth 100000 in
theorem open_bucket {H : Type} {enc : TypeId × Value → H} {W : World} {r : Reach} {b0 : Nat} {v : Value} {d : DataW H} {p : List MemPlace} (hv : Value.okWide Try.prog W r b0 23 v) (h : DataW.Trod enc Try.prog W 0 (fun _ => true) true 23 v d p) :
    ∃ r u l a : Int, v = .agg #[.int .i64 r, .int .i64 u, .int .i64 l, .int .i64 a] ∧ I64 r ∧ I64 u ∧ I64 l ∧ I64 a := by
  obtain ⟨cs, rfl, hs⟩ := okWide_struct Try.underlying23 hv
  obtain ⟨fuel, hf⟩ := h
  obtain ⟨c0, c1, c2, c3, e⟩ := four (l := cs.toList) (by rw [Array.length_toList, hs]; kernel_rfl)
  obtain rfl : cs = #[c0, c1, c2, c3] := by rw [← Array.toList_inj, e]
  have ht : DataW.trod enc Try.prog W 0 (fun _ => true) true fuel 23 [c0, c1, c2, c3] = some (d, p) := by simpa [Value.cells] using hf
  obtain ⟨xs, n', hn, hx, _, hxl, hf⟩ := DataW.trod_struct Try.underlying23 ht
  obtain ⟨y0, y1, y2, y3, rfl⟩ := four hxl
  have q0 : DataW.trod enc Try.prog W 0 (fun _ => true) true n' 3 (([c0, c1, c2, c3].drop 0).take (Try.prog.cellsOf 3)) = some y0 := hf 0 _ rfl
  have q1 : DataW.trod enc Try.prog W 0 (fun _ => true) true n' 3 (([c0, c1, c2, c3].drop 1).take (Try.prog.cellsOf 3)) = some y1 := hf 1 _ rfl
  have q2 : DataW.trod enc Try.prog W 0 (fun _ => true) true n' 3 (([c0, c1, c2, c3].drop 2).take (Try.prog.cellsOf 3)) = some y2 := hf 2 _ rfl
  have q3 : DataW.trod enc Try.prog W 0 (fun _ => true) true n' 3 (([c0, c1, c2, c3].drop 3).take (Try.prog.cellsOf 3)) = some y3 := hf 3 _ rfl
  rw [show Try.prog.cellsOf 3 = 1 from by kernel_rfl] at q0 q1 q2 q3
  simp only [List.drop_succ_cons, List.drop_zero, List.take_succ_cons, List.take_zero] at q0 q1 q2 q3
  obtain ⟨k0, e0, _, v0⟩ := DataW.trod_int Try.underlying3 q0
  obtain ⟨k1, e1, _, v1⟩ := DataW.trod_int Try.underlying3 q1
  obtain ⟨k2, e2, _, v2⟩ := DataW.trod_int Try.underlying3 q2
  obtain ⟨k3, e3, _, v3⟩ := DataW.trod_int Try.underlying3 q3
  simp only [List.cons.injEq, and_true] at e0 e1 e2 e3
  subst e0 e1 e2 e3
  exact ⟨k0, k1, k2, k3, rfl, I64.mk v0, I64.mk v1, I64.mk v2, I64.mk v3⟩

/-- The list of acts that a slice reads as. -/
def ReadsA (w : World) (v : Option Addr) (l : List (Int × Int)) : Prop :=
  ∀ k (h : k < l.length), ∃ b off, v = some ⟨b, off, none⟩ ∧ b < w.heap.size ∧ w.cell? ⟨b, off + k * 2, none⟩ = some (.int .i64 l[k].1) ∧ w.cell? ⟨b, off + k * 2 + 1, none⟩ = some (.int .i64 l[k].2) ∧ I64 l[k].1 ∧ I64 l[k].2
theorem two {α : Type} {l : List α} (h : l.length = 2) : ∃ a b, l = [a, b] := by
  match l, h with
  | [a, b], _ => exact ⟨a, b, rfl⟩
set_option maxRecDepth 100000 in
theorem open_acts {H : Type} {enc : TypeId × Value → H} {W : World} : ∀ (fuel : Nat) (a : Option Addr) (len cap : Nat) (x : DataW H × List MemPlace),
    DataW.trod enc Try.prog W 0 (fun _ => true) true fuel 40 [.slice a len cap] = some x → ∃ L : List (Int × Int), len = L.length ∧ L.length ≤ 9223372036854775807 ∧ ReadsA W a L := by
  intro fuel a len cap x h
  rcases DataW.trod_slice Try.underlying40 h with ⟨hcs, _⟩ | ⟨ad, len', cap', elems, rest, n, hfu, hcs, rfl, _, hl, hm, hlen, hel, _, _⟩
  · simp at hcs
    obtain ⟨rfl, rfl, rfl⟩ := hcs
    exact ⟨[], rfl, by simp, fun k hk => by simp at hk⟩
  · simp at hcs
    obtain ⟨rfl, rfl, rfl⟩ := hcs
    subst hfu
    unfold maxLen at hm
    rw [show Try.prog.cellsOf 43 = 2 from by kernel_rfl] at hel
    have key : ∀ i, i < len → ∃ f : Int × Int, ∃ b off, ad = ⟨b, off, none⟩ ∧ b < W.heap.size ∧
        W.cell? ⟨b, off + i * 2, none⟩ = some (.int .i64 f.1) ∧ W.cell? ⟨b, off + i * 2 + 1, none⟩ = some (.int .i64 f.2) ∧ I64 f.1 ∧ I64 f.2 := by
      intro i hi
      obtain ⟨b, off, cs, rfl, hlt, hcl, hat, ht⟩ := slot_of (by omega) hlen hel i hi
      obtain ⟨c0, c1, rfl⟩ := two hcl
      obtain ⟨xs, n', hn, hx, _, hxl, hf⟩ := DataW.trod_struct Try.underlying43 ht
      obtain ⟨y0, y1, rfl⟩ := two hxl
      have q0 : DataW.trod enc Try.prog W 0 (fun _ => true) true n' 3 (([c0, c1].drop 0).take (Try.prog.cellsOf 3)) = some y0 := hf 0 _ rfl
      have q1 : DataW.trod enc Try.prog W 0 (fun _ => true) true n' 3 (([c0, c1].drop 1).take (Try.prog.cellsOf 3)) = some y1 := hf 1 _ rfl
      rw [show Try.prog.cellsOf 3 = 1 from by kernel_rfl] at q0 q1
      simp only [List.drop_succ_cons, List.drop_zero, List.take_succ_cons, List.take_zero] at q0 q1
      obtain ⟨k0, e0, _, v0⟩ := DataW.trod_int Try.underlying3 q0
      obtain ⟨k1, e1, _, v1⟩ := DataW.trod_int Try.underlying3 q1
      simp only [List.cons.injEq, and_true] at e0 e1
      subst e0 e1
      exact ⟨(k0, k1), b, off, rfl, hlt, by simpa using hat 0 (by omega), by simpa using hat 1 (by omega), I64.mk v0, I64.mk v1⟩
    obtain ⟨L, hLl, hL⟩ := pick_of len key
    refine ⟨L, hLl.symm, by omega, fun k hk => ?_⟩
    obtain ⟨f, hf, b, off, rfl, hlt, a0, a1, g0, g1⟩ := hL k (by omega)
    obtain rfl : L[k] = f := by rw [List.getElem?_eq_getElem hk] at hf; exact Option.some.inj hf
    exact ⟨b, off, rfl, hlt, a0, a1, g0, g1⟩
end Go.Proofs.Ytjeknocbndgikaa
