/- How tokens that come in are opened (lexer), with their bulk. -/
import Derived.Test.YtoliiiijbdoliaaDoorLexX
import Derived.Test.YtoliiiijbdoliaaDoorRows
import Derived.ProofKit
import Derived.OpenShut
import Derived.Lib.SmallJoins
import Derived.SizedLaws
import Derived.Deep.Strs
namespace Go.Proofs.YtoliiiijbdoliaaDoor
open Go.ChangeShapes Go.WideShapes Go.ChangeAt Go.RowKit Go.Deep Go.Joins

theorem pick_of {α : Type} {p : Nat → α → Prop} : ∀ (n : Nat), (∀ i, i < n → ∃ f, p i f) → ∃ L : List α, L.length = n ∧ ∀ i, i < n → ∃ f, L[i]? = some f ∧ p i f
  | 0, _ => ⟨[], rfl, fun i h => by omega⟩
  | n + 1, h => by
    obtain ⟨L, hl, hL⟩ := pick_of n (fun i hi => h i (by omega))
    obtain ⟨f, hf⟩ := h n (by omega)
    refine ⟨L ++ [f], by simp [hl], fun i hi => ?_⟩
    by_cases e : i = n
    · subst e
      exact ⟨f, by rw [← hl]; simp, hf⟩
    · obtain ⟨g, hg, hp⟩ := hL i (by omega)
      exact ⟨g, by rw [List.getElem?_append_left (by omega)]; exact hg, hp⟩
theorem wAll_mem {H : Type} {P : Program} {e : TypeId} {d : DataW H} : ∀ {ds : List (DataW H)}, d ∈ ds → (DataW.weightsAll P e ds).all (· ≤ reachBytes) = true → (d.weights P e).all (· ≤ reachBytes) = true
  | d0 :: r, hd, h => by
    simp only [DataW.weightsAll, List.all_append, Bool.and_eq_true] at h
    rcases List.mem_cons.1 hd with rfl | hd
    · exact h.1
    · exact wAll_mem hd h.2
theorem wSlice {H : Type} {P : Program} {t e : TypeId} {elems spare : List (DataW H)} (hu : P.underlying t = some (.slice e)) (h : ((DataW.slice elems spare).weights P t).all (· ≤ reachBytes) = true) :
    (elems.length + spare.length) * P.bytesOf e ≤ reachBytes ∧ ∀ d, d ∈ elems → (d.weights P e).all (· ≤ reachBytes) = true := by
  simp only [DataW.weights, hu, List.all_cons, List.all_append, Bool.and_eq_true, decide_eq_true_eq] at h
  exact ⟨h.1, fun d hd => wAll_mem hd h.2.1⟩

theorem slot_of {H : Type} {enc : TypeId × Value → H} {P : Program} {W : World} {n c : Nat} {e : TypeId} {ad : Addr} {elems : List (DataW H × List MemPlace)} {len : Nat} (hc0 : 0 < c) (hlen : elems.length = len)
    (hel : ∀ i, i < len → (W.cells? 0 (ad.add (i * c)) c).bind (DataW.trod enc P W 0 (fun _ => true) true n e) = elems[i]?) (i : Nat) (hi : i < len) :
    ∃ b off cs, ad = ⟨b, off, none⟩ ∧ b < W.heap.size ∧ cs.length = c ∧ (∀ j, j < c → W.cell? ⟨b, off + i * c + j, none⟩ = cs[j]?) ∧ DataW.trod enc P W 0 (fun _ => true) true n e cs = some (elems[i]'(by omega)) := by
  have h0 := hel 0 (by omega)
  have hex : elems[0]? = some elems[0] := List.getElem?_eq_getElem (by omega)
  rw [hex] at h0
  obtain ⟨cs0, hc, _⟩ := Option.bind_eq_some_iff.1 h0
  obtain ⟨_, hcl, hat⟩ := World.cells?_some hc
  have a0 := hat 0 (by omega)
  obtain ⟨c00, hc00⟩ : ∃ x, cs0[0]? = some x := ⟨cs0[0]'(by omega), List.getElem?_eq_getElem (by omega)⟩
  rw [hc00] at a0
  have a0 : W.cell? ad = some c00 := by simpa [Addr.add] using a0
  have hsp := World.cell?_spot a0
  have hlt := World.block_lt_of_cell? W _ a0
  obtain ⟨b, off, spot⟩ := ad
  simp only at hsp hlt
  subst hsp
  have h1 := hel i hi
  have hex : elems[i]? = some elems[i] := List.getElem?_eq_getElem (by omega)
  rw [hex] at h1
  obtain ⟨cs, hc, ht⟩ := Option.bind_eq_some_iff.1 h1
  obtain ⟨_, hcl, hat⟩ := World.cells?_some hc
  refine ⟨b, off, cs, rfl, hlt, hcl, fun j hj => ?_, ht⟩
  have h := hat j hj
  rw [add_off, add_off] at h
  exact h

theorem one_bulk {H : Type} (d : DataW H) : 1 ≤ Rows.uptoBulk d := by
  cases d with
  | lit l => cases l <;> simp [Rows.uptoBulk]
  | nil => simp [Rows.uptoBulk]
  | ptr d => simp [Rows.uptoBulk]
  | slice elems spare => simp [Rows.uptoBulk]
  | agg parts => simp [Rows.uptoBulk]
  | iface t d => simp [Rows.uptoBulk]
  | map entries => simp [Rows.uptoBulk]
  | held h => simp [Rows.uptoBulk]
theorem sum_bulk {α H : Type} (g : α → Nat) (c : Nat) : ∀ (L : List α) (E : List (DataW H)), L.length = E.length →
    (∀ (i : Nat) f d, L[i]? = some f → E[i]? = some d → g f ≤ c * Rows.uptoBulk d) → (L.map g).sum ≤ c * Rows.uptoBulkAll E
  | [], _, _, _ => by simp
  | f :: L, [], h, _ => by simp at h
  | f :: L, d :: E, h, hp => by
    have h1 := hp 0 f d rfl rfl
    have h2 := sum_bulk g c L E (by simpa using h) (fun i f d a b => hp (i + 1) f d (by simpa using a) (by simpa using b))
    simp only [List.map_cons, List.sum_cons, Rows.uptoBulkAll, Nat.mul_add]
    omega
theorem srcM_len (t : Tm) : (srcM t).length ≤ 4 * t.text.length + 2 := by
  unfold srcM
  split
  · exact quo_len4 _
  · split
    · simp
    · omega
theorem joinM_len : ∀ (l : List Tm) (p : Bool), (joinM p l).length ≤ (l.map (fun t => 4 * t.text.length + 3)).sum
  | [], _ => by simp [joinM]
  | t :: r, p => by
    have ih := joinM_len r (t.kind != 5)
    have h1 := srcM_len t
    have h3 : (sepL p t.kind).length ≤ 1 := by
      unfold sepL
      split <;> simp
    show (sepL p t.kind ++ (srcM t ++ joinM (t.kind != 5) r)).length ≤ _
    rw [List.length_append, List.length_append, List.map_cons, List.sum_cons]
    omega
theorem three {α : Type} {l : List α} (h : l.length = 3) : ∃ a b c, l = [a, b, c] := by
  match l, h with
  | [a, b, c], _ => exact ⟨a, b, c, rfl⟩
set_option maxRecDepth 100000 in
set_option maxHeartbeats 1000000 in
theorem open_tokens {H : Type} {enc : TypeId × Value → H} {W : World} (fuel : Nat) (a : Option Addr) (len cap : Nat) (x : DataW H × List MemPlace)
    (h : DataW.trod enc Tryd.prog W 0 (fun _ => true) true fuel 22 [.slice a len cap] = some x) (hw : (x.1.weights Tryd.prog 22).all (· ≤ reachBytes) = true) :
    ∃ L : List Tm, len = L.length ∧ L.length * 32 ≤ 140737488351232 ∧ (∀ j (h : j < L.length), L[j].text.length ≤ 140737488351232) ∧ ReadsK W a L ∧ (joinM false L).length ≤ 4 * Rows.uptoBulk x.1 := by
  rcases DataW.trod_slice Tryd.underlying22 h with ⟨hcs, _⟩ | ⟨ad, len', cap', elems, rest, n, hfu, hcs, rfl, _, hl, hm, hlen, hel, _, _⟩
  · simp at hcs
    obtain ⟨rfl, rfl, rfl⟩ := hcs
    exact ⟨[], rfl, by simp, fun j h => by simp at h, fun k hk => by simp at hk, by simp [joinM]⟩
  · simp at hcs
    obtain ⟨rfl, rfl, rfl⟩ := hcs
    obtain ⟨hb, hwe⟩ := wSlice Tryd.underlying22 hw
    rw [show Tryd.prog.bytesOf 33 = 32 from by kernel_rfl, List.length_map] at hb
    unfold reachBytes at hb
    rw [show Tryd.prog.cellsOf 33 = 3 from by kernel_rfl] at hel
    have key : ∀ i, i < len → ∃ f : Tm, f.text.length ≤ 140737488351232 ∧ (∀ y, elems[i]? = some y → 4 * f.text.length + 3 ≤ 4 * Rows.uptoBulk y.1) ∧ ∃ b off, ad = ⟨b, off, none⟩ ∧ b < W.heap.size ∧
        W.cell? ⟨b, off + i * 3, none⟩ = some (.int .i64 f.kind) ∧ W.cell? ⟨b, off + i * 3 + 1, none⟩ = some (.string ⟨f.text.toArray⟩) ∧ W.cell? ⟨b, off + i * 3 + 2, none⟩ = some (.int .i64 f.pos) := by
      intro i hi
      obtain ⟨b, off, cs, rfl, hlt, hcl, hat, ht⟩ := slot_of (by omega) hlen hel i hi
      have hwd := hwe elems[i].1 (List.mem_map.2 ⟨_, List.getElem_mem _, rfl⟩)
      obtain ⟨c0, c1, c2, rfl⟩ := three hcl
      obtain ⟨xs, n', hn, hx, _, hxl, hf⟩ := DataW.trod_struct Tryd.underlying33 ht
      obtain ⟨y0, y1, y2, rfl⟩ := three hxl
      have q0 : DataW.trod enc Tryd.prog W 0 (fun _ => true) true n' 3 (([c0, c1, c2].drop 0).take (Tryd.prog.cellsOf 3)) = some y0 := hf 0 _ rfl
      have q1 : DataW.trod enc Tryd.prog W 0 (fun _ => true) true n' 9 (([c0, c1, c2].drop 1).take (Tryd.prog.cellsOf 9)) = some y1 := hf 1 _ rfl
      have q2 : DataW.trod enc Tryd.prog W 0 (fun _ => true) true n' 3 (([c0, c1, c2].drop 2).take (Tryd.prog.cellsOf 3)) = some y2 := hf 2 _ rfl
      rw [show Tryd.prog.cellsOf 3 = 1 from by kernel_rfl] at q0 q2
      rw [show Tryd.prog.cellsOf 9 = 1 from by kernel_rfl] at q1
      simp only [List.drop_succ_cons, List.drop_zero, List.take_succ_cons, List.take_zero] at q0 q1 q2
      rw [hx] at hwd
      have hwd' : ((DataW.agg [y0.1, y1.1, y2.1]).weights Tryd.prog 33).all (· ≤ reachBytes) = true := hwd
      simp only [DataW.weights, Tryd.underlying33, List.map_cons, List.map_nil, DataW.weightsEach, List.all_append, List.append_nil, Bool.and_eq_true] at hwd'
      obtain ⟨-, w1, -⟩ := hwd'
      obtain ⟨k, e0, z0, _⟩ := DataW.trod_int Tryd.underlying3 q0
      obtain ⟨s, e1, z1, _⟩ := DataW.trod_string Tryd.underlying9 q1
      obtain ⟨p, e2, z2, _⟩ := DataW.trod_int Tryd.underlying3 q2
      simp only [List.cons.injEq, and_true] at e0 e1 e2
      subst e0 e1 e2
      rw [z1] at w1
      simp only [DataW.weights, List.all_cons, List.all_nil, Bool.and_true, decide_eq_true_eq] at w1
      unfold reachBytes at w1
      have hsl : s.data.toList.length = s.size := by rw [Array.length_toList]; rfl
      refine ⟨⟨k, s.data.toList, p⟩, by show s.data.toList.length ≤ _; omega, fun y hy => ?_, b, off, rfl, hlt, hat 0 (by omega), hat 1 (by omega), hat 2 (by omega)⟩
      have hex : elems[i]? = some (elems[i]'(by omega)) := List.getElem?_eq_getElem (by omega)
      rw [hex] at hy
      obtain rfl := Option.some.inj hy
      rw [hx]
      show 4 * s.data.toList.length + 3 ≤ _
      have o0 := one_bulk y0.1
      have o2 := one_bulk y2.1
      simp only [List.map_cons, List.map_nil, Rows.uptoBulk, Rows.uptoBulkAll, z1]
      omega
    obtain ⟨L, hLl, hL⟩ := pick_of len key
    refine ⟨L, hLl.symm, by omega, fun j hj => ?_, fun k hk => ?_, ?_⟩
    · obtain ⟨f, hf, h1, _⟩ := hL j (by omega)
      rw [(List.getElem?_eq_some_iff.1 hf).2]
      exact h1
    · obtain ⟨f, hf, _, _, b, off, h1, h2, h3, h4, h5⟩ := hL k (by omega)
      rw [(List.getElem?_eq_some_iff.1 hf).2]
      exact ⟨b, off, by rw [h1], h2, h3, h4, h5⟩
    · have hb := sum_bulk (fun t : Tm => 4 * t.text.length + 3) 4 L (elems.map (·.1)) (by simp; omega) (fun i f d hf hd => by
        obtain ⟨f', hf', _, h12, _⟩ := hL i (by have := (List.getElem?_eq_some_iff.1 hf).1; omega)
        rw [hf] at hf'
        obtain rfl := Option.some.inj hf'
        rw [List.getElem?_map] at hd
        obtain ⟨y, hy, rfl⟩ := Option.map_eq_some_iff.1 hd
        exact h12 y hy)
      have hj := joinM_len L false
      simp only [Rows.uptoBulk]
      omega
end Go.Proofs.YtoliiiijbdoliaaDoor
