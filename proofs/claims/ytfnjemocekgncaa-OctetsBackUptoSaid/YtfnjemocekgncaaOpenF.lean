/- How a slice of fields that comes in is opened: the trees that it reads as, and how long their encoding is beside the bulk of what came in. -/
import Derived.Test.YtfnjemocekgncaaFldG
import Derived.ProofKit
import Derived.OpenShut
import Derived.Lib.SmallJoins
namespace Go.Proofs.Ytfnjemocekgncaa
open Go.ChangeShapes Go.WideShapes Go.ChangeAt Go.RowKit Go.Deep

theorem pick_list {p : Nat → Fd → Prop} : ∀ (n : Nat), (∀ i, i < n → ∃ f, p i f) → ∃ L : List Fd, L.length = n ∧ ∀ i, i < n → ∃ f, L[i]? = some f ∧ p i f
  | 0, _ => ⟨[], rfl, fun i h => by omega⟩
  | n + 1, h => by
    obtain ⟨L, hl, hL⟩ := pick_list n (fun i hi => h i (by omega))
    obtain ⟨f, hf⟩ := h n (by omega)
    refine ⟨L ++ [f], by simp [hl], fun i hi => ?_⟩
    by_cases e : i = n
    · subst e
      exact ⟨f, by rw [← hl]; simp, hf⟩
    · obtain ⟨g, hg, hp⟩ := hL i (by omega)
      exact ⟨g, by rw [List.getElem?_append_left (by omega)]; exact hg, hp⟩

theorem flat_bulk {H : Type} (g : Fd → List UInt8) (c : Nat) : ∀ (L : List Fd) (E : List (DataW H)), L.length = E.length →
    (∀ (i : Nat) f d, L[i]? = some f → E[i]? = some d → (g f).length ≤ c * Rows.uptoBulk d) → (L.flatMap g).length ≤ c * Rows.uptoBulkAll E
  | [], _, _, _ => by simp
  | f :: L, [], h, _ => by simp at h
  | f :: L, d :: E, h, hp => by
    have h1 := hp 0 f d rfl rfl
    have h2 := flat_bulk g c L E (by simpa using h) (fun i f d a b => hp (i + 1) f d (by simpa using a) (by simpa using b))
    simp only [List.flatMap_cons, List.length_append, Rows.uptoBulkAll, Nat.mul_add]
    omega

theorem add_off {b off : Nat} (k : Nat) : (⟨b, off, none⟩ : Addr).add k = ⟨b, off + k, none⟩ := by
  unfold Addr.add
  split
  · rename_i h; subst h; rfl
  · rfl

theorem encF_len (m : Nat) (k i : Int) (s : ByteArray) (l : List Fd) (hi : -9223372036854775808 ≤ i ∧ i ≤ 9223372036854775807) (hs : s.size ≤ maxLen) (hl : l.length ≤ maxLen)
    (B : Nat) (hb : (l.flatMap (encF m)).length ≤ 22 * B) : (encF (m + 1) (.mk k i s l)).length ≤ 22 * (s.size + B + 2) := by
  unfold maxLen at hs hl
  have h1 := Lib.uvarint_length64 (Lib.zigzag_lt hi.1 hi.2)
  have h2 := Lib.uvarint_length64 (x := s.size) (by omega)
  have h3 := Lib.uvarint_length64 (x := l.length) (by omega)
  have e : s.data.toList.length = s.size := by rw [Array.length_toList]; rfl
  unfold encF
  rw [List.length_cons]
  by_cases k0 : k = 0
  · rw [if_pos k0]; omega
  · rw [if_neg k0]
    by_cases k1 : k = 1
    · rw [if_pos k1]; unfold encS; rw [List.length_append, e]; omega
    · rw [if_neg k1, List.length_append]; omega

theorem wf64 {k : Int} (h : (Lit.int .i64 k).wf = true) : -9223372036854775808 ≤ k ∧ k ≤ 9223372036854775807 := by
  simpa [Lit.wf, IntKind.signed, IntKind.min, IntKind.max, IntKind.bits] using h

set_option maxRecDepth 100000 in
theorem open_fields {H : Type} {enc : TypeId × Value → H} {W : World} : ∀ (fuel : Nat) (a : Option Addr) (len cap : Nat) (x : DataW H × List MemPlace),
    DataW.trod enc Try.prog W 0 (fun _ => true) true fuel 45 [.slice a len cap] = some x →
    ∃ L : List Fd, len = L.length ∧ L.length ≤ maxLen ∧ (∀ m, fuel ≤ m → ReadsF m W a L) ∧ ∀ m, (L.flatMap (encF m)).length ≤ 22 * Rows.uptoBulk x.1 := by
  intro fuel
  induction fuel using Nat.strongRecOn with
  | ind fuel ih =>
    intro a len cap x h
    rcases DataW.trod_slice Try.underlying45 h with ⟨hcs, _⟩ | ⟨ad, len', cap', elems, rest, n, hfu, hcs, rfl, _, hl, hm, hlen, hel, _, _⟩
    · simp at hcs
      obtain ⟨rfl, rfl, rfl⟩ := hcs
      refine ⟨[], rfl, by simp, fun m hm => ?_, fun m => by simp⟩
      cases m with
      | zero => exact rfl
      | succ m => intro j hj; simp at hj
    · simp at hcs
      obtain ⟨rfl, rfl, rfl⟩ := hcs
      subst hfu
      have hspot : 0 < len → ∃ b off, ad = ⟨b, off, none⟩ ∧ b < W.heap.size := by
        intro h0
        have h1 := hel 0 h0
        have hex : elems[0]? = some elems[0] := List.getElem?_eq_getElem (by omega)
        rw [hex, show Try.prog.cellsOf 48 = 4 from by kernel_rfl] at h1
        obtain ⟨cs, hc, ht⟩ := Option.bind_eq_some_iff.1 h1
        obtain ⟨_, hcl, hat⟩ := World.cells?_some hc
        have a0 := hat 0 (by omega)
        match cs, hcl with
        | c0 :: _, _ =>
          have a0 : W.cell? ad = some c0 := by simpa [Addr.add] using a0
          have hsp := World.cell?_spot a0
          have hlt := World.block_lt_of_cell? W _ a0
          obtain ⟨b, off, spot⟩ := ad
          simp only at hsp hlt
          subst hsp
          exact ⟨b, off, rfl, hlt⟩
      have key : ∀ i, i < len → ∃ f : Fd, ∃ b off k n' s av c l', f = .mk k n' s l' ∧ ad = ⟨b, off, none⟩ ∧ b < W.heap.size ∧
          W.cell? ⟨b, off + i * 4, none⟩ = some (.int .i64 k) ∧ W.cell? ⟨b, off + i * 4 + 1, none⟩ = some (.int .i64 n') ∧
          W.cell? ⟨b, off + i * 4 + 2, none⟩ = some (.string s) ∧ W.cell? ⟨b, off + i * 4 + 3, none⟩ = some (.slice av (List.length l') c) ∧
          -9223372036854775808 ≤ k ∧ k ≤ 9223372036854775807 ∧ -9223372036854775808 ≤ n' ∧ n' ≤ 9223372036854775807 ∧ l'.length ≤ maxLen ∧ (∀ m, n - 1 ≤ m → ReadsF m W av l') ∧
          ∀ y, elems[i]? = some y → ∀ m, (encF m f).length ≤ 22 * Rows.uptoBulk y.1 := by
        intro i hi
        have h1 := hel i hi
        have hex : elems[i]? = some elems[i] := List.getElem?_eq_getElem (by omega)
        rw [hex, show Try.prog.cellsOf 48 = 4 from by kernel_rfl] at h1
        obtain ⟨cs, hc, ht⟩ := Option.bind_eq_some_iff.1 h1
        obtain ⟨_, hcl, hat⟩ := World.cells?_some hc
        obtain ⟨xs, n', hn, hx, _, hxl, hf⟩ := DataW.trod_struct Try.underlying48 ht
        match xs, hxl with
        | [y0, y1, y2, y3], _ =>
          match cs, hcl with
          | [c0, c1, c2, c3], _ =>
            have q0 : DataW.trod enc Try.prog W 0 (fun _ => true) true n' 3 (([c0, c1, c2, c3].drop 0).take (Try.prog.cellsOf 3)) = some y0 := hf 0 _ rfl
            have q1 : DataW.trod enc Try.prog W 0 (fun _ => true) true n' 3 (([c0, c1, c2, c3].drop 1).take (Try.prog.cellsOf 3)) = some y1 := hf 1 _ rfl
            have q2 : DataW.trod enc Try.prog W 0 (fun _ => true) true n' 9 (([c0, c1, c2, c3].drop 2).take (Try.prog.cellsOf 9)) = some y2 := hf 2 _ rfl
            have q3 : DataW.trod enc Try.prog W 0 (fun _ => true) true n' 45 (([c0, c1, c2, c3].drop 3).take (Try.prog.cellsOf 45)) = some y3 := hf 3 _ rfl
            rw [show Try.prog.cellsOf 3 = 1 from by kernel_rfl] at q0 q1
            rw [show Try.prog.cellsOf 9 = 1 from by kernel_rfl] at q2
            rw [show Try.prog.cellsOf 45 = 1 from by kernel_rfl] at q3
            simp only [List.drop_succ_cons, List.drop_zero, List.take_succ_cons, List.take_zero] at q0 q1 q2 q3
            obtain ⟨k, e0, z0, w0⟩ := DataW.trod_int Try.underlying3 q0
            obtain ⟨num, e1, z1, w1⟩ := DataW.trod_int Try.underlying3 q1
            obtain ⟨s, e2, z2, w2⟩ := DataW.trod_string Try.underlying9 q2
            simp only [List.cons.injEq, and_true] at e0 e1 e2
            subst e0 e1 e2
            obtain ⟨av, ln, c, rfl⟩ : ∃ av ln c, c3 = .slice av ln c := by
              rcases DataW.trod_slice Try.underlying45 q3 with ⟨hcs, _⟩ | ⟨ad, len', cap', _, _, _, _, hcs, _⟩
              · simp at hcs; exact ⟨_, _, _, hcs⟩
              · simp at hcs; exact ⟨_, _, _, hcs⟩
            obtain ⟨l', rfl, hl', hrl, hbl⟩ := ih n' (by omega) av ln c y3 q3
            have a0 := hat 0 (by omega)
            have a1 := hat 1 (by omega)
            have a2 := hat 2 (by omega)
            have a3 := hat 3 (by omega)
            simp only [List.getElem?_cons_zero, List.getElem?_cons_succ] at a0 a1 a2 a3
            obtain ⟨b, off, rfl, hlt⟩ := hspot (by omega)
            rw [add_off, add_off] at a0 a1 a2 a3
            have v0 := wf64 w0
            have v1 := wf64 w1
            refine ⟨.mk k num s l', b, off, k, num, s, av, c, l', rfl, rfl, hlt, a0, a1, a2, a3, v0.1, v0.2, v1.1, v1.2, hl', fun m hm => hrl m (by omega), ?_⟩
            intro y hy m
            rw [hex] at hy
            obtain rfl := Option.some.inj hy
            rw [hx]
            simp only [List.map_cons, List.map_nil, Rows.uptoBulk, Rows.uptoBulkAll]
            cases m with
            | zero => simp [encF]
            | succ m =>
              have h9 := encF_len m k num s l' v1 w2 hl' (Rows.uptoBulk y3.1) (hbl m)
              have e : s.data.toList.length = s.size := by rw [Array.length_toList]; rfl
              rw [z0, z1, z2]
              simp only [Rows.uptoBulk, e]
              omega
      obtain ⟨L, hLl, hL⟩ := pick_list len (p := fun i f => ∃ b off k n' s av c l', f = .mk k n' s l' ∧ ad = ⟨b, off, none⟩ ∧ b < W.heap.size ∧
          W.cell? ⟨b, off + i * 4, none⟩ = some (.int .i64 k) ∧ W.cell? ⟨b, off + i * 4 + 1, none⟩ = some (.int .i64 n') ∧
          W.cell? ⟨b, off + i * 4 + 2, none⟩ = some (.string s) ∧ W.cell? ⟨b, off + i * 4 + 3, none⟩ = some (.slice av (List.length l') c) ∧
          -9223372036854775808 ≤ k ∧ k ≤ 9223372036854775807 ∧ -9223372036854775808 ≤ n' ∧ n' ≤ 9223372036854775807 ∧ l'.length ≤ maxLen ∧ (∀ m, n - 1 ≤ m → ReadsF m W av l') ∧
          ∀ y, elems[i]? = some y → ∀ m, (encF m f).length ≤ 22 * Rows.uptoBulk y.1) key
      refine ⟨L, hLl.symm, by omega, fun m hm => ?_, fun m => ?_⟩
      · cases m with
        | zero => omega
        | succ m =>
          intro j hj
          obtain ⟨f, hf, b, off, k, n', s, av, c, l', rfl, rfl, h1, h2, h3, h4, h5, h6, h7, h8, h9, h10, h11, _⟩ := hL j (by omega)
          exact ⟨b, off, k, n', s, av, c, l', hf, rfl, h1, h2, h3, h4, h5, h6, h7, h8, h9, by unfold maxLen at h10; omega, h11 m (by omega)⟩
      · have hb := flat_bulk (encF m) 22 L (elems.map (·.1)) (by simp; omega) (fun i f d hf hd => by
          obtain ⟨f', hf', _, _, _, _, _, _, _, _, _, _, _, _, _, _, _, _, _, _, _, _, _, h12⟩ := hL i (by have := (List.getElem?_eq_some_iff.1 hf).1; omega)
          rw [hf] at hf'
          obtain rfl := Option.some.inj hf'
          rw [List.getElem?_map] at hd
          obtain ⟨y, hy, rfl⟩ := Option.map_eq_some_iff.1 hd
          exact h12 y hy m)
        simp only [Rows.uptoBulk]
        omega

theorem encV_le (m : Nat) (f : Fd) : (encV m f).length ≤ (encF m f).length := by
  unfold encV
  by_cases h : vErr 128 f ≠ 0
  · rw [if_pos h]
    cases m with
    | zero => simp [encF]
    | succ m =>
      obtain ⟨k, i, s, l⟩ := f
      have h1 := Lib.uvarint_pos (Lib.zigzag i)
      have h2 := Lib.uvarint_pos s.size
      have h3 := Lib.uvarint_pos l.length
      have h4 : (encF (m + 1) (.mk 0 0 ⟨#[]⟩ [])).length = 2 := by simp [encF, Lib.zigzag, Lib.uvarint_small]
      rw [h4]
      unfold encF
      rw [List.length_cons]
      by_cases k0 : k = 0
      · rw [if_pos k0]; omega
      · rw [if_neg k0]
        by_cases k1 : k = 1
        · rw [if_pos k1]; unfold encS; rw [List.length_append]; omega
        · rw [if_neg k1, List.length_append]; omega
  · rw [if_neg h]; omega
theorem flatV_le (m : Nat) : ∀ L : List Fd, (L.flatMap (encV m)).length ≤ (L.flatMap (encF m)).length
  | [] => by simp
  | f :: L => by
    have h1 := encV_le m f
    have h2 := flatV_le m L
    simp only [List.flatMap_cons, List.length_append]
    omega
theorem encR_len (m : Nat) (L : List Fd) (hb : (L.flatMap (encF m)).length ≤ 22 * 1048577) (hl : L.length ≤ 9223372036854775807) : (encR m L).length + 10 ≤ 140737488355328 := by
  have h1 := flatV_le m L
  have h2 := Lib.uvarint_length64 (x := L.length) (by omega)
  unfold encR
  rw [List.length_append]
  omega
end Go.Proofs.Ytfnjemocekgncaa
