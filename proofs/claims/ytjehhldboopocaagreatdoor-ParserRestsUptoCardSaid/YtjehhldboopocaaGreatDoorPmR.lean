/- Contracts of functions of the program, and what they are made of (parser; PmR). -/
import Derived.Test.YtjehhldboopocaaGreatDoorPk40
import Derived.Test.YtjehhldboopocaaGreatDoorPk41
import Derived.Test.YtjehhldboopocaaGreatDoorRows
import Derived.WalkKit
import Derived.WalkSpells
import Derived.WalkLawsBesides
import Derived.OwnWalk
import Derived.Lib.VarintMem
import Derived.Lib.Hide
import Derived.Deep.DeepFit
import Derived.Outline
import Derived.ProofKit
import Derived.OpenShut
import Derived.WalkSmall
import Derived.Lib.SmallJoins
import Derived.SizedLaws
import Derived.Deep.Strs
namespace Go.Proofs.YtjehhldboopocaaGreatDoor.Lx
open Go.RowKit Go.Lib
theorem add_off {b off : Nat} (k : Nat) : (⟨b, off, none⟩ : Addr).add k = ⟨b, off + k, none⟩ := by
  unfold Addr.add
  split
  · rename_i h; subst h; rfl
  · rfl

end Go.Proofs.YtjehhldboopocaaGreatDoor.Lx
namespace Go.Proofs.YtjehhldboopocaaGreatDoor.Lx
open Go.RowKit Go.Lib
set_option linter.unusedVariables false
theorem flat3_len : ∀ L : List Tm, (L.flatMap tkC).length = L.length * 3
  | [] => rfl
  | t :: L => by
    rw [List.flatMap_cons, List.length_append, flat3_len L, List.length_cons]
    simp [tkC]
    omega
end Go.Proofs.YtjehhldboopocaaGreatDoor.Lx
namespace Go.Proofs.YtjehhldboopocaaGreatDoor.Lx
open Go.RowKit Go.Lib
set_option linter.unusedVariables false
theorem tsOf_app (a b : List Tm) : tsOf (a ++ b) = tsOf a ++ tsOf b := by
  unfold tsOf seen
  simp
theorem tsOf_take (a : List Tm) (n : Nat) : tsOf (a.take n) = (tsOf a).take n := by
  unfold tsOf seen
  simp [List.map_take]
/-- What is read of tokens has some, and is read of them ahead of an ended line. -/
theorem rests {toks rest : List Tm} {x : Xp} {n : Nat} (h : parseP toks = .ok x n) : 1 ≤ n ∧ n ≤ toks.length ∧ parseP (toks.take n ++ (⟨5, [], 0⟩ :: rest)) = .ok x n := by
  have hn : n ≤ toks.length := by
    have := parseP_at toks
    rw [h] at this
    exact this
  obtain ⟨F, hF⟩ : ∃ F, pG litsP (tsOf toks) F .cond 0 = .ok x n := ⟨_, h⟩
  have hnl : tsOf [(⟨5, [], 0⟩ : Tm)] = [(5, [])] := by kernel_rfl
  have hus : tsOf (toks.take n ++ (⟨5, [], 0⟩ :: rest)) = (tsOf toks).take n ++ ((5, []) :: tsOf rest) := by
    rw [tsOf_app, tsOf_take, show (⟨5, [], 0⟩ : Tm) :: rest = [⟨5, [], 0⟩] ++ rest from rfl, tsOf_app, hnl]
    rfl
  have hl : ((tsOf toks).take n).length = n := by rw [List.length_take, tsOf_len]; omega
  obtain ⟨ts, hts⟩ : ∃ ts, ts = tsOf toks := ⟨_, rfl⟩
  rw [← hts] at hF hus hl
  have hin : ∀ i, i < n → (ts.take n ++ ((5, []) :: tsOf rest) : Ts)[0 + i]? = ts[i]? := fun i hi => by
    rw [Nat.zero_add, List.getElem?_append_left (by omega), List.getElem?_take]
    rw [if_pos hi]
  have hst : ∀ t, (ts.take n ++ ((5, []) :: tsOf rest) : Ts)[0 + n]? = some t → Stops t := fun t e => by
    rw [Nat.zero_add, List.getElem?_append_right (by omega), hl, Nat.sub_self] at e
    injection e with e
    subst e
    intro h4
    exact absurd h4 (by decide)
  have hx := pG_ext litsP hin hst F .cond 0 trivial x n hF
  have h1 : 1 ≤ n := hx.1
  have h2 := hx.2 (Nat.le_refl _)
  refine ⟨h1, hn, parseP_ok (F := F) ?_⟩
  show pG litsP (tsOf _) F .cond 0 = _
  rw [hus]
  rw [Nat.zero_add, Nat.zero_add] at h2
  exact h2
end Go.Proofs.YtjehhldboopocaaGreatDoor.Lx
namespace Go.Proofs.YtjehhldboopocaaGreatDoor.Lx
open Go.ChangeShapes Go.WideShapes Go.ChangeAt Go.RowKit Go.Deep Go.Joins
theorem pick_of {α : Type} {p : Nat → α → Prop} : ∀ (n : Nat), (∀ i, i < n → ∃ f, p i f) → ∃ L : List α, L.length = n ∧ ∀ i, i < n → ∃ f, L[i]? = some f ∧ p i f
  | 0, _ => ⟨[], rfl, fun i h => by omega⟩
  | n + 1, h => by
    obtain ⟨L, hl, hL⟩ := pick_of n (fun i hi => h i (by omega))
    obtain ⟨f, hf⟩ := h n (by omega)
    refine ⟨L ++ [f], by simp [hl], fun i hi => ?_⟩
    by_cases e : i = n
    · subst e
      exact ⟨f, by rw [← hl]; simp, hf⟩
    · obtain ⟨g, hg, hp⟩ := hL i (by omega)
      exact ⟨g, by rw [List.getElem?_append_left (by omega)]; exact hg, hp⟩
theorem wAll_mem {H : Type} {P : Program} {e : TypeId} {d : DataW H} : ∀ {ds : List (DataW H)}, d ∈ ds → (DataW.weightsAll P e ds).all (· ≤ reachBytes) = true → (d.weights P e).all (· ≤ reachBytes) = true
  | d0 :: r, hd, h => by
    simp only [DataW.weightsAll, List.all_append, Bool.and_eq_true] at h
    rcases List.mem_cons.1 hd with rfl | hd
    · exact h.1
    · exact wAll_mem hd h.2
theorem wSlice {H : Type} {P : Program} {t e : TypeId} {elems spare : List (DataW H)} (hu : P.underlying t = some (.slice e)) (h : ((DataW.slice elems spare).weights P t).all (· ≤ reachBytes) = true) :
    (elems.length + spare.length) * P.bytesOf e ≤ reachBytes ∧ ∀ d, d ∈ elems → (d.weights P e).all (· ≤ reachBytes) = true := by
  simp only [DataW.weights, hu, List.all_cons, List.all_append, Bool.and_eq_true, decide_eq_true_eq] at h
  exact ⟨h.1, fun d hd => wAll_mem hd h.2.1⟩

theorem slot_of {H : Type} {enc : TypeId × Value → H} {P : Program} {W : World} {n c : Nat} {e : TypeId} {ad : Addr} {elems : List (DataW H × List MemPlace)} {len : Nat} (hc0 : 0 < c) (hlen : elems.length = len)
    (hel : ∀ i, i < len → (W.cells? 0 (ad.add (i * c)) c).bind (DataW.trod enc P W 0 (fun _ => true) true n e) = elems[i]?) (i : Nat) (hi : i < len) :
    ∃ b off cs, ad = ⟨b, off, none⟩ ∧ b < W.heap.size ∧ cs.length = c ∧ (∀ j, j < c → W.cell? ⟨b, off + i * c + j, none⟩ = cs[j]?) ∧ DataW.trod enc P W 0 (fun _ => true) true n e cs = some (elems[i]'(by omega)) := by
  have h0 := hel 0 (by omega)
  have hex : elems[0]? = some elems[0] := List.getElem?_eq_getElem (by omega)
  rw [hex] at h0
  obtain ⟨cs0, hc, _⟩ := Option.bind_eq_some_iff.1 h0
  obtain ⟨_, hcl, hat⟩ := World.cells?_some hc
  have a0 := hat 0 (by omega)
  obtain ⟨c00, hc00⟩ : ∃ x, cs0[0]? = some x := ⟨cs0[0]'(by omega), List.getElem?_eq_getElem (by omega)⟩
  rw [hc00] at a0
  have a0 : W.cell? ad = some c00 := by simpa [Addr.add] using a0
  have hsp := World.cell?_spot a0
  have hlt := World.block_lt_of_cell? W _ a0
  obtain ⟨b, off, spot⟩ := ad
  simp only at hsp hlt
  subst hsp
  have h1 := hel i hi
  have hex : elems[i]? = some elems[i] := List.getElem?_eq_getElem (by omega)
  rw [hex] at h1
  obtain ⟨cs, hc, ht⟩ := Option.bind_eq_some_iff.1 h1
  obtain ⟨_, hcl, hat⟩ := World.cells?_some hc
  refine ⟨b, off, cs, rfl, hlt, hcl, fun j hj => ?_, ht⟩
  have h := hat j hj
  rw [add_off, add_off] at h
  exact h

theorem one_bulk {H : Type} (d : DataW H) : 1 ≤ Rows.uptoBulk d := by
  cases d with
  | lit l => cases l <;> simp [Rows.uptoBulk]
  | nil => simp [Rows.uptoBulk]
  | ptr d => simp [Rows.uptoBulk]
  | slice elems spare => simp [Rows.uptoBulk]
  | agg parts => simp [Rows.uptoBulk]
  | iface t d => simp [Rows.uptoBulk]
  | map entries => simp [Rows.uptoBulk]
  | held h => simp [Rows.uptoBulk]
theorem sum_bulk {α H : Type} (g : α → Nat) (c : Nat) : ∀ (L : List α) (E : List (DataW H)), L.length = E.length →
    (∀ (i : Nat) f d, L[i]? = some f → E[i]? = some d → g f ≤ c * Rows.uptoBulk d) → (L.map g).sum ≤ c * Rows.uptoBulkAll E
  | [], _, _, _ => by simp
  | f :: L, [], h, _ => by simp at h
  | f :: L, d :: E, h, hp => by
    have h1 := hp 0 f d rfl rfl
    have h2 := sum_bulk g c L E (by simpa using h) (fun i f d a b => hp (i + 1) f d (by simpa using a) (by simpa using b))
    simp only [List.map_cons, List.sum_cons, Rows.uptoBulkAll, Nat.mul_add]
    omega
theorem three {α : Type} {l : List α} (h : l.length = 3) : ∃ a b c, l = [a, b, c] := by
  match l, h with
  | [a, b, c], _ => exact ⟨a, b, c, rfl⟩
end Go.Proofs.YtjehhldboopocaaGreatDoor.Lx
namespace Go.Proofs.YtjehhldboopocaaGreatDoor.Lx
open Go.RowKit Go.Lib
set_option linter.unusedVariables false
set_option maxRecDepth 100000 in
set_option maxHeartbeats 1000000 in
theorem open_tokensS {H : Type} {enc : TypeId × Value → H} {W : World} (fuel : Nat) (a : Option Addr) (len cap : Nat) (x : DataW H × List MemPlace)
    (h : DataW.trod enc Tryz.prog W 0 (fun _ => true) true fuel 37 [.slice a len cap] = some x) (hw : (x.1.weights Tryz.prog 37).all (· ≤ reachBytes) = true) :
    ∃ L : List Tm, len = L.length ∧ L.length ≤ cap ∧ cap ≤ 9223372036854775807 ∧ ReadsK W a L ∧ (L.map fun t => 4 * t.text.length + 3).sum ≤ 4 * Rows.uptoBulk x.1 := by
  rcases DataW.trod_slice Tryz.underlying37 h with ⟨hcs, _⟩ | ⟨ad, len', cap', elems, rest, n, hfu, hcs, rfl, _, hl, hm, hlen, hel, _, _⟩
  · simp at hcs
    obtain ⟨rfl, rfl, rfl⟩ := hcs
    exact ⟨[], rfl, by simp, by simp, fun k hk => by simp at hk, by simp⟩
  · simp at hcs
    obtain ⟨rfl, rfl, rfl⟩ := hcs
    obtain ⟨hb, hwe⟩ := wSlice Tryz.underlying37 hw
    rw [show Tryz.prog.bytesOf 52 = 32 from by kernel_rfl, List.length_map] at hb
    unfold reachBytes at hb
    rw [show Tryz.prog.cellsOf 52 = 3 from by kernel_rfl] at hel
    have key : ∀ i, i < len → ∃ f : Tm, f.text.length ≤ 140737488351232 ∧ (∀ y, elems[i]? = some y → 4 * f.text.length + 3 ≤ 4 * Rows.uptoBulk y.1) ∧ ∃ b off, ad = ⟨b, off, none⟩ ∧ b < W.heap.size ∧
        W.cell? ⟨b, off + i * 3, none⟩ = some (.int .i64 f.kind) ∧ W.cell? ⟨b, off + i * 3 + 1, none⟩ = some (.string ⟨f.text.toArray⟩) ∧ W.cell? ⟨b, off + i * 3 + 2, none⟩ = some (.int .i64 f.pos) := by
      intro i hi
      obtain ⟨b, off, cs, rfl, hlt, hcl, hat, ht⟩ := slot_of (by omega) hlen hel i hi
      have hwd := hwe elems[i].1 (List.mem_map.2 ⟨_, List.getElem_mem _, rfl⟩)
      obtain ⟨c0, c1, c2, rfl⟩ := three hcl
      obtain ⟨xs, n', hn, hx, _, hxl, hf⟩ := DataW.trod_struct Tryz.underlying52 ht
      obtain ⟨y0, y1, y2, rfl⟩ := three hxl
      have q0 : DataW.trod enc Tryz.prog W 0 (fun _ => true) true n' 3 (([c0, c1, c2].drop 0).take (Tryz.prog.cellsOf 3)) = some y0 := hf 0 _ rfl
      have q1 : DataW.trod enc Tryz.prog W 0 (fun _ => true) true n' 9 (([c0, c1, c2].drop 1).take (Tryz.prog.cellsOf 9)) = some y1 := hf 1 _ rfl
      have q2 : DataW.trod enc Tryz.prog W 0 (fun _ => true) true n' 3 (([c0, c1, c2].drop 2).take (Tryz.prog.cellsOf 3)) = some y2 := hf 2 _ rfl
      rw [show Tryz.prog.cellsOf 3 = 1 from by kernel_rfl] at q0 q2
      rw [show Tryz.prog.cellsOf 9 = 1 from by kernel_rfl] at q1
      simp only [List.drop_succ_cons, List.drop_zero, List.take_succ_cons, List.take_zero] at q0 q1 q2
      rw [hx] at hwd
      have hwd' : ((DataW.agg [y0.1, y1.1, y2.1]).weights Tryz.prog 52).all (· ≤ reachBytes) = true := hwd
      simp only [DataW.weights, Tryz.underlying52, List.map_cons, List.map_nil, DataW.weightsEach, List.all_append, List.append_nil, Bool.and_eq_true] at hwd'
      obtain ⟨-, w1, -⟩ := hwd'
      obtain ⟨k, e0, z0, _⟩ := DataW.trod_int Tryz.underlying3 q0
      obtain ⟨s, e1, z1, _⟩ := DataW.trod_string Tryz.underlying9 q1
      obtain ⟨p, e2, z2, _⟩ := DataW.trod_int Tryz.underlying3 q2
      simp only [List.cons.injEq, and_true] at e0 e1 e2
      subst e0 e1 e2
      rw [z1] at w1
      simp only [DataW.weights, List.all_cons, List.all_nil, Bool.and_true, decide_eq_true_eq] at w1
      unfold reachBytes at w1
      have hsl : s.data.toList.length = s.size := by rw [Array.length_toList]; rfl
      refine ⟨⟨k, s.data.toList, p⟩, by show s.data.toList.length ≤ _; omega, fun y hy => ?_, b, off, rfl, hlt, hat 0 (by omega), hat 1 (by omega), hat 2 (by omega)⟩
      have hex : elems[i]? = some (elems[i]'(by omega)) := List.getElem?_eq_getElem (by omega)
      rw [hex] at hy
      obtain rfl := Option.some.inj hy
      rw [hx]
      show 4 * s.data.toList.length + 3 ≤ _
      have o0 := one_bulk y0.1
      have o2 := one_bulk y2.1
      simp only [List.map_cons, List.map_nil, Rows.uptoBulk, Rows.uptoBulkAll, z1]
      omega
    obtain ⟨L, hLl, hL⟩ := pick_of len key
    refine ⟨L, hLl.symm, by omega, by have := hm; unfold maxLen at this; omega, fun k hk => ?_, ?_⟩
    · obtain ⟨f, hf, _, _, b, off, h1, h2, h3, h4, h5⟩ := hL k (by omega)
      rw [(List.getElem?_eq_some_iff.1 hf).2]
      exact ⟨b, off, by rw [h1], h2, h3, h4, h5⟩
    · have hb := sum_bulk (fun t : Tm => 4 * t.text.length + 3) 4 L (elems.map (·.1)) (by simp; omega) (fun i f d hf hd => by
        obtain ⟨f', hf', _, h12, _⟩ := hL i (by have := (List.getElem?_eq_some_iff.1 hf).1; omega)
        rw [hf] at hf'
        obtain rfl := Option.some.inj hf'
        rw [List.getElem?_map] at hd
        obtain ⟨y, hy, rfl⟩ := Option.map_eq_some_iff.1 hd
        exact h12 y hy)
      simp only [Rows.uptoBulk]
      omega
theorem sum_mem {g : Tm → Nat} : ∀ (L : List Tm) (t : Tm), t ∈ L → g t ≤ (L.map g).sum
  | a :: r, t, h => by
    rw [List.map_cons, List.sum_cons]
    rcases List.mem_cons.1 h with e | e
    · rw [e]; omega
    · have := sum_mem (g := g) r t e; omega
theorem sum_len : ∀ (L : List Tm), 3 * L.length ≤ (L.map fun t => 4 * t.text.length + 3).sum
  | [] => by simp
  | a :: r => by
    have := sum_len r
    rw [List.map_cons, List.sum_cons, List.length_cons]
    omega
end Go.Proofs.YtjehhldboopocaaGreatDoor.Lx
namespace Go.Proofs.YtjehhldboopocaaGreatDoor.Lx
open Go.RowKit Go.Lib
set_option linter.unusedVariables false
/-- Take: an error, or an expression. -/
theorem take_cases (toks : List Tm) :
    (∃ (p : Int) (er : Nat), (((er : Int) != 0) = true ∧ ((er : Int) == 0) = false) ∧ ∀ ta tc w, EnvR w ta toks → Calls Tryz.prog 14 #[.slice ta toks.length tc] w fun e w' => e = .returned (.tuple #[.agg zeroC.toArray, .int .i64 p, .int .i64 (er : Nat)]) ∧ Below w.heap.size w w') ∨
    (∃ (x : Xp) (n : Nat), parseP toks = .ok x n ∧ validX x = 0) := by
  have ne : ∀ er : Nat, er ≠ 0 → ((er : Int) != 0) = true ∧ ((er : Int) == 0) = false := fun er h => by
    have e0 : ((er : Int) == 0) = false := by rw [beq_eq_false_iff_ne]; omega
    exact ⟨by rw [bne, e0]; rfl, e0⟩
  have hat := parseP_at toks
  cases hr : parseP toks with
  | out => exact absurd hr (parseP_ne _)
  | err a er =>
    rw [hr] at hat
    have he : er = 4 ∨ er = 5 := hat.1
    refine .inl ⟨a, er, ne er (by omega), fun ta tc w hE => (takeP_any ta tc toks w hE).mono fun e w' h => ?_⟩
    obtain ⟨hb, h⟩ := h
    rw [hr] at h
    exact ⟨h, hb⟩
  | ok x n =>
    by_cases hv : validX x = 0
    · exact .inr ⟨x, n, rfl, hv⟩
    · refine .inl ⟨0, validX x, ne _ hv, fun ta tc w hE => (takeP_any ta tc toks w hE).mono fun e w' h => ?_⟩
      obtain ⟨hb, h⟩ := h
      rw [hr] at h
      simp only [hv, if_false] at h
      exact ⟨h, hb⟩
theorem take_okC {toks : List Tm} {x : Xp} {n : Nat} (hp : parseP toks = .ok x n) (hv : validX x = 0) (ta : Option Addr) (tc : Nat) (w : World) (hE : EnvR w ta toks) :
    Calls Tryz.prog 14 #[.slice ta toks.length tc] w fun e w' => (∃ C m, e = .returned (.tuple #[.agg (List.toArray C), .int .i64 (n : Nat), .int .i64 0]) ∧ OkE x w' C m) ∧ Below w.heap.size w w' :=
  (takeP_any ta tc toks w hE).mono fun e w' h => by
    obtain ⟨hb, h⟩ := h
    rw [hp] at h
    simp only [hv, if_true] at h
    obtain ⟨C, m, e1, h1⟩ := h
    exact ⟨⟨C, m, e1, stD_below h1⟩, hb⟩
set_option maxRecDepth 100000 in
theorem sliceT_to (g off len cap k : Nat) (hk : k ≤ cap) (w : World) : (Instr.sliceAt 37 (.slice (some ⟨g, off, none⟩) len cap) none (some (.int .i64 (k : Int))) none).run Tryz.prog w = .ok (.slice (some ⟨g, off, none⟩) k cap) w := by
  rw [run_sliceAt_slice _ _ _ _ _ _ Tryz.underlying37, run_slice_h _ _ _ _ _ Tryz.underlying37 .i64 (k : Int) (by omega) (by omega)]
  have hs : (sizeOf (Tryz.prog.elem 37)).run Tryz.prog w = .ok 3 w := by kernel_rfl
  rw [hs]
  have h0 : (⟨g, off, none⟩ : Addr).add 0 = ⟨g, off, none⟩ := rfl
  by_cases h : cap = 0
  · simp [Result.andThen, sliced, h]
  · simp [Result.andThen, sliced, h, h0]
theorem readsK_take {w : World} {v : Option Addr} {L : List Tm} (h : ReadsK w v L) (n : Nat) : ReadsK w v (L.take n) := fun j hj => by
  have hj2 : j < L.length := by rw [List.length_take] at hj; omega
  obtain ⟨b, off, e, hb, c0, c1, c2⟩ := h j hj2
  have hg : (L.take n)[j] = L[j] := by rw [List.getElem_take]
  rw [hg]
  exact ⟨b, off, e, hb, c0, c1, c2⟩
theorem reads_news {w : World} {b off : Nat} {L : List Tm} (h : ReadsK w (some ⟨b, off, none⟩) L) : ∀ j u, (L.flatMap tkC)[j]? = some u → w.cell? ((⟨b, off, none⟩ : Addr).add j) = some u := by
  intro j u hu
  have hj : j < L.length * 3 := by
    have := (List.getElem?_eq_some_iff.1 hu).1
    rw [flat3_len] at this
    exact this
  have hq : j / 3 < L.length := by omega
  obtain ⟨b', off', e, hb, c0, c1, c2⟩ := h (j / 3) hq
  injection e with e
  injection e with e1 e2
  subst e1 e2
  obtain ⟨f0, f1, f2⟩ := flat3 L (j / 3) hq
  rw [show (⟨b, off, none⟩ : Addr).add j = ⟨b, off + j, none⟩ by simp [Addr.add]]
  rcases (show j = j / 3 * 3 ∨ j = j / 3 * 3 + 1 ∨ j = j / 3 * 3 + 2 by omega) with h | h | h
  · rw [h] at hu ⊢
    rw [f0] at hu
    rw [← hu]
    exact c0
  · rw [h] at hu ⊢
    rw [f1] at hu
    rw [← hu, ← Nat.add_assoc]
    exact c1
  · rw [h] at hu ⊢
    rw [f2] at hu
    rw [← hu, ← Nat.add_assoc]
    exact c2
theorem one_tok : ∀ (L : List Tm) (u : Value), u ∈ L.flatMap tkC → u.oneCell' = true := fun L u h => by
  obtain ⟨t, _, ht⟩ := List.mem_flatMap.1 h
  unfold tkC at ht
  simp only [List.mem_cons, List.not_mem_nil, or_false] at ht
  rcases ht with rfl | rfl | rfl <;> rfl
end Go.Proofs.YtjehhldboopocaaGreatDoor.Lx
