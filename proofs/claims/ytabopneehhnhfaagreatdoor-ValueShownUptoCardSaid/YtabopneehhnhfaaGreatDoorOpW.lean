/- How values that come in are opened at value's seat, with the bulk of what came in: their literals are no longer than eight times it. -/
import Derived.Test.YtabopneehhnhfaaGreatDoorOpR
import Derived.Test.YtabopneehhnhfaaGreatDoorRows
import Derived.Lib.ItoaLen
namespace Go.Proofs.YtabopneehhnhfaaGreatDoor
open Go.ChangeShapes Go.WideShapes Go.ChangeAt Go.RowKit Go.Deep Go.Joins

theorem one_bulk {H : Type} (d : DataW H) : 1 ≤ Rows.uptoBulk d := by
  cases d with
  | lit l => cases l <;> simp [Rows.uptoBulk]
  | nil => simp [Rows.uptoBulk]
  | ptr d => simp [Rows.uptoBulk]
  | slice elems spare => simp [Rows.uptoBulk]
  | agg parts => simp [Rows.uptoBulk]
  | iface t d => simp [Rows.uptoBulk]
  | map entries => simp [Rows.uptoBulk]
  | held h => simp [Rows.uptoBulk]
theorem sum_bulk {α H : Type} (g : α → Nat) (c : Nat) : ∀ (L : List α) (E : List (DataW H)), L.length = E.length →
    (∀ (i : Nat) f d, L[i]? = some f → E[i]? = some d → g f ≤ c * Rows.uptoBulk d) → (L.map g).sum ≤ c * Rows.uptoBulkAll E
  | [], _, _, _ => by simp
  | f :: L, [], h, _ => by simp at h
  | f :: L, d :: E, h, hp => by
    have h1 := hp 0 f d rfl rfl
    have h2 := sum_bulk g c L E (by simpa using h) (fun i f d a b => hp (i + 1) f d (by simpa using a) (by simpa using b))
    simp only [List.map_cons, List.sum_cons, Rows.uptoBulkAll, Nat.mul_add]
    omega
theorem sum_six (g : Vl → Nat) : ∀ l : List Vl, (l.map (fun _ => (([] : List UInt8).length + 6))).sum ≤ (l.map (fun x => g x + 6)).sum
  | [] => by simp
  | x :: l => by
    have h := sum_six g l
    simp only [List.map_cons, List.sum_cons, List.length_nil] at h ⊢
    omega
theorem sum_take (g : List UInt8 → Nat) : ∀ (l : List (List UInt8)) (n : Nat), ((l.take n).map g).sum ≤ (l.map g).sum
  | [], n => by simp
  | x :: l, 0 => by simp
  | x :: l, n + 1 => by
    have h := sum_take g l n
    simp only [List.take_succ_cons, List.map_cons, List.sum_cons]
    omega
theorem sum_plus : ∀ l : List (List UInt8), (l.map (fun z => z.length)).sum ≤ (l.map (fun z => z.length + 1)).sum
  | [] => by simp
  | x :: l => by
    have h := sum_plus l
    simp only [List.map_cons, List.sum_cons]
    omega
theorem items_len (f : Vl → List UInt8) (mp : Bool) (l : List Vl) (ks : List (List UInt8)) : ∀ n, n ≤ l.length →
    (itemsL f mp l ks n).length ≤ ((l.take n).map (fun x => (f x).length + 6)).sum + 4 * ((ks.take n).map (fun z => z.length)).sum
  | 0, _ => by simp [itemsL_zero]
  | n + 1, h => by
    have ih := items_len f mp l ks n (by omega)
    rw [itemsL_succ, List.length_append, List.take_succ_eq_append_getElem (by omega), List.map_append, List.sum_append]
    simp only [List.map_cons, List.map_nil, List.sum_cons, List.sum_nil]
    have he : (eltL f mp l ks n).length ≤ 6 + 4 * (ks.getD n []).length + (f (l[n]'(by omega))).length := by
      unfold eltL
      have hq := quoL_len (ks.getD n [])
      have hl : l[n]? = some (l[n]'(by omega)) := List.getElem?_eq_getElem (by omega)
      rw [hl]
      simp only [List.length_append]
      have h1 : (if n = 0 then ([] : List UInt8) else [44, 32]).length ≤ 2 := by split <;> simp
      have h2 : (if mp = true then quoL (ks.getD n []) ++ [58, 32] else []).length ≤ 4 * (ks.getD n []).length + 4 := by
        split
        · rw [List.length_append]
          simp only [List.length_cons, List.length_nil]
          omega
        · simp
      omega
    by_cases hk : n < ks.length
    · rw [List.take_succ_eq_append_getElem hk, List.map_append, List.sum_append]
      have hd : ks.getD n [] = ks[n] := by rw [List.getD_eq_getElem?_getD, List.getElem?_eq_getElem hk]; rfl
      rw [hd] at he
      simp only [List.map_cons, List.map_nil, List.sum_cons, List.sum_nil]
      omega
    · rw [List.take_of_length_le (show ks.length ≤ n + 1 by omega)]
      rw [List.take_of_length_le (show ks.length ≤ n by omega)] at ih
      have hd : ks.getD n [] = [] := by rw [List.getD_eq_getElem?_getD, List.getElem?_eq_none (by omega)]; rfl
      rw [hd] at he
      simp only [List.length_nil] at he
      omega
theorem itoa_le {i : Int} (h : -9223372036854775808 ≤ i ∧ i ≤ 9223372036854775807) : (Lib.itoa i).length ≤ 21 := by
  have := Lib.itoa_length_le i h.1 h.2
  omega
theorem hd_bulk (f : Vl → List UInt8) (k : Int) (t : Bool) (i : Int) (s : ByteArray) (l : List Vl) (ks : List (List UInt8)) (hv : -9223372036854775808 ≤ i ∧ i ≤ 9223372036854775807) (B B4 B5 : Nat)
    (h4 : (l.map (fun x => (f x).length + 6)).sum ≤ 8 * B4) (h5 : (ks.map (fun z => z.length + 1)).sum ≤ 1 * B5) (hb : s.size + B4 + B5 + 5 ≤ B) : (hdL f (.mk k t i s l ks)).length + 6 ≤ 8 * B := by
  have e : s.data.toList.length = s.size := by rw [Array.length_toList]; rfl
  have hq := quoL_len s.data.toList
  have hi := itoa_le hv
  have hp := sum_plus ks
  have hit : ∀ mp, (itemsL f mp l ks l.length).length ≤ 8 * B4 + 4 * B5 := by
    intro mp
    have h1 := items_len f mp l ks l.length (Nat.le_refl _)
    have h2 := sum_take (fun z => z.length) ks l.length
    rw [List.take_of_length_le (Nat.le_refl _)] at h1
    omega
  have ht := hit true
  have hf := hit false
  show (if k = 0 then ([110, 117, 108, 108] : List UInt8) else if k = 1 then (if t = true then [116, 114, 117, 101] else [102, 97, 108, 115, 101]) else if k = 2 then Lib.itoa i else if k = 3 then quoL s.data.toList else if k = 4 then 91 :: (itemsL f false l ks l.length ++ [93]) else 123 :: (itemsL f true l ks l.length ++ [125])).length + 6 ≤ 8 * B
  by_cases k0 : k = 0
  · rw [if_pos k0]
    simp only [List.length_cons, List.length_nil]
    omega
  rw [if_neg k0]
  by_cases k1 : k = 1
  · rw [if_pos k1]
    cases t <;> simp <;> omega
  rw [if_neg k1]
  by_cases k2 : k = 2
  · rw [if_pos k2]
    omega
  rw [if_neg k2]
  by_cases k3 : k = 3
  · rw [if_pos k3]
    omega
  rw [if_neg k3]
  by_cases k4 : k = 4
  · rw [if_pos k4]
    simp only [List.length_cons, List.length_append, List.length_nil]
    omega
  · rw [if_neg k4]
    simp only [List.length_cons, List.length_append, List.length_nil]
    omega

theorem open_keysB {H : Type} {enc : TypeId × Value → H} {W : World} (fuel : Nat) (a : Option Addr) (len cap : Nat) (x : DataW H × List MemPlace)
    (h : DataW.trod enc Tryz.prog W 0 (fun _ => true) true fuel 23 [.slice a len cap] = some x) (hw : (x.1.weights Tryz.prog 23).all (· ≤ reachBytes) = true) :
    ∃ L : List (List UInt8), len = L.length ∧ len ≤ cap ∧ cap ≤ maxLen ∧ L.length * 16 ≤ 140737488351232 ∧ (∀ z ∈ L, z.length ≤ 140737488351232) ∧ ReadsStr W a L ∧ (L.map (fun z => z.length + 1)).sum ≤ 1 * Rows.uptoBulk x.1 := by
  rcases DataW.trod_slice Tryz.underlying23 h with ⟨hcs, _⟩ | ⟨ad, len', cap', elems, rest, n, hfu, hcs, rfl, _, hl, hm, hlen, hel, _, _⟩
  · simp at hcs
    obtain ⟨rfl, rfl, rfl⟩ := hcs
    exact ⟨[], rfl, by simp, by simp [maxLen], by simp, by simp, (fun k hk => by simp at hk), by simp⟩
  · simp at hcs
    obtain ⟨rfl, rfl, rfl⟩ := hcs
    obtain ⟨hb, hwe⟩ := wSlice Tryz.underlying23 hw
    rw [show Tryz.prog.bytesOf 9 = 16 from by kernel_rfl, List.length_map] at hb
    unfold reachBytes at hb
    rw [show Tryz.prog.cellsOf 9 = 1 from by kernel_rfl] at hel
    have key : ∀ i, i < len → ∃ z : List UInt8, z.length ≤ 140737488351232 ∧ (∀ y, elems[i]? = some y → z.length + 1 ≤ 1 * Rows.uptoBulk y.1) ∧ ∃ b off, ad = ⟨b, off, none⟩ ∧ b < W.heap.size ∧ W.cell? ⟨b, off + i, none⟩ = some (.string ⟨z.toArray⟩) := by
      intro i hi
      obtain ⟨b, off, cs, rfl, hlt, hcl, hat, ht⟩ := slot_of (by omega) hlen hel i hi
      obtain ⟨s, rfl, hs, _⟩ := DataW.trod_string Tryz.underlying9 ht
      have hwd := hwe elems[i].1 (List.mem_map.2 ⟨_, List.getElem_mem _, rfl⟩)
      rw [hs] at hwd
      simp only [DataW.weights, List.all_cons, List.all_nil, Bool.and_true, decide_eq_true_eq] at hwd
      unfold reachBytes at hwd
      have h0 := hat 0 (by omega)
      exact ⟨s.data.toList, by omega, (fun y hy => by
        have hex : elems[i]? = some (elems[i]'(by omega)) := List.getElem?_eq_getElem (by omega)
        rw [hex] at hy
        obtain rfl := Option.some.inj hy
        rw [hs]
        simp only [Rows.uptoBulk]
        omega), b, off, rfl, hlt, by simpa using h0⟩
    obtain ⟨L, hLl, hL⟩ := pick_of len key
    refine ⟨L, hLl.symm, hl, hm, by omega, fun z hz => ?_, fun k hk => ?_, ?_⟩
    · obtain ⟨i, hi, rfl⟩ := List.getElem_of_mem hz
      obtain ⟨f, hf, h1, _⟩ := hL i (by omega)
      rw [(List.getElem?_eq_some_iff.1 hf).2]
      exact h1
    · obtain ⟨f, hf, _, _, b, off, h1, h2, h3⟩ := hL k (by omega)
      rw [(List.getElem?_eq_some_iff.1 hf).2]
      exact ⟨b, off, by rw [h1], h2, h3⟩
    · have hb := sum_bulk (fun z : List UInt8 => z.length + 1) 1 L (elems.map (·.1)) (by simp; omega) (fun i f d hf hd => by
        obtain ⟨f', hf', _, h12, _⟩ := hL i (by have := (List.getElem?_eq_some_iff.1 hf).1; omega)
        rw [hf] at hf'
        obtain rfl := Option.some.inj hf'
        rw [List.getElem?_map] at hd
        obtain ⟨y, hy, rfl⟩ := Option.map_eq_some_iff.1 hd
        exact h12 y hy)
      simp only [Rows.uptoBulk]
      omega

/-- What a slice of values is opened to. -/
def OpensB (B : Nat) (W : World) (n : Nat) (a : Option Addr) (len cap : Nat) (L : List Vl) : Prop := len = L.length ∧ len ≤ cap ∧ cap ≤ maxLen ∧ L.length * 88 ≤ 140737488351232 ∧ (∀ m, n ≤ m → ReadsV m W a L) ∧ ∀ m, (L.map (fun x => (litV m x).length + 6)).sum ≤ 8 * B
set_option maxRecDepth 100000 in
theorem val6B {H : Type} {enc : TypeId × Value → H} {W : World} {n : Nat} {c0 c1 c2 c3 c4 c5 : Value} {y0 y1 y2 y3 y4 y5 : DataW H × List MemPlace}
    (ih : ∀ (a : Option Addr) (len cap : Nat) (x : DataW H × List MemPlace), DataW.trod enc Tryz.prog W 0 (fun _ => true) true n 22 [.slice a len cap] = some x → (x.1.weights Tryz.prog 22).all (· ≤ reachBytes) = true → ∃ L, OpensB (Rows.uptoBulk x.1) W n a len cap L)
    (q0 : DataW.trod enc Tryz.prog W 0 (fun _ => true) true n 3 [c0] = some y0) (q1 : DataW.trod enc Tryz.prog W 0 (fun _ => true) true n 4 [c1] = some y1)
    (q2 : DataW.trod enc Tryz.prog W 0 (fun _ => true) true n 3 [c2] = some y2) (q3 : DataW.trod enc Tryz.prog W 0 (fun _ => true) true n 9 [c3] = some y3)
    (q4 : DataW.trod enc Tryz.prog W 0 (fun _ => true) true n 22 [c4] = some y4) (q5 : DataW.trod enc Tryz.prog W 0 (fun _ => true) true n 23 [c5] = some y5)
    (w : ((DataW.agg [y0.1, y1.1, y2.1, y3.1, y4.1, y5.1]).weights Tryz.prog 25).all (· ≤ reachBytes) = true) :
    ∃ k t i s l ks av c kv kc, c0 = .int .i64 k ∧ c1 = .bool t ∧ c2 = .int .i64 i ∧ c3 = .string s ∧ c4 = .slice av (List.length l) c ∧ c5 = .slice kv (List.length ks) kc ∧
      (-9223372036854775808 ≤ k ∧ k ≤ 9223372036854775807) ∧ (-9223372036854775808 ≤ i ∧ i ≤ 9223372036854775807) ∧ s.size ≤ 140737488351232 ∧ l.length * 88 ≤ 140737488351232 ∧ l.length ≤ c ∧ c ≤ 9223372036854775807 ∧ ks.length * 16 ≤ 140737488351232 ∧ ks.length ≤ kc ∧ kc ≤ 9223372036854775807 ∧
      (∀ x, x ∈ ks → x.length ≤ 140737488351232) ∧ ReadsStr W kv ks ∧ (∀ m, n ≤ m → ReadsV m W av l) ∧ ∀ m, (litV m (.mk k t i s l ks)).length + 6 ≤ 8 * Rows.uptoBulk (DataW.agg [y0.1, y1.1, y2.1, y3.1, y4.1, y5.1]) := by
  simp only [DataW.weights, Tryz.underlying25, List.map_cons, List.map_nil, DataW.weightsEach, List.all_append, List.append_nil, Bool.and_eq_true] at w
  obtain ⟨-, -, -, w3, w4, w5⟩ := w
  obtain ⟨k, e0, b0, v0⟩ := DataW.trod_int Tryz.underlying3 q0
  obtain ⟨t, e1, b1⟩ := DataW.trod_bool Tryz.underlying4 q1
  obtain ⟨i, e2, b2, v2⟩ := DataW.trod_int Tryz.underlying3 q2
  obtain ⟨s, e3, z3, _⟩ := DataW.trod_string Tryz.underlying9 q3
  simp only [List.cons.injEq, and_true] at e0 e1 e2 e3
  subst e0 e1 e2 e3
  rw [z3] at w3
  simp only [DataW.weights, List.all_cons, List.all_nil, Bool.and_true, decide_eq_true_eq] at w3
  unfold reachBytes at w3
  obtain ⟨av, ln, c, rfl⟩ : ∃ av ln c, c4 = .slice av ln c := by
    rcases DataW.trod_slice Tryz.underlying22 q4 with ⟨hcs, _⟩ | ⟨ad, len', cap', _, _, _, _, hcs, _⟩
    · simp at hcs; exact ⟨_, _, _, hcs⟩
    · simp at hcs; exact ⟨_, _, _, hcs⟩
  obtain ⟨kv, kn, kc, rfl⟩ : ∃ av ln c, c5 = .slice av ln c := by
    rcases DataW.trod_slice Tryz.underlying23 q5 with ⟨hcs, _⟩ | ⟨ad, len', cap', _, _, _, _, hcs, _⟩
    · simp at hcs; exact ⟨_, _, _, hcs⟩
    · simp at hcs; exact ⟨_, _, _, hcs⟩
  obtain ⟨l, rfl, l1, l2, l3, l4, l5⟩ := ih av ln c y4 q4 w4
  obtain ⟨ks, rfl, k1, k2, k3, k4, k5, k6⟩ := open_keysB n kv kn kc y5 q5 w5
  unfold maxLen at l2 k2
  have es : s.data.toList.length = s.size := by rw [Array.length_toList]; rfl
  exact ⟨k, t, i, s, l, ks, av, c, kv, kc, rfl, rfl, rfl, rfl, rfl, rfl, wf64 v0, wf64 v2, by omega, l3, l1, by omega, k3, k1, by omega, k4, k5, l4, fun m => by
    have hb : s.size + Rows.uptoBulk y4.1 + Rows.uptoBulk y5.1 + 5 ≤ Rows.uptoBulk (DataW.agg [y0.1, y1.1, y2.1, y3.1, y4.1, y5.1]) := by
      have o0 := one_bulk y0.1
      have o1 := one_bulk y1.1
      have o2 := one_bulk y2.1
      simp only [Rows.uptoBulk, Rows.uptoBulkAll, z3, es]
      omega
    have hv := wf64 v2
    cases m with
    | zero => exact hd_bulk (fun _ => []) k t i s l ks hv _ _ _ (Nat.le_trans (sum_six (fun x => (litV 0 x).length) l) (l5 0)) k6 hb
    | succ m => exact hd_bulk (litV m) k t i s l ks hv _ _ _ (l5 m) k6 hb⟩

set_option maxRecDepth 100000 in
set_option maxHeartbeats 1000000 in
theorem open_valsB {H : Type} {enc : TypeId × Value → H} {W : World} : ∀ (fuel : Nat) (a : Option Addr) (len cap : Nat) (x : DataW H × List MemPlace),
    DataW.trod enc Tryz.prog W 0 (fun _ => true) true fuel 22 [.slice a len cap] = some x → (x.1.weights Tryz.prog 22).all (· ≤ reachBytes) = true → ∃ L, OpensB (Rows.uptoBulk x.1) W fuel a len cap L := by
  intro fuel
  induction fuel using Nat.strongRecOn with
  | ind fuel ih =>
    intro a len cap x h hw
    rcases DataW.trod_slice Tryz.underlying22 h with ⟨hcs, _⟩ | ⟨ad, len', cap', elems, rest, n, hfu, hcs, rfl, _, hl, hm, hlen, hel, _, _⟩
    · simp at hcs
      obtain ⟨rfl, rfl, rfl⟩ := hcs
      refine ⟨[], rfl, by simp, by simp [maxLen], by simp, (fun m hm => ?_), fun m => by simp⟩
      cases m with
      | zero => exact rfl
      | succ m => intro j hj; simp at hj
    · simp at hcs
      obtain ⟨rfl, rfl, rfl⟩ := hcs
      subst hfu
      obtain ⟨hb, hwe⟩ := wSlice Tryz.underlying22 hw
      rw [show Tryz.prog.bytesOf 25 = 88 from by kernel_rfl, List.length_map] at hb
      unfold reachBytes at hb
      rw [show Tryz.prog.cellsOf 25 = 6 from by kernel_rfl] at hel
      have key : ∀ i, i < len → ∃ f : Vl, ∃ b off k t i' s l' ks av c kv kc, f = .mk k t i' s l' ks ∧ ad = ⟨b, off, none⟩ ∧ b < W.heap.size ∧
          W.cell? ⟨b, off + i * 6, none⟩ = some (.int .i64 k) ∧ W.cell? ⟨b, off + i * 6 + 1, none⟩ = some (.bool t) ∧ W.cell? ⟨b, off + i * 6 + 2, none⟩ = some (.int .i64 i') ∧
          W.cell? ⟨b, off + i * 6 + 3, none⟩ = some (.string s) ∧ W.cell? ⟨b, off + i * 6 + 4, none⟩ = some (.slice av l'.length c) ∧ W.cell? ⟨b, off + i * 6 + 5, none⟩ = some (.slice kv ks.length kc) ∧
          (-9223372036854775808 ≤ k ∧ k ≤ 9223372036854775807) ∧ (-9223372036854775808 ≤ i' ∧ i' ≤ 9223372036854775807) ∧ s.size ≤ 140737488351232 ∧ l'.length * 88 ≤ 140737488351232 ∧ l'.length ≤ c ∧ c ≤ 9223372036854775807 ∧ ks.length * 16 ≤ 140737488351232 ∧ ks.length ≤ kc ∧ kc ≤ 9223372036854775807 ∧
          (∀ x, x ∈ ks → x.length ≤ 140737488351232) ∧ ReadsStr W kv ks ∧ (∀ m, n - 1 ≤ m → ReadsV m W av l') ∧ ∀ y, elems[i]? = some y → ∀ m, (litV m f).length + 6 ≤ 8 * Rows.uptoBulk y.1 := by
        intro i hi
        obtain ⟨b, off, cs, rfl, hlt, hcl, hat, ht⟩ := slot_of (by omega) hlen hel i hi
        have hwd := hwe elems[i].1 (List.mem_map.2 ⟨_, List.getElem_mem _, rfl⟩)
        obtain ⟨c0, c1, c2, c3, c4, c5, rfl⟩ := six hcl
        obtain ⟨xs, n', hn, hx, _, hxl, hf⟩ := DataW.trod_struct Tryz.underlying25 ht
        obtain ⟨y0, y1, y2, y3, y4, y5, rfl⟩ := six hxl
        have q0 : DataW.trod enc Tryz.prog W 0 (fun _ => true) true n' 3 (([c0, c1, c2, c3, c4, c5].drop 0).take (Tryz.prog.cellsOf 3)) = some y0 := hf 0 _ rfl
        have q1 : DataW.trod enc Tryz.prog W 0 (fun _ => true) true n' 4 (([c0, c1, c2, c3, c4, c5].drop 1).take (Tryz.prog.cellsOf 4)) = some y1 := hf 1 _ rfl
        have q2 : DataW.trod enc Tryz.prog W 0 (fun _ => true) true n' 3 (([c0, c1, c2, c3, c4, c5].drop 2).take (Tryz.prog.cellsOf 3)) = some y2 := hf 2 _ rfl
        have q3 : DataW.trod enc Tryz.prog W 0 (fun _ => true) true n' 9 (([c0, c1, c2, c3, c4, c5].drop 3).take (Tryz.prog.cellsOf 9)) = some y3 := hf 3 _ rfl
        have q4 : DataW.trod enc Tryz.prog W 0 (fun _ => true) true n' 22 (([c0, c1, c2, c3, c4, c5].drop 4).take (Tryz.prog.cellsOf 22)) = some y4 := hf 4 _ rfl
        have q5 : DataW.trod enc Tryz.prog W 0 (fun _ => true) true n' 23 (([c0, c1, c2, c3, c4, c5].drop 5).take (Tryz.prog.cellsOf 23)) = some y5 := hf 5 _ rfl
        rw [show Tryz.prog.cellsOf 3 = 1 from by kernel_rfl] at q0 q2
        rw [show Tryz.prog.cellsOf 4 = 1 from by kernel_rfl] at q1
        rw [show Tryz.prog.cellsOf 9 = 1 from by kernel_rfl] at q3
        rw [show Tryz.prog.cellsOf 22 = 1 from by kernel_rfl] at q4
        rw [show Tryz.prog.cellsOf 23 = 1 from by kernel_rfl] at q5
        simp only [List.drop_succ_cons, List.drop_zero, List.take_succ_cons, List.take_zero] at q0 q1 q2 q3 q4 q5
        rw [hx] at hwd
        have hwd' : ((DataW.agg [y0.1, y1.1, y2.1, y3.1, y4.1, y5.1]).weights Tryz.prog 25).all (· ≤ reachBytes) = true := hwd
        obtain ⟨k, t, i', s, l, ks, av, c, kv, kc, rfl, rfl, rfl, rfl, rfl, rfl, g0, g1, g2, g3, g4, g5, g6, g7, g8, g9, hs, hr, hbk⟩ := val6B (ih n' (by omega)) q0 q1 q2 q3 q4 q5 hwd'
        exact ⟨.mk k t i' s l ks, b, off, k, t, i', s, l, ks, av, c, kv, kc, rfl, rfl, hlt, by simpa using hat 0 (by omega), by simpa using hat 1 (by omega), by simpa using hat 2 (by omega), by simpa using hat 3 (by omega), by simpa using hat 4 (by omega), by simpa using hat 5 (by omega),
          g0, g1, g2, g3, g4, g5, g6, g7, g8, g9, hs, (fun m hm => hr m (by omega)), fun y hy m => by
            have hex : elems[i]? = some (elems[i]'(by omega)) := List.getElem?_eq_getElem (by omega)
            rw [hex] at hy
            obtain rfl := Option.some.inj hy
            rw [hx]
            exact hbk m⟩
      obtain ⟨L, hLl, hL⟩ := pick_of len key
      refine ⟨L, hLl.symm, hl, hm, by omega, fun m hm => ?_, fun m => ?_⟩
      · cases m with
        | zero => omega
        | succ m =>
          intro j hj
          obtain ⟨f, hf, b, off, k, t, i', s, l', ks, av, c, kv, kc, rfl, rfl, hlt, a0, a1, a2, a3, a4, a5, g0, g1, g2, g3, g4, g5, g6, g7, g8, g9, hs, hr, _⟩ := hL j (by omega)
          exact ⟨b, off, k, t, i', s, l', ks, av, c, kv, kc, hf, rfl, hlt, a0, a1, a2, a3, a4, a5, g0, g1, g2, g3, g4, g5, g6, g7, g8, g9, hs, hr m (by omega)⟩
      · have hb := sum_bulk (fun x => (litV m x).length + 6) 8 L (elems.map (·.1)) (by simp; omega) (fun i f d hf hd => by
          obtain ⟨f', hf', _, _, _, _, _, _, _, _, _, _, _, _, _, _, _, _, _, _, _, _, _, _, _, _, _, _, _, _, _, _, _, _, _, h12⟩ := hL i (by have := (List.getElem?_eq_some_iff.1 hf).1; omega)
          rw [hf] at hf'
          obtain rfl := Option.some.inj hf'
          rw [List.getElem?_map] at hd
          obtain ⟨y, hy, rfl⟩ := Option.map_eq_some_iff.1 hd
          exact h12 y hy m)
        simp only [Rows.uptoBulk]
        omega
set_option maxRecDepth 100000 in
theorem open_sixB {H : Type} {enc : TypeId × Value → H} {W : World} {fuel : Nat} {c0 c1 c2 c3 c4 c5 : Value} {d : DataW H} {p : List MemPlace} (ht : DataW.trod enc Tryz.prog W 0 (fun _ => true) true fuel 25 [c0, c1, c2, c3, c4, c5] = some (d, p))
    (hw : (d.weights Tryz.prog 25).all (· ≤ reachBytes) = true) : ∃ k t i s l ks av c kv kc, c0 = .int .i64 k ∧ c1 = .bool t ∧ c2 = .int .i64 i ∧ c3 = .string s ∧ c4 = .slice av (List.length l) c ∧ c5 = .slice kv (List.length ks) kc ∧
      (-9223372036854775808 ≤ k ∧ k ≤ 9223372036854775807) ∧ (-9223372036854775808 ≤ i ∧ i ≤ 9223372036854775807) ∧ s.size ≤ 140737488351232 ∧ l.length * 88 ≤ 140737488351232 ∧ l.length ≤ c ∧ c ≤ 9223372036854775807 ∧ ks.length * 16 ≤ 140737488351232 ∧ ks.length ≤ kc ∧ kc ≤ 9223372036854775807 ∧
      (∀ x, x ∈ ks → x.length ≤ 140737488351232) ∧ ReadsStr W kv ks ∧ (∀ m, fuel ≤ m → ReadsV m W av l) ∧ ∀ m, (litV m (.mk k t i s l ks)).length + 6 ≤ 8 * Rows.uptoBulk d := by
  obtain ⟨xs, n', hn, hx, _, hxl, hf⟩ := DataW.trod_struct Tryz.underlying25 ht
  obtain ⟨y0, y1, y2, y3, y4, y5, rfl⟩ := six hxl
  have q0 : DataW.trod enc Tryz.prog W 0 (fun _ => true) true n' 3 (([c0, c1, c2, c3, c4, c5].drop 0).take (Tryz.prog.cellsOf 3)) = some y0 := hf 0 _ rfl
  have q1 : DataW.trod enc Tryz.prog W 0 (fun _ => true) true n' 4 (([c0, c1, c2, c3, c4, c5].drop 1).take (Tryz.prog.cellsOf 4)) = some y1 := hf 1 _ rfl
  have q2 : DataW.trod enc Tryz.prog W 0 (fun _ => true) true n' 3 (([c0, c1, c2, c3, c4, c5].drop 2).take (Tryz.prog.cellsOf 3)) = some y2 := hf 2 _ rfl
  have q3 : DataW.trod enc Tryz.prog W 0 (fun _ => true) true n' 9 (([c0, c1, c2, c3, c4, c5].drop 3).take (Tryz.prog.cellsOf 9)) = some y3 := hf 3 _ rfl
  have q4 : DataW.trod enc Tryz.prog W 0 (fun _ => true) true n' 22 (([c0, c1, c2, c3, c4, c5].drop 4).take (Tryz.prog.cellsOf 22)) = some y4 := hf 4 _ rfl
  have q5 : DataW.trod enc Tryz.prog W 0 (fun _ => true) true n' 23 (([c0, c1, c2, c3, c4, c5].drop 5).take (Tryz.prog.cellsOf 23)) = some y5 := hf 5 _ rfl
  rw [show Tryz.prog.cellsOf 3 = 1 from by kernel_rfl] at q0 q2
  rw [show Tryz.prog.cellsOf 4 = 1 from by kernel_rfl] at q1
  rw [show Tryz.prog.cellsOf 9 = 1 from by kernel_rfl] at q3
  rw [show Tryz.prog.cellsOf 22 = 1 from by kernel_rfl] at q4
  rw [show Tryz.prog.cellsOf 23 = 1 from by kernel_rfl] at q5
  simp only [List.drop_succ_cons, List.drop_zero, List.take_succ_cons, List.take_zero] at q0 q1 q2 q3 q4 q5
  simp only [Prod.mk.injEq] at hx
  rw [hx.1] at hw
  obtain ⟨k, t, i', s, l, ks, av, c, kv, kc, rfl, rfl, rfl, rfl, rfl, rfl, g0, g1, g2, g3, g4, g5, g6, g7, g8, g9, hs', hr, hbk⟩ := val6B (open_valsB n') q0 q1 q2 q3 q4 q5 hw
  exact ⟨k, t, i', s, l, ks, av, c, kv, kc, rfl, rfl, rfl, rfl, rfl, rfl, g0, g1, g2, g3, g4, g5, g6, g7, g8, g9, hs', (fun m hm => hr m (by omega)), fun m => by
    rw [hx.1]
    exact hbk m⟩
set_option maxRecDepth 100000 in
theorem open_valueB {H : Type} {enc : TypeId × Value → H} {W : World} {r : Reach} {b0 : Nat} {v : Value} {d : DataW H} {p : List MemPlace} (hv : Value.okWide Tryz.prog W r b0 25 v) (h : DataW.Trod enc Tryz.prog W 0 (fun _ => true) true 25 v d p)
    (hw : (d.weights Tryz.prog 25).all (· ≤ reachBytes) = true) : ∃ m y, IsV m W v y ∧ ∀ m, (litV m y).length + 6 ≤ 8 * Rows.uptoBulk d := by
  obtain ⟨cs, rfl, hs⟩ := okWide_struct Tryz.underlying25 hv
  obtain ⟨fuel, hf⟩ := h
  obtain ⟨c0, c1, c2, c3, c4, c5, e⟩ := six (l := cs.toList) (by rw [Array.length_toList, hs]; kernel_rfl)
  obtain rfl : cs = #[c0, c1, c2, c3, c4, c5] := by rw [← Array.toList_inj, e]
  have ht : DataW.trod enc Tryz.prog W 0 (fun _ => true) true fuel 25 [c0, c1, c2, c3, c4, c5] = some (d, p) := by simpa [Value.cells] using hf
  obtain ⟨k, t, i', s, l, ks, av, c, kv, kc, rfl, rfl, rfl, rfl, rfl, rfl, g0, g1, g2, g3, g4, g5, g6, g7, g8, g9, hs', hr, hbk⟩ := open_sixB ht hw
  exact ⟨fuel, .mk k t i' s l ks, ⟨k, t, i', s, l, ks, av, c, kv, kc, rfl, rfl, g0, g1, g2, g3, g4, g5, g6, g7, g8, g9, hs', hr fuel (Nat.le_refl _)⟩, hbk⟩
end Go.Proofs.YtabopneehhnhfaaGreatDoor
