/- Contracts of functions of the program, and what they are made of (parser; PmS). -/
import Derived.Test.YtjehhldboopocaaGreatDoorPk40
import Derived.Test.YtjehhldboopocaaGreatDoorPk41
import Derived.Deep.RegionWith
import Derived.Deep.RegionHeld3
import Derived.Deep.QuietTactic
import Derived.BigQuiet
namespace Go.Proofs.YtjehhldboopocaaGreatDoor.Lx
open Go.RowKit Go.Lib
set_option linter.unusedVariables false
def opsL : List (List UInt8) := [[124, 124], [38, 38], [61, 61], [33, 61], [60], [60, 61], [62], [62, 61], [43], [45], [42], [47], [37]]
/-- The first operand, and the last one. -/
def fstU (u : Bool) : List UInt8 := if u = true then [45, 120] else [120]
def lstU (u : Bool) : List UInt8 := if u = true then [33, 122] else [122]
def srcS (u : Bool) (a b : List UInt8) : List UInt8 := fstU u ++ ([32] ++ (a ++ ([32, 121, 32] ++ (b ++ ([32] ++ lstU u)))))
def valB (x : Xp) : Bool := depB 4 x && decide ((if 4096 < (preE 4 1 x).length then 15 else firstN (preE 4 1 x)) = 0)
/-- What is asked of an expression of two operators. -/
def twoB (a b : List UInt8) (x : Xp) : Bool := decide (x.kd = 7) && match x.ar with
  | [p, q] => if strB b ≤ strB a then decide (x.nm = b) && decide (p.kd = 7) && decide (p.nm = a) && decide (q.kd ≠ 7)
      else decide (x.nm = a) && decide (q.kd = 7) && decide (q.nm = b) && decide (p.kd ≠ 7)
  | _ => false
def chkS (u : Bool) (a b : List UInt8) : Bool := match lexF (srcS u a b) 0 0 false with
  | .err _ _ => false
  | .ok T => match pP (T.map Tk.tm) 40 .cond 0 with
    | .out => false
    | .err _ _ => false
    | .ok x j => valB x && (if strB a = 4 ∧ strB b = 4 then decide (j < T.length) && decide ((T[j]?).map Tk.at_ = some ((fstU u).length + a.length + 4)) else decide (j = T.length) && twoB a b x)
set_option maxRecDepth 100000 in
theorem chk_all : ([false, true].all fun u => opsL.all fun a => opsL.all fun b => chkS u a b) = true := by kernel_rfl
theorem chk_of (u : Bool) {a b : List UInt8} (ha : a ∈ opsL) (hb : b ∈ opsL) : chkS u a b = true := by
  have h := List.all_eq_true.1 (List.all_eq_true.1 (List.all_eq_true.1 chk_all u (by cases u <;> simp)) a ha) b hb
  exact h
theorem len_ops {a : List UInt8} (h : a ∈ opsL) : a.length ≤ 2 := by
  have : opsL.all (fun a => decide (a.length ≤ 2)) = true := by decide
  exact of_decide_eq_true (List.all_eq_true.1 this a h)
/-- Parse of a known expression, with what it is stable under. -/
def OkS (x : Xp) (n : Nat) (w' : World) (C : List Value) (m : Nat) : Prop := StD (fun j => n ≤ j) w' fun w2 => IsE m w2 C x
theorem parse_okS (s : ByteArray) (T : List Tk) (x : Xp) (F : Nat) (hs : s.size ≤ 65536) (hl : lexF s.data.toList 0 0 false = .ok T) (hp : pP (T.map Tk.tm) F .cond 0 = .ok x T.length) (hv : validX x = 0) (w : World) (hT : TabL w) :
    Calls Tryz.prog 11 #[.string s] w fun e w' => (∃ C m, e = .returned (.tuple #[.agg (List.toArray C), .int .i64 0, .int .i64 0]) ∧ OkS x w.heap.size w' C m) ∧ Below w.heap.size w w' :=
  (parse_tok s T hs hl w hT).mono fun e w' h => by
    obtain ⟨hb, h⟩ := h
    rw [parseP_ok hp] at h
    simp only [hv, List.length_map, Nat.lt_irrefl, if_false, ne_eq, not_true_eq_false] at h
    obtain ⟨C, m, e1, h1⟩ := h
    exact ⟨⟨C, m, e1, h1⟩, hb⟩
/-- Behind the box that an answer is stored into, made ahead of the call or behind it. -/
theorem OkS.alloc {x : Xp} {n m : Nat} {w' : World} {C : List Value} (h : OkS x n w' C m) (o : Obj) : OkE x (w'.alloc o) C m := fun w2 hb =>
  stD_below h w2 (((Below.refl w'.heap.size w').alloc (Nat.le_refl _) o).trans (hb.mono (by simp)))
theorem OkS.store {x : Xp} {n m E : Nat} {w' W : World} {C : List Value} (h : OkS x n w' C m) (hE : E < n) (hz : w'.heap.size ≤ W.heap.size) (hW : ∀ k, k ≠ E → W.heap[k]? = w'.heap[k]?) : OkE x W C m := fun w2 hb =>
  h w2 (Nat.le_trans hz hb.size) fun k hk hn => (hb.block k (Nat.lt_of_lt_of_le hk hz)).trans (hW k (by omega))
/-- What Parse answers to two operators. -/
theorem par_two (u : Bool) {a b : List UInt8} (ha : a ∈ opsL) (hb : b ∈ opsL) (s : ByteArray) (hs : s.data.toList = srcS u a b) :
    (strB a = 4 ∧ strB b = 4 ∧ ∀ w, TabL w → Calls Tryz.prog 11 #[.string s] w fun e w' => e = .returned (.tuple #[.agg zeroC.toArray, .int .i64 ((fstU u).length + a.length + 4 : Nat), .int .i64 5]) ∧ Below w.heap.size w w') ∨
    (¬ (strB a = 4 ∧ strB b = 4) ∧ ∃ x, twoB a b x = true ∧ ∀ w, TabL w → Calls Tryz.prog 11 #[.string s] w fun e w' => (∃ C m, e = .returned (.tuple #[.agg (List.toArray C), .int .i64 0, .int .i64 0]) ∧ OkS x w.heap.size w' C m) ∧ Below w.heap.size w w') := by
  have hc := chk_of u ha hb
  unfold chkS at hc
  have hz : s.size ≤ 65536 := by
    have h1 := len_ops ha
    have h2 := len_ops hb
    have h3 : s.data.toList.length = s.size := lenB s
    rw [hs] at h3
    have h4 : (fstU u).length ≤ 2 := by cases u <;> decide
    have h5 : (lstU u).length ≤ 2 := by cases u <;> decide
    unfold srcS at h3
    simp only [List.length_append, List.length_cons, List.length_nil] at h3
    omega
  rw [← hs] at hc
  cases hl : lexF s.data.toList 0 0 false with
  | err p e => rw [hl] at hc; cases hc
  | ok T =>
    rw [hl] at hc
    dsimp only at hc
    cases hp : pP (T.map Tk.tm) 40 .cond 0 with
    | out => rw [hp] at hc; cases hc
    | err p e => rw [hp] at hc; cases hc
    | ok x j =>
      rw [hp] at hc
      simp only [Bool.and_eq_true] at hc
      obtain ⟨hv, hc⟩ := hc
      unfold valB at hv
      simp only [Bool.and_eq_true, decide_eq_true_eq] at hv
      have hv0 := validX_of hv.1 hv.2
      by_cases h4 : strB a = 4 ∧ strB b = 4
      · rw [if_pos h4] at hc
        simp only [Bool.and_eq_true, decide_eq_true_eq] at hc
        obtain ⟨hj, ht⟩ := hc
        refine .inl ⟨h4.1, h4.2, fun w hT => parse_cutC s T x 40 j hz hl hp hv0 hj _ ?_ w hT⟩
        unfold posT
        have hjm : j < (T.map Tk.tm).length := by rw [List.length_map]; exact hj
        rw [dif_pos hjm, List.getElem_map]
        rw [List.getElem?_eq_getElem hj] at ht
        injection ht with ht
        show ((T[j].at_ : Nat) : Int) = _
        rw [ht]
      · rw [if_neg h4] at hc
        simp only [Bool.and_eq_true, decide_eq_true_eq] at hc
        obtain ⟨rfl, ht⟩ := hc
        exact .inr ⟨h4, x, ht, fun w hT => parse_okS s T x 40 hz hl hp hv0 w hT⟩
/-- Of both ways: the error with its index, or what holds of an expression. -/
def InfS (u : Bool) (a b : List UInt8) (p er : Int) (P : Prop) : Prop :=
  (er = 5 ∧ p = ((fstU u).length + a.length + 4 : Nat) ∧ strB a = 4 ∧ strB b = 4) ∨ (er = 0 ∧ ¬ (strB a = 4 ∧ strB b = 4) ∧ P)
theorem InfS.imp {u : Bool} {a b : List UInt8} {p er : Int} {P Q : Prop} (h : InfS u a b p er P) (f : P → Q) : InfS u a b p er Q :=
  h.elim .inl fun h => .inr ⟨h.1, h.2.1, f h.2.2⟩
theorem par_one (u : Bool) {a b : List UInt8} (ha : a ∈ opsL) (hb : b ∈ opsL) (s : ByteArray) (hs : s.data.toList = srcS u a b) (w : World) (hT : TabL w) :
    Calls Tryz.prog 11 #[.string s] w fun e w' => (∃ k nx vk vt vi vs p1 l1 c1 p2 l2 c2 p3 l3 c3 p4 l4 c4 p er,
      e = .returned (.tuple #[.agg #[.int .i64 k, .string nx, .int .i64 vk, .bool vt, .int .i64 vi, .string vs, .slice p1 l1 c1, .slice p2 l2 c2, .slice p3 l3 c3, .slice p4 l4 c4], .int .i64 p, .int .i64 er]) ∧
      InfS u a b p er (∃ x m, twoB a b x = true ∧ OkS x w.heap.size w' [.int .i64 k, .string nx, .int .i64 vk, .bool vt, .int .i64 vi, .string vs, .slice p1 l1 c1, .slice p2 l2 c2, .slice p3 l3 c3, .slice p4 l4 c4] m)) ∧ Below w.heap.size w w' := by
  rcases par_two u ha hb s hs with ⟨q1, q2, h⟩ | ⟨q, x, h2, h⟩
  · refine (h w hT).mono fun e w' g => ⟨?_, g.2⟩
    exact ⟨_, _, _, _, _, _, _, _, _, _, _, _, _, _, _, _, _, _, _, _, g.1, .inl ⟨rfl, rfl, q1, q2⟩⟩
  · refine (h w hT).mono fun e w' g => ⟨?_, g.2⟩
    obtain ⟨⟨C, m, he, hx⟩, _⟩ := g
    obtain ⟨k, n, vk, vt, vi, vs, vl, vks, vav, vc, vkv, vkc, l, ks, av, c, kv, kc, e0, rfl, -⟩ := hx.here
    exact ⟨_, _, _, _, _, _, _, _, _, _, _, _, _, _, _, _, _, _, _, _, he, .inr ⟨rfl, q, x, m, h2, hx⟩⟩
/-- The cells of an expression of two operators. -/
theorem two_cells {a b : List UInt8} {x : Xp} {m : Nat} {w : World} {k : Int} {nx : ByteArray} {vk : Int} {vt : Bool} {vi : Int} {vs : ByteArray} {p1 p2 p3 p4 : Option Addr} {l1 c1 l2 c2 l3 c3 l4 c4 : Nat} (h2 : twoB a b x = true)
    (hx : IsE m w [.int .i64 k, .string nx, .int .i64 vk, .bool vt, .int .i64 vi, .string vs, .slice p1 l1 c1, .slice p2 l2 c2, .slice p3 l3 c3, .slice p4 l4 c4] x) :
    k = 7 ∧ l3 = 2 ∧ ∃ bb off kp np kq nq, p3 = some ⟨bb, off, none⟩ ∧ bb < w.heap.size ∧ w.cell? ⟨bb, off, none⟩ = some (.int .i64 kp) ∧ w.cell? ⟨bb, off + 1, none⟩ = some (.string np) ∧ w.cell? ⟨bb, off + 10, none⟩ = some (.int .i64 kq) ∧ w.cell? ⟨bb, off + 10 + 1, none⟩ = some (.string nq) ∧
      ((strB b ≤ strB a ∧ nx = ⟨b.toArray⟩ ∧ kp = 7 ∧ np = ⟨a.toArray⟩ ∧ kq ≠ 7) ∨ (¬ strB b ≤ strB a ∧ nx = ⟨a.toArray⟩ ∧ kq = 7 ∧ nq = ⟨b.toArray⟩ ∧ kp ≠ 7)) := by
  obtain ⟨k', n', uk, ut, ui, us, ul, uks, uav, uc, ukv, ukc, l, ks, av, c, kv, kc, rfl, eC, hV, -, -, -, -, -, -, hr⟩ := hx
  cases eC
  unfold twoB at h2
  rw [Bool.and_eq_true] at h2
  obtain ⟨hk, h2⟩ := h2
  have hk7 : k = 7 := of_decide_eq_true hk
  clear hk
  match l, hr, h2 with
  | [], hr, h2 => cases h2
  | [_], hr, h2 => cases h2
  | _ :: _ :: _ :: _, hr, h2 => cases h2
  | [p, q], hr, h2 =>
    have h2 : (if strB b ≤ strB a then decide (n' = b) && decide (p.kd = 7) && decide (p.nm = a) && decide (q.kd ≠ 7)
      else decide (n' = a) && decide (q.kd = 7) && decide (q.nm = b) && decide (p.kd ≠ 7)) = true := h2
    refine ⟨hk7, rfl, ?_⟩
    cases m with
    | zero => exact absurd (show ([p, q] : List Xp) = [] from hr) (by simp)
    | succ m =>
    obtain ⟨bb, off, D, e, hb, hD, hc⟩ := hr 0 p rfl
    obtain ⟨bb', off', D', e', hb', hD', hc'⟩ := hr 1 q rfl
    subst e
    injection e' with e'
    injection e' with e1 e2
    subst e1 e2
    obtain ⟨pk, pn, _, _, _, _, _, _, _, _, _, _, _, _, _, _, _, _, rfl, rfl, -⟩ := hD
    obtain ⟨qk, qn, _, _, _, _, _, _, _, _, _, _, _, _, _, _, _, _, rfl, rfl, -⟩ := hD'
    refine ⟨bb, off, pk, ⟨pn.toArray⟩, qk, ⟨qn.toArray⟩, rfl, hb, hc 0 _ rfl, ?_, hc' 0 _ rfl, hc' 1 _ rfl, ?_⟩
    · have := hc 1 _ rfl
      rwa [Nat.zero_mul, Nat.add_zero] at this
    · by_cases hs : strB b ≤ strB a
      · rw [if_pos hs] at h2
        simp only [Bool.and_eq_true, decide_eq_true_eq] at h2
        obtain ⟨⟨⟨g1, g2⟩, g3⟩, g4⟩ := h2
        exact .inl ⟨hs, by rw [g1], g2, by rw [show pn = a from g3], g4⟩
      · rw [if_neg hs] at h2
        simp only [Bool.and_eq_true, decide_eq_true_eq] at h2
        obtain ⟨⟨⟨g1, g2⟩, g3⟩, g4⟩ := h2
        exact .inr ⟨hs, by rw [g1], g2, by rw [show qn = b from g3], g4⟩
end Go.Proofs.YtjehhldboopocaaGreatDoor.Lx
namespace Go.Proofs.YtjehhldboopocaaGreatDoor.Lx
open Go.RowKit Go.Lib
set_option linter.unusedVariables false
/-- The strengths of the operators, in their order. -/
def strI : List Int := [2, 3, 4, 4, 4, 4, 4, 4, 5, 5, 6, 6, 6]
def opV (i : Nat) : ByteArray := ⟨(opsL.getD i []).toArray⟩
def strCells : Array Value := #[.string ⟨#[124, 124]⟩, .string ⟨#[38, 38]⟩, .string ⟨#[61, 61]⟩, .string ⟨#[33, 61]⟩, .string ⟨#[60]⟩, .string ⟨#[60, 61]⟩, .string ⟨#[62]⟩, .string ⟨#[62, 61]⟩, .string ⟨#[43]⟩, .string ⟨#[45]⟩, .string ⟨#[42]⟩, .string ⟨#[47]⟩, .string ⟨#[37]⟩]
def intCells : Array Value := #[.int .i64 2, .int .i64 3, .int .i64 4, .int .i64 4, .int .i64 4, .int .i64 4, .int .i64 4, .int .i64 4, .int .i64 5, .int .i64 5, .int .i64 6, .int .i64 6, .int .i64 6]
theorem str_cells (i : Nat) (h : i < 13) : strCells[i]? = some (.string (opV i)) := by
  rcases (show i = 0 ∨ i = 1 ∨ i = 2 ∨ i = 3 ∨ i = 4 ∨ i = 5 ∨ i = 6 ∨ i = 7 ∨ i = 8 ∨ i = 9 ∨ i = 10 ∨ i = 11 ∨ i = 12 by omega) with rfl | rfl | rfl | rfl | rfl | rfl | rfl | rfl | rfl | rfl | rfl | rfl | rfl <;> rfl
theorem int_cells (i : Nat) (h : i < 13) : intCells[i]? = some (.int .i64 (strB (opsL.getD i []) : Nat)) := by
  rcases (show i = 0 ∨ i = 1 ∨ i = 2 ∨ i = 3 ∨ i = 4 ∨ i = 5 ∨ i = 6 ∨ i = 7 ∨ i = 8 ∨ i = 9 ∨ i = 10 ∨ i = 11 ∨ i = 12 by omega) with rfl | rfl | rfl | rfl | rfl | rfl | rfl | rfl | rfl | rfl | rfl | rfl | rfl <;> rfl
theorem mem_ops {i : Nat} (h : i < 13) : opsL.getD i [] ∈ opsL := by
  have hl : opsL.length = 13 := rfl
  rw [List.getD_eq_getElem?_getD, List.getElem?_eq_getElem (by omega)]
  exact List.getElem_mem _
set_option maxRecDepth 100000 in
theorem ops_any (w : World) : Calls Tryz.prog 24 #[] w fun e w' => e = .returned (.tuple #[.slice (some ⟨w.heap.size, 0, none⟩) 13 13, .slice (some ⟨w.heap.size + 1, 0, none⟩) 13 13]) ∧ w' = (w.alloc (.cells strCells 9)).alloc (.cells intCells 3) := by
  unfold strCells intCells
  go_enter Tryz.func24, Tryz.ntmps24
  go_wp2_with fail
  exact bodyPost_ret (v := .tuple #[.slice (some ⟨w.heap.size, 0, none⟩) 13 13, .slice (some ⟨w.heap.size + 1, 0, none⟩) 13 13]) (by simp [results, Tryz.results24, go_sem]) rfl ⟨rfl, rfl⟩
end Go.Proofs.YtjehhldboopocaaGreatDoor.Lx
