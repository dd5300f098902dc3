/- Contract of the program's visit: it hands a value and its elements on, each before its own elements, with their levels (value). -/
import Derived.Test.YtabopneehhnhfabDoorValA
import Derived.RangeFuncNested
import Derived.RangeFuncBound
import Derived.RangeFuncCalls
import Derived.RangeFuncLeaves
import Derived.Shelf.Abstract
import Derived.Shelf.RegionOpen
import Derived.WalkKit
import Derived.OwnWalkIn
import Derived.TacticsInMore
import Derived.LoopNIn
import Derived.LoopIn
namespace Go.Proofs.YtabopneehhnhfabDoor
open Go.RowKit Go.Shelf

attribute [local go_sem] Oper.semAt_some

theorem room_of_none {F : Fence} (hd : F.depth = none) (k : Nat) : F.room k := fun d h => by rw [hd] at h; cases h
theorem round_anyDepth {F : Fence} (hd : F.depth = none) {m m' : Nat} {P : Program} {l : Nat} {f : FuncId} {tmps : Array Value} {assign body : Code} {w : World} {R : Ending → World → Prop}
    (h : RoundIn F m P l f tmps assign body w R) : RoundIn F m' P l f tmps assign body w R := ⟨h.1, fun c cs _ => h.2 c cs (room_of_none hd _)⟩
theorem yield_anyDepth {F : Fence} (hd : F.depth = none) {m : Nat} (m' : Nat) {P : Program} {l : Nat} {args : Array Value} {W : World} {R : Ending → World → Prop} (h : YieldAt F m P l args W R) : YieldAt F m' P l args W R := by
  obtain ⟨fn, tmps, assign, body, hy, hR⟩ := h
  exact ⟨fn, tmps, assign, body, hy, round_anyDepth hd hR⟩

/-- A part of a value: its level, its value, its tree, as it lay in w0. -/
abbrev Pt (w0 : World) : Type := { p : Int × Value × Vl // ∃ m, IsV m w0 p.2.1 p.2.2 }
def Pt.lt {w0 : World} (p : Pt w0) : Int × Vl := (p.1.1, p.1.2.2)
def encP {w0 : World} (p : Pt w0) : Array Value := #[.int .i64 p.1.1, p.1.2.1]
/-- A value's parts: itself, and then the parts of its elements. -/
def preV : Nat → Int → Vl → List (Int × Vl)
  | 0, lev, x => [(lev, x)]
  | m + 1, lev, .mk k t i s l ks => (lev, .mk k t i s l ks) :: l.flatMap (preV m (wrap64 (lev + 1)))
theorem flat_take {α β : Type} (f : α → List β) (l : List α) (j : Nat) (hj : j < l.length) : (l.take (j + 1)).flatMap f = (l.take j).flatMap f ++ f l[j] := by
  rw [List.take_succ_eq_append_getElem hj, List.flatMap_append, List.flatMap_cons, List.flatMap_nil, List.append_nil]
theorem flat_le {α β : Type} (f : α → List β) (l : List α) (j : Nat) (hj : j < l.length) : ((l.take j).flatMap f).length + (f l[j]).length ≤ (l.flatMap f).length := by
  conv => rhs; rw [← List.take_append_drop (j + 1) l, List.flatMap_append, flat_take f l j hj]
  simp
theorem flat_pre {α β : Type} (f : α → List β) (l : List α) (j : Nat) (hj : j < l.length) (q : List β) (h : q <+: f l[j]) : (l.take j).flatMap f ++ q <+: l.flatMap f := by
  conv => rhs; rw [← List.take_append_drop (j + 1) l, List.flatMap_append, flat_take f l j hj]
  obtain ⟨r, hr⟩ := h
  exact ⟨r ++ (l.drop (j + 1)).flatMap f, by rw [← hr]; simp⟩

/-- Every block of cells lies as it lay. -/
def KeepC (W W' : World) : Prop := W.heap.size ≤ W'.heap.size ∧ ∀ (j : Nat) (o : Obj), W.heap[j]? = some o → o.isCells = true → W'.heap[j]? = some o
theorem KeepC.refl (W : World) : KeepC W W := ⟨Nat.le_refl _, fun _ _ h _ => h⟩
theorem KeepC.trans {A B C : World} (h : KeepC A B) (k : KeepC B C) : KeepC A C := ⟨Nat.le_trans h.1 k.1, fun j o h1 h2 => k.2 j o (h.2 j o h1 h2) h2⟩
theorem KeepC.of_below {A B : World} (h : Below A.heap.size A B) : KeepC A B := ⟨h.size, fun j _ h1 _ => (h.block j (Array.getElem?_eq_some_iff.1 h1).1).trans h1⟩
theorem KeepC.alloc (W : World) (o : Obj) : KeepC W (W.alloc o) := KeepC.of_below ((Below.refl _ W).alloc (Nat.le_refl _) o)
theorem KeepC.put (W : World) (l : Nat) (o o' : Obj) (h : W.heap[l]? = some o) (hc : o.isCells = false) : KeepC W (W.putObj l o') :=
  ⟨by simp [World.putObj], fun j q h1 h2 => by
    have e : j ≠ l := by
      intro e
      subst e
      rw [h] at h1
      injection h1 with h1
      subst h1
      rw [hc] at h2
      cases h2
    exact (World.putObj_heap_other e).trans h1⟩
theorem KeepC.cell {W W' : World} (h : KeepC W W') {b off : Nat} {v : Value} (hc : W.cell? ⟨b, off, none⟩ = some v) : W'.cell? ⟨b, off, none⟩ = some v := by
  cases ho : W.heap[b]? with
  | none => simp [World.cell?, ho] at hc
  | some o =>
    cases hq : o.isCells with
    | true => simp only [World.cell?, ho] at hc; simp only [World.cell?, h.2 b o ho hq]; exact hc
    | false => cases o <;> simp_all [World.cell?, Obj.isCells]

set_option maxRecDepth 100000 in
set_option maxHeartbeats 4000000 in
theorem visit_in (F : Fence) (hd : F.depth = none) (hf : F.fn 69) (hro : F.round = none) (l N B : Nat) (w0 : World) (J Jx : List (Pt w0) → World → Prop) (hJ : AbidesFrom B J)
    (hY : ∀ m pre x W, J pre W → pre.length < N → YieldAt F m Tryd.prog l (encP x) W fun e W' =>
      (e = .returned (.bool true) ∧ J (pre ++ [x]) W' ∧ KeepC W W') ∨ (e = .returned (.bool false) ∧ Jx (pre ++ [x]) W')) :
    ∀ (m n : Nat) (lev : Int) (V : Value) (x : Vl) (pre : List (Pt w0)) (W : World), IsV m w0 V x → KeepC w0 W → J pre W → pre.length + (preV m lev x).length ≤ N →
      CallsIn F n Tryd.prog 69 #[V, .int .i64 lev, .func (.yield l) #[] #[]] W fun e W' =>
        (e = .returned (.bool true) ∧ (∃ ys : List (Pt w0), ys.map Pt.lt = preV m lev x ∧ J (pre ++ ys) W') ∧ KeepC W W') ∨ (e = .returned (.bool false) ∧ ∃ q : List (Pt w0), q.map Pt.lt <+: preV m lev x ∧ Jx (pre ++ q) W') := by
  intro m
  induction m using Nat.strongRecOn with
  | ind m ih =>
    intro n lev V x pre W hV hb hJ0 hN
    obtain ⟨k, t, i, s, l0, ks, av, c, kv, kc, rfl, rfl, g0, g1, g2, g3, g4, g5, g6, g7, g8, g9, hs, hl⟩ := id hV
    have hdd : ∀ k : Nat, (F.depth.isSome = true → 1 ≤ k) := fun k h => by rw [hd] at h; cases h
    have hJd : ∀ ys W1 o, J ys W1 → J ys (W1.alloc o) := fun ys W1 o h => hJ _ _ _ none h (World.grownBy_alloc _ _ none) (fun r e => by cases e)
    obtain ⟨f, hf0, hpre⟩ : ∃ f : Vl → List (Int × Vl), (∀ m', m = m' + 1 → f = preV m' (wrap64 (lev + 1))) ∧ preV m lev (.mk k t i s l0 ks) = (lev, .mk k t i s l0 ks) :: l0.flatMap f := by
      cases m with
      | zero =>
        have hl' : l0 = [] := hl
        subst hl'
        exact ⟨fun _ => [], fun _ h => by omega, rfl⟩
      | succ m => exact ⟨_, fun m' h => by rw [show m = m' by omega], rfl⟩
    rw [hpre] at hN ⊢
    rw [List.length_cons] at hN
    obtain ⟨p0, hlt, hen⟩ : ∃ p0 : Pt w0, p0.lt = (lev, .mk k t i s l0 ks) ∧ encP p0 = #[.int .i64 lev, .agg #[.int .i64 k, .bool t, .int .i64 i, .string s, .slice av l0.length c, .slice kv ks.length kc]] := ⟨⟨(lev, _, _), ⟨m, hV⟩⟩, rfl, rfl⟩
    obtain ⟨fn, tmps, assign, body, hy, hR⟩ := hY (n - 1) pre p0 (W.alloc (.cells #[.int .i64 k, .bool t, .int .i64 i, .string s, .slice av l0.length c, .slice kv ks.length kc] 33)) (hJd _ W _ hJ0) (by omega)
    rw [hen] at hy
    have HPRE := Lib.hid hpre
    have HL := Lib.hid hl
    have HIH := Lib.hid ih
    have HLT := Lib.hid hlt
    have HY := Lib.hid hY
    have HB := Lib.hid hb
    have HJD := Lib.hid hJd
    clear hV hpre hl ih hlt hen hY hb hJd g0 g1 g6 g7 g8 g9 hs
    refine callsIn_of_wp Tryd.func69 rfl hf ?_ hro
    simp only [Tryd.ntmps69, List.size_toArray, List.length_cons, List.length_nil, Nat.reduceAdd, Nat.reduceSub, Array.replicate_succ, Array.replicate_zero, List.push_toArray, List.append_toArray, List.nil_append, List.cons_append]
    gi_wp2
    try refine ⟨hdd _, ?_⟩
    refine hR.mono ?_
    clear hR
    rintro e W1 (⟨rfl, hJ1, hk1⟩ | ⟨rfl, hJx1⟩)
    · have hc4 := hk1.cell (b := W.heap.size) (off := 4) (v := .slice av l0.length c) (by simp)
      have HK1 := Lib.hid ((KeepC.alloc W _).trans hk1)
      have HJ1 := Lib.hid hJ1
      clear hk1 hJ1 hy
      gi_wp2
      gi_loopw [17] (fun s17 wr => ∃ (j : Nat) (ys : List (Pt w0)), j ≤ l0.length ∧ s17 = .int .i64 j ∧ ys.map Pt.lt = (lev, .mk k t i s l0 ks) :: (l0.take j).flatMap f ∧ J (pre ++ ys) wr ∧ KeepC W wr) (fun s17 _ => l0.length - (intOf s17).toNat)
      case atStart => exact ⟨0, [p0], Nat.zero_le _, rfl, by simp [HLT.out], HJ1.out, HK1.out⟩
      case round =>
        obtain ⟨j, ys, hj, rfl, hys, hJr, hkr⟩ := hrel
        have HYS := Lib.hid hys
        have HJR := Lib.hid hJr
        have HKR := Lib.hid hkr
        clear hys hJr hkr hc4 HK1 HJ1
        by_cases hlt : j < l0.length
        · cases m with
          | zero => exact absurd hlt (by have h : l0 = [] := HL.out; rw [h]; simp)
          | succ m =>
            obtain ⟨b, off, k', t', i', s', l', ks', av', c', kv', kc', h0, rfl, h2, c0, c1, c2, c3, c4, c5, q0, q1, q2, q3, q4, q5, q6, q7, q8, q9, hs', hl'⟩ := HL.out j hlt
            have HK0 := HB.out.trans HKR.out
            have d0 := HK0.cell c0
            have d1 := HK0.cell c1
            have d2 := HK0.cell c2
            have d3 := HK0.cell c3
            have d4 := HK0.cell c4
            have d5 := HK0.cell c5
            have hf := hf0 m rfl
            have hx : l0[j] = .mk k' t' i' s' l' ks' := (List.getElem?_eq_some_iff.1 h0).2
            have hlen : ys.length = 1 + ((l0.take j).flatMap f).length := by
              have h := congrArg List.length HYS.out
              rw [List.length_map, List.length_cons] at h
              omega
            have hfl := flat_le f l0 j hlt
            have hft := flat_take f l0 j hlt
            have hfp := flat_pre f l0 j hlt
            rw [hx] at hfl hft hfp
            have IH := HIH.out m (Nat.lt_succ_self m) (n - 1) (wrap64 (lev + 1)) (.agg #[.int .i64 k', .bool t', .int .i64 i', .string s', .slice av' l'.length c', .slice kv' ks'.length kc']) (.mk k' t' i' s' l' ks') (pre ++ ys)
              (wr.alloc (.cells #[.int .i64 k', .bool t', .int .i64 i', .string s', .slice av' l'.length c', .slice kv' ks'.length kc'] 33)) ⟨k', t', i', s', l', ks', av', c', kv', kc', rfl, rfl, q0, q1, q2, q3, q4, q5, q6, q7, q8, q9, hs', hl'⟩
              (HK0.trans (KeepC.alloc _ _)) (HJD.out _ _ _ HJR.out) (by rw [List.length_append]; rw [← hf]; omega)
            rw [← hf] at IH
            have HFT := Lib.hid hft
            have HFP := Lib.hid hfp
            have HKA := Lib.hid (HKR.out.trans (KeepC.alloc wr (.cells #[.int .i64 k', .bool t', .int .i64 i', .string s', .slice av' l'.length c', .slice kv' ks'.length kc'] 33)))
            clear hft hfp hfl hlen h0 hx hf hf0 HK0 c0 c1 c2 c3 c4 c5 q0 q1 q2 q3 q4 q5 q6 q7 q8 q9 hs' hl' HL HB HIH
            gi_wp2_with ((try refine ⟨hdd _, ?_⟩); gi_at_call 69; refine IH.mono ?_; clear IH; rintro e W2 (⟨rfl, ⟨zs, hzs, hJ2⟩, hk2⟩ | ⟨rfl, q, hq, hJx2⟩))
            · exact ⟨⟨j + 1, ys ++ zs, by omega, by go_num, by rw [List.map_append, HYS.out, hzs, HFT.out, List.cons_append], by rw [← List.append_assoc]; exact hJ2, HKA.out.trans hk2⟩, by simp [intOf]; omega⟩
            · go_ret
              exact .inr ⟨rfl, ys ++ q, by rw [List.map_append, HYS.out, List.cons_append]; exact List.prefix_cons_inj _ |>.2 (HFP.out _ hq), by rw [← List.append_assoc]; exact hJx2⟩
        · gi_wp2
          go_ret
          obtain rfl : j = l0.length := by omega
          exact .inl ⟨rfl, ⟨ys, by rw [HYS.out, List.take_length], HJR.out⟩, HKR.out⟩
    · have HX := Lib.hid hJx1
      clear hJx1 hy
      gi_wp2
      go_ret
      exact .inr ⟨rfl, [p0], ⟨l0.flatMap f, by simp [HLT.out]⟩, HX.out⟩
end Go.Proofs.YtabopneehhnhfabDoor
