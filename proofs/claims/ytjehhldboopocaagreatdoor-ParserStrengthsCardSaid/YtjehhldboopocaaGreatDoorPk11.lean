/- Contracts of functions of the program, and what they are made of (parser; Pk11). -/
import Derived.Test.YtjehhldboopocaaGreatDoorPk09
import Derived.Test.YtjehhldboopocaaGreatDoorPk10
import Derived.RangeFuncNested
import Derived.RangeFuncBound
import Derived.RangeFuncCalls
import Derived.RangeFuncLeaves
import Derived.Shelf.Abstract
import Derived.Shelf.RegionOpen
import Derived.WalkKit
import Derived.OwnWalkIn
import Derived.TacticsInMore
import Derived.LoopNIn
import Derived.LoopIn
import Derived.RangeFuncFrom
namespace Go.Proofs.YtjehhldboopocaaGreatDoor.Lx
open Go.RowKit Go.Shelf
attribute [local go_sem] Oper.semAt_some
/-- Names of at most 2^40 bytes, m levels down. -/
def Sm : Nat → Xp → Prop
  | 0, x => x.nm.length ≤ 1099511627776
  | m + 1, .mk _ _ n l _ => n.length ≤ 1099511627776 ∧ ∀ y ∈ l, Sm m y
def AllSm (x : Xp) : Prop := ∀ m, Sm m x
theorem AllSm.arg {k : Int} {v : Vl} {n : List UInt8} {l : List Xp} {ks : List (List UInt8)} (h : AllSm (.mk k v n l ks)) {y : Xp} (hy : y ∈ l) : AllSm y := fun m => (h (m + 1)).2 y hy
theorem AllSm.own {x : Xp} (h : AllSm x) : x.nm.length ≤ 1099511627776 := h 0
/-- A node of an expression: its level, its cells, its tree, as it lay in w0. -/
abbrev Pe (w0 : World) : Type := { p : Int × List Value × Xp // (∃ m, IsE m w0 p.2.1 p.2.2) ∧ AllSm p.2.2 }
def Pe.lt {w0 : World} (p : Pe w0) : Int × Xp := (p.1.1, p.1.2.2)
def encE {w0 : World} (p : Pe w0) : Array Value := #[.int .i64 p.1.1, .agg p.1.2.1.toArray]
/-- An expression's nodes: itself, and then the nodes of its args. -/
def preE : Nat → Int → Xp → List (Int × Xp)
  | 0, lev, x => [(lev, x)]
  | m + 1, lev, .mk k v n l ks => (lev, .mk k v n l ks) :: l.flatMap (preE m (wrap64 (lev + 1)))

/-- What lies in cells stays, apart from one block. -/
def KeepX (Bx : Nat) (W W' : World) : Prop := W.heap.size ≤ W'.heap.size ∧ ∀ (j : Nat) (o : Obj), j ≠ Bx → W.heap[j]? = some o → o.isCells = true → W'.heap[j]? = some o
theorem KeepX.refl (Bx : Nat) (W : World) : KeepX Bx W W := ⟨Nat.le_refl _, fun _ _ _ h _ => h⟩
theorem KeepX.trans {Bx : Nat} {A B C : World} (h : KeepX Bx A B) (k : KeepX Bx B C) : KeepX Bx A C := ⟨Nat.le_trans h.1 k.1, fun j o h0 h1 h2 => k.2 j o h0 (h.2 j o h0 h1 h2) h2⟩
theorem KeepX.of_keep {Bx : Nat} {A B : World} (h : KeepC A B) : KeepX Bx A B := ⟨h.1, fun j o _ h1 h2 => h.2 j o h1 h2⟩
theorem KeepX.of_below {Bx : Nat} {A B : World} (h : Below A.heap.size A B) : KeepX Bx A B := KeepX.of_keep (KeepC.of_below h)
theorem KeepX.alloc {Bx : Nat} (W : World) (o : Obj) : KeepX Bx W (W.alloc o) := KeepX.of_keep (KeepC.alloc W o)
theorem KeepX.put {Bx : Nat} (W : World) (l : Nat) (o o' : Obj) (h : W.heap[l]? = some o) (hc : o.isCells = false) : KeepX Bx W (W.putObj l o') := KeepX.of_keep (KeepC.put W l o o' h hc)
theorem KeepX.set {Bx : Nat} (W : World) (v : Value) : KeepX Bx W (W.setCell ⟨Bx, 0, none⟩ v) :=
  ⟨by rw [World.size_setCell]; exact Nat.le_refl _, fun j o h0 h1 _ => ((grownBy_setCell' W Bx v).block j (Array.getElem?_eq_some_iff.1 h1).1 (fun e => h0 (by cases e; rfl))).trans h1⟩
theorem cell_ltX {W : World} {b off : Nat} {v : Value} (hc : W.cell? ⟨b, off, none⟩ = some v) : b < W.heap.size := by
  rcases Nat.lt_or_ge b W.heap.size with h | h
  · exact h
  · simp [World.cell?, Array.getElem?_eq_none h] at hc
theorem KeepX.cell {Bx : Nat} {W W' : World} (h : KeepX Bx W W') {b off : Nat} (hb : b ≠ Bx) {v : Value} (hc : W.cell? ⟨b, off, none⟩ = some v) : W'.cell? ⟨b, off, none⟩ = some v := by
  cases ho : W.heap[b]? with
  | none => simp [World.cell?, ho] at hc
  | some o =>
    cases hq : o.isCells with
    | true => simp only [World.cell?, ho] at hc; simp only [World.cell?, h.2 b o hb ho hq]; exact hc
    | false => cases o <;> simp_all [World.cell?, Obj.isCells]

set_option maxRecDepth 100000 in
set_option maxHeartbeats 8000000 in
theorem visitE_in (F : Fence) (hd : F.depth = none) (hf : F.fn 56) (hro : F.round = none) (l N B Bx : Nat) (w0 : World) (hBx : w0.heap.size ≤ Bx) (J Jx : List (Pe w0) → World → Prop) (hJ : AbidesFrom B J)
    (hY : ∀ m pre x W, J pre W → pre.length < N → YieldAt F m Tryz.prog l (encE x) W fun e W' =>
      (e = .returned (.bool true) ∧ J (pre ++ [x]) W' ∧ KeepX Bx W W') ∨ (e = .returned (.bool false) ∧ Jx (pre ++ [x]) W')) :
    ∀ (m n : Nat) (lev : Int) (C : List Value) (x : Xp) (pre : List (Pe w0)) (W : World), IsE m w0 C x → AllSm x → KeepX Bx w0 W → Bx < W.heap.size → J pre W → pre.length + (preE m lev x).length ≤ N →
      CallsIn F n Tryz.prog 56 #[.agg C.toArray, .int .i64 lev, .func (.yield l) #[] #[]] W fun e W' =>
        (e = .returned (.bool true) ∧ (∃ ys : List (Pe w0), ys.map Pe.lt = preE m lev x ∧ J (pre ++ ys) W') ∧ KeepX Bx W W') ∨ (e = .returned (.bool false) ∧ ∃ q : List (Pe w0), q.map Pe.lt <+: preE m lev x ∧ Jx (pre ++ q) W') := by
  intro m
  induction m using Nat.strongRecOn with
  | ind m ih =>
    intro n lev C x pre W hV hSm hb hbx hJ0 hN
    obtain ⟨k, nm, vk, vt, vi, vs, vl, vks, vav, vc, vkv, vkc, l0, ks, av, c, kv, kc, rfl, rfl, hvv, g1, g2, g3, g4, g5, hs, hl⟩ := id hV
    have hdd : ∀ k : Nat, (F.depth.isSome = true → 1 ≤ k) := fun k h => by rw [hd] at h; cases h
    have hJd : ∀ ys W1 o, J ys W1 → J ys (W1.alloc o) := fun ys W1 o h => hJ _ _ _ none h (World.grownBy_alloc _ _ none) (fun r e => by cases e)
    obtain ⟨xv, hxv⟩ : ∃ xv : Vl, xv = .mk vk vt vi vs vl vks := ⟨_, rfl⟩
    rw [← hxv] at hV hSm hN hvv ⊢
    obtain ⟨f, hf0, hpre⟩ : ∃ f : Xp → List (Int × Xp), (∀ m', m = m' + 1 → f = preE m' (wrap64 (lev + 1))) ∧ preE m lev (.mk k xv nm l0 ks) = (lev, .mk k xv nm l0 ks) :: l0.flatMap f := by
      cases m with
      | zero =>
        have hl' : l0 = [] := hl
        subst hl'
        exact ⟨fun _ => [], fun _ h => by omega, rfl⟩
      | succ m => exact ⟨_, fun m' h => by rw [show m = m' by omega], rfl⟩
    rw [hpre] at hN ⊢
    rw [List.length_cons] at hN
    obtain ⟨nx, hnx⟩ : ∃ nx : ByteArray, nx = ⟨nm.toArray⟩ := ⟨_, rfl⟩
    rw [← hnx] at hV ⊢
    obtain ⟨p0, hlt, hen⟩ : ∃ p0 : Pe w0, p0.lt = (lev, .mk k xv nm l0 ks) ∧ encE p0 = #[.int .i64 lev, .agg #[.int .i64 k, .string nx, .int .i64 vk, .bool vt, .int .i64 vi, .string vs, .slice vav vl.length vc, .slice vkv vks.length vkc, .slice av l0.length c, .slice kv ks.length kc]] := ⟨⟨(lev, _, _), ⟨m, hV⟩, hSm⟩, rfl, rfl⟩
    obtain ⟨fn, tmps, assign, body, hy, hR⟩ := hY (n - 1) pre p0 (W.alloc (.cells #[.int .i64 k, .string nx, .int .i64 vk, .bool vt, .int .i64 vi, .string vs, .slice vav vl.length vc, .slice vkv vks.length vkc, .slice av l0.length c, .slice kv ks.length kc] 29)) (hJd _ W _ hJ0) (by omega)
    rw [hen] at hy
    have g3l := g3.1
    have HSM := Lib.hid hSm
    have HPRE := Lib.hid hpre
    have HL := Lib.hid hl
    have HIH := Lib.hid ih
    have HLT := Lib.hid hlt
    have HY := Lib.hid hY
    have HB := Lib.hid hb
    have HJD := Lib.hid hJd
    clear hSm hV hpre hl ih hlt hen hY hb hJd g1 g4 g5 hs hvv hxv hnx g2
    refine callsIn_of_wp Tryz.func56 rfl hf ?_ hro
    simp only [Tryz.ntmps56, List.size_toArray, List.length_cons, List.length_nil, Nat.reduceAdd, Nat.reduceSub, Array.replicate_succ, Array.replicate_zero, List.push_toArray, List.append_toArray, List.nil_append, List.cons_append]
    gi_wp2
    try refine ⟨hdd _, ?_⟩
    refine hR.mono ?_
    clear hR
    rintro e W1 (⟨rfl, hJ1, hk1⟩ | ⟨rfl, hJx1⟩)
    · have hc4 := hk1.cell (b := W.heap.size) (by omega) (off := 8) (v := .slice av l0.length c) (by simp)
      have HK1 := Lib.hid ((KeepX.alloc W _).trans hk1)
      have HJ1 := Lib.hid hJ1
      clear hk1 hJ1 hy
      gi_wp2
      gi_loopw [17] (fun s17 wr => ∃ (j : Nat) (ys : List (Pe w0)), j ≤ l0.length ∧ s17 = .int .i64 j ∧ ys.map Pe.lt = (lev, .mk k xv nm l0 ks) :: (l0.take j).flatMap f ∧ J (pre ++ ys) wr ∧ KeepX Bx W wr) (fun s17 _ => l0.length - (intOf s17).toNat)
      case atStart => exact ⟨0, [p0], Nat.zero_le _, rfl, by simp [HLT.out], HJ1.out, HK1.out⟩
      case round =>
        obtain ⟨j, ys, hj, rfl, hys, hJr, hkr⟩ := hrel
        have HYS := Lib.hid hys
        have HJR := Lib.hid hJr
        have HKR := Lib.hid hkr
        clear hys hJr hkr hc4 HK1 HJ1
        by_cases hlt : j < l0.length
        · cases m with
          | zero => exact absurd hlt (by have h : l0 = [] := HL.out; rw [h]; simp)
          | succ m =>
            obtain ⟨b, off, C', rfl, h2, hcore, hcells⟩ := HL.out j l0[j] (List.getElem?_eq_getElem hlt)
            have hIs : IsE m w0 C' l0[j] := hcore
            obtain ⟨k', nm', vk', vt', vi', vs', vl', vks', vav', vc', vkv', vkc', l', ks', av', c', kv', kc', hx, rfl, _, _, _, q3, q4, _⟩ := id hcore
            have HK0 := HB.out.trans HKR.out
            obtain ⟨nx', hnx'⟩ : ∃ nx' : ByteArray, nx' = ⟨nm'.toArray⟩ := ⟨_, rfl⟩
            rw [← hnx'] at hcells hIs
            have hb0 : ∀ (o : Nat) (v : Value), w0.cell? ⟨b, o, none⟩ = some v → b ≠ Bx := fun o v h => by
              have := cell_ltX h
              omega
            have d0 := HK0.cell (hb0 _ _ (hcells 0 (.int .i64 k') rfl)) (hcells 0 (.int .i64 k') rfl)
            have d1 := HK0.cell (hb0 _ _ (hcells 1 (.string nx') rfl)) (hcells 1 (.string nx') rfl)
            have d2 := HK0.cell (hb0 _ _ (hcells 2 (.int .i64 vk') rfl)) (hcells 2 (.int .i64 vk') rfl)
            have d3 := HK0.cell (hb0 _ _ (hcells 3 (.bool vt') rfl)) (hcells 3 (.bool vt') rfl)
            have d4 := HK0.cell (hb0 _ _ (hcells 4 (.int .i64 vi') rfl)) (hcells 4 (.int .i64 vi') rfl)
            have d5 := HK0.cell (hb0 _ _ (hcells 5 (.string vs') rfl)) (hcells 5 (.string vs') rfl)
            have d6 := HK0.cell (hb0 _ _ (hcells 6 (.slice vav' vl'.length vc') rfl)) (hcells 6 (.slice vav' vl'.length vc') rfl)
            have d7 := HK0.cell (hb0 _ _ (hcells 7 (.slice vkv' vks'.length vkc') rfl)) (hcells 7 (.slice vkv' vks'.length vkc') rfl)
            have d8 := HK0.cell (hb0 _ _ (hcells 8 (.slice av' l'.length c') rfl)) (hcells 8 (.slice av' l'.length c') rfl)
            have d9 := HK0.cell (hb0 _ _ (hcells 9 (.slice kv' ks'.length kc') rfl)) (hcells 9 (.slice kv' ks'.length kc') rfl)
            rw [Nat.add_zero] at d0
            have hf := hf0 m rfl
            have hlen : ys.length = 1 + ((l0.take j).flatMap f).length := by
              have h := congrArg List.length HYS.out
              rw [List.length_map, List.length_cons] at h
              omega
            have hfl := flat_le f l0 j hlt
            have hft := flat_take f l0 j hlt
            have hfp := flat_pre f l0 j hlt
            have hSy := HSM.out.arg (List.getElem_mem hlt)
            obtain ⟨y, hy⟩ : ∃ y, y = l0[j] := ⟨_, rfl⟩
            rw [← hy] at hfl hft hfp hIs hSy
            have IH := HIH.out m (Nat.lt_succ_self m) (n - 1) (wrap64 (lev + 1)) [.int .i64 k', .string nx', .int .i64 vk', .bool vt', .int .i64 vi', .string vs', .slice vav' vl'.length vc', .slice vkv' vks'.length vkc', .slice av' l'.length c', .slice kv' ks'.length kc'] y (pre ++ ys)
              (wr.alloc (.cells #[.int .i64 k', .string nx', .int .i64 vk', .bool vt', .int .i64 vi', .string vs', .slice vav' vl'.length vc', .slice vkv' vks'.length vkc', .slice av' l'.length c', .slice kv' ks'.length kc'] 29)) hIs hSy
              (HK0.trans (KeepX.alloc _ _)) (by rw [World.size_alloc]; have := HKR.out.1; omega) (HJD.out _ _ _ HJR.out) (by rw [List.length_append]; rw [← hf]; omega)
            rw [← hf] at IH
            have HFT := Lib.hid hft
            have HFP := Lib.hid hfp
            have HKA := Lib.hid (HKR.out.trans (KeepX.alloc wr (.cells #[.int .i64 k', .string nx', .int .i64 vk', .bool vt', .int .i64 vi', .string vs', .slice vav' vl'.length vc', .slice vkv' vks'.length vkc', .slice av' l'.length c', .slice kv' ks'.length kc'] 29)))
            clear hSy hb0 hft hfp hfl hlen hx hf hf0 HK0 q3 q4 HL HB HIH hcells hcore hIs hnx' hy
            gi_wp2_with ((try refine ⟨hdd _, ?_⟩); gi_at_call 56; refine IH.mono ?_; clear IH; rintro e W2 (⟨rfl, ⟨zs, hzs, hJ2⟩, hk2⟩ | ⟨rfl, q, hq, hJx2⟩))
            · exact ⟨⟨j + 1, ys ++ zs, by omega, by go_num, by rw [List.map_append, HYS.out, hzs, HFT.out, List.cons_append], by rw [← List.append_assoc]; exact hJ2, HKA.out.trans hk2⟩, by simp [intOf]; omega⟩
            · go_ret
              exact .inr ⟨rfl, ys ++ q, by rw [List.map_append, HYS.out, List.cons_append]; exact List.prefix_cons_inj _ |>.2 (HFP.out _ hq), by rw [← List.append_assoc]; exact hJx2⟩
        · gi_wp2
          go_ret
          obtain rfl : j = l0.length := by omega
          exact .inl ⟨rfl, ⟨ys, by rw [HYS.out, List.take_length], HJR.out⟩, HKR.out⟩
    · have HX := Lib.hid hJx1
      clear hJx1 hy
      gi_wp2
      go_ret
      exact .inr ⟨rfl, [p0], ⟨l0.flatMap f, by simp [HLT.out]⟩, HX.out⟩
end Go.Proofs.YtjehhldboopocaaGreatDoor.Lx
namespace Go.Proofs.YtjehhldboopocaaGreatDoor
open Go.RowKit Go.Shelf
attribute [local go_sem] Oper.semAt_some
theorem keepsOthers_below {W W' : World} (h : Below W.heap.size W W') : KeepsOthers W W' := ⟨h.size, fun i _ hi _ => (h.block i (Array.getElem?_eq_some_iff.1 hi).1).trans hi⟩

set_option maxRecDepth 100000 in
set_option maxHeartbeats 1000000 in
theorem parts1_in (F : Fence) (hd : F.depth = none) (hf : F.fn 172) (h1 : F.fn 171) (hro : F.round = none) (n l N Bv Bl m : Nat) (w0 : World) (lev k : Int) (t : Bool) (i : Int) (s : ByteArray) (sl kl : Value) (x : Vl) (J Jx : List (Pt w0) → World → Prop)
    (hY : ∀ pre x W, J pre W → pre.length < N → YieldAt F (n - 1) Tryz.prog l (encP x) W fun e W' =>
      (e = .returned (.bool true) ∧ J (pre ++ [x]) W' ∧ KeepC W W') ∨ (e = .returned (.bool false) ∧ Jx (pre ++ [x]) W'))
    (W : World) (hJ : AbidesFrom W.heap.size J) (hV : IsV m w0 (.agg #[.int .i64 k, .bool t, .int .i64 i, .string s, sl, kl]) x) (hb : KeepC w0 W) (hBv : V6 W Bv k t i s sl kl) (hBl : W.cell? ⟨Bl, 0, none⟩ = some (.int .i64 lev)) (h0 : J [] W) (hN : (preV m lev x).length ≤ N) :
    CallsIn F n Tryz.prog 171 #[.func (.yield l) #[] #[], .pointer (some ⟨Bv, 0, none⟩), .pointer (some ⟨Bl, 0, none⟩)] W fun e W' => (∃ v, e = .returned v) ∧
      ((∃ ys : List (Pt w0), ys.map Pt.lt = preV m lev x ∧ J ys W') ∨ (∃ pre : List (Pt w0), pre.map Pt.lt <+: preV m lev x ∧ Jx pre W')) := by
  have hdd : ∀ k : Nat, (F.depth.isSome = true → 1 ≤ k) := fun k h => by rw [hd] at h; cases h
  have hp := Lib.hid (visit_in F hd hf hro l N W.heap.size w0 J Jx hJ (fun m pre x W hj hl => yield_anyDepth hd m (hY pre x W hj hl)) m (n - 1) lev _ x [] W hV hb h0 (by simpa using hN))
  obtain ⟨hlt, c0, c1, c2, c3, c4, c5⟩ := hBv
  clear hV
  refine callsIn_of_wp Tryz.func171 rfl h1 ?_ hro
  simp only [Tryz.ntmps171, List.size_toArray, List.length_cons, List.length_nil, Nat.reduceAdd, Nat.reduceSub, Array.replicate_succ, Array.replicate_zero, List.push_toArray, List.append_toArray, List.nil_append, List.cons_append]
  gi_wp2_with ((try refine ⟨hdd _, ?_⟩); gi_at_call 172; refine hp.out.mono ?_; clear hp; rintro e W1 (⟨rfl, ⟨ys, hys, hJ1⟩, _⟩ | ⟨rfl, q, hq, hx⟩))
  · go_end0
    exact ⟨⟨_, rfl⟩, .inl ⟨ys, hys, by simpa using hJ1⟩⟩
  · go_end0
    exact ⟨⟨_, rfl⟩, .inr ⟨q, hq, by simpa using hx⟩⟩

set_option maxHeartbeats 1000000 in
/-- parts(v, level): both are boxed; the function value captures the boxes. -/
theorem parts_in (F : Fence) (n : Nat) (hf : F.fn 136) (hro : F.round = none) (lev k : Int) (t : Bool) (i : Int) (s : ByteArray) (av kv : Option Addr) (c c' kc kc' : Nat) (w : World) :
    CallsIn F n Tryz.prog 136 #[.agg #[.int .i64 k, .bool t, .int .i64 i, .string s, .slice av c c', .slice kv kc kc'], .int .i64 lev] w fun e w' => e = .returned (.func (.func 171) #[] #[.pointer (some ⟨w.heap.size, 0, none⟩), .pointer (some ⟨w.heap.size + 1, 0, none⟩)]) ∧
      w' = (w.alloc (.cells #[.int .i64 k, .bool t, .int .i64 i, .string s, .slice av c c', .slice kv kc kc'] 26)).alloc (.cells #[.int .i64 lev] 3) := by
  refine callsIn_of_wp Tryz.func136 rfl hf ?_ hro
  simp only [Tryz.ntmps136, List.size_toArray, List.length_cons, List.length_nil, Nat.reduceAdd, Nat.reduceSub, Array.replicate_succ, Array.replicate_zero, List.push_toArray, List.append_toArray, List.nil_append, List.cons_append]
  gi_wp2
  go_ret
  exact ⟨rfl, rfl⟩

theorem V6_own {β : Type} (B : Nat) (k : Int) (t : Bool) (i : Int) (s : ByteArray) (sl kl : Value) : Own (fun (_ : β) W => V6 W B k t i s sl kl) := fun _ X Y row hs hg hr => by
  obtain ⟨h0, c0, c1, c2, c3, c4, c5⟩ := hs
  exact ⟨Nat.lt_of_lt_of_le h0 hg.size, cell_kept c0 hg hr, cell_kept c1 hg hr, cell_kept c2 hg hr, cell_kept c3 hg hr, cell_kept c4 hg hr, cell_kept c5 hg hr⟩
theorem parts_stops (F : Fence) (hd : F.depth = none) (n : Nat) (hf : F.fn 172) (h1 : F.fn 171) (hro : F.round = none) (Bv Bl m : Nat) (lev k : Int) (t : Bool) (i : Int) (s : ByteArray) (sl kl : Value) (x : Vl) (w0 w : World) (hw : Below w0.heap.size w0 w)
    (hV : IsV m w0 (.agg #[.int .i64 k, .bool t, .int .i64 i, .string s, sl, kl]) x) (hBv : V6 w Bv k t i s sl kl) (hlt : Bl < w.heap.size) (hBl : w.cell? ⟨Bl, 0, none⟩ = some (.int .i64 lev)) :
    SeqStopsK F n Tryz.prog 171 #[.pointer (some ⟨Bv, 0, none⟩), .pointer (some ⟨Bl, 0, none⟩)] (encP (w0 := w0)) KeepC (fun ys => ys.map Pt.lt = preV m lev x) (fun pre => pre.map Pt.lt <+: preV m lev x) (preV m lev x).length w := fun l J Jx W hW hJ _ hY h0 =>
  parts1_in F hd hf h1 hro n l _ Bv Bl m w0 lev k t i s sl kl x J Jx hY W hJ hV ((KeepC.of_below hw).trans (KeepC.of_below hW)) (hBv.below hBv.1 hW) ((hW.cell (p := ⟨Bl, 0, none⟩) hlt).trans hBl) h0 (Nat.le_refl _)

set_option maxRecDepth 100000 in
set_option maxHeartbeats 4000000 in
theorem validFrom_any (m : Nat) (V : Value) (x : Vl) (lev : Int) (w : World) (hV : IsV m w V x) :
    Calls Tryz.prog 98 #[V, .int .i64 lev] w fun e w' => e = .returned (.int .i64 (firstP (preV m lev x) : Nat)) ∧ Below w.heap.size w w' := by
  obtain ⟨k, t, i, s, l, ks, av, c, kv, kc, rfl, rfl, g0, g1, g2, g3, g4, g5, g6, g7, g8, g9, hs, hl⟩ := id hV
  obtain ⟨ps, hps⟩ : ∃ ps, ps = preV m lev (.mk k t i s l ks) := ⟨_, rfl⟩
  rw [← hps]
  have HPS := Lib.hid hps
  clear hps
  refine (callsIn_wide (n := 3)).1 ?_
  refine callsIn_of_wp_marks Tryz.func98 rfl trivial ?_ rfl
  simp only [Tryz.ntmps98, List.size_toArray, List.length_cons, List.length_nil, Nat.reduceAdd, Nat.reduceSub, Array.replicate_succ, Array.replicate_zero, List.push_toArray, List.append_toArray, List.nil_append, List.cons_append]
  gi_wp2_with (first
    | (refine ⟨trivial, ?_⟩; gi_at_call 136; refine (parts_in Fence.wide _ trivial rfl _ _ _ _ _ _ _ _ _ _ _ _).mono ?_; rintro e w2 ⟨rfl, rfl⟩))
  obtain ⟨W0, hW0⟩ : ∃ W0, (((w.alloc (.cells #[.int .i64 k, .bool t, .int .i64 i, .string s, .slice av l.length c, .slice kv ks.length kc] 26)).alloc (.cells #[.int .i64 0] 30)).alloc (.cells #[.int .i64 k, .bool t, .int .i64 i, .string s, .slice av l.length c, .slice kv ks.length kc] 26)).alloc (.cells #[.int .i64 lev] 3) = W0 := ⟨_, rfl⟩
  have hW0s : W0.heap.size = w.heap.size + 1 + 1 + 1 + 1 := by rw [← hW0]; simp
  have hB0 : Below w.heap.size w W0 := by rw [← hW0]; exact ((((Below.refl _ w).alloc (Nat.le_refl _) _).alloc (by simp) _).alloc (by simp; omega) _).alloc (by simp; omega) _
  have bR : Boxed W0 (w.heap.size + 1) 30 (.int .i64 0) := by
    have h := ((Boxed.new (w.alloc (.cells #[.int .i64 k, .bool t, .int .i64 i, .string s, .slice av l.length c, .slice kv ks.length kc] 26)) 30 (.int .i64 0)).alloc (.cells #[.int .i64 k, .bool t, .int .i64 i, .string s, .slice av l.length c, .slice kv ks.length kc] 26)).alloc (.cells #[.int .i64 lev] 3)
    rw [hW0, World.size_alloc] at h
    exact h
  have c2 : V6 W0 (w.heap.size + 1 + 1) k t i s (.slice av l.length c) (.slice kv ks.length kc) := by
    have h := (V6_new ((w.alloc (.cells #[.int .i64 k, .bool t, .int .i64 i, .string s, .slice av l.length c, .slice kv ks.length kc] 26)).alloc (.cells #[.int .i64 0] 30)) k t i s (.slice av l.length c) (.slice kv ks.length kc)).below (by simp) ((Below.refl _ _).alloc (Nat.le_refl _) (.cells #[.int .i64 lev] 3))
    rw [hW0] at h
    simpa using h
  have c3 : W0.cell? ⟨w.heap.size + 1 + 1 + 1, 0, none⟩ = some (.int .i64 lev) := by
    have h := Boxed.new (((w.alloc (.cells #[.int .i64 k, .bool t, .int .i64 i, .string s, .slice av l.length c, .slice kv ks.length kc] 26)).alloc (.cells #[.int .i64 0] 30)).alloc (.cells #[.int .i64 k, .bool t, .int .i64 i, .string s, .slice av l.length c, .slice kv ks.length kc] 26)) 3 (.int .i64 lev)
    rw [hW0, World.size_alloc, World.size_alloc, World.size_alloc] at h
    exact h.cell
  rw [hW0]
  have hst := parts_stops Fence.wide rfl (3 - 1) trivial trivial rfl (w.heap.size + 1 + 1) (w.heap.size + 1 + 1 + 1) m lev k t i s _ _ _ w W0 hB0 hV c2 (by omega) c3
  rw [← HPS.out] at hst
  clear c2 c3 hW0
  refine wpIn_rangeFunc_ownH rfl (by omega) (gf := 171) (lb := #[.pointer (some ⟨w.heap.size + 1 + 1, 0, none⟩), .pointer (some ⟨w.heap.size + 1 + 1 + 1, 0, none⟩)]) rfl trivial (enters_of Tryz.func171 (by kernel_rfl) rfl)
    hst KeepC.trans (fun W l o o' _ h hc _ => KeepC.put W l o o' h hc) (Below.refl _ _) (fun _ => rfl)
    (fun pre W => Boxed W (w.heap.size + 1) 30 (.int .i64 0) ∧ (firstP (pre.map Pt.lt) = 0 ∧ Below w.heap.size w W))
    (fun c pre W => (c = .ret ∧ firstP (pre.map Pt.lt) ≠ 0) ∧ (Boxed W (w.heap.size + 1) 30 (.int .i64 (firstP (pre.map Pt.lt) : Nat)) ∧ Below w.heap.size w W))
    (OwnFrom.and (Own.from (boxed_own _ _ _) _) (OwnFrom.and (fun _ _ _ _ hs _ _ => hs) (ownFrom_below (Nat.le_refl _) (by omega))))
    (fun c => OwnFrom.and (fun _ _ _ _ hs _ _ => hs) (OwnFrom.and (Own.from (boxed_own _ _ _) _) (ownFrom_below (Nat.le_refl _) (by omega))))
    ⟨bR, rfl, hB0⟩
    (fun x a' W => ∃ Bx k' t' i' s' sl' kl', x.1.2.1 = .agg #[.int .i64 k', .bool t', .int .i64 i', .string s', sl', kl'] ∧ w.heap.size + 1 < Bx ∧ V6 W Bx k' t' i' s' sl' kl' ∧ a' = { tmps := #[.agg #[.int .i64 k, .bool t, .int .i64 i, .string s, .slice av l.length c, .slice kv ks.length kc], .int .i64 lev, .pointer (some ⟨w.heap.size, 0, none⟩), undef, .pointer (some ⟨w.heap.size + 1, 0, none⟩), .int .i64 x.1.1, .pointer (some ⟨Bx, 0, none⟩), undef, .agg #[.int .i64 k, .bool t, .int .i64 i, .string s, .slice av l.length c, .slice kv ks.length kc], .int .i64 lev,
      .func (.func 171) #[] #[.pointer (some ⟨w.heap.size + 1 + 1, 0, none⟩), .pointer (some ⟨w.heap.size + 1 + 1 + 1, 0, none⟩)], .int .i64 x.1.1, .agg #[.int .i64 k', .bool t', .int .i64 i', .string s', sl', kl'], undef, undef, undef, undef, undef, undef], defers := [] })
    (fun x a' _ X Y row hs hg hr => by obtain ⟨Bx, k', t', i', s', sl', kl', h1, h2, h3, h4⟩ := hs; exact ⟨Bx, k', t', i', s', sl', kl', h1, h2, V6_own (β := Unit) Bx k' t' i' s' sl' kl' () X Y row h3 hg (fun r e => (hr r e).2), h4⟩)
    ?assign ?body ?done ?stop
  case assign =>
    rintro lp pre x W K ⟨bR1, hz1, hB1⟩ hK
    obtain ⟨⟨lv, V', x'⟩, m', hx'⟩ := x
    obtain ⟨k', t', i', s', l', ks', av', c', kv', kc', rfl, rfl, _⟩ := id hx'
    have hsz := hB1.size
    have hlt := bR1.lt
    have H1 := Lib.hid bR1
    have H2 := Lib.hid hz1
    have H3 := Lib.hid hB1
    have H4 := Lib.hid hx'
    clear bR1 hz1 hB1 hst
    dsimp only [encP]
    gi_wp2
    refine hK _ _ ((KeepsOthers.alloc _ _).from _) (KeepC.alloc _ _) ⟨H1.out.alloc _, H2.out, H3.out.alloc hsz _⟩ ⟨W.heap.size, k', t', i', s', _, _, rfl, by omega, V6_new W k' t' i' s' _ _, rfl⟩
  case body =>
    rintro lp pre x a' W hl ⟨r, hr⟩ ⟨bR1, hz1, hB1⟩ ⟨Bx, k', t', i', s', sl', kl', hVx, hlt, ⟨hv0, c0, c1, c2, c3, c4, c5⟩, rfl⟩ hlen
    obtain ⟨⟨lv, V', x'⟩, m', hx'⟩ := x
    obtain ⟨k2, t2, i2, s2, l2, ks2, av2, n2, kv2, kn2, hx2, hV2, y0, y1, y2, y3, y4, y5, y6, y7, y8, y9, ys, _⟩ := hx'.below hB1
    subst hV2
    dsimp only at hx2 hVx
    injection hVx with hVx
    simp only [Array.mk.injEq, List.cons.injEq, Value.int.injEq, Value.bool.injEq, Value.string.injEq, true_and, and_true] at hVx
    obtain ⟨rfl, rfl, rfl, rfl, rfl, rfl⟩ := hVx
    subst hx2
    have hsn : firstP ((pre ++ [(⟨(lv, _, .mk k2 t2 i2 s2 l2 ks2), m', hx'⟩ : Pt w)]).map Pt.lt) = partP lv k2 t2 i2 s2 l2 ks2 := by
      rw [List.map_append, List.map_cons, List.map_nil, firstP_snoc _ hz1]
      rfl
    have M := validPart_any lv k2 t2 i2 s2 av2 kv2 l2 ks2 n2 kn2 (by omega) (by omega) y9 W ys
    obtain ⟨z, hz⟩ : ∃ z, z = partP lv k2 t2 i2 s2 l2 ks2 := ⟨_, rfl⟩
    rw [← hz] at M hsn
    have M := Lib.hid M
    have HS := Lib.hid hsn
    have H1 := Lib.hid bR1
    have hsz := hB1.size
    have H3 := Lib.hid hB1
    have hltR := bR1.lt
    clear hz hsn hst bR1 hz1 hB1 y0 y1 y2 y3 y4 y5 y6 y7 y8 y9 ys hr hlen hv0
    by_cases h0 : z = 0
    · subst h0
      gi_wp2_with (first
        | (refine ⟨trivial, ?_⟩; gi_at_call 137; refine (CallsIn.inRound lp (callsIn_wide.2 M.out)).mono ?_; rintro e w2 ⟨rfl, hb2⟩))
      exact ⟨(keepsOthers_below hb2).from _, KeepC.of_below hb2, (hb2.block _ hltR).trans H1.out, HS.out, H3.out.trans (hb2.mono hsz)⟩
    · have h0i : ((z : Int) == 0) = false := by rw [beq_eq_false_iff_ne]; omega
      have bR2 : ∀ w2, Below W.heap.size W w2 → Boxed w2 (w.heap.size + 1) 30 (.int .i64 0) := fun w2 h => (h.block _ hltR).trans H1.out
      gi_wp2_with (first
        | (refine ⟨trivial, ?_⟩; gi_at_call 137; refine (CallsIn.inRound lp (callsIn_wide.2 M.out)).mono ?_; rintro e w2 ⟨rfl, hb2⟩; have bR3 := bR2 w2 hb2; have cR := bR3.cell; have fR := bR3.frozen))
      exact ⟨((keepsOthers_below hb2).trans (KeepsOthers.setCell _ _ _)).from _, ⟨rfl, by rw [HS.out]; exact h0⟩, by rw [HS.out]; exact bR3.set _, (H3.out.trans (hb2.mono hsz)).setCell (p := ⟨w.heap.size + 1, 0, none⟩) (by simp) _⟩
  case done =>
    rintro D zs W hD hzs ⟨bR1, hz1, hB1⟩ hK
    have cR := bR1.cell
    have fR := bR1.frozen
    have HZ := Lib.hid hz1
    clear hst hz1
    gi_wp2
    have hK' := (KeepsOthers.setCell W ⟨w.heap.size + 1, 0, none⟩ (.int .i64 0)).same D _ hK rfl
    refine ⟨by simp, .inl ⟨_, _, rfl, run_takeDeferred hK', ?_⟩⟩
    have hc5 := cell_kept ((bR1.set (.int .i64 0)).cell) (grownBy_putObj' _ D (.deferred none)) (fun r e => by cases e; exact ⟨_, hK', rfl⟩)
    refine ⟨.int .i64 0, ?_, by rw [← hzs, HZ.out]; rfl, (hB1.setCell (p := ⟨w.heap.size + 1, 0, none⟩) (by simp) _).trans (belowK_b (w := w) (Nat.le_refl _) _ D _ _ (by omega) hK' rfl rfl)⟩
    simp [results, Tryz.f98, go_sem, hc5]
  case stop =>
    rintro D cc pre W hD hpre ⟨⟨rfl, hz1⟩, bR1, hB1⟩ hK
    have cR := bR1.cell
    have HZ := Lib.hid hz1
    clear hst hz1
    gi_wp2
    refine ⟨by simp, .inl ⟨_, _, rfl, run_takeDeferred hK, ?_⟩⟩
    have hc5 := cell_kept cR (grownBy_putObj' _ D (.deferred none)) (fun r e => by cases e; exact ⟨_, hK, rfl⟩)
    refine ⟨_, ?_, by rw [firstP_prefix hpre HZ.out], hB1.trans (belowK_b (w := w) (Nat.le_refl _) _ D _ _ (by omega) hK rfl rfl)⟩
    simp [results, Tryz.f98, go_sem, hc5]

/-- Valid: the error that the document gives the value. -/
theorem validV_any (m : Nat) (V : Value) (x : Vl) (w : World) (hV : IsV m w V x) :
    Calls Tryz.prog 58 #[V] w fun e w' => e = .returned (.int .i64 (errV 16 x : Nat)) ∧ Below w.heap.size w w' := by
  have M := fun w (hV : IsV m w V x) => validFrom_any m V x 1 w hV
  rw [firstP_pre m x 1 16 (fits_is hV) (by omega) (by omega) (by omega)] at M
  have M := Lib.hid M
  have HV := Lib.hid hV
  obtain ⟨k, t, i, s, l, ks, av, c, kv, kc, rfl, rfl, _⟩ := hV
  go_enter Tryz.func58, Tryz.ntmps58
  go_wp2_with fail
  go_fit (M.out _ (HV.out.below ((Below.refl _ _).alloc (Nat.le_refl _) _)))
  rintro e w1 ⟨rfl, hb⟩
  have B := Lib.hid (((Below.refl w.heap.size w).alloc (Nat.le_refl _) _).trans (hb.mono (by simp)))
  clear hb
  go_wp2_with fail
  go_ret
  exact ⟨rfl, B.out⟩
end Go.Proofs.YtjehhldboopocaaGreatDoor
