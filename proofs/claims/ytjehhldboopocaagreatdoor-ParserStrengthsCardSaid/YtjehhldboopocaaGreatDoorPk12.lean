/- Contracts of functions of the program, and what they are made of (parser; Pk12). -/
import Derived.Test.YtjehhldboopocaaGreatDoorPk06
import Derived.Test.YtjehhldboopocaaGreatDoorPk11
import Derived.RangeFuncFrom
namespace Go.Proofs.YtjehhldboopocaaGreatDoor.Lx
open Go.RowKit Go.Shelf
attribute [local go_sem] Oper.semAt_some
/-- Ten cells in a block. -/
def E10 (W : World) (B : Nat) (C : List Value) : Prop := B < W.heap.size ∧ W.heap[B]? = some (.cells C.toArray 29)
theorem E10_new (w : World) (C : List Value) : E10 (w.alloc (.cells C.toArray 29)) w.heap.size C := ⟨by simp, World.alloc_heap_new w _⟩
theorem E10.below {w w' : World} {B : Nat} {C : List Value} (h : E10 w B C) {n : Nat} (hn : B < n) (hb : Below n w w') : E10 w' B C :=
  ⟨Nat.lt_of_lt_of_le h.1 hb.size, (hb.block B hn).trans h.2⟩
theorem E10.cell {w : World} {B : Nat} {C : List Value} (h : E10 w B C) (q : Nat) (u : Value) (hq : C[q]? = some u) : w.cell? ⟨B, q, none⟩ = some u := by
  have h2 := h.2
  simp [World.cell?, h2, hq]
theorem E10_own {β : Type} (B : Nat) (C : List Value) : Own (fun (_ : β) W => E10 W B C) := fun _ X Y row hs hg hr => by
  refine ⟨Nat.lt_of_lt_of_le hs.1 hg.size, (hg.block B hs.1 fun e => ?_).trans hs.2⟩
  obtain ⟨o, ho, hc⟩ := hr B e.symm
  rw [hs.2] at ho
  injection ho with ho
  subst ho
  cases hc

set_option maxRecDepth 100000 in
set_option maxHeartbeats 1000000 in
theorem nodes1_in (F : Fence) (hd : F.depth = none) (hf : F.fn 56) (h1 : F.fn 55) (hro : F.round = none) (n l N Be Bx m : Nat) (w0 : World) (hBx : w0.heap.size ≤ Bx) (C : List Value) (x : Xp) (J Jx : List (Pe w0) → World → Prop)
    (hY : ∀ pre x W, J pre W → pre.length < N → YieldAt F (n - 1) Tryz.prog l (encE x) W fun e W' =>
      (e = .returned (.bool true) ∧ J (pre ++ [x]) W' ∧ KeepX Bx W W') ∨ (e = .returned (.bool false) ∧ Jx (pre ++ [x]) W'))
    (W : World) (hJ : AbidesFrom W.heap.size J) (hV : IsE m w0 C x) (hSm : AllSm x) (hb : KeepX Bx w0 W) (hbx : Bx < W.heap.size) (hBe : E10 W Be C) (h0 : J [] W) (hN : (preE m 1 x).length ≤ N) :
    CallsIn F n Tryz.prog 55 #[.func (.yield l) #[] #[], .pointer (some ⟨Be, 0, none⟩)] W fun e W' => (∃ v, e = .returned v) ∧
      ((∃ ys : List (Pe w0), ys.map Pe.lt = preE m 1 x ∧ J ys W') ∨ (∃ pre : List (Pe w0), pre.map Pe.lt <+: preE m 1 x ∧ Jx pre W')) := by
  have hdd : ∀ k : Nat, (F.depth.isSome = true → 1 ≤ k) := fun k h => by rw [hd] at h; cases h
  have hy : ∀ (m : Nat) (pre : List (Pe w0)) (x : Pe w0) (W : World), J pre W → pre.length < N → YieldAt F m Tryz.prog l (encE x) W fun e W' =>
      (e = .returned (.bool true) ∧ J (pre ++ [x]) W' ∧ KeepX Bx W W') ∨ (e = .returned (.bool false) ∧ Jx (pre ++ [x]) W') := by
    intro m pre x W hj hl
    exact yield_anyDepth hd m (hY pre x W hj hl)
  have hN' : ([] : List (Pe w0)).length + (preE m 1 x).length ≤ N := by rw [List.length_nil, Nat.zero_add]; exact hN
  have hp := Lib.hid (visitE_in F hd hf hro l N W.heap.size Bx w0 hBx J Jx hJ hy m (n - 1) 1 C x [] W hV hSm hb hbx h0 hN')
  obtain ⟨k, nm, vk, vt, vi, vs, vl, vks, vav, vc, vkv, vkc, l0, ks, av, c, kv, kc, _, rfl, hrest⟩ := id hV
  obtain ⟨nx, hnx⟩ : ∃ nx : ByteArray, nx = ⟨nm.toArray⟩ := ⟨_, rfl⟩
  rw [← hnx] at hp hBe
  obtain ⟨ps, hps⟩ : ∃ ps, ps = preE m 1 x := ⟨_, rfl⟩
  rw [← hps] at hp ⊢
  have c0 := hBe.cell 0 (.int .i64 k) rfl
  have c1 := hBe.cell 1 (.string nx) rfl
  have c2 := hBe.cell 2 (.int .i64 vk) rfl
  have c3 := hBe.cell 3 (.bool vt) rfl
  have c4 := hBe.cell 4 (.int .i64 vi) rfl
  have c5 := hBe.cell 5 (.string vs) rfl
  have c6 := hBe.cell 6 (.slice vav vl.length vc) rfl
  have c7 := hBe.cell 7 (.slice vkv vks.length vkc) rfl
  have c8 := hBe.cell 8 (.slice av l0.length c) rfl
  have c9 := hBe.cell 9 (.slice kv ks.length kc) rfl
  clear hSm hV hBe hY hJ hb h0 hN hN' hy hrest hnx hps
  refine callsIn_of_wp Tryz.func55 rfl h1 ?_ hro
  simp only [Tryz.ntmps55, List.size_toArray, List.length_cons, List.length_nil, Nat.reduceAdd, Nat.reduceSub, Array.replicate_succ, Array.replicate_zero, List.push_toArray, List.append_toArray, List.nil_append, List.cons_append]
  gi_wp2_with ((try refine ⟨hdd _, ?_⟩); gi_at_call 56; refine hp.out.mono ?_; clear hp; rintro e W1 (⟨rfl, ⟨ys, hys, hJ1⟩, _⟩ | ⟨rfl, q, hq, hx⟩))
  · go_end0
    exact ⟨⟨_, rfl⟩, .inl ⟨ys, hys, by simpa using hJ1⟩⟩
  · go_end0
    exact ⟨⟨_, rfl⟩, .inr ⟨q, hq, by simpa using hx⟩⟩

set_option maxHeartbeats 1000000 in
/-- nodes(e): e is boxed; the function value captures the box. -/
theorem nodes_in (F : Fence) (n : Nat) (hf : F.fn 32) (hro : F.round = none) (k : Int) (nx : ByteArray) (vk : Int) (vt : Bool) (vi : Int) (vs : ByteArray) (s1 s2 s3 s4 : Option Addr) (a1 b1 a2 b2 a3 b3 a4 b4 : Nat) (w : World) :
    CallsIn F n Tryz.prog 32 #[.agg #[.int .i64 k, .string nx, .int .i64 vk, .bool vt, .int .i64 vi, .string vs, .slice s1 a1 b1, .slice s2 a2 b2, .slice s3 a3 b3, .slice s4 a4 b4]] w fun e w' => e = .returned (.func (.func 55) #[] #[.pointer (some ⟨w.heap.size, 0, none⟩)]) ∧
      w' = w.alloc (.cells #[.int .i64 k, .string nx, .int .i64 vk, .bool vt, .int .i64 vi, .string vs, .slice s1 a1 b1, .slice s2 a2 b2, .slice s3 a3 b3, .slice s4 a4 b4] 29) := by
  refine callsIn_of_wp Tryz.func32 rfl hf ?_ hro
  simp only [Tryz.ntmps32, List.size_toArray, List.length_cons, List.length_nil, Nat.reduceAdd, Nat.reduceSub, Array.replicate_succ, Array.replicate_zero, List.push_toArray, List.append_toArray, List.nil_append, List.cons_append]
  gi_wp2
  go_ret
  exact ⟨rfl, rfl⟩

theorem nodes_stops (F : Fence) (hd : F.depth = none) (n : Nat) (hf : F.fn 56) (h1 : F.fn 55) (hro : F.round = none) (Be Bx m : Nat) (C : List Value) (x : Xp) (w0 w : World) (hBx : w0.heap.size ≤ Bx) (hbx : Bx < w.heap.size) (hw : Below w0.heap.size w0 w)
    (hV : IsE m w0 C x) (hSm : AllSm x) (hBe : E10 w Be C) :
    SeqStopsK F n Tryz.prog 55 #[.pointer (some ⟨Be, 0, none⟩)] (encE (w0 := w0)) (KeepX Bx) (fun ys => ys.map Pe.lt = preE m 1 x) (fun pre => pre.map Pe.lt <+: preE m 1 x) (preE m 1 x).length w := fun l J Jx W hW hJ _ hY h0 =>
  nodes1_in F hd hf h1 hro n l _ Be Bx m w0 hBx C x J Jx hY W hJ hV hSm ((KeepX.of_below hw).trans (KeepX.of_below hW)) (Nat.lt_of_lt_of_le hbx hW.size) (hBe.below hBe.1 hW) h0 (Nat.le_refl _)

/-- A count as an int holds it. -/
def cntW (n : Nat) : Int := wrap64 n
theorem cntW_succ (n : Nat) : wrap64 (cntW n + 1) = cntW (n + 1) := by
  unfold cntW
  rw [show ((n + 1 : Nat) : Int) = (n : Int) + 1 by omega]
  unfold wrap64
  omega
theorem cntW_small {n : Nat} (h : n < 9223372036854775808) : cntW n = n := by
  unfold cntW wrap64
  omega

set_option maxRecDepth 100000 in
set_option maxHeartbeats 4000000 in
theorem countE_any (m : Nat) (C : List Value) (x : Xp) (w : World) (hV : IsE m w C x) (hSm : AllSm x) :
    Calls Tryz.prog 21 #[.agg C.toArray] w fun e w' => e = .returned (.int .i64 (cntW (preE m 1 x).length)) ∧ Below w.heap.size w w' := by
  obtain ⟨ps, hps⟩ : ∃ ps, ps = preE m 1 x := ⟨_, rfl⟩
  rw [← hps]
  have HPS := Lib.hid hps
  have HV := Lib.hid hV
  have HSM := Lib.hid hSm
  obtain ⟨k, nm, vk, vt, vi, vs, vl, vks, vav, vc, vkv, vkc, l0, ks, av, c, kv, kc, hx0, rfl, hrest⟩ := id hV
  obtain ⟨nx, hnx⟩ : ∃ nx : ByteArray, nx = ⟨nm.toArray⟩ := ⟨_, rfl⟩
  rw [← hnx] at HV ⊢
  clear hps hnx hrest hV hx0 hSm
  refine (callsIn_wide (n := 3)).1 ?_
  refine callsIn_of_wp_marks Tryz.func21 rfl trivial ?_ rfl
  simp only [Tryz.ntmps21, List.size_toArray, List.length_cons, List.length_nil, Nat.reduceAdd, Nat.reduceSub, Array.replicate_succ, Array.replicate_zero, List.push_toArray, List.append_toArray, List.nil_append, List.cons_append]
  gi_wp2_with (first
    | (refine ⟨trivial, ?_⟩; gi_at_call 32; refine (nodes_in Fence.wide _ trivial rfl _ _ _ _ _ _ _ _ _ _ _ _ _ _ _ _ _ _ _).mono ?_; rintro e w2 ⟨rfl, rfl⟩))
  obtain ⟨C, hC⟩ : ∃ C : List Value, [.int .i64 k, .string nx, .int .i64 vk, .bool vt, .int .i64 vi, .string vs, .slice vav vl.length vc, .slice vkv vks.length vkc, .slice av l0.length c, .slice kv ks.length kc] = C := ⟨_, rfl⟩
  rw [hC] at HV ⊢
  obtain ⟨W0, hW0⟩ : ∃ W0, ((w.alloc (.cells C.toArray 29)).alloc (.cells #[.int .i64 0] 3)).alloc (.cells C.toArray 29) = W0 := ⟨_, rfl⟩
  have hW0s : W0.heap.size = w.heap.size + 1 + 1 + 1 := by rw [← hW0]; simp
  have hB0 : Below w.heap.size w W0 := by rw [← hW0]; exact (((Below.refl _ w).alloc (Nat.le_refl _) _).alloc (by simp) _).alloc (by simp; omega) _
  have bC : Boxed W0 (w.heap.size + 1) 3 (.int .i64 (cntW ([] : List (Pe w)).length)) := by
    rw [List.length_nil, cntW_small (by omega), Int.natCast_zero]
    have h := (Boxed.new (w.alloc (.cells C.toArray 29)) 3 (.int .i64 0)).alloc (.cells C.toArray 29)
    rw [hW0, World.size_alloc] at h
    exact h
  have bE : E10 W0 (w.heap.size + 1 + 1) C := by
    have h := E10_new ((w.alloc (.cells C.toArray 29)).alloc (.cells #[.int .i64 0] 3)) C
    rw [hW0, World.size_alloc, World.size_alloc] at h
    exact h
  rw [hW0]
  have hst := nodes_stops Fence.wide rfl (3 - 1) trivial trivial rfl (w.heap.size + 1 + 1) (w.heap.size + 1) m C x w W0 (by omega) (by omega) hB0 HV.out HSM.out bE
  rw [← HPS.out] at hst
  clear bE hW0 hC HV
  refine wpIn_rangeFunc_ownH rfl (by omega) (gf := 55) (lb := #[.pointer (some ⟨w.heap.size + 1 + 1, 0, none⟩)]) rfl trivial (enters_of Tryz.func55 (by kernel_rfl) rfl)
    hst KeepX.trans (fun W l o o' _ h hc _ => KeepX.put W l o o' h hc) (Below.refl _ _) (fun _ => rfl)
    (fun pre W => Boxed W (w.heap.size + 1) 3 (.int .i64 (cntW pre.length)) ∧ Below w.heap.size w W)
    (fun _ _ _ => False)
    (OwnFrom.and (Own.from (boxed_own _ _ _) _) (ownFrom_below (Nat.le_refl _) (by omega)))
    (fun _ _ _ _ _ hs _ _ => hs)
    ⟨bC, hB0⟩
    (fun y a' _ => ∃ s6 s7, a' = { tmps := #[.agg C.toArray, .pointer (some ⟨w.heap.size, 0, none⟩), .int .i64 0, .pointer (some ⟨w.heap.size + 1, 0, none⟩), .agg C.toArray, .func (.func 55) #[] #[.pointer (some ⟨w.heap.size + 1 + 1, 0, none⟩)], s6, s7, undef, undef, undef], defers := [] })
    (fun _ _ _ _ _ _ hs _ _ => hs)
    ?assign ?body ?done ?stop
  case assign =>
    rintro lp pre y W K ⟨bR1, hB1⟩ hK
    have H1 := Lib.hid bR1
    have H2 := Lib.hid hB1
    clear bR1 hB1 hst
    unfold encE
    gi_wp2
    exact hK _ _ ((keepsOthers_below (Below.refl _ W)).from _) (KeepX.refl _ _) ⟨H1.out, H2.out⟩ ⟨.int .i64 y.1.1, .agg y.1.2.1.toArray, by simp⟩
  case body =>
    rintro lp pre y a' W hl ⟨r, hr⟩ ⟨bR1, hB1⟩ ⟨s6, s7, rfl⟩ hlen
    have cR := bR1.cell
    have fR := bR1.frozen
    have hs1 := cntW_succ pre.length
    obtain ⟨z, hz⟩ : ∃ z, z = cntW pre.length := ⟨_, rfl⟩
    rw [← hz] at cR hs1
    have HS := Lib.hid hs1
    have H1 := Lib.hid bR1
    have H3 := Lib.hid hB1
    clear hst bR1 hB1 hr hlen hz hs1
    gi_wp2
    exact ⟨(KeepsOthers.setCell _ _ _).from _, KeepX.set _ _, by rw [HS.out, List.length_append]; exact H1.out.set _, H3.out.setCell (p := ⟨w.heap.size + 1, 0, none⟩) (by simp) _⟩
  case done =>
    rintro D ys W hD hys ⟨hbx, hbw⟩ hK
    have hlen : ys.length = ps.length := by rw [← hys, List.length_map]
    have hc := hbx.cell
    rw [hlen] at hc
    obtain ⟨z, hz⟩ : ∃ z, z = cntW ps.length := ⟨_, rfl⟩
    rw [← hz] at hc
    have HZ := Lib.hid hz
    clear hst hlen hys hz
    gi_wp2
    refine ⟨by simp, .inl ⟨_, _, rfl, run_takeDeferred hK, ?_⟩⟩
    exact ⟨_, results_tmp rfl _ _ _, by rw [← HZ.out]; rfl, hbw.trans (belowK_b (w := w) (Nat.le_refl _) W D _ _ (by omega) hK rfl rfl)⟩
  case stop =>
    rintro D c pre W _ _ h _
    exact h.elim

set_option maxRecDepth 100000 in
set_option maxHeartbeats 4000000 in
/-- tooMany: whether there are more than 4096 nodes. -/
theorem tooMany_any (m : Nat) (C : List Value) (x : Xp) (w : World) (hV : IsE m w C x) (hSm : AllSm x) :
    Calls Tryz.prog 31 #[.agg C.toArray] w fun e w' => e = .returned (.bool (decide (4096 < (preE m 1 x).length))) ∧ Below w.heap.size w w' := by
  obtain ⟨ps, hps⟩ : ∃ ps, ps = preE m 1 x := ⟨_, rfl⟩
  rw [← hps]
  have HPS := Lib.hid hps
  have HV := Lib.hid hV
  have HSM := Lib.hid hSm
  obtain ⟨k, nm, vk, vt, vi, vs, vl, vks, vav, vc, vkv, vkc, l0, ks, av, c, kv, kc, hx0, rfl, hrest⟩ := id hV
  obtain ⟨nx, hnx⟩ : ∃ nx : ByteArray, nx = ⟨nm.toArray⟩ := ⟨_, rfl⟩
  rw [← hnx] at HV ⊢
  clear hps hnx hrest hV hx0 hSm
  refine (callsIn_wide (n := 3)).1 ?_
  refine callsIn_of_wp_marks Tryz.func31 rfl trivial ?_ rfl
  simp only [Tryz.ntmps31, List.size_toArray, List.length_cons, List.length_nil, Nat.reduceAdd, Nat.reduceSub, Array.replicate_succ, Array.replicate_zero, List.push_toArray, List.append_toArray, List.nil_append, List.cons_append]
  gi_wp2_with (first
    | (refine ⟨trivial, ?_⟩; gi_at_call 32; refine (nodes_in Fence.wide _ trivial rfl _ _ _ _ _ _ _ _ _ _ _ _ _ _ _ _ _ _ _).mono ?_; rintro e w2 ⟨rfl, rfl⟩))
  obtain ⟨C, hC⟩ : ∃ C : List Value, [.int .i64 k, .string nx, .int .i64 vk, .bool vt, .int .i64 vi, .string vs, .slice vav vl.length vc, .slice vkv vks.length vkc, .slice av l0.length c, .slice kv ks.length kc] = C := ⟨_, rfl⟩
  rw [hC] at HV ⊢
  obtain ⟨W0, hW0⟩ : ∃ W0, (((w.alloc (.cells C.toArray 29)).alloc (.cells #[.bool false] 4)).alloc (.cells #[.int .i64 0] 3)).alloc (.cells C.toArray 29) = W0 := ⟨_, rfl⟩
  have hW0s : W0.heap.size = w.heap.size + 1 + 1 + 1 + 1 := by rw [← hW0]; simp
  have hB0 : Below w.heap.size w W0 := by rw [← hW0]; exact ((((Below.refl _ w).alloc (Nat.le_refl _) _).alloc (by simp) _).alloc (by simp; omega) _).alloc (by simp; omega) _
  have bR : Boxed W0 (w.heap.size + 1) 4 (.bool false) := by
    have h := ((Boxed.new (w.alloc (.cells C.toArray 29)) 4 (.bool false)).alloc (.cells #[.int .i64 0] 3)).alloc (.cells C.toArray 29)
    rw [hW0, World.size_alloc] at h
    exact h
  have bC : Boxed W0 (w.heap.size + 1 + 1) 3 (.int .i64 ((([] : List (Pe w)).length : Nat) : Int)) := by
    rw [List.length_nil, Int.natCast_zero]
    have h := (Boxed.new ((w.alloc (.cells C.toArray 29)).alloc (.cells #[.bool false] 4)) 3 (.int .i64 0)).alloc (.cells C.toArray 29)
    rw [hW0, World.size_alloc, World.size_alloc] at h
    exact h
  have bE : E10 W0 (w.heap.size + 1 + 1 + 1) C := by
    have h := E10_new (((w.alloc (.cells C.toArray 29)).alloc (.cells #[.bool false] 4)).alloc (.cells #[.int .i64 0] 3)) C
    rw [hW0, World.size_alloc, World.size_alloc, World.size_alloc] at h
    exact h
  rw [hW0]
  have hst := nodes_stops Fence.wide rfl (3 - 1) trivial trivial rfl (w.heap.size + 1 + 1 + 1) (w.heap.size + 1 + 1) m C x w W0 (by omega) (by omega) hB0 HV.out HSM.out bE
  rw [← HPS.out] at hst
  clear bE hW0 hC HV
  refine wpIn_rangeFunc_ownH rfl (by omega) (gf := 55) (lb := #[.pointer (some ⟨w.heap.size + 1 + 1 + 1, 0, none⟩)]) rfl trivial (enters_of Tryz.func55 (by kernel_rfl) rfl)
    hst KeepX.trans (fun W l o o' _ h hc _ => KeepX.put W l o o' h hc) (Below.refl _ _) (fun _ => rfl)
    (fun pre W => Boxed W (w.heap.size + 1) 4 (.bool false) ∧ (Boxed W (w.heap.size + 1 + 1) 3 (.int .i64 (pre.length : Nat)) ∧ (pre.length ≤ 4096 ∧ Below w.heap.size w W)))
    (fun c pre W => (c = .ret ∧ 4096 < pre.length) ∧ (Boxed W (w.heap.size + 1) 4 (.bool true) ∧ Below w.heap.size w W))
    (OwnFrom.and (Own.from (boxed_own _ _ _) _) (OwnFrom.and (Own.from (boxed_own _ _ _) _) (OwnFrom.and (fun _ _ _ _ hs _ _ => hs) (ownFrom_below (Nat.le_refl _) (by omega)))))
    (fun c => OwnFrom.and (fun _ _ _ _ hs _ _ => hs) (OwnFrom.and (Own.from (boxed_own _ _ _) _) (ownFrom_below (Nat.le_refl _) (by omega))))
    ⟨bR, bC, by simp, hB0⟩
    (fun y a' _ => ∃ s6 s7, a' = { tmps := #[.agg C.toArray, .pointer (some ⟨w.heap.size, 0, none⟩), .pointer (some ⟨w.heap.size + 1, 0, none⟩), .pointer (some ⟨w.heap.size + 1 + 1, 0, none⟩), .agg C.toArray, .func (.func 55) #[] #[.pointer (some ⟨w.heap.size + 1 + 1 + 1, 0, none⟩)], s6, s7, undef, undef, undef, undef], defers := [] })
    (fun _ _ _ _ _ _ hs _ _ => hs)
    ?assign ?body ?done ?stop
  case assign =>
    rintro lp pre y W K ⟨bR1, bC1, hl1, hB1⟩ hK
    have H0 := Lib.hid bR1
    have H1 := Lib.hid bC1
    have H2 := Lib.hid hB1
    have H3 := Lib.hid hl1
    clear bR1 bC1 hl1 hB1 hst
    unfold encE
    gi_wp2
    exact hK _ _ ((keepsOthers_below (Below.refl _ W)).from _) (KeepX.refl _ _) ⟨H0.out, H1.out, H3.out, H2.out⟩ ⟨.int .i64 y.1.1, .agg y.1.2.1.toArray, by simp⟩
  case body =>
    rintro lp pre y a' W hl ⟨r, hr⟩ ⟨bR1, bC1, hl1, hB1⟩ ⟨s6, s7, rfl⟩ hlen
    have cR := bR1.cell
    have fR := bR1.frozen
    have cC := bC1.cell
    have fC := bC1.frozen
    obtain ⟨q, hq⟩ : ∃ q, q = pre.length := ⟨_, rfl⟩
    rw [← hq] at cC hl1 bC1
    have HQ := Lib.hid hq
    have H0 := Lib.hid bR1
    have H1 := Lib.hid bC1
    have H3 := Lib.hid hB1
    clear hst bR1 bC1 hB1 hr hlen hq
    by_cases hm : 4096 < q + 1
    · gi_wp2
      have B1 : Boxed (W.setCell ⟨w.heap.size + 1 + 1, 0, none⟩ (.int .i64 ((q : Int) + 1))) (w.heap.size + 1) 4 (.bool false) := (Below.heap_setCell _ _ _ _ (by show w.heap.size + 1 ≠ w.heap.size + 1 + 1; omega)).trans H0.out
      exact ⟨((KeepsOthers.setCell _ _ _).trans (KeepsOthers.setCell _ _ _)).from _, ⟨rfl, by rw [List.length_append, ← HQ.out]; exact hm⟩, B1.set _, (H3.out.setCell (p := ⟨w.heap.size + 1 + 1, 0, none⟩) (by simp; omega) _).setCell (p := ⟨w.heap.size + 1, 0, none⟩) (by simp) _⟩
    · gi_wp2
      have B1 : Boxed (W.setCell ⟨w.heap.size + 1 + 1, 0, none⟩ (.int .i64 ((q : Int) + 1))) (w.heap.size + 1) 4 (.bool false) := (Below.heap_setCell _ _ _ _ (by show w.heap.size + 1 ≠ w.heap.size + 1 + 1; omega)).trans H0.out
      exact ⟨(KeepsOthers.setCell _ _ _).from _, KeepX.set _ _, B1, by rw [List.length_append, ← HQ.out]; exact H1.out.set _, by rw [List.length_append, ← HQ.out, List.length_singleton]; omega, H3.out.setCell (p := ⟨w.heap.size + 1 + 1, 0, none⟩) (by simp; omega) _⟩
  case done =>
    rintro D ys W hD hys ⟨bR1, bC1, hl1, hB1⟩ hK
    have hlen : ys.length = ps.length := by rw [← hys, List.length_map]
    have cR := bR1.cell
    have fR := bR1.frozen
    have HL := Lib.hid (show ps.length ≤ 4096 by omega)
    clear hst hlen hys bC1 hl1
    gi_wp2
    have hK' := (KeepsOthers.setCell W ⟨w.heap.size + 1, 0, none⟩ (.bool false)).same D _ hK rfl
    refine ⟨by simp, .inl ⟨_, _, rfl, run_takeDeferred hK', ?_⟩⟩
    have hc5 := cell_kept ((bR1.set (.bool false)).cell) (grownBy_putObj' _ D (.deferred none)) (fun r e => by cases e; exact ⟨_, hK', rfl⟩)
    refine ⟨.bool false, ?_, by rw [decide_eq_false (by have := HL.out; omega)], (hB1.setCell (p := ⟨w.heap.size + 1, 0, none⟩) (by simp) _).trans (belowK_b (w := w) (Nat.le_refl _) _ D _ _ (by omega) hK' rfl rfl)⟩
    simp [results, Tryz.f31, go_sem, hc5]
  case stop =>
    rintro D cc pre W hD ⟨r, hpre⟩ ⟨⟨rfl, hz1⟩, bR1, hB1⟩ hK
    have hlen : 4096 < ps.length := by rw [← hpre, List.length_append, List.length_map]; omega
    have cR := bR1.cell
    have HL := Lib.hid hlen
    clear hst hz1 hlen hpre
    gi_wp2
    refine ⟨by simp, .inl ⟨_, _, rfl, run_takeDeferred hK, ?_⟩⟩
    have hc5 := cell_kept cR (grownBy_putObj' _ D (.deferred none)) (fun r e => by cases e; exact ⟨_, hK, rfl⟩)
    refine ⟨.bool true, ?_, by rw [decide_eq_true HL.out], hB1.trans (belowK_b (w := w) (Nat.le_refl _) _ D _ _ (by omega) hK rfl rfl)⟩
    simp [results, Tryz.f31, go_sem, hc5]
end Go.Proofs.YtjehhldboopocaaGreatDoor.Lx
namespace Go.Proofs.YtjehhldboopocaaGreatDoor.Lx
def fstS (m : Nat) : Nat := if m = 4 then 5 else m
theorem bin_le (ts : Ts) (i : Nat) : (binAt ts i).1 ≤ 6 := by
  unfold binAt
  split
  · split
    · unfold strB
      dsimp only
      repeat' (first | split | omega)
    · exact Nat.zero_le _
  · exact Nat.zero_le _
section
variable {V : Type} (P : Lits V) (ts : Ts)
theorem pG_mono {f g : Nat} (h : f ≤ g) (t : NT V) (i : Nat) : (pG P ts f t i).le (pG P ts g t i) := by
  obtain ⟨d, rfl⟩ := Nat.exists_eq_add_of_le h
  exact PR.le_add (F := fun f => pG P ts f t i) (fun f => pG_le P ts f t i) d f
theorem pG_ok {f g : Nat} (h : f ≤ g) {t : NT V} {i : Nat} {x : Ex V} {a : Nat} (e : pG P ts f t i = .ok x a) : pG P ts g t i = .ok x a := by
  rcases pG_mono P ts h t i with h1 | h1
  · rw [e] at h1; cases h1
  · rw [← h1]; exact e
theorem PR.le_trans {a b c : PR V} (h : a.le b) (k : b.le c) : a.le c := by
  rcases h with rfl | rfl
  · exact .inl rfl
  · exact k
theorem pG_oper (f n i : Nat) : pG P ts (f + 1) (.oper n) i = (pG P ts f .un i).bind fun x a => pG P ts f (.loop n 7 x) a := rfl
theorem pG_loop (f n s : Nat) (x : Ex V) (i : Nat) : pG P ts (f + 1) (.loop n s x) i = if (binAt ts i).1 < n ∨ s < fstS (binAt ts i).1 then .ok x i
    else (pG P ts f (.oper ((binAt ts i).1 + 1)) (i + 1)).bind fun y a => pG P ts f (.loop n (binAt ts i).1 (node P 7 (binAt ts i).2 [x, y])) a := rfl
theorem dG_oper (f n i : Nat) : dG P ts (f + 1) (.oper n) i = if n = 7 then dG P ts f .un i else (dG P ts f (.oper (n + 1)) i).bind fun x a => dG P ts f (.loop n 0 x) a := rfl
theorem dG_loop (f n s : Nat) (x : Ex V) (i : Nat) : dG P ts (f + 1) (.loop n s x) i = if (binAt ts i).1 = n ∧ n ≠ 0 ∧ (s = 0 ∨ n ≠ 4) then (dG P ts f (.oper (n + 1)) (i + 1)).bind fun y a => dG P ts f (.loop n 1 (node P 7 (binAt ts i).2 [x, y])) a else .ok x i := rfl
/-- A loop of a lesser strength reads first what the stronger one reads. -/
theorem loop_split (n : Nat) : ∀ (F st : Nat) (u : Ex V) (i : Nat), n + 1 ≤ st →
    pG P ts F (.loop (n + 1) st u) i = .out ∨ (∃ a e, pG P ts F (.loop (n + 1) st u) i = .err a e ∧ pG P ts F (.loop n st u) i = .err a e) ∨
    ∃ x a st', pG P ts F (.loop (n + 1) st u) i = .ok x a ∧ n + 1 ≤ st' ∧ ((binAt ts a).1 ≤ n ∨ st' < fstS (binAt ts a).1) ∧ ∀ G, (pG P ts G (.loop n st' x) a).le (pG P ts (F + G) (.loop n st u) i)
  | 0, _, _, _, _ => .inl rfl
  | F + 1, st, u, i, hst => by
    rw [pG_loop, pG_loop]
    by_cases hs : (binAt ts i).1 < n + 1 ∨ st < fstS (binAt ts i).1
    · rw [if_pos hs]
      exact .inr (.inr ⟨u, i, st, rfl, hst, by omega, fun G => pG_mono P ts (by omega) _ _⟩)
    · have hs' : ¬ ((binAt ts i).1 < n ∨ st < fstS (binAt ts i).1) := fun h => hs (h.elim (fun h => .inl (by omega)) .inr)
      have hm : n + 1 ≤ (binAt ts i).1 := by omega
      rw [if_neg hs, if_neg hs']
      cases ho : pG P ts F (.oper ((binAt ts i).1 + 1)) (i + 1) with
      | out => exact .inl rfl
      | err a e => exact .inr (.inl ⟨a, e, rfl, rfl⟩)
      | ok y a =>
        show pG P ts F (.loop (n + 1) _ _) a = .out ∨ (∃ a' e, pG P ts F (.loop (n + 1) _ _) a = .err a' e ∧ pG P ts F (.loop n _ _) a = .err a' e) ∨ ∃ x a' st', pG P ts F (.loop (n + 1) _ _) a = .ok x a' ∧ _
        rcases loop_split n F (binAt ts i).1 (node P 7 (binAt ts i).2 [u, y]) a hm with h | ⟨a', e, h1, h2⟩ | ⟨x, a', st', h1, h2, h3, h4⟩
        · exact .inl h
        · exact .inr (.inl ⟨a', e, h1, h2⟩)
        · refine .inr (.inr ⟨x, a', st', h1, h2, h3, fun G => ?_⟩)
          rw [show F + 1 + G = (F + G) + 1 by omega, pG_loop, if_neg hs', pG_ok P ts (Nat.le_add_right F G) ho]
          exact h4 G
def goodT : NT V → Prop
  | .oper n => 2 ≤ n ∧ n ≤ 7
  | .loop _ _ _ => False
  | _ => True
theorem stepG_le' (g h : NT V → Nat → PR V) (hgh : ∀ t i, goodT t → (g t i).le (h t i)) (t : NT V) (i : Nat) : (stepG P g ts t i).le (stepG P h ts t i) := by
  have h0 : (goodT (.cond : NT V)) := trivial
  have h1 : (goodT (.oper 2 : NT V)) := ⟨Nat.le_refl _, by decide⟩
  have h2 : (goodT (.un : NT V)) := trivial
  have h3 : (goodT (.chn : NT V)) := trivial
  have h4 : (goodT (.atm : NT V)) := trivial
  cases t <;> simp only [stepG] <;>
    repeat' (first
      | exact PR.le_rfl _
      | exact hgh _ _ (by first | assumption | exact trivial)
      | (refine PR.bind_le (hgh _ _ (by first | assumption | exact trivial)) fun x a => ?_)
      | split)
theorem grammars (f : Nat) : (∀ (t : NT V) (i : Nat), goodT t → (dG P ts f t i).le (pG P ts (4 ^ f) t i)) ∧
    ∀ (n s : Nat) (x : Ex V) (i st : Nat), 2 ≤ n → n ≤ 6 → ((s = 0 ∧ n + 1 ≤ st ∧ ((binAt ts i).1 ≤ n ∨ st < fstS (binAt ts i).1)) ∨ (s ≠ 0 ∧ st = n)) → (dG P ts f (.loop n s x) i).le (pG P ts (4 ^ f) (.loop n st x) i) := by
  induction f with
  | zero => exact ⟨fun _ _ _ => .inl rfl, fun _ _ _ _ _ _ _ _ => .inl rfl⟩
  | succ f ih =>
    obtain ⟨iht, ihl⟩ := ih
    have hK : 1 ≤ 4 ^ f := Nat.pow_pos (by decide)
    have h4 : 4 ^ (f + 1) = 4 * 4 ^ f := by rw [Nat.pow_succ, Nat.mul_comm]
    rw [h4]
    generalize 4 ^ f = K at iht ihl hK
    have hb := bin_le ts
    constructor
    · intro t i ht
      have gen : ∀ t : NT V, (stepG P (dG P ts f) ts t i).le (stepG P (pG P ts K) ts t i) := fun t => stepG_le' P ts _ _ iht t i
      cases t with
      | loop n s x => exact absurd ht id
      | oper n =>
        obtain ⟨hn2, hn7⟩ := ht
        rw [dG_oper]
        by_cases h7 : n = 7
        · subst h7
          rw [if_pos rfl]
          refine PR.le_trans (iht .un i trivial) (PR.le_trans ?_ (pG_mono P ts (show K + 1 ≤ 4 * K by omega) _ _))
          rw [pG_oper]
          cases hu : pG P ts K .un i with
          | out => exact .inl rfl
          | err a e => exact .inr rfl
          | ok x a =>
            obtain ⟨K', rfl⟩ : ∃ K', K = K' + 1 := ⟨K - 1, by omega⟩
            show (PR.ok x a).le (pG P ts (K' + 1) (.loop 7 7 x) a)
            have := hb a
            rw [pG_loop, if_pos (.inl (by omega))]
            exact .inr rfl
        · rw [if_neg h7]
          rcases iht (.oper (n + 1)) i ⟨by omega, by omega⟩ with h | h
          · rw [h]; exact .inl rfl
          · rw [h]
            obtain ⟨K', rfl⟩ : ∃ K', K = K' + 1 := ⟨K - 1, by omega⟩
            rw [pG_oper]
            cases hu : pG P ts K' .un i with
            | out => exact .inl rfl
            | err a e =>
              refine PR.le_trans ?_ (pG_mono P ts (show K' + 1 ≤ 4 * (K' + 1) by omega) _ _)
              rw [pG_oper, hu]
              exact .inr rfl
            | ok u a0 =>
              show ((pG P ts K' (.loop (n + 1) 7 u) a0).bind _).le _
              rcases loop_split P ts n K' 7 u a0 (by omega) with h1 | ⟨a, e, h1, h2⟩ | ⟨x, a, st', h1, h2, h3, h5⟩
              · rw [h1]; exact .inl rfl
              · rw [h1]
                refine PR.le_trans ?_ (pG_mono P ts (show K' + 1 ≤ 4 * (K' + 1) by omega) _ _)
                rw [pG_oper, hu]
                show (PR.err a e).le (pG P ts K' (.loop n 7 u) a0)
                rw [h2]
                exact .inr rfl
              · rw [h1]
                show (dG P ts f (.loop n 0 x) a).le _
                refine PR.le_trans (ihl n 0 x a st' hn2 (by omega) (.inl ⟨rfl, h2, h3⟩)) (PR.le_trans (h5 _) ?_)
                refine PR.le_trans ?_ (pG_mono P ts (show K' + (K' + 1) + 1 ≤ 4 * (K' + 1) by omega) _ _)
                rw [pG_oper, pG_ok P ts (show K' ≤ K' + (K' + 1) by omega) hu]
                exact .inr rfl
      | cond => exact PR.le_trans (show (dG P ts (f + 1) (.cond) i).le (pG P ts (K + 1) (.cond) i) from gen (.cond)) (pG_mono P ts (f := K + 1) (by omega) _ _)
      | un => exact PR.le_trans (show (dG P ts (f + 1) (.un) i).le (pG P ts (K + 1) (.un) i) from gen (.un)) (pG_mono P ts (f := K + 1) (by omega) _ _)
      | chn => exact PR.le_trans (show (dG P ts (f + 1) (.chn) i).le (pG P ts (K + 1) (.chn) i) from gen (.chn)) (pG_mono P ts (f := K + 1) (by omega) _ _)
      | more x => exact PR.le_trans (show (dG P ts (f + 1) (.more x) i).le (pG P ts (K + 1) (.more x) i) from gen (.more x)) (pG_mono P ts (f := K + 1) (by omega) _ _)
      | atm => exact PR.le_trans (show (dG P ts (f + 1) (.atm) i).le (pG P ts (K + 1) (.atm) i) from gen (.atm)) (pG_mono P ts (f := K + 1) (by omega) _ _)
      | lst a b c d e => exact PR.le_trans (show (dG P ts (f + 1) (.lst a b c d e) i).le (pG P ts (K + 1) (.lst a b c d e) i) from gen (.lst a b c d e)) (pG_mono P ts (f := K + 1) (by omega) _ _)
    · intro n s x i st hn2 hn6 hst
      refine PR.le_trans ?_ (pG_mono P ts (show K + 1 ≤ 4 * K by omega) _ _)
      rw [dG_loop, pG_loop]
      by_cases hc : (binAt ts i).1 = n ∧ n ≠ 0 ∧ (s = 0 ∨ n ≠ 4)
      · obtain ⟨hm, _, hs⟩ := hc
        rw [if_pos ⟨hm, by omega, hs⟩, if_neg, hm]
        · exact PR.bind_le (iht _ _ ⟨by omega, by omega⟩) fun y a => ihl n 1 _ a n hn2 hn6 (.inr ⟨by decide, rfl⟩)
        · rw [hm]
          unfold fstS
          split <;> omega
      · rw [if_neg hc, if_pos]
        · exact .inr rfl
        · have hf : (binAt ts i).1 ≤ fstS (binAt ts i).1 ∧ ((binAt ts i).1 = 4 → fstS (binAt ts i).1 = 5) := by
            unfold fstS
            split <;> omega
          generalize fstS (binAt ts i).1 = q at hst hf ⊢
          omega
end
end Go.Proofs.YtjehhldboopocaaGreatDoor.Lx
