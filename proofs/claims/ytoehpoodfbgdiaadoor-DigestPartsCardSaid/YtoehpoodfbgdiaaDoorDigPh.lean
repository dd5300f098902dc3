/- Contracts of slices.Chunk over bytes, by eights, and of the function value that it hands back (digest). -/
import Derived.Test.YtoehpoodfbgdiaaDoorBaseB
import Derived.RangeFuncNested
import Derived.RangeFuncBound
import Derived.RangeFuncCalls
import Derived.RangeFuncLeaves
import Derived.Shelf.Abstract
import Derived.Shelf.RegionOpen
import Derived.WalkKit
import Derived.OwnWalkIn
import Derived.TacticsInMore
import Derived.LoopNIn
import Derived.LoopIn
namespace Go.Proofs.YtoehpoodfbgdiaaDoor
open Go.RowKit Go.Shelf

attribute [local go_sem] Oper.semAt_some

/-- What lay below n₀ lies as it lay, and so do the blocks from n₁ to n₂. -/
def KeepK (n₀ n₁ n₂ : Nat) (W W' : World) : Prop := Below n₀ W W' ∧ ∀ j, n₁ ≤ j → j < n₂ → W'.heap[j]? = W.heap[j]?
theorem KeepK.refl (n₀ n₁ n₂ : Nat) (W : World) : KeepK n₀ n₁ n₂ W W := ⟨Below.refl _ _, fun _ _ _ => rfl⟩
theorem KeepK.trans {n₀ n₁ n₂ : Nat} {A B C : World} (h : KeepK n₀ n₁ n₂ A B) (k : KeepK n₀ n₁ n₂ B C) : KeepK n₀ n₁ n₂ A C := ⟨h.1.trans k.1, fun j h1 h2 => (k.2 j h1 h2).trans (h.2 j h1 h2)⟩
theorem KeepK.drew {n₀ n₁ n₂ : Nat} {A B : World} (h : KeepK n₀ n₁ n₂ A B) : KeepK n₀ n₁ n₂ A B.drew := ⟨h.1.drew, h.2⟩
theorem KeepK.put {n₀ n₁ n₂ : Nat} {w : World} (h0 : n₀ ≤ w.heap.size) (h2 : n₂ ≤ w.heap.size) (W : World) (l : Nat) (o o' : Obj) (hl : w.heap.size ≤ l) (h : W.heap[l]? = some o) (hc : o.isCells = false) (hw : o.isWalk = false) : KeepK n₀ n₁ n₂ W (W.putObj l o') :=
  ⟨belowK_b h0 W l o o' hl h hc hw, fun j _ hj => World.putObj_heap_other (fun e => by omega)⟩
theorem KeepK.cell {n₀ n₁ n₂ : Nat} {W W' : World} (h : KeepK n₀ n₁ n₂ W W') {B : Nat} (h1 : n₁ ≤ B) (h2 : B < n₂) : W'.cell? ⟨B, 0, none⟩ = W.cell? ⟨B, 0, none⟩ := by
  simp only [World.cell?, h.2 B h1 h2]

set_option maxRecDepth 100000 in
theorem slice_at (b off len cap a r : Nat) (hr : len = a + r) (h0 : 0 < r) (hlc : len ≤ cap) (w : World) : (Instr.sliceAt 27 (.slice (some ⟨b, off, none⟩) len cap) (some (.int .i64 (a : Int))) none none).run Tryd.prog w = .ok (.slice (some ⟨b, off + a, none⟩) r (cap - a)) w := by
  rw [slice_from (some ⟨b, off, none⟩) len cap a (by omega) w, dropA, if_neg (by omega), Option.map_some, add_off, show len - a = r by omega]
set_option maxRecDepth 100000 in
theorem slice_mid (b off len cap a m : Nat) (e : Int) (he : e = (a : Int) + (m : Int)) (h0 : 0 < m) (hm : a + m ≤ cap) (w : World) : (Instr.sliceAt 27 (.slice (some ⟨b, off, none⟩) len cap) (some (.int .i64 (a : Int))) (some (.int .i64 e)) (some (.int .i64 e))).run Tryd.prog w = .ok (.slice (some ⟨b, off + a, none⟩) m m) w := by
  rw [run_sliceAt_slice _ _ _ _ _ _ Tryd.underlying27, run_slice_lhm _ _ _ _ _ Tryd.underlying27 .i64 .i64 .i64 (a : Int) e e (by omega) (by omega) (by omega) (by omega)]
  have hs : (sizeOf (Tryd.prog.elem 27)).run Tryd.prog w = .ok 1 w := by kernel_rfl
  rw [hs, show e.toNat = a + m by omega]
  simp only [Result.andThen, sliced, Int.toNat_natCast, Nat.mul_one]
  rw [if_neg (by omega), Option.map_some, add_off, show a + m - a = m by omega]

theorem range_prefix {m n : Nat} (h : m ≤ n) : List.range m <+: List.range n := by
  obtain ⟨d, rfl⟩ : ∃ d, n = m + d := ⟨n - m, by omega⟩
  rw [List.range_add]
  exact List.prefix_append _ _
/-- The k-th piece of a slice. -/
def piece (b off len k : Nat) : Array Value := #[.slice (some ⟨b, off + 8 * k, none⟩) (min 8 (len - 8 * k)) (min 8 (len - 8 * k))]

set_option maxRecDepth 100000 in
set_option maxHeartbeats 4000000 in
theorem chunk1_in (F : Fence) (n : Nat) (hf : F.fn 36) (hro : F.round = none) (hn : 1 ≤ n) (l n₀ n₁ n₂ Bs Bn b off len cap : Nat) (v : Option Addr) (hv : 0 < len → v = some ⟨b, off, none⟩) (hlc : len ≤ cap) (hcap : len ≤ 9223372036854775000) (hs1 : n₁ ≤ Bs) (hs2 : Bs < n₂) (hb1 : n₁ ≤ Bn) (hb2 : Bn < n₂) (J Jx : List Nat → World → Prop)
    (hY : ∀ pre x W, J pre W → pre.length < (len + 7) / 8 → YieldAt F (n - 1) Tryd.prog l (piece b off len x) W fun e W' =>
      (e = .returned (.bool true) ∧ J (pre ++ [x]) W' ∧ KeepK n₀ n₁ n₂ W W') ∨ (e = .returned (.bool false) ∧ Jx (pre ++ [x]) W'))
    (W : World) (hJ : AbidesFrom W.heap.size J) (hBs : W.cell? ⟨Bs, 0, none⟩ = some (.slice v len cap)) (hBn : W.cell? ⟨Bn, 0, none⟩ = some (.int .i64 8)) (h0 : J [] W) :
    CallsIn F n Tryd.prog 36 #[.func (.yield l) #[] #[], .pointer (some ⟨Bs, 0, none⟩), .pointer (some ⟨Bn, 0, none⟩)] W fun e W' => (∃ v, e = .returned v) ∧
      ((∃ ys, ys = List.range ((len + 7) / 8) ∧ J ys W') ∨ (∃ pre, pre <+: List.range ((len + 7) / 8) ∧ Jx pre W')) := by
  refine callsIn_of_wp Tryd.func36 rfl hf ?_ hro
  simp only [Tryd.ntmps36, List.size_toArray, List.length_cons, List.length_nil, Nat.reduceAdd, Nat.reduceSub, Array.replicate_succ, Array.replicate_zero, List.push_toArray, List.append_toArray, List.nil_append, List.cons_append]
  have hmx : Tryd.prog.follows .mixedOrders = true := by kernel_rfl
  gi_wp2
  gi_loopw [4] (fun i wr => ∃ k a : Nat, a = 8 * k ∧ a ≤ len + 7 ∧ i = .int .i64 a ∧ J (List.range k) wr ∧ KeepK n₀ n₁ n₂ W wr)
    (fun i _ => len + 8 - (intOf i).toNat)
  case atStart => exact ⟨0, 0, rfl, by omega, rfl, h0, KeepK.refl _ _ _ _⟩
  case round =>
    obtain ⟨k, a, hka, hk, rfl, hJs, hnx⟩ := hrel
    have hc1 := (hnx.cell hs1 hs2).trans hBs
    have hc2 := (hnx.cell hb1 hb2).trans hBn
    by_cases hlt : a < len
    · have hltI : (a : Int) < (len : Int) := by omega
      rw [hv (by omega)] at hc1
      clear hv hBs
      have hJd : J (List.range k) wr.drew := hJ _ _ _ none hJs ⟨rfl, rfl, rfl, Nat.le_refl _, fun _ _ _ => rfl⟩ (by simp)
      obtain ⟨fn, tmps, assign, body, hy, hR⟩ := hY _ k wr.drew hJd (by rw [List.length_range]; omega)
      unfold piece at hy
      have hc1d : wr.drew.cell? ⟨Bs, 0, none⟩ = some (.slice (some ⟨b, off, none⟩) len cap) := hc1
      have hc2d : wr.drew.cell? ⟨Bn, 0, none⟩ = some (.int .i64 8) := hc2
      obtain ⟨r, hr⟩ : ∃ r, r = len - a := ⟨_, rfl⟩
      have hsl := slice_at b off len cap a r (by omega) (by omega) hlc
      have hKa := Lib.hid hka
      rw [← hka, ← hr] at hy
      have hpre : List.range k ++ [k] <+: List.range ((len + 7) / 8) := by
        rw [← List.range_succ]
        exact range_prefix (by omega)
      by_cases h8 : r < 8
      · rw [show min 8 r = r by omega] at hy
        have hs3 := slice_mid b off len cap a r ((a : Int) + (r : Int)) rfl (by omega) (by omega)
        have h8I : (r : Int) < 8 := by omega
        have hsum : (0 : Int) ≤ a ∧ (a : Int) + (r : Int) ≤ 9223372036854775000 := by omega
        have HR8 := Lib.hid (show a + 8 ≤ len + 7 by omega)
        clear hka hr h8 hk
        gi_wp2
        gi_region_with_o fail
        all_goals gi_wp2
        all_goals
          refine hR.mono ?_
          rintro e W3 (⟨rfl, hJ3, hk3⟩ | ⟨rfl, hJx3⟩)
          · have hc13 := (hk3.cell hs1 hs2).trans hc1d
            have hc23 := (hk3.cell hb1 hb2).trans hc2d
            have HK3 := Lib.hid (hnx.trans ((KeepK.refl _ _ _ _).drew.trans hk3))
            have HJ3 := Lib.hid hJ3
            clear hk3 hJ3 hnx
            gi_wp2
            go_roundw
            case rel => exact ⟨k + 1, a + 8, by have := hKa.out; omega, HR8.out, by go_num, by rw [List.range_succ]; exact HJ3.out, HK3.out⟩
            case measure => simp [intOf]; omega
          · have HP := Lib.hid hpre
            gi_wp2
            refine bodyPost_ret (results_none rfl _ _ _) rfl ?_
            exact ⟨⟨_, rfl⟩, .inr ⟨_, HP.out, hJx3⟩⟩
      · rw [show min 8 r = 8 by omega] at hy
        have hs3 := slice_mid b off len cap a 8 ((a : Int) + 8) (by omega) (by omega) (by omega)
        have h8I : ¬ (r : Int) < 8 := by omega
        have hsum : (0 : Int) ≤ a ∧ (a : Int) + 8 ≤ 9223372036854775000 := by omega
        have HR8 := Lib.hid (show a + 8 ≤ len + 7 by omega)
        clear hka hr h8 hk
        gi_wp2
        gi_region_with_o fail
        all_goals gi_wp2
        all_goals
          refine hR.mono ?_
          rintro e W3 (⟨rfl, hJ3, hk3⟩ | ⟨rfl, hJx3⟩)
          · have hc13 := (hk3.cell hs1 hs2).trans hc1d
            have hc23 := (hk3.cell hb1 hb2).trans hc2d
            have HK3 := Lib.hid (hnx.trans ((KeepK.refl _ _ _ _).drew.trans hk3))
            have HJ3 := Lib.hid hJ3
            clear hk3 hJ3 hnx
            gi_wp2
            go_roundw
            case rel => exact ⟨k + 1, a + 8, by have := hKa.out; omega, HR8.out, by go_num, by rw [List.range_succ]; exact HJ3.out, HK3.out⟩
            case measure => simp [intOf]; omega
          · have HP := Lib.hid hpre
            gi_wp2
            refine bodyPost_ret (results_none rfl _ _ _) rfl ?_
            exact ⟨⟨_, rfl⟩, .inr ⟨_, HP.out, hJx3⟩⟩
    · have hltI : ¬ (a : Int) < (len : Int) := by omega
      have hkk : k = (len + 7) / 8 := by omega
      gi_wp2
      go_end0
      exact ⟨⟨_, rfl⟩, .inl (by rw [← hkk]; exact hJs)⟩

set_option maxHeartbeats 1000000 in
/-- slices.Chunk(s, 8): the slice and the 8 are boxed; the function value captures the boxes. -/
theorem chunk_in (F : Fence) (n : Nat) (hf : F.fn 27) (hro : F.round = none) (v : Option Addr) (len cap : Nat) (w : World) :
    CallsIn F n Tryd.prog 27 #[.slice v len cap, .int .i64 8] w fun e w' => e = .returned (.func (.func 36) #[] #[.pointer (some ⟨w.heap.size, 0, none⟩), .pointer (some ⟨w.heap.size + 1, 0, none⟩)]) ∧ w' = (w.alloc (.cells #[.slice v len cap] 27)).alloc (.cells #[.int .i64 8] 3) := by
  refine callsIn_of_wp Tryd.func27 rfl hf ?_ hro
  simp only [Tryd.ntmps27, List.size_toArray, List.length_cons, List.length_nil, Nat.reduceAdd, Nat.reduceSub, Array.replicate_succ, Array.replicate_zero, List.push_toArray, List.append_toArray, List.nil_append, List.cons_append]
  gi_wp2
  go_ret
  exact ⟨rfl, rfl⟩

/-- It hands back a value that gives the pieces, in their order, all or a part. -/
theorem chunk_stops (F : Fence) (n : Nat) (hf : F.fn 36) (hro : F.round = none) (hn : 1 ≤ n) (Bs Bn n₀ n₁ b off len cap : Nat) (v : Option Addr) (hv : 0 < len → v = some ⟨b, off, none⟩) (hlc : len ≤ cap) (hcap : len ≤ 9223372036854775000) (w : World) (hs1 : n₁ ≤ Bs) (hs2 : Bs < w.heap.size) (hb1 : n₁ ≤ Bn) (hb2 : Bn < w.heap.size)
    (hBs : w.cell? ⟨Bs, 0, none⟩ = some (.slice v len cap)) (hBn : w.cell? ⟨Bn, 0, none⟩ = some (.int .i64 8)) :
    SeqStopsK F n Tryd.prog 36 #[.pointer (some ⟨Bs, 0, none⟩), .pointer (some ⟨Bn, 0, none⟩)] (piece b off len) (KeepK n₀ n₁ w.heap.size) (fun ys => ys = List.range ((len + 7) / 8)) (fun pre => pre <+: List.range ((len + 7) / 8)) ((len + 7) / 8) w := fun l J Jx W hW hJ _ hY h0 =>
  chunk1_in F n hf hro hn l n₀ n₁ w.heap.size Bs Bn b off len cap v hv hlc hcap hs1 hs2 hb1 hb2 J Jx hY W hJ ((hW.cell (p := ⟨Bs, 0, none⟩) hs2).trans hBs) ((hW.cell (p := ⟨Bn, 0, none⟩) hb2).trans hBn) h0
end Go.Proofs.YtoehpoodfbgdiaaDoor
