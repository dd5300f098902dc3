/- The contracts of slices.Values over shares and of the function value that it hands back (fairness). -/
import Derived.Test.YtmjikddceegloaaGreatDoorFrJ
import Derived.RangeFuncNested
import Derived.RangeFuncBound
import Derived.RangeFuncCalls
import Derived.RangeFuncLeaves
import Derived.Shelf.Abstract
import Derived.Shelf.RegionOpen
import Derived.WalkKit
import Derived.OwnWalkIn
import Derived.TacticsInMore
import Derived.LoopNIn
import Derived.LoopIn
namespace Go.Proofs.YtmjikddceegloaaGreatDoor
open Go.RowKit Go.Shelf

attribute [local go_sem] Oper.semAt_some

/-- A slice of shares that lies below a mark reads. -/
def LowH (n₀ : Nat) (w : World) (v : Option Addr) (l : List Sha) : Prop := ∀ j (_ : j < l.length), ∃ b off, v = some ⟨b, off, none⟩ ∧ b < n₀ ∧ w.cell? ⟨b, off + j * 3, none⟩ = some (.string ⟨l[j].prj.toArray⟩) ∧ w.cell? ⟨b, off + j * 3 + 1, none⟩ = some (.int .i64 l[j].wgt) ∧ w.cell? ⟨b, off + j * 3 + 2, none⟩ = some (.int .i64 l[j].srv)
theorem LowH.keep {n₀ : Nat} {w w' : World} {v : Option Addr} {l : List Sha} (h : LowH n₀ w v l) (hb : Below n₀ w w') : LowH n₀ w' v l := by
  intro j hj
  obtain ⟨b, off, h1, h2, c0, c1, c2⟩ := h j hj
  exact ⟨b, off, h1, h2, (hb.cell (p := ⟨b, _, none⟩) h2).trans c0, (hb.cell (p := ⟨b, _, none⟩) h2).trans c1, (hb.cell (p := ⟨b, _, none⟩) h2).trans c2⟩
theorem ReadsH.low {w : World} {v : Option Addr} {l : List Sha} (h : ReadsH w v l) : LowH w.heap.size w v l := h
theorem take_prefix {α : Type} (L : List α) (k : Nat) : L.take k <+: L := List.take_prefix k L

set_option maxRecDepth 100000 in
set_option maxHeartbeats 4000000 in
theorem vals1_in (F : Fence) (n : Nat) (hf : F.fn 66) (hro : F.round = none) (hn : 1 ≤ n) (l n₀ Bs cap : Nat) (v : Option Addr) (L : List Sha) (hlen : L.length ≤ 1000000) (J Jx : List Sha → World → Prop)
    (hY : ∀ pre x W, J pre W → pre.length < L.length → YieldAt F (n - 1) Tryz.prog l #[shV x] W fun e W' =>
      (e = .returned (.bool true) ∧ J (pre ++ [x]) W' ∧ Below n₀ W W') ∨ (e = .returned (.bool false) ∧ Jx (pre ++ [x]) W'))
    (W : World) (hn0 : n₀ ≤ W.heap.size) (hJ : AbidesFrom W.heap.size J) (hBs : W.cell? ⟨Bs, 0, none⟩ = some (.slice v L.length cap)) (hr : LowH n₀ W v L) (h0 : J [] W) :
    CallsIn F n Tryz.prog 66 #[.func (.yield l) #[] #[], .pointer (some ⟨Bs, 0, none⟩)] W fun e W' => (∃ v, e = .returned v) ∧
      ((∃ ys, ys = L ∧ J ys W') ∨ (∃ pre, pre <+: L ∧ Jx pre W')) := by
  have HR := Lib.hid hr
  clear hr
  refine callsIn_of_wp Tryz.func66 rfl hf ?_ hro
  simp only [Tryz.ntmps66, List.size_toArray, List.length_cons, List.length_nil, Nat.reduceAdd, Nat.reduceSub, Array.replicate_succ, Array.replicate_zero, List.push_toArray, List.append_toArray, List.nil_append, List.cons_append]
  have hmx : Tryz.prog.follows .mixedOrders = true := by kernel_rfl
  gi_wp2
  gi_loopw [7] (fun i wr => ∃ k : Nat, k ≤ L.length ∧ i = .int .i64 k ∧ J (L.take k) wr ∧ Below n₀ W wr)
    (fun i _ => L.length - (intOf i).toNat)
  case atStart => exact ⟨0, by omega, rfl, h0, Below.refl _ _⟩
  case round =>
    obtain ⟨k, hk, rfl, hJs, hnx⟩ := hrel
    by_cases hlt : k < L.length
    · have hltI : (k : Int) < (L.length : Int) := by omega
      have hk0 : (0 : Int) ≤ (k : Int) := by omega
      obtain ⟨b, off, rfl, hbl, c0, c1, c2⟩ := (HR.out.keep hnx) k hlt
      have hsz := hnx.size
      have hJd : J (L.take k) (wr.alloc (.cells #[.string ⟨L[k].prj.toArray⟩, .int .i64 L[k].wgt, .int .i64 L[k].srv] 41)) := hJ _ _ _ none hJs (World.grownBy_alloc wr _ none) (by simp)
      obtain ⟨fn, tmps, assign, body, hy, hR⟩ := hY _ L[k] _ hJd (by rw [List.length_take]; omega)
      have hpre : L.take k ++ [L[k]] <+: L := by
        rw [List.take_append_getElem hlt]
        exact take_prefix L _
      have HP := Lib.hid hpre
      have HT := Lib.hid (List.take_append_getElem hlt)
      have hn0' : n₀ ≤ wr.heap.size := by omega
      clear hpre
      unfold shV at hy
      obtain ⟨sx, hsx⟩ : ∃ s : ByteArray, s = ⟨L[k].prj.toArray⟩ := ⟨_, rfl⟩
      rw [← hsx] at c0 hy hR
      generalize L[k].wgt = sg at *
      generalize L[k].srv = sv at *
      clear hsx hJd
      gi_wp2
      refine hR.mono ?_
      rintro e W3 (⟨rfl, hJ3, hk3⟩ | ⟨rfl, hJx3⟩)
      · have hx2 := (hnx.alloc hn0' (.cells #[.string sx, .int .i64 sg, .int .i64 sv] 41)).trans hk3
        rw [HT.out] at hJ3
        gi_wp2
        go_roundw
        case rel => exact ⟨k + 1, by omega, by go_num, hJ3, hx2⟩
        case measure => simp [intOf]; omega
      · gi_wp2
        refine bodyPost_ret (results_none rfl _ _ _) rfl ?_
        exact ⟨⟨_, rfl⟩, .inr ⟨_, HP.out, hJx3⟩⟩
    · have hltI : ¬ (k : Int) < (L.length : Int) := by omega
      have hkk : k = L.length := by omega
      gi_wp2
      go_end0
      exact ⟨⟨_, rfl⟩, .inl (by rw [hkk, List.take_length] at hJs; exact hJs)⟩

set_option maxHeartbeats 1000000 in
/-- slices.Values(s): the slice is boxed; the function value captures the box. -/
theorem values_in (F : Fence) (n : Nat) (hf : F.fn 45) (hro : F.round = none) (v : Option Addr) (len cap : Nat) (w : World) :
    CallsIn F n Tryz.prog 45 #[.slice v len cap] w fun e w' => e = .returned (.func (.func 66) #[] #[.pointer (some ⟨w.heap.size, 0, none⟩)]) ∧ w' = w.alloc (.cells #[.slice v len cap] 22) := by
  refine callsIn_of_wp Tryz.func45 rfl hf ?_ hro
  simp only [Tryz.ntmps45, List.size_toArray, List.length_cons, List.length_nil, Nat.reduceAdd, Nat.reduceSub, Array.replicate_succ, Array.replicate_zero, List.push_toArray, List.append_toArray, List.nil_append, List.cons_append]
  gi_wp2
  go_ret
  exact ⟨rfl, rfl⟩

/-- It hands back a value that gives the shares, in their order, all or a part. -/
theorem vals_stops (F : Fence) (n : Nat) (hf : F.fn 66) (hro : F.round = none) (hn : 1 ≤ n) (Bs n₀ cap : Nat) (v : Option Addr) (L : List Sha) (hlen : L.length ≤ 1000000) (w : World) (hs2 : Bs < w.heap.size) (hn0 : n₀ ≤ w.heap.size)
    (hBs : w.cell? ⟨Bs, 0, none⟩ = some (.slice v L.length cap)) (hr : LowH n₀ w v L) :
    SeqStopsK F n Tryz.prog 66 #[.pointer (some ⟨Bs, 0, none⟩)] (fun x => #[shV x]) (fun A B => Below n₀ A B) (fun ys => ys = L) (fun pre => pre <+: L) L.length w := fun l J Jx W hW hJ _ hY h0 =>
  vals1_in F n hf hro hn l n₀ Bs cap v L hlen J Jx hY W (Nat.le_trans hn0 hW.size) hJ ((hW.cell (p := ⟨Bs, 0, none⟩) hs2).trans hBs) (hr.keep (hW.mono hn0)) h0
end Go.Proofs.YtmjikddceegloaaGreatDoor
