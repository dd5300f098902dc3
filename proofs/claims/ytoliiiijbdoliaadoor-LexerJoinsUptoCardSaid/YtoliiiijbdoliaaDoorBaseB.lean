/- Slices of bytes in memory: how they read, what a call owns, and how one that comes in is opened. No function of the program is named. -/
import Derived.Test.YtoliiiijbdoliaaDoorRows
import Derived.WalkKit
import Derived.WalkSpells
import Derived.WalkLawsBesides
import Derived.OwnWalk
import Derived.Lib.VarintMem
import Derived.Lib.Hide
import Derived.Deep.DeepFit
import Derived.Outline
import Derived.ProofKit
import Derived.OpenShut
namespace Go.Proofs.YtoliiiijbdoliaaDoor
open Go.RowKit Go.Lib

/-- No block of other cells than bytes has turned. -/
def KeepT (w w' : World) : Prop := ∀ (k : Nat) (c : Array Value) (t : TypeId) (f : Nat × Nat), w.heap[k]? = some (Obj.cells c t f) → t ≠ 5 → w'.heap[k]? = some (Obj.cells c t f)
theorem KeepT.refl (w : World) : KeepT w w := fun _ _ _ _ h _ => h
theorem KeepT.trans {a b c : World} (h : KeepT a b) (k : KeepT b c) : KeepT a c := fun i x t f h1 h2 => k i x t f (h i x t f h1 h2) h2
theorem KeepT.alloc {a b : World} (h : KeepT a b) (o : Obj) : KeepT a (b.alloc o) := fun i x t f h1 h2 => by
  have h3 := h i x t f h1 h2
  rw [Below.heap_alloc b o i (Array.getElem?_eq_some_iff.1 h3).1]
  exact h3
theorem KeepT.append {a b c : World} (h : KeepT a b) {B n : Nat} {v : Value} {xs : List Value} (ho : b.ownsRow B 5 1 v n xs) (hg : b.grownBy c v.ownBlock) : KeepT a c := fun i x t f h1 h2 => by
  have h3 := h i x t f h1 h2
  rw [hg.block i (Array.getElem?_eq_some_iff.1 h3).1 ?_]
  · exact h3
  · intro hk
    rcases ho.2 with ⟨rfl, _⟩ | ⟨g, cap, cur, rfl, _, hgg, _⟩
    · simp [Value.ownBlock] at hk
    · simp only [Value.ownBlock, Option.some.injEq] at hk
      subst hk
      rw [hgg] at h3
      injection h3 with h4
      injection h4 with _ h5 _
      exact h2 h5.symm

/-- What comes back owns the cells that were there and, behind them, those of l; below base B nothing has turned. -/
def Owns (B n : Nat) (xs : List Value) (w : World) (l : List UInt8) (e : Ending) (w' : World) : Prop :=
  ∃ v', e = .returned v' ∧ w'.ownsRow B 5 1 v' (n + l.length) (xs ++ Lib.byteCells l) ∧ Below B w w' ∧ KeepT w w'

theorem info8 : (Tryd.prog.info? 5).map (fun i => (i.zero, i.size, i.bytes)) = some (some (.int .u8 0), 1, 1) := by kernel_rfl

/-- A slice of bytes reads as a list: nil, or cells in a block that is there. -/
def ReadsBytes (w : World) (v : Option Addr) (l : List UInt8) : Prop :=
  ∀ k (h : k < l.length), ∃ b off, v = some ⟨b, off, none⟩ ∧ b < w.heap.size ∧ w.cell? ⟨b, off + k, none⟩ = some (.int .u8 l[k].toNat)

/-- Bytes that are read become the string of them. -/
theorem push_all : ∀ (l : List UInt8) (s : ByteArray), (l.map fun b => (b.toNat : Int)).foldl (fun r n => r.push (UInt8.ofNat n.toNat)) s = ⟨s.data ++ l.toArray⟩
  | [], s => by simp
  | b :: l, s => by
    simp only [List.map_cons, List.foldl_cons]
    rw [push_all l]
    simp [ByteArray.push]
theorem conv_str (v : Option Addr) (l : List UInt8) (w : World) (hr : ReadsBytes w v l) (cap : Nat) :
    (convert 35 9 (.slice v l.length cap)).run Tryd.prog w = .ok (.string ⟨l.toArray⟩) w := by
  rw [run_convert_bytes_string w 35 9 5 v l.length cap Tryd.underlying35 Tryd.underlying5 Tryd.underlying9]
  cases v with
  | none =>
    have hl : l = [] := by
      cases l with
      | nil => rfl
      | cons b l =>
        obtain ⟨_, _, h, _⟩ := hr 0 (by simp)
        cases h
    subst hl
    rfl
  | some a =>
    have hc := run_loadCells_list (P := Tryd.prog) (w := w) a (l.map fun b => Value.int .u8 (b.toNat : Int)) (by
      intro j u hj
      rw [List.getElem?_map] at hj
      cases hl : l[j]? with
      | none => rw [hl] at hj; cases hj
      | some b =>
        rw [hl] at hj
        obtain rfl := Option.some.inj hj
        obtain ⟨hjl, rfl⟩ := List.getElem?_eq_some_iff.1 hl
        obtain ⟨blk, off, e, _, hcell⟩ := hr j hjl
        obtain rfl := Option.some.inj e
        have ea : (⟨blk, off, none⟩ : Addr).add j = ⟨blk, off + j, none⟩ := by
          unfold Addr.add
          split
          · rename_i h; subst h; rfl
          · rfl
        rw [ea]
        exact hcell)
    rw [List.length_map] at hc
    rw [run_bytesToString w a l.length cap (l.map fun b => (b.toNat : Int)) (by rw [hc, List.map_map]; rfl), push_all]
    simp
theorem ReadsBytes.drop {w : World} {b off : Nat} {l : List UInt8} (h : ReadsBytes w (some ⟨b, off, none⟩) l) (k u : Nat) : ReadsBytes w (some ⟨b, off + k, none⟩) ((l.drop k).take u) := by
  intro j hj
  rw [List.length_take, List.length_drop] at hj
  obtain ⟨b', off', e, hlt, hc⟩ := h (k + j) (by omega)
  obtain ⟨rfl, rfl⟩ : b = b' ∧ off = off' := by cases e; exact ⟨rfl, rfl⟩
  refine ⟨b, off + k, rfl, hlt, ?_⟩
  rw [Nat.add_assoc, hc]
  simp

/-- An owned row of bytes reads as these bytes. -/
theorem own_reads {w : World} {B n : Nat} {v : Value} {l : List UInt8} (h : w.ownsRow B 5 1 v n (Lib.byteCells l)) (hn : n = l.length) : ∃ a c, v = .slice a l.length c ∧ l.length ≤ c ∧ c ≤ maxLen ∧ ReadsBytes w a l := by
  rcases h.2 with ⟨rfl, h0⟩ | ⟨g, cap, cur, rfl, _, hg, hnc, hcm, _⟩
  · have hl : l = [] := List.eq_nil_of_length_eq_zero (by omega)
    subst hl
    exact ⟨none, 0, rfl, by simp, by simp, fun k hk => by simp at hk⟩
  · subst hn
    refine ⟨some ⟨g, 0, none⟩, cap, rfl, hnc, hcm, ?_⟩
    intro k hk
    have hlt := (Array.getElem?_eq_some_iff.1 hg).1
    refine ⟨g, 0, rfl, hlt, ?_⟩
    have hc := h.cells rfl k (.int .u8 (l[k]).toNat) (by simp [Lib.byteCells, hk])
    have e : (⟨g, 0, none⟩ : Addr).add k = ⟨g, 0 + k, none⟩ := by
      unfold Addr.add
      split
      · rename_i h; subst h; rfl
      · rfl
    rw [e] at hc
    exact hc
theorem ReadsBytes.below {w w' : World} {v : Option Addr} {l : List UInt8} (h : ReadsBytes w v l) (hb : Below w.heap.size w w') : ReadsBytes w' v l := by
  intro k hk
  obtain ⟨b, off, e, hlt, hc⟩ := h k hk
  exact ⟨b, off, e, Nat.lt_of_lt_of_le hlt hb.size, (hb.cell (p := ⟨b, off + k, none⟩) hlt).trans hc⟩

theorem strCells_bytes (s : ByteArray) : Lib.strCells s = Lib.byteCells s.data.toList := rfl
theorem byteCells_app (a b : List UInt8) : Lib.byteCells (a ++ b) = Lib.byteCells a ++ Lib.byteCells b := Lib.byteCells_append a b

theorem reads_cells {w : World} {ad : Addr} {l : List UInt8} (h : ReadsBytes w (some ad) l) : ∀ j u, (Lib.byteCells l)[j]? = some u → w.cell? (ad.add j) = some u := by
  intro j u hj
  unfold Lib.byteCells at hj
  rw [List.getElem?_map] at hj
  cases hl : l[j]? with
  | none => rw [hl] at hj; cases hj
  | some x =>
    rw [hl] at hj
    obtain rfl := Option.some.inj hj
    obtain ⟨hjl, rfl⟩ := List.getElem?_eq_some_iff.1 hl
    obtain ⟨blk, off', e, _, hcell⟩ := h j hjl
    cases e
    have ea : (⟨blk, off', none⟩ : Addr).add j = ⟨blk, off' + j, none⟩ := by
      unfold Addr.add
      split
      · rename_i h; subst h; rfl
      · rfl
    rw [ea]
    exact hcell
theorem byteCells_one' (l : List UInt8) : ∀ u ∈ Lib.byteCells l, u.oneCell' = true := by
  intro u hu
  unfold Lib.byteCells at hu
  obtain ⟨x, _, rfl⟩ := List.mem_map.1 hu
  rfl
theorem reads_some {w : World} {v : Option Addr} {l : List UInt8} (h : ReadsBytes w v l) (hl : 0 < l.length) : ∃ b off, v = some ⟨b, off, none⟩ := by
  obtain ⟨b, off, e, _⟩ := h 0 hl
  exact ⟨b, off, e⟩
theorem grown_of_below {w w' : World} (h : Below w.heap.size w w') (row : Option Nat) : w.grownBy w' row := ⟨h.os, h.tape, h.output, h.size, fun k hk _ => h.block k hk⟩
theorem own_below {w w' : World} {B n : Nat} {v : Value} {xs : List Value} (ho : w.ownsRow B 5 1 v n xs) (h : Below w.heap.size w w') : w'.ownsRow B 5 1 v n xs :=
  ho.kept (grown_of_below h none) (by cases v.ownBlock <;> simp)
theorem keep_below {w w' : World} (h : Below w.heap.size w w') : KeepT w w' := fun k _ _ _ h1 _ => (h.block k (Array.getElem?_eq_some_iff.1 h1).1).trans h1

theorem add_off {b off : Nat} (k : Nat) : (⟨b, off, none⟩ : Addr).add k = ⟨b, off + k, none⟩ := by
  unfold Addr.add
  split
  · rename_i h; subst h; rfl
  · rfl

theorem take_snoc (s : ByteArray) (k : Nat) (h : k < s.size) : s.data.toList.take (k + 1) = s.data.toList.take k ++ [s[k]] := by
  rw [List.take_succ_eq_append_getElem (by simpa using h)]; rfl
theorem byteCells_one (l : List UInt8) (b : UInt8) : Lib.byteCells (l ++ [b]) = Lib.byteCells l ++ [Value.int .u8 (b.toNat : Int)] := by simp [Lib.byteCells]

/-- The slice s[k:] of a slice of capacity c: at its end the address stays. -/
def dropA (a : Option Addr) (c k : Nat) : Option Addr := if c = k then a else a.map fun x => x.add k
theorem dropA_zero (a : Option Addr) (c : Nat) : dropA a c 0 = a := by
  unfold dropA
  split
  · rfl
  · cases a with
    | none => rfl
    | some x => simp [Addr.add]
theorem dropA_block {w : World} {a : Option Addr} {l : List UInt8} {c k R : Nat} (hr : ReadsBytes w a l) (h : ∀ b off, a = some ⟨b, off, none⟩ → b < R) (hk : k ≤ l.length) : ∀ b off, dropA a c k = some ⟨b, off, none⟩ → b < R := by
  intro b off e
  by_cases k0 : k = 0
  · subst k0
    rw [dropA_zero] at e
    exact h b off e
  · obtain ⟨b', off', ea, _⟩ := hr 0 (by omega)
    have hb := h b' off' ea
    rw [ea] at e
    unfold dropA at e
    split at e
    · injection e with e; injection e with e1 _ _; omega
    · rw [Option.map_some] at e
      have e2 : (⟨b', off', none⟩ : Addr).add k = ⟨b', off' + k, none⟩ := by
        unfold Addr.add
        split
        · rename_i h; subst h; rfl
        · rfl
      rw [e2] at e
      injection e with e; injection e with e1 _ _; omega
theorem dropA_reads {w : World} {a : Option Addr} {l : List UInt8} {c : Nat} (h : ReadsBytes w a l) (hl : l.length ≤ c) (k : Nat) : ReadsBytes w (dropA a c k) (l.drop k) := by
  intro j hj
  rw [List.length_drop] at hj
  obtain ⟨b, off, e, hlt, hc⟩ := h (k + j) (by omega)
  unfold dropA
  rw [if_neg (by omega), e]
  have e2 : (⟨b, off, none⟩ : Addr).add k = ⟨b, off + k, none⟩ := by
    unfold Addr.add
    split
    · rename_i h; subst h; rfl
    · rfl
  refine ⟨b, off + k, by rw [Option.map_some, e2], hlt, ?_⟩
  rw [Nat.add_assoc, hc]
  simp
set_option maxRecDepth 100000 in
theorem slice_from (a : Option Addr) (len cap k : Nat) (hk : k ≤ len) (w : World) : (Instr.sliceAt 35 (.slice a len cap) (some (.int .i64 (k : Int))) none none).run Tryd.prog w = .ok (.slice (dropA a cap k) (len - k) (cap - k)) w := by
  rw [run_sliceAt_slice _ _ _ _ _ _ Tryd.underlying35, run_slice_l _ _ _ _ _ Tryd.underlying35 .i64 (k : Int) (by omega) (by omega)]
  have hs : (sizeOf (Tryd.prog.elem 35)).run Tryd.prog w = .ok 1 w := by kernel_rfl
  rw [hs]
  simp [Result.andThen, sliced, dropA]

open Go.ChangeShapes Go.WideShapes Go.ChangeAt in
theorem reads_of8 {w : World} {x : Addr} {l c : Nat} {zs : List Int} (hl : l ≤ c) (hm : c ≤ maxLen) (hz : zs.length = c) (hcell : ∀ i, i < zs.length → w.cell? (x.add i) = some (.int .u8 (zs.getD i 0))) (hwz : ∀ n ∈ zs, (Lit.int .u8 n).wf = true) :
    ∃ L : List UInt8, l = L.length ∧ L.length ≤ c ∧ c ≤ 9223372036854775807 ∧ ReadsBytes w (some x) L := by
  have hlen : ((zs.take l).map fun z => z.toNat.toUInt8).length = l := by rw [List.length_map, List.length_take]; omega
  refine ⟨(zs.take l).map fun z => z.toNat.toUInt8, hlen.symm, by rw [hlen]; exact hl, by unfold maxLen at hm; omega, ?_⟩
  intro k hk
  rw [hlen] at hk
  have h0 := hcell 0 (by omega)
  have hsp := World.cell?_spot h0
  have hlt := World.block_lt_of_cell? w _ h0
  have hk' := hcell k (by omega)
  obtain ⟨b, off, spot⟩ := x
  simp only [Addr.add, if_true] at hsp hlt
  subst hsp
  refine ⟨b, off, rfl, hlt, ?_⟩
  have e : (⟨b, off, none⟩ : Addr).add k = ⟨b, off + k, none⟩ := by
    unfold Addr.add
    split
    · rename_i h; subst h; rfl
    · rfl
  rw [e] at hk'
  have hkz : k < zs.length := by omega
  have hw : 0 ≤ zs[k] ∧ zs[k] ≤ 255 := by
    have := hwz zs[k] (List.getElem_mem hkz)
    simpa [Lit.wf, IntKind.signed, IntKind.min, IntKind.max, IntKind.bits] using this
  rw [hk', List.getD_eq_getElem?_getD, List.getElem?_eq_getElem hkz]
  simp only [Option.getD_some, List.getElem_map, List.getElem_take]
  have hb : zs[k].toNat < 256 := by omega
  have e2 : (((zs[k].toNat.toUInt8).toNat : Nat) : Int) = zs[k] := by
    rw [show zs[k].toNat.toUInt8.toNat = zs[k].toNat from by simp; omega]
    omega
  rw [e2]
end Go.Proofs.YtoliiiijbdoliaaDoor
