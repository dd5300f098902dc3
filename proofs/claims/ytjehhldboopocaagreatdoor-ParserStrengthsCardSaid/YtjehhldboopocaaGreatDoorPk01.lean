/- Contracts of functions of the program, and what they are made of (parser; Pk01). -/
import Derived.Test.YtjehhldboopocaaGreatDoorRows
import Derived.WalkKit
import Derived.WalkSpells
import Derived.WalkLawsBesides
import Derived.OwnWalk
import Derived.Lib.VarintMem
import Derived.Lib.Hide
import Derived.Deep.DeepFit
import Derived.Outline
import Derived.ProofKit
import Derived.OpenShut
namespace Go.Proofs.YtjehhldboopocaaGreatDoor.Lx
open Go.RowKit Go.Lib
/-- No block of other cells than bytes has turned. -/
def KeepT (w w' : World) : Prop := ∀ (k : Nat) (c : Array Value) (t : TypeId) (f : Nat × Nat), w.heap[k]? = some (Obj.cells c t f) → t ≠ 5 → w'.heap[k]? = some (Obj.cells c t f)
theorem KeepT.refl (w : World) : KeepT w w := fun _ _ _ _ h _ => h
theorem KeepT.trans {a b c : World} (h : KeepT a b) (k : KeepT b c) : KeepT a c := fun i x t f h1 h2 => k i x t f (h i x t f h1 h2) h2
theorem KeepT.alloc {a b : World} (h : KeepT a b) (o : Obj) : KeepT a (b.alloc o) := fun i x t f h1 h2 => by
  have h3 := h i x t f h1 h2
  rw [Below.heap_alloc b o i (Array.getElem?_eq_some_iff.1 h3).1]
  exact h3
theorem KeepT.append {a b c : World} (h : KeepT a b) {B n : Nat} {v : Value} {xs : List Value} (ho : b.ownsRow B 5 1 v n xs) (hg : b.grownBy c v.ownBlock) : KeepT a c := fun i x t f h1 h2 => by
  have h3 := h i x t f h1 h2
  rw [hg.block i (Array.getElem?_eq_some_iff.1 h3).1 ?_]
  · exact h3
  · intro hk
    rcases ho.2 with ⟨rfl, _⟩ | ⟨g, cap, cur, rfl, _, hgg, _⟩
    · simp [Value.ownBlock] at hk
    · simp only [Value.ownBlock, Option.some.injEq] at hk
      subst hk
      rw [hgg] at h3
      injection h3 with h4
      injection h4 with _ h5 _
      exact h2 h5.symm

theorem info8 : (Tryz.prog.info? 5).map (fun i => (i.zero, i.size, i.bytes)) = some (some (.int .u8 0), 1, 1) := by kernel_rfl

/-- A slice of bytes reads as a list: nil, or cells in a block that is there. -/
def ReadsBytes (w : World) (v : Option Addr) (l : List UInt8) : Prop :=
  ∀ k (h : k < l.length), ∃ b off, v = some ⟨b, off, none⟩ ∧ b < w.heap.size ∧ w.cell? ⟨b, off + k, none⟩ = some (.int .u8 l[k].toNat)

/-- Bytes that are read become the string of them. -/
theorem push_all : ∀ (l : List UInt8) (s : ByteArray), (l.map fun b => (b.toNat : Int)).foldl (fun r n => r.push (UInt8.ofNat n.toNat)) s = ⟨s.data ++ l.toArray⟩
  | [], s => by simp
  | b :: l, s => by
    simp only [List.map_cons, List.foldl_cons]
    rw [push_all l]
    simp [ByteArray.push]
theorem conv_str (v : Option Addr) (l : List UInt8) (w : World) (hr : ReadsBytes w v l) (cap : Nat) :
    (convert 46 9 (.slice v l.length cap)).run Tryz.prog w = .ok (.string ⟨l.toArray⟩) w := by
  rw [run_convert_bytes_string w 46 9 5 v l.length cap Tryz.underlying46 Tryz.underlying5 Tryz.underlying9]
  cases v with
  | none =>
    have hl : l = [] := by
      cases l with
      | nil => rfl
      | cons b l =>
        obtain ⟨_, _, h, _⟩ := hr 0 (by simp)
        cases h
    subst hl
    rfl
  | some a =>
    have hc := run_loadCells_list (P := Tryz.prog) (w := w) a (l.map fun b => Value.int .u8 (b.toNat : Int)) (by
      intro j u hj
      rw [List.getElem?_map] at hj
      cases hl : l[j]? with
      | none => rw [hl] at hj; cases hj
      | some b =>
        rw [hl] at hj
        obtain rfl := Option.some.inj hj
        obtain ⟨hjl, rfl⟩ := List.getElem?_eq_some_iff.1 hl
        obtain ⟨blk, off, e, _, hcell⟩ := hr j hjl
        obtain rfl := Option.some.inj e
        have ea : (⟨blk, off, none⟩ : Addr).add j = ⟨blk, off + j, none⟩ := by
          unfold Addr.add
          split
          · rename_i h; subst h; rfl
          · rfl
        rw [ea]
        exact hcell)
    rw [List.length_map] at hc
    rw [run_bytesToString w a l.length cap (l.map fun b => (b.toNat : Int)) (by rw [hc, List.map_map]; rfl), push_all]
    simp
theorem ReadsBytes.drop {w : World} {b off : Nat} {l : List UInt8} (h : ReadsBytes w (some ⟨b, off, none⟩) l) (k u : Nat) : ReadsBytes w (some ⟨b, off + k, none⟩) ((l.drop k).take u) := by
  intro j hj
  rw [List.length_take, List.length_drop] at hj
  obtain ⟨b', off', e, hlt, hc⟩ := h (k + j) (by omega)
  obtain ⟨rfl, rfl⟩ : b = b' ∧ off = off' := by cases e; exact ⟨rfl, rfl⟩
  refine ⟨b, off + k, rfl, hlt, ?_⟩
  rw [Nat.add_assoc, hc]
  simp

/-- An owned row of bytes reads as these bytes. -/
theorem own_reads {w : World} {B n : Nat} {v : Value} {l : List UInt8} (h : w.ownsRow B 5 1 v n (Lib.byteCells l)) (hn : n = l.length) : ∃ a c, v = .slice a l.length c ∧ l.length ≤ c ∧ c ≤ maxLen ∧ ReadsBytes w a l := by
  rcases h.2 with ⟨rfl, h0⟩ | ⟨g, cap, cur, rfl, _, hg, hnc, hcm, _⟩
  · have hl : l = [] := List.eq_nil_of_length_eq_zero (by omega)
    subst hl
    exact ⟨none, 0, rfl, by simp, by simp, fun k hk => by simp at hk⟩
  · subst hn
    refine ⟨some ⟨g, 0, none⟩, cap, rfl, hnc, hcm, ?_⟩
    intro k hk
    have hlt := (Array.getElem?_eq_some_iff.1 hg).1
    refine ⟨g, 0, rfl, hlt, ?_⟩
    have hc := h.cells rfl k (.int .u8 (l[k]).toNat) (by simp [Lib.byteCells, hk])
    have e : (⟨g, 0, none⟩ : Addr).add k = ⟨g, 0 + k, none⟩ := by
      unfold Addr.add
      split
      · rename_i h; subst h; rfl
      · rfl
    rw [e] at hc
    exact hc
theorem ReadsBytes.below {w w' : World} {v : Option Addr} {l : List UInt8} (h : ReadsBytes w v l) (hb : Below w.heap.size w w') : ReadsBytes w' v l := by
  intro k hk
  obtain ⟨b, off, e, hlt, hc⟩ := h k hk
  exact ⟨b, off, e, Nat.lt_of_lt_of_le hlt hb.size, (hb.cell (p := ⟨b, off + k, none⟩) hlt).trans hc⟩

theorem byteCells_app (a b : List UInt8) : Lib.byteCells (a ++ b) = Lib.byteCells a ++ Lib.byteCells b := Lib.byteCells_append a b

theorem grown_of_below {w w' : World} (h : Below w.heap.size w w') (row : Option Nat) : w.grownBy w' row := ⟨h.os, h.tape, h.output, h.size, fun k hk _ => h.block k hk⟩
theorem own_below {w w' : World} {B n : Nat} {v : Value} {xs : List Value} (ho : w.ownsRow B 5 1 v n xs) (h : Below w.heap.size w w') : w'.ownsRow B 5 1 v n xs :=
  ho.kept (grown_of_below h none) (by cases v.ownBlock <;> simp)
theorem byteCells_one (l : List UInt8) (b : UInt8) : Lib.byteCells (l ++ [b]) = Lib.byteCells l ++ [Value.int .u8 (b.toNat : Int)] := by simp [Lib.byteCells]

end Go.Proofs.YtjehhldboopocaaGreatDoor.Lx
