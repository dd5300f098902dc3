/- Rows of items in memory; one block of two cells that a call makes and writes (glob). No function of the program is named. -/
import Derived.Test.YtaalfnfikjmomaaGlbA
import Derived.Maps.AppendAt
import Derived.Laws.AppendOwn
import Derived.Laws.OwnMore
import Derived.Lib.SmallJoins
namespace Go.Proofs.Ytaalfnfikjmomaa
open Go.RowKit Go.Lib

/-- The cells of items. -/
def itC (l : List (UInt8 × UInt8)) : List Value := l.flatMap fun x => [.int .u8 x.1.toNat, .int .u8 x.2.toNat]
theorem itC_snoc (l : List (UInt8 × UInt8)) (x : UInt8 × UInt8) : itC (l ++ [x]) = itC l ++ [.int .u8 x.1.toNat, .int .u8 x.2.toNat] := by unfold itC; rw [List.flatMap_append]; simp
theorem itC_len (l : List (UInt8 × UInt8)) : (itC l).length = l.length * 2 := by
  induction l with
  | nil => rfl
  | cons a l ih => rw [show a :: l = [a] ++ l from rfl, itC, List.flatMap_append, List.length_append]; show 2 + (itC l).length = _; rw [ih, List.length_append, List.length_singleton]; omega
theorem itC_at : ∀ (l : List (UInt8 × UInt8)) (k : Nat) (h : k < l.length), (itC l)[2 * k]? = some (.int .u8 l[k].1.toNat) ∧ (itC l)[2 * k + 1]? = some (.int .u8 l[k].2.toNat)
  | [], k, h => by simp at h
  | a :: l, 0, _ => ⟨rfl, rfl⟩
  | a :: l, k + 1, h => by
    have := itC_at l k (by simpa using h)
    exact this
theorem itC_one (l : List (UInt8 × UInt8)) : ∀ u ∈ itC l, u.oneCell' = true := by
  intro u hu
  unfold itC at hu
  obtain ⟨x, _, hx⟩ := List.mem_flatMap.1 hu
  simp at hx
  rcases hx with rfl | rfl <;> rfl

/-- A slice of items reads as a list: nil, or cells from the head of a block. -/
def ReadsI (S : Nat → Prop) (w : World) (v : Option Addr) (l : List (UInt8 × UInt8)) : Prop :=
  ∀ k (h : k < l.length), ∃ b, v = some ⟨b, 0, none⟩ ∧ S b ∧ b < w.heap.size ∧ w.cell? ⟨b, 2 * k, none⟩ = some (.int .u8 l[k].1.toNat) ∧ w.cell? ⟨b, 2 * k + 1, none⟩ = some (.int .u8 l[k].2.toNat)
theorem ReadsI.move {S S' : Nat → Prop} {w w' : World} {v : Option Addr} {l : List (UInt8 × UInt8)} (h : ReadsI S w v l) (hz : w.heap.size ≤ w'.heap.size)
    (hb : ∀ b, b < w.heap.size → S b → S' b ∧ w'.heap[b]? = w.heap[b]?) : ReadsI S' w' v l := by
  intro k hk
  obtain ⟨b, e, hS, hlt, h1, h2⟩ := h k hk
  obtain ⟨hS2, hh⟩ := hb b hlt hS
  exact ⟨b, e, hS2, by omega, (World.cell?_of_block (w := w) (a := ⟨b, 2 * k, none⟩) hh).trans h1, (World.cell?_of_block (w := w) (a := ⟨b, 2 * k + 1, none⟩) hh).trans h2⟩
theorem ReadsI.below {S : Nat → Prop} {w w' : World} {v : Option Addr} {l : List (UInt8 × UInt8)} (h : ReadsI S w v l) (hb : Below w.heap.size w w') : ReadsI S w' v l :=
  h.move hb.size fun b hlt hS => ⟨hS, hb.block b hlt⟩
theorem ReadsI.nil (S : Nat → Prop) (w : World) (v : Option Addr) : ReadsI S w v [] := fun k hk => by simp at hk
theorem addr_add0 {g : Nat} (k : Nat) : (⟨g, 0, none⟩ : Addr).add k = ⟨g, k, none⟩ := by
  unfold Addr.add
  split
  · rename_i h; subst h; rfl
  · rw [Nat.zero_add]
/-- An owned row of items reads as these items. -/
theorem own_readsI {w : World} {B n : Nat} {v : Value} {l : List (UInt8 × UInt8)} (h : w.ownsRow B 54 2 v n (itC l)) (hn : n = l.length) :
    ∃ a c, v = .slice a l.length c ∧ l.length ≤ c ∧ c ≤ maxLen ∧ ReadsI (fun b => v.ownBlock = some b) w a l ∧ (l ≠ [] → ∃ g, a = some ⟨g, 0, none⟩ ∧ B ≤ g) := by
  rcases h.2 with ⟨rfl, h0⟩ | ⟨g, cap, cur, rfl, hB, hg, hnc, hcm, _⟩
  · have hl : l = [] := List.eq_nil_of_length_eq_zero (by omega)
    subst hl
    exact ⟨none, 0, rfl, by simp, by simp, ReadsI.nil _ _ _, fun h => absurd rfl h⟩
  · subst hn
    refine ⟨some ⟨g, 0, none⟩, cap, rfl, hnc, hcm, ?_, fun _ => ⟨g, rfl, hB⟩⟩
    intro k hk
    have hlt := (Array.getElem?_eq_some_iff.1 hg).1
    obtain ⟨h1, h2⟩ := itC_at l k hk
    have hc := fun j u hj => h.cells (g := g) rfl j u hj
    refine ⟨g, rfl, rfl, hlt, ?_, ?_⟩
    · have := hc _ _ h1
      rwa [addr_add0] at this
    · have := hc _ _ h2
      rwa [addr_add0] at this
theorem info54 : (Try.prog.info? 54).map (fun i => (i.zero, i.size, i.bytes)) = some (some (.agg #[.int .u8 0, .int .u8 0]), 2, 2) := by kernel_rfl
theorem two_cells {w : World} {x y : Value} {t : TypeId} : ∀ j u, [x, y][j]? = some u → (w.alloc (.cells #[x, y] t)).cell? ((⟨w.heap.size, 0, none⟩ : Addr).add j) = some u := by
  intro j u hj
  match j, hj with
  | 0, hj => simp at hj; subst hj; simp [Addr.add, go_sem]
  | 1, hj => simp at hj; subst hj; simp [Addr.add, go_sem]

/-- A block of two cells. -/
structure TwoAt (w : World) (b : Nat) (t : TypeId) (x y : Value) : Prop where
  blk : w.heap[b]? = some (.cells #[x, y] t (0, 0))
theorem TwoAt.lt {w : World} {b : Nat} {t : TypeId} {x y : Value} (h : TwoAt w b t x y) : b < w.heap.size := (Array.getElem?_eq_some_iff.1 h.blk).1
theorem TwoAt.cell0 {w : World} {b : Nat} {t : TypeId} {x y : Value} (h : TwoAt w b t x y) : w.cell? ⟨b, 0, none⟩ = some x := by
  have h := h.blk
  simp [World.cell?, h]
theorem TwoAt.cell1 {w : World} {b : Nat} {t : TypeId} {x y : Value} (h : TwoAt w b t x y) : w.cell? ⟨b, 1, none⟩ = some y := by
  have h := h.blk
  simp [World.cell?, h]
theorem TwoAt.frozen {w : World} {b : Nat} {t : TypeId} {x y : Value} (h : TwoAt w b t x y) (k : Nat) : w.frozen? ⟨b, k, none⟩ = false := by
  have h := h.blk
  simp [World.frozen?, h]
theorem TwoAt.of_block {w w' : World} {b : Nat} {t : TypeId} {x y : Value} (h : TwoAt w b t x y) (e : w'.heap[b]? = w.heap[b]?) : TwoAt w' b t x y := ⟨e.trans h.blk⟩
theorem TwoAt.below {w w' : World} {b : Nat} {t : TypeId} {x y : Value} (h : TwoAt w b t x y) (hb : Below w.heap.size w w') : TwoAt w' b t x y := h.of_block (hb.block b h.lt)
theorem TwoAt.alloc {w : World} {b : Nat} {t : TypeId} {x y : Value} (h : TwoAt w b t x y) (o : Obj) : TwoAt (w.alloc o) b t x y := h.of_block (Below.heap_alloc w o b h.lt)
theorem TwoAt.drew {w : World} {b : Nat} {t : TypeId} {x y : Value} (h : TwoAt w b t x y) : TwoAt w.drew b t x y := ⟨h.blk⟩
theorem TwoAt.new (w : World) (t : TypeId) (x y : Value) : TwoAt (w.alloc (.cells #[x, y] t)) w.heap.size t x y := ⟨heap_alloc_new w _⟩
theorem TwoAt.set0 {w : World} {b : Nat} {t : TypeId} {x y : Value} (h : TwoAt w b t x y) (u : Value) : TwoAt (w.setCell ⟨b, 0, none⟩ u) b t u y := by
  have h := h.blk
  constructor
  simp [World.setCell, Array.getElem?_modify, h]
theorem TwoAt.set1 {w : World} {b : Nat} {t : TypeId} {x y : Value} (h : TwoAt w b t x y) (u : Value) : TwoAt (w.setCell ⟨b, 1, none⟩ u) b t x u := by
  have h := h.blk
  constructor
  simp [World.setCell, Array.getElem?_modify, h]
theorem grown_set (w : World) (b k : Nat) (u : Value) : w.grownBy (w.setCell ⟨b, k, none⟩ u) (some b) :=
  ⟨rfl, rfl, rfl, by simp [World.setCell], fun j _ hj => Below.heap_setCell _ _ _ j (fun e => hj (by rw [e]))⟩
theorem own_ne {w : World} {B n size b : Nat} {t : TypeId} {v : Value} {xs : List Value} (h : w.ownsRow B t size v n xs) (hb : b < B) : v.ownBlock ≠ some b := by
  intro e
  have := (h.lt b e).1
  omega
theorem own_slice {w : World} {B n size : Nat} {t : TypeId} {v : Value} {xs : List Value} (h : w.ownsRow B t size v n xs) : ∃ a c, v = .slice a n c := by
  rcases h.2 with ⟨rfl, rfl⟩ | ⟨g, cap, cur, rfl, _⟩
  · exact ⟨none, 0, rfl⟩
  · exact ⟨_, cap, rfl⟩
theorem own_keep {w w' : World} {B n size : Nat} {t : TypeId} {v : Value} {xs : List Value} (ho : w.ownsRow B t size v n xs) (h : Below w.heap.size w w') : w'.ownsRow B t size v n xs :=
  ho.kept (row := none) ⟨h.os, h.tape, h.output, h.size, fun k hk _ => h.block k hk⟩ (by cases v.ownBlock <;> simp)
end Go.Proofs.Ytaalfnfikjmomaa
