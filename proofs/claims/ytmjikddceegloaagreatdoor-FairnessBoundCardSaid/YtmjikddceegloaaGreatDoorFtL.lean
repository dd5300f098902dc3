/- A slice of ints that comes in, and a row of ints that a call made (fairness). -/
import Derived.Test.YtmjikddceegloaaGreatDoorOpH
import Derived.Lib.JoinLaws
namespace Go.Proofs.YtmjikddceegloaaGreatDoor
open Go.ChangeShapes Go.WideShapes Go.ChangeAt Go.RowKit Go.Deep Go.Joins Go.Lib
set_option linter.unusedSimpArgs false

/-- A slice of ints reads as a list of them. -/
def ReadsN (w : World) (v : Option Addr) (l : List Int) : Prop := ∀ j (_ : j < l.length), ∃ b off, v = some ⟨b, off, none⟩ ∧ b < w.heap.size ∧ w.cell? ⟨b, off + j, none⟩ = some (.int .i64 l[j])
theorem ReadsN.below {w w' : World} {v : Option Addr} {l : List Int} (h : ReadsN w v l) (hb : Below w.heap.size w w') : ReadsN w' v l := by
  intro j hj
  obtain ⟨b, off, h1, h2, c0⟩ := h j hj
  exact ⟨b, off, h1, Nat.lt_of_lt_of_le h2 hb.size, (hb.cell (p := ⟨b, _, none⟩) h2).trans c0⟩
theorem one_of {α : Type} {l : List α} (h : l.length = 1) : ∃ a, l = [a] := by
  match l, h with
  | [a], _ => exact ⟨a, rfl⟩
theorem open_nums {H : Type} {enc : TypeId × Value → H} {W : World} (fuel : Nat) (a : Option Addr) (len cap : Nat) (x : DataW H × List MemPlace)
    (h : DataW.trod enc Tryz.prog W 0 (fun _ => true) true fuel 42 [.slice a len cap] = some x) :
    ∃ L : List Int, len = L.length ∧ (∀ j (h : j < L.length), (Lit.int .i64 L[j]).wf = true) ∧ ReadsN W a L := by
  rcases DataW.trod_slice Tryz.underlying42 h with ⟨hcs, _⟩ | ⟨ad, len', cap', elems, rest, n, hfu, hcs, rfl, _, hl, hm, hlen, hel, _, _⟩
  · simp at hcs
    obtain ⟨rfl, rfl, rfl⟩ := hcs
    exact ⟨[], rfl, fun j h => by simp at h, fun k hk => by simp at hk⟩
  · simp at hcs
    obtain ⟨rfl, rfl, rfl⟩ := hcs
    rw [show Tryz.prog.cellsOf 3 = 1 from by kernel_rfl] at hel
    have key : ∀ i, i < len → ∃ f : Int, (Lit.int .i64 f).wf = true ∧ ∃ b off, ad = ⟨b, off, none⟩ ∧ b < W.heap.size ∧ W.cell? ⟨b, off + i, none⟩ = some (.int .i64 f) := by
      intro i hi
      obtain ⟨b, off, cs, rfl, hlt, hcl, hat, ht⟩ := slot_of (by omega) hlen hel i hi
      obtain ⟨c0, rfl⟩ := one_of hcl
      obtain ⟨k, e1, _, hw⟩ := DataW.trod_int Tryz.underlying3 ht
      simp only [List.cons.injEq, and_true] at e1
      subst e1
      refine ⟨k, hw, b, off, rfl, hlt, ?_⟩
      have := hat 0 (by omega)
      simpa using this
    obtain ⟨L, hLl, hL⟩ := pick_of len key
    refine ⟨L, hLl.symm, fun j hj => ?_, fun k hk => ?_⟩
    · obtain ⟨f, hf, h1, _⟩ := hL j (by omega)
      rw [(List.getElem?_eq_some_iff.1 hf).2]
      exact h1
    · obtain ⟨f, hf, _, b, off, h1, h2, h3⟩ := hL k (by omega)
      rw [(List.getElem?_eq_some_iff.1 hf).2]
      exact ⟨b, off, by rw [h1], h2, h3⟩
/-- A block that is a row of ints. -/
structure RowN (w : World) (b : Nat) (g : List Int) : Prop where
  blk : w.heap[b]? = some (.cells (g.map (Value.int .i64)).toArray 3 (0, 0))
theorem RowN.lt {w : World} {b : Nat} {g : List Int} (h : RowN w b g) : b < w.heap.size := (Array.getElem?_eq_some_iff.1 h.blk).1
theorem RowN.cell {w : World} {b : Nat} {g : List Int} (h : RowN w b g) (j : Nat) (hj : j < g.length) : w.cell? ⟨b, j, none⟩ = some (.int .i64 g[j]) := by
  simp [World.cell?, h.blk, hj]
theorem RowN.cellsI {w : World} {b : Nat} {g : List Int} (h : RowN w b g) (j : Nat) (x : Value) (hx : w.cell? ⟨b, j, none⟩ = some x) : ∃ n, x = .int .i64 n := by
  simp [World.cell?, h.blk] at hx
  obtain ⟨n, _, rfl⟩ := hx
  exact ⟨_, rfl⟩
theorem RowN.froz {w : World} {b : Nat} {g : List Int} (h : RowN w b g) (j : Nat) : w.frozen? ⟨b, j, none⟩ = false := by
  simp [World.frozen?, h.blk]
theorem RowN.below {w w' : World} {b : Nat} {g : List Int} (h : RowN w b g) (hb : Below w.heap.size w w') : RowN w' b g := ⟨(hb.block b h.lt).trans h.blk⟩
theorem RowN.set {w : World} {b : Nat} {g : List Int} (h : RowN w b g) (j : Nat) (n : Int) : RowN (w.setCell ⟨b, j, none⟩ (.int .i64 n)) b (g.set j n) := by
  refine ⟨?_⟩
  obtain ⟨hlt, hk⟩ := Array.getElem?_eq_some_iff.1 h.blk
  show (w.heap.modify b _)[b]? = _
  rw [Array.getElem?_eq_getElem (by rw [Array.size_modify]; exact hlt), Array.getElem_modify_self, hk]
  simp [List.map_set]
/-- A store into a row of ints leaves the shares. -/
theorem readsH_setN {w : World} {v : Option Addr} {L : List Sha} {g : Nat} {G : List Int} (h : ReadsH w v L) (hg : RowN w g G) (j : Nat) (n : Int) : ReadsH (w.setCell ⟨g, j, none⟩ (.int .i64 n)) v L := by
  intro i hi
  obtain ⟨b, off, h1, h2, c0, c1, c2⟩ := h i hi
  have hne : b ≠ g := fun e => by
    subst e
    obtain ⟨n, hn⟩ := hg.cellsI _ _ c0
    cases hn
  have hb : (w.setCell ⟨g, j, none⟩ (.int .i64 n)).heap[b]? = w.heap[b]? := by
    show (w.heap.modify g _)[b]? = _
    rw [Array.getElem?_modify, if_neg (fun e => hne e.symm)]
  exact ⟨b, off, h1, by simpa [World.setCell] using h2, (World.cell?_of_block (a := ⟨b, _, none⟩) hb).trans c0, (World.cell?_of_block (a := ⟨b, _, none⟩) hb).trans c1, (World.cell?_of_block (a := ⟨b, _, none⟩) hb).trans c2⟩
end Go.Proofs.YtmjikddceegloaaGreatDoor
