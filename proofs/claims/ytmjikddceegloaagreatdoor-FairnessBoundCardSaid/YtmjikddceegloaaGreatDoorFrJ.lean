/- The library's sort of shares by ratio and name (fairness). -/
import Derived.Test.YtmjikddceegloaaGreatDoorFrI
import Derived.Test.YtmjikddceegloaaGreatDoorFrE
import Derived.Test.YtmjikddceegloaaGreatDoorShelfS
import Derived.Shelf.SlSortCmp.WholeK
import Derived.Sort.Statements
namespace Go.Proofs.YtmjikddceegloaaGreatDoor
open Go.RowKit Go.Lib Go.Sort Go.Shelf

theorem permIn_perm {α : Type} [Inhabited α] {d d' : Array α} (h : PermIn 0 d.size d d') : d'.toList.Perm d.toList := by
  obtain ⟨h1, _, h2⟩ := h
  rw [← h1, Array.extract_size, h1, Array.extract_size] at h2
  exact h2
theorem sortedIn_pairwise {α : Type} [Inhabited α] {lt : α → α → Bool} {d d' : Array α} (hn : d'.size = d.size) (h : SortedIn lt 0 d.size d') : d'.toList.Pairwise fun x y => lt y x = false := by
  rw [List.pairwise_iff_getElem]
  intro i j hi hj hij
  rw [Array.length_toList] at hi hj
  have e := h i j (Nat.zero_le _) hij (by omega)
  rw [getElem!_pos d' j hj, getElem!_pos d' i hi] at e
  rw [Array.getElem_toList, Array.getElem_toList]
  exact e
/-- Shares that are right. -/
abbrev RSh : Type := { s : Sha // rightS s = true }
instance : Inhabited RSh := ⟨⟨⟨[97], 1, 0⟩, by decide⟩⟩
def encH (x : RSh) : List Value := shC x.1
theorem encH_three (x : RSh) : (encH x).length = 3 := rfl
theorem encH_one (x : RSh) : ∀ v ∈ encH x, v.oneCell' = true := by
  intro v hv
  simp [encH, shC] at hv
  rcases hv with rfl | rfl | rfl <;> rfl
def befR (x y : RSh) : Int := befC x.1 y.1
theorem RSh.pos (x : RSh) : 0 < x.1.wgt := by have := ((rightS_iff _).1 x.2).2.1.1; omega
theorem befR_swo : SWO (ltOf befR) where
  irrefl := fun x => by
    unfold ltOf befR
    rw [decide_eq_false_iff_not]
    exact bef_irrefl x.1
  trans := fun x y z h1 h2 => by
    unfold ltOf befR at *
    rw [decide_eq_true_eq] at *
    exact bef_trans x.pos y.pos z.pos h1 h2
  ntrans := fun x y z h1 h2 => by
    unfold ltOf befR at *
    rw [decide_eq_false_iff_not] at *
    exact bef_ntrans x.pos y.pos z.pos h1 h2
theorem RSh.num (x : RSh) : NumS x.1 ∧ x.1.prj.length ≤ 1000000 := by
  obtain ⟨h1, h2, h3⟩ := (rightS_iff _).1 x.2
  have := name_len h1
  unfold NumS I64
  omega
theorem bef_lays (blk off size : Nat) (w : World) : CmpLays Tryz.prog 41 #[] encH 3 befR blk off size w := fun _ _ _ _ x y => by
  refine (bef_any x.1 y.1 x.num.1 y.num.1 x.num.2 y.num.2 _).mono ?_
  rintro e w' ⟨he, hb⟩
  exact ⟨he, grownD_of hb⟩
theorem rights_lift (L : List Sha) (h : ∀ s ∈ L, rightS s = true) : ∃ D : List RSh, D.map (·.1) = L :=
  ⟨L.attach.map fun x => ⟨x.1, h x.1 x.2⟩, by rw [List.map_map]; exact List.attach_map_subtype_val L⟩
theorem agg_sh (w : World) : (isAgg 41).run Tryz.prog w = .ok true w := by kernel_rfl
theorem size_sh (w : World) : (Go.sizeOf 41).run Tryz.prog w = .ok 3 w := by kernel_rfl
theorem holdsH_of {w : World} {g : Nat} {d : Array RSh} (h : ∀ j c, j < d.size → c < 3 → w.cell? ⟨g, j * 3 + c, none⟩ = some ((encH d[j]!)[c]!)) (hf : ∀ q, w.frozen? ⟨g, q, none⟩ = false) : HoldsK encH 3 w g 0 d := by
  intro t ht
  rw [size_flatK] at ht
  refine ⟨?_, hf _⟩
  rw [get_flatK _ _ _ _ ht]
  have e := h (t / 3) (t % 3) (by omega) (Nat.mod_lt _ (by decide))
  rw [show t / 3 * 3 + t % 3 = 0 + t by omega] at e
  exact e
theorem sortedH_block {w : World} {g n : Nat} {d : Array RSh} {os : Array Obj} {b : Nat} (hb : b < w.heap.size) (hne : b ≠ g) : (sortWorldK encH 3 w g 0 n d os).heap[b]? = w.heap[b]? := by
  unfold sortWorldK
  rw [heap_grow_old _ _ (by rw [size_putRowK]; exact hb)]
  simp [putRowK, putRow, mapBlock, Sort.ahead, Array.getElem?_modify, Ne.symm hne]
theorem sortedH_below {w0 w : World} {g n : Nat} {d : Array RSh} {os : Array Obj} (h : Go.RowKit.Below w0.heap.size w0 w) (hg : w0.heap.size ≤ g) : Go.RowKit.Below w0.heap.size w0 (sortWorldK encH 3 w g 0 n d os) :=
  ⟨h.os, h.tape, h.output, Nat.le_trans h.size (size_sortWorldK_c encH 3 w g 0 n d os), fun k hk => (sortedH_block (Nat.lt_of_lt_of_le hk h.size) (by omega)).trans (h.block k hk)⟩
def SortPost (L : List Sha) (g : Nat) (w1 : World) (e : Ending) (w' : World) : Prop := e = .returned (.tuple #[]) ∧ ∃ L' : List Sha, L'.Perm L ∧ L'.Pairwise (fun a b => ¬ befC b a < 0) ∧ ReadsH w' (some ⟨g, 0, none⟩) L' ∧ ∀ w0 : World, RowKit.Below w0.heap.size w0 w1 → w0.heap.size ≤ g → RowKit.Below w0.heap.size w0 w'
theorem sortSh_any (B : Nat) (w1 : World) (g c : Nat) (L : List Sha) (hR : ∀ s ∈ L, rightS s = true) (hlen : L.length ≤ 1000000) (hg : g < w1.heap.size) (hrow : w1.ownsRow B 41 3 (.slice (some ⟨g, 0, none⟩) L.length c) L.length (L.flatMap shC)) :
    Calls Tryz.prog 65 #[.slice (some ⟨g, 0, none⟩) L.length c, .func (.func 41) #[] #[]] w1 (SortPost L g w1) := by
  obtain ⟨D, hD⟩ := rights_lift L hR
  have hDl : D.length = L.length := by rw [← hD, List.length_map]
  have hget : ∀ (R : List RSh) j (h : j < R.length), (R.toArray)[j]! = R[j] := fun R j h => by
    rw [getElem!_pos _ j (by simpa using h)]
    simp
  have hH : HoldsK encH 3 w1 g 0 D.toArray := by
    refine holdsH_of (fun j d hj hd => ?_) (fun q => hrow.frozenAt q)
    have hj' : j < D.length := by rw [List.size_toArray] at hj; exact hj
    obtain ⟨f0, f1, f2⟩ := flatH L j (by omega)
    have hLj : L[j]'(by omega) = (D[j]).1 := by simp [← hD]
    rw [hget D j hj', hrow.cellAt _ (by omega)]
    rw [hLj] at f0 f1 f2
    rcases (show d = 0 ∨ d = 1 ∨ d = 2 by omega) with rfl | rfl | rfl
    · exact f0
    · exact f1
    · exact f2
  have S := AnyQ.slices_SortFunc Tryz.sortSh 3 agg_sh size_sh encH encH_three encH_one befR befR_swo 41 #[] g 0 c D.toArray w1 (enters_of Tryz.func41 (by kernel_rfl) rfl) (bef_lays g 0 _ w1) hH hg (by rw [List.size_toArray, hDl]; omega)
  rw [List.size_toArray, hDl] at S
  refine S.mono ?_
  rintro e w' ⟨rfl, d', n, os, hp, hs, rfl⟩
  rw [show L.length = D.toArray.size by rw [List.size_toArray, hDl]] at hp hs
  have hsz' : d'.size = D.toArray.size := hp.1
  have hperm := permIn_perm hp
  rw [List.toList_toArray] at hperm
  have hpw := sortedIn_pairwise hsz' hs
  have hdl : d'.toList.length = d'.size := Array.length_toList
  refine ⟨rfl, d'.toList.map (·.1), by rw [← hD]; exact hperm.map _, ?_, fun j hj => ?_, fun w0 hb hge => sortedH_below hb hge⟩
  · rw [List.pairwise_map]
    refine hpw.imp fun {a b} hab => ?_
    exact of_decide_eq_false (show decide (befC b.1 a.1 < 0) = false from hab)
  · rw [List.length_map] at hj
    have hh := holdsK_sortWorldK_c encH 3 w1 g 0 D.toArray d' n os hH hg hsz'
    have hc := fun q (hq : q < 3) => (hh.cell (i := j) (c := q) (by omega) hq).1
    have e0 := hc 0 (by omega)
    have e1 := hc 1 (by omega)
    have e2 := hc 2 (by omega)
    have hdj : d'[j]! = d'.toList[j] := by
      rw [getElem!_pos d' j (by omega)]
      simp
    rw [hdj] at e0 e1 e2
    have hlt' : g < (sortWorldK encH 3 w1 g 0 n d' os).heap.size := Nat.lt_of_lt_of_le hg (size_sortWorldK_c encH 3 w1 g 0 n d' os)
    refine ⟨g, 0, rfl, hlt', ?_, ?_, ?_⟩
    · rw [List.getElem_map]
      exact e0
    · rw [List.getElem_map]
      exact e1
    · rw [List.getElem_map]
      exact e2
end Go.Proofs.YtmjikddceegloaaGreatDoor
