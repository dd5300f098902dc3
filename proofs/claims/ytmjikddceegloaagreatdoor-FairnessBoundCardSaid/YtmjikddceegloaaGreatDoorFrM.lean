/- The contract of slices.SortedFunc over shares (fairness). -/
import Derived.Test.YtmjikddceegloaaGreatDoorFrL
import Derived.Shelf.SlSortCmp.NoneTotal
namespace Go.Proofs.YtmjikddceegloaaGreatDoor
open Go.RowKit Go.Shelf

theorem sortNone_any (cap : Nat) (fv : Value) (w : World) :
    Calls Tryz.prog 65 #[.slice none 0 cap, fv] w fun e w' => e = .returned (.tuple #[]) ∧ w' = w := AnyF.slices_SortFunc_none Tryz.sortSh none cap fv w
def SortedPost (L : List Sha) (w : World) (e : Ending) (w' : World) : Prop := ∃ (a : Option Addr) (cp : Nat) (L' : List Sha), e = .returned (.slice a L'.length cp) ∧ L'.Perm L ∧ L'.Pairwise (fun a b => ¬ befC b a < 0) ∧ ReadsH w' a L' ∧ Below w.heap.size w w' ∧ ∀ g off x, a = some ⟨g, off, x⟩ → w.heap.size ≤ g
set_option maxHeartbeats 1000000 in
theorem sortedFunc_any (Bs cap : Nat) (v : Option Addr) (L : List Sha) (hR : ∀ s ∈ L, rightS s = true) (hlen : L.length ≤ 1000000) (w : World) (hs2 : Bs < w.heap.size) (hBs : w.cell? ⟨Bs, 0, none⟩ = some (.slice v L.length cap)) (hr : LowH w.heap.size w v L) :
    Calls Tryz.prog 44 #[.func (.func 66) #[] #[.pointer (some ⟨Bs, 0, none⟩)], .func (.func 41) #[] #[]] w (SortedPost L w) := by
  have A := Lib.hid (collect_any Bs cap v L hlen w hs2 hBs hr)
  clear hr hBs hs2
  go_enter Tryz.func44, Tryz.ntmps44
  go_wp2_with fail
  go_fit A.out
  rintro e w1 ⟨v', rfl, hrow, hb⟩
  have HB := Lib.hid hb
  have hrow' : w1.ownsRow w.heap.size 41 3 v' L.length (L.flatMap shC) := hrow
  rcases hrow'.2 with ⟨rfl, h0⟩ | ⟨g, cap', cur, rfl, hg, hh, h3, h4, h5, h6⟩
  · have S := Lib.hid (fun cap fv => sortNone_any cap fv w1)
    obtain rfl : L = [] := List.eq_nil_of_length_eq_zero (by simpa using h0)
    clear hb hrow hrow'
    go_wp2_with fail
    go_fit (S.out _ _)
    rintro e w2 ⟨rfl, rfl⟩
    go_wp2_with fail
    go_ret
    exact ⟨none, 0, [], rfl, .refl _, .nil, fun j hj => by simp at hj, HB.out, fun g off x h => by cases h⟩
  · have S := Lib.hid (sortSh_any w.heap.size w1 g cap' L hR hlen (World.ownsRow.lt hrow' g rfl).2 hrow')
    clear hb hrow hrow' hh h6
    go_wp2_with fail
    go_fit S.out
    rintro e w2 ⟨rfl, L', hp, hs, hrd, hbl⟩
    have HX := Lib.hid (show SortedPost L w (.returned (.slice (some ⟨g, 0, none⟩) L.length cap')) w2 from ⟨some ⟨g, 0, none⟩, cap', L', by rw [hp.length_eq], hp, hs, hrd, hbl w HB.out hg, fun g' off x h => by cases h; exact hg⟩)
    clear hp hs hrd hbl
    go_wp2_with fail
    go_ret
    exact HX.out
end Go.Proofs.YtmjikddceegloaaGreatDoor
