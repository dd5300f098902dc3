/- Slices of strings in memory: how they read, what a call owns. No function of the program is named. -/
import Derived.Test.YtmjikddceegloaaGreatDoorRows
import Derived.WalkKit
import Derived.WalkSpells
import Derived.WalkLawsBesides
import Derived.OwnWalk
import Derived.Lib.Hide
import Derived.Deep.DeepFit
import Derived.Outline
import Derived.WalkSmall
import Derived.ProofKit
import Derived.OpenShut
import Derived.Deep.Strs
import Derived.Laws.AppendOwn
namespace Go.Proofs.YtmjikddceegloaaGreatDoor
open Go.RowKit Go.Lib

/-- The value of a string of these bytes. -/
def strV (x : List UInt8) : Value := .string ⟨x.toArray⟩
theorem strV_eq (x : List UInt8) : strV x = .string ⟨x.toArray⟩ := rfl
theorem str_back (s : ByteArray) : (⟨s.data.toList.toArray⟩ : ByteArray) = s := by
  apply ByteArray.ext
  simp
theorem strV_one (x : List UInt8) : (strV x).oneCell' = true := rfl
theorem extract_mk (s : ByteArray) (a b : Nat) : s.extract a b = ⟨((s.data.toList.take b).drop a).toArray⟩ := by
  apply ByteArray.ext
  apply Array.toList_inj.1
  simp [ByteArray.data_extract, List.drop_take]

def ReadsStr (w : World) (v : Option Addr) (l : List (List UInt8)) : Prop :=
  ∀ k (h : k < l.length), ∃ b off, v = some ⟨b, off, none⟩ ∧ b < w.heap.size ∧ w.cell? ⟨b, off + k, none⟩ = some (.string ⟨l[k].toArray⟩)
theorem ReadsStr.below {w w' : World} {v : Option Addr} {l : List (List UInt8)} (h : ReadsStr w v l) (hb : Below w.heap.size w w') : ReadsStr w' v l := by
  intro k hk
  obtain ⟨b, off, e, hlt, hc⟩ := h k hk
  exact ⟨b, off, e, Nat.lt_of_lt_of_le hlt hb.size, (hb.cell (p := ⟨b, off + k, none⟩) hlt).trans hc⟩
theorem ReadsStr.drewN {w : World} {v : Option Addr} {l : List (List UInt8)} (h : ReadsStr w v l) (n : Nat) : ReadsStr (w.drewN n) v l := h.below (below_drewN (Below.refl _ _) n)
theorem infoS : (Tryz.prog.info? 9).map (fun i => (i.zero, i.size, i.bytes)) = some (some (.string ⟨#[]⟩), 1, 16) := by kernel_rfl

theorem addr_add {g : Nat} (k : Nat) : (⟨g, 0, none⟩ : Addr).add k = ⟨g, 0 + k, none⟩ := by
  unfold Addr.add
  split
  · rename_i h; subst h; rfl
  · rfl
/-- An owned row of strings reads as these strings. -/
theorem own_readsS {w : World} {B n : Nat} {v : Value} {l : List (List UInt8)} (h : w.ownsRow B 9 1 v n (l.map strV)) (hn : n = l.length) : ∃ a c, v = .slice a l.length c ∧ l.length ≤ c ∧ c ≤ maxLen ∧ ReadsStr w a l := by
  rcases h.2 with ⟨rfl, h0⟩ | ⟨g, cap, cur, rfl, _, hg, hnc, hcm, _⟩
  · have hl : l = [] := List.eq_nil_of_length_eq_zero (by omega)
    subst hl
    exact ⟨none, 0, rfl, by simp, by simp, fun k hk => by simp at hk⟩
  · subst hn
    refine ⟨some ⟨g, 0, none⟩, cap, rfl, hnc, hcm, ?_⟩
    intro k hk
    have hlt := (Array.getElem?_eq_some_iff.1 hg).1
    refine ⟨g, 0, rfl, hlt, ?_⟩
    have hc := h.cells rfl k (strV l[k]) (by simp [hk])
    rw [addr_add] at hc
    exact hc
theorem readsS_cells {w : World} {b off : Nat} {l : List (List UInt8)} (h : ReadsStr w (some ⟨b, off, none⟩) l) : ∀ j u, (l.map strV)[j]? = some u → w.cell? ((⟨b, off, none⟩ : Addr).add j) = some u := by
  intro j u hj
  rw [List.getElem?_map] at hj
  cases hl : l[j]? with
  | none => rw [hl] at hj; simp at hj
  | some x =>
    rw [hl] at hj
    obtain ⟨hlt, rfl⟩ := List.getElem?_eq_some_iff.1 hl
    simp only [Option.map_some, Option.some.injEq] at hj
    subst hj
    obtain ⟨b', off', e, _, hc⟩ := h j hlt
    injection e with e
    injection e with e1 e2 _
    subst e1 e2
    have e3 : (⟨b, off, none⟩ : Addr).add j = ⟨b, off + j, none⟩ := by
      unfold Addr.add
      split
      · rename_i h; subst h; rfl
      · rfl
    rw [e3]
    exact hc
theorem mapS_one (l : List (List UInt8)) : ∀ u ∈ l.map strV, u.oneCell' = true := by
  intro u hu
  obtain ⟨x, _, rfl⟩ := List.mem_map.1 hu
  rfl
theorem growS_below {w w' : World} (h : Below w.heap.size w w') (row : Option Nat) : w.grownBy w' row := ⟨h.os, h.tape, h.output, h.size, fun k hk _ => h.block k hk⟩
theorem ownS_below {w w' : World} {B n : Nat} {v : Value} {xs : List Value} (ho : w.ownsRow B 9 1 v n xs) (h : Below w.heap.size w w') : w'.ownsRow B 9 1 v n xs :=
  ho.kept (growS_below h none) (by cases v.ownBlock <;> simp)
end Go.Proofs.YtmjikddceegloaaGreatDoor
