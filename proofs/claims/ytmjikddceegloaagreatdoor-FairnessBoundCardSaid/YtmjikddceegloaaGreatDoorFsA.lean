/- The document's Pick (fairness). -/
import Derived.Test.YtmjikddceegloaaGreatDoorFrZ
import Derived.Lib.QuietBelow
namespace Go.Proofs.YtmjikddceegloaaGreatDoor
open Go.RowKit Go.Lib Go.Sort
set_option linter.unusedSimpArgs false

/-- Where the best of the listed projects stands; -1: none is there. -/
def BestI (L : List Sha) (P : List (List UInt8)) (i : Int) : Prop := (i = -1 ∧ ∀ t (h : t < L.length), L[t].prj ∉ P) ∨ ∃ k : Nat, i = k ∧ ∃ h : k < L.length, L[k].prj ∈ P ∧ ∀ t (ht : t < L.length), L[t].prj ∈ P → ¬ befC L[t] L[k] < 0
theorem BestI.skip {L : List Sha} {P : List (List UInt8)} {i : Int} (h : BestI L P i) (p : List UInt8) (hp : ∀ t (ht : t < L.length), L[t].prj ≠ p) : BestI L (P ++ [p]) i := by
  rcases h with ⟨rfl, h⟩ | ⟨k, rfl, hk, hm, hb⟩
  · refine .inl ⟨rfl, fun t ht hm => ?_⟩
    rcases List.mem_append.1 hm with hm | hm
    · exact h t ht hm
    · exact hp t ht (by simpa using hm)
  · refine .inr ⟨k, rfl, hk, List.mem_append_left _ hm, fun t ht hm' => ?_⟩
    rcases List.mem_append.1 hm' with hm' | hm'
    · exact hb t ht hm'
    · exact absurd (by simpa using hm') (hp t ht)
theorem BestI.first {L : List Sha} {P : List (List UInt8)} (hV : ValidS L) (h : BestI L P (-1)) (k : Nat) (hk : k < L.length) : BestI L (P ++ [L[k].prj]) k := by
  rcases h with ⟨_, h⟩ | ⟨k', e, _⟩
  · refine .inr ⟨k, rfl, hk, by simp, fun t ht hm => ?_⟩
    rcases List.mem_append.1 hm with hm | hm
    · exact absurd hm (h t ht)
    · obtain rfl := hV.inj ht hk (by simpa using hm)
      exact bef_irrefl _
  · omega
theorem BestI.better {L : List Sha} {P : List (List UInt8)} (hV : ValidS L) {b : Nat} (h : BestI L P b) (hbl : b < L.length) (k : Nat) (hk : k < L.length) (hlt : befC L[k] L[b] < 0) : BestI L (P ++ [L[k].prj]) k := by
  have pos : ∀ t (ht : t < L.length), 0 < L[t].wgt := fun t ht => by have := (hV.right ht).2.1; omega
  rcases h with ⟨e, _⟩ | ⟨k', e, hk', hm, hb⟩
  · omega
  · obtain rfl : b = k' := by omega
    refine .inr ⟨k, rfl, hk, by simp, fun t ht hm' hlt' => ?_⟩
    rcases List.mem_append.1 hm' with hm' | hm'
    · exact hb t ht hm' (bef_trans (pos t ht) (pos k hk) (pos b hbl) hlt' hlt)
    · obtain rfl := hV.inj ht hk (by simpa using hm')
      exact bef_irrefl _ hlt'
theorem BestI.keep {L : List Sha} {P : List (List UInt8)} (hV : ValidS L) {b : Nat} (h : BestI L P b) (hbl : b < L.length) (k : Nat) (hk : k < L.length) (hn : ¬ befC L[k] L[b] < 0) : BestI L (P ++ [L[k].prj]) b := by
  rcases h with ⟨e, _⟩ | ⟨k', e, hk', hm, hb⟩
  · omega
  · obtain rfl : b = k' := by omega
    refine .inr ⟨b, rfl, hk', List.mem_append_left _ hm, fun t ht hm' => ?_⟩
    rcases List.mem_append.1 hm' with hm' | hm'
    · exact hb t ht hm'
    · obtain rfl := hV.inj ht hk (by simpa using hm')
      exact hn
theorem bef_same {a b : Sha} (h1 : ¬ befC a b < 0) (h2 : ¬ befC b a < 0) : a.prj = b.prj := by
  rw [bef_not] at h1 h2
  have an := cmp_tot.anti a.prj b.prj
  apply (cmp_tot.eq _ _).1
  unfold RLe at h1 h2
  omega
/-- The answer at the best. -/
def outB (L : List Sha) (i : Int) : List UInt8 × Bool := if h : 0 ≤ i ∧ i.toNat < L.length then (L[i.toNat].prj, true) else ([], false)
theorem pick_best {L : List Sha} {P N : List (List UInt8)} {i : Int} (hV : ValidS L) (hN : OrdR L N) (h : BestI L P i) : pickN N P = outB L i := by
  rcases hN with ⟨hn, _⟩ | ⟨_, L', hp, hs, rfl⟩
  · exact absurd hV hn
  rcases h with ⟨rfl, h⟩ | ⟨k, rfl, hk, hm, hb⟩
  · rw [pickN_none, outB, dif_neg (by omega)]
    intro t ht hm
    rw [List.getElem_map] at hm
    have : L'[t]'(by simpa using ht) ∈ L := hp.mem_iff.1 (List.getElem_mem _)
    obtain ⟨u, hu, e⟩ := List.getElem_of_mem this
    exact h u hu (by rw [e]; exact hm)
  · rw [outB, dif_pos ⟨by omega, by simpa using hk⟩]
    have hmem : L[k] ∈ L' := hp.mem_iff.2 (List.getElem_mem hk)
    obtain ⟨m, hm', em⟩ := List.getElem_of_mem hmem
    have hex : ∃ j, ∃ hj : j < L'.length, (L'[j]).prj ∈ P := ⟨m, hm', by rw [em]; exact hm⟩
    obtain ⟨j, ⟨hj, hjp⟩, hmin⟩ : ∃ j, (∃ hj : j < L'.length, (L'[j]).prj ∈ P) ∧ ∀ t, t < j → ¬ ∃ ht : t < L'.length, (L'[t]).prj ∈ P := by
      refine Classical.byContradiction fun hc => ?_
      have all : ∀ n j, j < n → ¬ ∃ hj : j < L'.length, (L'[j]).prj ∈ P := by
        intro n
        induction n with
        | zero => intro j h; omega
        | succ n ih =>
          intro j hj hjp
          exact hc ⟨j, hjp, fun t ht => ih t (by omega)⟩
      obtain ⟨j, hj⟩ := hex
      exact all (j + 1) j (by omega) hj
    have hjm : j ≤ m := by
      refine Classical.byContradiction fun hc => hmin m (by omega) ⟨hm', by rw [em]; exact hm⟩
    rw [pickN_some j (by simpa using hj) (fun t ht htj hp' => hmin t htj ⟨by simpa using ht, by rw [List.getElem_map] at hp'; exact hp'⟩) (by rw [List.getElem_map]; exact hjp)]
    rw [List.getElem_map]
    have hin : L'[j] ∈ L := hp.mem_iff.1 (List.getElem_mem _)
    obtain ⟨u, hu, eu⟩ := List.getElem_of_mem hin
    have n1 := hb u hu (by rw [eu]; exact hjp)
    rw [eu] at n1
    have en : (L'[j]).prj = L[k].prj := by
      rcases Nat.lt_or_eq_of_le hjm with hlt | rfl
      · have := List.pairwise_iff_getElem.1 hs j m hj hm' hlt
        rw [em] at this
        exact bef_same n1 (by omega)
      · rw [em]
    rw [en]
    rfl
end Go.Proofs.YtmjikddceegloaaGreatDoor
