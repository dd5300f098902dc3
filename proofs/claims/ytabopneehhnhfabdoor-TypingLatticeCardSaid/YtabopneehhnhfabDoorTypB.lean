/- The types of the configuration language form a lattice. No function of the program is named. -/
import Derived.Test.YtabopneehhnhfabDoorTypA
namespace Go.Proofs.YtabopneehhnhfabDoor
open Go.RowKit Go.Lib

/-- 7 is neutral and 0 extreme, or the other way round. -/
def pairK (u x : Int) : Prop := (u = 7 ∧ x = 0) ∨ (u = 0 ∧ x = 7)
theorem pair_ne {u x : Int} (h : pairK u x) : x ≠ u ∧ u ≠ x := by unfold pairK at h; omega
theorem node_ne {u x k : Int} (h : pairK u x) (g : nodeK k) : k ≠ u ∧ k ≠ x ∧ u ≠ k ∧ x ≠ k := by unfold pairK at h; unfold nodeK at g; omega
theorem leaf_node {k j : Int} (h : leafK k) (g : nodeK j) : k ≠ j := by unfold nodeK at g; unfold leafK at h; omega

theorem bndC_comm {u x : Int} : ∀ (a b : Tc), bndC u x a b = bndC u x b a
  | .node k s, .node j t => by
    rw [bnd_nn, bnd_nn, bndC_comm s t]
    by_cases h : k = j
    · subst h; rfl
    · rw [if_neg h, if_neg (fun e => h e.symm)]
  | .leaf k, .leaf j => by
    rw [bnd_ll, bnd_ll]
    by_cases h1 : k = u
    · by_cases h2 : j = u
      · rw [if_pos h1, if_pos h2, h1, h2]
      · rw [if_pos h1, if_neg h2, if_pos h1]
    · by_cases h2 : j = u
      · rw [if_neg h1, if_pos h2, if_pos h2]
      · rw [if_neg h1, if_neg h2, if_neg h2, if_neg h1]
        by_cases h : k = j
        · subst h; rfl
        · rw [if_neg h, if_neg (fun e => h e.symm)]
  | .leaf k, .node j t => by rw [bnd_ln, bnd_nl]
  | .node j t, .leaf k => by rw [bnd_ln, bnd_nl]
theorem bndC_u (u x : Int) : ∀ (b : Tc), bndC u x (.leaf u) b = b
  | .leaf j => by rw [bnd_ll, if_pos rfl]
  | .node j t => by rw [bnd_ln, if_pos rfl]
theorem bndC_ur (u x : Int) (a : Tc) : bndC u x a (.leaf u) = a := by rw [bndC_comm, bndC_u]
theorem bndC_x {u x : Int} (hp : x ≠ u) : ∀ (b : Tc), bndC u x (.leaf x) b = .leaf x
  | .leaf j => by
    rw [bnd_ll, if_neg hp]
    split
    · rfl
    · split <;> rfl
  | .node j t => by rw [bnd_ln, if_neg hp]
theorem bndC_xr {u x : Int} (hp : x ≠ u) (a : Tc) : bndC u x a (.leaf x) = .leaf x := by rw [bndC_comm, bndC_x hp]
theorem bndC_same (u x : Int) : ∀ (a : Tc), bndC u x a a = a
  | .leaf k => by
    rw [bnd_ll]
    split
    · rfl
    · rw [if_pos rfl]
  | .node k t => by rw [bnd_nn, if_pos rfl, bndC_same u x t]
theorem bnd_mid {u x k : Int} (hu : k ≠ u) : ∀ (b : Tc), bndC u x (.leaf k) b = .leaf k ∨ bndC u x (.leaf k) b = .leaf x
  | .leaf j => by
    rw [bnd_ll, if_neg hu]
    split
    · exact .inl rfl
    · split
      · exact .inl rfl
      · exact .inr rfl
  | .node j t => by rw [bnd_ln, if_neg hu]; exact .inr rfl
theorem bndC_assoc {u x : Int} (hp : x ≠ u) : ∀ (a b c : Tc), bndC u x (bndC u x a b) c = bndC u x a (bndC u x b c)
  | .node k s, .node j t, .node i r => by
    have ih := bndC_assoc hp s t r
    by_cases h : k = j
    · subst h
      by_cases h2 : k = i
      · subst h2
        rw [bnd_nn, if_pos rfl, bnd_nn, if_pos rfl, bnd_nn, if_pos rfl, bnd_nn, if_pos rfl, ih]
      · rw [bnd_nn, if_pos rfl, bnd_nn, if_neg h2, bnd_nn, if_neg h2, bndC_xr hp]
    · rw [bnd_nn, if_neg h, bndC_x hp]
      by_cases h2 : j = i
      · subst h2
        rw [bnd_nn, if_pos rfl, bnd_nn, if_neg h]
      · rw [bnd_nn, if_neg h2, bndC_xr hp]
  | .leaf k, b, c => by
    by_cases h : k = u
    · subst h; rw [bndC_u, bndC_u]
    · by_cases h2 : k = x
      · subst h2; rw [bndC_x hp, bndC_x hp, bndC_x hp]
      · match b with
        | .node j t =>
          rw [bnd_ln, if_neg h, bndC_x hp]
          match c with
          | .leaf i =>
            rw [bnd_nl]
            split
            · rw [bnd_ln, if_neg h]
            · rw [bndC_xr hp]
          | .node i r =>
            rw [bnd_nn]
            split
            · rw [bnd_ln, if_neg h]
            · rw [bndC_xr hp]
        | .leaf j =>
          by_cases h3 : j = u
          · subst h3; rw [bndC_u, bndC_ur]
          · by_cases h4 : k = j
            · subst h4
              rw [bndC_same]
              rcases bnd_mid (x := x) h c with e | e
              · rw [e, bndC_same]
              · rw [e, bndC_xr hp]
            · have e1 : bndC u x (.leaf k) (.leaf j) = .leaf x := by rw [bnd_ll, if_neg h, if_neg h3, if_neg h4]
              rw [e1, bndC_x hp]
              rcases bnd_mid (x := x) h3 c with e | e
              · rw [e, e1]
              · rw [e, bndC_xr hp]
  | .node k s, .leaf j, c => by
    by_cases h : j = u
    · subst h; rw [bndC_ur, bndC_u]
    · have e1 : bndC u x (.node k s) (.leaf j) = .leaf x := by rw [bnd_nl, if_neg h]
      rw [e1, bndC_x hp]
      rcases bnd_mid (x := x) h c with e | e
      · rw [e, e1]
      · rw [e, bndC_xr hp]
  | .node k s, .node j t, .leaf i => by
    by_cases h : i = u
    · subst h; rw [bndC_ur, bndC_ur]
    · have e1 : ∀ (m : Int) (r : Tc), bndC u x (.node m r) (.leaf i) = .leaf x := fun m r => by rw [bnd_nl, if_neg h]
      rw [e1 j t, bndC_xr hp, bnd_nn]
      split
      · rw [e1]
      · rw [bndC_x hp]

theorem bndC_absorb {u x : Int} (hp : x ≠ u) : ∀ (a b : Tc), bndC u x a (bndC x u a b) = a
  | .node k s, .node j t => by
    rw [bnd_nn]
    split
    · rw [bnd_nn, if_pos rfl, bndC_absorb hp s t]
    · rw [bndC_ur]
  | .node k s, .leaf j => by
    rw [bnd_nl]
    split
    · rw [bndC_same]
    · rw [bndC_ur]
  | .leaf k, b => by
    by_cases h : k = x
    · subst h; rw [bndC_x hp]
    · rcases bnd_mid (x := u) h b with e | e
      · rw [e, bndC_same]
      · rw [e, bndC_ur]

theorem leaf_inj {k j : Int} : Tc.leaf k = .leaf j ↔ k = j := by constructor <;> (intro h; first | (injection h) | rw [h])
theorem node_inj {k j : Int} {s t : Tc} : Tc.node k s = .node j t ↔ k = j ∧ s = t := by
  constructor
  · intro h
    injection h with h1 h2
    exact ⟨h1, h2⟩
  · rintro ⟨rfl, rfl⟩; rfl
theorem subC_join : ∀ (a b : Tc), a.ok → b.ok → (subC a b = true ↔ bndC 7 0 a b = b)
  | .node k s, .node j t, ha, hb => by
    have ih := subC_join s t ha.2 hb.2
    rw [bnd_nn]
    unfold subC
    by_cases h : k = j
    · subst h; simp [ih]
    · simp [h]
  | .leaf k, .leaf j, ha, hb => by
    rw [bnd_ll]
    unfold subC
    by_cases h1 : k = 7
    · simp [h1]
    · by_cases h2 : j = 7
      · subst h2
        simp [h1]
      · by_cases h3 : k = j
        · simp [h3]
        · (simp [h1, h2, h3]; try omega)
  | .leaf k, .node j t, ha, hb => by
    rw [bnd_ln]
    unfold subC
    by_cases h1 : k = 7 <;> simp [h1]
  | .node k s, .leaf j, ha, hb => by
    rw [bnd_nl]
    unfold subC
    by_cases h1 : j = 7
    · subst h1; simp
    · (simp [h1]; try omega)
theorem subC_meet : ∀ (a b : Tc), a.ok → b.ok → (subC a b = true ↔ bndC 0 7 a b = a)
  | .node k s, .node j t, ha, hb => by
    have ih := subC_meet s t ha.2 hb.2
    rw [bnd_nn]
    unfold subC
    by_cases h : k = j
    · subst h; simp [ih]
    · simp [h]
  | .leaf k, .leaf j, ha, hb => by
    rw [bnd_ll]
    unfold subC
    by_cases h1 : k = 0
    · subst h1
      by_cases h2 : j = 0
      · simp [h2]
      · (simp [h2]; try omega)
    · by_cases h2 : j = 0
      · simp [h1, h2]
      · by_cases h3 : k = j
        · simp [h3]
        · (simp [h1, h2, h3]; try omega)
  | .leaf k, .node j t, ha, hb => by
    rw [bnd_ln]
    unfold subC
    by_cases h1 : k = 0
    · subst h1; simp
    · (simp [h1]; try omega)
  | .node k s, .leaf j, ha, hb => by
    rw [bnd_nl]
    unfold subC
    by_cases h1 : j = 0 <;> simp [h1]
theorem h07 : (0 : Int) ≠ 7 := by decide
theorem h70 : (7 : Int) ≠ 0 := by decide
theorem leaf0 : leafK 0 := by unfold leafK; omega
theorem leaf7 : leafK 7 := by unfold leafK; omega
theorem subC_trans {a b c : Tc} (ha : a.ok) (hb : b.ok) (hc : c.ok) (h : subC a b = true) (k : subC b c = true) : subC a c = true := by
  rw [subC_join a b ha hb] at h
  rw [subC_join b c hb hc] at k
  rw [subC_join a c ha hc, ← k, ← bndC_assoc h07 a b c, h]
theorem subC_anti {a b : Tc} (ha : a.ok) (hb : b.ok) (h : subC a b = true) (k : subC b a = true) : a = b := by
  rw [subC_join a b ha hb] at h
  rw [subC_join b a hb ha, bndC_comm b a] at k
  exact k.symm.trans h
theorem subC_up {a b : Tc} (ha : a.ok) (hb : b.ok) : subC a (bndC 7 0 a b) = true := by
  rw [subC_join a _ ha (bndC_ok 7 0 leaf0 a b ha hb), ← bndC_assoc h07 a a b, bndC_same]
theorem subC_down {a b : Tc} (ha : a.ok) (hb : b.ok) : subC (bndC 0 7 a b) a = true := by
  rw [subC_join _ a (bndC_ok 0 7 leaf7 a b ha hb) ha, bndC_comm _ a]
  exact bndC_absorb h07 a b
end Go.Proofs.YtabopneehhnhfabDoor
