/- How types lie in memory: as trees, and as chains. No function of the program is named. -/
import Derived.Test.YtabopneehhnhfabDoorTypC
namespace Go.Proofs.YtabopneehhnhfabDoor
open Go.RowKit Go.Lib

/-- A slice of types reads as a list of trees of at most m levels. -/
def ReadsT : Nat → World → Option Addr → List Ty → Prop
  | 0, _, _, l => l = []
  | m + 1, w, v, l => ∀ j (_ : j < l.length), ∃ b off k l' av c, l[j]? = some (.mk k l') ∧ v = some ⟨b, off, none⟩ ∧ b < w.heap.size ∧
      w.cell? ⟨b, off + j * 2, none⟩ = some (.int .i64 k) ∧ w.cell? ⟨b, off + j * 2 + 1, none⟩ = some (.slice av l'.length c) ∧
      (-9223372036854775808 ≤ k ∧ k ≤ 9223372036854775807) ∧ l'.length ≤ 9223372036854775807 ∧ ReadsT m w av l'
theorem ReadsT.below {w w' : World} (hb : Below w.heap.size w w') : ∀ (m : Nat) (v : Option Addr) (l : List Ty), ReadsT m w v l → ReadsT m w' v l
  | 0, _, _, h => h
  | m + 1, v, l, h => by
    intro j hj
    obtain ⟨b, off, k, l', av, c, h0, h1, h2, c0, c1, g0, g1, hl⟩ := h j hj
    exact ⟨b, off, k, l', av, c, h0, h1, Nat.lt_of_lt_of_le h2 hb.size, (hb.cell (p := ⟨b, _, none⟩) h2).trans c0, (hb.cell (p := ⟨b, _, none⟩) h2).trans c1, g0, g1, ReadsT.below hb m av l' hl⟩

/-- What the slice of a chain's type holds: nothing, or the inner chain's type. -/
def TailC (w : World) : Option Addr → Tc → Prop
  | _, .leaf _ => True
  | av, .node _ t => ∃ b off a c, av = some ⟨b, off, none⟩ ∧ b < w.heap.size ∧ w.cell? ⟨b, off, none⟩ = some (.int .i64 t.kd) ∧ w.cell? ⟨b, off + 1, none⟩ = some (.slice a t.ln c) ∧ TailC w a t
theorem TailC.below {w w' : World} (hb : Below w.heap.size w w') : ∀ (t : Tc) (av : Option Addr), TailC w av t → TailC w' av t
  | .leaf _, _, _ => trivial
  | .node _ t, av, h => by
    obtain ⟨b, off, a, c, h1, h2, c0, c1, hl⟩ := h
    exact ⟨b, off, a, c, h1, Nat.lt_of_lt_of_le h2 hb.size, (hb.cell (p := ⟨b, _, none⟩) h2).trans c0, (hb.cell (p := ⟨b, _, none⟩) h2).trans c1, TailC.below hb t a hl⟩
/-- A type in memory that is well made lies as its chain. -/
theorem chain_of : ∀ (t : Tc) (m : Nat) (w : World) (av : Option Addr) (k : Int) (l : List Ty), Ty.mk k l = t.ty → ReadsT m w av l → k = t.kd ∧ l.length = t.ln ∧ TailC w av t
  | .leaf k', m, w, av, k, l, h, _ => by
    unfold Tc.ty at h
    injection h with h1 h2
    subst h1 h2
    exact ⟨rfl, rfl, trivial⟩
  | .node k' t, m, w, av, k, l, h, hr => by
    unfold Tc.ty at h
    injection h with h1 h2
    subst h1 h2
    cases m with
    | zero => exact absurd (show [t.ty] = [] from hr) (by simp)
    | succ m =>
      obtain ⟨b, off, k2, l', a, c, h0, h1, h2, c0, c1, g0, g1, hl⟩ := hr 0 (by simp)
      have e : t.ty = .mk k2 l' := by simpa using h0
      obtain ⟨e1, e2, e3⟩ := chain_of t m w a k2 l' e.symm hl
      subst e1
      rw [e2] at c1
      exact ⟨rfl, rfl, b, off, a, c, h1, h2, by simpa using c0, by simpa using c1, e3⟩
theorem tc_ty_mk (t : Tc) : ∃ l, t.ty = .mk t.kd l ∧ l.length = t.ln := by
  cases t with
  | leaf k => exact ⟨_, rfl, rfl⟩
  | node k t => exact ⟨_, rfl, rfl⟩
end Go.Proofs.YtabopneehhnhfabDoor
