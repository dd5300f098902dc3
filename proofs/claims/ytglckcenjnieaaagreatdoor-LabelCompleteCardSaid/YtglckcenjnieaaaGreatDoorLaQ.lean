/- Maps from names to rows of states, as label's statesOf holds them. -/
import Derived.Test.YtglckcenjnieaaaGreatDoorLaO
import Derived.Maps.AppendAt
import Derived.OwnWalk
namespace Go.Proofs.YtglckcenjnieaaaGreatDoor
open Go.RowKit Go.Lib Go.Maps

def icells (l : List Int) : List Value := l.map (Value.int .i64)
theorem icells_snoc (l : List Int) (x : Int) : icells (l ++ [x]) = icells l ++ [.int .i64 x] := by simp [icells]
theorem info_int : (Tryz.prog.info? 3).map (fun i => (i.zero, i.size, i.bytes)) = some (some (.int .i64 0), 1, 8) := by kernel_rfl
/-- How a row in the map reads: its block, its length, its room. -/
def roR (v : Value) : Option (DataW Unit × List MemPlace) := match v with
  | .slice none 0 0 => some (.lit (.bool false), [])
  | .slice (some ⟨g, 0, none⟩) n c => some (.agg [.lit (.int .u64 g), .lit (.int .u64 n), .lit (.int .u64 c)], [])
  | _ => none
theorem roR_nil : roR (.slice none 0 0) = some (.lit (.bool false), []) := rfl
theorem roR_row (g n c : Nat) : roR (.slice (some ⟨g, 0, none⟩) n c) = some (.agg [.lit (.int .u64 g), .lit (.int .u64 n), .lit (.int .u64 c)], []) := rfl
theorem roR_inv_nil {v : Value} {ps : List MemPlace} (h : roR v = some (.lit (.bool false), ps)) : v = .slice none 0 0 := by
  unfold roR at h
  split at h
  · rfl
  · injection h with h; injection h with h _; cases h
  · cases h
theorem roR_inv_row {v : Value} {g n c : Nat} {ps : List MemPlace} (h : roR v = some (.agg [.lit (.int .u64 g), .lit (.int .u64 n), .lit (.int .u64 c)], ps)) : v = .slice (some ⟨g, 0, none⟩) n c := by
  unfold roR at h
  split at h
  · injection h with h; injection h with h _; cases h
  · injection h with h
    injection h with h _
    injection h with h
    injection h with h1 h
    injection h with h2 h
    injection h with h3 _
    injection h1 with h1; injection h1 with _ h1
    injection h2 with h2; injection h2 with _ h2
    injection h3 with h3; injection h3 with _ h3
    rw [Int.ofNat_inj.1 h1, Int.ofNat_inj.1 h2, Int.ofNat_inj.1 h3]
  · cases h
/-- Where the row of each name lies. -/
abbrev Rows' := List UInt8 → Option (Nat × Nat × Nat)
def updG (G : Rows') (l : List UInt8) (p : Nat × Nat × Nat) : Rows' := fun x => if x = l then some p else G x
def updT (T : List UInt8 → List Int) (l : List UInt8) (z : List Int) : List UInt8 → List Int := fun x => if x = l then z else T x
/-- Block K is a map of at most n rows, by name; the row of l holds T l; the rows lie behind base B, each in a block of its own that is not K. -/
structure StM (B : Nat) (w : World) (K n : Nat) (G : Rows') (T : List UInt8 → List Int) : Prop where
  map : ∃ D : DataW Unit, w.ownsMap Tryz.prog 9 roR K n D ∧ IsMap D ∧ (∀ l, Maps.has D (.string l) = (G l).isSome) ∧ ∀ l g m c, G l = some (g, m, c) → ∀ z, D.atKey (.string l) z = .agg [.lit (.int .u64 g), .lit (.int .u64 m), .lit (.int .u64 c)]
  none' : ∀ l, G l = none → T l = []
  row : ∀ l g m c, G l = some (g, m, c) → m = (T l).length ∧ 0 < m ∧ w.ownsRow B 3 1 (.slice (some ⟨g, 0, none⟩) m c) m (icells (T l)) ∧ g ≠ K
  apart : ∀ l l' g m c m' c', G l = some (g, m, c) → G l' = some (g, m', c') → l = l'
theorem own_keepL {w w' : World} {B n size : Nat} {t : TypeId} {v : Value} {xs : List Value} (ho : w.ownsRow B t size v n xs) (h : Below w.heap.size w w') : w'.ownsRow B t size v n xs :=
  ho.kept (row := none) ⟨h.os, h.tape, h.output, h.size, fun k hk _ => h.block k hk⟩ (by cases v.ownBlock <;> simp)
theorem StM.lt {B : Nat} {w : World} {K n : Nat} {G : Rows'} {T : List UInt8 → List Int} (h : StM B w K n G T) : K < w.heap.size := by
  obtain ⟨D, h, _⟩ := h.map
  exact h.lt
theorem StM.kept {B : Nat} {w w' : World} {K n : Nat} {G : Rows'} {T : List UInt8 → List Int} (h : StM B w K n G T) (hb : Below w.heap.size w w') : StM B w' K n G T := by
  obtain ⟨⟨D, h1, h2⟩, h3, h4, h5⟩ := h
  exact ⟨⟨D, h1.kept (row := none) ⟨hb.os, hb.tape, hb.output, hb.size, fun k hk _ => hb.block k hk⟩ (by simp), h2⟩, h3, fun l g m c hl => ⟨(h4 l g m c hl).1, (h4 l g m c hl).2.1, own_keepL (h4 l g m c hl).2.2.1 hb, (h4 l g m c hl).2.2.2⟩, h5⟩
theorem StM.new (B : Nat) (w : World) : StM B (w.alloc (.map #[] 0)) w.heap.size 0 (fun _ => none) (fun _ => []) :=
  ⟨⟨.map [], World.ownsMap_made w _ _ _, ⟨[], rfl⟩, fun l => rfl, (fun l g m c h => by cases h)⟩, fun _ _ => rfl, (fun l g m c h => by cases h), (fun l l' g m c m' c' h => by cases h)⟩
theorem zero_row (w : World) : (zeroValue 47).run Tryz.prog w = .ok (.slice none 0 0) w := by kernel_rfl
/-- What is found at a name: nothing, or its row. -/
theorem StM.get {B : Nat} {w : World} {K n : Nat} {G : Rows'} {T : List UInt8 → List Int} (h : StM B w K n G T) (l : List UInt8) (hl : l.length ≤ 140737488351232) :
    (G l = none ∧ T l = [] ∧ (Instr.lookup 43 (.map (some K)) (.string ⟨l.toArray⟩) false).run Tryz.prog w = .ok (.slice none 0 0) w) ∨
    ∃ g c, G l = some (g, (T l).length, c) ∧ (Instr.lookup 43 (.map (some K)) (.string ⟨l.toArray⟩) false).run Tryz.prog w = .ok (.slice (some ⟨g, 0, none⟩) (T l).length c) w := by
  obtain ⟨D, h1, h2, h3, h4⟩ := h.map
  obtain ⟨v, ps, hrun, hv⟩ := h1.lookup (t := 43) keyS Tryz.underlying43 (zero_row w) roR_nil (keyS_at l hl)
  cases hG : G l with
  | none =>
    have hn : Maps.has D (.string l) = false := by rw [h3, hG]; rfl
    rw [atKey_of_not_has hn] at hv
    obtain rfl := roR_inv_nil hv
    exact Or.inl ⟨rfl, h.none' l hG, hrun⟩
  | some p =>
    obtain ⟨g, m, c⟩ := p
    rw [h4 l g m c hG] at hv
    obtain rfl := roR_inv_row hv
    obtain rfl := (h.row l g m c hG).1
    exact Or.inr ⟨g, c, rfl, hrun⟩
/-- The value that stands at a name. -/
def valG (G : Rows') (l : List UInt8) : Value := match G l with
  | none => .slice none 0 0
  | some (g, m, c) => .slice (some ⟨g, 0, none⟩) m c
theorem StM.val {B : Nat} {w : World} {K n : Nat} {G : Rows'} {T : List UInt8 → List Int} (h : StM B w K n G T) (l : List UInt8) (hl : l.length ≤ 140737488351232) :
    (Instr.lookup 43 (.map (some K)) (.string ⟨l.toArray⟩) false).run Tryz.prog w = .ok (valG G l) w ∧ w.ownsRow B 3 1 (valG G l) (T l).length (icells (T l)) ∧ (valG G l).ownBlock ≠ some K := by
  rcases h.get l hl with ⟨hG, hT, hrun⟩ | ⟨g, c, hG, hrun⟩
  · unfold valG
    rw [hG, hT]
    exact ⟨hrun, World.ownsRow_nil _ _ _ _, by simp [Value.ownBlock]⟩
  · unfold valG
    rw [hG]
    obtain ⟨_, _, h3, h4⟩ := h.row l g _ c hG
    exact ⟨hrun, h3, by simp only [Value.ownBlock]; intro e; injection e with e; exact h4 e⟩
/-- One more state behind the row of a name: the map is told of the row. -/
theorem StM.push {B : Nat} {w w1 : World} {K n : Nat} {G : Rows'} {T : List UInt8 → List Int} (h : StM B w K n G T) (hn : n < 1048576) (l : List UInt8) (hl : l.length ≤ 140737488351232) (s : Int) {v : Value}
    (ho : w1.ownsRow B 3 1 v ((T l).length + 1) (icells (T l) ++ [.int .i64 s])) (hg : w.grownBy w1 (valG G l).ownBlock) (hat : v.ownBlock = (valG G l).ownBlock ∨ v.ownBlock = some w.heap.size) :
    ∃ w2 G', (Instr.mapUpdate 43 (.map (some K)) (.string ⟨l.toArray⟩) v).run Tryz.prog w1 = .ok () w2 ∧ StM B w2 K (n + 1) G' (updT T l (T l ++ [s])) ∧ w1.grownBy w2 (some K) := by
  obtain ⟨hv1, hv2, hv3⟩ := h.val l hl
  obtain ⟨g, c, rfl⟩ : ∃ g c, v = .slice (some ⟨g, 0, none⟩) ((T l).length + 1) c := by
    rcases ho.2 with ⟨_, h0⟩ | ⟨g, cap, cur, rfl, _⟩
    · omega
    · exact ⟨g, cap, rfl⟩
  have hKlt := h.lt
  have hgK : g ≠ K := by
    rcases hat with e | e
    · intro e2; subst e2; exact hv3 (e ▸ rfl)
    · simp only [Value.ownBlock] at e; injection e with e; omega
  -- the other rows' blocks are not this one
  have hother : ∀ x g' m' c', x ≠ l → G x = some (g', m', c') → g' ≠ g ∧ (valG G l).ownBlock ≠ some g' := by
    intro x g' m' c' hx hGx
    have hlt : g' < w.heap.size := ((h.row x g' m' c' hGx).2.2.1.lt g' rfl).2
    have hne : (valG G l).ownBlock ≠ some g' := by
      intro e
      unfold valG at e
      cases hGl : G l with
      | none => rw [hGl] at e; simp [Value.ownBlock] at e
      | some q =>
        obtain ⟨g2, m2, c2⟩ := q
        rw [hGl] at e
        simp only [Value.ownBlock] at e
        injection e with e
        subst e
        exact hx (h.apart x l g2 m' c' m2 c2 hGx hGl)
    refine ⟨fun e => ?_, hne⟩
    subst e
    rcases hat with e | e
    · exact hne (e ▸ rfl)
    · simp only [Value.ownBlock] at e; injection e with e; omega
  obtain ⟨D, h1, h2, h3, h4⟩ := h.map
  have h1' := h1.kept hg (fun e => hv3 e.symm)
  obtain ⟨w2, hrun, hm, hg2⟩ := h1'.update (t := 43) keyS Tryz.underlying43 (by unfold maxLen; omega) (keyS_at l hl) (roR_row g ((T l).length + 1) c)
  refine ⟨w2, updG G l (g, (T l).length + 1, c), hrun, ⟨⟨_, hm, hm.isMap, fun x => ?_, fun x g' m' c' hx z => ?_⟩, fun x hx => ?_, fun x g' m' c' hx => ?_, fun x y g' m c m' c' hx hy => ?_⟩, hg2⟩
  · unfold updG
    by_cases hxl : x = l
    · subst hxl
      rw [if_pos rfl, has_put_same h2 (keyS_lit x)]
      rfl
    · rw [if_neg hxl, has_put_other (by intro e; injection e with e; exact hxl e), h3]
  · unfold updG at hx
    by_cases hxl : x = l
    · subst hxl
      rw [if_pos rfl] at hx
      obtain ⟨rfl, hx2⟩ := Prod.mk.inj (Option.some.inj hx)
      obtain ⟨rfl, rfl⟩ := Prod.mk.inj hx2
      exact atKey_put_same h2 (keyS_lit x) _ _
    · rw [if_neg hxl] at hx
      rw [atKey_put_other (by intro e; injection e with e; exact hxl e)]
      exact h4 x g' m' c' hx z
  · unfold updG at hx
    unfold updT
    by_cases hxl : x = l
    · rw [if_pos hxl] at hx; cases hx
    · rw [if_neg hxl] at hx ⊢
      exact h.none' x hx
  · unfold updG at hx
    unfold updT
    by_cases hxl : x = l
    · subst hxl
      rw [if_pos rfl] at hx ⊢
      obtain ⟨rfl, hx2⟩ := Prod.mk.inj (Option.some.inj hx)
      obtain ⟨rfl, rfl⟩ := Prod.mk.inj hx2
      refine ⟨by simp, by omega, ?_, hgK⟩
      rw [icells_snoc]
      exact ho.kept hg2 (Or.inr (by simp only [Value.ownBlock]; intro e; injection e with e; exact hgK e))
    · rw [if_neg hxl] at hx ⊢
      obtain ⟨r1, r2, r3, r4⟩ := h.row x g' m' c' hx
      obtain ⟨o1, o2⟩ := hother x g' m' c' hxl hx
      refine ⟨r1, r2, (r3.kept hg (Or.inr (by simp only [Value.ownBlock]; exact fun e => o2 e.symm))).kept hg2 (Or.inr (by simp only [Value.ownBlock]; intro e; injection e with e; exact r4 e)), r4⟩
  · unfold updG at hx hy
    by_cases hxl : x = l <;> by_cases hyl : y = l
    · rw [hxl, hyl]
    · rw [if_pos hxl] at hx
      rw [if_neg hyl] at hy
      obtain ⟨e, _⟩ := Prod.mk.inj (Option.some.inj hx)
      exact absurd e.symm (hother y g' m' c' hyl hy).1
    · rw [if_neg hxl] at hx
      rw [if_pos hyl] at hy
      obtain ⟨e, _⟩ := Prod.mk.inj (Option.some.inj hy)
      exact absurd e.symm (hother x g' m c hxl hx).1
    · rw [if_neg hxl] at hx
      rw [if_neg hyl] at hy
      exact h.apart x y g' m c m' c' hx hy
end Go.Proofs.YtglckcenjnieaaaGreatDoor
