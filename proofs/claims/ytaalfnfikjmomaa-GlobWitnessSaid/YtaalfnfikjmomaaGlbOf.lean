/- The memory of overlaps: what each operation does to it (glob). -/
import Derived.Test.YtaalfnfikjmomaaGlbOe
namespace Go.Proofs.Ytaalfnfikjmomaa
open Go.RowKit Go.Lib Go.Maps

theorem zero_states (w : World) : (zeroValue 71).run Try.prog w = .ok (.slice none 0 0) w := by kernel_rfl
theorem SeenAt.move {n K B : Nat} {w w' : World} {F : Nat → Option Nat} {S : Nat → Nat → Bool} {row : Option Nat} (h : SeenAt n K B w F S) (hg : w.grownBy w' row) (hK : some K ≠ row) (hF : ∀ a g, a ≤ 4097 → F a = some g → some g ≠ row) : SeenAt n K B w' F S := by
  obtain ⟨⟨D, cnt, h1, h2, h3, h4⟩, h5, h6, h7⟩ := h
  refine ⟨⟨D, cnt, h1, h2.kept hg hK, h3, h4⟩, fun a g ha hf => ?_, h6, h7⟩
  obtain ⟨hs, hb⟩ := h5 a g ha hf
  exact ⟨hs.of_block (hg.block _ hs.lt (hF a g ha hf)), hb⟩
theorem SeenAt.lookup {n K B : Nat} {w : World} {F : Nat → Option Nat} {S : Nat → Nat → Bool} (h : SeenAt n K B w F S) (a : Nat) (ha : a ≤ 4097) :
    ∃ v, (Instr.lookup 82 (.map (some K)) (.int .i64 (a : Nat)) false).run Try.prog w = .ok v w ∧ (match F a with | none => v = .slice none 0 0 | some g => v = .slice (some ⟨g, 0, none⟩) n n) := by
  obtain ⟨⟨D, cnt, h1, h2, h3, h4⟩, h5, h6, h7⟩ := h
  obtain ⟨v, ps, hrun, hv⟩ := h2.lookup law_int Try.underlying82 (zero_states w) (slR_nil n) (key_at a ha)
  refine ⟨v, hrun, ?_⟩
  rw [h4 a ha] at hv
  cases hF : F a with
  | none => rw [hF] at hv; exact slR_inv_nil hv
  | some g => rw [hF] at hv; exact slR_inv_row hv
set_option maxRecDepth 100000 in
theorem SeenAt.put {n K B : Nat} {w : World} {F : Nat → Option Nat} {S : Nat → Nat → Bool} {a g : Nat} (h : SeenAt n K B w F S) (ha : a ≤ 4097) (hF : F a = none) (hst : StAt w g n (fun _ => false)) (hB : B ≤ g) (hK : g ≠ K) (hnew : ∀ a' g', a' ≤ 4097 → F a' = some g' → g' ≠ g ∧ g' ≠ K) :
    ∃ w', (Instr.mapUpdate 82 (.map (some K)) (.int .i64 (a : Nat)) (.slice (some ⟨g, 0, none⟩) n n)).run Try.prog w = .ok () w' ∧ SeenAt n K B w' (fun i => if i = a then some g else F i) S ∧ w.grownBy w' (some K) := by
  obtain ⟨⟨D, cnt, h1, h2, h3, h4⟩, h5, h6, h7⟩ := h
  have hlen : cnt < maxLen := by
    have : (List.range 4098).countP (fun a => (F a).isSome) ≤ (List.range 4098).length := List.countP_le_length
    rw [List.length_range] at this
    unfold maxLen
    omega
  obtain ⟨w', hrun, ho, hg⟩ := h2.update law_int Try.underlying82 hlen (key_at a ha) (slR_row n g)
  refine ⟨w', hrun, ⟨⟨_, cnt + 1, ?_, ho, h3.put _ _, fun i hi => ?_⟩, fun i gi hi hf => ?_, fun i hi hf => ?_, fun i j gi hi hj e1 e2 => ?_⟩, hg⟩
  · have := countP_lt' (p := fun a => (F a).isSome) (q := fun i => (if i = a then some g else F i).isSome) (x := a) (List.range 4098) (fun i hi => by
      show (if i = a then some g else F i).isSome = true
      split
      · rfl
      · exact hi) (List.mem_range.2 (by omega)) (by show (if a = a then some g else F a).isSome = true; rw [if_pos rfl]; rfl) (by show (F a).isSome = false; rw [hF]; rfl)
    show cnt + 1 ≤ (List.range 4098).countP (fun i => (if i = a then some g else F i).isSome)
    omega
  · show _ = match (if i = a then some g else F i) with | none => _ | some g => _
    by_cases e : i = a
    · subst e
      rw [if_pos rfl]
      exact atKey_put_same (k := .int .i64 (i : Nat)) h3 True.intro _ _
    · rw [if_neg e, atKey_put_other (fun e2 => e (by injection e2 with _ e2; exact Int.ofNat_inj.1 e2))]
      exact h4 i hi
  · change (if i = a then some g else F i) = some gi at hf
    by_cases e : i = a
    · subst e
      rw [if_pos rfl] at hf
      injection hf with hf
      subst hf
      refine ⟨?_, hB⟩
      have : S i = fun _ => false := funext fun b => h6 i hi hF b
      rw [this]
      exact hst.of_block (hg.block _ hst.lt (fun e => by injection e with e; exact hK e))
    · rw [if_neg e] at hf
      obtain ⟨hs, hb⟩ := h5 i gi hi hf
      exact ⟨hs.of_block (hg.block _ hs.lt (fun e => by injection e with e; exact (hnew i gi hi hf).2 e)), hb⟩
  · change (if i = a then some g else F i) = none at hf
    by_cases e : i = a
    · rw [if_pos e] at hf; cases hf
    · rw [if_neg e] at hf; exact h6 i hi hf
  · change (if i = a then some g else F i) = some gi at e1
    change (if j = a then some g else F j) = some gi at e2
    by_cases e : i = a
    · rw [if_pos e] at e1
      injection e1 with e1
      by_cases e' : j = a
      · rw [e, e']
      · rw [if_neg e'] at e2
        exact absurd e1.symm (hnew j gi hj e2).1
    · rw [if_neg e] at e1
      by_cases e' : j = a
      · rw [if_pos e'] at e2
        injection e2 with e2
        exact absurd e2.symm (hnew i gi hi e1).1
      · rw [if_neg e'] at e2
        exact h7 i j gi hi hj e1 e2
set_option maxRecDepth 100000 in
theorem SeenAt.add {n K B : Nat} {w w' : World} {F : Nat → Option Nat} {S : Nat → Nat → Bool} {a b g : Nat} (h : SeenAt n K B w F S) (ha : a ≤ 4097) (hF : F a = some g) (hK : g ≠ K) (hst : StAt w' g n (upd (S a) b true)) (hg : w.grownBy w' (some g)) : SeenAt n K B w' F (updS S a b) := by
  obtain ⟨⟨D, cnt, h1, h2, h3, h4⟩, h5, h6, h7⟩ := h
  refine ⟨⟨D, cnt, h1, h2.kept hg (fun e => by injection e with e; exact hK e.symm), h3, h4⟩, fun i gi hi hf => ?_, fun i hi hf j => ?_, h7⟩
  · obtain ⟨hs, hb⟩ := h5 i gi hi hf
    refine ⟨?_, hb⟩
    by_cases e : i = a
    · subst e
      rw [hF] at hf
      injection hf with hf
      subst hf
      have : updS S i b i = upd (S i) b true := by funext j; unfold updS; rw [if_pos rfl]
      rw [this]
      exact hst
    · have : updS S a b i = S i := by funext j; unfold updS; rw [if_neg e]
      rw [this]
      exact hs.of_block (hg.block _ hs.lt (fun e2 => by injection e2 with e2; subst e2; exact e (h7 i a _ hi ha hf hF)))
  · have hne : i ≠ a := fun e => by subst e; rw [hF] at hf; cases hf
    unfold updS
    rw [if_neg hne]
    exact h6 i hi hf j
/-- All that overlaps holds in memory. -/
structure OMem (w W : World) (n ea eb : Nat) (sv : Value) (Wl : List (Nat × Nat)) (F : Nat → Option Nat) (S : Nat → Nat → Bool) : Prop where
  fin : BlkAt W (w.heap.size + 1) 81 #[.int .i64 (ea : Nat), .int .i64 (eb : Nat)]
  row : W.ownsRow (w.heap.size + 3) 81 2 sv Wl.length (prC Wl)
  seen : SeenAt n (w.heap.size + 2) (w.heap.size + 3) W F S
  apart : ∀ a g, a ≤ 4097 → F a = some g → sv.ownBlock ≠ some g
  base : Below w.heap.size w W
theorem OMem.below {w W W' : World} {n ea eb : Nat} {sv : Value} {Wl : List (Nat × Nat)} {F : Nat → Option Nat} {S : Nat → Nat → Bool} (h : OMem w W n ea eb sv Wl F S) (hb : Below W.heap.size W W') : OMem w W' n ea eb sv Wl F S :=
  ⟨h.fin.below hb, own_keep h.row hb, h.seen.move (grown_of_below hb none) (by simp) (fun _ _ _ _ => by simp), h.apart, h.base.trans (hb.mono h.base.size)⟩
theorem OMem.pop {w W : World} {n ea eb g cap : Nat} {Wl : List (Nat × Nat)} {p : Nat × Nat} {F : Nat → Option Nat} {S : Nat → Nat → Bool} (h : OMem w W n ea eb (.slice (some ⟨g, 0, none⟩) (Wl.length + 1) cap) (Wl ++ [p]) F S) : OMem w W n ea eb (.slice (some ⟨g, 0, none⟩) Wl.length cap) Wl F S := by
  refine ⟨h.fin, ?_, h.seen, h.apart, h.base⟩
  obtain ⟨h1, h2⟩ := h.row
  refine ⟨prC_len Wl, ?_⟩
  rcases h2 with ⟨e, _⟩ | ⟨g', cap', cur, e, hB, hg, hnc, hcm, hs, ht⟩
  · cases e
  · injection e with e1 e2 e3
    refine .inr ⟨g', cap', cur, ?_, hB, hg, ?_, hcm, hs, ?_⟩
    · rw [e1, e3]
    · rw [List.length_append, List.length_singleton] at hnc; omega
    · have hl := congrArg (List.take (Wl.length * 2)) ht
      rw [List.take_take, List.length_append, List.length_singleton, Nat.min_eq_left (by omega), prC_snoc] at hl
      have e5 : ((prC Wl ++ [Value.int .i64 (p.1 : Nat), Value.int .i64 (p.2 : Nat)]).take (Wl.length * 2)) = prC Wl := by
        rw [List.take_append_of_le_length (by rw [prC_len]; exact Nat.le_refl _)]
        exact List.take_of_length_le (by rw [prC_len]; exact Nat.le_refl _)
      rw [e5] at hl
      exact hl
theorem OMem.push {w W W1 W' : World} {n ea eb : Nat} {sv v' : Value} {Wl : List (Nat × Nat)} {q : Nat × Nat} {F : Nat → Option Nat} {S : Nat → Nat → Bool} (h : OMem w W n ea eb sv Wl F S) (hw1 : W1 = W.alloc (Obj.cells #[.int .i64 (q.1 : Nat), .int .i64 (q.2 : Nat)] 81))
    (ho : W'.ownsRow (w.heap.size + 3) 81 2 v' (Wl.length + 1) (prC Wl ++ [.int .i64 (q.1 : Nat), .int .i64 (q.2 : Nat)])) (hg : W1.grownBy W' sv.ownBlock) (hat : v'.ownBlock = sv.ownBlock ∨ v'.ownBlock = some W1.heap.size) : OMem w W' n ea eb v' (Wl ++ [q]) F S := by
  have hsv := fun k e => h.row.lt k e
  have z1 : W1.heap.size = W.heap.size + 1 := by rw [hw1]; simp
  have hb1 : Below W.heap.size W W1 := by rw [hw1]; exact (Below.refl _ _).alloc (Nat.le_refl _) _
  have h1 := h.below hb1
  have z0 := h.base.size
  refine ⟨h1.fin.of_block (hg.block _ h1.fin.lt (fun e => by have := (hsv _ e.symm).1; omega)), by rw [List.length_append, List.length_singleton, prC_snoc]; exact ho, h1.seen.move hg (fun e => by have := (hsv _ e.symm).1; omega) (fun a g ha hf e => h.apart a g ha hf e.symm), fun a g ha hf => ?_, ?_⟩
  · rcases hat with e | e
    · rw [e]; exact h.apart a g ha hf
    · rw [e]
      intro e2
      injection e2 with e2
      have := (h.seen.2.1 a g ha hf).1.lt
      omega
  · exact h1.base.grown hg (by omega) (fun k hk => by have := (hsv k hk).1; omega)
theorem OMem.put {w W W' : World} {n ea eb : Nat} {sv : Value} {Wl : List (Nat × Nat)} {F F' : Nat → Option Nat} {S : Nat → Nat → Bool} {a g : Nat} (h : OMem w W n ea eb sv Wl F S) (hs : SeenAt n (w.heap.size + 2) (w.heap.size + 3) W' F' S) (hF : F' = fun i => if i = a then some g else F i) (hgn : sv.ownBlock ≠ some g) (hg : W.grownBy W' (some (w.heap.size + 2))) : OMem w W' n ea eb sv Wl F' S := by
  have hsv := fun k e => h.row.lt k e
  refine ⟨h.fin.of_block (hg.block _ h.fin.lt (fun e => by injection e with e; omega)), h.row.kept hg (.inr (fun e => by have := (hsv _ e).1; omega)), hs, fun i gi hi hf => ?_, h.base.grown hg h.base.size (fun k hk => by injection hk with hk; omega)⟩
  rw [hF] at hf
  change (if i = a then some g else F i) = some gi at hf
  by_cases e : i = a
  · rw [if_pos e] at hf; injection hf with hf; rw [← hf]; exact hgn
  · rw [if_neg e] at hf; exact h.apart i gi hi hf
theorem OMem.add {w W W' : World} {n ea eb : Nat} {sv : Value} {Wl : List (Nat × Nat)} {F : Nat → Option Nat} {S : Nat → Nat → Bool} {a b g : Nat} (h : OMem w W n ea eb sv Wl F S) (ha : a ≤ 4097) (hF : F a = some g) (hst : StAt W' g n (upd (S a) b true)) (hg : W.grownBy W' (some g)) : OMem w W' n ea eb sv Wl F (updS S a b) := by
  have hB := (h.seen.2.1 a g ha hF).2
  refine ⟨h.fin.of_block (hg.block _ h.fin.lt (fun e => by injection e with e; omega)), h.row.kept hg (.inr (h.apart a g ha hF)), h.seen.add ha hF (by omega) hst hg, h.apart, h.base.grown hg h.base.size (fun k hk => by injection hk with hk; omega)⟩
end Go.Proofs.Ytaalfnfikjmomaa
