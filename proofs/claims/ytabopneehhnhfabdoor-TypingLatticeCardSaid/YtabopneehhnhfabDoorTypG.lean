/- Contracts of the program's bothValid, Sub, bound, join, meet, copied, Join, Meet (typing). -/
import Derived.Test.YtabopneehhnhfabDoorTypF
import Derived.Deep.RegionHeld3
namespace Go.Proofs.YtabopneehhnhfabDoor
open Go.RowKit Go.Lib

def okB (x : Ty) : Bool := chkT 16 x == 0
theorem okB_chain {x : Ty} (h : okB x = true) : ∃ t : Tc, x = t.ty ∧ t.ok ∧ t.deep ≤ 16 := chkT_ok 16 x (by simpa [okB] using h)
theorem okB_ty {t : Tc} (h : t.ok) (hd : t.deep ≤ 16) : okB t.ty = true := by unfold okB; rw [chkT_ty t 16 h, if_pos hd]; rfl

theorem bnd_u {u x : Int} (hp : pairK u x) {a b : Tc} (ha : a.ok) (h : a.kd = u) : bndC u x a b = b := by
  cases a with
  | leaf k => have : k = u := h; subst this; exact bndC_u k x b
  | node k s => exact absurd h (node_ne hp ha.1).1
theorem bnd_v {u x : Int} (hp : pairK u x) {a b : Tc} (hb : b.ok) (h : b.kd = u) : bndC u x a b = a := by rw [bndC_comm]; exact bnd_u hp hb h
theorem bnd_ne {u x : Int} {a b : Tc} (h1 : a.kd ≠ u) (h2 : b.kd ≠ u) (h : a.kd ≠ b.kd) : bndC u x a b = .leaf x := by
  cases a with
  | leaf k =>
    cases b with
    | leaf j => rw [bnd_ll, if_neg (show ¬ k = u from h1), if_neg (show ¬ j = u from h2), if_neg (show ¬ k = j from h)]
    | node j t => rw [bnd_ln, if_neg (show ¬ k = u from h1)]
  | node k s =>
    cases b with
    | leaf j => rw [bnd_nl, if_neg (show ¬ j = u from h2)]
    | node j t => rw [bnd_nn, if_neg (show ¬ k = j from h)]
theorem bnd_leaf {u x : Int} {a b : Tc} (ha : a.ok) (hb : b.ok) (h : a.kd = b.kd) (hn : nodeB a.kd = false) : bndC u x a b = a := by
  have e1 := leaf_form ha hn
  have e2 := leaf_form hb (by rw [← h]; exact hn)
  rw [e1, e2, ← h, bndC_same]

theorem bothValid_any (mA mB : Nat) (A B : Value) (x y : Ty) (w : World) (hA : IsT mA w A x) (hB : IsT mB w B y) :
    Calls Tryd.prog 41 #[A, B] w fun e w' => e = .returned (.bool (okB x && okB y)) ∧ Below w.heap.size w w' := by
  have X1 := Lib.hid (fun w (h : IsT mA w A x) => validT_any mA A x w h)
  have X2 := Lib.hid (fun w (h : IsT mB w B y) => validT_any mB B y w h)
  have HA := Lib.hid hA
  have HB := Lib.hid hB
  obtain ⟨k, l, av, c, rfl, rfl, _, _, _⟩ := hA
  obtain ⟨k2, l2, av2, c2, rfl, rfl, _, _, _⟩ := hB
  have E := Lib.hid (show (okB (.mk k l) && okB (.mk k2 l2)) = (((chkT 16 (.mk k l) : Nat) : Int) == 0 && ((chkT 16 (.mk k2 l2) : Nat) : Int) == 0) by unfold okB; rw [nat_zero0, nat_zero0])
  generalize chkT 16 (.mk k l) = p at X1 E
  generalize chkT 16 (.mk k2 l2) = q at X2 E
  cases hp : ((p : Int) == 0)
  · rw [hp, Bool.false_and] at E
    go_enter Tryd.func41, Tryd.ntmps41
    go_wp2_with fail
    go_fit (X1.out _ (HA.out.below (by repeat (first | exact Below.refl _ _ | refine Below.setCell ?_ (by simp <;> omega) _ | refine Below.alloc ?_ (by simp <;> omega) _))))
    rintro e w1 ⟨rfl, hb1⟩
    have B1 := Lib.hid (Below.trans (show Below w.heap.size w _ from (by repeat (first | exact Below.refl _ _ | refine Below.setCell ?_ (by simp <;> omega) _ | refine Below.alloc ?_ (by simp <;> omega) _))) (hb1.mono (by simp <;> omega)))
    clear hb1
    go_wp2_with fail
    go_ret
    exact ⟨by rw [E.out]; rfl, B1.out⟩
  · rw [hp, Bool.true_and] at E
    obtain ⟨r, hr⟩ : ∃ r, r = ((q : Int) == 0) := ⟨_, rfl⟩
    rw [← hr] at E
    have hr2 := hr.symm
    clear hr
    go_enter Tryd.func41, Tryd.ntmps41
    go_wp2_with fail
    go_fit (X1.out _ (HA.out.below (by repeat (first | exact Below.refl _ _ | refine Below.setCell ?_ (by simp <;> omega) _ | refine Below.alloc ?_ (by simp <;> omega) _))))
    rintro e w1 ⟨rfl, hb1⟩
    have B1 := Lib.hid (Below.trans (show Below w.heap.size w _ from (by repeat (first | exact Below.refl _ _ | refine Below.setCell ?_ (by simp <;> omega) _ | refine Below.alloc ?_ (by simp <;> omega) _))) (hb1.mono (by simp <;> omega)))
    have TB := (TwoAt.new _ 24 (.int .i64 k2) (.slice av2 l2.length c2)).below hb1
    simp only [World.size_alloc] at TB
    have d0 := TB.cell0
    have d1 := TB.cell1
    clear hb1
    go_wp2_with fail
    go_fit (X2.out _ (HB.out.below B1.out))
    rintro e w2 ⟨rfl, hb2⟩
    have B2 := Lib.hid (B1.out.trans (hb2.mono B1.out.size))
    clear hb2
    go_wp2_with fail
    go_ret
    exact ⟨by rw [E.out]; rfl, B2.out⟩

/-- What the slice of a chain's type holds; each block of it has the property P. -/
def TailP (P : Nat → Prop) (w : World) : Option Addr → Tc → Prop
  | _, .leaf _ => True
  | av, .node _ t => ∃ b off a c, av = some ⟨b, off, none⟩ ∧ P b ∧ b < w.heap.size ∧ w.cell? ⟨b, off, none⟩ = some (.int .i64 t.kd) ∧ w.cell? ⟨b, off + 1, none⟩ = some (.slice a t.ln c) ∧ TailP P w a t
theorem cell_block {w w' : World} {b o : Nat} (h : w'.heap[b]? = w.heap[b]?) : w'.cell? ⟨b, o, none⟩ = w.cell? ⟨b, o, none⟩ := by simp [World.cell?, h]
theorem TailP.kept {P P' : Nat → Prop} {w w' : World} (hP : ∀ b, P b → P' b) (hk : ∀ b, P b → b < w.heap.size → w'.heap[b]? = w.heap[b]?) : ∀ (t : Tc) (av : Option Addr), TailP P w av t → TailP P' w' av t
  | .leaf _, _, _ => trivial
  | .node _ t, av, h => by
    obtain ⟨b, off, a, c, h1, h2, h3, c0, c1, hl⟩ := h
    have e := hk b h2 h3
    have h4 : b < w'.heap.size := by
      have : (w.heap[b]?).isSome = true := by rw [Array.getElem?_eq_getElem h3]; rfl
      rw [← e] at this
      obtain ⟨o, ho⟩ := Option.isSome_iff_exists.1 this
      exact (Array.getElem?_eq_some_iff.1 ho).1
    exact ⟨b, off, a, c, h1, hP b h2, h4, (cell_block e).trans c0, (cell_block e).trans c1, TailP.kept hP hk t a hl⟩
theorem TailP.toC {P : Nat → Prop} {w : World} : ∀ (t : Tc) (av : Option Addr), TailP P w av t → TailC w av t
  | .leaf _, _, _ => trivial
  | .node _ t, av, h => by
    obtain ⟨b, off, a, c, h1, h2, h3, c0, c1, hl⟩ := h
    exact ⟨b, off, a, c, h1, h3, c0, c1, TailP.toC t a hl⟩
theorem TailP.ofC {w : World} : ∀ (t : Tc) (av : Option Addr), TailC w av t → TailP (· < w.heap.size) w av t
  | .leaf _, _, _ => trivial
  | .node _ t, av, h => by
    obtain ⟨b, off, a, c, h1, h3, c0, c1, hl⟩ := h
    exact ⟨b, off, a, c, h1, h3, h3, c0, c1, TailP.ofC t a hl⟩
def IsP (P : Nat → Prop) (w : World) (V : Value) (t : Tc) : Prop := ∃ av c, V = .agg #[.int .i64 t.kd, .slice av t.ln c] ∧ TailP P w av t
theorem IsP.toC {P : Nat → Prop} {w : World} {V : Value} {t : Tc} (h : IsP P w V t) : IsC w V t := by
  obtain ⟨av, c, e, h⟩ := h
  exact ⟨av, c, e, TailP.toC t av h⟩
theorem IsP.ofC {w : World} {V : Value} {t : Tc} (h : IsC w V t) : IsP (· < w.heap.size) w V t := by
  obtain ⟨av, c, e, h⟩ := h
  exact ⟨av, c, e, TailP.ofC t av h⟩
theorem IsP.below {P P' : Nat → Prop} {w w' : World} {V : Value} {t : Tc} (h : IsP P w V t) (hP : ∀ b, P b → P' b) (hb : Below w.heap.size w w') : IsP P' w' V t := by
  obtain ⟨av, c, e, h⟩ := h
  exact ⟨av, c, e, TailP.kept hP (fun b _ hlt => hb.block b hlt) t av h⟩

set_option maxHeartbeats 4000000 in
/-- The bound of two types of which no element types are taken. -/
theorem bound_exit (u x : Int) (hp : pairK u x) (a b : Tc) (A B : Value) (w : World) (ha : a.ok) (hb : b.ok) (P : Nat → Prop) (hA : IsP P w A a) (hB : IsP P w B b) (hx : ¬ (a.kd ≠ u ∧ b.kd ≠ u ∧ a.kd = b.kd ∧ nodeB a.kd = true)) :
    Calls Tryd.prog 57 #[A, B, .int .i64 u, .int .i64 x] w fun e w' => ∃ V, e = .returned V ∧ IsP (fun b => P b ∨ w.heap.size ≤ b) w' V (bndC u x a b) ∧ Below w.heap.size w w' := by
  have HA := Lib.hid hA
  have HB := Lib.hid hB
  obtain ⟨av, ca, rfl, hTA⟩ := hA
  obtain ⟨bv, cb, rfl, hTB⟩ := hB
  by_cases h1 : a.kd = u
  · have h1b : (a.kd == u) = true := by rw [beq_iff_eq]; exact h1
    have E := Lib.hid (bnd_u (x := x) hp ha (b := b) h1)
    clear h1 hTA hTB ha hb hx hp
    generalize a.kd = ka at *
    generalize a.ln = na at *
    generalize b.kd = kb at *
    generalize b.ln = nb at *
    go_enter Tryd.func57, Tryd.ntmps57
    go_wp2_with fail
    exact bodyPost_ret (v := .agg #[.int .i64 kb, .slice bv nb cb]) (by simp [results, Tryd.f57, go_sem]) rfl ⟨_, rfl, by rw [E.out]; exact HB.out.below (fun b h => .inl h) (by repeat (first | exact Below.refl _ _ | refine Below.setCell ?_ (by simp <;> omega) _ | refine Below.alloc ?_ (by simp <;> omega) _)), (by repeat (first | exact Below.refl _ _ | refine Below.setCell ?_ (by simp <;> omega) _ | refine Below.alloc ?_ (by simp <;> omega) _))⟩
  by_cases h2 : b.kd = u
  · have h1b : (a.kd == u) = false := by rw [beq_eq_false_iff_ne]; exact h1
    have h2b : (b.kd == u) = true := by rw [beq_iff_eq]; exact h2
    have E := Lib.hid (bnd_v (x := x) hp hb (a := a) h2)
    clear h1 h2 hTA hTB ha hb hx hp
    generalize a.kd = ka at *
    generalize a.ln = na at *
    generalize b.kd = kb at *
    generalize b.ln = nb at *
    go_enter Tryd.func57, Tryd.ntmps57
    go_wp2_with fail
    exact bodyPost_ret (v := .agg #[.int .i64 ka, .slice av na ca]) (by simp [results, Tryd.f57, go_sem]) rfl ⟨_, rfl, by rw [E.out]; exact HA.out.below (fun b h => .inl h) (by repeat (first | exact Below.refl _ _ | refine Below.setCell ?_ (by simp <;> omega) _ | refine Below.alloc ?_ (by simp <;> omega) _)), (by repeat (first | exact Below.refl _ _ | refine Below.setCell ?_ (by simp <;> omega) _ | refine Below.alloc ?_ (by simp <;> omega) _))⟩
  have h1b : (a.kd == u) = false := by rw [beq_eq_false_iff_ne]; exact h1
  have h2b : (b.kd == u) = false := by rw [beq_eq_false_iff_ne]; exact h2
  by_cases h3 : a.kd = b.kd
  · cases hn : nodeB a.kd
    · have h3b : (a.kd != b.kd) = false := by rw [h3]; simp
      have E := Lib.hid (bnd_leaf (u := u) (x := x) ha hb h3 hn)
      have Y := Lib.hid (fun w => tyCompound_any a.kd w)
      rw [hn] at Y
      clear h1 h2 h3 hTA hTB ha hb hx hp hn
      generalize a.kd = ka at *
      generalize a.ln = na at *
      generalize b.kd = kb at *
      generalize b.ln = nb at *
      go_enter Tryd.func57, Tryd.ntmps57
      go_wp2_with fail
      go_fit (Y.out _)
      rintro e w1 ⟨rfl, rfl⟩
      go_wp2_with fail
      exact bodyPost_ret (v := .agg #[.int .i64 ka, .slice av na ca]) (by simp [results, Tryd.f57, go_sem]) rfl ⟨_, rfl, by rw [E.out]; exact HA.out.below (fun b h => .inl h) (by repeat (first | exact Below.refl _ _ | refine Below.setCell ?_ (by simp <;> omega) _ | refine Below.alloc ?_ (by simp <;> omega) _)), (by repeat (first | exact Below.refl _ _ | refine Below.setCell ?_ (by simp <;> omega) _ | refine Below.alloc ?_ (by simp <;> omega) _))⟩
    · exact absurd ⟨h1, h2, h3, hn⟩ hx
  · have h3b : (a.kd != b.kd) = true := by simpa using h3
    have E := Lib.hid (bnd_ne (u := u) (x := x) h1 h2 h3)
    have Y := Lib.hid (fun w => tySimple_any x w)
    clear h1 h2 h3 hTA hTB ha hb hx hp
    generalize a.kd = ka at *
    generalize a.ln = na at *
    generalize b.kd = kb at *
    generalize b.ln = nb at *
    go_enter Tryd.func57, Tryd.ntmps57
    go_wp2_with fail
    go_fit (Y.out _)
    rintro e w1 ⟨rfl, hb1⟩
    have B1 := Lib.hid (Below.trans (show Below w.heap.size w _ from (by repeat (first | exact Below.refl _ _ | refine Below.setCell ?_ (by simp <;> omega) _ | refine Below.alloc ?_ (by simp <;> omega) _))) (hb1.mono (by simp <;> omega)))
    have TR := (TwoAt.new _ 24 (.int .i64 0) (.slice none 0 0)).below hb1
    simp only [World.size_alloc] at TR
    have t0 := TR.cell0
    have t1 := TR.cell1
    have tf0 := TR.frozen 0
    have tf1 := TR.frozen 1
    clear hb1
    go_wp2_with fail
    have TR2 := (TR.set0 (.int .i64 x)).set1 (.slice none 0 0)
    have u0 := TR2.cell0
    have u1 := TR2.cell1
    exact bodyPost_ret (v := .agg #[.int .i64 x, .slice none 0 0]) (by simp [results, Tryd.f57, go_sem, u0, u1]) rfl ⟨.agg #[.int .i64 x, .slice none 0 0], rfl, by rw [E.out]; exact ⟨none, 0, rfl, trivial⟩, (B1.out.setCell (by simp <;> omega) _).setCell (by simp <;> omega) _⟩

/-- What a region of loads beside calls holds: two boxes of types and their element types; a block for the result. -/
def S8 (w : World) (k : Int) (ba oa ca bb ob cb : Nat) (x0 x1 y0 y1 : Value) (w' : World) : Prop :=
  w'.cell? ⟨w.heap.size, 0, none⟩ = some (.int .i64 k) ∧ w'.cell? ⟨w.heap.size, 1, none⟩ = some (.slice (some ⟨ba, oa, none⟩) 1 ca) ∧ w'.cell? ⟨w.heap.size + 1, 1, none⟩ = some (.slice (some ⟨bb, ob, none⟩) 1 cb) ∧
    w'.cell? ⟨ba, oa, none⟩ = some x0 ∧ w'.cell? ⟨ba, oa + 1, none⟩ = some x1 ∧ w'.cell? ⟨bb, ob, none⟩ = some y0 ∧ w'.cell? ⟨bb, ob + 1, none⟩ = some y1 ∧ Below w.heap.size w w' ∧ (∃ x y, TwoAt w' (w.heap.size + 1 + 1) 24 x y)
theorem S8.of {w : World} {k : Int} {ba oa ca bb ob cb : Nat} {x0 x1 y0 y1 : Value} {w1 w2 : World} (h : S8 w k ba oa ca bb ob cb x0 x1 y0 y1 w1) (za : ba < w.heap.size) (zb : bb < w.heap.size)
    (hk : ∀ b, b < w.heap.size + 1 + 1 → w2.heap[b]? = w1.heap[b]?) (hb : Below w.heap.size w w2) (ht : ∃ x y, TwoAt w2 (w.heap.size + 1 + 1) 24 x y) : S8 w k ba oa ca bb ob cb x0 x1 y0 y1 w2 := by
  obtain ⟨a1, a2, a3, a4, a5, a6, a7, _, _⟩ := h
  exact ⟨(cell_block (hk _ (by omega))).trans a1, (cell_block (hk _ (by omega))).trans a2, (cell_block (hk _ (by omega))).trans a3, (cell_block (hk _ (by omega))).trans a4, (cell_block (hk _ (by omega))).trans a5, (cell_block (hk _ (by omega))).trans a6, (cell_block (hk _ (by omega))).trans a7, hb, ht⟩
theorem S8.below {w : World} {k : Int} {ba oa ca bb ob cb : Nat} {x0 x1 y0 y1 : Value} {w1 w2 : World} (za : ba < w.heap.size) (zb : bb < w.heap.size) (h : S8 w k ba oa ca bb ob cb x0 x1 y0 y1 w1) (hb : Below w1.heap.size w1 w2) : S8 w k ba oa ca bb ob cb x0 x1 y0 y1 w2 := by
  have h' := h
  obtain ⟨_, _, _, _, _, _, _, h8, x, y, h9⟩ := h'
  have hz := h9.lt
  exact h.of za zb (fun b hlt => hb.block b (by omega)) (h8.trans (hb.mono (by omega))) ⟨x, y, h9.below hb⟩
theorem S8.drew {w : World} {k : Int} {ba oa ca bb ob cb : Nat} {x0 x1 y0 y1 : Value} {w1 : World} (h : S8 w k ba oa ca bb ob cb x0 x1 y0 y1 w1) : S8 w k ba oa ca bb ob cb x0 x1 y0 y1 w1.drew := by
  obtain ⟨a1, a2, a3, a4, a5, a6, a7, h8, x, y, h9⟩ := h
  exact ⟨a1, a2, a3, a4, a5, a6, a7, h8.drew, x, y, h9.drew⟩
theorem S8.set2 {w : World} {k : Int} {ba oa ca bb ob cb : Nat} {x0 x1 y0 y1 : Value} {w1 : World} (za : ba < w.heap.size) (zb : bb < w.heap.size) (u v : Value) (h : S8 w k ba oa ca bb ob cb x0 x1 y0 y1 w1) :
    S8 w k ba oa ca bb ob cb x0 x1 y0 y1 ((w1.setCell ⟨w.heap.size + 1 + 1, 0, none⟩ u).setCell ⟨w.heap.size + 1 + 1, 1, none⟩ v) := by
  have h' := h
  obtain ⟨_, _, _, _, _, _, _, h8, x, y, h9⟩ := h'
  refine h.of za zb (fun b hlt => ?_) ((h8.setCell (p := ⟨w.heap.size + 1 + 1, 0, none⟩) (show w.heap.size ≤ w.heap.size + 1 + 1 by omega) _).setCell (p := ⟨w.heap.size + 1 + 1, 1, none⟩) (show w.heap.size ≤ w.heap.size + 1 + 1 by omega) _) ⟨_, _, (h9.set0 u).set1 v⟩
  exact (Below.heap_setCell _ _ _ b (show b ≠ w.heap.size + 1 + 1 by omega)).trans (Below.heap_setCell _ _ _ b (show b ≠ w.heap.size + 1 + 1 by omega))
theorem S8.tw {w : World} {k : Int} {ba oa ca bb ob cb : Nat} {x0 x1 y0 y1 : Value} {w1 : World} (h : S8 w k ba oa ca bb ob cb x0 x1 y0 y1 w1) : ∃ x y, TwoAt w1 (w.heap.size + 1 + 1) 24 x y := h.2.2.2.2.2.2.2.2
theorem two_of {w1 w2 : World} {b : Nat} (h : ∃ x y, TwoAt w1 b 24 x y) (hb : Below w1.heap.size w1 w2) : ∃ x y, TwoAt w2 b 24 x y := by
  obtain ⟨x, y, h⟩ := h
  exact ⟨x, y, h.below hb⟩

theorem bound_end {P : Nat → Prop} {w W0 w2 w3 : World} {k : Int} {t : Tc} {g cx2 : Nat} {av2 : Option Addr} (hP : ∀ b, P b → b < w.heap.size) (hb0 : Below w.heap.size w W0) (h0 : w.heap.size + 1 + 1 < W0.heap.size)
    (hb2 : Below W0.heap.size W0 w2) (hT2 : TailP (fun b => P b ∨ W0.heap.size ≤ b) w2 av2 t) (hg : w2.heap.size ≤ g ∧ g < w3.heap.size) (hc0 : w3.cell? ⟨g, 0, none⟩ = some (.int .i64 t.kd)) (hc1 : w3.cell? ⟨g, 1, none⟩ = some (.slice av2 t.ln cx2)) (hb3 : Below w2.heap.size w2 w3) (u v : Value) :
    IsP (fun b => P b ∨ w.heap.size ≤ b) ((w3.setCell ⟨w.heap.size + 1 + 1, 0, none⟩ u).setCell ⟨w.heap.size + 1 + 1, 1, none⟩ v) (.agg #[.int .i64 k, .slice (some ⟨g, 0, none⟩) 1 1]) (.node k t) ∧
      Below w.heap.size w ((w3.setCell ⟨w.heap.size + 1 + 1, 0, none⟩ u).setCell ⟨w.heap.size + 1 + 1, 1, none⟩ v) := by
  have z2 := hb2.size
  have z3 := hb3.size
  have zw := hb0.size
  have B3 : Below w.heap.size w w3 := (hb0.trans (hb2.mono zw)).trans (hb3.mono (by omega))
  have hs : ∀ b, b ≠ w.heap.size + 1 + 1 → ((w3.setCell ⟨w.heap.size + 1 + 1, 0, none⟩ u).setCell ⟨w.heap.size + 1 + 1, 1, none⟩ v).heap[b]? = w3.heap[b]? := fun b h => (Below.heap_setCell _ _ _ b h).trans (Below.heap_setCell _ _ _ b h)
  refine ⟨⟨some ⟨g, 0, none⟩, 1, rfl, g, 0, av2, cx2, rfl, .inr (by omega), ?_, ?_, ?_, ?_⟩, (B3.setCell (p := ⟨w.heap.size + 1 + 1, 0, none⟩) (show w.heap.size ≤ w.heap.size + 1 + 1 by omega) _).setCell (p := ⟨w.heap.size + 1 + 1, 1, none⟩) (show w.heap.size ≤ w.heap.size + 1 + 1 by omega) _⟩
  · simp [World.setCell]; exact hg.2
  · exact (cell_block (hs g (by omega))).trans hc0
  · exact (cell_block (hs g (by omega))).trans hc1
  · refine TailP.kept (fun b h => ?_) (fun b h hlt => ?_) t av2 hT2
    · rcases h with h | h
      · exact .inl h
      · exact .inr (by omega)
    · have hne : b ≠ w.heap.size + 1 + 1 := by
        rcases h with h | h
        · have := hP b h
          omega
        · omega
      rw [hs b hne]
      exact hb3.block b hlt

set_option maxHeartbeats 4000000 in
theorem bound_any (u x : Int) (hp : pairK u x) : ∀ (a b : Tc) (A B : Value) (w : World) (P : Nat → Prop), (∀ b, P b → b < w.heap.size) → a.ok → b.ok → IsP P w A a → IsP P w B b →
    Calls Tryd.prog 57 #[A, B, .int .i64 u, .int .i64 x] w fun e w' => ∃ V, e = .returned V ∧ IsP (fun b => P b ∨ w.heap.size ≤ b) w' V (bndC u x a b) ∧ Below w.heap.size w w' := by
  intro a
  induction a with
  | leaf k => exact fun b A B w P hP ha hb hA hB => bound_exit u x hp (.leaf k) b A B w ha hb P hA hB (fun h => by
      have ha' : k = 0 ∨ k = 1 ∨ k = 2 ∨ k = 3 ∨ k = 4 ∨ k = 7 := ha
      have h4 := h.2.2.2
      simp [nodeB, Tc.kd] at h4
      omega)
  | node k s ih =>
    intro b A B w P hP ha hb hA hB
    by_cases hx : b.kd ≠ u ∧ k = b.kd
    · have hk : nodeB k = true := by
        have ha' : k = 5 ∨ k = 6 := ha.1
        simp [nodeB]
        omega
      obtain ⟨t, ht, hto⟩ := node_form hb (by rw [← hx.2]; exact hk)
      rw [← hx.2] at ht
      subst ht
      have HIH := Lib.hid ih
      have E := Lib.hid (show bndC u x (.node k s) (.node k t) = .node k (bndC u x s t) by rw [bnd_nn, if_pos rfl])
      have hso := ha.2
      have hu : (k == u) = false := by rw [beq_eq_false_iff_ne]; exact hx.1
      have Y := Lib.hid (fun w => tyCompound_any k w)
      rw [hk] at Y
      have hne : (k != k) = false := by simp
      have Z := Lib.hid (fun a v n c w => tyOf_any k a v n c w)
      obtain ⟨av, ca, rfl, ba, oa, xa, ya, rfl, pa, za, p0, p1, hTA2⟩ := hA
      obtain ⟨bv, cb, rfl, bb, ob, xb, yb, rfl, pb, zb, q0, q1, hTB2⟩ := hB
      have HTA := Lib.hid hTA2
      have HPP := Lib.hid hP
      clear hP
      have HTB := Lib.hid hTB2
      clear hTA2 hTB2 hx ha hb ih hk
      show Calls Tryd.prog 57 #[.agg #[.int .i64 k, .slice (some ⟨ba, oa, none⟩) 1 ca], .agg #[.int .i64 k, .slice (some ⟨bb, ob, none⟩) 1 cb], .int .i64 u, .int .i64 x] w _
      go_enter Tryd.func57, Tryd.ntmps57
      go_wp2_with fail
      go_fit (Y.out _)
      rintro e w1 ⟨rfl, rfl⟩
      go_wp2_with fail
      have TA := ((TwoAt.new w 24 (.int .i64 k) (.slice (some ⟨ba, oa, none⟩) 1 ca)).alloc (.cells #[.int .i64 k, .slice (some ⟨bb, ob, none⟩) 1 cb] 24)).alloc (.cells #[.int .i64 0, .slice none 0 0] 24)
      have TB := (TwoAt.new (w.alloc (.cells #[.int .i64 k, .slice (some ⟨ba, oa, none⟩) 1 ca] 24)) 24 (.int .i64 k) (.slice (some ⟨bb, ob, none⟩) 1 cb)).alloc (.cells #[.int .i64 0, .slice none 0 0] 24)
      have TR := TwoAt.new ((w.alloc (.cells #[.int .i64 k, .slice (some ⟨ba, oa, none⟩) 1 ca] 24)).alloc (.cells #[.int .i64 k, .slice (some ⟨bb, ob, none⟩) 1 cb] 24)) 24 (.int .i64 0) (.slice none 0 0)
      have B0 : Below w.heap.size w (((w.alloc (.cells #[.int .i64 k, .slice (some ⟨ba, oa, none⟩) 1 ca] 24)).alloc (.cells #[.int .i64 k, .slice (some ⟨bb, ob, none⟩) 1 cb] 24)).alloc (.cells #[.int .i64 0, .slice none 0 0] 24)) := by
        repeat (first | exact Below.refl _ _ | refine Below.alloc ?_ (by simp <;> omega) _)
      obtain ⟨W0, hW0⟩ : ∃ W0, W0 = ((w.alloc (.cells #[.int .i64 k, .slice (some ⟨ba, oa, none⟩) 1 ca] 24)).alloc (.cells #[.int .i64 k, .slice (some ⟨bb, ob, none⟩) 1 cb] 24)).alloc (.cells #[.int .i64 0, .slice none 0 0] 24) := ⟨_, rfl⟩
      rw [← hW0] at TA TB TR B0 ⊢
      simp only [World.size_alloc] at TB TR
      clear hW0
      have hs0 : S8 w k ba oa ca bb ob cb (.int .i64 s.kd) (.slice xa s.ln ya) (.int .i64 t.kd) (.slice xb t.ln yb) W0 := ⟨TA.cell0, TA.cell1, TB.cell1, (B0.cell (p := ⟨ba, _, none⟩) za).trans p0, (B0.cell (p := ⟨ba, _, none⟩) za).trans p1, (B0.cell (p := ⟨bb, _, none⟩) zb).trans q0, (B0.cell (p := ⟨bb, _, none⟩) zb).trans q1, B0, _, _, TR⟩
      have IH := Lib.hid (fun w' (h : S8 w k ba oa ca bb ob cb (.int .i64 s.kd) (.slice xa s.ln ya) (.int .i64 t.kd) (.slice xb t.ln yb) w') => HIH.out t (.agg #[.int .i64 s.kd, .slice xa s.ln ya]) (.agg #[.int .i64 t.kd, .slice xb t.ln yb]) w' P (fun b hb => Nat.lt_of_lt_of_le (HPP.out b hb) h.2.2.2.2.2.2.2.1.size) hso hto ⟨xa, ya, rfl, TailP.kept (fun _ h => h) (fun b _ hlt => h.2.2.2.2.2.2.2.1.block b hlt) s xa HTA.out⟩ ⟨xb, yb, rfl, TailP.kept (fun _ h => h) (fun b _ hlt => h.2.2.2.2.2.2.2.1.block b hlt) t xb HTB.out⟩)
      clear B0 p0 p1 q0 q1 TA TB TR HIH Y
      go_region_held3 (fun w' => w'.cell? ⟨w.heap.size, 0, none⟩ = some (.int .i64 k) ∧ w'.cell? ⟨w.heap.size, 1, none⟩ = some (.slice (some ⟨ba, oa, none⟩) 1 ca) ∧ w'.cell? ⟨w.heap.size + 1, 1, none⟩ = some (.slice (some ⟨bb, ob, none⟩) 1 cb) ∧ w'.cell? ⟨ba, oa, none⟩ = some (.int .i64 s.kd) ∧ w'.cell? ⟨ba, oa + 1, none⟩ = some (.slice xa s.ln ya) ∧ w'.cell? ⟨bb, ob, none⟩ = some (.int .i64 t.kd) ∧ w'.cell? ⟨bb, ob + 1, none⟩ = some (.slice xb t.ln yb) ∧ Below w.heap.size w w' ∧ (∃ x y, TwoAt w' (w.heap.size + 1 + 1) 24 x y)) (first | exact S8.drew hs0 | exact S8.below za zb (by assumption) (by assumption) | exact S8.set2 za zb _ _ (by assumption)) (first
        | (go_at_call 57; go_fit (IH.out _ (by assumption)); rintro e w2 ⟨V, rfl, ⟨av2, cx2, rfl, hT2⟩, hb2⟩)
        | (go_at_call 55; go_fit (Z.out _ _ _ _ _); rintro e w3 ⟨g, rfl, hg, hc0, hc1, hb3⟩; obtain ⟨_, _, TR3⟩ := two_of (S8.tw (w := w) (k := k) (ba := ba) (oa := oa) (ca := ca) (bb := bb) (ob := ob) (cb := cb) (x0 := .int .i64 s.kd) (x1 := .slice xa s.ln ya) (y0 := .int .i64 t.kd) (y1 := .slice xb t.ln yb) (by assumption)) hb3; have k0 := TR3.cell0; have k1 := TR3.cell1; have kf0 := TR3.frozen 0; have kf1 := TR3.frozen 1))
      go_wp2_with fail
      have TR4 := (TR3.set0 (.int .i64 k)).set1 (.slice (some ⟨g, 0, none⟩) 1 1)
      have u0 := TR4.cell0
      have u1 := TR4.cell1
      have hend := bound_end (k := k) HPP.out hs0.drew.2.2.2.2.2.2.2.1 (by have := hs0.drew.tw; obtain ⟨_, _, h⟩ := this; exact h.lt) hb2 hT2 hg hc0 hc1 hb3 (.int .i64 k) (.slice (some ⟨g, 0, none⟩) 1 1)
      clear hb2 hT2 hg hc0 hc1 hb3 IH Z
      exact bodyPost_ret (v := .agg #[.int .i64 k, .slice (some ⟨g, 0, none⟩) 1 1]) (by simp [results, Tryd.f57, go_sem, u0, u1]) rfl ⟨_, rfl, by rw [E.out]; exact hend.1, hend.2⟩
    · refine bound_exit u x hp (.node k s) b A B w ha hb P hA hB (fun h => hx ⟨h.2.1, h.2.2.1⟩)
end Go.Proofs.YtabopneehhnhfabDoor
