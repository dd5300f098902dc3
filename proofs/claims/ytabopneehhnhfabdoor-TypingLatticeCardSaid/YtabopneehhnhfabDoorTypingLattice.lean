/- Valid types form a lattice. -/
import Derived.Test.YtabopneehhnhfabDoorTie
import Derived.Test.YtabopneehhnhfabDoorCards
import Derived.Test.YtabopneehhnhfabDoorTypTab
import Derived.Test.YtabopneehhnhfabDoorTypWalk
import Derived.Test.YtabopneehhnhfabDoorOpT
import Derived.Test.YtabopneehhnhfabDoorTypO
import Derived.Test.YtabopneehhnhfabDoorTypIp
import Derived.ProofKit
import Derived.OpenShut
import Derived.LaidMore
import Derived.Stop.Joined
import Derived.SevenTiedAt
import Derived.SizedLaws
namespace Go.Proofs.YtabopneehhnhfabDoor.typingLattice
open Go.ChangeShapes Go.WideShapes Go.ChangeAt Go.RowKit
set_option linter.unusedVariables false

theorem own : ownKnob Tryd.prog.godebug = none := by kernel_rfl
theorem laidOut : laidOutB Tryd.prog = true := by kernel_rfl

/-- Join, Meet and Sub of chains. -/
theorem joinC (a b : Tc) (A B : Value) (w : World) (ha : a.ok ∧ a.deep ≤ 16) (hb : b.ok ∧ b.deep ≤ 16) (hA : IsC w A a) (hB : IsC w B b) :
    Calls Tryd.prog 21 #[A, B] w fun e w' => ∃ V, e = .returned V ∧ IsC w' V (bndC 7 0 a b) ∧ Below w.heap.size w w' := by
  have M := Join_any a.deep b.deep A B a.ty b.ty w (isT_C ha.1 hA) (isT_C hb.1 hB)
  rw [show bndT 7 0 a.ty b.ty = bndC 7 0 a b by unfold bndT; rw [okB_ty ha.1 ha.2, okB_ty hb.1 hb.2, tcOf_ty, tcOf_ty]; rfl] at M
  exact M
theorem meetC (a b : Tc) (A B : Value) (w : World) (ha : a.ok ∧ a.deep ≤ 16) (hb : b.ok ∧ b.deep ≤ 16) (hA : IsC w A a) (hB : IsC w B b) :
    Calls Tryd.prog 23 #[A, B] w fun e w' => ∃ V, e = .returned V ∧ IsC w' V (bndC 0 7 a b) ∧ Below w.heap.size w w' := by
  have M := Meet_any a.deep b.deep A B a.ty b.ty w (isT_C ha.1 hA) (isT_C hb.1 hB)
  rw [show bndT 0 7 a.ty b.ty = bndC 0 7 a b by unfold bndT; rw [okB_ty ha.1 ha.2, okB_ty hb.1 hb.2, tcOf_ty, tcOf_ty]; rfl] at M
  exact M
theorem subCC (a b : Tc) (A B : Value) (w : World) (ha : a.ok ∧ a.deep ≤ 16) (hb : b.ok ∧ b.deep ≤ 16) (hA : IsC w A a) (hB : IsC w B b) :
    Calls Tryd.prog 19 #[A, B] w fun e w' => e = .returned (.bool (subC a b)) ∧ Below w.heap.size w w' := by
  have M := Sub_any a.deep b.deep A B a.ty b.ty w (isT_C ha.1 hA) (isT_C hb.1 hB)
  rw [show subT a.ty b.ty = subC a b by unfold subT; rw [okB_ty ha.1 ha.2, okB_ty hb.1 hb.2, tcOf_ty, tcOf_ty]; rfl] at M
  exact M
theorem joinG {a b : Tc} (ha : a.ok ∧ a.deep ≤ 16) (hb : b.ok ∧ b.deep ≤ 16) : (bndC 7 0 a b).ok ∧ (bndC 7 0 a b).deep ≤ 16 := ⟨bndC_ok 7 0 leaf0 a b ha.1 hb.1, bndC_deep 7 0 a b 16 ha.2 hb.2⟩
theorem meetG {a b : Tc} (ha : a.ok ∧ a.deep ≤ 16) (hb : b.ok ∧ b.deep ≤ 16) : (bndC 0 7 a b).ok ∧ (bndC 0 7 a b).deep ≤ 16 := ⟨bndC_ok 0 7 leaf7 a b ha.1 hb.1, bndC_deep 0 7 a b 16 ha.2 hb.2⟩

theorem okB_good {x : Ty} (h : okB x = true) : (tcOf x).ok ∧ (tcOf x).deep ≤ 16 := ⟨(ok_tc h).2.1, (ok_tc h).2.2⟩
/-- Join, Meet of chains: the result's shape, and that its blocks are new. -/
theorem joinS (a b : Tc) (A B : Value) (w : World) (ha : a.ok ∧ a.deep ≤ 16) (hb : b.ok ∧ b.deep ≤ 16) (hA : IsC w A a) (hB : IsC w B b) :
    Calls Tryd.prog 21 #[A, B] w fun e w' => ∃ k n v c, e = .returned (.agg #[.int .i64 k, .slice v n c]) ∧ IsP (fun b => w.heap.size ≤ b) w' (.agg #[.int .i64 k, .slice v n c]) (bndC 7 0 a b) ∧ Below w.heap.size w w' := by
  have M := JoinP_any a.deep b.deep A B a.ty b.ty w (isT_C ha.1 hA) (isT_C hb.1 hB)
  rw [show bndT 7 0 a.ty b.ty = bndC 7 0 a b by unfold bndT; rw [okB_ty ha.1 ha.2, okB_ty hb.1 hb.2, tcOf_ty, tcOf_ty]; rfl] at M
  refine M.mono fun e w' ⟨V, h1, h2, h3⟩ => ?_
  obtain ⟨v, c, rfl, h4⟩ := h2
  exact ⟨_, _, v, c, h1, ⟨v, c, rfl, h4⟩, h3⟩
theorem meetS (a b : Tc) (A B : Value) (w : World) (ha : a.ok ∧ a.deep ≤ 16) (hb : b.ok ∧ b.deep ≤ 16) (hA : IsC w A a) (hB : IsC w B b) :
    Calls Tryd.prog 23 #[A, B] w fun e w' => ∃ k n v c, e = .returned (.agg #[.int .i64 k, .slice v n c]) ∧ IsP (fun b => w.heap.size ≤ b) w' (.agg #[.int .i64 k, .slice v n c]) (bndC 0 7 a b) ∧ Below w.heap.size w w' := by
  have M := MeetP_any a.deep b.deep A B a.ty b.ty w (isT_C ha.1 hA) (isT_C hb.1 hB)
  rw [show bndT 0 7 a.ty b.ty = bndC 0 7 a b by unfold bndT; rw [okB_ty ha.1 ha.2, okB_ty hb.1 hb.2, tcOf_ty, tcOf_ty]; rfl] at M
  refine M.mono fun e w' ⟨V, h1, h2, h3⟩ => ?_
  obtain ⟨v, c, rfl, h4⟩ := h2
  exact ⟨_, _, v, c, h1, ⟨v, c, rfl, h4⟩, h3⟩
theorem TwoAt.next (w : World) (o : Obj) (t : TypeId) (x y : Value) : TwoAt ((w.alloc o).alloc (.cells #[x, y] t)) (w.heap.size + 1) t x y := by
  have h := TwoAt.new (w.alloc o) t x y
  simpa using h
def SRp (n : World) (A B : Nat) (ka kb : Int) (sa sb : Value) (w' : World) : Prop :=
  w'.cell? ⟨A, 0, none⟩ = some (.int .i64 ka) ∧ w'.cell? ⟨A, 1, none⟩ = some sa ∧ w'.cell? ⟨B, 0, none⟩ = some (.int .i64 kb) ∧ w'.cell? ⟨B, 1, none⟩ = some sb ∧ Below n.heap.size n w'
theorem SRp.of {n : World} {A B : Nat} {ka kb : Int} {sa sb : Value} (h : SRp n A B ka kb sa sb n) {w' : World} (hb : Below n.heap.size n w') : SRp n A B ka kb sa sb w' := by
  obtain ⟨a0, a1, b0, b1, _⟩ := h
  have zA := World.block_lt_of_cell? n _ a0
  have zB := World.block_lt_of_cell? n _ b0
  exact ⟨(hb.cell (p := ⟨A, 0, none⟩) zA).trans a0, (hb.cell (p := ⟨A, 1, none⟩) zA).trans a1, (hb.cell (p := ⟨B, 0, none⟩) zB).trans b0, (hb.cell (p := ⟨B, 1, none⟩) zB).trans b1, hb⟩
def SX (n : World) (A B C J M D : Nat) (ka kb kc kj km : Int) (sa sb sc sj sm : Value) (k : Int) (t : Bool) (i : Int) (s : ByteArray) (sl kl : Value) (w' : World) : Prop :=
  w'.cell? ⟨A, 0, none⟩ = some (.int .i64 ka) ∧ w'.cell? ⟨A, 1, none⟩ = some sa ∧ w'.cell? ⟨B, 0, none⟩ = some (.int .i64 kb) ∧ w'.cell? ⟨B, 1, none⟩ = some sb ∧ w'.cell? ⟨C, 0, none⟩ = some (.int .i64 kc) ∧ w'.cell? ⟨C, 1, none⟩ = some sc ∧ w'.cell? ⟨J, 0, none⟩ = some (.int .i64 kj) ∧ w'.cell? ⟨J, 1, none⟩ = some sj ∧ w'.cell? ⟨M, 0, none⟩ = some (.int .i64 km) ∧ w'.cell? ⟨M, 1, none⟩ = some sm ∧ w'.cell? ⟨D, 0, none⟩ = some (.int .i64 k) ∧ w'.cell? ⟨D, 1, none⟩ = some (.bool t) ∧ w'.cell? ⟨D, 2, none⟩ = some (.int .i64 i) ∧ w'.cell? ⟨D, 3, none⟩ = some (.string s) ∧ w'.cell? ⟨D, 4, none⟩ = some sl ∧ w'.cell? ⟨D, 5, none⟩ = some kl ∧ Below n.heap.size n w'
theorem SX.below {n : World} {A B C J M D : Nat} {ka kb kc kj km : Int} {sa sb sc sj sm : Value} {k : Int} {t : Bool} {i : Int} {s : ByteArray} {sl kl : Value} {w1 w2 : World} (h : SX n A B C J M D ka kb kc kj km sa sb sc sj sm k t i s sl kl w1) (hb : Below w1.heap.size w1 w2) : SX n A B C J M D ka kb kc kj km sa sb sc sj sm k t i s sl kl w2 := by
  obtain ⟨a0, a1, b0, b1, c0, c1, j0, j1, m0, m1, d0, d1, d2, d3, d4, d5, hs⟩ := h
  have zA := World.block_lt_of_cell? w1 _ a0
  have zB := World.block_lt_of_cell? w1 _ b0
  have zC := World.block_lt_of_cell? w1 _ c0
  have zJ := World.block_lt_of_cell? w1 _ j0
  have zM := World.block_lt_of_cell? w1 _ m0
  have zD := World.block_lt_of_cell? w1 _ d0
  exact ⟨(hb.cell (p := ⟨A, 0, none⟩) zA).trans a0, (hb.cell (p := ⟨A, 1, none⟩) zA).trans a1, (hb.cell (p := ⟨B, 0, none⟩) zB).trans b0, (hb.cell (p := ⟨B, 1, none⟩) zB).trans b1, (hb.cell (p := ⟨C, 0, none⟩) zC).trans c0, (hb.cell (p := ⟨C, 1, none⟩) zC).trans c1, (hb.cell (p := ⟨J, 0, none⟩) zJ).trans j0, (hb.cell (p := ⟨J, 1, none⟩) zJ).trans j1, (hb.cell (p := ⟨M, 0, none⟩) zM).trans m0, (hb.cell (p := ⟨M, 1, none⟩) zM).trans m1, (hb.cell (p := ⟨D, 0, none⟩) zD).trans d0, (hb.cell (p := ⟨D, 1, none⟩) zD).trans d1, (hb.cell (p := ⟨D, 2, none⟩) zD).trans d2, (hb.cell (p := ⟨D, 3, none⟩) zD).trans d3, (hb.cell (p := ⟨D, 4, none⟩) zD).trans d4, (hb.cell (p := ⟨D, 5, none⟩) zD).trans d5, hs.trans (hb.mono hs.size)⟩
theorem SX.bel {n : World} {A B C J M D : Nat} {ka kb kc kj km : Int} {sa sb sc sj sm : Value} {k : Int} {t : Bool} {i : Int} {s : ByteArray} {sl kl : Value} {w1 : World} (h : SX n A B C J M D ka kb kc kj km sa sb sc sj sm k t i s sl kl w1) : Below n.heap.size n w1 := h.2.2.2.2.2.2.2.2.2.2.2.2.2.2.2.2
theorem SX.drew {n : World} {A B C J M D : Nat} {ka kb kc kj km : Int} {sa sb sc sj sm : Value} {k : Int} {t : Bool} {i : Int} {s : ByteArray} {sl kl : Value} {w1 : World} (h : SX n A B C J M D ka kb kc kj km sa sb sc sj sm k t i s sl kl w1) : SX n A B C J M D ka kb kc kj km sa sb sc sj sm k t i s sl kl w1.drew := h.below (Below.refl _ _).drew
/-- Same, of chains that are one. -/
theorem sameE {a b : Tc} (e : a = b) (A B : Value) (w : World) (hA : IsC w A a) (hB : IsC w B b) : Calls Tryd.prog 15 #[A, B] w fun e w' => e = .returned (.bool true) ∧ Below w.heap.size w w' := by
  subst e
  have M := sameT_any a a A B w hA hB
  rwa [sameC_rfl] at M
theorem same_dec (a b : Tc) {q : Bool} (hq : q = true ↔ a = b) : sameC a b = q := by
  cases h : sameC a b
  · cases q
    · rfl
    · have := (sameC_iff a b).2 (hq.1 rfl)
      rw [this] at h
      cases h
  · exact (hq.2 ((sameC_iff a b).1 h)).symm
/-- The calls behind line 59. -/
theorem subs_all (a b c : Tc) (A B C J M : Value) (wc : World) (ga : a.ok ∧ a.deep ≤ 16) (gb : b.ok ∧ b.deep ≤ 16) (gc : c.ok ∧ c.deep ≤ 16) (gj : (bndC 7 0 a b).ok ∧ (bndC 7 0 a b).deep ≤ 16) (gm : (bndC 0 7 a b).ok ∧ (bndC 0 7 a b).deep ≤ 16)
    (PA : ∀ w', Below wc.heap.size wc w' → IsC w' A a) (PB : ∀ w', Below wc.heap.size wc w' → IsC w' B b) (PC : ∀ w', Below wc.heap.size wc w' → IsC w' C c) (PJ : ∀ w', Below wc.heap.size wc w' → IsC w' J (bndC 7 0 a b)) (PM : ∀ w', Below wc.heap.size wc w' → IsC w' M (bndC 0 7 a b)) :
    ∃ q1 q2 q3 q4 q5 : Bool, (q1 = true → q2 = true → q3 = true) ∧ (q1 = true → q4 = true → q5 = true) ∧ (∀ w', Below wc.heap.size wc w' → Calls Tryd.prog 19 #[A, B] w' fun e w'' => e = .returned (.bool q1) ∧ Below w'.heap.size w' w'') ∧ (∀ w', Below wc.heap.size wc w' → Calls Tryd.prog 19 #[B, C] w' fun e w'' => e = .returned (.bool q2) ∧ Below w'.heap.size w' w'') ∧ (∀ w', Below wc.heap.size wc w' → Calls Tryd.prog 19 #[A, C] w' fun e w'' => e = .returned (.bool q3) ∧ Below w'.heap.size w' w'') ∧ (∀ w', Below wc.heap.size wc w' → Calls Tryd.prog 19 #[B, A] w' fun e w'' => e = .returned (.bool q4) ∧ Below w'.heap.size w' w'') ∧ (∀ w', Below wc.heap.size wc w' → Calls Tryd.prog 19 #[A, J] w' fun e w'' => e = .returned (.bool true) ∧ Below w'.heap.size w' w'') ∧ (∀ w', Below wc.heap.size wc w' → Calls Tryd.prog 19 #[M, A] w' fun e w'' => e = .returned (.bool true) ∧ Below w'.heap.size w' w'') ∧ (∀ w', Below wc.heap.size wc w' → Calls Tryd.prog 15 #[J, B] w' fun e w'' => e = .returned (.bool q1) ∧ Below w'.heap.size w' w'') ∧ (∀ w', Below wc.heap.size wc w' → Calls Tryd.prog 15 #[M, A] w' fun e w'' => e = .returned (.bool q1) ∧ Below w'.heap.size w' w'') ∧ (∀ w', Below wc.heap.size wc w' → Calls Tryd.prog 15 #[A, B] w' fun e w'' => e = .returned (.bool q5) ∧ Below w'.heap.size w' w'') := by
  refine ⟨subC a b, subC b c, subC a c, subC b a, sameC a b, fun h k => subC_trans ga.1 gb.1 gc.1 h k, fun h k => (sameC_iff a b).2 (subC_anti ga.1 gb.1 h k), ?_, ?_, ?_, ?_, ?_, ?_, ?_, ?_, ?_⟩
  · exact fun w' h => subCC a b A B w' ga gb (PA w' h) (PB w' h)
  · exact fun w' h => subCC b c B C w' gb gc (PB w' h) (PC w' h)
  · exact fun w' h => subCC a c A C w' ga gc (PA w' h) (PC w' h)
  · exact fun w' h => subCC b a B A w' gb ga (PB w' h) (PA w' h)
  · intro w' h
    have X := subCC a (bndC 7 0 a b) A J w' ga gj (PA w' h) (PJ w' h)
    rw [subC_up ga.1 gb.1] at X
    exact X
  · intro w' h
    have X := subCC (bndC 0 7 a b) a M A w' gm ga (PM w' h) (PA w' h)
    rw [subC_down ga.1 gb.1] at X
    exact X
  · intro w' h
    have X := sameT_any (bndC 7 0 a b) b J B w' (PJ w' h) (PB w' h)
    rw [same_dec _ _ (subC_join a b ga.1 gb.1)] at X
    exact X
  · intro w' h
    have X := sameT_any (bndC 0 7 a b) a M A w' (PM w' h) (PA w' h)
    rw [same_dec _ _ (subC_meet a b ga.1 gb.1)] at X
    exact X
  · exact fun w' h => sameT_any a b A B w' (PA w' h) (PB w' h)
theorem fits_all (m ma : Nat) (V A : Value) (x : Vl) (y : Ty) (wc : World) (ta : Tc) (hE : errV 16 x = 0) (hF : errV 16 x = 0 → fitV m x y = subC (ofV m x) ta) (ga : ta.ok ∧ ta.deep ≤ 16)
    (HV : ∀ w', Below wc.heap.size wc w' → IsV m w' V x) (HT : ∀ w', Below wc.heap.size wc w' → TabT w') (HA : ∀ w', Below wc.heap.size wc w' → IsT ma w' A y) (PA : ∀ w', Below wc.heap.size wc w' → IsC w' A ta) :
    ∃ (f : Bool) (tv : Tc), (∀ w', Below wc.heap.size wc w' → Calls Tryd.prog 17 #[V, A] w' fun e w'' => e = .returned (.bool f) ∧ Below w'.heap.size w' w'') ∧ (∀ w', Below wc.heap.size wc w' → Calls Tryd.prog 14 #[V] w' fun e w'' => ∃ R, e = .returned R ∧ IsC w'' R tv ∧ Below w'.heap.size w' w'') ∧ (∀ R w', Below wc.heap.size wc w' → IsC w' R tv → Calls Tryd.prog 19 #[R, A] w' fun e w'' => e = .returned (.bool f) ∧ Below w'.heap.size w' w'') := by
  refine ⟨subC (ofV m x) ta, ofV m x, ?_, ?_, ?_⟩
  · intro w' h
    have X := Fits_any m ma V A x y w' (HV w' h) (HA w' h) (HT w' h)
    rw [hF hE] at X
    exact X
  · exact fun w' h => Of_any m V x w' (HV w' h) (HT w' h)
  · exact fun R w' h hC => subCC (ofV m x) ta R A w' (ofV_good m x) ga hC (PA w' h)
theorem three (W : World) (t : TypeId) (x0 x1 y0 y1 z0 z1 : Value) (n : Nat) (hn : n = W.heap.size) :
    TwoAt (((W.alloc (.cells #[x0, x1] t)).alloc (.cells #[y0, y1] t)).alloc (.cells #[z0, z1] t)).drew n t x0 x1 ∧ TwoAt (((W.alloc (.cells #[x0, x1] t)).alloc (.cells #[y0, y1] t)).alloc (.cells #[z0, z1] t)).drew (n + 1) t y0 y1 ∧
    TwoAt (((W.alloc (.cells #[x0, x1] t)).alloc (.cells #[y0, y1] t)).alloc (.cells #[z0, z1] t)).drew (n + 1 + 1) t z0 z1 := by
  subst hn
  have h1 := ((TwoAt.new W t x0 x1).alloc (.cells #[y0, y1] t)).alloc (.cells #[z0, z1] t)
  have h2 := (TwoAt.new (W.alloc (.cells #[x0, x1] t)) t y0 y1).alloc (.cells #[z0, z1] t)
  have h3 := TwoAt.new ((W.alloc (.cells #[x0, x1] t)).alloc (.cells #[y0, y1] t)) t z0 z1
  simp only [World.size_alloc] at h2 h3
  exact ⟨h1.drew, h2.drew, h3.drew⟩
/-- The boxes of a, b and c, and of v. -/
structure SV (w : World) (k : Int) (t : Bool) (i : Int) (s : ByteArray) (sl kl : Value) (w' : World) : Prop where
  v : V6 w' (w.heap.size + 1) k t i s sl kl
  b : Below w.heap.size w w'
def SL (w : World) (A B C : Nat) (ka kb kc : Int) (sa sb sc : Value) (k : Int) (t : Bool) (i : Int) (s : ByteArray) (sl kl : Value) (w' : World) : Prop :=
  w'.cell? ⟨A, 0, none⟩ = some (.int .i64 ka) ∧ w'.cell? ⟨A, 1, none⟩ = some sa ∧ w'.cell? ⟨B, 0, none⟩ = some (.int .i64 kb) ∧ w'.cell? ⟨B, 1, none⟩ = some sb ∧ w'.cell? ⟨C, 0, none⟩ = some (.int .i64 kc) ∧ w'.cell? ⟨C, 1, none⟩ = some sc ∧ SV w k t i s sl kl w'
theorem SV.below {w : World} {k : Int} {t : Bool} {i : Int} {s : ByteArray} {sl kl : Value} {w1 w2 : World} (h : SV w k t i s sl kl w1) (hb : Below w1.heap.size w1 w2) : SV w k t i s sl kl w2 := ⟨h.v.below h.v.1 hb, h.b.trans (hb.mono h.b.size)⟩
theorem SL.below {w : World} {A B C : Nat} {ka kb kc : Int} {sa sb sc : Value} {k : Int} {t : Bool} {i : Int} {s : ByteArray} {sl kl : Value} {w1 w2 : World} (h : SL w A B C ka kb kc sa sb sc k t i s sl kl w1) (hb : Below w1.heap.size w1 w2) : SL w A B C ka kb kc sa sb sc k t i s sl kl w2 := by
  obtain ⟨a0, a1, b0, b1, c0, c1, hs⟩ := h
  have zA := World.block_lt_of_cell? w1 _ a0
  have zB := World.block_lt_of_cell? w1 _ b0
  have zC := World.block_lt_of_cell? w1 _ c0
  exact ⟨(hb.cell (p := ⟨A, 0, none⟩) zA).trans a0, (hb.cell (p := ⟨A, 1, none⟩) zA).trans a1, (hb.cell (p := ⟨B, 0, none⟩) zB).trans b0, (hb.cell (p := ⟨B, 1, none⟩) zB).trans b1, (hb.cell (p := ⟨C, 0, none⟩) zC).trans c0, (hb.cell (p := ⟨C, 1, none⟩) zC).trans c1, hs.below hb⟩

set_option maxHeartbeats 8000000 in
set_option maxRecDepth 100000 in
theorem walk (ma mb mc : Nat) (a0 a1 b0 b1 c0 c1 : Value) (ya yb yc : Ty) (m : Nat) (V : Value) (x : Vl) (w : World) (hT : TabT w) (hA : IsT ma w (.agg #[a0, a1]) ya) (hB : IsT mb w (.agg #[b0, b1]) yb) (hC : IsT mc w (.agg #[c0, c1]) yc) (hV : IsV m w V x) :
    Calls Tryd.prog 6 #[.agg #[a0, a1, b0, b1, c0, c1], V] w fun e w' => e = .returned (.bool true) ∧ Below w.heap.size w w' := by
  have HT := Lib.hid hT
  have HA := Lib.hid hA
  have HB := Lib.hid hB
  have HC := Lib.hid hC
  have HV := Lib.hid hV
  obtain ⟨ka, la, aa, ac, rfl, eA, _⟩ := hA
  obtain ⟨kb, lb, ba, bc, rfl, eB, _⟩ := hB
  obtain ⟨kc, lc, ca, cc, rfl, eC, _⟩ := hC
  obtain ⟨k, t, i, s, l, ks, av, c, kv, kc', rfl, rfl, _⟩ := hV
  injection eA with eA
  injection eB with eB
  injection eC with eC
  simp only [Array.mk.injEq, List.cons.injEq, and_true] at eA eB eC
  obtain ⟨rfl, rfl⟩ := eA
  obtain ⟨rfl, rfl⟩ := eB
  obtain ⟨rfl, rfl⟩ := eC
  clear hT
  go_enter Tryd.func6, Tryd.ntmps6
  go_upto_region 1 with fail
  go_cut [5, 6, 7] (fun s5 s6 s7 wr => ∃ A B C : Nat, s5 = .pointer (some ⟨A, 0, none⟩) ∧ s6 = .pointer (some ⟨B, 0, none⟩) ∧ s7 = .pointer (some ⟨C, 0, none⟩) ∧ Hid (SL w A B C ka kb kc (.slice aa la.length ac) (.slice ba lb.length bc) (.slice ca lc.length cc) k t i s (.slice av l.length c) (.slice kv ks.length kc') wr))
  case first =>
    have VV := V6_new (w.alloc (.cells #[.int .i64 ka, .slice aa la.length ac, .int .i64 kb, .slice ba lb.length bc, .int .i64 kc, .slice ca lc.length cc] 38)) k t i s (.slice av l.length c) (.slice kv ks.length kc')
    simp only [World.size_alloc] at VV
    have VV := Lib.hid VV
    go_region
    all_goals
      go_wp2_with fail
      go_meet
      have hd : ∀ x0 x1 y0 y1 z0 z1 : Value, Below ((w.alloc (.cells #[.int .i64 ka, .slice aa la.length ac, .int .i64 kb, .slice ba lb.length bc, .int .i64 kc, .slice ca lc.length cc] 38)).alloc (.cells #[.int .i64 k, .bool t, .int .i64 i, .string s, .slice av l.length c, .slice kv ks.length kc'] 33)).heap.size ((w.alloc (.cells #[.int .i64 ka, .slice aa la.length ac, .int .i64 kb, .slice ba lb.length bc, .int .i64 kc, .slice ca lc.length cc] 38)).alloc (.cells #[.int .i64 k, .bool t, .int .i64 i, .string s, .slice av l.length c, .slice kv ks.length kc'] 33)) (((((w.alloc (.cells #[.int .i64 ka, .slice aa la.length ac, .int .i64 kb, .slice ba lb.length bc, .int .i64 kc, .slice ca lc.length cc] 38)).alloc (.cells #[.int .i64 k, .bool t, .int .i64 i, .string s, .slice av l.length c, .slice kv ks.length kc'] 33)).alloc (.cells #[x0, x1] 24)).alloc (.cells #[y0, y1] 24)).alloc (.cells #[z0, z1] 24)).drew := fun _ _ _ _ _ _ => ((((Below.refl _ _).alloc (Nat.le_refl _) _).alloc (by simp) _).alloc (by simp <;> omega) _).drew
      have TW : ∀ x0 x1 y0 y1 z0 z1 : Value, _ := fun x0 x1 y0 y1 z0 z1 => three ((w.alloc (.cells #[.int .i64 ka, .slice aa la.length ac, .int .i64 kb, .slice ba lb.length bc, .int .i64 kc, .slice ca lc.length cc] 38)).alloc (.cells #[.int .i64 k, .bool t, .int .i64 i, .string s, .slice av l.length c, .slice kv ks.length kc'] 33)) 24 x0 x1 y0 y1 z0 z1 (w.heap.size + 1 + 1) (by simp)
      have B0 : Below w.heap.size w ((w.alloc (.cells #[.int .i64 ka, .slice aa la.length ac, .int .i64 kb, .slice ba lb.length bc, .int .i64 kc, .slice ca lc.length cc] 38)).alloc (.cells #[.int .i64 k, .bool t, .int .i64 i, .string s, .slice av l.length c, .slice kv ks.length kc'] 33)) := ((Below.refl _ _).alloc (Nat.le_refl _) _).alloc (by simp) _
      have V2 := fun x0 x1 y0 y1 z0 z1 => VV.out.below VV.out.1 (hd x0 x1 y0 y1 z0 z1)
      have B2 := fun x0 x1 y0 y1 z0 z1 => B0.trans ((hd x0 x1 y0 y1 z0 z1).mono B0.size)
      refine ⟨_, _, _, rfl, rfl, rfl, Lib.hid ⟨?_, ?_, ?_, ?_, ?_, ?_, V2 _ _ _ _ _ _, B2 _ _ _ _ _ _⟩⟩
      all_goals first
        | exact (TW _ _ _ _ _ _).1.cell0
        | exact (TW _ _ _ _ _ _).1.cell1
        | exact (TW _ _ _ _ _ _).2.1.cell0
        | exact (TW _ _ _ _ _ _).2.1.cell1
        | exact (TW _ _ _ _ _ _).2.2.cell0
        | exact (TW _ _ _ _ _ _).2.2.cell1
  case rest =>
    obtain ⟨A, B, C, rfl, rfl, rfl, HS⟩ := hcut
    have PA := Lib.hid (fun w' (h : SL w A B C ka kb kc (.slice aa la.length ac) (.slice ba lb.length bc) (.slice ca lc.length cc) k t i s (.slice av l.length c) (.slice kv ks.length kc') w') => refValidT_any ma _ _ w' (HA.out.below h.2.2.2.2.2.2.b))
    have PB := Lib.hid (fun w' (h : SL w A B C ka kb kc (.slice aa la.length ac) (.slice ba lb.length bc) (.slice ca lc.length cc) k t i s (.slice av l.length c) (.slice kv ks.length kc') w') => refValidT_any mb _ _ w' (HB.out.below h.2.2.2.2.2.2.b))
    have PC := Lib.hid (fun w' (h : SL w A B C ka kb kc (.slice aa la.length ac) (.slice ba lb.length bc) (.slice ca lc.length cc) k t i s (.slice av l.length c) (.slice kv ks.length kc') w') => refValidT_any mc _ _ w' (HC.out.below h.2.2.2.2.2.2.b))
    have hs0 : SL w A B C ka kb kc (.slice aa la.length ac) (.slice ba lb.length bc) (.slice ca lc.length cc) k t i s (.slice av l.length c) (.slice kv ks.length kc') wc := HS.out
    obtain ⟨a0, a1, b0, b1, c0, c1, -⟩ := id hs0
    have AW := Lib.hid (fun w' (h : Below w.heap.size w w') => awake_any w' (HT.out.below h))
    by_cases qa : okB (Ty.mk ka la) = true
    · have za := natI0 (n := chkT 16 (Ty.mk ka la)) (by simpa [okB] using qa)
      by_cases qb : okB (Ty.mk kb lb) = true
      · have zb := natI0 (n := chkT 16 (Ty.mk kb lb)) (by simpa [okB] using qb)
        by_cases qc : okB (Ty.mk kc lc) = true
        · have zc := natI0 (n := chkT 16 (Ty.mk kc lc)) (by simpa [okB] using qc)
          generalize chkT 16 (Ty.mk ka la) = na at *
          generalize chkT 16 (Ty.mk kb lb) = nb at *
          generalize chkT 16 (Ty.mk kc lc) = nc at *
          obtain ⟨-, za⟩ := za
          obtain ⟨-, zb⟩ := zb
          obtain ⟨-, zc⟩ := zc
          go_wp2_with fail
          go_fit (PA.out _ hs0)
          rintro e w1 ⟨rfl, hb1⟩
          have hs1 := hs0.below hb1
          clear a0 a1 b0 b1 c0 c1 hb1
          obtain ⟨a0, a1, b0, b1, c0, c1, -⟩ := id hs1
          go_wp2_with fail
          go_fit (PB.out _ hs1)
          rintro e w2 ⟨rfl, hb2⟩
          have hs2 := hs1.below hb2
          clear a0 a1 b0 b1 c0 c1 hb2
          obtain ⟨a0, a1, b0, b1, c0, c1, -⟩ := id hs2
          go_wp2_with fail
          go_fit (PC.out _ hs2)
          rintro e w3 ⟨rfl, hb3⟩
          have hs3 := hs2.below hb3
          clear a0 a1 b0 b1 c0 c1 hb3
          obtain ⟨a0, a1, b0, b1, c0, c1, -⟩ := id hs3
          have JN := Lib.hid (fun w' (h : Below w3.heap.size w3 w') => joinS (tcOf (Ty.mk ka la)) (tcOf (Ty.mk kb lb)) (.agg #[.int .i64 ka, .slice aa la.length ac]) (.agg #[.int .i64 kb, .slice ba lb.length bc]) w' (okB_good qa) (okB_good qb) ((isC_ok (HA.out.below hs3.2.2.2.2.2.2.b) qa).below h) ((isC_ok (HB.out.below hs3.2.2.2.2.2.2.b) qb).below h))
          have MN := Lib.hid (fun w' (h : Below w3.heap.size w3 w') => meetS (tcOf (Ty.mk ka la)) (tcOf (Ty.mk kb lb)) (.agg #[.int .i64 ka, .slice aa la.length ac]) (.agg #[.int .i64 kb, .slice ba lb.length bc]) w' (okB_good qa) (okB_good qb) ((isC_ok (HA.out.below hs3.2.2.2.2.2.2.b) qa).below h) ((isC_ok (HB.out.below hs3.2.2.2.2.2.2.b) qb).below h))
          have GA := Lib.hid (okB_good qa)
          have GB := Lib.hid (okB_good qb)
          have GC := Lib.hid (okB_good qc)
          have CA := Lib.hid (isC_ok (HA.out.below hs3.2.2.2.2.2.2.b) qa)
          have CB := Lib.hid (isC_ok (HB.out.below hs3.2.2.2.2.2.2.b) qb)
          have CC := Lib.hid (isC_ok (HC.out.below hs3.2.2.2.2.2.2.b) qc)
          have HEF := Lib.hid (show errV 16 (Vl.mk k t i s l ks) = 0 → fitV m (Vl.mk k t i s l ks) (Ty.mk ka la) = subC (ofV m (Vl.mk k t i s l ks)) (tcOf (Ty.mk ka la)) from fun h => by
            unfold fitV ofV
            rw [if_pos h, decide_eq_true h, qa]
            rfl)
          clear qa qb qc PA PB PC hs0 hs1 hs2 HS
          generalize tcOf (Ty.mk ka la) = ta at *
          generalize tcOf (Ty.mk kb lb) = tb at *
          generalize tcOf (Ty.mk kc lc) = tc at *
          go_wp2_with fail
          go_cut [8, 9] (fun s8 s9 wx => ∃ (J M : Nat) (kj : Int) (nj : Nat) (km : Int) (nm : Nat) (vj vm : Option Addr) (cj cm : Nat), s8 = .pointer (some ⟨J, 0, none⟩) ∧ s9 = .pointer (some ⟨M, 0, none⟩) ∧ Hid (TwoAt wx J 24 (.int .i64 kj) (.slice vj nj cj)) ∧ Hid (TwoAt wx M 24 (.int .i64 km) (.slice vm nm cm)) ∧ Hid (IsC wx (.agg #[.int .i64 kj, .slice vj nj cj]) (bndC 7 0 ta tb)) ∧ Hid (IsC wx (.agg #[.int .i64 km, .slice vm nm cm]) (bndC 0 7 ta tb)) ∧ Hid (Below w3.heap.size w3 wx))
          case first => as_aux_lemma =>
            have bx0 : Below w3.heap.size w3 w3.drew := (Below.refl _ _).drew
            have sx0 := hs3.below bx0
            obtain ⟨f0a, f0b, f0c, f0d, -⟩ := id sx0
            have BX0 := Lib.hid bx0
            have bx1 : Below w3.heap.size w3 (w3.alloc (.cells #[.int .i64 0, .slice none 0 0] 24)).drew := ((Below.refl _ _).alloc (Nat.le_refl _) _).drew
            have sx1 := hs3.below bx1
            obtain ⟨f1a, f1b, f1c, f1d, -⟩ := id sx1
            have BX1 := Lib.hid bx1
            have bx2 : Below w3.heap.size w3 ((w3.alloc (.cells #[.int .i64 0, .slice none 0 0] 24)).alloc (.cells #[.int .i64 0, .slice none 0 0] 24)).drew := (((Below.refl _ _).alloc (Nat.le_refl _) _).alloc (by simp) _).drew
            have sx2 := hs3.below bx2
            obtain ⟨f2a, f2b, f2c, f2d, -⟩ := id sx2
            have BX2 := Lib.hid bx2
            have Z1 := Lib.hid ((TwoAt.new w3 24 (.int .i64 0) (.slice none 0 0)).drew)
            have Z2 := Lib.hid (((TwoAt.new w3 24 (.int .i64 0) (.slice none 0 0)).alloc (.cells #[.int .i64 0, .slice none 0 0] 24)).drew)
            have Z3 := Lib.hid (show TwoAt ((w3.alloc (.cells #[.int .i64 0, .slice none 0 0] 24)).alloc (.cells #[.int .i64 0, .slice none 0 0] 24)).drew (w3.heap.size + 1) 24 (.int .i64 0) (.slice none 0 0) from by
              have h := (TwoAt.new (w3.alloc (.cells #[.int .i64 0, .slice none 0 0] 24)) 24 (.int .i64 0) (.slice none 0 0)).drew
              simpa using h)
            have HS3 := Lib.hid hs3
            clear sx0 sx1 sx2 bx0 bx1 bx2 a0 a1 b0 b1 c0 c1
            have H0 := Lib.hid (show SRp w3 A B ka kb (.slice aa la.length ac) (.slice ba lb.length bc) w3 from ⟨HS3.out.1, HS3.out.2.1, HS3.out.2.2.1, HS3.out.2.2.2.1, Below.refl _ _⟩)
            clear f0a f0b f0c f0d f1a f1b f1c f1d f2a f2b f2c f2d
            go_region_held3 (fun w' => w'.cell? ⟨A, 0, none⟩ = some (.int .i64 ka) ∧ w'.cell? ⟨A, 1, none⟩ = some (.slice aa la.length ac) ∧ w'.cell? ⟨B, 0, none⟩ = some (.int .i64 kb) ∧ w'.cell? ⟨B, 1, none⟩ = some (.slice ba lb.length bc) ∧ Below w3.heap.size w3 w') ((refine SRp.of H0.out ?_; (repeat (first | exact BX0.out | exact BX1.out | exact BX2.out | exact BB4.out | exact BB5.out | (refine Below.alloc ?_ (by first | (simp; done) | (simp; omega) | omega) _) | (refine Below.setCell ?_ (by first | (simp; done) | (simp; omega) | omega) _))))) (first
              | (go_at_call 21; go_fit (JN.out _ BX0.out); rintro e w4 ⟨k4, n4, v4, c4, rfl, hC4, hb4⟩; have BB4 := Lib.hid (BX0.out.trans (hb4.mono BX0.out.size)); have hz34 := BB4.out.size)
              | (go_at_call 21; go_fit (JN.out _ BX1.out); rintro e w4 ⟨k4, n4, v4, c4, rfl, hC4, hb4⟩; have BB4 := Lib.hid (BX1.out.trans (hb4.mono BX1.out.size)); have hz34 := BB4.out.size; have za := Z1.out.below hb4; have zan := Nat.ne_of_lt za.lt; have zan2 := Nat.ne_of_gt za.lt)
              | (go_at_call 21; go_fit (JN.out _ BX2.out); rintro e w4 ⟨k4, n4, v4, c4, rfl, hC4, hb4⟩; have BB4 := Lib.hid (BX2.out.trans (hb4.mono BX2.out.size)); have hz34 := BB4.out.size; have za := Z2.out.below hb4; have zb := Z3.out.below hb4; have zan := Nat.ne_of_lt za.lt; have zan2 := Nat.ne_of_gt za.lt; have zbn := Nat.ne_of_lt zb.lt; have zbn2 := Nat.ne_of_gt zb.lt)
              | (go_at_call 23; go_fit (MN.out w4 (BB4.out.trans ((show Below w4.heap.size w4 w4 from (Below.refl _ _)).mono BB4.out.size))); rintro e w5 ⟨k5, n5, v5, c5, rfl, hC5, hb5⟩; have hb45 := Lib.hid ((show Below w4.heap.size w4 w4 from (Below.refl _ _)).trans (hb5.mono ((show Below w4.heap.size w4 w4 from (Below.refl _ _)).size))); have BB5 := Lib.hid ((BB4.out.trans ((show Below w4.heap.size w4 w4 from (Below.refl _ _)).mono BB4.out.size)).trans (hb5.mono (BB4.out.trans ((show Below w4.heap.size w4 w4 from (Below.refl _ _)).mono BB4.out.size)).size)); have hz45 := hb45.out.size; (try (have ya := za.below hb5; have ya0 := ya.cell0; have ya1 := ya.cell1; have yaf0 := ya.frozen 0; have yaf1 := ya.frozen 1; have yaa0 := fun o => (ya.alloc o).cell0; have yaa1 := fun o => (ya.alloc o).cell1; have yaaf0 := fun o => (ya.alloc o).frozen 0; have yaaf1 := fun o => (ya.alloc o).frozen 1; have yan1 := Nat.ne_of_lt ya.lt; have yan2 := Nat.ne_of_gt ya.lt)); (try (have yb := zb.below hb5; have yb0 := yb.cell0; have yb1 := yb.cell1; have ybf0 := yb.frozen 0; have ybf1 := yb.frozen 1; have yba0 := fun o => (yb.alloc o).cell0; have yba1 := fun o => (yb.alloc o).cell1; have ybaf0 := fun o => (yb.alloc o).frozen 0; have ybaf1 := fun o => (yb.alloc o).frozen 1; have ybn1 := Nat.ne_of_lt yb.lt; have ybn2 := Nat.ne_of_gt yb.lt)))
              | (go_at_call 23; go_fit (MN.out (w4.alloc (.cells #[.int .i64 0, .slice none 0 0] 24)) (BB4.out.trans ((show Below w4.heap.size w4 (w4.alloc (.cells #[.int .i64 0, .slice none 0 0] 24)) from ((Below.refl _ _).alloc (Nat.le_refl _) _)).mono BB4.out.size))); rintro e w5 ⟨k5, n5, v5, c5, rfl, hC5, hb5⟩; have hb45 := Lib.hid ((show Below w4.heap.size w4 (w4.alloc (.cells #[.int .i64 0, .slice none 0 0] 24)) from ((Below.refl _ _).alloc (Nat.le_refl _) _)).trans (hb5.mono ((show Below w4.heap.size w4 (w4.alloc (.cells #[.int .i64 0, .slice none 0 0] 24)) from ((Below.refl _ _).alloc (Nat.le_refl _) _)).size))); have BB5 := Lib.hid ((BB4.out.trans ((show Below w4.heap.size w4 (w4.alloc (.cells #[.int .i64 0, .slice none 0 0] 24)) from ((Below.refl _ _).alloc (Nat.le_refl _) _)).mono BB4.out.size)).trans (hb5.mono (BB4.out.trans ((show Below w4.heap.size w4 (w4.alloc (.cells #[.int .i64 0, .slice none 0 0] 24)) from ((Below.refl _ _).alloc (Nat.le_refl _) _)).mono BB4.out.size)).size)); have hz45 := hb45.out.size; have yc := (TwoAt.new w4 24 (.int .i64 0) (.slice none 0 0)).below hb5; have yc0 := yc.cell0; have yc1 := yc.cell1; have ycf0 := yc.frozen 0; have ycf1 := yc.frozen 1; have yca0 := fun o => (yc.alloc o).cell0; have yca1 := fun o => (yc.alloc o).cell1; have ycaf0 := fun o => (yc.alloc o).frozen 0; have ycaf1 := fun o => (yc.alloc o).frozen 1; have ycn1 := Nat.ne_of_lt yc.lt; have ycn2 := Nat.ne_of_gt yc.lt; (try (have ya := (za.alloc (.cells #[.int .i64 0, .slice none 0 0] 24)).below hb5; have ya0 := ya.cell0; have ya1 := ya.cell1; have yaf0 := ya.frozen 0; have yaf1 := ya.frozen 1; have yaa0 := fun o => (ya.alloc o).cell0; have yaa1 := fun o => (ya.alloc o).cell1; have yaaf0 := fun o => (ya.alloc o).frozen 0; have yaaf1 := fun o => (ya.alloc o).frozen 1; have yan1 := Nat.ne_of_lt ya.lt; have yan2 := Nat.ne_of_gt ya.lt)))
              | (go_at_call 23; go_fit (MN.out ((w4.alloc (.cells #[.int .i64 0, .slice none 0 0] 24)).alloc (.cells #[.int .i64 0, .slice none 0 0] 24)) (BB4.out.trans ((show Below w4.heap.size w4 ((w4.alloc (.cells #[.int .i64 0, .slice none 0 0] 24)).alloc (.cells #[.int .i64 0, .slice none 0 0] 24)) from (((Below.refl _ _).alloc (Nat.le_refl _) _).alloc (by simp) _)).mono BB4.out.size))); rintro e w5 ⟨k5, n5, v5, c5, rfl, hC5, hb5⟩; have hb45 := Lib.hid ((show Below w4.heap.size w4 ((w4.alloc (.cells #[.int .i64 0, .slice none 0 0] 24)).alloc (.cells #[.int .i64 0, .slice none 0 0] 24)) from (((Below.refl _ _).alloc (Nat.le_refl _) _).alloc (by simp) _)).trans (hb5.mono ((show Below w4.heap.size w4 ((w4.alloc (.cells #[.int .i64 0, .slice none 0 0] 24)).alloc (.cells #[.int .i64 0, .slice none 0 0] 24)) from (((Below.refl _ _).alloc (Nat.le_refl _) _).alloc (by simp) _)).size))); have BB5 := Lib.hid ((BB4.out.trans ((show Below w4.heap.size w4 ((w4.alloc (.cells #[.int .i64 0, .slice none 0 0] 24)).alloc (.cells #[.int .i64 0, .slice none 0 0] 24)) from (((Below.refl _ _).alloc (Nat.le_refl _) _).alloc (by simp) _)).mono BB4.out.size)).trans (hb5.mono (BB4.out.trans ((show Below w4.heap.size w4 ((w4.alloc (.cells #[.int .i64 0, .slice none 0 0] 24)).alloc (.cells #[.int .i64 0, .slice none 0 0] 24)) from (((Below.refl _ _).alloc (Nat.le_refl _) _).alloc (by simp) _)).mono BB4.out.size)).size)); have hz45 := hb45.out.size; have yc := ((TwoAt.new w4 24 (.int .i64 0) (.slice none 0 0)).alloc (.cells #[.int .i64 0, .slice none 0 0] 24)).below hb5; have yc0 := yc.cell0; have yc1 := yc.cell1; have ycf0 := yc.frozen 0; have ycf1 := yc.frozen 1; have yca0 := fun o => (yc.alloc o).cell0; have yca1 := fun o => (yc.alloc o).cell1; have ycaf0 := fun o => (yc.alloc o).frozen 0; have ycaf1 := fun o => (yc.alloc o).frozen 1; have ycn1 := Nat.ne_of_lt yc.lt; have ycn2 := Nat.ne_of_gt yc.lt; have yd := (TwoAt.next w4 (.cells #[.int .i64 0, .slice none 0 0] 24) 24 (.int .i64 0) (.slice none 0 0)).below hb5; have yd0 := yd.cell0; have yd1 := yd.cell1; have ydf0 := yd.frozen 0; have ydf1 := yd.frozen 1; have yda0 := fun o => (yd.alloc o).cell0; have yda1 := fun o => (yd.alloc o).cell1; have ydaf0 := fun o => (yd.alloc o).frozen 0; have ydaf1 := fun o => (yd.alloc o).frozen 1; have ydn1 := Nat.ne_of_lt yd.lt; have ydn2 := Nat.ne_of_gt yd.lt))
            all_goals
              go_wp2_with fail
              go_meet
              clear AW HA HB HC HV HT GA GB GC CA CB CC HS3 H0 hs3
              refine ⟨_, _, k4, n4, k5, n5, v4, v5, c4, c5, rfl, rfl, Lib.hid ?_, Lib.hid ?_, Lib.hid (IsP.keep hC4 ?_), Lib.hid (IsP.keep hC5 ?_), Lib.hid ?_⟩
              · (repeat (first | with_reducible exact ya | with_reducible exact yb | with_reducible exact yc | with_reducible exact yd | with_reducible exact TwoAt.new _ _ _ _ | with_reducible exact TwoAt.next _ _ _ _ _ | with_reducible (apply TwoAt.set1) | with_reducible (apply TwoAt.set0) | (with_reducible (apply TwoAt.other (hc := ?hne)); case hne => (first | assumption | (simp; done) | (simp; omega) | omega)) | with_reducible (apply TwoAt.alloc)))
              · (repeat (first | with_reducible exact ya | with_reducible exact yb | with_reducible exact yc | with_reducible exact yd | with_reducible exact TwoAt.new _ _ _ _ | with_reducible exact TwoAt.next _ _ _ _ _ | with_reducible (apply TwoAt.set1) | with_reducible (apply TwoAt.set0) | (with_reducible (apply TwoAt.other (hc := ?hne)); case hne => (first | assumption | (simp; done) | (simp; omega) | omega)) | with_reducible (apply TwoAt.alloc)))
              · (repeat (first | with_reducible exact KeepN.of_below hb45.out | with_reducible exact KeepN.refl _ _ _ | (with_reducible (refine KeepN.set ?_ ?hps _); case hps => (first | (simp; done) | (simp; omega) | omega)) | (with_reducible (refine KeepN.alloc ?_ ?hpa _); case hpa => (first | (simp; done) | (simp; omega) | omega))))
              · (repeat (first | with_reducible exact KeepN.of_below hb45.out | with_reducible exact KeepN.refl _ _ _ | (with_reducible (refine KeepN.set ?_ ?hps _); case hps => (first | (simp; done) | (simp; omega) | omega)) | (with_reducible (refine KeepN.alloc ?_ ?hpa _); case hpa => (first | (simp; done) | (simp; omega) | omega))))
              · (repeat (first | with_reducible exact BB5.out | (with_reducible (refine Below.setCell ?_ ?hps _); case hps => (first | (simp; done) | (simp; omega) | omega)) | (with_reducible (refine Below.alloc ?_ ?hpa _); case hpa => (first | (simp; done) | (simp; omega) | omega))))
          case rest =>
            obtain ⟨J, M, kj, nj, km, nm, vj, vm, cj, cm, rfl, rfl, TJ, TM, HJ, HM, HBc⟩ := hcut
            have B3c := Lib.hid (hs3.2.2.2.2.2.2.b.trans (HBc.out.mono hs3.2.2.2.2.2.2.b.size))
            have hs4 := hs3.below HBc.out
            have hx0 : SX wc A B C J M (w.heap.size + 1) ka kb kc kj km (.slice aa la.length ac) (.slice ba lb.length bc) (.slice ca lc.length cc) (.slice vj nj cj) (.slice vm nm cm) k t i s (.slice av l.length c) (.slice kv ks.length kc') wc := ⟨hs4.1, hs4.2.1, hs4.2.2.1, hs4.2.2.2.1, hs4.2.2.2.2.1, hs4.2.2.2.2.2.1, TJ.out.cell0, TJ.out.cell1, TM.out.cell0, TM.out.cell1, hs4.2.2.2.2.2.2.v.2.1, hs4.2.2.2.2.2.2.v.2.2.1, hs4.2.2.2.2.2.2.v.2.2.2.1, hs4.2.2.2.2.2.2.v.2.2.2.2.1, hs4.2.2.2.2.2.2.v.2.2.2.2.2.1, hs4.2.2.2.2.2.2.v.2.2.2.2.2.2, Below.refl _ _⟩
            have PA := Lib.hid (fun w' (h : Below wc.heap.size wc w') => (CA.out.below HBc.out).below h)
            have PB := Lib.hid (fun w' (h : Below wc.heap.size wc w') => (CB.out.below HBc.out).below h)
            have PC := Lib.hid (fun w' (h : Below wc.heap.size wc w') => (CC.out.below HBc.out).below h)
            have PJ := Lib.hid (fun w' (h : Below wc.heap.size wc w') => HJ.out.below h)
            have PM := Lib.hid (fun w' (h : Below wc.heap.size wc w') => HM.out.below h)
            have GJ := Lib.hid (joinG GA.out GB.out)
            have GM := Lib.hid (meetG GA.out GB.out)
            have GJ2 := Lib.hid (joinG GB.out GC.out)
            have GM2 := Lib.hid (meetG GB.out GC.out)
            have AWc := Lib.hid (fun w' (h : Below wc.heap.size wc w') => AW.out w' (B3c.out.trans (h.mono B3c.out.size)))
            have HVc := Lib.hid (fun w' (h : Below wc.heap.size wc w') => HV.out.below (B3c.out.trans (h.mono B3c.out.size)))
            have HTc := Lib.hid (fun w' (h : Below wc.heap.size wc w') => HT.out.below (B3c.out.trans (h.mono B3c.out.size)))
            have HAc := Lib.hid (fun w' (h : Below wc.heap.size wc w') => HA.out.below (B3c.out.trans (h.mono B3c.out.size)))
            clear hs3 hs4 a0 a1 b0 b1 c0 c1 za zb zc JN MN CA CB CC HA HB HC HV HT AW TJ TM HJ HM HBc
            go_wp2_with fail
            go_region_held3 (fun w' => w'.cell? ⟨A, 0, none⟩ = some (.int .i64 ka) ∧ w'.cell? ⟨A, 1, none⟩ = some (.slice aa la.length ac) ∧ w'.cell? ⟨B, 0, none⟩ = some (.int .i64 kb) ∧ w'.cell? ⟨B, 1, none⟩ = some (.slice ba lb.length bc) ∧ w'.cell? ⟨C, 0, none⟩ = some (.int .i64 kc) ∧ w'.cell? ⟨C, 1, none⟩ = some (.slice ca lc.length cc) ∧ w'.cell? ⟨J, 0, none⟩ = some (.int .i64 kj) ∧ w'.cell? ⟨J, 1, none⟩ = some (.slice vj nj cj) ∧ w'.cell? ⟨M, 0, none⟩ = some (.int .i64 km) ∧ w'.cell? ⟨M, 1, none⟩ = some (.slice vm nm cm) ∧ w'.cell? ⟨w.heap.size + 1, 0, none⟩ = some (.int .i64 k) ∧ w'.cell? ⟨w.heap.size + 1, 1, none⟩ = some (.bool t) ∧ w'.cell? ⟨w.heap.size + 1, 2, none⟩ = some (.int .i64 i) ∧ w'.cell? ⟨w.heap.size + 1, 3, none⟩ = some (.string s) ∧ w'.cell? ⟨w.heap.size + 1, 4, none⟩ = some (.slice av l.length c) ∧ w'.cell? ⟨w.heap.size + 1, 5, none⟩ = some (.slice kv ks.length kc') ∧ Below wc.heap.size wc w') (first | exact hx0.drew | exact SX.below (by assumption) (by assumption)) (first
              | (go_at_call 21; (go_fit (joinS tb ta (.agg #[.int .i64 kb, .slice ba lb.length bc]) (.agg #[.int .i64 ka, .slice aa la.length ac]) _ GB.out GA.out (PB.out _ (SX.bel (by assumption))) (PA.out _ (SX.bel (by assumption)))); rintro e w5 ⟨k5, n5, v5, c5, rfl, hC5, hb5⟩))
              | (go_at_call 15; first | (go_fit (sameE (bndC_comm ta tb) _ _ _ (PJ.out _ (SX.bel (by assumption))) hC5.toC); rintro e w6 ⟨rfl, hb6⟩) | (go_fit (sameE (bndC_comm ta tb) _ _ _ (PM.out _ (SX.bel (by assumption))) hC7.toC); rintro e w8 ⟨rfl, hb8⟩))
              | (go_at_call 23; (go_fit (meetS tb ta (.agg #[.int .i64 kb, .slice ba lb.length bc]) (.agg #[.int .i64 ka, .slice aa la.length ac]) _ GB.out GA.out (PB.out _ (SX.bel (by assumption))) (PA.out _ (SX.bel (by assumption)))); rintro e w7 ⟨k7, n7, v7, c7, rfl, hC7, hb7⟩)))
            have hx1 : SX wc A B C J M (w.heap.size + 1) ka kb kc kj km (.slice aa la.length ac) (.slice ba lb.length bc) (.slice ca lc.length cc) (.slice vj nj cj) (.slice vm nm cm) k t i s (.slice av l.length c) (.slice kv ks.length kc') w8 := by assumption
            clear hx0
            go_wp2_with fail
            go_region_held3 (fun w' => w'.cell? ⟨A, 0, none⟩ = some (.int .i64 ka) ∧ w'.cell? ⟨A, 1, none⟩ = some (.slice aa la.length ac) ∧ w'.cell? ⟨B, 0, none⟩ = some (.int .i64 kb) ∧ w'.cell? ⟨B, 1, none⟩ = some (.slice ba lb.length bc) ∧ w'.cell? ⟨C, 0, none⟩ = some (.int .i64 kc) ∧ w'.cell? ⟨C, 1, none⟩ = some (.slice ca lc.length cc) ∧ w'.cell? ⟨J, 0, none⟩ = some (.int .i64 kj) ∧ w'.cell? ⟨J, 1, none⟩ = some (.slice vj nj cj) ∧ w'.cell? ⟨M, 0, none⟩ = some (.int .i64 km) ∧ w'.cell? ⟨M, 1, none⟩ = some (.slice vm nm cm) ∧ w'.cell? ⟨w.heap.size + 1, 0, none⟩ = some (.int .i64 k) ∧ w'.cell? ⟨w.heap.size + 1, 1, none⟩ = some (.bool t) ∧ w'.cell? ⟨w.heap.size + 1, 2, none⟩ = some (.int .i64 i) ∧ w'.cell? ⟨w.heap.size + 1, 3, none⟩ = some (.string s) ∧ w'.cell? ⟨w.heap.size + 1, 4, none⟩ = some (.slice av l.length c) ∧ w'.cell? ⟨w.heap.size + 1, 5, none⟩ = some (.slice kv ks.length kc') ∧ Below wc.heap.size wc w') (first | exact hx1.drew | exact SX.below (by assumption) (by assumption)) (first
              | (go_at_call 21; first | (go_fit (joinS (bndC 7 0 ta tb) tc (.agg #[.int .i64 kj, .slice vj nj cj]) (.agg #[.int .i64 kc, .slice ca lc.length cc]) _ GJ.out GC.out (PJ.out _ (SX.bel (by assumption))) (PC.out _ (SX.bel (by assumption)))); rintro e w10 ⟨k10, n10, v10, c10, rfl, hC10, hb10⟩) | (go_fit (joinS tb tc (.agg #[.int .i64 kb, .slice ba lb.length bc]) (.agg #[.int .i64 kc, .slice ca lc.length cc]) _ GB.out GC.out (PB.out _ (SX.bel (by assumption))) (PC.out _ (SX.bel (by assumption)))); rintro e w11 ⟨k11, n11, v11, c11, rfl, hC11, hb11⟩) | (go_fit (joinS ta (bndC 7 0 tb tc) (.agg #[.int .i64 ka, .slice aa la.length ac]) _ _ GA.out GJ2.out (PA.out _ (SX.bel (by assumption))) hC11.toC); rintro e w12 ⟨k12, n12, v12, c12, rfl, hC12, hb12⟩))
              | (go_at_call 15; first | (go_fit (sameE (bndC_assoc h07 ta tb tc) _ _ _ ((hC10.toC.below hb11).below hb12) hC12.toC); rintro e w13 ⟨rfl, hb13⟩) | (go_fit (sameE (bndC_assoc h70 ta tb tc) _ _ _ ((hC14.toC.below hb15).below hb16) hC16.toC); rintro e w17 ⟨rfl, hb17⟩))
              | (go_at_call 23; first | (go_fit (meetS (bndC 0 7 ta tb) tc (.agg #[.int .i64 km, .slice vm nm cm]) (.agg #[.int .i64 kc, .slice ca lc.length cc]) _ GM.out GC.out (PM.out _ (SX.bel (by assumption))) (PC.out _ (SX.bel (by assumption)))); rintro e w14 ⟨k14, n14, v14, c14, rfl, hC14, hb14⟩) | (go_fit (meetS tb tc (.agg #[.int .i64 kb, .slice ba lb.length bc]) (.agg #[.int .i64 kc, .slice ca lc.length cc]) _ GB.out GC.out (PB.out _ (SX.bel (by assumption))) (PC.out _ (SX.bel (by assumption)))); rintro e w15 ⟨k15, n15, v15, c15, rfl, hC15, hb15⟩) | (go_fit (meetS ta (bndC 0 7 tb tc) (.agg #[.int .i64 ka, .slice aa la.length ac]) _ _ GA.out GM2.out (PA.out _ (SX.bel (by assumption))) hC15.toC); rintro e w16 ⟨k16, n16, v16, c16, rfl, hC16, hb16⟩)))
            have hx2 : SX wc A B C J M (w.heap.size + 1) ka kb kc kj km (.slice aa la.length ac) (.slice ba lb.length bc) (.slice ca lc.length cc) (.slice vj nj cj) (.slice vm nm cm) k t i s (.slice av l.length c) (.slice kv ks.length kc') w17 := by assumption
            clear hx1
            go_wp2_with fail
            go_region_held3 (fun w' => w'.cell? ⟨A, 0, none⟩ = some (.int .i64 ka) ∧ w'.cell? ⟨A, 1, none⟩ = some (.slice aa la.length ac) ∧ w'.cell? ⟨B, 0, none⟩ = some (.int .i64 kb) ∧ w'.cell? ⟨B, 1, none⟩ = some (.slice ba lb.length bc) ∧ w'.cell? ⟨C, 0, none⟩ = some (.int .i64 kc) ∧ w'.cell? ⟨C, 1, none⟩ = some (.slice ca lc.length cc) ∧ w'.cell? ⟨J, 0, none⟩ = some (.int .i64 kj) ∧ w'.cell? ⟨J, 1, none⟩ = some (.slice vj nj cj) ∧ w'.cell? ⟨M, 0, none⟩ = some (.int .i64 km) ∧ w'.cell? ⟨M, 1, none⟩ = some (.slice vm nm cm) ∧ w'.cell? ⟨w.heap.size + 1, 0, none⟩ = some (.int .i64 k) ∧ w'.cell? ⟨w.heap.size + 1, 1, none⟩ = some (.bool t) ∧ w'.cell? ⟨w.heap.size + 1, 2, none⟩ = some (.int .i64 i) ∧ w'.cell? ⟨w.heap.size + 1, 3, none⟩ = some (.string s) ∧ w'.cell? ⟨w.heap.size + 1, 4, none⟩ = some (.slice av l.length c) ∧ w'.cell? ⟨w.heap.size + 1, 5, none⟩ = some (.slice kv ks.length kc') ∧ Below wc.heap.size wc w') (first | exact hx2.drew | exact SX.below (by assumption) (by assumption)) (first
              | (go_at_call 21; (go_fit (joinS ta (bndC 0 7 ta tb) (.agg #[.int .i64 ka, .slice aa la.length ac]) (.agg #[.int .i64 km, .slice vm nm cm]) _ GA.out GM.out (PA.out _ (SX.bel (by assumption))) (PM.out _ (SX.bel (by assumption)))); rintro e w20 ⟨k20, n20, v20, c20, rfl, hC20, hb20⟩))
              | (go_at_call 15; first | (go_fit (sameE (bndC_absorb h07 ta tb) _ _ _ hC20.toC (PA.out _ (SX.bel (by assumption)))); rintro e w21 ⟨rfl, hb21⟩) | (go_fit (sameE (bndC_absorb h70 ta tb) _ _ _ hC22.toC (PA.out _ (SX.bel (by assumption)))); rintro e w23 ⟨rfl, hb23⟩))
              | (go_at_call 23; (go_fit (meetS ta (bndC 7 0 ta tb) (.agg #[.int .i64 ka, .slice aa la.length ac]) (.agg #[.int .i64 kj, .slice vj nj cj]) _ GA.out GJ.out (PA.out _ (SX.bel (by assumption))) (PJ.out _ (SX.bel (by assumption)))); rintro e w22 ⟨k22, n22, v22, c22, rfl, hC22, hb22⟩)))
            have hx3 : SX wc A B C J M (w.heap.size + 1) ka kb kc kj km (.slice aa la.length ac) (.slice ba lb.length bc) (.slice ca lc.length cc) (.slice vj nj cj) (.slice vm nm cm) k t i s (.slice av l.length c) (.slice kv ks.length kc') w23 := by assumption
            clear hx2
            obtain ⟨q1, q2, q3, q4, q5, hq1, hq2, SAB, SBC, SAC, SBA, SAJ, SMA, EJB, EMA, EAB⟩ := subs_all ta tb tc (.agg #[.int .i64 ka, .slice aa la.length ac]) (.agg #[.int .i64 kb, .slice ba lb.length bc]) (.agg #[.int .i64 kc, .slice ca lc.length cc]) (.agg #[.int .i64 kj, .slice vj nj cj]) (.agg #[.int .i64 km, .slice vm nm cm]) wc GA.out GB.out GC.out GJ.out GM.out PA.out PB.out PC.out PJ.out PM.out
            replace SAB := Lib.hid SAB
            replace SBC := Lib.hid SBC
            replace SAC := Lib.hid SAC
            replace SBA := Lib.hid SBA
            replace SAJ := Lib.hid SAJ
            replace SMA := Lib.hid SMA
            replace EJB := Lib.hid EJB
            replace EMA := Lib.hid EMA
            replace EAB := Lib.hid EAB
            replace hq1 := Lib.hid hq1
            replace hq2 := Lib.hid hq2
            have hqq : (q1 != q1) = false := bne_self_eq_false' _
            go_wp2_with fail
            go_region_held3 (fun w' => w'.cell? ⟨A, 0, none⟩ = some (.int .i64 ka) ∧ w'.cell? ⟨A, 1, none⟩ = some (.slice aa la.length ac) ∧ w'.cell? ⟨B, 0, none⟩ = some (.int .i64 kb) ∧ w'.cell? ⟨B, 1, none⟩ = some (.slice ba lb.length bc) ∧ w'.cell? ⟨C, 0, none⟩ = some (.int .i64 kc) ∧ w'.cell? ⟨C, 1, none⟩ = some (.slice ca lc.length cc) ∧ w'.cell? ⟨J, 0, none⟩ = some (.int .i64 kj) ∧ w'.cell? ⟨J, 1, none⟩ = some (.slice vj nj cj) ∧ w'.cell? ⟨M, 0, none⟩ = some (.int .i64 km) ∧ w'.cell? ⟨M, 1, none⟩ = some (.slice vm nm cm) ∧ w'.cell? ⟨w.heap.size + 1, 0, none⟩ = some (.int .i64 k) ∧ w'.cell? ⟨w.heap.size + 1, 1, none⟩ = some (.bool t) ∧ w'.cell? ⟨w.heap.size + 1, 2, none⟩ = some (.int .i64 i) ∧ w'.cell? ⟨w.heap.size + 1, 3, none⟩ = some (.string s) ∧ w'.cell? ⟨w.heap.size + 1, 4, none⟩ = some (.slice av l.length c) ∧ w'.cell? ⟨w.heap.size + 1, 5, none⟩ = some (.slice kv ks.length kc') ∧ Below wc.heap.size wc w') (first | exact hx3.drew | exact SX.below (by assumption) (by assumption)) (first
              | (go_at_call 19; first | (go_fit (SAB.out _ (SX.bel (by assumption))); rintro e w30 ⟨rfl, hb30⟩) | (go_fit (SAJ.out _ (SX.bel (by assumption))); rintro e w31 ⟨rfl, hb31⟩) | (go_fit (SMA.out _ (SX.bel (by assumption))); rintro e w32 ⟨rfl, hb32⟩))
              | (go_at_call 15; first | (go_fit (EJB.out _ (SX.bel (by assumption))); rintro e w33 ⟨rfl, hb33⟩) | (go_fit (EMA.out _ (SX.bel (by assumption))); rintro e w34 ⟨rfl, hb34⟩)))
            have hx4 : SX wc A B C J M (w.heap.size + 1) ka kb kc kj km (.slice aa la.length ac) (.slice ba lb.length bc) (.slice ca lc.length cc) (.slice vj nj cj) (.slice vm nm cm) k t i s (.slice av l.length c) (.slice kv ks.length kc') w32 := by assumption
            clear hx3
            obtain ⟨a0, a1, b0, b1, c0, c1, j0, j1, m0, m1, d0, d1, d2, d3, d4, d5, -⟩ := id hx4
            obtain ⟨en, hen, VL⟩ : ∃ en : Nat, en = errV 16 (Vl.mk k t i s l ks) ∧ ∀ w', Below wc.heap.size wc w' → Calls Tryd.prog 25 #[(.agg #[.int .i64 k, .bool t, .int .i64 i, .string s, .slice av l.length c, .slice kv ks.length kc'])] w' fun e w'' => e = .returned (.int .i64 (en : Nat)) ∧ Below w'.heap.size w' w'' := ⟨_, rfl, fun w' h => refValidV_any m (.agg #[.int .i64 k, .bool t, .int .i64 i, .string s, .slice av l.length c, .slice kv ks.length kc']) (Vl.mk k t i s l ks) w' (HVc.out w' h)⟩
            replace VL := Lib.hid VL
            cases q1
            · as_aux_lemma =>
                go_wp2_with fail
                go_fit (SAB.out _ (SX.bel hx4))
                rintro e w40 ⟨rfl, hb40⟩
                have hx40 := SX.below hx4 hb40
                clear hb40 a0 a1 b0 b1 c0 c1 j0 j1 m0 m1 d0 d1 d2 d3 d4 d5
                obtain ⟨a0, a1, b0, b1, c0, c1, j0, j1, m0, m1, d0, d1, d2, d3, d4, d5, -⟩ := id hx40
                go_wp2_with fail
                go_fit (SAB.out _ (SX.bel hx40))
                rintro e w41 ⟨rfl, hb41⟩
                have hx41 := SX.below hx40 hb41
                clear hb41 a0 a1 b0 b1 c0 c1 j0 j1 m0 m1 d0 d1 d2 d3 d4 d5
                obtain ⟨a0, a1, b0, b1, c0, c1, j0, j1, m0, m1, d0, d1, d2, d3, d4, d5, -⟩ := id hx41
                by_cases he : errV 16 (Vl.mk k t i s l ks) = 0
                · as_aux_lemma =>
                    obtain ⟨he1, he2⟩ := natI0 (n := en) (hen.trans he)
                    obtain ⟨f, tv, FI, OF, SU⟩ := fits_all m ma (.agg #[.int .i64 k, .bool t, .int .i64 i, .string s, .slice av l.length c, .slice kv ks.length kc']) (.agg #[.int .i64 ka, .slice aa la.length ac]) (Vl.mk k t i s l ks) (Ty.mk ka la) wc ta he HEF.out GA.out HVc.out HTc.out HAc.out PA.out
                    replace FI := Lib.hid FI
                    replace OF := Lib.hid OF
                    replace SU := Lib.hid SU
                    have hff : (f != f) = false := bne_self_eq_false' _
                    clear he hen
                    go_wp2_with fail
                    clear a0 a1 b0 b1 c0 c1 j0 j1 m0 m1 d0 d1 d2 d3 d4 d5
                    go_region_held3 (fun w' => w'.cell? ⟨A, 0, none⟩ = some (.int .i64 ka) ∧ w'.cell? ⟨A, 1, none⟩ = some (.slice aa la.length ac) ∧ w'.cell? ⟨B, 0, none⟩ = some (.int .i64 kb) ∧ w'.cell? ⟨B, 1, none⟩ = some (.slice ba lb.length bc) ∧ w'.cell? ⟨C, 0, none⟩ = some (.int .i64 kc) ∧ w'.cell? ⟨C, 1, none⟩ = some (.slice ca lc.length cc) ∧ w'.cell? ⟨J, 0, none⟩ = some (.int .i64 kj) ∧ w'.cell? ⟨J, 1, none⟩ = some (.slice vj nj cj) ∧ w'.cell? ⟨M, 0, none⟩ = some (.int .i64 km) ∧ w'.cell? ⟨M, 1, none⟩ = some (.slice vm nm cm) ∧ w'.cell? ⟨w.heap.size + 1, 0, none⟩ = some (.int .i64 k) ∧ w'.cell? ⟨w.heap.size + 1, 1, none⟩ = some (.bool t) ∧ w'.cell? ⟨w.heap.size + 1, 2, none⟩ = some (.int .i64 i) ∧ w'.cell? ⟨w.heap.size + 1, 3, none⟩ = some (.string s) ∧ w'.cell? ⟨w.heap.size + 1, 4, none⟩ = some (.slice av l.length c) ∧ w'.cell? ⟨w.heap.size + 1, 5, none⟩ = some (.slice kv ks.length kc') ∧ Below wc.heap.size wc w') (first | exact hx41.drew | exact SX.below (by assumption) (by assumption)) (first
                      | (go_at_call 25; go_fit (VL.out _ (SX.bel (by assumption))); rintro e w95 ⟨rfl, hb95⟩)
                      | (go_at_call 17; go_fit (FI.out _ (SX.bel (by assumption))); rintro e w91 ⟨rfl, hb91⟩)
                      | (go_at_call 14; go_fit (OF.out _ (SX.bel (by assumption))); rintro e w92 ⟨R, rfl, hR, hb92⟩)
                      | (go_at_call 19; go_fit (SU.out _ _ (SX.bel (by assumption)) hR); rintro e w93 ⟨rfl, hb93⟩))
                    all_goals
                      have hxz : SX wc A B C J M (w.heap.size + 1) ka kb kc kj km (.slice aa la.length ac) (.slice ba lb.length bc) (.slice ca lc.length cc) (.slice vj nj cj) (.slice vm nm cm) k t i s (.slice av l.length c) (.slice kv ks.length kc') w93 := by assumption
                      go_wp2_with fail
                      go_fit (AWc.out _ (SX.bel hxz))
                      rintro e w90 ⟨rfl, hb90⟩
                      go_wp2_with fail
                      go_ret
                      exact ⟨rfl, B3c.out.trans (((SX.bel hxz).trans (hb90.mono (SX.bel hxz).size)).mono B3c.out.size)⟩
                · as_aux_lemma =>
                    obtain ⟨he1, he2⟩ := natI1 (n := en) (fun h => he (hen.symm.trans h))
                    clear he hen
                    go_wp2_with fail
                    clear a0 a1 b0 b1 c0 c1 j0 j1 m0 m1 d0 d1 d2 d3 d4 d5
                    have hxd := SX.drew hx41
                    refine wp_region_held_drew (S := SX wc A B C J M (w.heap.size + 1) ka kb kc kj km (.slice aa la.length ac) (.slice ba lb.length bc) (.slice ca lc.length cc) (.slice vj nj cj) (.slice vm nm cm) k t i s (.slice av l.length c) (.slice kv ks.length kc')) (by kernel_rfl) hxd (fun _ => ?_)
                    refine wpAnyH_take (i := 0) (oi := { dst := some 144, op := Op.load 33 (Operand.tmp 3), type := 33, pos := "law.go:65", after := #[], guard := none }) (v := (.agg #[.int .i64 k, .bool t, .int .i64 i, .string s, .slice av l.length c, .slice kv ks.length kc'])) rfl (by kernel_rfl) (by kernel_rfl) (by kernel_rfl) (fun _ _ _ h => h) (Or.inl ⟨by rfl, ?hy43⟩) hxd ?rs43
                    case hy43 =>
                      intro w8 hSw
                      obtain ⟨a0, a1, b0, b1, c0, c1, j0, j1, m0, m1, d0, d1, d2, d3, d4, d5, -⟩ := id hSw
                      go_simp
                    (try simp only [Act.put, List.setIfInBounds_toArray, List.set_cons_zero, List.set_cons_succ])
                    refine wpAnyH_ready (rs := [1]) (by kernel_rfl) (by simp) ?_
                    refine AllReadyH.cons (o := { dst := some 145, op := Op.call { callee := Callee.value (Operand.func 25), args := #[Operand.tmp 144], argTypes := #[33] }, type := 3, pos := "law.go:65", after := #[{ on := 0, ground := Ground.data }], guard := none }) rfl (fun K hK => ?_) AllReadyH.nil
                    go_simp
                    go_fit (VL.out _ (SX.bel hxd))
                    rintro e w95 ⟨rfl, hb95⟩
                    have hxz := SX.below hxd hb95
                    go_wp2_with fail
                    refine hK.out _ _ hxz (fun _ => ?_)
                    clear hK K
                    (try simp only [Act.put, List.setIfInBounds_toArray, List.set_cons_zero, List.set_cons_succ])
                    refine wpAnyH_take (i := 2) (oi := { dst := some 146, op := Op.binOp BinOp.eql 3 (Operand.tmp 145) (Operand.const (Value.int IntKind.i64 0)) 3, type := 4, pos := "law.go:65", after := #[{ on := 1, ground := Ground.data }], guard := none }) (v := .bool false) rfl (by kernel_rfl) (by kernel_rfl) (by kernel_rfl) (fun _ _ _ h => h) (Or.inl ⟨by rfl, ?hy44⟩) hxz ?rs44
                    case hy44 =>
                      intro w8 hSw
                      obtain ⟨a0, a1, b0, b1, c0, c1, j0, j1, m0, m1, d0, d1, d2, d3, d4, d5, -⟩ := id hSw
                      go_simp
                    (try simp only [Act.put, List.setIfInBounds_toArray, List.set_cons_zero, List.set_cons_succ])
                    refine wpAnyH_take (i := 3) (oi := { dst := some 147, op := Op.move (Operand.tmp 146), type := 4, pos := "law.go:65", after := #[{ on := 2, ground := Ground.data }, { on := 1, ground := Ground.chain }], guard := none }) (v := .bool false) rfl (by kernel_rfl) (by kernel_rfl) (by kernel_rfl) (fun _ _ _ h => h) (Or.inl ⟨by rfl, ?hy45⟩) hxz ?rs45
                    case hy45 =>
                      intro w8 hSw
                      obtain ⟨a0, a1, b0, b1, c0, c1, j0, j1, m0, m1, d0, d1, d2, d3, d4, d5, -⟩ := id hSw
                      go_simp
                    (try simp only [Act.put, List.setIfInBounds_toArray, List.set_cons_zero, List.set_cons_succ])
                    refine wpAnyH_take (i := 4) (oi := { dst := some 148, op := Op.load 33 (Operand.tmp 3), type := 33, pos := "law.go:65", after := #[{ on := 3, ground := Ground.guard }], guard := some (3, true) }) (v := undef) rfl (by kernel_rfl) (by kernel_rfl) (by kernel_rfl) (fun _ _ _ h => h) (Or.inr ⟨by rfl, rfl⟩) hxz ?_
                    (try simp only [Act.put, List.setIfInBounds_toArray, List.set_cons_zero, List.set_cons_succ])
                    refine wpAnyH_take (i := 5) (oi := { dst := some 149, op := Op.load 24 (Operand.tmp 5), type := 24, pos := "law.go:65", after := #[{ on := 3, ground := Ground.guard }], guard := some (3, true) }) (v := undef) rfl (by kernel_rfl) (by kernel_rfl) (by kernel_rfl) (fun _ _ _ h => h) (Or.inr ⟨by rfl, rfl⟩) hxz ?_
                    (try simp only [Act.put, List.setIfInBounds_toArray, List.set_cons_zero, List.set_cons_succ])
                    refine wpAnyH_take (i := 6) (oi := { dst := some 150, op := Op.call { callee := Callee.value (Operand.func 17), args := #[Operand.tmp 148, Operand.tmp 149], argTypes := #[33, 24] }, type := 4, pos := "law.go:65", after := #[{ on := 4, ground := Ground.data }, { on := 5, ground := Ground.data }, { on := 3, ground := Ground.chain }, { on := 3, ground := Ground.guard }], guard := some (3, true) }) (v := undef) rfl (by kernel_rfl) (by kernel_rfl) (by kernel_rfl) (fun _ _ _ h => h) (Or.inr ⟨by rfl, rfl⟩) hxz ?_
                    (try simp only [Act.put, List.setIfInBounds_toArray, List.set_cons_zero, List.set_cons_succ])
                    refine wpAnyH_take (i := 7) (oi := { dst := some 151, op := Op.load 33 (Operand.tmp 3), type := 33, pos := "law.go:65", after := #[{ on := 3, ground := Ground.guard }], guard := some (3, true) }) (v := undef) rfl (by kernel_rfl) (by kernel_rfl) (by kernel_rfl) (fun _ _ _ h => h) (Or.inr ⟨by rfl, rfl⟩) hxz ?_
                    (try simp only [Act.put, List.setIfInBounds_toArray, List.set_cons_zero, List.set_cons_succ])
                    refine wpAnyH_take (i := 8) (oi := { dst := some 152, op := Op.call { callee := Callee.value (Operand.func 14), args := #[Operand.tmp 151], argTypes := #[33] }, type := 24, pos := "law.go:65", after := #[{ on := 7, ground := Ground.data }, { on := 6, ground := Ground.chain }, { on := 3, ground := Ground.guard }], guard := some (3, true) }) (v := undef) rfl (by kernel_rfl) (by kernel_rfl) (by kernel_rfl) (fun _ _ _ h => h) (Or.inr ⟨by rfl, rfl⟩) hxz ?_
                    (try simp only [Act.put, List.setIfInBounds_toArray, List.set_cons_zero, List.set_cons_succ])
                    refine wpAnyH_take (i := 9) (oi := { dst := some 153, op := Op.load 24 (Operand.tmp 5), type := 24, pos := "law.go:65", after := #[{ on := 3, ground := Ground.guard }], guard := some (3, true) }) (v := undef) rfl (by kernel_rfl) (by kernel_rfl) (by kernel_rfl) (fun _ _ _ h => h) (Or.inr ⟨by rfl, rfl⟩) hxz ?_
                    (try simp only [Act.put, List.setIfInBounds_toArray, List.set_cons_zero, List.set_cons_succ])
                    refine wpAnyH_take (i := 10) (oi := { dst := some 154, op := Op.call { callee := Callee.value (Operand.func 19), args := #[Operand.tmp 152, Operand.tmp 153], argTypes := #[24, 24] }, type := 4, pos := "law.go:65", after := #[{ on := 8, ground := Ground.data }, { on := 9, ground := Ground.data }, { on := 8, ground := Ground.chain }, { on := 3, ground := Ground.guard }], guard := some (3, true) }) (v := undef) rfl (by kernel_rfl) (by kernel_rfl) (by kernel_rfl) (fun _ _ _ h => h) (Or.inr ⟨by rfl, rfl⟩) hxz ?_
                    (try simp only [Act.put, List.setIfInBounds_toArray, List.set_cons_zero, List.set_cons_succ])
                    refine wpAnyH_take (i := 11) (oi := { dst := some 155, op := Op.binOp BinOp.neq 4 (Operand.tmp 150) (Operand.tmp 154) 4, type := 4, pos := "law.go:65", after := #[{ on := 6, ground := Ground.data }, { on := 10, ground := Ground.data }, { on := 3, ground := Ground.guard }], guard := some (3, true) }) (v := undef) rfl (by kernel_rfl) (by kernel_rfl) (by kernel_rfl) (fun _ _ _ h => h) (Or.inr ⟨by rfl, rfl⟩) hxz ?_
                    (try simp only [Act.put, List.setIfInBounds_toArray, List.set_cons_zero, List.set_cons_succ])
                    refine wpAnyH_take (i := 12) (oi := { dst := some 156, op := Op.pick (Operand.tmp 147) (Operand.tmp 155) (Operand.const (Value.bool false)), type := 4, pos := "law.go:65", after := #[{ on := 3, ground := Ground.data }, { on := 11, ground := Ground.data }], guard := none }) (v := .bool false) rfl (by kernel_rfl) (by kernel_rfl) (by kernel_rfl) (fun _ _ _ h => h) (Or.inl ⟨by rfl, ?hy46⟩) hxz ?rs46
                    case hy46 =>
                      intro w8 hSw
                      obtain ⟨a0, a1, b0, b1, c0, c1, j0, j1, m0, m1, d0, d1, d2, d3, d4, d5, -⟩ := id hSw
                      go_simp
                    (try simp only [Act.put, List.setIfInBounds_toArray, List.set_cons_zero, List.set_cons_succ])
                    refine wpAnyH_done (by kernel_rfl) ?_ _
                    go_wp2_with fail
                    go_fit (AWc.out _ (SX.bel hxz))
                    rintro e w90 ⟨rfl, hb90⟩
                    go_wp2_with fail
                    go_ret
                    exact ⟨rfl, B3c.out.trans (((SX.bel hxz).trans (hb90.mono (SX.bel hxz).size)).mono B3c.out.size)⟩
            · as_aux_lemma =>
                cases q2
                · as_aux_lemma =>
                    cases q4
                    · as_aux_lemma =>
                        go_wp2_with fail
                        go_fit (SAB.out _ (SX.bel hx4))
                        rintro e w46 ⟨rfl, hb46⟩
                        have hx46 := SX.below hx4 hb46
                        clear hb46 a0 a1 b0 b1 c0 c1 j0 j1 m0 m1 d0 d1 d2 d3 d4 d5
                        obtain ⟨a0, a1, b0, b1, c0, c1, j0, j1, m0, m1, d0, d1, d2, d3, d4, d5, -⟩ := id hx46
                        go_wp2_with fail
                        go_fit (SBC.out _ (SX.bel hx46))
                        rintro e w47 ⟨rfl, hb47⟩
                        have hx47 := SX.below hx46 hb47
                        clear hb47 a0 a1 b0 b1 c0 c1 j0 j1 m0 m1 d0 d1 d2 d3 d4 d5
                        obtain ⟨a0, a1, b0, b1, c0, c1, j0, j1, m0, m1, d0, d1, d2, d3, d4, d5, -⟩ := id hx47
                        go_wp2_with fail
                        go_fit (SAB.out _ (SX.bel hx47))
                        rintro e w48 ⟨rfl, hb48⟩
                        have hx48 := SX.below hx47 hb48
                        clear hb48 a0 a1 b0 b1 c0 c1 j0 j1 m0 m1 d0 d1 d2 d3 d4 d5
                        obtain ⟨a0, a1, b0, b1, c0, c1, j0, j1, m0, m1, d0, d1, d2, d3, d4, d5, -⟩ := id hx48
                        go_wp2_with fail
                        go_fit (SBA.out _ (SX.bel hx48))
                        rintro e w49 ⟨rfl, hb49⟩
                        have hx49 := SX.below hx48 hb49
                        clear hb49 a0 a1 b0 b1 c0 c1 j0 j1 m0 m1 d0 d1 d2 d3 d4 d5
                        obtain ⟨a0, a1, b0, b1, c0, c1, j0, j1, m0, m1, d0, d1, d2, d3, d4, d5, -⟩ := id hx49
                        by_cases he : errV 16 (Vl.mk k t i s l ks) = 0
                        · as_aux_lemma =>
                            obtain ⟨he1, he2⟩ := natI0 (n := en) (hen.trans he)
                            obtain ⟨f, tv, FI, OF, SU⟩ := fits_all m ma (.agg #[.int .i64 k, .bool t, .int .i64 i, .string s, .slice av l.length c, .slice kv ks.length kc']) (.agg #[.int .i64 ka, .slice aa la.length ac]) (Vl.mk k t i s l ks) (Ty.mk ka la) wc ta he HEF.out GA.out HVc.out HTc.out HAc.out PA.out
                            replace FI := Lib.hid FI
                            replace OF := Lib.hid OF
                            replace SU := Lib.hid SU
                            have hff : (f != f) = false := bne_self_eq_false' _
                            clear he hen
                            go_wp2_with fail
                            clear a0 a1 b0 b1 c0 c1 j0 j1 m0 m1 d0 d1 d2 d3 d4 d5
                            go_region_held3 (fun w' => w'.cell? ⟨A, 0, none⟩ = some (.int .i64 ka) ∧ w'.cell? ⟨A, 1, none⟩ = some (.slice aa la.length ac) ∧ w'.cell? ⟨B, 0, none⟩ = some (.int .i64 kb) ∧ w'.cell? ⟨B, 1, none⟩ = some (.slice ba lb.length bc) ∧ w'.cell? ⟨C, 0, none⟩ = some (.int .i64 kc) ∧ w'.cell? ⟨C, 1, none⟩ = some (.slice ca lc.length cc) ∧ w'.cell? ⟨J, 0, none⟩ = some (.int .i64 kj) ∧ w'.cell? ⟨J, 1, none⟩ = some (.slice vj nj cj) ∧ w'.cell? ⟨M, 0, none⟩ = some (.int .i64 km) ∧ w'.cell? ⟨M, 1, none⟩ = some (.slice vm nm cm) ∧ w'.cell? ⟨w.heap.size + 1, 0, none⟩ = some (.int .i64 k) ∧ w'.cell? ⟨w.heap.size + 1, 1, none⟩ = some (.bool t) ∧ w'.cell? ⟨w.heap.size + 1, 2, none⟩ = some (.int .i64 i) ∧ w'.cell? ⟨w.heap.size + 1, 3, none⟩ = some (.string s) ∧ w'.cell? ⟨w.heap.size + 1, 4, none⟩ = some (.slice av l.length c) ∧ w'.cell? ⟨w.heap.size + 1, 5, none⟩ = some (.slice kv ks.length kc') ∧ Below wc.heap.size wc w') (first | exact hx49.drew | exact SX.below (by assumption) (by assumption)) (first
                              | (go_at_call 25; go_fit (VL.out _ (SX.bel (by assumption))); rintro e w95 ⟨rfl, hb95⟩)
                              | (go_at_call 17; go_fit (FI.out _ (SX.bel (by assumption))); rintro e w91 ⟨rfl, hb91⟩)
                              | (go_at_call 14; go_fit (OF.out _ (SX.bel (by assumption))); rintro e w92 ⟨R, rfl, hR, hb92⟩)
                              | (go_at_call 19; go_fit (SU.out _ _ (SX.bel (by assumption)) hR); rintro e w93 ⟨rfl, hb93⟩))
                            all_goals
                              have hxz : SX wc A B C J M (w.heap.size + 1) ka kb kc kj km (.slice aa la.length ac) (.slice ba lb.length bc) (.slice ca lc.length cc) (.slice vj nj cj) (.slice vm nm cm) k t i s (.slice av l.length c) (.slice kv ks.length kc') w93 := by assumption
                              go_wp2_with fail
                              go_fit (AWc.out _ (SX.bel hxz))
                              rintro e w90 ⟨rfl, hb90⟩
                              go_wp2_with fail
                              go_ret
                              exact ⟨rfl, B3c.out.trans (((SX.bel hxz).trans (hb90.mono (SX.bel hxz).size)).mono B3c.out.size)⟩
                        · as_aux_lemma =>
                            obtain ⟨he1, he2⟩ := natI1 (n := en) (fun h => he (hen.symm.trans h))
                            clear he hen
                            go_wp2_with fail
                            clear a0 a1 b0 b1 c0 c1 j0 j1 m0 m1 d0 d1 d2 d3 d4 d5
                            have hxd := SX.drew hx49
                            refine wp_region_held_drew (S := SX wc A B C J M (w.heap.size + 1) ka kb kc kj km (.slice aa la.length ac) (.slice ba lb.length bc) (.slice ca lc.length cc) (.slice vj nj cj) (.slice vm nm cm) k t i s (.slice av l.length c) (.slice kv ks.length kc')) (by kernel_rfl) hxd (fun _ => ?_)
                            refine wpAnyH_take (i := 0) (oi := { dst := some 144, op := Op.load 33 (Operand.tmp 3), type := 33, pos := "law.go:65", after := #[], guard := none }) (v := (.agg #[.int .i64 k, .bool t, .int .i64 i, .string s, .slice av l.length c, .slice kv ks.length kc'])) rfl (by kernel_rfl) (by kernel_rfl) (by kernel_rfl) (fun _ _ _ h => h) (Or.inl ⟨by rfl, ?hy51⟩) hxd ?rs51
                            case hy51 =>
                              intro w8 hSw
                              obtain ⟨a0, a1, b0, b1, c0, c1, j0, j1, m0, m1, d0, d1, d2, d3, d4, d5, -⟩ := id hSw
                              go_simp
                            (try simp only [Act.put, List.setIfInBounds_toArray, List.set_cons_zero, List.set_cons_succ])
                            refine wpAnyH_ready (rs := [1]) (by kernel_rfl) (by simp) ?_
                            refine AllReadyH.cons (o := { dst := some 145, op := Op.call { callee := Callee.value (Operand.func 25), args := #[Operand.tmp 144], argTypes := #[33] }, type := 3, pos := "law.go:65", after := #[{ on := 0, ground := Ground.data }], guard := none }) rfl (fun K hK => ?_) AllReadyH.nil
                            go_simp
                            go_fit (VL.out _ (SX.bel hxd))
                            rintro e w95 ⟨rfl, hb95⟩
                            have hxz := SX.below hxd hb95
                            go_wp2_with fail
                            refine hK.out _ _ hxz (fun _ => ?_)
                            clear hK K
                            (try simp only [Act.put, List.setIfInBounds_toArray, List.set_cons_zero, List.set_cons_succ])
                            refine wpAnyH_take (i := 2) (oi := { dst := some 146, op := Op.binOp BinOp.eql 3 (Operand.tmp 145) (Operand.const (Value.int IntKind.i64 0)) 3, type := 4, pos := "law.go:65", after := #[{ on := 1, ground := Ground.data }], guard := none }) (v := .bool false) rfl (by kernel_rfl) (by kernel_rfl) (by kernel_rfl) (fun _ _ _ h => h) (Or.inl ⟨by rfl, ?hy52⟩) hxz ?rs52
                            case hy52 =>
                              intro w8 hSw
                              obtain ⟨a0, a1, b0, b1, c0, c1, j0, j1, m0, m1, d0, d1, d2, d3, d4, d5, -⟩ := id hSw
                              go_simp
                            (try simp only [Act.put, List.setIfInBounds_toArray, List.set_cons_zero, List.set_cons_succ])
                            refine wpAnyH_take (i := 3) (oi := { dst := some 147, op := Op.move (Operand.tmp 146), type := 4, pos := "law.go:65", after := #[{ on := 2, ground := Ground.data }, { on := 1, ground := Ground.chain }], guard := none }) (v := .bool false) rfl (by kernel_rfl) (by kernel_rfl) (by kernel_rfl) (fun _ _ _ h => h) (Or.inl ⟨by rfl, ?hy53⟩) hxz ?rs53
                            case hy53 =>
                              intro w8 hSw
                              obtain ⟨a0, a1, b0, b1, c0, c1, j0, j1, m0, m1, d0, d1, d2, d3, d4, d5, -⟩ := id hSw
                              go_simp
                            (try simp only [Act.put, List.setIfInBounds_toArray, List.set_cons_zero, List.set_cons_succ])
                            refine wpAnyH_take (i := 4) (oi := { dst := some 148, op := Op.load 33 (Operand.tmp 3), type := 33, pos := "law.go:65", after := #[{ on := 3, ground := Ground.guard }], guard := some (3, true) }) (v := undef) rfl (by kernel_rfl) (by kernel_rfl) (by kernel_rfl) (fun _ _ _ h => h) (Or.inr ⟨by rfl, rfl⟩) hxz ?_
                            (try simp only [Act.put, List.setIfInBounds_toArray, List.set_cons_zero, List.set_cons_succ])
                            refine wpAnyH_take (i := 5) (oi := { dst := some 149, op := Op.load 24 (Operand.tmp 5), type := 24, pos := "law.go:65", after := #[{ on := 3, ground := Ground.guard }], guard := some (3, true) }) (v := undef) rfl (by kernel_rfl) (by kernel_rfl) (by kernel_rfl) (fun _ _ _ h => h) (Or.inr ⟨by rfl, rfl⟩) hxz ?_
                            (try simp only [Act.put, List.setIfInBounds_toArray, List.set_cons_zero, List.set_cons_succ])
                            refine wpAnyH_take (i := 6) (oi := { dst := some 150, op := Op.call { callee := Callee.value (Operand.func 17), args := #[Operand.tmp 148, Operand.tmp 149], argTypes := #[33, 24] }, type := 4, pos := "law.go:65", after := #[{ on := 4, ground := Ground.data }, { on := 5, ground := Ground.data }, { on := 3, ground := Ground.chain }, { on := 3, ground := Ground.guard }], guard := some (3, true) }) (v := undef) rfl (by kernel_rfl) (by kernel_rfl) (by kernel_rfl) (fun _ _ _ h => h) (Or.inr ⟨by rfl, rfl⟩) hxz ?_
                            (try simp only [Act.put, List.setIfInBounds_toArray, List.set_cons_zero, List.set_cons_succ])
                            refine wpAnyH_take (i := 7) (oi := { dst := some 151, op := Op.load 33 (Operand.tmp 3), type := 33, pos := "law.go:65", after := #[{ on := 3, ground := Ground.guard }], guard := some (3, true) }) (v := undef) rfl (by kernel_rfl) (by kernel_rfl) (by kernel_rfl) (fun _ _ _ h => h) (Or.inr ⟨by rfl, rfl⟩) hxz ?_
                            (try simp only [Act.put, List.setIfInBounds_toArray, List.set_cons_zero, List.set_cons_succ])
                            refine wpAnyH_take (i := 8) (oi := { dst := some 152, op := Op.call { callee := Callee.value (Operand.func 14), args := #[Operand.tmp 151], argTypes := #[33] }, type := 24, pos := "law.go:65", after := #[{ on := 7, ground := Ground.data }, { on := 6, ground := Ground.chain }, { on := 3, ground := Ground.guard }], guard := some (3, true) }) (v := undef) rfl (by kernel_rfl) (by kernel_rfl) (by kernel_rfl) (fun _ _ _ h => h) (Or.inr ⟨by rfl, rfl⟩) hxz ?_
                            (try simp only [Act.put, List.setIfInBounds_toArray, List.set_cons_zero, List.set_cons_succ])
                            refine wpAnyH_take (i := 9) (oi := { dst := some 153, op := Op.load 24 (Operand.tmp 5), type := 24, pos := "law.go:65", after := #[{ on := 3, ground := Ground.guard }], guard := some (3, true) }) (v := undef) rfl (by kernel_rfl) (by kernel_rfl) (by kernel_rfl) (fun _ _ _ h => h) (Or.inr ⟨by rfl, rfl⟩) hxz ?_
                            (try simp only [Act.put, List.setIfInBounds_toArray, List.set_cons_zero, List.set_cons_succ])
                            refine wpAnyH_take (i := 10) (oi := { dst := some 154, op := Op.call { callee := Callee.value (Operand.func 19), args := #[Operand.tmp 152, Operand.tmp 153], argTypes := #[24, 24] }, type := 4, pos := "law.go:65", after := #[{ on := 8, ground := Ground.data }, { on := 9, ground := Ground.data }, { on := 8, ground := Ground.chain }, { on := 3, ground := Ground.guard }], guard := some (3, true) }) (v := undef) rfl (by kernel_rfl) (by kernel_rfl) (by kernel_rfl) (fun _ _ _ h => h) (Or.inr ⟨by rfl, rfl⟩) hxz ?_
                            (try simp only [Act.put, List.setIfInBounds_toArray, List.set_cons_zero, List.set_cons_succ])
                            refine wpAnyH_take (i := 11) (oi := { dst := some 155, op := Op.binOp BinOp.neq 4 (Operand.tmp 150) (Operand.tmp 154) 4, type := 4, pos := "law.go:65", after := #[{ on := 6, ground := Ground.data }, { on := 10, ground := Ground.data }, { on := 3, ground := Ground.guard }], guard := some (3, true) }) (v := undef) rfl (by kernel_rfl) (by kernel_rfl) (by kernel_rfl) (fun _ _ _ h => h) (Or.inr ⟨by rfl, rfl⟩) hxz ?_
                            (try simp only [Act.put, List.setIfInBounds_toArray, List.set_cons_zero, List.set_cons_succ])
                            refine wpAnyH_take (i := 12) (oi := { dst := some 156, op := Op.pick (Operand.tmp 147) (Operand.tmp 155) (Operand.const (Value.bool false)), type := 4, pos := "law.go:65", after := #[{ on := 3, ground := Ground.data }, { on := 11, ground := Ground.data }], guard := none }) (v := .bool false) rfl (by kernel_rfl) (by kernel_rfl) (by kernel_rfl) (fun _ _ _ h => h) (Or.inl ⟨by rfl, ?hy54⟩) hxz ?rs54
                            case hy54 =>
                              intro w8 hSw
                              obtain ⟨a0, a1, b0, b1, c0, c1, j0, j1, m0, m1, d0, d1, d2, d3, d4, d5, -⟩ := id hSw
                              go_simp
                            (try simp only [Act.put, List.setIfInBounds_toArray, List.set_cons_zero, List.set_cons_succ])
                            refine wpAnyH_done (by kernel_rfl) ?_ _
                            go_wp2_with fail
                            go_fit (AWc.out _ (SX.bel hxz))
                            rintro e w90 ⟨rfl, hb90⟩
                            go_wp2_with fail
                            go_ret
                            exact ⟨rfl, B3c.out.trans (((SX.bel hxz).trans (hb90.mono (SX.bel hxz).size)).mono B3c.out.size)⟩
                    · as_aux_lemma =>
                        obtain rfl := hq2.out rfl rfl
                        go_wp2_with fail
                        go_fit (SAB.out _ (SX.bel hx4))
                        rintro e w54 ⟨rfl, hb54⟩
                        have hx54 := SX.below hx4 hb54
                        clear hb54 a0 a1 b0 b1 c0 c1 j0 j1 m0 m1 d0 d1 d2 d3 d4 d5
                        obtain ⟨a0, a1, b0, b1, c0, c1, j0, j1, m0, m1, d0, d1, d2, d3, d4, d5, -⟩ := id hx54
                        go_wp2_with fail
                        go_fit (SBC.out _ (SX.bel hx54))
                        rintro e w55 ⟨rfl, hb55⟩
                        have hx55 := SX.below hx54 hb55
                        clear hb55 a0 a1 b0 b1 c0 c1 j0 j1 m0 m1 d0 d1 d2 d3 d4 d5
                        obtain ⟨a0, a1, b0, b1, c0, c1, j0, j1, m0, m1, d0, d1, d2, d3, d4, d5, -⟩ := id hx55
                        go_wp2_with fail
                        go_fit (SAB.out _ (SX.bel hx55))
                        rintro e w56 ⟨rfl, hb56⟩
                        have hx56 := SX.below hx55 hb56
                        clear hb56 a0 a1 b0 b1 c0 c1 j0 j1 m0 m1 d0 d1 d2 d3 d4 d5
                        obtain ⟨a0, a1, b0, b1, c0, c1, j0, j1, m0, m1, d0, d1, d2, d3, d4, d5, -⟩ := id hx56
                        go_wp2_with fail
                        go_fit (SBA.out _ (SX.bel hx56))
                        rintro e w57 ⟨rfl, hb57⟩
                        have hx57 := SX.below hx56 hb57
                        clear hb57 a0 a1 b0 b1 c0 c1 j0 j1 m0 m1 d0 d1 d2 d3 d4 d5
                        obtain ⟨a0, a1, b0, b1, c0, c1, j0, j1, m0, m1, d0, d1, d2, d3, d4, d5, -⟩ := id hx57
                        go_wp2_with fail
                        go_fit (EAB.out _ (SX.bel hx57))
                        rintro e w58 ⟨rfl, hb58⟩
                        have hx58 := SX.below hx57 hb58
                        clear hb58 a0 a1 b0 b1 c0 c1 j0 j1 m0 m1 d0 d1 d2 d3 d4 d5
                        obtain ⟨a0, a1, b0, b1, c0, c1, j0, j1, m0, m1, d0, d1, d2, d3, d4, d5, -⟩ := id hx58
                        by_cases he : errV 16 (Vl.mk k t i s l ks) = 0
                        · as_aux_lemma =>
                            obtain ⟨he1, he2⟩ := natI0 (n := en) (hen.trans he)
                            obtain ⟨f, tv, FI, OF, SU⟩ := fits_all m ma (.agg #[.int .i64 k, .bool t, .int .i64 i, .string s, .slice av l.length c, .slice kv ks.length kc']) (.agg #[.int .i64 ka, .slice aa la.length ac]) (Vl.mk k t i s l ks) (Ty.mk ka la) wc ta he HEF.out GA.out HVc.out HTc.out HAc.out PA.out
                            replace FI := Lib.hid FI
                            replace OF := Lib.hid OF
                            replace SU := Lib.hid SU
                            have hff : (f != f) = false := bne_self_eq_false' _
                            clear he hen
                            go_wp2_with fail
                            clear a0 a1 b0 b1 c0 c1 j0 j1 m0 m1 d0 d1 d2 d3 d4 d5
                            go_region_held3 (fun w' => w'.cell? ⟨A, 0, none⟩ = some (.int .i64 ka) ∧ w'.cell? ⟨A, 1, none⟩ = some (.slice aa la.length ac) ∧ w'.cell? ⟨B, 0, none⟩ = some (.int .i64 kb) ∧ w'.cell? ⟨B, 1, none⟩ = some (.slice ba lb.length bc) ∧ w'.cell? ⟨C, 0, none⟩ = some (.int .i64 kc) ∧ w'.cell? ⟨C, 1, none⟩ = some (.slice ca lc.length cc) ∧ w'.cell? ⟨J, 0, none⟩ = some (.int .i64 kj) ∧ w'.cell? ⟨J, 1, none⟩ = some (.slice vj nj cj) ∧ w'.cell? ⟨M, 0, none⟩ = some (.int .i64 km) ∧ w'.cell? ⟨M, 1, none⟩ = some (.slice vm nm cm) ∧ w'.cell? ⟨w.heap.size + 1, 0, none⟩ = some (.int .i64 k) ∧ w'.cell? ⟨w.heap.size + 1, 1, none⟩ = some (.bool t) ∧ w'.cell? ⟨w.heap.size + 1, 2, none⟩ = some (.int .i64 i) ∧ w'.cell? ⟨w.heap.size + 1, 3, none⟩ = some (.string s) ∧ w'.cell? ⟨w.heap.size + 1, 4, none⟩ = some (.slice av l.length c) ∧ w'.cell? ⟨w.heap.size + 1, 5, none⟩ = some (.slice kv ks.length kc') ∧ Below wc.heap.size wc w') (first | exact hx58.drew | exact SX.below (by assumption) (by assumption)) (first
                              | (go_at_call 25; go_fit (VL.out _ (SX.bel (by assumption))); rintro e w95 ⟨rfl, hb95⟩)
                              | (go_at_call 17; go_fit (FI.out _ (SX.bel (by assumption))); rintro e w91 ⟨rfl, hb91⟩)
                              | (go_at_call 14; go_fit (OF.out _ (SX.bel (by assumption))); rintro e w92 ⟨R, rfl, hR, hb92⟩)
                              | (go_at_call 19; go_fit (SU.out _ _ (SX.bel (by assumption)) hR); rintro e w93 ⟨rfl, hb93⟩))
                            all_goals
                              have hxz : SX wc A B C J M (w.heap.size + 1) ka kb kc kj km (.slice aa la.length ac) (.slice ba lb.length bc) (.slice ca lc.length cc) (.slice vj nj cj) (.slice vm nm cm) k t i s (.slice av l.length c) (.slice kv ks.length kc') w93 := by assumption
                              go_wp2_with fail
                              go_fit (AWc.out _ (SX.bel hxz))
                              rintro e w90 ⟨rfl, hb90⟩
                              go_wp2_with fail
                              go_ret
                              exact ⟨rfl, B3c.out.trans (((SX.bel hxz).trans (hb90.mono (SX.bel hxz).size)).mono B3c.out.size)⟩
                        · as_aux_lemma =>
                            obtain ⟨he1, he2⟩ := natI1 (n := en) (fun h => he (hen.symm.trans h))
                            clear he hen
                            go_wp2_with fail
                            clear a0 a1 b0 b1 c0 c1 j0 j1 m0 m1 d0 d1 d2 d3 d4 d5
                            have hxd := SX.drew hx58
                            refine wp_region_held_drew (S := SX wc A B C J M (w.heap.size + 1) ka kb kc kj km (.slice aa la.length ac) (.slice ba lb.length bc) (.slice ca lc.length cc) (.slice vj nj cj) (.slice vm nm cm) k t i s (.slice av l.length c) (.slice kv ks.length kc')) (by kernel_rfl) hxd (fun _ => ?_)
                            refine wpAnyH_take (i := 0) (oi := { dst := some 144, op := Op.load 33 (Operand.tmp 3), type := 33, pos := "law.go:65", after := #[], guard := none }) (v := (.agg #[.int .i64 k, .bool t, .int .i64 i, .string s, .slice av l.length c, .slice kv ks.length kc'])) rfl (by kernel_rfl) (by kernel_rfl) (by kernel_rfl) (fun _ _ _ h => h) (Or.inl ⟨by rfl, ?hy60⟩) hxd ?rs60
                            case hy60 =>
                              intro w8 hSw
                              obtain ⟨a0, a1, b0, b1, c0, c1, j0, j1, m0, m1, d0, d1, d2, d3, d4, d5, -⟩ := id hSw
                              go_simp
                            (try simp only [Act.put, List.setIfInBounds_toArray, List.set_cons_zero, List.set_cons_succ])
                            refine wpAnyH_ready (rs := [1]) (by kernel_rfl) (by simp) ?_
                            refine AllReadyH.cons (o := { dst := some 145, op := Op.call { callee := Callee.value (Operand.func 25), args := #[Operand.tmp 144], argTypes := #[33] }, type := 3, pos := "law.go:65", after := #[{ on := 0, ground := Ground.data }], guard := none }) rfl (fun K hK => ?_) AllReadyH.nil
                            go_simp
                            go_fit (VL.out _ (SX.bel hxd))
                            rintro e w95 ⟨rfl, hb95⟩
                            have hxz := SX.below hxd hb95
                            go_wp2_with fail
                            refine hK.out _ _ hxz (fun _ => ?_)
                            clear hK K
                            (try simp only [Act.put, List.setIfInBounds_toArray, List.set_cons_zero, List.set_cons_succ])
                            refine wpAnyH_take (i := 2) (oi := { dst := some 146, op := Op.binOp BinOp.eql 3 (Operand.tmp 145) (Operand.const (Value.int IntKind.i64 0)) 3, type := 4, pos := "law.go:65", after := #[{ on := 1, ground := Ground.data }], guard := none }) (v := .bool false) rfl (by kernel_rfl) (by kernel_rfl) (by kernel_rfl) (fun _ _ _ h => h) (Or.inl ⟨by rfl, ?hy61⟩) hxz ?rs61
                            case hy61 =>
                              intro w8 hSw
                              obtain ⟨a0, a1, b0, b1, c0, c1, j0, j1, m0, m1, d0, d1, d2, d3, d4, d5, -⟩ := id hSw
                              go_simp
                            (try simp only [Act.put, List.setIfInBounds_toArray, List.set_cons_zero, List.set_cons_succ])
                            refine wpAnyH_take (i := 3) (oi := { dst := some 147, op := Op.move (Operand.tmp 146), type := 4, pos := "law.go:65", after := #[{ on := 2, ground := Ground.data }, { on := 1, ground := Ground.chain }], guard := none }) (v := .bool false) rfl (by kernel_rfl) (by kernel_rfl) (by kernel_rfl) (fun _ _ _ h => h) (Or.inl ⟨by rfl, ?hy62⟩) hxz ?rs62
                            case hy62 =>
                              intro w8 hSw
                              obtain ⟨a0, a1, b0, b1, c0, c1, j0, j1, m0, m1, d0, d1, d2, d3, d4, d5, -⟩ := id hSw
                              go_simp
                            (try simp only [Act.put, List.setIfInBounds_toArray, List.set_cons_zero, List.set_cons_succ])
                            refine wpAnyH_take (i := 4) (oi := { dst := some 148, op := Op.load 33 (Operand.tmp 3), type := 33, pos := "law.go:65", after := #[{ on := 3, ground := Ground.guard }], guard := some (3, true) }) (v := undef) rfl (by kernel_rfl) (by kernel_rfl) (by kernel_rfl) (fun _ _ _ h => h) (Or.inr ⟨by rfl, rfl⟩) hxz ?_
                            (try simp only [Act.put, List.setIfInBounds_toArray, List.set_cons_zero, List.set_cons_succ])
                            refine wpAnyH_take (i := 5) (oi := { dst := some 149, op := Op.load 24 (Operand.tmp 5), type := 24, pos := "law.go:65", after := #[{ on := 3, ground := Ground.guard }], guard := some (3, true) }) (v := undef) rfl (by kernel_rfl) (by kernel_rfl) (by kernel_rfl) (fun _ _ _ h => h) (Or.inr ⟨by rfl, rfl⟩) hxz ?_
                            (try simp only [Act.put, List.setIfInBounds_toArray, List.set_cons_zero, List.set_cons_succ])
                            refine wpAnyH_take (i := 6) (oi := { dst := some 150, op := Op.call { callee := Callee.value (Operand.func 17), args := #[Operand.tmp 148, Operand.tmp 149], argTypes := #[33, 24] }, type := 4, pos := "law.go:65", after := #[{ on := 4, ground := Ground.data }, { on := 5, ground := Ground.data }, { on := 3, ground := Ground.chain }, { on := 3, ground := Ground.guard }], guard := some (3, true) }) (v := undef) rfl (by kernel_rfl) (by kernel_rfl) (by kernel_rfl) (fun _ _ _ h => h) (Or.inr ⟨by rfl, rfl⟩) hxz ?_
                            (try simp only [Act.put, List.setIfInBounds_toArray, List.set_cons_zero, List.set_cons_succ])
                            refine wpAnyH_take (i := 7) (oi := { dst := some 151, op := Op.load 33 (Operand.tmp 3), type := 33, pos := "law.go:65", after := #[{ on := 3, ground := Ground.guard }], guard := some (3, true) }) (v := undef) rfl (by kernel_rfl) (by kernel_rfl) (by kernel_rfl) (fun _ _ _ h => h) (Or.inr ⟨by rfl, rfl⟩) hxz ?_
                            (try simp only [Act.put, List.setIfInBounds_toArray, List.set_cons_zero, List.set_cons_succ])
                            refine wpAnyH_take (i := 8) (oi := { dst := some 152, op := Op.call { callee := Callee.value (Operand.func 14), args := #[Operand.tmp 151], argTypes := #[33] }, type := 24, pos := "law.go:65", after := #[{ on := 7, ground := Ground.data }, { on := 6, ground := Ground.chain }, { on := 3, ground := Ground.guard }], guard := some (3, true) }) (v := undef) rfl (by kernel_rfl) (by kernel_rfl) (by kernel_rfl) (fun _ _ _ h => h) (Or.inr ⟨by rfl, rfl⟩) hxz ?_
                            (try simp only [Act.put, List.setIfInBounds_toArray, List.set_cons_zero, List.set_cons_succ])
                            refine wpAnyH_take (i := 9) (oi := { dst := some 153, op := Op.load 24 (Operand.tmp 5), type := 24, pos := "law.go:65", after := #[{ on := 3, ground := Ground.guard }], guard := some (3, true) }) (v := undef) rfl (by kernel_rfl) (by kernel_rfl) (by kernel_rfl) (fun _ _ _ h => h) (Or.inr ⟨by rfl, rfl⟩) hxz ?_
                            (try simp only [Act.put, List.setIfInBounds_toArray, List.set_cons_zero, List.set_cons_succ])
                            refine wpAnyH_take (i := 10) (oi := { dst := some 154, op := Op.call { callee := Callee.value (Operand.func 19), args := #[Operand.tmp 152, Operand.tmp 153], argTypes := #[24, 24] }, type := 4, pos := "law.go:65", after := #[{ on := 8, ground := Ground.data }, { on := 9, ground := Ground.data }, { on := 8, ground := Ground.chain }, { on := 3, ground := Ground.guard }], guard := some (3, true) }) (v := undef) rfl (by kernel_rfl) (by kernel_rfl) (by kernel_rfl) (fun _ _ _ h => h) (Or.inr ⟨by rfl, rfl⟩) hxz ?_
                            (try simp only [Act.put, List.setIfInBounds_toArray, List.set_cons_zero, List.set_cons_succ])
                            refine wpAnyH_take (i := 11) (oi := { dst := some 155, op := Op.binOp BinOp.neq 4 (Operand.tmp 150) (Operand.tmp 154) 4, type := 4, pos := "law.go:65", after := #[{ on := 6, ground := Ground.data }, { on := 10, ground := Ground.data }, { on := 3, ground := Ground.guard }], guard := some (3, true) }) (v := undef) rfl (by kernel_rfl) (by kernel_rfl) (by kernel_rfl) (fun _ _ _ h => h) (Or.inr ⟨by rfl, rfl⟩) hxz ?_
                            (try simp only [Act.put, List.setIfInBounds_toArray, List.set_cons_zero, List.set_cons_succ])
                            refine wpAnyH_take (i := 12) (oi := { dst := some 156, op := Op.pick (Operand.tmp 147) (Operand.tmp 155) (Operand.const (Value.bool false)), type := 4, pos := "law.go:65", after := #[{ on := 3, ground := Ground.data }, { on := 11, ground := Ground.data }], guard := none }) (v := .bool false) rfl (by kernel_rfl) (by kernel_rfl) (by kernel_rfl) (fun _ _ _ h => h) (Or.inl ⟨by rfl, ?hy63⟩) hxz ?rs63
                            case hy63 =>
                              intro w8 hSw
                              obtain ⟨a0, a1, b0, b1, c0, c1, j0, j1, m0, m1, d0, d1, d2, d3, d4, d5, -⟩ := id hSw
                              go_simp
                            (try simp only [Act.put, List.setIfInBounds_toArray, List.set_cons_zero, List.set_cons_succ])
                            refine wpAnyH_done (by kernel_rfl) ?_ _
                            go_wp2_with fail
                            go_fit (AWc.out _ (SX.bel hxz))
                            rintro e w90 ⟨rfl, hb90⟩
                            go_wp2_with fail
                            go_ret
                            exact ⟨rfl, B3c.out.trans (((SX.bel hxz).trans (hb90.mono (SX.bel hxz).size)).mono B3c.out.size)⟩
                · as_aux_lemma =>
                    obtain rfl := hq1.out rfl rfl
                    cases q4
                    · as_aux_lemma =>
                        go_wp2_with fail
                        go_fit (SAB.out _ (SX.bel hx4))
                        rintro e w63 ⟨rfl, hb63⟩
                        have hx63 := SX.below hx4 hb63
                        clear hb63 a0 a1 b0 b1 c0 c1 j0 j1 m0 m1 d0 d1 d2 d3 d4 d5
                        obtain ⟨a0, a1, b0, b1, c0, c1, j0, j1, m0, m1, d0, d1, d2, d3, d4, d5, -⟩ := id hx63
                        go_wp2_with fail
                        go_fit (SBC.out _ (SX.bel hx63))
                        rintro e w64 ⟨rfl, hb64⟩
                        have hx64 := SX.below hx63 hb64
                        clear hb64 a0 a1 b0 b1 c0 c1 j0 j1 m0 m1 d0 d1 d2 d3 d4 d5
                        obtain ⟨a0, a1, b0, b1, c0, c1, j0, j1, m0, m1, d0, d1, d2, d3, d4, d5, -⟩ := id hx64
                        go_wp2_with fail
                        go_fit (SAC.out _ (SX.bel hx64))
                        rintro e w65 ⟨rfl, hb65⟩
                        have hx65 := SX.below hx64 hb65
                        clear hb65 a0 a1 b0 b1 c0 c1 j0 j1 m0 m1 d0 d1 d2 d3 d4 d5
                        obtain ⟨a0, a1, b0, b1, c0, c1, j0, j1, m0, m1, d0, d1, d2, d3, d4, d5, -⟩ := id hx65
                        go_wp2_with fail
                        go_fit (SAB.out _ (SX.bel hx65))
                        rintro e w66 ⟨rfl, hb66⟩
                        have hx66 := SX.below hx65 hb66
                        clear hb66 a0 a1 b0 b1 c0 c1 j0 j1 m0 m1 d0 d1 d2 d3 d4 d5
                        obtain ⟨a0, a1, b0, b1, c0, c1, j0, j1, m0, m1, d0, d1, d2, d3, d4, d5, -⟩ := id hx66
                        go_wp2_with fail
                        go_fit (SBA.out _ (SX.bel hx66))
                        rintro e w67 ⟨rfl, hb67⟩
                        have hx67 := SX.below hx66 hb67
                        clear hb67 a0 a1 b0 b1 c0 c1 j0 j1 m0 m1 d0 d1 d2 d3 d4 d5
                        obtain ⟨a0, a1, b0, b1, c0, c1, j0, j1, m0, m1, d0, d1, d2, d3, d4, d5, -⟩ := id hx67
                        by_cases he : errV 16 (Vl.mk k t i s l ks) = 0
                        · as_aux_lemma =>
                            obtain ⟨he1, he2⟩ := natI0 (n := en) (hen.trans he)
                            obtain ⟨f, tv, FI, OF, SU⟩ := fits_all m ma (.agg #[.int .i64 k, .bool t, .int .i64 i, .string s, .slice av l.length c, .slice kv ks.length kc']) (.agg #[.int .i64 ka, .slice aa la.length ac]) (Vl.mk k t i s l ks) (Ty.mk ka la) wc ta he HEF.out GA.out HVc.out HTc.out HAc.out PA.out
                            replace FI := Lib.hid FI
                            replace OF := Lib.hid OF
                            replace SU := Lib.hid SU
                            have hff : (f != f) = false := bne_self_eq_false' _
                            clear he hen
                            go_wp2_with fail
                            clear a0 a1 b0 b1 c0 c1 j0 j1 m0 m1 d0 d1 d2 d3 d4 d5
                            go_region_held3 (fun w' => w'.cell? ⟨A, 0, none⟩ = some (.int .i64 ka) ∧ w'.cell? ⟨A, 1, none⟩ = some (.slice aa la.length ac) ∧ w'.cell? ⟨B, 0, none⟩ = some (.int .i64 kb) ∧ w'.cell? ⟨B, 1, none⟩ = some (.slice ba lb.length bc) ∧ w'.cell? ⟨C, 0, none⟩ = some (.int .i64 kc) ∧ w'.cell? ⟨C, 1, none⟩ = some (.slice ca lc.length cc) ∧ w'.cell? ⟨J, 0, none⟩ = some (.int .i64 kj) ∧ w'.cell? ⟨J, 1, none⟩ = some (.slice vj nj cj) ∧ w'.cell? ⟨M, 0, none⟩ = some (.int .i64 km) ∧ w'.cell? ⟨M, 1, none⟩ = some (.slice vm nm cm) ∧ w'.cell? ⟨w.heap.size + 1, 0, none⟩ = some (.int .i64 k) ∧ w'.cell? ⟨w.heap.size + 1, 1, none⟩ = some (.bool t) ∧ w'.cell? ⟨w.heap.size + 1, 2, none⟩ = some (.int .i64 i) ∧ w'.cell? ⟨w.heap.size + 1, 3, none⟩ = some (.string s) ∧ w'.cell? ⟨w.heap.size + 1, 4, none⟩ = some (.slice av l.length c) ∧ w'.cell? ⟨w.heap.size + 1, 5, none⟩ = some (.slice kv ks.length kc') ∧ Below wc.heap.size wc w') (first | exact hx67.drew | exact SX.below (by assumption) (by assumption)) (first
                              | (go_at_call 25; go_fit (VL.out _ (SX.bel (by assumption))); rintro e w95 ⟨rfl, hb95⟩)
                              | (go_at_call 17; go_fit (FI.out _ (SX.bel (by assumption))); rintro e w91 ⟨rfl, hb91⟩)
                              | (go_at_call 14; go_fit (OF.out _ (SX.bel (by assumption))); rintro e w92 ⟨R, rfl, hR, hb92⟩)
                              | (go_at_call 19; go_fit (SU.out _ _ (SX.bel (by assumption)) hR); rintro e w93 ⟨rfl, hb93⟩))
                            all_goals
                              have hxz : SX wc A B C J M (w.heap.size + 1) ka kb kc kj km (.slice aa la.length ac) (.slice ba lb.length bc) (.slice ca lc.length cc) (.slice vj nj cj) (.slice vm nm cm) k t i s (.slice av l.length c) (.slice kv ks.length kc') w93 := by assumption
                              go_wp2_with fail
                              go_fit (AWc.out _ (SX.bel hxz))
                              rintro e w90 ⟨rfl, hb90⟩
                              go_wp2_with fail
                              go_ret
                              exact ⟨rfl, B3c.out.trans (((SX.bel hxz).trans (hb90.mono (SX.bel hxz).size)).mono B3c.out.size)⟩
                        · as_aux_lemma =>
                            obtain ⟨he1, he2⟩ := natI1 (n := en) (fun h => he (hen.symm.trans h))
                            clear he hen
                            go_wp2_with fail
                            clear a0 a1 b0 b1 c0 c1 j0 j1 m0 m1 d0 d1 d2 d3 d4 d5
                            have hxd := SX.drew hx67
                            refine wp_region_held_drew (S := SX wc A B C J M (w.heap.size + 1) ka kb kc kj km (.slice aa la.length ac) (.slice ba lb.length bc) (.slice ca lc.length cc) (.slice vj nj cj) (.slice vm nm cm) k t i s (.slice av l.length c) (.slice kv ks.length kc')) (by kernel_rfl) hxd (fun _ => ?_)
                            refine wpAnyH_take (i := 0) (oi := { dst := some 144, op := Op.load 33 (Operand.tmp 3), type := 33, pos := "law.go:65", after := #[], guard := none }) (v := (.agg #[.int .i64 k, .bool t, .int .i64 i, .string s, .slice av l.length c, .slice kv ks.length kc'])) rfl (by kernel_rfl) (by kernel_rfl) (by kernel_rfl) (fun _ _ _ h => h) (Or.inl ⟨by rfl, ?hy69⟩) hxd ?rs69
                            case hy69 =>
                              intro w8 hSw
                              obtain ⟨a0, a1, b0, b1, c0, c1, j0, j1, m0, m1, d0, d1, d2, d3, d4, d5, -⟩ := id hSw
                              go_simp
                            (try simp only [Act.put, List.setIfInBounds_toArray, List.set_cons_zero, List.set_cons_succ])
                            refine wpAnyH_ready (rs := [1]) (by kernel_rfl) (by simp) ?_
                            refine AllReadyH.cons (o := { dst := some 145, op := Op.call { callee := Callee.value (Operand.func 25), args := #[Operand.tmp 144], argTypes := #[33] }, type := 3, pos := "law.go:65", after := #[{ on := 0, ground := Ground.data }], guard := none }) rfl (fun K hK => ?_) AllReadyH.nil
                            go_simp
                            go_fit (VL.out _ (SX.bel hxd))
                            rintro e w95 ⟨rfl, hb95⟩
                            have hxz := SX.below hxd hb95
                            go_wp2_with fail
                            refine hK.out _ _ hxz (fun _ => ?_)
                            clear hK K
                            (try simp only [Act.put, List.setIfInBounds_toArray, List.set_cons_zero, List.set_cons_succ])
                            refine wpAnyH_take (i := 2) (oi := { dst := some 146, op := Op.binOp BinOp.eql 3 (Operand.tmp 145) (Operand.const (Value.int IntKind.i64 0)) 3, type := 4, pos := "law.go:65", after := #[{ on := 1, ground := Ground.data }], guard := none }) (v := .bool false) rfl (by kernel_rfl) (by kernel_rfl) (by kernel_rfl) (fun _ _ _ h => h) (Or.inl ⟨by rfl, ?hy70⟩) hxz ?rs70
                            case hy70 =>
                              intro w8 hSw
                              obtain ⟨a0, a1, b0, b1, c0, c1, j0, j1, m0, m1, d0, d1, d2, d3, d4, d5, -⟩ := id hSw
                              go_simp
                            (try simp only [Act.put, List.setIfInBounds_toArray, List.set_cons_zero, List.set_cons_succ])
                            refine wpAnyH_take (i := 3) (oi := { dst := some 147, op := Op.move (Operand.tmp 146), type := 4, pos := "law.go:65", after := #[{ on := 2, ground := Ground.data }, { on := 1, ground := Ground.chain }], guard := none }) (v := .bool false) rfl (by kernel_rfl) (by kernel_rfl) (by kernel_rfl) (fun _ _ _ h => h) (Or.inl ⟨by rfl, ?hy71⟩) hxz ?rs71
                            case hy71 =>
                              intro w8 hSw
                              obtain ⟨a0, a1, b0, b1, c0, c1, j0, j1, m0, m1, d0, d1, d2, d3, d4, d5, -⟩ := id hSw
                              go_simp
                            (try simp only [Act.put, List.setIfInBounds_toArray, List.set_cons_zero, List.set_cons_succ])
                            refine wpAnyH_take (i := 4) (oi := { dst := some 148, op := Op.load 33 (Operand.tmp 3), type := 33, pos := "law.go:65", after := #[{ on := 3, ground := Ground.guard }], guard := some (3, true) }) (v := undef) rfl (by kernel_rfl) (by kernel_rfl) (by kernel_rfl) (fun _ _ _ h => h) (Or.inr ⟨by rfl, rfl⟩) hxz ?_
                            (try simp only [Act.put, List.setIfInBounds_toArray, List.set_cons_zero, List.set_cons_succ])
                            refine wpAnyH_take (i := 5) (oi := { dst := some 149, op := Op.load 24 (Operand.tmp 5), type := 24, pos := "law.go:65", after := #[{ on := 3, ground := Ground.guard }], guard := some (3, true) }) (v := undef) rfl (by kernel_rfl) (by kernel_rfl) (by kernel_rfl) (fun _ _ _ h => h) (Or.inr ⟨by rfl, rfl⟩) hxz ?_
                            (try simp only [Act.put, List.setIfInBounds_toArray, List.set_cons_zero, List.set_cons_succ])
                            refine wpAnyH_take (i := 6) (oi := { dst := some 150, op := Op.call { callee := Callee.value (Operand.func 17), args := #[Operand.tmp 148, Operand.tmp 149], argTypes := #[33, 24] }, type := 4, pos := "law.go:65", after := #[{ on := 4, ground := Ground.data }, { on := 5, ground := Ground.data }, { on := 3, ground := Ground.chain }, { on := 3, ground := Ground.guard }], guard := some (3, true) }) (v := undef) rfl (by kernel_rfl) (by kernel_rfl) (by kernel_rfl) (fun _ _ _ h => h) (Or.inr ⟨by rfl, rfl⟩) hxz ?_
                            (try simp only [Act.put, List.setIfInBounds_toArray, List.set_cons_zero, List.set_cons_succ])
                            refine wpAnyH_take (i := 7) (oi := { dst := some 151, op := Op.load 33 (Operand.tmp 3), type := 33, pos := "law.go:65", after := #[{ on := 3, ground := Ground.guard }], guard := some (3, true) }) (v := undef) rfl (by kernel_rfl) (by kernel_rfl) (by kernel_rfl) (fun _ _ _ h => h) (Or.inr ⟨by rfl, rfl⟩) hxz ?_
                            (try simp only [Act.put, List.setIfInBounds_toArray, List.set_cons_zero, List.set_cons_succ])
                            refine wpAnyH_take (i := 8) (oi := { dst := some 152, op := Op.call { callee := Callee.value (Operand.func 14), args := #[Operand.tmp 151], argTypes := #[33] }, type := 24, pos := "law.go:65", after := #[{ on := 7, ground := Ground.data }, { on := 6, ground := Ground.chain }, { on := 3, ground := Ground.guard }], guard := some (3, true) }) (v := undef) rfl (by kernel_rfl) (by kernel_rfl) (by kernel_rfl) (fun _ _ _ h => h) (Or.inr ⟨by rfl, rfl⟩) hxz ?_
                            (try simp only [Act.put, List.setIfInBounds_toArray, List.set_cons_zero, List.set_cons_succ])
                            refine wpAnyH_take (i := 9) (oi := { dst := some 153, op := Op.load 24 (Operand.tmp 5), type := 24, pos := "law.go:65", after := #[{ on := 3, ground := Ground.guard }], guard := some (3, true) }) (v := undef) rfl (by kernel_rfl) (by kernel_rfl) (by kernel_rfl) (fun _ _ _ h => h) (Or.inr ⟨by rfl, rfl⟩) hxz ?_
                            (try simp only [Act.put, List.setIfInBounds_toArray, List.set_cons_zero, List.set_cons_succ])
                            refine wpAnyH_take (i := 10) (oi := { dst := some 154, op := Op.call { callee := Callee.value (Operand.func 19), args := #[Operand.tmp 152, Operand.tmp 153], argTypes := #[24, 24] }, type := 4, pos := "law.go:65", after := #[{ on := 8, ground := Ground.data }, { on := 9, ground := Ground.data }, { on := 8, ground := Ground.chain }, { on := 3, ground := Ground.guard }], guard := some (3, true) }) (v := undef) rfl (by kernel_rfl) (by kernel_rfl) (by kernel_rfl) (fun _ _ _ h => h) (Or.inr ⟨by rfl, rfl⟩) hxz ?_
                            (try simp only [Act.put, List.setIfInBounds_toArray, List.set_cons_zero, List.set_cons_succ])
                            refine wpAnyH_take (i := 11) (oi := { dst := some 155, op := Op.binOp BinOp.neq 4 (Operand.tmp 150) (Operand.tmp 154) 4, type := 4, pos := "law.go:65", after := #[{ on := 6, ground := Ground.data }, { on := 10, ground := Ground.data }, { on := 3, ground := Ground.guard }], guard := some (3, true) }) (v := undef) rfl (by kernel_rfl) (by kernel_rfl) (by kernel_rfl) (fun _ _ _ h => h) (Or.inr ⟨by rfl, rfl⟩) hxz ?_
                            (try simp only [Act.put, List.setIfInBounds_toArray, List.set_cons_zero, List.set_cons_succ])
                            refine wpAnyH_take (i := 12) (oi := { dst := some 156, op := Op.pick (Operand.tmp 147) (Operand.tmp 155) (Operand.const (Value.bool false)), type := 4, pos := "law.go:65", after := #[{ on := 3, ground := Ground.data }, { on := 11, ground := Ground.data }], guard := none }) (v := .bool false) rfl (by kernel_rfl) (by kernel_rfl) (by kernel_rfl) (fun _ _ _ h => h) (Or.inl ⟨by rfl, ?hy72⟩) hxz ?rs72
                            case hy72 =>
                              intro w8 hSw
                              obtain ⟨a0, a1, b0, b1, c0, c1, j0, j1, m0, m1, d0, d1, d2, d3, d4, d5, -⟩ := id hSw
                              go_simp
                            (try simp only [Act.put, List.setIfInBounds_toArray, List.set_cons_zero, List.set_cons_succ])
                            refine wpAnyH_done (by kernel_rfl) ?_ _
                            go_wp2_with fail
                            go_fit (AWc.out _ (SX.bel hxz))
                            rintro e w90 ⟨rfl, hb90⟩
                            go_wp2_with fail
                            go_ret
                            exact ⟨rfl, B3c.out.trans (((SX.bel hxz).trans (hb90.mono (SX.bel hxz).size)).mono B3c.out.size)⟩
                    · as_aux_lemma =>
                        obtain rfl := hq2.out rfl rfl
                        go_wp2_with fail
                        go_fit (SAB.out _ (SX.bel hx4))
                        rintro e w72 ⟨rfl, hb72⟩
                        have hx72 := SX.below hx4 hb72
                        clear hb72 a0 a1 b0 b1 c0 c1 j0 j1 m0 m1 d0 d1 d2 d3 d4 d5
                        obtain ⟨a0, a1, b0, b1, c0, c1, j0, j1, m0, m1, d0, d1, d2, d3, d4, d5, -⟩ := id hx72
                        go_wp2_with fail
                        go_fit (SBC.out _ (SX.bel hx72))
                        rintro e w73 ⟨rfl, hb73⟩
                        have hx73 := SX.below hx72 hb73
                        clear hb73 a0 a1 b0 b1 c0 c1 j0 j1 m0 m1 d0 d1 d2 d3 d4 d5
                        obtain ⟨a0, a1, b0, b1, c0, c1, j0, j1, m0, m1, d0, d1, d2, d3, d4, d5, -⟩ := id hx73
                        go_wp2_with fail
                        go_fit (SAC.out _ (SX.bel hx73))
                        rintro e w74 ⟨rfl, hb74⟩
                        have hx74 := SX.below hx73 hb74
                        clear hb74 a0 a1 b0 b1 c0 c1 j0 j1 m0 m1 d0 d1 d2 d3 d4 d5
                        obtain ⟨a0, a1, b0, b1, c0, c1, j0, j1, m0, m1, d0, d1, d2, d3, d4, d5, -⟩ := id hx74
                        go_wp2_with fail
                        go_fit (SAB.out _ (SX.bel hx74))
                        rintro e w75 ⟨rfl, hb75⟩
                        have hx75 := SX.below hx74 hb75
                        clear hb75 a0 a1 b0 b1 c0 c1 j0 j1 m0 m1 d0 d1 d2 d3 d4 d5
                        obtain ⟨a0, a1, b0, b1, c0, c1, j0, j1, m0, m1, d0, d1, d2, d3, d4, d5, -⟩ := id hx75
                        go_wp2_with fail
                        go_fit (SBA.out _ (SX.bel hx75))
                        rintro e w76 ⟨rfl, hb76⟩
                        have hx76 := SX.below hx75 hb76
                        clear hb76 a0 a1 b0 b1 c0 c1 j0 j1 m0 m1 d0 d1 d2 d3 d4 d5
                        obtain ⟨a0, a1, b0, b1, c0, c1, j0, j1, m0, m1, d0, d1, d2, d3, d4, d5, -⟩ := id hx76
                        go_wp2_with fail
                        go_fit (EAB.out _ (SX.bel hx76))
                        rintro e w77 ⟨rfl, hb77⟩
                        have hx77 := SX.below hx76 hb77
                        clear hb77 a0 a1 b0 b1 c0 c1 j0 j1 m0 m1 d0 d1 d2 d3 d4 d5
                        obtain ⟨a0, a1, b0, b1, c0, c1, j0, j1, m0, m1, d0, d1, d2, d3, d4, d5, -⟩ := id hx77
                        by_cases he : errV 16 (Vl.mk k t i s l ks) = 0
                        · as_aux_lemma =>
                            obtain ⟨he1, he2⟩ := natI0 (n := en) (hen.trans he)
                            obtain ⟨f, tv, FI, OF, SU⟩ := fits_all m ma (.agg #[.int .i64 k, .bool t, .int .i64 i, .string s, .slice av l.length c, .slice kv ks.length kc']) (.agg #[.int .i64 ka, .slice aa la.length ac]) (Vl.mk k t i s l ks) (Ty.mk ka la) wc ta he HEF.out GA.out HVc.out HTc.out HAc.out PA.out
                            replace FI := Lib.hid FI
                            replace OF := Lib.hid OF
                            replace SU := Lib.hid SU
                            have hff : (f != f) = false := bne_self_eq_false' _
                            clear he hen
                            go_wp2_with fail
                            clear a0 a1 b0 b1 c0 c1 j0 j1 m0 m1 d0 d1 d2 d3 d4 d5
                            go_region_held3 (fun w' => w'.cell? ⟨A, 0, none⟩ = some (.int .i64 ka) ∧ w'.cell? ⟨A, 1, none⟩ = some (.slice aa la.length ac) ∧ w'.cell? ⟨B, 0, none⟩ = some (.int .i64 kb) ∧ w'.cell? ⟨B, 1, none⟩ = some (.slice ba lb.length bc) ∧ w'.cell? ⟨C, 0, none⟩ = some (.int .i64 kc) ∧ w'.cell? ⟨C, 1, none⟩ = some (.slice ca lc.length cc) ∧ w'.cell? ⟨J, 0, none⟩ = some (.int .i64 kj) ∧ w'.cell? ⟨J, 1, none⟩ = some (.slice vj nj cj) ∧ w'.cell? ⟨M, 0, none⟩ = some (.int .i64 km) ∧ w'.cell? ⟨M, 1, none⟩ = some (.slice vm nm cm) ∧ w'.cell? ⟨w.heap.size + 1, 0, none⟩ = some (.int .i64 k) ∧ w'.cell? ⟨w.heap.size + 1, 1, none⟩ = some (.bool t) ∧ w'.cell? ⟨w.heap.size + 1, 2, none⟩ = some (.int .i64 i) ∧ w'.cell? ⟨w.heap.size + 1, 3, none⟩ = some (.string s) ∧ w'.cell? ⟨w.heap.size + 1, 4, none⟩ = some (.slice av l.length c) ∧ w'.cell? ⟨w.heap.size + 1, 5, none⟩ = some (.slice kv ks.length kc') ∧ Below wc.heap.size wc w') (first | exact hx77.drew | exact SX.below (by assumption) (by assumption)) (first
                              | (go_at_call 25; go_fit (VL.out _ (SX.bel (by assumption))); rintro e w95 ⟨rfl, hb95⟩)
                              | (go_at_call 17; go_fit (FI.out _ (SX.bel (by assumption))); rintro e w91 ⟨rfl, hb91⟩)
                              | (go_at_call 14; go_fit (OF.out _ (SX.bel (by assumption))); rintro e w92 ⟨R, rfl, hR, hb92⟩)
                              | (go_at_call 19; go_fit (SU.out _ _ (SX.bel (by assumption)) hR); rintro e w93 ⟨rfl, hb93⟩))
                            all_goals
                              have hxz : SX wc A B C J M (w.heap.size + 1) ka kb kc kj km (.slice aa la.length ac) (.slice ba lb.length bc) (.slice ca lc.length cc) (.slice vj nj cj) (.slice vm nm cm) k t i s (.slice av l.length c) (.slice kv ks.length kc') w93 := by assumption
                              go_wp2_with fail
                              go_fit (AWc.out _ (SX.bel hxz))
                              rintro e w90 ⟨rfl, hb90⟩
                              go_wp2_with fail
                              go_ret
                              exact ⟨rfl, B3c.out.trans (((SX.bel hxz).trans (hb90.mono (SX.bel hxz).size)).mono B3c.out.size)⟩
                        · as_aux_lemma =>
                            obtain ⟨he1, he2⟩ := natI1 (n := en) (fun h => he (hen.symm.trans h))
                            clear he hen
                            go_wp2_with fail
                            clear a0 a1 b0 b1 c0 c1 j0 j1 m0 m1 d0 d1 d2 d3 d4 d5
                            have hxd := SX.drew hx77
                            refine wp_region_held_drew (S := SX wc A B C J M (w.heap.size + 1) ka kb kc kj km (.slice aa la.length ac) (.slice ba lb.length bc) (.slice ca lc.length cc) (.slice vj nj cj) (.slice vm nm cm) k t i s (.slice av l.length c) (.slice kv ks.length kc')) (by kernel_rfl) hxd (fun _ => ?_)
                            refine wpAnyH_take (i := 0) (oi := { dst := some 144, op := Op.load 33 (Operand.tmp 3), type := 33, pos := "law.go:65", after := #[], guard := none }) (v := (.agg #[.int .i64 k, .bool t, .int .i64 i, .string s, .slice av l.length c, .slice kv ks.length kc'])) rfl (by kernel_rfl) (by kernel_rfl) (by kernel_rfl) (fun _ _ _ h => h) (Or.inl ⟨by rfl, ?hy79⟩) hxd ?rs79
                            case hy79 =>
                              intro w8 hSw
                              obtain ⟨a0, a1, b0, b1, c0, c1, j0, j1, m0, m1, d0, d1, d2, d3, d4, d5, -⟩ := id hSw
                              go_simp
                            (try simp only [Act.put, List.setIfInBounds_toArray, List.set_cons_zero, List.set_cons_succ])
                            refine wpAnyH_ready (rs := [1]) (by kernel_rfl) (by simp) ?_
                            refine AllReadyH.cons (o := { dst := some 145, op := Op.call { callee := Callee.value (Operand.func 25), args := #[Operand.tmp 144], argTypes := #[33] }, type := 3, pos := "law.go:65", after := #[{ on := 0, ground := Ground.data }], guard := none }) rfl (fun K hK => ?_) AllReadyH.nil
                            go_simp
                            go_fit (VL.out _ (SX.bel hxd))
                            rintro e w95 ⟨rfl, hb95⟩
                            have hxz := SX.below hxd hb95
                            go_wp2_with fail
                            refine hK.out _ _ hxz (fun _ => ?_)
                            clear hK K
                            (try simp only [Act.put, List.setIfInBounds_toArray, List.set_cons_zero, List.set_cons_succ])
                            refine wpAnyH_take (i := 2) (oi := { dst := some 146, op := Op.binOp BinOp.eql 3 (Operand.tmp 145) (Operand.const (Value.int IntKind.i64 0)) 3, type := 4, pos := "law.go:65", after := #[{ on := 1, ground := Ground.data }], guard := none }) (v := .bool false) rfl (by kernel_rfl) (by kernel_rfl) (by kernel_rfl) (fun _ _ _ h => h) (Or.inl ⟨by rfl, ?hy80⟩) hxz ?rs80
                            case hy80 =>
                              intro w8 hSw
                              obtain ⟨a0, a1, b0, b1, c0, c1, j0, j1, m0, m1, d0, d1, d2, d3, d4, d5, -⟩ := id hSw
                              go_simp
                            (try simp only [Act.put, List.setIfInBounds_toArray, List.set_cons_zero, List.set_cons_succ])
                            refine wpAnyH_take (i := 3) (oi := { dst := some 147, op := Op.move (Operand.tmp 146), type := 4, pos := "law.go:65", after := #[{ on := 2, ground := Ground.data }, { on := 1, ground := Ground.chain }], guard := none }) (v := .bool false) rfl (by kernel_rfl) (by kernel_rfl) (by kernel_rfl) (fun _ _ _ h => h) (Or.inl ⟨by rfl, ?hy81⟩) hxz ?rs81
                            case hy81 =>
                              intro w8 hSw
                              obtain ⟨a0, a1, b0, b1, c0, c1, j0, j1, m0, m1, d0, d1, d2, d3, d4, d5, -⟩ := id hSw
                              go_simp
                            (try simp only [Act.put, List.setIfInBounds_toArray, List.set_cons_zero, List.set_cons_succ])
                            refine wpAnyH_take (i := 4) (oi := { dst := some 148, op := Op.load 33 (Operand.tmp 3), type := 33, pos := "law.go:65", after := #[{ on := 3, ground := Ground.guard }], guard := some (3, true) }) (v := undef) rfl (by kernel_rfl) (by kernel_rfl) (by kernel_rfl) (fun _ _ _ h => h) (Or.inr ⟨by rfl, rfl⟩) hxz ?_
                            (try simp only [Act.put, List.setIfInBounds_toArray, List.set_cons_zero, List.set_cons_succ])
                            refine wpAnyH_take (i := 5) (oi := { dst := some 149, op := Op.load 24 (Operand.tmp 5), type := 24, pos := "law.go:65", after := #[{ on := 3, ground := Ground.guard }], guard := some (3, true) }) (v := undef) rfl (by kernel_rfl) (by kernel_rfl) (by kernel_rfl) (fun _ _ _ h => h) (Or.inr ⟨by rfl, rfl⟩) hxz ?_
                            (try simp only [Act.put, List.setIfInBounds_toArray, List.set_cons_zero, List.set_cons_succ])
                            refine wpAnyH_take (i := 6) (oi := { dst := some 150, op := Op.call { callee := Callee.value (Operand.func 17), args := #[Operand.tmp 148, Operand.tmp 149], argTypes := #[33, 24] }, type := 4, pos := "law.go:65", after := #[{ on := 4, ground := Ground.data }, { on := 5, ground := Ground.data }, { on := 3, ground := Ground.chain }, { on := 3, ground := Ground.guard }], guard := some (3, true) }) (v := undef) rfl (by kernel_rfl) (by kernel_rfl) (by kernel_rfl) (fun _ _ _ h => h) (Or.inr ⟨by rfl, rfl⟩) hxz ?_
                            (try simp only [Act.put, List.setIfInBounds_toArray, List.set_cons_zero, List.set_cons_succ])
                            refine wpAnyH_take (i := 7) (oi := { dst := some 151, op := Op.load 33 (Operand.tmp 3), type := 33, pos := "law.go:65", after := #[{ on := 3, ground := Ground.guard }], guard := some (3, true) }) (v := undef) rfl (by kernel_rfl) (by kernel_rfl) (by kernel_rfl) (fun _ _ _ h => h) (Or.inr ⟨by rfl, rfl⟩) hxz ?_
                            (try simp only [Act.put, List.setIfInBounds_toArray, List.set_cons_zero, List.set_cons_succ])
                            refine wpAnyH_take (i := 8) (oi := { dst := some 152, op := Op.call { callee := Callee.value (Operand.func 14), args := #[Operand.tmp 151], argTypes := #[33] }, type := 24, pos := "law.go:65", after := #[{ on := 7, ground := Ground.data }, { on := 6, ground := Ground.chain }, { on := 3, ground := Ground.guard }], guard := some (3, true) }) (v := undef) rfl (by kernel_rfl) (by kernel_rfl) (by kernel_rfl) (fun _ _ _ h => h) (Or.inr ⟨by rfl, rfl⟩) hxz ?_
                            (try simp only [Act.put, List.setIfInBounds_toArray, List.set_cons_zero, List.set_cons_succ])
                            refine wpAnyH_take (i := 9) (oi := { dst := some 153, op := Op.load 24 (Operand.tmp 5), type := 24, pos := "law.go:65", after := #[{ on := 3, ground := Ground.guard }], guard := some (3, true) }) (v := undef) rfl (by kernel_rfl) (by kernel_rfl) (by kernel_rfl) (fun _ _ _ h => h) (Or.inr ⟨by rfl, rfl⟩) hxz ?_
                            (try simp only [Act.put, List.setIfInBounds_toArray, List.set_cons_zero, List.set_cons_succ])
                            refine wpAnyH_take (i := 10) (oi := { dst := some 154, op := Op.call { callee := Callee.value (Operand.func 19), args := #[Operand.tmp 152, Operand.tmp 153], argTypes := #[24, 24] }, type := 4, pos := "law.go:65", after := #[{ on := 8, ground := Ground.data }, { on := 9, ground := Ground.data }, { on := 8, ground := Ground.chain }, { on := 3, ground := Ground.guard }], guard := some (3, true) }) (v := undef) rfl (by kernel_rfl) (by kernel_rfl) (by kernel_rfl) (fun _ _ _ h => h) (Or.inr ⟨by rfl, rfl⟩) hxz ?_
                            (try simp only [Act.put, List.setIfInBounds_toArray, List.set_cons_zero, List.set_cons_succ])
                            refine wpAnyH_take (i := 11) (oi := { dst := some 155, op := Op.binOp BinOp.neq 4 (Operand.tmp 150) (Operand.tmp 154) 4, type := 4, pos := "law.go:65", after := #[{ on := 6, ground := Ground.data }, { on := 10, ground := Ground.data }, { on := 3, ground := Ground.guard }], guard := some (3, true) }) (v := undef) rfl (by kernel_rfl) (by kernel_rfl) (by kernel_rfl) (fun _ _ _ h => h) (Or.inr ⟨by rfl, rfl⟩) hxz ?_
                            (try simp only [Act.put, List.setIfInBounds_toArray, List.set_cons_zero, List.set_cons_succ])
                            refine wpAnyH_take (i := 12) (oi := { dst := some 156, op := Op.pick (Operand.tmp 147) (Operand.tmp 155) (Operand.const (Value.bool false)), type := 4, pos := "law.go:65", after := #[{ on := 3, ground := Ground.data }, { on := 11, ground := Ground.data }], guard := none }) (v := .bool false) rfl (by kernel_rfl) (by kernel_rfl) (by kernel_rfl) (fun _ _ _ h => h) (Or.inl ⟨by rfl, ?hy82⟩) hxz ?rs82
                            case hy82 =>
                              intro w8 hSw
                              obtain ⟨a0, a1, b0, b1, c0, c1, j0, j1, m0, m1, d0, d1, d2, d3, d4, d5, -⟩ := id hSw
                              go_simp
                            (try simp only [Act.put, List.setIfInBounds_toArray, List.set_cons_zero, List.set_cons_succ])
                            refine wpAnyH_done (by kernel_rfl) ?_ _
                            go_wp2_with fail
                            go_fit (AWc.out _ (SX.bel hxz))
                            rintro e w90 ⟨rfl, hb90⟩
                            go_wp2_with fail
                            go_ret
                            exact ⟨rfl, B3c.out.trans (((SX.bel hxz).trans (hb90.mono (SX.bel hxz).size)).mono B3c.out.size)⟩
        · have zc := natI1 (n := chkT 16 (Ty.mk kc lc)) (by simpa [okB] using qc)
          generalize chkT 16 (Ty.mk ka la) = na at *
          generalize chkT 16 (Ty.mk kb lb) = nb at *
          generalize chkT 16 (Ty.mk kc lc) = nc at *
          obtain ⟨-, za⟩ := za
          obtain ⟨-, zb⟩ := zb
          obtain ⟨-, zc⟩ := zc
          go_wp2_with fail
          go_fit (PA.out _ hs0)
          rintro e w1 ⟨rfl, hb1⟩
          have hs1 := hs0.below hb1
          clear a0 a1 b0 b1 c0 c1 hb1
          obtain ⟨a0, a1, b0, b1, c0, c1, -⟩ := id hs1
          go_wp2_with fail
          go_fit (PB.out _ hs1)
          rintro e w2 ⟨rfl, hb2⟩
          have hs2 := hs1.below hb2
          clear a0 a1 b0 b1 c0 c1 hb2
          obtain ⟨a0, a1, b0, b1, c0, c1, -⟩ := id hs2
          go_wp2_with fail
          go_fit (PC.out _ hs2)
          rintro e w3 ⟨rfl, hb3⟩
          have hs3 := hs2.below hb3
          clear a0 a1 b0 b1 c0 c1 hb3
          obtain ⟨a0, a1, b0, b1, c0, c1, -⟩ := id hs3
          go_wp2_with fail
          go_fit (AW.out _ hs3.2.2.2.2.2.2.b)
          rintro e w9 ⟨rfl, hb9⟩
          go_wp2_with fail
          go_ret
          exact ⟨rfl, hs3.2.2.2.2.2.2.b.trans (hb9.mono hs3.2.2.2.2.2.2.b.size)⟩
      · have zb := natI1 (n := chkT 16 (Ty.mk kb lb)) (by simpa [okB] using qb)
        generalize chkT 16 (Ty.mk ka la) = na at *
        generalize chkT 16 (Ty.mk kb lb) = nb at *
        generalize chkT 16 (Ty.mk kc lc) = nc at *
        obtain ⟨-, za⟩ := za
        obtain ⟨-, zb⟩ := zb
        go_wp2_with fail
        go_fit (PA.out _ hs0)
        rintro e w1 ⟨rfl, hb1⟩
        have hs1 := hs0.below hb1
        clear a0 a1 b0 b1 c0 c1 hb1
        obtain ⟨a0, a1, b0, b1, c0, c1, -⟩ := id hs1
        go_wp2_with fail
        go_fit (PB.out _ hs1)
        rintro e w2 ⟨rfl, hb2⟩
        have hs2 := hs1.below hb2
        clear a0 a1 b0 b1 c0 c1 hb2
        obtain ⟨a0, a1, b0, b1, c0, c1, -⟩ := id hs2
        go_wp2_with fail
        go_fit (AW.out _ hs2.2.2.2.2.2.2.b)
        rintro e w9 ⟨rfl, hb9⟩
        go_wp2_with fail
        go_ret
        exact ⟨rfl, hs2.2.2.2.2.2.2.b.trans (hb9.mono hs2.2.2.2.2.2.2.b.size)⟩
    · have za := natI1 (n := chkT 16 (Ty.mk ka la)) (by simpa [okB] using qa)
      generalize chkT 16 (Ty.mk ka la) = na at *
      generalize chkT 16 (Ty.mk kb lb) = nb at *
      generalize chkT 16 (Ty.mk kc lc) = nc at *
      obtain ⟨-, za⟩ := za
      go_wp2_with fail
      go_fit (PA.out _ hs0)
      rintro e w1 ⟨rfl, hb1⟩
      have hs1 := hs0.below hb1
      clear a0 a1 b0 b1 c0 c1 hb1
      obtain ⟨a0, a1, b0, b1, c0, c1, -⟩ := id hs1
      go_wp2_with fail
      go_fit (AW.out _ hs1.2.2.2.2.2.2.b)
      rintro e w9 ⟨rfl, hb9⟩
      go_wp2_with fail
      go_ret
      exact ⟨rfl, hs1.2.2.2.2.2.2.b.trans (hb9.mono hs1.2.2.2.2.2.2.b.size)⟩

set_option maxRecDepth 100000 in
theorem lifted (os : Os) (started : os.Started) (H : Type) (enc : TypeId × Value → H) :
    ReturnsInHanded {} Tryd.checked os 6 .any (fun w args => (Rows.typingLatticeSpec.pre enc Tryd.prog Tryd.f6 Rows.typingLatticeRow.domain false w args ∧ laidMetH Tryd.prog laid8 w) ∧ sizedMet enc Tryd.prog Tryd.f6 (OpenSpec.ofChange Rows.typingLatticeSpec) false w args) (Rows.typingLatticeSpec.post enc Tryd.prog Tryd.f6 false true false false) := by
  refine returnsInHanded_of_change_and (C := Tryd.checked) (X := fun w _ => laidMetH Tryd.prog laid8 w) (fun _ _ _ hh h => h.of_heap hh) own started (by kernel_rfl) Tryd.func6
    (ChangeSpec.witness_shaped (enc := enc) (C := Tryd.checked) (os := os) (X := fun w _ => laidMetH Tryd.prog laid8 w) false (World.laidAll Tryd.prog os laid8) #[.agg #[.int .i64 0, .slice none 0 0, .int .i64 0, .slice none 0 0, .int .i64 0, .slice none 0 0], .agg #[.int .i64 0, .bool false, .int .i64 0, .string ⟨#[]⟩, .slice none 0 0, .slice none 0 0]] 8 (World.laidAll_os _ _ _) (World.shaped_of_ZipB (by kernel_rfl) (by kernel_rfl)) (by kernel_rfl) (by kernel_rfl) (by kernel_rfl) (lay8_met os _)) ?_
  intro W base args ds gs before hval0 hW hcnd hsz hL _
  have hval : ∀ (j : Nat) t v, Tryd.f6.params[j]? = some t → args[j]? = some v → Value.okWide Tryd.prog W .any base t v := hval0
  have hW' := hW
  obtain ⟨p, q, hA0, hV, rfl, hfz, hnd⟩ := hW
  have hA : DataW.TrodAll enc Tryd.prog W 0 (fun _ => true) true Tryd.f6.params.toList args.toList ds p := hA0
  rw [Tryd.params6] at hA hval hsz
  obtain ⟨v0, vs0, d0, ds0, p0, q0, hargs, rfl, rfl, h0, r0⟩ := trodAll_cons hA
  obtain ⟨v1, vs1, d1, ds1, p1, q1, rfl, rfl, rfl, h1, r1⟩ := trodAll_cons r0
  obtain ⟨rfl, rfl, rfl⟩ := trodAll_nil r1
  obtain rfl : args = #[v0, v1] := by cases args; simp_all
  obtain ⟨rfl, rfl⟩ := trodVars_none hV
  have k0 := h0
  have lt0 : ∀ x ∈ p0, x.block < W.heap.size := by obtain ⟨m, hm⟩ := k0; exact DataW.trod_lt m _ _ _ hm
  obtain ⟨u0a, u0b, u0c, u0d, u0e, u0f, rfl, ⟨m0a, y0a, hr0a⟩, ⟨m0b, y0b, hr0b⟩, ⟨m0c, y0c, hr0c⟩⟩ := open_types3 (hval 0 38 v0 rfl rfl) h0
  have k1 := h1
  have lt1 : ∀ x ∈ p1, x.block < W.heap.size := by obtain ⟨m, hm⟩ := k1; exact DataW.trod_lt m _ _ _ hm
  have hw1 : (d1.weights Tryd.prog 33).all (· ≤ reachBytes) = true := List.all_eq_true.2 (fun n hn => List.all_eq_true.1 hsz n (DataW.weights_mem_each (j := 1) (t := 33) rfl rfl n hn))
  obtain ⟨m1, y1, hr1⟩ := open_value (hval 1 33 v1 rfl rfl) h1 hw1
  clear hA0 hval0
  refine (walk m0a m0b m0c u0a u0b u0c u0d u0e u0f y0a y0b y0c m1 v1 y1  W (tab8_of hL) hr0a hr0b hr0c hr1).mono fun e W' ⟨he, bel⟩ => ?_
  subst he
  exact ⟨_, rfl, _, _, _, [], _, [], hW', trodAll_mk1 (shut_bool Tryd.underlying4 _), (trodAll_cons_mk (Below.trod laidOut (by kernel_rfl) (of_decide_eq_true (by kernel_rfl)) k0 bel lt0) (trodAll_cons_mk (Below.trod laidOut (by kernel_rfl) (of_decide_eq_true (by kernel_rfl)) k1 bel lt1) trodAll_mk0)), rfl, bel.frame _, fun h => by cases h⟩

theorem over : Rows.typingLatticeRow.holds Tryd.pinned (OpenSpec.ofChange Rows.typingLatticeSpec) :=
  OpenClaim.holds_of_wide 6 Tryd.f6 rfl rfl rfl rfl rfl rfl rfl ⟨rfl, rfl, rfl, rfl, rfl⟩ rfl rfl rfl rfl rfl (by kernel_rfl) Tryd.func6 (by kernel_rfl)
    (of_decide_eq_true (by kernel_rfl)) (by unfold Func.isWrapper; first | (rw [if_pos (by decide +kernel)]; kernel_rfl) | (rw [if_neg (by decide +kernel)]; exact ⟨rfl, rfl⟩))
    (fun os started H enc _ => lifted os started H enc)

/-- THE STATEMENT. -/
theorem proved : Rows.TypingLatticeCardSaid :=
  Claim7.holds_tied_plain_at .later [] [.data, .data, .data, .pinned] true Rows.typingLatticeCard.stood.harness false
    over (fun _ h => by cases h) (by kernel_rfl) (fun _ h => by cases h) typingLattice_row_tie rfl ⟨rfl, rfl⟩ (by kernel_rfl) rfl
    (fun f fn hf hfn => by
      obtain rfl : f = 6 := Option.some.inj ((show Tryd.prog.funcNamed "pipeline/pipelinelaw08.TypingLattice" = some 6 by kernel_rfl).symm.trans hf) |>.symm
      obtain rfl : fn = Tryd.f6 := (Option.some.inj (Tryd.func6.symm.trans hfn)).symm
      exact ⟨by kernel_rfl, fun j t ht => by
        rw [Tryd.params6] at ht
        have hm : t ∈ [38, 33] := by simpa using Array.mem_of_getElem? ht
        have hall : ([38, 33].all fun u => !Tryd.prog.wantsStandIn u) = true := by kernel_rfl
        exact (show Tryd.prog.wantsStandIn t = false by simpa using List.all_eq_true.1 hall t hm)⟩)
    (by kernel_rfl)
#print axioms proved
end Go.Proofs.YtabopneehhnhfabDoor.typingLattice
