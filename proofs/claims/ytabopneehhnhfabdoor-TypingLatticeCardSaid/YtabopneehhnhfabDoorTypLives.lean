/- The contract of the condition that each statement of layer 8 asks first: it is met (typing). -/
import Derived.Test.YtabopneehhnhfabDoorTypO
import Derived.Test.YtabopneehhnhfabDoorTypS
namespace Go.Proofs.YtabopneehhnhfabDoor
open Go.RowKit Go.Lib

def tLI : Tc := .node 5 (.leaf 3)
def tLS : Tc := .node 5 (.leaf 4)
theorem tLI_ok : tLI.ok := ⟨.inl rfl, by show leafK 3; unfold leafK; omega⟩
theorem tLS_ok : tLS.ok := ⟨.inl rfl, by show leafK 4; unfold leafK; omega⟩
theorem px : PTop [108, 105, 115, 116, 40, 105, 110, 116, 41] tLI 0 := .inr (.inr ⟨by decide, tLI, ⟨tLI_ok, rfl⟩, .inr ⟨by decide, rfl, rfl⟩⟩)
theorem py : PTop [108, 105, 115, 116, 40, 115, 116, 114, 105, 110, 103, 41] tLS 0 := .inr (.inr ⟨by decide, tLS, ⟨tLS_ok, rfl⟩, .inr ⟨by decide, rfl, rfl⟩⟩)
theorem no_tx {r : List UInt8} (h : ∀ c q, r = c :: q → c = 32) (hr : r ≠ []) : ∀ t, ¬ IsTx r t := by
  rintro t ⟨h1, h2⟩
  cases r with
  | nil => exact hr rfl
  | cons c q =>
    have hc := h c q rfl
    subst hc
    cases t with
    | leaf k =>
      have h2 : nameL k = 32 :: q := h2
      have h1 : k = 0 ∨ k = 1 ∨ k = 2 ∨ k = 3 ∨ k = 4 ∨ k = 7 := h1
      rcases h1 with rfl | rfl | rfl | rfl | rfl | rfl <;> simp [nameL] at h2
    | node k s =>
      have h2 : nameL k ++ 40 :: (textC s ++ [41]) = 32 :: q := h2
      rcases nameL_node h1.1 with ⟨e, _⟩ | ⟨e, _⟩ <;> rw [e] at h2 <;> simp at h2
theorem pz : PTop [108, 105, 115, 116, 40, 32, 105, 110, 116, 41] (.leaf 0) 5 := .inr (.inl ⟨by decide, fun t ht => by
  obtain ⟨t', rfl, h⟩ := tx_form (i := 5) (r := [32, 105, 110, 116]) (.inl rfl) ht
  exact no_tx (fun c q e => by injection e with e _; exact e.symm) (by simp) t' h, rfl, rfl⟩)
theorem parseC {l : List UInt8} {s : ByteArray} {t : Tc} {er : Nat} (h : PTop l t er) (hs : s.data.toList = l) (w : World) (hT : TabT w) :
    Calls Tryd.prog 26 #[.string s] w fun e w' => ∃ av c, e = .returned (.tuple #[.agg #[.int .i64 t.kd, .slice av t.ln c], .int .i64 (er : Nat)]) ∧ TailC w' av t ∧ Below w.heap.size w w' := by
  refine (Parse_any s w hT).mono ?_
  rintro e w' ⟨V, t', er', rfl, hp, ⟨av, c, rfl, hC⟩, hb⟩
  rw [hs] at hp
  obtain ⟨rfl, rfl⟩ := hp.one h
  exact ⟨av, c, rfl, hC, hb⟩

/-- The boxes of awake's four first variables. -/
structure Box4 (n : Nat) (w : World) : Prop where
  one : V6 w n 2 false 1 ⟨#[]⟩ (.slice none 0 0) (.slice none 0 0)
  a : V6 w (n + 1) 3 false 0 ⟨#[97]⟩ (.slice none 0 0) (.slice none 0 0)
  number : TwoAt w (n + 1 + 1) 24 (.int .i64 3) (.slice none 0 0)
  str : TwoAt w (n + 1 + 1 + 1) 24 (.int .i64 4) (.slice none 0 0)
theorem Box4.below {n : Nat} {w w' : World} (h : Box4 n w) (hb : Below w.heap.size w w') : Box4 n w' := ⟨h.one.below h.one.1 hb, h.a.below h.a.1 hb, h.number.below hb, h.str.below hb⟩
theorem Box4.new (w : World) : Box4 w.heap.size ((((w.alloc (.cells #[.int .i64 2, .bool false, .int .i64 1, .string ⟨#[]⟩, .slice none 0 0, .slice none 0 0] 33)).alloc
    (.cells #[.int .i64 3, .bool false, .int .i64 0, .string ⟨#[97]⟩, .slice none 0 0, .slice none 0 0] 33)).alloc (.cells #[.int .i64 3, .slice none 0 0] 24)).alloc (.cells #[.int .i64 4, .slice none 0 0] 24)) := by
  have h1 := V6_new w 2 false 1 ⟨#[]⟩ (.slice none 0 0) (.slice none 0 0)
  have h2 := V6_new (w.alloc (.cells #[.int .i64 2, .bool false, .int .i64 1, .string ⟨#[]⟩, .slice none 0 0, .slice none 0 0] 33)) 3 false 0 ⟨#[97]⟩ (.slice none 0 0) (.slice none 0 0)
  obtain ⟨w2, hw2⟩ : ∃ w2, w2 = (w.alloc (.cells #[.int .i64 2, .bool false, .int .i64 1, .string ⟨#[]⟩, .slice none 0 0, .slice none 0 0] 33)).alloc (.cells #[.int .i64 3, .bool false, .int .i64 0, .string ⟨#[97]⟩, .slice none 0 0, .slice none 0 0] 33) := ⟨_, rfl⟩
  have hz : w2.heap.size = w.heap.size + 1 + 1 := by rw [hw2]; simp
  have h1 : V6 w2 w.heap.size 2 false 1 ⟨#[]⟩ (.slice none 0 0) (.slice none 0 0) := by rw [hw2]; exact h1.below h1.1 ((Below.refl _ _).alloc (Nat.le_refl _) _)
  rw [← hw2] at h2 ⊢
  simp only [World.size_alloc] at h2
  have h3 := TwoAt.new w2 24 (.int .i64 3) (.slice none 0 0)
  have h4 := TwoAt.new (w2.alloc (.cells #[.int .i64 3, .slice none 0 0] 24)) 24 (.int .i64 4) (.slice none 0 0)
  simp only [World.size_alloc] at h4
  rw [hz] at h3 h4
  have hb : Below w2.heap.size w2 ((w2.alloc (.cells #[.int .i64 3, .slice none 0 0] 24)).alloc (.cells #[.int .i64 4, .slice none 0 0] 24)) := (by repeat (first | exact Below.refl _ _ | refine Below.setCell ?_ (by simp <;> omega) _ | refine Below.alloc ?_ (by simp <;> omega) _))
  exact ⟨h1.below h1.1 hb, h2.below h2.1 hb, h3.alloc _, h4⟩

/-- What awake's regions hold: the boxes of x, y, number and str. -/
def SA (w : World) (X Y : Nat) (xa : Option Addr) (xc : Nat) (ya : Option Addr) (yc : Nat) (w' : World) : Prop :=
  w'.cell? ⟨X, 0, none⟩ = some (.int .i64 tLI.kd) ∧ w'.cell? ⟨X, 1, none⟩ = some (.slice xa tLI.ln xc) ∧ w'.cell? ⟨Y, 0, none⟩ = some (.int .i64 tLS.kd) ∧ w'.cell? ⟨Y, 1, none⟩ = some (.slice ya tLS.ln yc) ∧
    w'.cell? ⟨w.heap.size + 1 + 1, 0, none⟩ = some (.int .i64 3) ∧ w'.cell? ⟨w.heap.size + 1 + 1, 1, none⟩ = some (.slice none 0 0) ∧ w'.cell? ⟨w.heap.size + 1 + 1 + 1, 0, none⟩ = some (.int .i64 4) ∧ w'.cell? ⟨w.heap.size + 1 + 1 + 1, 1, none⟩ = some (.slice none 0 0) ∧
    (Below w.heap.size w w' ∧ TailC w' xa tLI ∧ TailC w' ya tLS ∧ Box4 w.heap.size w')
theorem SA.below {w : World} {X Y : Nat} {xa : Option Addr} {xc : Nat} {ya : Option Addr} {yc : Nat} {w1 w2 : World} (h : SA w X Y xa xc ya yc w1) (hb : Below w1.heap.size w1 w2) : SA w X Y xa xc ya yc w2 := by
  obtain ⟨a1, a2, a3, a4, a5, a6, a7, a8, h1, h2, h3, h4⟩ := h
  have z1 := World.block_lt_of_cell? w1 _ a1
  have z3 := World.block_lt_of_cell? w1 _ a3
  have z5 := World.block_lt_of_cell? w1 _ a5
  have z7 := World.block_lt_of_cell? w1 _ a7
  exact ⟨(hb.cell (p := ⟨X, 0, none⟩) z1).trans a1, (hb.cell (p := ⟨X, 1, none⟩) z1).trans a2, (hb.cell (p := ⟨Y, 0, none⟩) z3).trans a3, (hb.cell (p := ⟨Y, 1, none⟩) z3).trans a4, (hb.cell (p := ⟨_, 0, none⟩) z5).trans a5, (hb.cell (p := ⟨_, 1, none⟩) z5).trans a6, (hb.cell (p := ⟨_, 0, none⟩) z7).trans a7, (hb.cell (p := ⟨_, 1, none⟩) z7).trans a8, h1.trans (hb.mono h1.size), TailC.below hb _ _ h2, TailC.below hb _ _ h3, h4.below hb⟩
theorem validC {t : Tc} (ho : t.ok) (hd : t.deep ≤ 16) {av : Option Addr} {c : Nat} (w : World) (h : TailC w av t) :
    Calls Tryd.prog 11 #[.agg #[.int .i64 t.kd, .slice av t.ln c]] w fun e w' => e = .returned (.int .i64 0) ∧ Below w.heap.size w w' := by
  have M := validT_any t.deep (.agg #[.int .i64 t.kd, .slice av t.ln c]) t.ty w (isT_C ho ⟨av, c, rfl, h⟩)
  rw [chkT_ty t 16 ho, if_pos hd] at M
  exact M
theorem sameW {t : Tc} {k : Int} {av : Option Addr} {c : Nat} (w : World) (b : Nat) (h : TailC w av (.node 5 (.leaf k))) (hlt : b < w.heap.size) (h0 : w.cell? ⟨b, 0, none⟩ = some (.int .i64 k)) (h1 : w.cell? ⟨b, 1, none⟩ = some (.slice none 0 0)) (ht : t = .node 5 (.leaf k)) :
    Calls Tryd.prog 15 #[.agg #[.int .i64 t.kd, .slice av t.ln c], .agg #[.int .i64 5, .slice (some ⟨b, 0, none⟩) 1 1]] w fun e w' => e = .returned (.bool true) ∧ Below w.heap.size w w' := by
  subst ht
  have M := sameT_any (.node 5 (.leaf k)) (.node 5 (.leaf k)) (.agg #[.int .i64 5, .slice av 1 c]) (.agg #[.int .i64 5, .slice (some ⟨b, 0, none⟩) 1 1]) w ⟨av, c, rfl, h⟩ ⟨some ⟨b, 0, none⟩, 1, rfl, b, 0, none, 0, rfl, hlt, h0, h1, trivial⟩
  rw [sameC_rfl] at M
  exact M

theorem e_join : bndT 7 0 tLI.ty tLS.ty = .node 5 (.leaf 0) := by kernel_rfl
theorem e_meet : bndT 0 7 tLI.ty tLS.ty = .node 5 (.leaf 7) := by kernel_rfl
theorem e_none : bndT 0 7 tLI.ty (Tc.leaf 3).ty = .leaf 7 := by kernel_rfl
theorem e_tx1 : (⟨(textC (.node 5 (.leaf 0))).toArray⟩ : ByteArray) = ⟨#[108, 105, 115, 116, 40, 97, 110, 121, 41]⟩ := rfl
theorem e_tx2 : (⟨(textC (.node 5 (.leaf 7))).toArray⟩ : ByteArray) = ⟨#[108, 105, 115, 116, 40, 110, 101, 118, 101, 114, 41]⟩ := rfl
theorem e_tx3 : (⟨(textC (.leaf 7)).toArray⟩ : ByteArray) = ⟨#[110, 101, 118, 101, 114]⟩ := rfl
theorem showC (t : Tc) (ho : t.ok) (hd : t.deep ≤ 16) (x : ByteArray) (hx : (⟨(textC t).toArray⟩ : ByteArray) = x) (V : Value) (w : World) (hV : IsC w V t) (hT : TabT w) :
    Calls Tryd.prog 28 #[V] w fun e w' => e = .returned (.string x) ∧ Below w.heap.size w w' := by
  have M := Show_any t.deep V t.ty w (isT_C ho hV) hT
  rw [show showT t.ty = textC t by unfold showT; rw [okB_ty ho hd, tcOf_ty]; rfl, hx] at M
  exact M
theorem n50 : (Tc.node 5 (.leaf 0)).ok := ⟨.inl rfl, leaf0⟩
theorem n57 : (Tc.node 5 (.leaf 7)).ok := ⟨.inl rfl, leaf7⟩

def vOne : Vl := .mk 2 false 1 ⟨#[]⟩ [] []
def vA : Vl := .mk 3 false 0 ⟨#[97]⟩ [] []
def vNone : Vl := .mk 4 false 0 ⟨#[]⟩ [] []
def vBoth : Vl := .mk 4 false 0 ⟨#[]⟩ [vOne, vA] []
theorem e_v0 : errV 16 vNone = 0 := by decide +kernel
theorem e_v1 : errV 16 vBoth = 0 := by decide +kernel
theorem e_v2 : errV 16 vOne = 0 := by decide +kernel
theorem e_of0 : ofV 0 vNone = .node 5 (.leaf 7) := by unfold ofV; rw [if_pos e_v0]; rfl
theorem e_of1 : ofV 1 vBoth = .node 5 (.leaf 0) := by unfold ofV; rw [if_pos e_v1]; kernel_rfl
theorem e_f1 : fitV 1 vBoth tLI.ty = false := by unfold fitV; rw [e_v1]; kernel_rfl
theorem e_f2 : fitV 0 vOne (Tc.leaf 3).ty = true := by unfold fitV; rw [e_v2]; kernel_rfl
theorem e_s1 : subT (Tc.node 5 (.leaf 7)).ty tLI.ty = true := by kernel_rfl
theorem e_s2 : subT tLI.ty tLS.ty = false := by kernel_rfl
theorem isV_none (w : World) : IsV 0 w (.agg #[.int .i64 4, .bool false, .int .i64 0, .string ⟨#[]⟩, .slice none 0 0, .slice none 0 0]) vNone :=
  ⟨4, false, 0, ⟨#[]⟩, [], [], none, 0, none, 0, rfl, rfl, by omega, by omega, by decide, by simp, by simp, by omega, by simp, by simp, by omega, by simp, fun k hk => by simp at hk, rfl⟩
theorem isV_one (w : World) : IsV 0 w (.agg #[.int .i64 2, .bool false, .int .i64 1, .string ⟨#[]⟩, .slice none 0 0, .slice none 0 0]) vOne :=
  ⟨2, false, 1, ⟨#[]⟩, [], [], none, 0, none, 0, rfl, rfl, by omega, by omega, by decide, by simp, by simp, by omega, by simp, by simp, by omega, by simp, fun k hk => by simp at hk, rfl⟩
/-- The list of one and a, as it lies. -/
def Both (w : World) (L : Nat) : Prop := L < w.heap.size ∧ w.heap[L]? = some (.cells #[.int .i64 2, .bool false, .int .i64 1, .string ⟨#[]⟩, .slice none 0 0, .slice none 0 0, .int .i64 3, .bool false, .int .i64 0, .string ⟨#[97]⟩, .slice none 0 0, .slice none 0 0] 33 (0, 0))
theorem Both.below {w w' : World} {L : Nat} (h : Both w L) (hb : Below w.heap.size w w') : Both w' L := ⟨Nat.lt_of_lt_of_le h.1 hb.size, (hb.block L h.1).trans h.2⟩
theorem Both.cell {w : World} {L : Nat} (h : Both w L) (k : Nat) (v : Value) (hv : (#[Value.int .i64 2, .bool false, .int .i64 1, .string ⟨#[]⟩, .slice none 0 0, .slice none 0 0, .int .i64 3, .bool false, .int .i64 0, .string ⟨#[97]⟩, .slice none 0 0, .slice none 0 0])[k]? = some v) : w.cell? ⟨L, k, none⟩ = some v := by
  simp only [World.cell?, h.2]
  exact hv
theorem isV_both {w : World} {L : Nat} (h : Both w L) : IsV 1 w (.agg #[.int .i64 4, .bool false, .int .i64 0, .string ⟨#[]⟩, .slice (some ⟨L, 0, none⟩) 2 2, .slice none 0 0]) vBoth := by
  refine ⟨4, false, 0, ⟨#[]⟩, [vOne, vA], [], some ⟨L, 0, none⟩, 2, none, 0, rfl, rfl, by omega, by omega, by decide, by simp, by simp, by omega, by simp, by simp, by omega, by simp, fun k hk => by simp at hk, ?_⟩
  intro j hj
  match j, hj with
  | 0, _ => exact ⟨L, 0, 2, false, 1, ⟨#[]⟩, [], [], none, 0, none, 0, rfl, rfl, h.1, h.cell 0 _ rfl, h.cell 1 _ rfl, h.cell 2 _ rfl, h.cell 3 _ rfl, h.cell 4 _ rfl, h.cell 5 _ rfl, by omega, by omega, by decide, by simp, by simp, by omega, by simp, by simp, by omega, by simp, fun k hk => by simp at hk, rfl⟩
  | 1, _ => exact ⟨L, 0, 3, false, 0, ⟨#[97]⟩, [], [], none, 0, none, 0, rfl, rfl, h.1, h.cell 6 _ rfl, h.cell 7 _ rfl, h.cell 8 _ rfl, h.cell 9 _ rfl, h.cell 10 _ rfl, h.cell 11 _ rfl, by omega, by omega, by decide, by simp, by simp, by omega, by simp, by simp, by omega, by simp, fun k hk => by simp at hk, rfl⟩

/-- All that awake's last statement reads. -/
structure Last (w : World) (X Y LB E : Nat) (xa : Option Addr) (xc : Nat) (ya : Option Addr) (yc : Nat) (ea : Option Addr) (ec : Nat) (w' : World) : Prop where
  sa : SA w X Y xa xc ya yc w'
  both : Both w' LB
  v : V6 w' (LB + 1) 4 false 0 ⟨#[]⟩ (.slice (some ⟨LB, 0, none⟩) 2 2) (.slice none 0 0)
  e : TwoAt w' E 24 (.int .i64 (Tc.node 5 (.leaf 7)).kd) (.slice ea (Tc.node 5 (.leaf 7)).ln ec)
  ec : TailC w' ea (.node 5 (.leaf 7))
theorem Last.below {w : World} {X Y LB E : Nat} {xa : Option Addr} {xc : Nat} {ya : Option Addr} {yc : Nat} {ea : Option Addr} {ec : Nat} {w1 w2 : World} (h : Last w X Y LB E xa xc ya yc ea ec w1) (hb : Below w1.heap.size w1 w2) : Last w X Y LB E xa xc ya yc ea ec w2 :=
  ⟨h.sa.below hb, h.both.below hb, h.v.below h.v.1 hb, h.e.below hb, TailC.below hb _ _ h.ec⟩

set_option maxHeartbeats 8000000 in
set_option maxRecDepth 100000 in
theorem awake_any (w : World) (hT : TabT w) :
    Calls Tryd.prog 13 #[] w fun e w' => e = .returned (.bool true) ∧ Below w.heap.size w w' := by
  have HT := Lib.hid hT
  clear hT
  go_enter Tryd.func13, Tryd.ntmps13
  go_wp2_with fail
  go_fit (parseC (s := ⟨#[108, 105, 115, 116, 40, 105, 110, 116, 41]⟩) px rfl _ (HT.out.below (by repeat (first | exact Below.refl _ _ | refine Below.setCell ?_ (by simp <;> omega) _ | refine Below.alloc ?_ (by simp <;> omega) _))))
  rintro e w1 ⟨xa, xc, rfl, hX, hb1⟩
  have Q1 := Lib.hid ((Box4.new w).below hb1)
  have B1 := Lib.hid (Below.trans (show Below w.heap.size w _ from (by repeat (first | exact Below.refl _ _ | refine Below.setCell ?_ (by simp <;> omega) _ | refine Below.alloc ?_ (by simp <;> omega) _))) (hb1.mono (by simp <;> omega)))
  have X1 := Lib.hid hX
  clear hb1 hX
  go_wp2_with fail
  go_fit (parseC (s := ⟨#[108, 105, 115, 116, 40, 115, 116, 114, 105, 110, 103, 41]⟩) py rfl _ (HT.out.below (B1.out.alloc B1.out.size _)))
  rintro e w2 ⟨ya, yc, rfl, hY, hb2⟩
  have BA := B1.out.alloc B1.out.size (.cells #[.int .i64 tLI.kd, .slice xa tLI.ln xc] 24)
  have hA : Below w1.heap.size w1 (w1.alloc (.cells #[.int .i64 tLI.kd, .slice xa tLI.ln xc] 24)) := (Below.refl _ _).alloc (Nat.le_refl _) _
  have XB := Lib.hid ((TwoAt.new w1 24 (.int .i64 tLI.kd) (.slice xa tLI.ln xc)).below hb2)
  have Q2 := Lib.hid ((Q1.out.below hA).below hb2)
  have B2 := Lib.hid (BA.trans (hb2.mono BA.size))
  have X2 := Lib.hid (TailC.below hb2 _ _ (TailC.below hA _ _ X1.out))
  have Y2 := Lib.hid hY
  clear hb2 hY BA hA
  go_wp2_with fail
  go_fit (parseC (s := ⟨#[108, 105, 115, 116, 40, 32, 105, 110, 116, 41]⟩) pz rfl _ (HT.out.below (B2.out.alloc B2.out.size _)))
  rintro e w3 ⟨za, zc, rfl, _, hb3⟩
  have BA := B2.out.alloc B2.out.size (.cells #[.int .i64 tLS.kd, .slice ya tLS.ln yc] 24)
  have hA : Below w2.heap.size w2 (w2.alloc (.cells #[.int .i64 tLS.kd, .slice ya tLS.ln yc] 24)) := (Below.refl _ _).alloc (Nat.le_refl _) _
  have YB := Lib.hid ((TwoAt.new w2 24 (.int .i64 tLS.kd) (.slice ya tLS.ln yc)).below hb3)
  have XB := Lib.hid ((XB.out.below hA).below hb3)
  have Q3 := Lib.hid ((Q2.out.below hA).below hb3)
  have B3 := Lib.hid (BA.trans (hb3.mono BA.size))
  have X3 := Lib.hid (TailC.below hb3 _ _ (TailC.below hA _ _ X2.out))
  have Y3 := Lib.hid (TailC.below hb3 _ _ (TailC.below hA _ _ Y2.out))
  clear hb3 BA hA X1 X2 Y2 Q1 Q2 B1 B2
  go_wp2_with fail
  have hA : Below w3.heap.size w3 (w3.alloc (.cells #[.int .i64 (Tc.leaf 0).kd, .slice za (Tc.leaf 0).ln zc] 24)) := (Below.refl _ _).alloc (Nat.le_refl _) _
  have Q4 := Q3.out.below hA
  have XB4 := XB.out.below hA
  have YB4 := YB.out.below hA
  have hs0 : SA w w1.heap.size w2.heap.size xa xc ya yc (w3.alloc (.cells #[.int .i64 (Tc.leaf 0).kd, .slice za (Tc.leaf 0).ln zc] 24)) := ⟨XB4.cell0, XB4.cell1, YB4.cell0, YB4.cell1, Q4.number.cell0, Q4.number.cell1, Q4.str.cell0, Q4.str.cell1, B3.out.trans (hA.mono B3.out.size), TailC.below hA _ _ X3.out, TailC.below hA _ _ Y3.out, Q4⟩
  obtain ⟨W0, hW0⟩ : ∃ W0, W0 = w3.alloc (.cells #[.int .i64 (Tc.leaf 0).kd, .slice za (Tc.leaf 0).ln zc] 24) := ⟨_, rfl⟩
  obtain ⟨X, hX⟩ : ∃ X, X = w1.heap.size := ⟨_, rfl⟩
  obtain ⟨Y, hY⟩ : ∃ Y, Y = w2.heap.size := ⟨_, rfl⟩
  rw [← hW0, ← hX, ← hY] at hs0
  rw [← hW0, ← hX, ← hY]
  clear Q4 hW0 hX hY hA XB4 YB4 XB YB Q3 B3 X3 Y3
  have VX := Lib.hid (fun w' (h : SA w X Y xa xc ya yc w') => validC (c := xc) tLI_ok (by decide) w' h.2.2.2.2.2.2.2.2.2.1)
  have WI := Lib.hid (fun k a v n c w => rWith_any k a v n c w)
  have SX := Lib.hid (fun w' b (h : SA w X Y xa xc ya yc w') hlt h0 h1 => sameW (t := tLI) (c := xc) (k := 3) w' b h.2.2.2.2.2.2.2.2.2.1 hlt h0 h1 rfl)
  have SY := Lib.hid (fun w' b (h : SA w X Y xa xc ya yc w') hlt h0 h1 => sameW (t := tLS) (c := yc) (k := 4) w' b h.2.2.2.2.2.2.2.2.2.2.1 hlt h0 h1 rfl)
  go_upto_region 8 with fail
  go_cut [57] (fun s57 wx => s57 = .bool false ∧ SA w X Y xa xc ya yc wx)
  case first =>
    have hd0 : SA w X Y xa xc ya yc W0.drew := hs0.below ((Below.refl _ W0).drew)
    go_region_held3 (fun w' => w'.cell? ⟨X, 0, none⟩ = some (.int .i64 tLI.kd) ∧ w'.cell? ⟨X, 1, none⟩ = some (.slice xa tLI.ln xc) ∧ w'.cell? ⟨Y, 0, none⟩ = some (.int .i64 tLS.kd) ∧ w'.cell? ⟨Y, 1, none⟩ = some (.slice ya tLS.ln yc) ∧ w'.cell? ⟨w.heap.size + 1 + 1, 0, none⟩ = some (.int .i64 3) ∧ w'.cell? ⟨w.heap.size + 1 + 1, 1, none⟩ = some (.slice none 0 0) ∧ w'.cell? ⟨w.heap.size + 1 + 1 + 1, 0, none⟩ = some (.int .i64 4) ∧ w'.cell? ⟨w.heap.size + 1 + 1 + 1, 1, none⟩ = some (.slice none 0 0) ∧ (Below w.heap.size w w' ∧ TailC w' xa tLI ∧ TailC w' ya tLS ∧ Box4 w.heap.size w')) (first | exact hd0 | exact SA.below (by assumption) (by assumption)) (first
      | (go_at_call 11; go_fit (VX.out _ (by assumption)); rintro e w4 ⟨rfl, hb4⟩)
      | (go_at_call 33; go_fit (WI.out _ _ _ _ _ _); rintro e w5 ⟨b, rfl, hg, hc0, hc1, hb5⟩)
      | (go_at_call 15; go_fit (SX.out _ b (by assumption) hg.2 hc0 hc1); rintro e w6 ⟨rfl, hb6⟩)
      | (go_at_call 15; go_fit (SY.out _ b (by assumption) hg.2 hc0 hc1); rintro e w7 ⟨rfl, hb7⟩))
    go_wp2_with fail
    go_meet
    refine ⟨rfl, ?_⟩
    assumption
  case rest =>
    obtain ⟨rfl, hs1⟩ := hcut
    clear hs0 VX SX SY WI
    have JX := Lib.hid (fun w' (h : SA w X Y xa xc ya yc w') => Join_any tLI.deep tLS.deep (.agg #[.int .i64 tLI.kd, .slice xa tLI.ln xc]) (.agg #[.int .i64 tLS.kd, .slice ya tLS.ln yc]) tLI.ty tLS.ty w' (isT_C tLI_ok ⟨xa, xc, rfl, h.2.2.2.2.2.2.2.2.2.1⟩) (isT_C tLS_ok ⟨ya, yc, rfl, h.2.2.2.2.2.2.2.2.2.2.1⟩))
    have MX := Lib.hid (fun w' (h : SA w X Y xa xc ya yc w') => Meet_any tLI.deep tLS.deep (.agg #[.int .i64 tLI.kd, .slice xa tLI.ln xc]) (.agg #[.int .i64 tLS.kd, .slice ya tLS.ln yc]) tLI.ty tLS.ty w' (isT_C tLI_ok ⟨xa, xc, rfl, h.2.2.2.2.2.2.2.2.2.1⟩) (isT_C tLS_ok ⟨ya, yc, rfl, h.2.2.2.2.2.2.2.2.2.2.1⟩))
    have MN := Lib.hid (fun w' (h : SA w X Y xa xc ya yc w') => Meet_any tLI.deep 1 (.agg #[.int .i64 tLI.kd, .slice xa tLI.ln xc]) (.agg #[.int .i64 3, .slice none 0 0]) tLI.ty (Tc.leaf 3).ty w' (isT_C tLI_ok ⟨xa, xc, rfl, h.2.2.2.2.2.2.2.2.2.1⟩) (isT_C (show (Tc.leaf 3).ok by show leafK 3; unfold leafK; omega) ⟨none, 0, rfl, trivial⟩))
    rw [e_join] at JX
    rw [e_meet] at MX
    rw [e_none] at MN
    obtain ⟨a1, a2, a3, a4, a5, a6, a7, a8, _⟩ := id hs1
    have HS1 := Lib.hid hs1
    clear hs1
    go_wp2_with fail
    go_fit (JX.out _ HS1.out)
    rintro e w8a ⟨V, rfl, hV, hb⟩
    have HS2a := Lib.hid (HS1.out.below hb)
    have SH := Lib.hid (showC (.node 5 (.leaf 0)) n50 (by decide) _ e_tx1 V w8a hV (HT.out.below HS2a.out.2.2.2.2.2.2.2.2.1))
    obtain ⟨va, vc, rfl, _⟩ := hV
    clear hb
    go_wp2_with fail
    go_fit (SH.out)
    rintro e w8b ⟨rfl, hb⟩
    have HS2 := Lib.hid (HS2a.out.below hb)
    obtain ⟨a1, a2, a3, a4, a5, a6, a7, a8, _⟩ := id HS2.out
    clear hb SH HS2a
    go_wp2_with fail
    go_fit (MX.out _ HS2.out)
    rintro e w9a ⟨V, rfl, hV, hb⟩
    have HS3a := Lib.hid (HS2.out.below hb)
    have SH := Lib.hid (showC (.node 5 (.leaf 7)) n57 (by decide) _ e_tx2 V w9a hV (HT.out.below HS3a.out.2.2.2.2.2.2.2.2.1))
    obtain ⟨va, vc, rfl, _⟩ := hV
    clear hb
    go_wp2_with fail
    go_fit (SH.out)
    rintro e w9b ⟨rfl, hb⟩
    have HS3 := Lib.hid (HS3a.out.below hb)
    obtain ⟨a1, a2, a3, a4, a5, a6, a7, a8, _⟩ := id HS3.out
    clear hb SH HS3a
    go_wp2_with fail
    go_fit (MN.out _ HS3.out)
    rintro e wqa ⟨V, rfl, hV, hb⟩
    have HS4a := Lib.hid (HS3.out.below hb)
    have SH := Lib.hid (showC (.leaf 7) leaf7 (by decide) _ e_tx3 V wqa hV (HT.out.below HS4a.out.2.2.2.2.2.2.2.2.1))
    obtain ⟨va, vc, rfl, _⟩ := hV
    clear hb
    go_wp2_with fail
    go_fit (SH.out)
    rintro e wqb ⟨rfl, hb⟩
    have HS4 := Lib.hid (HS4a.out.below hb)
    obtain ⟨a1, a2, a3, a4, a5, a6, a7, a8, _⟩ := id HS4.out
    clear hb SH HS4a
    clear JX MX MN HS1 HS2 HS3
    obtain ⟨-, o0, o1, o2, o3, o4, o5⟩ := HS4.out.2.2.2.2.2.2.2.2.2.2.2.one
    obtain ⟨-, i0, i1, i2, i3, i4, i5⟩ := HS4.out.2.2.2.2.2.2.2.2.2.2.2.a
    go_wp2_with fail
    have hLb : Below wqb.heap.size wqb ((wqb.alloc (.cells #[.int .i64 2, .bool false, .int .i64 1, .string ⟨#[]⟩, .slice none 0 0, .slice none 0 0, .int .i64 3, .bool false, .int .i64 0, .string ⟨#[97]⟩, .slice none 0 0, .slice none 0 0] 33)).alloc (.cells #[.int .i64 4, .bool false, .int .i64 0, .string ⟨#[]⟩, .slice (some ⟨wqb.heap.size, 0, none⟩) 2 2, .slice none 0 0] 33)) := (by repeat (first | exact Below.refl _ _ | refine Below.setCell ?_ (by simp <;> omega) _ | refine Below.alloc ?_ (by simp <;> omega) _))
    have HS5 := HS4.out.below hLb
    have BL : Both ((wqb.alloc (.cells #[.int .i64 2, .bool false, .int .i64 1, .string ⟨#[]⟩, .slice none 0 0, .slice none 0 0, .int .i64 3, .bool false, .int .i64 0, .string ⟨#[97]⟩, .slice none 0 0, .slice none 0 0] 33)).alloc (.cells #[.int .i64 4, .bool false, .int .i64 0, .string ⟨#[]⟩, .slice (some ⟨wqb.heap.size, 0, none⟩) 2 2, .slice none 0 0] 33)) wqb.heap.size := Both.below (w := wqb.alloc (.cells #[.int .i64 2, .bool false, .int .i64 1, .string ⟨#[]⟩, .slice none 0 0, .slice none 0 0, .int .i64 3, .bool false, .int .i64 0, .string ⟨#[97]⟩, .slice none 0 0, .slice none 0 0] 33)) ⟨by simp, heap_alloc_new wqb _⟩ ((Below.refl _ _).alloc (Nat.le_refl _) _)
    have VV := V6_new (wqb.alloc (.cells #[.int .i64 2, .bool false, .int .i64 1, .string ⟨#[]⟩, .slice none 0 0, .slice none 0 0, .int .i64 3, .bool false, .int .i64 0, .string ⟨#[97]⟩, .slice none 0 0, .slice none 0 0] 33)) 4 false 0 ⟨#[]⟩ (.slice (some ⟨wqb.heap.size, 0, none⟩) 2 2) (.slice none 0 0)
    simp only [World.size_alloc] at VV
    obtain ⟨W5, hW5⟩ : ∃ W5, W5 = (wqb.alloc (.cells #[.int .i64 2, .bool false, .int .i64 1, .string ⟨#[]⟩, .slice none 0 0, .slice none 0 0, .int .i64 3, .bool false, .int .i64 0, .string ⟨#[97]⟩, .slice none 0 0, .slice none 0 0] 33)).alloc (.cells #[.int .i64 4, .bool false, .int .i64 0, .string ⟨#[]⟩, .slice (some ⟨wqb.heap.size, 0, none⟩) 2 2, .slice none 0 0] 33) := ⟨_, rfl⟩
    rw [← hW5] at HS5 BL VV ⊢
    clear hW5 hLb
    obtain ⟨LB, hLB⟩ : ∃ LB, LB = wqb.heap.size := ⟨_, rfl⟩
    rw [← hLB] at BL VV ⊢
    clear hLB
    have O0 := Lib.hid (Of_any 0 _ vNone W5 (isV_none W5) (HT.out.below HS5.2.2.2.2.2.2.2.2.1))
    rw [e_of0] at O0
    have HS5 := Lib.hid HS5
    have BL := Lib.hid BL
    have VV := Lib.hid VV
    clear HS4
    go_fit (O0.out)
    rintro e w11 ⟨V, rfl, ⟨ea, ec, rfl, hE⟩, hb⟩
    have hA : Below w11.heap.size w11 (w11.alloc (.cells #[.int .i64 (Tc.node 5 (.leaf 7)).kd, .slice ea (Tc.node 5 (.leaf 7)).ln ec] 24)) := (Below.refl _ _).alloc (Nat.le_refl _) _
    have HS6 := (HS5.out.below hb).below hA
    have BL6 := (BL.out.below hb).below hA
    have VV6 := ((VV.out.below VV.out.1 hb).below (VV.out.below VV.out.1 hb).1 hA)
    have EB := TwoAt.new w11 24 (.int .i64 (Tc.node 5 (.leaf 7)).kd) (.slice ea (Tc.node 5 (.leaf 7)).ln ec)
    have E6 := TailC.below hA _ _ hE
    have HS6 := Lib.hid HS6
    have BL6 := Lib.hid BL6
    have VV6 := Lib.hid VV6
    have EB := Lib.hid EB
    have E6 := Lib.hid E6
    have LS := Lib.hid (show Last w X Y LB w11.heap.size xa xc ya yc ea ec (w11.alloc (.cells #[.int .i64 (Tc.node 5 (.leaf 7)).kd, .slice ea (Tc.node 5 (.leaf 7)).ln ec] 24)) from ⟨HS6.out, BL6.out, VV6.out, EB.out, E6.out⟩)
    clear hb hA hE HS5 BL VV O0 o0 o1 o2 o3 o4 o5 i0 i1 i2 i3 i4 i5 a1 a2 a3 a4 a5 a6 a7 a8 HS6 BL6 VV6 EB E6
    obtain ⟨EBK, hEBK⟩ : ∃ EBK, EBK = w11.heap.size := ⟨_, rfl⟩
    obtain ⟨W6, hW6⟩ : ∃ W6, W6 = w11.alloc (.cells #[.int .i64 (Tc.node 5 (.leaf 7)).kd, .slice ea (Tc.node 5 (.leaf 7)).ln ec] 24) := ⟨_, rfl⟩
    rw [← hW6, ← hEBK] at LS
    obtain ⟨-, v0, v1, v2, v3, v4, v5⟩ := LS.out.v
    have e0 := LS.out.e.cell0
    have e1 := LS.out.e.cell1
    obtain ⟨a1, a2, a3, a4, a5, a6, a7, a8, _⟩ := id LS.out.sa
    obtain ⟨-, o0, o1, o2, o3, o4, o5⟩ := LS.out.sa.2.2.2.2.2.2.2.2.2.2.2.one
    rw [hW6] at v0 v1 v2 v3 v4 v5 e0 e1 a1 a2 a3 a4 a5 a6 a7 a8 o0 o1 o2 o3 o4 o5
    rw [hEBK] at e0 e1
    have OF1 := Lib.hid (Of_any 1 _ vBoth W6 (isV_both LS.out.both) (HT.out.below LS.out.sa.2.2.2.2.2.2.2.2.1))
    rw [e_of1, hW6] at OF1
    go_wp2_with fail
    go_fit (OF1.out)
    rintro e w12 ⟨V, rfl, hV, hb⟩
    rw [← hW6] at hb
    clear v0 v1 v2 v3 v4 v5 e0 e1 a1 a2 a3 a4 a5 a6 a7 a8 o0 o1 o2 o3 o4 o5
    have LS := Lib.hid (LS.out.below hb)
    have SH := Lib.hid (showC (.node 5 (.leaf 0)) n50 (by decide) _ e_tx1 V w12 hV (HT.out.below LS.out.sa.2.2.2.2.2.2.2.2.1))
    obtain ⟨va, vc, rfl, _⟩ := hV
    clear hb OF1
    rw [← hEBK]
    clear hW6 hEBK
    go_wp2_with fail
    go_fit (SH.out)
    rintro e w13 ⟨rfl, hb⟩
    have LS := Lib.hid (LS.out.below hb)
    obtain ⟨-, v0, v1, v2, v3, v4, v5⟩ := LS.out.v
    have e0 := LS.out.e.cell0
    have e1 := LS.out.e.cell1
    obtain ⟨a1, a2, a3, a4, a5, a6, a7, a8, _⟩ := id LS.out.sa
    obtain ⟨-, o0, o1, o2, o3, o4, o5⟩ := LS.out.sa.2.2.2.2.2.2.2.2.2.2.2.one
    clear hb SH
    have S1 := Lib.hid (Sub_any (Tc.node 5 (.leaf 7)).deep tLI.deep _ _ (Tc.node 5 (.leaf 7)).ty tLI.ty w13 (isT_C n57 ⟨ea, ec, rfl, LS.out.ec⟩) (isT_C tLI_ok ⟨xa, xc, rfl, LS.out.sa.2.2.2.2.2.2.2.2.2.1⟩))
    rw [e_s1] at S1
    go_wp2_with fail
    go_fit (S1.out)
    rintro e w14 ⟨rfl, hb⟩
    clear v0 v1 v2 v3 v4 v5 e0 e1 a1 a2 a3 a4 a5 a6 a7 a8 o0 o1 o2 o3 o4 o5
    have LS := Lib.hid (LS.out.below hb)
    obtain ⟨-, v0, v1, v2, v3, v4, v5⟩ := LS.out.v
    have e0 := LS.out.e.cell0
    have e1 := LS.out.e.cell1
    obtain ⟨a1, a2, a3, a4, a5, a6, a7, a8, _⟩ := id LS.out.sa
    obtain ⟨-, o0, o1, o2, o3, o4, o5⟩ := LS.out.sa.2.2.2.2.2.2.2.2.2.2.2.one
    clear hb S1
    have S2 := Lib.hid (Sub_any tLI.deep tLS.deep _ _ tLI.ty tLS.ty w14 (isT_C tLI_ok ⟨xa, xc, rfl, LS.out.sa.2.2.2.2.2.2.2.2.2.1⟩) (isT_C tLS_ok ⟨ya, yc, rfl, LS.out.sa.2.2.2.2.2.2.2.2.2.2.1⟩))
    rw [e_s2] at S2
    go_wp2_with fail
    go_fit (S2.out)
    rintro e w15 ⟨rfl, hb⟩
    clear v0 v1 v2 v3 v4 v5 e0 e1 a1 a2 a3 a4 a5 a6 a7 a8 o0 o1 o2 o3 o4 o5
    have LS := Lib.hid (LS.out.below hb)
    obtain ⟨-, v0, v1, v2, v3, v4, v5⟩ := LS.out.v
    have e0 := LS.out.e.cell0
    have e1 := LS.out.e.cell1
    obtain ⟨a1, a2, a3, a4, a5, a6, a7, a8, _⟩ := id LS.out.sa
    obtain ⟨-, o0, o1, o2, o3, o4, o5⟩ := LS.out.sa.2.2.2.2.2.2.2.2.2.2.2.one
    clear hb S2
    have F1 := Lib.hid (Fits_any 1 tLI.deep _ _ vBoth tLI.ty w15 (isV_both LS.out.both) (isT_C tLI_ok ⟨xa, xc, rfl, LS.out.sa.2.2.2.2.2.2.2.2.2.1⟩) (HT.out.below LS.out.sa.2.2.2.2.2.2.2.2.1))
    rw [e_f1] at F1
    go_wp2_with fail
    go_fit (F1.out)
    rintro e w16 ⟨rfl, hb⟩
    clear v0 v1 v2 v3 v4 v5 e0 e1 a1 a2 a3 a4 a5 a6 a7 a8 o0 o1 o2 o3 o4 o5
    have LS := Lib.hid (LS.out.below hb)
    obtain ⟨-, v0, v1, v2, v3, v4, v5⟩ := LS.out.v
    have e0 := LS.out.e.cell0
    have e1 := LS.out.e.cell1
    obtain ⟨a1, a2, a3, a4, a5, a6, a7, a8, _⟩ := id LS.out.sa
    obtain ⟨-, o0, o1, o2, o3, o4, o5⟩ := LS.out.sa.2.2.2.2.2.2.2.2.2.2.2.one
    clear hb F1
    have F2 := Lib.hid (Fits_any 0 1 _ _ vOne (Tc.leaf 3).ty w16 (isV_one w16) (isT_C (t := .leaf 3) (show leafK 3 by unfold leafK; omega) ⟨none, 0, rfl, trivial⟩) (HT.out.below LS.out.sa.2.2.2.2.2.2.2.2.1))
    rw [e_f2] at F2
    go_wp2_with fail
    go_fit (F2.out)
    rintro e w17 ⟨rfl, hb⟩
    clear v0 v1 v2 v3 v4 v5 e0 e1 a1 a2 a3 a4 a5 a6 a7 a8 o0 o1 o2 o3 o4 o5
    have LS := Lib.hid (LS.out.below hb)
    go_wp2_with fail
    go_ret
    exact ⟨rfl, LS.out.sa.2.2.2.2.2.2.2.2.1⟩
end Go.Proofs.YtabopneehhnhfabDoor
