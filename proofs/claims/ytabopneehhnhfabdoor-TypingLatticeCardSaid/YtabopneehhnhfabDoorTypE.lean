/- Contracts of the program's compound, simple, of, validKind and Valid (typing). -/
import Derived.Test.YtabopneehhnhfabDoorTypD
namespace Go.Proofs.YtabopneehhnhfabDoor
open Go.RowKit Go.Lib

/-- Two cells in a block. -/
structure TwoAt (w : World) (b : Nat) (t : TypeId) (x y : Value) : Prop where
  blk : w.heap[b]? = some (.cells #[x, y] t (0, 0))
theorem TwoAt.lt {w : World} {b : Nat} {t : TypeId} {x y : Value} (h : TwoAt w b t x y) : b < w.heap.size := (Array.getElem?_eq_some_iff.1 h.blk).1
theorem TwoAt.cell0 {w : World} {b : Nat} {t : TypeId} {x y : Value} (h : TwoAt w b t x y) : w.cell? ⟨b, 0, none⟩ = some x := by
  have h := h.blk
  simp [World.cell?, h]
theorem TwoAt.cell1 {w : World} {b : Nat} {t : TypeId} {x y : Value} (h : TwoAt w b t x y) : w.cell? ⟨b, 1, none⟩ = some y := by
  have h := h.blk
  simp [World.cell?, h]
theorem TwoAt.frozen {w : World} {b : Nat} {t : TypeId} {x y : Value} (h : TwoAt w b t x y) (k : Nat) : w.frozen? ⟨b, k, none⟩ = false := by
  have h := h.blk
  simp [World.frozen?, h]
theorem TwoAt.of_block {w w' : World} {b : Nat} {t : TypeId} {x y : Value} (h : TwoAt w b t x y) (e : w'.heap[b]? = w.heap[b]?) : TwoAt w' b t x y := ⟨e.trans h.blk⟩
theorem TwoAt.below {w w' : World} {b : Nat} {t : TypeId} {x y : Value} (h : TwoAt w b t x y) (hb : Below w.heap.size w w') : TwoAt w' b t x y := h.of_block (hb.block b h.lt)
theorem TwoAt.alloc {w : World} {b : Nat} {t : TypeId} {x y : Value} (h : TwoAt w b t x y) (o : Obj) : TwoAt (w.alloc o) b t x y := h.of_block (Below.heap_alloc w o b h.lt)
theorem TwoAt.drew {w : World} {b : Nat} {t : TypeId} {x y : Value} (h : TwoAt w b t x y) : TwoAt w.drew b t x y := ⟨h.blk⟩
theorem TwoAt.new (w : World) (t : TypeId) (x y : Value) : TwoAt (w.alloc (.cells #[x, y] t)) w.heap.size t x y := ⟨heap_alloc_new w _⟩
theorem TwoAt.set0 {w : World} {b : Nat} {t : TypeId} {x y : Value} (h : TwoAt w b t x y) (u : Value) : TwoAt (w.setCell ⟨b, 0, none⟩ u) b t u y := by
  have h := h.blk
  constructor
  simp [World.setCell, Array.getElem?_modify, h]
theorem TwoAt.set1 {w : World} {b : Nat} {t : TypeId} {x y : Value} (h : TwoAt w b t x y) (u : Value) : TwoAt (w.setCell ⟨b, 1, none⟩ u) b t x u := by
  have h := h.blk
  constructor
  simp [World.setCell, Array.getElem?_modify, h]
/-- A type, spelled out, reads as a tree of at most m + 1 levels. -/
def IsT (m : Nat) (w : World) (V : Value) (x : Ty) : Prop := ∃ k l av c, x = .mk k l ∧ V = .agg #[.int .i64 k, .slice av l.length c] ∧ (-9223372036854775808 ≤ k ∧ k ≤ 9223372036854775807) ∧ l.length ≤ 9223372036854775807 ∧ ReadsT m w av l
theorem IsT.below {w w' : World} {m : Nat} {V : Value} {x : Ty} (h : IsT m w V x) (hb : Below w.heap.size w w') : IsT m w' V x := by
  obtain ⟨k, l, av, c, e, eV, g0, g1, hl⟩ := h
  exact ⟨k, l, av, c, e, eV, g0, g1, ReadsT.below hb m av l hl⟩
/-- A type, spelled out, lies as a chain. -/
def IsC (w : World) (V : Value) (t : Tc) : Prop := ∃ av c, V = .agg #[.int .i64 t.kd, .slice av t.ln c] ∧ TailC w av t
theorem IsC.below {w w' : World} {V : Value} {t : Tc} (h : IsC w V t) (hb : Below w.heap.size w w') : IsC w' V t := by
  obtain ⟨av, c, e, h⟩ := h
  exact ⟨av, c, e, TailC.below hb t av h⟩
theorem isC_of {m : Nat} {w : World} {V : Value} {t : Tc} (h : IsT m w V t.ty) : IsC w V t := by
  obtain ⟨k, l, av, c, e, rfl, _, _, hl⟩ := h
  obtain ⟨rfl, e2, h3⟩ := chain_of t m w av k l e.symm hl
  exact ⟨av, c, by rw [e2], h3⟩

theorem nat_zero0 (n : Nat) : ((n : Int) == 0) = (n == 0) := by
  by_cases h : n = 0
  · subst h; rfl
  · have : ¬ (n : Int) = 0 := by omega
    rw [beq_eq_false_iff_ne.2 this, beq_eq_false_iff_ne.2 h]
def nodeB (k : Int) : Bool := k == 5 || k == 6
theorem tyCompound_any (k : Int) (w : World) : Calls Tryd.prog 31 #[.int .i64 k] w fun e w' => e = .returned (.bool (nodeB k)) ∧ w = w' := by
  go_enter Tryd.func31, Tryd.ntmps31
  go_wp2_with fail
  all_goals
    go_ret
    exact ⟨by simp_all [nodeB], rfl⟩
theorem tySimple_any (k : Int) (w : World) : Calls Tryd.prog 35 #[.int .i64 k] w fun e w' => e = .returned (.agg #[.int .i64 k, .slice none 0 0]) ∧ Below w.heap.size w w' := by
  go_enter Tryd.func35, Tryd.ntmps35
  go_wp2_with fail
  exact bodyPost_ret (v := .agg #[.int .i64 k, .slice none 0 0]) (by simp [results, Tryd.f35, go_sem]) rfl ⟨rfl, by repeat (first | exact Below.refl _ _ | refine Below.setCell ?_ (by simp <;> omega) _ | refine Below.alloc ?_ (by simp <;> omega) _)⟩
theorem tyOf_any (k a : Int) (v : Option Addr) (n c : Nat) (w : World) : Calls Tryd.prog 55 #[.int .i64 k, .agg #[.int .i64 a, .slice v n c]] w fun e w' => ∃ b, e = .returned (.agg #[.int .i64 k, .slice (some ⟨b, 0, none⟩) 1 1]) ∧ (w.heap.size ≤ b ∧ b < w'.heap.size) ∧ w'.cell? ⟨b, 0, none⟩ = some (.int .i64 a) ∧ w'.cell? ⟨b, 1, none⟩ = some (.slice v n c) ∧ Below w.heap.size w w' := by
  go_enter Tryd.func55, Tryd.ntmps55
  go_wp2_with fail
  exact bodyPost_ret (v := .agg #[.int .i64 k, .slice (some ⟨w.heap.size + 1 + 1, 0, none⟩) 1 1]) (by simp [results, Tryd.f55, go_sem]) rfl ⟨w.heap.size + 1 + 1, rfl, by (simp; try omega), by simp [go_sem], by simp [go_sem], by repeat (first | exact Below.refl _ _ | refine Below.setCell ?_ (by simp <;> omega) _ | refine Below.alloc ?_ (by simp <;> omega) _)⟩
theorem int1 (n : Nat) : ((n : Int) == 1) = (n == 1) := by
  by_cases h : n = 1
  · subst h; rfl
  · have : ¬ (n : Int) = 1 := by omega
    rw [beq_eq_false_iff_ne.2 this, beq_eq_false_iff_ne.2 h]
def vkB (k : Int) (n : Nat) : Bool := if nodeB k then n == 1 else decide (0 ≤ k) && decide (k < 8) && n == 0
theorem tyVK_any (k : Int) (v : Option Addr) (n c : Nat) (w : World) : Calls Tryd.prog 30 #[.agg #[.int .i64 k, .slice v n c]] w fun e w' => e = .returned (.bool (vkB k n)) ∧ Below w.heap.size w w' := by
  have X := Lib.hid (fun w => tyCompound_any k w)
  cases hq : nodeB k
  · rw [hq] at X
    have E := Lib.hid (show vkB k n = (decide (0 ≤ k) && decide (k < 8) && n == 0) by unfold vkB; rw [hq]; rfl)
    clear hq
    go_enter Tryd.func30, Tryd.ntmps30
    go_wp2_with fail
    go_fit (X.out _)
    rintro e w1 ⟨rfl, rfl⟩
    go_wp2_with fail
    all_goals
      go_ret
      exact ⟨by rw [E.out]; simp_all [nat_zero0]; try omega, by repeat (first | exact Below.refl _ _ | refine Below.setCell ?_ (by simp <;> omega) _ | refine Below.alloc ?_ (by simp <;> omega) _)⟩
  · rw [hq] at X
    have E := Lib.hid (show vkB k n = (n == 1) by unfold vkB; rw [hq]; rfl)
    have e1 := int1 n
    obtain ⟨q, hq2⟩ : ∃ q, q = (n == 1) := ⟨_, rfl⟩
    rw [← hq2] at e1 E
    clear hq hq2
    go_enter Tryd.func30, Tryd.ntmps30
    go_wp2_with fail
    go_fit (X.out _)
    rintro e w1 ⟨rfl, rfl⟩
    go_wp2_with fail
    go_ret
    exact ⟨by rw [E.out]; rfl, by repeat (first | exact Below.refl _ _ | refine Below.setCell ?_ (by simp <;> omega) _ | refine Below.alloc ?_ (by simp <;> omega) _)⟩

theorem vkB_ok {k : Int} {n : Nat} (h : vkB k n = true) (hk : nodeB k = false) : n = 0 := by
  unfold vkB at h
  rw [hk] at h
  simp at h
  exact h.2
theorem vkB_node {k : Int} {n : Nat} (h : vkB k n = true) (hk : nodeB k = true) : n = 1 := by
  unfold vkB at h
  rw [hk] at h
  simpa using h
theorem chkT_succ (n : Nat) (k : Int) (l : List Ty) : chkT (n + 1) (.mk k l) = if k < 0 ∨ 7 < k then 1 else if k = 5 ∨ k = 6 then (match l with | [x] => chkT n x | _ => 1) else if l.length = 0 then 0 else 1 := rfl
/-- One level of Valid. -/
theorem chkT_vk (n : Nat) (k : Int) (l : List Ty) : chkT (n + 1) (.mk k l) = if vkB k l.length = false then 1 else if nodeB k = false then 0 else match l with | [x] => chkT n x | _ => 1 := by
  rw [chkT_succ]
  unfold vkB nodeB
  by_cases h1 : k = 5 ∨ k = 6
  · have h2 : ¬ (k < 0 ∨ 7 < k) := by omega
    have h3 : (k == 5 || k == 6) = true := by simpa using h1
    rw [if_neg h2, if_pos h1, h3]
    match l with
    | [] => rfl
    | [x] => rfl
    | _ :: _ :: _ => simp
  · have h3 : (k == 5 || k == 6) = false := by simpa using h1
    rw [if_neg h1, h3]
    by_cases h2 : k < 0 ∨ 7 < k
    · rw [if_pos h2, if_pos]
      simp
      omega
    · rw [if_neg h2]
      by_cases h4 : l.length = 0
      · rw [if_pos h4, if_neg]
        · rfl
        · simp [h4]; omega
      · rw [if_neg h4, if_pos]
        simp [h4]

set_option maxHeartbeats 4000000 in
theorem validT_any (m : Nat) (V : Value) (x : Ty) (w : World) (hV : IsT m w V x) :
    Calls Tryd.prog 11 #[V] w fun e w' => e = .returned (.int .i64 (chkT 16 x : Nat)) ∧ Below w.heap.size w w' := by
  obtain ⟨k, l, av, c, rfl, rfl, g0, g1, hl⟩ := hV
  have X := Lib.hid (fun k v n c w => tyVK_any k v n c w)
  have Y := Lib.hid (fun k w => tyCompound_any k w)
  obtain ⟨r, hr⟩ : ∃ r, r = chkT 16 (.mk k l) := ⟨_, rfl⟩
  have HR := Lib.hid hr
  have HL := Lib.hid hl
  rw [← hr]
  clear hr hl
  go_enter Tryd.func11, Tryd.ntmps11
  go_wp2_with fail
  go_loopw [3] (fun s3 wr => ∃ (j m' : Nat) (k' : Int) (l' : List Ty) (av' : Option Addr) (c' : Nat), j ≤ 16 ∧ s3 = .int .i64 (j : Int) ∧ Hid (r = chkT (16 - j) (.mk k' l')) ∧ Hid (ReadsT m' w av' l') ∧ TwoAt wr w.heap.size 24 (.int .i64 k') (.slice av' l'.length c') ∧ Hid (Below w.heap.size w wr)) (fun s3 _ => 17 - (RowKit.intOf s3).toNat)
  case atStart => exact ⟨0, m, k, l, av, c, by omega, rfl, HR, HL, TwoAt.new _ _ _ _, Lib.hid ((Below.refl _ _).alloc (Nat.le_refl _) _)⟩
  case round =>
    obtain ⟨j, m', k', l', av', c', hj, rfl, HE, HL', TW, HB⟩ := hrel
    have c0 := TW.cell0
    have c1 := TW.cell1
    have f0 := TW.frozen 0
    have f1 := TW.frozen 1
    have hz := TW.lt
    by_cases hlt : j < 16
    · have hst := chkT_vk (15 - j) k' l'
      rw [show 15 - j + 1 = 16 - j by omega, ← HE.out] at hst
      have X1 := Lib.hid (fun w => X.out k' av' l'.length c' w)
      have hjI : (j : Int) < 16 := by omega
      cases hq : vkB k' l'.length
      · rw [hq, if_pos rfl] at hst
        rw [hq] at X1
        have HS := Lib.hid hst
        clear hst hq HL HL'
        go_wp2_with fail
        go_fit (X1.out _)
        rintro e w1 ⟨rfl, hb1⟩
        have B1 := Lib.hid (HB.out.trans (hb1.mono HB.out.size))
        clear hb1
        go_wp2_with fail
        go_ret
        exact ⟨by rw [HS.out]; rfl, B1.out⟩
      · rw [if_neg (by rw [hq]; decide)] at hst
        rw [hq] at X1
        have Y1 := Lib.hid (fun w => Y.out k' w)
        cases hq2 : nodeB k'
        · rw [hq2, if_pos rfl] at hst
          rw [hq2] at Y1
          have HS := Lib.hid hst
          clear hst hq hq2 HL HL'
          go_wp2_with fail
          go_fit (X1.out _)
          rintro e w1 ⟨rfl, hb1⟩
          have B1 := Lib.hid (HB.out.trans (hb1.mono HB.out.size))
          have d0 := (hb1.cell (p := ⟨w.heap.size, 0, none⟩) hz).trans c0
          clear hb1
          go_wp2_with fail
          go_fit (Y1.out _)
          rintro e w2 ⟨rfl, rfl⟩
          go_wp2_with fail
          go_ret
          exact ⟨by rw [HS.out]; rfl, B1.out⟩
        · rw [hq2, if_neg (by decide)] at hst
          rw [hq2] at Y1
          have h1 := vkB_node hq hq2
          obtain ⟨y, rfl⟩ : ∃ y, l' = [y] := List.length_eq_one_iff.1 h1
          have hrd := HL'.out
          cases m' with
          | zero => exact absurd (show [y] = [] from hrd) (by simp)
          | succ m' =>
            obtain ⟨b, off, k2, l2, a2, c2, e0, rfl, hb0, p0, p1, q0, q1, hl2⟩ := hrd 0 (by simp)
            have e0 : y = .mk k2 l2 := by simpa using e0
            subst e0
            rw [Nat.zero_mul, Nat.add_zero] at p0 p1
            have r0 := (HB.out.cell (p := ⟨b, _, none⟩) hb0).trans p0
            have r1 := (HB.out.cell (p := ⟨b, _, none⟩) hb0).trans p1
            have hbz := Nat.lt_of_lt_of_le hb0 HB.out.size
            have hbn : b ≠ w.heap.size := by omega
            have HS := Lib.hid (show r = chkT (16 - (j + 1)) (.mk k2 l2) by rw [hst]; show chkT (15 - j) _ = _; rw [show 16 - (j + 1) = 15 - j by omega])
            have HL2 := Lib.hid hl2
            clear hst hq hq2 HL HL' hrd hl2 p0 p1 h1
            have hone : ([Ty.mk k2 l2]).length = 1 := rfl
            rw [hone] at c1 X1 TW
            clear hone
            go_wp2_with fail
            go_fit (X1.out _)
            rintro e w1 ⟨rfl, hb1⟩
            have B1 := Lib.hid (HB.out.trans (hb1.mono HB.out.size))
            have TW1 := TW.below hb1
            have d0 := TW1.cell0
            have d1 := TW1.cell1
            have g0 := TW1.frozen 0
            have g1 := TW1.frozen 1
            have s0 := (hb1.cell (p := ⟨b, _, none⟩) hbz).trans r0
            have s1 := (hb1.cell (p := ⟨b, _, none⟩) hbz).trans r1
            have z1 := Nat.lt_of_lt_of_le hz hb1.size
            clear hb1
            go_wp2_with fail
            go_fit (Y1.out _)
            rintro e w2 ⟨rfl, rfl⟩
            go_wp2_with fail
            exact ⟨⟨j + 1, m', k2, l2, a2, c2, by omega, by go_num, HS, HL2, (TW1.set0 _).set1 _, Lib.hid (by repeat (first | exact B1.out | refine Below.setCell ?_ (by simp <;> omega) _))⟩, by simp [RowKit.intOf]; omega⟩
    · have hj16 : j = 16 := by omega
      subst hj16
      have HS := Lib.hid (show r = 13 from HE.out)
      clear HE HL HL'
      go_wp2_with fail
      go_ret
      exact ⟨by rw [HS.out]; rfl, HB.out⟩
end Go.Proofs.YtabopneehhnhfabDoor
