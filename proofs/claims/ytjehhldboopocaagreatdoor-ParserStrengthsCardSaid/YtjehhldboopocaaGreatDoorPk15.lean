/- Contracts of functions of the program, and what they are made of (parser; Pk15). -/
import Derived.Test.YtjehhldboopocaaGreatDoorPk14
import Derived.Laws.EntriesVeiled
import Derived.Laws.ResultCell
namespace Go.Proofs.YtjehhldboopocaaGreatDoor.Lx
open Go.RowKit Go.Lib
set_option linter.unusedVariables false
/-- The error of a token's text. -/
def vtE (k : Int) (t : List UInt8) : Nat := if k = 1 then (if 64 < t.length then 3 else 0) else if k = 3 then (if 4096 < t.length then 3 else 0) else if k = 2 then numE t else if k = 4 then (if t = [] then 5 else 0) else 0
set_option maxHeartbeats 4000000 in
set_option maxRecDepth 100000 in
theorem validText_any (k p : Int) (s : ByteArray) (hk : k = 1 ∨ (k = 2 ∧ 0 < s.size) ∨ k = 3 ∨ k = 4 ∨ k = 5) (hs : s.size ≤ 1099511627776) (w : World) (hT : TabL w) :
    Calls Tryz.prog 79 #[.agg #[.int .i64 k, .string s, .int .i64 p]] w fun e w' => e = .returned (.int .i64 (vtE k s.data.toList : Nat)) ∧ Below w.heap.size w w' := by
  have hl := lenB s
  rcases hk with rfl | ⟨rfl, h0⟩ | rfl | rfl | rfl
  · have L0 := fun w => limited_any s 64 w
    have hv : (if (64 : Int) < (s.size : Int) then (3 : Int) else 0) = (vtE 1 s.data.toList : Nat) := by
      show _ = ((if 64 < s.data.toList.length then 3 else 0 : Nat) : Int)
      rw [hl]
      by_cases h : 64 < s.size
      · rw [if_pos h, if_pos (by omega)]; rfl
      · rw [if_neg h, if_neg (by omega)]; rfl
    rw [hv] at L0
    have LI := Lib.hid L0
    clear L0 hv
    go_enter Tryz.func79, Tryz.ntmps79
    go_wp2_with fail
    go_fit (LI.out _)
    rintro e w1 ⟨rfl, rfl⟩
    go_wp2_with fail
    go_ret
    exact ⟨rfl, (Below.refl _ _).alloc (Nat.le_refl _) _⟩
  · have VN := Lib.hid (fun o => validNumber_any s h0 hs (w.alloc o) (hT.below ((Below.refl _ _).alloc (Nat.le_refl _) o)))
    have HE := Lib.hid (show vtE 2 s.data.toList = numE s.data.toList from rfl)
    go_enter Tryz.func79, Tryz.ntmps79
    go_wp2_with fail
    go_fit (VN.out _)
    rintro e w1 ⟨rfl, hb⟩
    have HB := Lib.hid (((Below.refl w.heap.size w).alloc (Nat.le_refl _) _).trans (hb.mono (by simp)))
    clear hb
    go_wp2_with fail
    go_ret
    exact ⟨by rw [HE.out]; rfl, HB.out⟩
  · have L0 := fun w => limited_any s 4096 w
    have hv : (if (4096 : Int) < (s.size : Int) then (3 : Int) else 0) = (vtE 3 s.data.toList : Nat) := by
      show _ = ((if 4096 < s.data.toList.length then 3 else 0 : Nat) : Int)
      rw [hl]
      by_cases h : 4096 < s.size
      · rw [if_pos h, if_pos (by omega)]; rfl
      · rw [if_neg h, if_neg (by omega)]; rfl
    rw [hv] at L0
    have LI := Lib.hid L0
    clear L0 hv
    go_enter Tryz.func79, Tryz.ntmps79
    go_wp2_with fail
    go_fit (LI.out _)
    rintro e w1 ⟨rfl, rfl⟩
    go_wp2_with fail
    go_ret
    exact ⟨rfl, (Below.refl _ _).alloc (Nat.le_refl _) _⟩
  · cases hq : s.toList.isEmpty
    · have HE := Lib.hid (show vtE 4 s.data.toList = 0 from by
        unfold vtE
        rw [if_neg (by decide), if_neg (by decide), if_neg (by decide), if_pos rfl, if_neg]
        intro h
        rw [Lib.toList_data, h] at hq
        cases hq)
      go_enter Tryz.func79, Tryz.ntmps79
      go_wp2_with fail
      go_ret
      exact ⟨by rw [HE.out]; rfl, (Below.refl _ _).alloc (Nat.le_refl _) _⟩
    · have HE := Lib.hid (show vtE 4 s.data.toList = 5 from by
        unfold vtE
        rw [if_neg (by decide), if_neg (by decide), if_neg (by decide), if_pos rfl, if_pos]
        rw [Lib.toList_data] at hq
        exact List.isEmpty_iff.1 hq)
      go_enter Tryz.func79, Tryz.ntmps79
      go_wp2_with fail
      go_ret
      exact ⟨by rw [HE.out]; rfl, (Below.refl _ _).alloc (Nat.le_refl _) _⟩
  · have HE := Lib.hid (show vtE 5 s.data.toList = 0 from rfl)
    go_enter Tryz.func79, Tryz.ntmps79
    go_wp2_with fail
    go_ret
    exact ⟨by rw [HE.out]; rfl, (Below.refl _ _).alloc (Nat.le_refl _) _⟩

/-- A token as the program holds it. -/
def tkV (k : Int) (t : List UInt8) (p : Int) : Value := .agg #[.int .i64 k, .string ⟨t.toArray⟩, .int .i64 p]
/-- What first answers: kind, text, length, error. -/
def firF : List UInt8 → Int × List UInt8 × Nat × Nat
  | [] => (0, [], 0, 0)
  | c :: r =>
    if clsK (c.toNat : Int) = 3 then
      (if (txtU (r.length + 1) r [] 1).2.2 = 0 then (3, (txtU (r.length + 1) r [] 1).1, (txtU (r.length + 1) r [] 1).2.1, vtE 3 (txtU (r.length + 1) r [] 1).1) else (0, [], 0, (txtU (r.length + 1) r [] 1).2.2))
    else if clsK (c.toNat : Int) = 5 then (5, [], 1, 0)
    else if clsK (c.toNat : Int) = 4 then (4, opsF (c :: r), (opsF (c :: r)).length, vtE 4 (opsF (c :: r)))
    else (clsK (c.toNat : Int), (c :: r).takeWhile wrdB, ((c :: r).takeWhile wrdB).length, vtE (clsK (c.toNat : Int)) ((c :: r).takeWhile wrdB))
/-- Three cells in a block. -/
structure ThrAt (w : World) (b : Nat) (t : TypeId) (x y z : Value) : Prop where
  blk : w.heap[b]? = some (.cells #[x, y, z] t (0, 0))
namespace ThrAt
variable {w : World} {b : Nat} {t : TypeId} {x y z : Value}
theorem lt (h : ThrAt w b t x y z) : b < w.heap.size := (Array.getElem?_eq_some_iff.1 h.blk).1
theorem cell0 (h : ThrAt w b t x y z) : w.cell? ⟨b, 0, none⟩ = some x := by
  have h := h.blk
  simp [World.cell?, h]
theorem cell1 (h : ThrAt w b t x y z) : w.cell? ⟨b, 1, none⟩ = some y := by
  have h := h.blk
  simp [World.cell?, h]
theorem cell2 (h : ThrAt w b t x y z) : w.cell? ⟨b, 2, none⟩ = some z := by
  have h := h.blk
  simp [World.cell?, h]
theorem frozen (h : ThrAt w b t x y z) (k : Nat) : w.frozen? ⟨b, k, none⟩ = false := by
  have h := h.blk
  simp [World.frozen?, h]
theorem of_block {w' : World} (h : ThrAt w b t x y z) (e : w'.heap[b]? = w.heap[b]?) : ThrAt w' b t x y z := ⟨e.trans h.blk⟩
theorem below {w' : World} (h : ThrAt w b t x y z) (hb : Below w.heap.size w w') : ThrAt w' b t x y z := h.of_block (hb.block b h.lt)
theorem drew (h : ThrAt w b t x y z) : ThrAt w.drew b t x y z := ⟨h.blk⟩
theorem new (w : World) (t : TypeId) (x y z : Value) : ThrAt (w.alloc (.cells #[x, y, z] t)) w.heap.size t x y z := ⟨heap_alloc_new w _⟩
theorem set0 (h : ThrAt w b t x y z) (u : Value) : ThrAt (w.setCell ⟨b, 0, none⟩ u) b t u y z := by
  have h := h.blk
  constructor
  simp [World.setCell, Array.getElem?_modify, h]
theorem set1 (h : ThrAt w b t x y z) (u : Value) : ThrAt (w.setCell ⟨b, 1, none⟩ u) b t x u z := by
  have h := h.blk
  constructor
  simp [World.setCell, Array.getElem?_modify, h]
theorem set2 (h : ThrAt w b t x y z) (u : Value) : ThrAt (w.setCell ⟨b, 2, none⟩ u) b t x y u := by
  have h := h.blk
  constructor
  simp [World.setCell, Array.getElem?_modify, h]
end ThrAt
theorem firF_cons (c : UInt8) (r : List UInt8) : firF (c :: r) =
    if clsK (c.toNat : Int) = 3 then
      (if (txtU (r.length + 1) r [] 1).2.2 = 0 then (3, (txtU (r.length + 1) r [] 1).1, (txtU (r.length + 1) r [] 1).2.1, vtE 3 (txtU (r.length + 1) r [] 1).1) else (0, [], 0, (txtU (r.length + 1) r [] 1).2.2))
    else if clsK (c.toNat : Int) = 5 then (5, [], 1, 0)
    else if clsK (c.toNat : Int) = 4 then (4, opsF (c :: r), (opsF (c :: r)).length, vtE 4 (opsF (c :: r)))
    else (clsK (c.toNat : Int), (c :: r).takeWhile wrdB, ((c :: r).takeWhile wrdB).length, vtE (clsK (c.toNat : Int)) ((c :: r).takeWhile wrdB)) := rfl
theorem results_cell_tmp2 {fn : Func} {p u v : Tmp} {ty : TypeId} (h : fn.results = #[.cell p ty, .tmp u, .tmp v]) (tmps : Array Value) (P : Program) (w : World) :
    (results fn tmps).run P w =
      ((asAddr (tmps.getD p undef)).run P w).andThen fun a w₁ => ((loadVar ty a).run P w₁).andThen fun x w₂ => .ok (.tuple #[x, tmps.getD u undef, tmps.getD v undef]) w₂ := by
  simp only [results, h]
  simp [Sem.run_bind, Result.andThen]
theorem cell_heap {w : World} {b k : Nat} {c : Array Value} {t : TypeId} {v : Value} (h : w.heap[b]? = some (.cells c t (0, 0))) (hv : c[k]? = some v) : w.cell? ⟨b, k, none⟩ = some v := by
  simp [World.cell?, h, hv]
theorem fir_new (w : World) (a b c f x y z : Value) (t1 t2 : TypeId) :
    (((w.alloc (.cells #[a, b, c] t2)).alloc (.cells #[f] t1)).alloc (.cells #[x, y, z] t2)).drew.cell? ⟨w.heap.size + 1, 0, none⟩ = some f ∧ ThrAt (((w.alloc (.cells #[a, b, c] t2)).alloc (.cells #[f] t1)).alloc (.cells #[x, y, z] t2)).drew (w.heap.size + 2) t2 x y z ∧ ThrAt (((w.alloc (.cells #[a, b, c] t2)).alloc (.cells #[f] t1)).alloc (.cells #[x, y, z] t2)).drew w.heap.size t2 a b c := by
  have h1 : (w.alloc (.cells #[a, b, c] t2)).heap.size = w.heap.size + 1 := by simp
  have h2 : ((w.alloc (.cells #[a, b, c] t2)).alloc (.cells #[f] t1)).heap.size = w.heap.size + 2 := by simp
  have e1 := heap_alloc_new (w.alloc (.cells #[a, b, c] t2)) (.cells #[f] t1)
  have e2 := Below.heap_alloc ((w.alloc (.cells #[a, b, c] t2)).alloc (.cells #[f] t1)) (.cells #[x, y, z] t2) (w.heap.size + 1) (by omega)
  rw [h1] at e1
  have n := ThrAt.new ((w.alloc (.cells #[a, b, c] t2)).alloc (.cells #[f] t1)) t2 x y z
  rw [h2] at n
  have r0 := ThrAt.new w t2 a b c
  have r1 := r0.of_block (Below.heap_alloc (w.alloc (.cells #[a, b, c] t2)) (.cells #[f] t1) w.heap.size (by omega))
  have r2 := r1.of_block (Below.heap_alloc ((w.alloc (.cells #[a, b, c] t2)).alloc (.cells #[f] t1)) (.cells #[x, y, z] t2) w.heap.size (by omega))
  exact ⟨cell_heap (w := (((w.alloc (.cells #[a, b, c] t2)).alloc (.cells #[f] t1)).alloc (.cells #[x, y, z] t2)).drew) (e2.trans e1) rfl, n.drew, r2.drew⟩
/-- What stands when the token is checked. -/
def SF (w : World) (k : Int) (d : ByteArray) (w' : World) : Prop :=
  w'.cell? ⟨w.heap.size + 2, 0, none⟩ = some (.int .i64 k) ∧ w'.cell? ⟨w.heap.size + 2, 1, none⟩ = some (.string d) ∧ w'.cell? ⟨w.heap.size + 2, 2, none⟩ = some (.int .i64 0) ∧ w'.cell? ⟨w.heap.size, 0, none⟩ = some (.int .i64 0) ∧ w'.cell? ⟨w.heap.size, 1, none⟩ = some (.string ⟨#[]⟩) ∧ w'.cell? ⟨w.heap.size, 2, none⟩ = some (.int .i64 0) ∧ w'.frozen? ⟨w.heap.size, 0, none⟩ = false ∧ w'.frozen? ⟨w.heap.size, 1, none⟩ = false ∧ w'.frozen? ⟨w.heap.size, 2, none⟩ = false ∧ ThrAt w' (w.heap.size + 2) 52 (.int .i64 k) (.string d) (.int .i64 0) ∧ ThrAt w' w.heap.size 52 (.int .i64 0) (.string ⟨#[]⟩) (.int .i64 0) ∧ Below w.heap.size w w'
theorem SF.mk {w : World} {k : Int} {d : ByteArray} {w' : World} (h : ThrAt w' (w.heap.size + 2) 52 (.int .i64 k) (.string d) (.int .i64 0)) (g : ThrAt w' w.heap.size 52 (.int .i64 0) (.string ⟨#[]⟩) (.int .i64 0)) (b : Below w.heap.size w w') : SF w k d w' :=
  ⟨h.cell0, h.cell1, h.cell2, g.cell0, g.cell1, g.cell2, g.frozen 0, g.frozen 1, g.frozen 2, h, g, b⟩
theorem SF.below {w : World} {k : Int} {d : ByteArray} {w1 w2 : World} (h : SF w k d w1) (hb : Below w1.heap.size w1 w2) : SF w k d w2 := by
  obtain ⟨_, _, _, _, _, _, _, _, _, h1, h2, h3⟩ := h
  exact SF.mk (h1.below hb) (h2.below hb) (h3.trans (hb.mono h3.size))
theorem SF.drew {w : World} {k : Int} {d : ByteArray} {w1 : World} (h : SF w k d w1) : SF w k d w1.drew := h.below (Below.refl _ _).drew
theorem SF.bel {w : World} {k : Int} {d : ByteArray} {w1 : World} (h : SF w k d w1) : Below w.heap.size w w1 := h.2.2.2.2.2.2.2.2.2.2.2
theorem txtU_len : ∀ (n : Nat) (l acc : List UInt8) (k : Nat), (txtU n l acc k).1.length ≤ acc.length + l.length
  | 0, l, acc, k => by simp [txtU]
  | n + 1, [], acc, k => by simp [txtU]
  | n + 1, c :: r, acc, k => by
    rw [txtU_cons]
    by_cases h1 : c = 34
    · rw [if_pos h1]
      exact Nat.le_add_right _ _
    · rw [if_neg h1]
      by_cases h2 : (chrA (c :: r)).2.2 ≠ 0
      · rw [if_pos h2]
        simp
      · rw [if_neg h2]
        have h3 := txtU_len n ((c :: r).drop (chrA (c :: r)).2.1) (acc ++ [(chrA (c :: r)).1]) (k + (chrA (c :: r)).2.1)
        have h4 := (chrA_app (c :: r) [] (by simpa using h2)).2
        rw [List.length_drop, List.length_append, List.length_singleton] at h3
        omega
theorem clsK_five (c : Int) : clsK c = 1 ∨ clsK c = 2 ∨ clsK c = 3 ∨ clsK c = 4 ∨ clsK c = 5 := by
  unfold clsK
  (repeat' split) <;> simp
set_option maxHeartbeats 8000000 in
set_option maxRecDepth 100000 in
theorem first_any (s : ByteArray) (h0 : 0 < s.size) (hs : s.size ≤ 1099511627776) (w : World) (hT : TabL w) (hO : TabO w) :
    Calls Tryz.prog 43 #[.string s] w fun e w' => e = .returned (.tuple #[tkV (firF s.data.toList).1 (firF s.data.toList).2.1 0, .int .i64 ((firF s.data.toList).2.2.1 : Nat), .int .i64 ((firF s.data.toList).2.2.2 : Nat)]) ∧ Below w.heap.size w w' := by
  have hl := lenB s
  have HT := Lib.hid hT
  have HO := Lib.hid hO
  have CL := Lib.hid (fun c w => class_any c w)
  have i0 := fun w => ixS s 0 0 rfl h0 w
  have h0I : (0 : Int) < (s.size : Int) := by omega
  have hc9 := (s[0]).toNat_lt
  have hcI : (0 : Int) ≤ ((s[0]).toNat : Int) ∧ ((s[0]).toNat : Int) ≤ 255 := by omega
  have hcons : s.data.toList = s[0] :: s.data.toList.drop 1 := by
    have h := drop_consB s 0 h0
    rwa [List.drop_zero] at h
  have CLc := Lib.hid (fun w => CL.out (((s[0]).toNat : Nat) : Int) w)
  clear CL hT hO
  go_enter Tryz.func43, Tryz.ntmps43
  go_wp2_with fail
  obtain ⟨cn, hcn⟩ : ∃ cn : Nat, cn = (s[0]).toNat := ⟨_, rfl⟩
  rw [← hcn] at CLc hc9 hcI i0
  have g1 := Lib.hid hcn
  have g2 := Lib.hid hcons
  have hcw : IntKind.i32.wrap (cn : Int) = (cn : Int) := by
    rw [IntKind.wrap_i32]
    omega
  clear hcn hcons
  have PX := Lib.hid (fun w' h => prefix_any s (w.heap.size + 1) w' h)
  have VT := Lib.hid (fun k x hk hs w' h => validText_any k 0 x hk hs w' h)
  go_cut [7] (fun s7 wx => s7 = .pointer (some ⟨w.heap.size + 2, 0, none⟩) ∧ Hid (ClsAt wx (w.heap.size + 1)) ∧ Hid (Below w.heap.size w wx) ∧ Hid (ThrAt wx (w.heap.size + 2) 52 (.int .i64 (clsK (cn : Int))) (.string ⟨#[]⟩) (.int .i64 0)) ∧ Hid (ThrAt wx w.heap.size 52 (.int .i64 0) (.string ⟨#[]⟩) (.int .i64 0)))
  case first =>
    go_region_with (go_at_call 74; go_fit (CLc.out _); rintro e w2 ⟨rfl, rfl⟩)
    all_goals
      go_wp2_with fail
      go_meet
      exact ⟨rfl, Lib.hid (fir_new w _ _ _ _ _ _ _ _ _).1, Lib.hid ((((Below.refl _ _).alloc (Nat.le_refl _) _).alloc (by simp) _).alloc (by simp; omega) _).drew, Lib.hid (fir_new w _ _ _ _ _ _ _ _ _).2.1, Lib.hid (fir_new w _ _ _ _ _ _ _ _ _).2.2⟩
  case rest =>
    obtain ⟨rfl, HC, HB, HK, HR⟩ := hcut
    have hgt : cn = cn := rfl
    rcases (show (clsK (cn : Int) = 1 ∨ clsK (cn : Int) = 2) ∨ clsK (cn : Int) = 3 ∨ clsK (cn : Int) = 4 ∨ clsK (cn : Int) = 5 by have := clsK_five (cn : Int); omega) with hk | hk | hk | hk
    · obtain ⟨d, hd⟩ : ∃ d : ByteArray, d = ⟨(s.data.toList.takeWhile wrdB).toArray⟩ := ⟨_, rfl⟩
      have hde : d.data.toList = s.data.toList.takeWhile wrdB := by rw [hd]
      have hd0 : 0 < d.size := by
        rw [← lenB, hde, g2.out, List.takeWhile_cons]
        have : wrdB s[0] = true := by
          rw [← clsK_wrd, ← g1.out]
          rcases hk with h | h <;> rw [h] <;> rfl
        rw [this, if_pos rfl]
        simp
      have hds : d.size ≤ s.size := by
        rw [← lenB, hde, ← lenB]
        exact (List.takeWhile_prefix _).length_le
      have HF := Lib.hid (show firF s.data.toList = (clsK (cn : Int), d.data.toList, d.size, vtE (clsK (cn : Int)) d.data.toList) from by
        rw [← lenB d, hde, g2.out, firF_cons, ← g1.out]
        rcases hk with h | h <;> rw [if_neg (by omega), if_neg (by omega), if_neg (by omega)])
      have HD := Lib.hid hd
      have PXs := PX
      have hPX : ∀ w', ClsAt w' (w.heap.size + 1) → Calls Tryz.prog 76 #[.string s, .func (.func 75) #[] #[.pointer (some ⟨w.heap.size + 1, 0, none⟩)]] w' fun e w'' => e = .returned (.string d) ∧ Below w'.heap.size w' w'' := by
        rw [hd]
        exact PX.out
      have HPX := Lib.hid hPX
      have hkk : (clsK (cn : Int) == 1 || clsK (cn : Int) == 2) = true := by rcases hk with h | h <;> rw [h] <;> rfl
      have HVT := Lib.hid (fun w' h => VT.out (clsK (cn : Int)) d (hk.elim .inl (fun h => .inr (.inl ⟨h, hd0⟩))) (by omega) w' h)
      generalize clsK (cn : Int) = k at *
      generalize vtE k d.data.toList = vt at *
      clear hd hde PX PXs hPX VT CLc g1 g2 i0 hcw
      have c0 := HK.out.cell0
      cases q1 : (k == 1)
      · have q2 : (k == 2) = true := by rw [q1] at hkk; exact hkk
        clear hk hkk
        go_wp2_with fail
        go_fit (HPX.out _ HC.out)
        rintro e w2 ⟨rfl, hb⟩
        have K1 := HK.out.below hb
        have B1 := HB.out.trans (hb.mono HB.out.size)
        have kf := K1.frozen 1
        have kc := K1.cell1
        have R1 := HR.out.below hb
        have hs0 : SF w k d (w2.setCell ⟨w.heap.size + 2, 1, none⟩ (.string d)) := SF.mk (K1.set1 (.string d)) (R1.of_block (Below.heap_setCell _ _ _ _ (by show w.heap.size ≠ w.heap.size + 2; omega))) (B1.setCell (p := ⟨w.heap.size + 2, 1, none⟩) (by show _ ≤ w.heap.size + 2; omega) (.string d))
        have k1 := hs0.2.1
        clear hb K1 B1 R1 c0
        go_wp2_with fail
        clear kf kc k1
        generalize w2.setCell ⟨w.heap.size + 2, 1, none⟩ (.string d) = W at *
        have hsd := hs0.drew
        obtain ⟨n0, n1, n2, p0, p1, p2, g0, g1, g2, -⟩ := id hsd
        go_region_with (go_at_call 79; go_fit (HVT.out _ (HT.out.below hsd.bel)); rintro e w3 ⟨rfl, hb3⟩; have hs3 := hsd.below hb3; obtain ⟨m0, m1, m2, r0, r1, r2, f0, f1, f2, -⟩ := id hs3)
        all_goals
          go_wp2_with fail
          have HQ := ((hs3.2.2.2.2.2.2.2.2.2.2.1.set0 (.int .i64 k)).set1 (.string d)).set2 (.int .i64 0)
          have z0 := HQ.cell0
          have z1 := HQ.cell1
          have z2 := HQ.cell2
          have hbz := hs3.bel
          (try simp only [Exit.inBlock, Exit.then])
          refine bodyPost_ret (v := .tuple #[.agg #[.int .i64 k, .string d, .int .i64 0], .int .i64 (d.size : Nat), .int .i64 (vt : Nat)]) ?_ rfl ⟨?_, ?_⟩
          · rw [results_cell_tmp2 rfl]
            go_simp
          · rw [HF.out]
            rfl
          · exact ((hbz.setCell (p := ⟨w.heap.size, 0, none⟩) (Nat.le_refl _) _).setCell (p := ⟨w.heap.size, 1, none⟩) (Nat.le_refl _) _).setCell (p := ⟨w.heap.size, 2, none⟩) (Nat.le_refl _) _
      · clear hk hkk
        go_wp2_with fail
        go_fit (HPX.out _ HC.out)
        rintro e w2 ⟨rfl, hb⟩
        have K1 := HK.out.below hb
        have B1 := HB.out.trans (hb.mono HB.out.size)
        have kf := K1.frozen 1
        have kc := K1.cell1
        have R1 := HR.out.below hb
        have hs0 : SF w k d (w2.setCell ⟨w.heap.size + 2, 1, none⟩ (.string d)) := SF.mk (K1.set1 (.string d)) (R1.of_block (Below.heap_setCell _ _ _ _ (by show w.heap.size ≠ w.heap.size + 2; omega))) (B1.setCell (p := ⟨w.heap.size + 2, 1, none⟩) (by show _ ≤ w.heap.size + 2; omega) (.string d))
        have k1 := hs0.2.1
        clear hb K1 B1 R1 c0
        go_wp2_with fail
        clear kf kc k1
        generalize w2.setCell ⟨w.heap.size + 2, 1, none⟩ (.string d) = W at *
        have hsd := hs0.drew
        obtain ⟨n0, n1, n2, p0, p1, p2, g0, g1, g2, -⟩ := id hsd
        go_region_with (go_at_call 79; go_fit (HVT.out _ (HT.out.below hsd.bel)); rintro e w3 ⟨rfl, hb3⟩; have hs3 := hsd.below hb3; obtain ⟨m0, m1, m2, r0, r1, r2, f0, f1, f2, -⟩ := id hs3)
        all_goals
          go_wp2_with fail
          have HQ := ((hs3.2.2.2.2.2.2.2.2.2.2.1.set0 (.int .i64 k)).set1 (.string d)).set2 (.int .i64 0)
          have z0 := HQ.cell0
          have z1 := HQ.cell1
          have z2 := HQ.cell2
          have hbz := hs3.bel
          (try simp only [Exit.inBlock, Exit.then])
          refine bodyPost_ret (v := .tuple #[.agg #[.int .i64 k, .string d, .int .i64 0], .int .i64 (d.size : Nat), .int .i64 (vt : Nat)]) ?_ rfl ⟨?_, ?_⟩
          · rw [results_cell_tmp2 rfl]
            go_simp
          · rw [HF.out]
            rfl
          · exact ((hbz.setCell (p := ⟨w.heap.size, 0, none⟩) (Nat.le_refl _) _).setCell (p := ⟨w.heap.size, 1, none⟩) (Nat.le_refl _) _).setCell (p := ⟨w.heap.size, 2, none⟩) (Nat.le_refl _) _
    · rw [hk] at HK
      have UQ := Lib.hid (fun w' h => unquoted_any s h0 hs w' h)
      obtain ⟨R, hR⟩ : ∃ R, R = txtU (s.data.toList.tail.length + 1) s.data.toList.tail [] 1 := ⟨_, rfl⟩
      rw [← hR] at UQ
      have htl : s.data.toList.tail = s.data.toList.drop 1 := by rw [List.drop_one]
      have hRl : R.1.length ≤ s.size := by
        have h := txtU_len (s.data.toList.tail.length + 1) s.data.toList.tail [] 1
        rw [← hR, List.length_tail, lenB] at h
        simp at h
        omega
      have HF := Lib.hid (show firF s.data.toList = (if R.2.2 = 0 then (3, R.1, R.2.1, vtE 3 R.1) else (0, [], 0, R.2.2)) from by
        rw [hR, htl, g2.out, firF_cons, ← g1.out, hk, if_pos rfl, List.drop_succ_cons, List.drop_zero])
      obtain ⟨x, n, er⟩ := R
      simp only at UQ HF hRl
      obtain ⟨d, hd⟩ : ∃ d : ByteArray, d = ⟨x.toArray⟩ := ⟨_, rfl⟩
      have hde : d.data.toList = x := by rw [hd]
      rw [← hd] at UQ
      have hds : d.size ≤ s.size := by rw [← lenB, hde]; exact hRl
      have HVT := Lib.hid (fun w' h => VT.out 3 d (by simp) (by omega) w' h)
      rw [← hde] at HF
      generalize vtE 3 d.data.toList = vt at *
      have c0 := HK.out.cell0
      by_cases her : er = 0
      · subst her
        rw [if_pos rfl] at HF
        clear hd hde PX VT CLc g1 g2 i0 hcw hk hR htl hRl
        go_wp2_with fail
        go_fit (UQ.out _ (HT.out.below HB.out))
        rintro e w2 ⟨rfl, hb⟩
        have K1 := HK.out.below hb
        have B1 := HB.out.trans (hb.mono HB.out.size)
        have kf := K1.frozen 1
        have kc := K1.cell1
        have R1 := HR.out.below hb
        have hs0 : SF w 3 d (w2.setCell ⟨w.heap.size + 2, 1, none⟩ (.string d)) := SF.mk (K1.set1 (.string d)) (R1.of_block (Below.heap_setCell _ _ _ _ (by show w.heap.size ≠ w.heap.size + 2; omega))) (B1.setCell (p := ⟨w.heap.size + 2, 1, none⟩) (by show _ ≤ w.heap.size + 2; omega) (.string d))
        have k1 := hs0.2.1
        clear hb K1 B1 R1 c0
        go_wp2_with fail
        clear kf kc k1
        generalize w2.setCell ⟨w.heap.size + 2, 1, none⟩ (.string d) = W at *
        have hsd := hs0.drew
        obtain ⟨n0, n1, n2, p0, p1, p2, g0, g1, g2, -⟩ := id hsd
        go_region_with (go_at_call 79; go_fit (HVT.out _ (HT.out.below hsd.bel)); rintro e w3 ⟨rfl, hb3⟩; have hs3 := hsd.below hb3; obtain ⟨m0, m1, m2, r0, r1, r2, f0, f1, f2, -⟩ := id hs3)
        all_goals
          go_wp2_with fail
          have HQ := ((hs3.2.2.2.2.2.2.2.2.2.2.1.set0 (.int .i64 3)).set1 (.string d)).set2 (.int .i64 0)
          have z0 := HQ.cell0
          have z1 := HQ.cell1
          have z2 := HQ.cell2
          have hbz := hs3.bel
          (try simp only [Exit.inBlock, Exit.then])
          refine bodyPost_ret (v := .tuple #[.agg #[.int .i64 3, .string d, .int .i64 0], .int .i64 (n : Nat), .int .i64 (vt : Nat)]) ?_ rfl ⟨?_, ?_⟩
          · rw [results_cell_tmp2 rfl]
            go_simp
          · rw [HF.out]
            rfl
          · exact ((hbz.setCell (p := ⟨w.heap.size, 0, none⟩) (Nat.le_refl _) _).setCell (p := ⟨w.heap.size, 1, none⟩) (Nat.le_refl _) _).setCell (p := ⟨w.heap.size, 2, none⟩) (Nat.le_refl _) _
      · have q3 : ((er : Int) != 0) = true := by rw [bne_iff_ne]; omega
        rw [if_neg her] at HF
        clear hd hde PX VT CLc g1 g2 i0 hcw hk hR htl hRl
        go_wp2_with fail
        go_fit (UQ.out _ (HT.out.below HB.out))
        rintro e w2 ⟨rfl, hb⟩
        have B1 := HB.out.trans (hb.mono HB.out.size)
        have R1 := HR.out.below hb
        clear hb c0
        have r0 := R1.cell0
        have r1 := R1.cell1
        have r2 := R1.cell2
        have f0 := R1.frozen 0
        have f1 := R1.frozen 1
        have f2 := R1.frozen 2
        go_wp2_with fail
        have HQ := ((R1.set0 (.int .i64 0)).set1 (.string ⟨#[]⟩)).set2 (.int .i64 0)
        have z0 := HQ.cell0
        have z1 := HQ.cell1
        have z2 := HQ.cell2
        (try simp only [Exit.inBlock, Exit.then])
        refine bodyPost_ret (v := .tuple #[.agg #[.int .i64 0, .string ⟨#[]⟩, .int .i64 0], .int .i64 0, .int .i64 (er : Nat)]) ?_ rfl ⟨?_, ?_⟩
        · rw [results_cell_tmp2 rfl]
          go_simp
        · rw [HF.out]
          rfl
        · exact ((B1.setCell (p := ⟨w.heap.size, 0, none⟩) (Nat.le_refl _) _).setCell (p := ⟨w.heap.size, 1, none⟩) (Nat.le_refl _) _).setCell (p := ⟨w.heap.size, 2, none⟩) (Nat.le_refl _) _
    · rw [hk] at HK
      obtain ⟨d, hd⟩ : ∃ d : ByteArray, d = ⟨(opsF s.data.toList).toArray⟩ := ⟨_, rfl⟩
      have hde : d.data.toList = opsF s.data.toList := by rw [hd]
      have hds : d.size ≤ s.size := by
        rw [← lenB, hde, ← lenB, g2.out, opsF_opL, List.length_take]
        exact Nat.min_le_right _ _
      have HF := Lib.hid (show firF s.data.toList = (4, d.data.toList, d.size, vtE 4 d.data.toList) from by
        rw [← lenB d, hde, g2.out, firF_cons, ← g1.out, hk]
        rfl)
      have OP := Lib.hid (fun w' h => operator_any s w' h)
      rw [← hd] at OP
      have HVT := Lib.hid (fun w' h => VT.out 4 d (by simp) (by omega) w' h)
      generalize vtE 4 d.data.toList = vt at *
      clear hd hde PX VT CLc g1 g2 i0 hcw hk
      have c0 := HK.out.cell0
      go_wp2_with fail
      go_fit (OP.out _ (HO.out.below HB.out))
      rintro e w2 ⟨rfl, rfl⟩
      have K1 := HK.out
      have kf := K1.frozen 1
      have kc := K1.cell1
      have hs0 : SF w 4 d (wc.setCell ⟨w.heap.size + 2, 1, none⟩ (.string d)) := SF.mk (K1.set1 (.string d)) (HR.out.of_block (Below.heap_setCell _ _ _ _ (by show w.heap.size ≠ w.heap.size + 2; omega))) (HB.out.setCell (p := ⟨w.heap.size + 2, 1, none⟩) (by show _ ≤ w.heap.size + 2; omega) (.string d))
      have k1 := hs0.2.1
      clear K1 c0
      go_wp2_with fail
      clear kf kc k1
      generalize wc.setCell ⟨w.heap.size + 2, 1, none⟩ (.string d) = W at *
      have hsd := hs0.drew
      obtain ⟨n0, n1, n2, p0, p1, p2, g0, g1, g2, -⟩ := id hsd
      go_region_with (go_at_call 79; go_fit (HVT.out _ (HT.out.below hsd.bel)); rintro e w3 ⟨rfl, hb3⟩; have hs3 := hsd.below hb3; obtain ⟨m0, m1, m2, r0, r1, r2, f0, f1, f2, -⟩ := id hs3)
      all_goals
        go_wp2_with fail
        have HQ := ((hs3.2.2.2.2.2.2.2.2.2.2.1.set0 (.int .i64 4)).set1 (.string d)).set2 (.int .i64 0)
        have z0 := HQ.cell0
        have z1 := HQ.cell1
        have z2 := HQ.cell2
        have hbz := hs3.bel
        (try simp only [Exit.inBlock, Exit.then])
        refine bodyPost_ret (v := .tuple #[.agg #[.int .i64 4, .string d, .int .i64 0], .int .i64 (d.size : Nat), .int .i64 (vt : Nat)]) ?_ rfl ⟨?_, ?_⟩
        · rw [results_cell_tmp2 rfl]
          go_simp
        · rw [HF.out]
          rfl
        · exact ((hbz.setCell (p := ⟨w.heap.size, 0, none⟩) (Nat.le_refl _) _).setCell (p := ⟨w.heap.size, 1, none⟩) (Nat.le_refl _) _).setCell (p := ⟨w.heap.size, 2, none⟩) (Nat.le_refl _) _
    · rw [hk] at HK
      obtain ⟨d, hd⟩ : ∃ d : ByteArray, d = ⟨#[]⟩ := ⟨_, rfl⟩
      have HF := Lib.hid (show firF s.data.toList = (5, d.data.toList, 1, 0) from by
        rw [g2.out, firF_cons, ← g1.out, hk, hd]
        rfl)
      have HVT := Lib.hid (fun w' h => VT.out 5 d (by simp) (by rw [hd]; decide) w' h)
      rw [show vtE 5 d.data.toList = 0 from rfl] at HVT
      rw [← hd] at HK
      clear PX VT CLc g1 g2 i0 hcw hk
      have hs0 : SF w 5 d wc := SF.mk HK.out HR.out HB.out
      have c0 := HK.out.cell0
      clear hd
      go_wp2_with fail
      clear c0
      generalize wc = W at *
      have hsd := hs0.drew
      obtain ⟨n0, n1, n2, p0, p1, p2, g0, g1, g2, -⟩ := id hsd
      go_region_with (go_at_call 79; go_fit (HVT.out _ (HT.out.below hsd.bel)); rintro e w3 ⟨rfl, hb3⟩; have hs3 := hsd.below hb3; obtain ⟨m0, m1, m2, r0, r1, r2, f0, f1, f2, -⟩ := id hs3)
      all_goals
        go_wp2_with fail
        have HQ := ((hs3.2.2.2.2.2.2.2.2.2.2.1.set0 (.int .i64 5)).set1 (.string d)).set2 (.int .i64 0)
        have z0 := HQ.cell0
        have z1 := HQ.cell1
        have z2 := HQ.cell2
        have hbz := hs3.bel
        (try simp only [Exit.inBlock, Exit.then])
        refine bodyPost_ret (v := .tuple #[.agg #[.int .i64 5, .string d, .int .i64 0], .int .i64 1, .int .i64 0]) ?_ rfl ⟨?_, ?_⟩
        · rw [results_cell_tmp2 rfl]
          go_simp
        · rw [HF.out]
          rfl
        · exact ((hbz.setCell (p := ⟨w.heap.size, 0, none⟩) (Nat.le_refl _) _).setCell (p := ⟨w.heap.size, 1, none⟩) (Nat.le_refl _) _).setCell (p := ⟨w.heap.size, 2, none⟩) (Nat.le_refl _) _
end Go.Proofs.YtjehhldboopocaaGreatDoor.Lx
namespace Go.Proofs.YtjehhldboopocaaGreatDoor.Lx
open Go.RowKit Go.Lib
set_option linter.unusedVariables false
theorem cls_let {c : UInt8} (h : letB c = true) : clsK (c.toNat : Int) = 1 := by
  have : (97 ≤ (c.toNat : Int) ∧ (c.toNat : Int) ≤ 122) ∨ (65 ≤ (c.toNat : Int) ∧ (c.toNat : Int) ≤ 90) ∨ (c.toNat : Int) = 95 := by
    unfold letB at h
    simp only [Bool.or_eq_true, Bool.and_eq_true, decide_eq_true_eq] at h
    omega
  unfold clsK
  rw [if_pos this]
theorem cls_not {c : UInt8} (h : letB c = false) : ¬ ((97 ≤ (c.toNat : Int) ∧ (c.toNat : Int) ≤ 122) ∨ (65 ≤ (c.toNat : Int) ∧ (c.toNat : Int) ≤ 90) ∨ (c.toNat : Int) = 95) := by
  intro g
  unfold letB at h
  simp at h
  omega
theorem dig_let {c : UInt8} (h : dgB c = true) : letB c = false := by
  unfold dgB at h
  unfold letB
  simp at h ⊢
  omega
theorem cls_dig {c : UInt8} (h : dgB c = true) : clsK (c.toNat : Int) = 2 := by
  have h1 := cls_not (dig_let h)
  unfold dgB at h
  simp at h
  unfold clsK
  rw [if_neg h1, if_pos (by omega)]
theorem cls_op {c : UInt8} (h1 : letB c = false) (h2 : dgB c = false) (h3 : c ≠ 34) (h4 : c ≠ 10) : clsK (c.toNat : Int) = 4 := by
  have g1 := cls_not h1
  unfold dgB at h2
  simp at h2
  unfold clsK
  rw [if_neg g1, if_neg (by omega), if_neg, if_neg]
  · intro e
    exact h4 (u8_of (n := 10) (by decide) (by omega))
  · intro e
    exact h3 (u8_of (n := 34) (by decide) (by omega))
theorem undec_ge : ∀ (l : List UInt8) (acc : Nat), acc * 10 ^ l.length ≤ l.foldl (fun a c => 10 * a + (c.toNat - 48)) acc
  | [], acc => by simp
  | c :: r, acc => by
    have h := undec_ge r (10 * acc + (c.toNat - 48))
    rw [List.foldl_cons, List.length_cons, Nat.pow_succ]
    refine Nat.le_trans ?_ h
    rw [Nat.mul_comm (10 ^ r.length) 10, ← Nat.mul_assoc, Nat.mul_comm acc 10]
    exact Nat.mul_le_mul_right _ (Nat.le_add_right _ _)
theorem undec_len {c : UInt8} {r : List UInt8} (hc : dgB c = true) (h0 : ¬ (1 < (c :: r).length ∧ c = 48)) (hu : undec (c :: r) ≤ 9007199254740992) : (c :: r).length ≤ 16 := by
  by_cases h1 : 1 < (c :: r).length
  · have hc0 : c ≠ 48 := fun e => h0 ⟨h1, e⟩
    have hcn : 1 ≤ c.toNat - 48 := by
      unfold dgB at hc
      simp at hc
      have : c.toNat ≠ 48 := fun e => hc0 (u8_of (n := 48) (by decide) e)
      omega
    have h2 := undec_ge r (c.toNat - 48)
    have h3 : undec (c :: r) = r.foldl (fun a c => 10 * a + (c.toNat - 48)) (c.toNat - 48) := by
      unfold undec
      rw [List.foldl_cons, Nat.mul_zero, Nat.zero_add]
    rw [h3] at hu
    have h4 : 10 ^ r.length ≤ 9007199254740992 := Nat.le_trans (Nat.le_trans (by rw [Nat.mul_comm]; exact Nat.le_mul_of_pos_right _ hcn) h2) hu
    apply Classical.byContradiction
    intro hlt
    have h5 : 16 ≤ r.length := by
      rw [List.length_cons] at hlt
      omega
    have h6 : (10 : Nat) ^ 16 ≤ 10 ^ r.length := Nat.pow_le_pow_right (by decide) h5
    have h7 : (10 : Nat) ^ 16 = 10000000000000000 := by decide
    omega
  · omega
theorem tw_sub {p q : UInt8 → Bool} (h : ∀ c, p c = true → q c = true) : ∀ l : List UInt8, (l.takeWhile p).length ≤ (l.takeWhile q).length ∧ ((l.takeWhile q).all p = true → l.takeWhile p = l.takeWhile q) ∧ ((l.takeWhile q).all p = false → (l.takeWhile p).length < (l.takeWhile q).length)
  | [] => by simp
  | c :: r => by
    obtain ⟨i1, i2, i3⟩ := tw_sub h r
    rw [List.takeWhile_cons, List.takeWhile_cons]
    cases hp : p c
    · cases hq : q c
      · simp
      · simp only [Bool.false_eq_true, if_false, if_true]
        refine ⟨by simp, fun g => ?_, fun _ => by simp⟩
        rw [List.all_cons, hp] at g
        cases g
    · rw [h c hp]
      simp only [if_true]
      refine ⟨by simpa using i1, fun g => ?_, fun g => ?_⟩
      · rw [List.all_cons, hp, Bool.true_and] at g
        rw [i2 g]
      · rw [List.all_cons, hp, Bool.true_and] at g
        have := i3 g
        simpa using this
/-- What first answers is what the token at the head is. -/
theorem firF_tok (c : UInt8) (r : List UInt8) (hc : c ≠ 10) : (tokA (c :: r)).2.2.2 = (firF (c :: r)).2.2.2 ∧ ((firF (c :: r)).2.2.2 = 0 → tokA (c :: r) = firF (c :: r)) := by
  rw [tokA_cons, firF_cons]
  cases hd : dgB c
  · simp only [Bool.false_eq_true, if_false]
    by_cases h34 : c = 34
    · subst h34
      rw [if_pos rfl, if_pos (show clsK (((34 : UInt8).toNat : Nat) : Int) = 3 from by decide), txtN_U]
      obtain ⟨x, n, e⟩ := txtU (r.length + 1) r [] 1
      simp only
      by_cases he : e = 0
      · subst he
        rw [if_pos rfl]
        by_cases hx : 4096 < x.length
        · rw [if_pos ⟨rfl, hx⟩]
          have hv : vtE 3 x = 3 := by
            show (if 4096 < x.length then 3 else 0) = 3
            rw [if_pos hx]
          simp only [strA, hv]
          exact ⟨rfl, fun h => by cases h⟩
        · rw [if_neg (fun h => hx h.2)]
          have hv : vtE 3 x = 0 := by
            show (if 4096 < x.length then 3 else 0) = 0
            rw [if_neg hx]
          rw [hv]
          simp [strA]
      · rw [if_neg he, if_neg (fun h => he h.1)]
        simp only [strA, if_neg he]
        exact ⟨trivial, fun h => absurd h he⟩
    · rw [if_neg h34]
      cases hl : letB c
      · simp only [Bool.false_eq_true, if_false]
        have hk := cls_op hl hd h34 hc
        rw [hk, if_neg (by decide), if_neg (by decide), if_pos rfl, opsF_opL]
        have hle := opL_le (c :: r)
        unfold opA
        by_cases h0 : opL (c :: r) = 0
        · rw [if_pos h0, h0]
          exact ⟨rfl, fun h => by cases h⟩
        · rw [if_neg h0]
          have hne : (c :: r).take (opL (c :: r)) ≠ [] := by
            intro e
            have := congrArg List.length e
            rw [List.length_take] at this
            simp at this
            omega
          have hv : vtE 4 ((c :: r).take (opL (c :: r))) = 0 := by
            show (if (c :: r).take (opL (c :: r)) = [] then 5 else 0) = 0
            rw [if_neg hne]
          rw [hv, List.length_take, Nat.min_eq_left hle]
          exact ⟨rfl, fun _ => rfl⟩
      · have hk := cls_let hl
        rw [hk]
        simp only [if_true]
        rw [if_neg (by decide), if_neg (by decide), if_neg (by decide)]
        generalize (c :: r).takeWhile wrdB = d
        unfold namA
        have hv : vtE 1 d = if 64 < d.length then 3 else 0 := rfl
        by_cases hx : 64 < d.length
        · rw [hv, if_pos hx, if_pos hx]
          exact ⟨rfl, fun h => by cases h⟩
        · rw [hv, if_neg hx, if_neg hx]
          exact ⟨rfl, fun _ => rfl⟩
  · have hk := cls_dig hd
    rw [hk]
    simp only [if_true]
    rw [if_neg (by decide), if_neg (by decide), if_neg (by decide)]
    have hw : wrdB c = true := by unfold wrdB; rw [hd, Bool.or_true]
    obtain ⟨i1, i2, i3⟩ := tw_sub (p := dgB) (q := wrdB) (fun c h => by unfold wrdB; rw [h, Bool.or_true]) (c :: r)
    have hcw : (c :: r).takeWhile wrdB = c :: r.takeWhile wrdB := by rw [List.takeWhile_cons, hw]; rfl
    have hv : vtE 2 ((c :: r).takeWhile wrdB) = numE ((c :: r).takeWhile wrdB) := rfl
    rw [hv]
    cases ha : ((c :: r).takeWhile wrdB).all dgB
    · have h5 := i3 ha
      unfold numA numE
      rw [if_pos (.inl h5), if_pos (.inl ha)]
      exact ⟨rfl, fun h => by cases h⟩
    · rw [i2 ha]
      rw [hcw] at ha ⊢
      generalize r.takeWhile wrdB = d at *
      unfold numA numE
      by_cases h0 : 1 < (c :: d).length ∧ c = 48
      · rw [if_pos (.inr h0), if_pos (.inr ⟨h0.1, by rw [h0.2]; rfl⟩)]
        exact ⟨rfl, fun h => by cases h⟩
      · have n1 : ¬ ((c :: d).length < (c :: d).length ∨ 1 < (c :: d).length ∧ c = 48) := fun h => h.elim (Nat.lt_irrefl _) h0
        have n2 : ¬ ((c :: d).all dgB = false ∨ 1 < (c :: d).length ∧ (c :: d).head? = some 48) := fun h => h.elim (fun g => by rw [ha] at g; cases g) (fun g => h0 ⟨g.1, by simpa using g.2⟩)
        rw [if_neg n1, if_neg n2]
        by_cases hu : 9007199254740992 < undec (c :: d)
        · rw [if_pos hu, if_neg]
          · exact ⟨rfl, fun h => by cases h⟩
          · unfold intB
            simp
            intros
            omega
        · rw [if_neg hu]
          have h16 := undec_len hd h0 (Nat.le_of_not_lt hu)
          have hi : intB (c :: d) = true := by
            unfold intB
            rw [ha, decide_eq_true h16, decide_eq_true (Nat.le_of_not_lt hu)]
            simp only [List.isEmpty_cons, Bool.not_false, Bool.true_and, Bool.and_true, Bool.not_eq_true', Bool.and_eq_false_iff, decide_eq_false_iff_not, List.head?_cons, Option.some.injEq]
            apply Classical.byContradiction
            intro hn
            exact h0 ⟨Classical.byContradiction fun g => hn (.inl g), Classical.byContradiction fun g => hn (.inr g)⟩
          rw [if_pos hi]
          exact ⟨rfl, fun _ => rfl⟩
end Go.Proofs.YtjehhldboopocaaGreatDoor.Lx
