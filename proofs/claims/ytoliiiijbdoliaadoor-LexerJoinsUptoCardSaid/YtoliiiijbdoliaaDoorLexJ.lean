/- Contracts of the program's validText and first (lexer). -/
import Derived.Test.YtoliiiijbdoliaaDoorLexI
import Derived.Laws.EntriesVeiled
import Derived.Laws.ResultCell
namespace Go.Proofs.YtoliiiijbdoliaaDoor
open Go.RowKit Go.Lib
set_option linter.unusedVariables false

/-- The error of a token's text. -/
def vtE (k : Int) (t : List UInt8) : Nat := if k = 1 then (if 64 < t.length then 3 else 0) else if k = 3 then (if 4096 < t.length then 3 else 0) else if k = 2 then numE t else if k = 4 then (if t = [] then 5 else 0) else 0
set_option maxHeartbeats 4000000 in
set_option maxRecDepth 100000 in
theorem validText_any (k p : Int) (s : ByteArray) (hk : k = 1 ∨ (k = 2 ∧ 0 < s.size) ∨ k = 3 ∨ k = 4 ∨ k = 5) (hs : s.size ≤ 1099511627776) (w : World) (hT : TabL w) :
    Calls Tryd.prog 33 #[.agg #[.int .i64 k, .string s, .int .i64 p]] w fun e w' => e = .returned (.int .i64 (vtE k s.data.toList : Nat)) ∧ Below w.heap.size w w' := by
  have hl := lenB s
  rcases hk with rfl | ⟨rfl, h0⟩ | rfl | rfl | rfl
  · have L0 := fun w => limited_any s 64 w
    have hv : (if (64 : Int) < (s.size : Int) then (3 : Int) else 0) = (vtE 1 s.data.toList : Nat) := by
      show _ = ((if 64 < s.data.toList.length then 3 else 0 : Nat) : Int)
      rw [hl]
      by_cases h : 64 < s.size
      · rw [if_pos h, if_pos (by omega)]; rfl
      · rw [if_neg h, if_neg (by omega)]; rfl
    rw [hv] at L0
    have LI := Lib.hid L0
    clear L0 hv
    go_enter Tryd.func33, Tryd.ntmps33
    go_wp2_with fail
    go_fit (LI.out _)
    rintro e w1 ⟨rfl, rfl⟩
    go_wp2_with fail
    go_ret
    exact ⟨rfl, (Below.refl _ _).alloc (Nat.le_refl _) _⟩
  · have VN := Lib.hid (fun o => validNumber_any s h0 hs (w.alloc o) (hT.below ((Below.refl _ _).alloc (Nat.le_refl _) o)))
    have HE := Lib.hid (show vtE 2 s.data.toList = numE s.data.toList from rfl)
    go_enter Tryd.func33, Tryd.ntmps33
    go_wp2_with fail
    go_fit (VN.out _)
    rintro e w1 ⟨rfl, hb⟩
    have HB := Lib.hid (((Below.refl w.heap.size w).alloc (Nat.le_refl _) _).trans (hb.mono (by simp)))
    clear hb
    go_wp2_with fail
    go_ret
    exact ⟨by rw [HE.out]; rfl, HB.out⟩
  · have L0 := fun w => limited_any s 4096 w
    have hv : (if (4096 : Int) < (s.size : Int) then (3 : Int) else 0) = (vtE 3 s.data.toList : Nat) := by
      show _ = ((if 4096 < s.data.toList.length then 3 else 0 : Nat) : Int)
      rw [hl]
      by_cases h : 4096 < s.size
      · rw [if_pos h, if_pos (by omega)]; rfl
      · rw [if_neg h, if_neg (by omega)]; rfl
    rw [hv] at L0
    have LI := Lib.hid L0
    clear L0 hv
    go_enter Tryd.func33, Tryd.ntmps33
    go_wp2_with fail
    go_fit (LI.out _)
    rintro e w1 ⟨rfl, rfl⟩
    go_wp2_with fail
    go_ret
    exact ⟨rfl, (Below.refl _ _).alloc (Nat.le_refl _) _⟩
  · cases hq : s.toList.isEmpty
    · have HE := Lib.hid (show vtE 4 s.data.toList = 0 from by
        unfold vtE
        rw [if_neg (by decide), if_neg (by decide), if_neg (by decide), if_pos rfl, if_neg]
        intro h
        rw [Lib.toList_data, h] at hq
        cases hq)
      go_enter Tryd.func33, Tryd.ntmps33
      go_wp2_with fail
      go_ret
      exact ⟨by rw [HE.out]; rfl, (Below.refl _ _).alloc (Nat.le_refl _) _⟩
    · have HE := Lib.hid (show vtE 4 s.data.toList = 5 from by
        unfold vtE
        rw [if_neg (by decide), if_neg (by decide), if_neg (by decide), if_pos rfl, if_pos]
        rw [Lib.toList_data] at hq
        exact List.isEmpty_iff.1 hq)
      go_enter Tryd.func33, Tryd.ntmps33
      go_wp2_with fail
      go_ret
      exact ⟨by rw [HE.out]; rfl, (Below.refl _ _).alloc (Nat.le_refl _) _⟩
  · have HE := Lib.hid (show vtE 5 s.data.toList = 0 from rfl)
    go_enter Tryd.func33, Tryd.ntmps33
    go_wp2_with fail
    go_ret
    exact ⟨by rw [HE.out]; rfl, (Below.refl _ _).alloc (Nat.le_refl _) _⟩

/-- A token as the program holds it. -/
def tkV (k : Int) (t : List UInt8) (p : Int) : Value := .agg #[.int .i64 k, .string ⟨t.toArray⟩, .int .i64 p]
/-- What first answers: kind, text, length, error. -/
def firF : List UInt8 → Int × List UInt8 × Nat × Nat
  | [] => (0, [], 0, 0)
  | c :: r =>
    if clsK (c.toNat : Int) = 3 then
      (if (txtU (r.length + 1) r [] 1).2.2 = 0 then (3, (txtU (r.length + 1) r [] 1).1, (txtU (r.length + 1) r [] 1).2.1, vtE 3 (txtU (r.length + 1) r [] 1).1) else (0, [], 0, (txtU (r.length + 1) r [] 1).2.2))
    else if clsK (c.toNat : Int) = 5 then (5, [], 1, 0)
    else if clsK (c.toNat : Int) = 4 then (4, opsF (c :: r), (opsF (c :: r)).length, vtE 4 (opsF (c :: r)))
    else (clsK (c.toNat : Int), (c :: r).takeWhile wrdB, ((c :: r).takeWhile wrdB).length, vtE (clsK (c.toNat : Int)) ((c :: r).takeWhile wrdB))
/-- Three cells in a block. -/
structure ThrAt (w : World) (b : Nat) (t : TypeId) (x y z : Value) : Prop where
  blk : w.heap[b]? = some (.cells #[x, y, z] t (0, 0))
namespace ThrAt
variable {w : World} {b : Nat} {t : TypeId} {x y z : Value}
theorem lt (h : ThrAt w b t x y z) : b < w.heap.size := (Array.getElem?_eq_some_iff.1 h.blk).1
theorem cell0 (h : ThrAt w b t x y z) : w.cell? ⟨b, 0, none⟩ = some x := by
  have h := h.blk
  simp [World.cell?, h]
theorem cell1 (h : ThrAt w b t x y z) : w.cell? ⟨b, 1, none⟩ = some y := by
  have h := h.blk
  simp [World.cell?, h]
theorem cell2 (h : ThrAt w b t x y z) : w.cell? ⟨b, 2, none⟩ = some z := by
  have h := h.blk
  simp [World.cell?, h]
theorem frozen (h : ThrAt w b t x y z) (k : Nat) : w.frozen? ⟨b, k, none⟩ = false := by
  have h := h.blk
  simp [World.frozen?, h]
theorem of_block {w' : World} (h : ThrAt w b t x y z) (e : w'.heap[b]? = w.heap[b]?) : ThrAt w' b t x y z := ⟨e.trans h.blk⟩
theorem below {w' : World} (h : ThrAt w b t x y z) (hb : Below w.heap.size w w') : ThrAt w' b t x y z := h.of_block (hb.block b h.lt)
theorem drew (h : ThrAt w b t x y z) : ThrAt w.drew b t x y z := ⟨h.blk⟩
theorem new (w : World) (t : TypeId) (x y z : Value) : ThrAt (w.alloc (.cells #[x, y, z] t)) w.heap.size t x y z := ⟨heap_alloc_new w _⟩
theorem set0 (h : ThrAt w b t x y z) (u : Value) : ThrAt (w.setCell ⟨b, 0, none⟩ u) b t u y z := by
  have h := h.blk
  constructor
  simp [World.setCell, Array.getElem?_modify, h]
theorem set1 (h : ThrAt w b t x y z) (u : Value) : ThrAt (w.setCell ⟨b, 1, none⟩ u) b t x u z := by
  have h := h.blk
  constructor
  simp [World.setCell, Array.getElem?_modify, h]
theorem set2 (h : ThrAt w b t x y z) (u : Value) : ThrAt (w.setCell ⟨b, 2, none⟩ u) b t x y u := by
  have h := h.blk
  constructor
  simp [World.setCell, Array.getElem?_modify, h]
end ThrAt
theorem firF_cons (c : UInt8) (r : List UInt8) : firF (c :: r) =
    if clsK (c.toNat : Int) = 3 then
      (if (txtU (r.length + 1) r [] 1).2.2 = 0 then (3, (txtU (r.length + 1) r [] 1).1, (txtU (r.length + 1) r [] 1).2.1, vtE 3 (txtU (r.length + 1) r [] 1).1) else (0, [], 0, (txtU (r.length + 1) r [] 1).2.2))
    else if clsK (c.toNat : Int) = 5 then (5, [], 1, 0)
    else if clsK (c.toNat : Int) = 4 then (4, opsF (c :: r), (opsF (c :: r)).length, vtE 4 (opsF (c :: r)))
    else (clsK (c.toNat : Int), (c :: r).takeWhile wrdB, ((c :: r).takeWhile wrdB).length, vtE (clsK (c.toNat : Int)) ((c :: r).takeWhile wrdB)) := rfl
theorem results_cell_tmp2 {fn : Func} {p u v : Tmp} {ty : TypeId} (h : fn.results = #[.cell p ty, .tmp u, .tmp v]) (tmps : Array Value) (P : Program) (w : World) :
    (results fn tmps).run P w =
      ((asAddr (tmps.getD p undef)).run P w).andThen fun a w₁ => ((loadVar ty a).run P w₁).andThen fun x w₂ => .ok (.tuple #[x, tmps.getD u undef, tmps.getD v undef]) w₂ := by
  simp only [results, h]
  simp [Sem.run_bind, Result.andThen]
theorem cell_heap {w : World} {b k : Nat} {c : Array Value} {t : TypeId} {v : Value} (h : w.heap[b]? = some (.cells c t (0, 0))) (hv : c[k]? = some v) : w.cell? ⟨b, k, none⟩ = some v := by
  simp [World.cell?, h, hv]
theorem fir_new (w : World) (a b c f x y z : Value) (t1 t2 : TypeId) :
    (((w.alloc (.cells #[a, b, c] t2)).alloc (.cells #[f] t1)).alloc (.cells #[x, y, z] t2)).drew.cell? ⟨w.heap.size + 1, 0, none⟩ = some f ∧ ThrAt (((w.alloc (.cells #[a, b, c] t2)).alloc (.cells #[f] t1)).alloc (.cells #[x, y, z] t2)).drew (w.heap.size + 2) t2 x y z ∧ ThrAt (((w.alloc (.cells #[a, b, c] t2)).alloc (.cells #[f] t1)).alloc (.cells #[x, y, z] t2)).drew w.heap.size t2 a b c := by
  have h1 : (w.alloc (.cells #[a, b, c] t2)).heap.size = w.heap.size + 1 := by simp
  have h2 : ((w.alloc (.cells #[a, b, c] t2)).alloc (.cells #[f] t1)).heap.size = w.heap.size + 2 := by simp
  have e1 := heap_alloc_new (w.alloc (.cells #[a, b, c] t2)) (.cells #[f] t1)
  have e2 := Below.heap_alloc ((w.alloc (.cells #[a, b, c] t2)).alloc (.cells #[f] t1)) (.cells #[x, y, z] t2) (w.heap.size + 1) (by omega)
  rw [h1] at e1
  have n := ThrAt.new ((w.alloc (.cells #[a, b, c] t2)).alloc (.cells #[f] t1)) t2 x y z
  rw [h2] at n
  have r0 := ThrAt.new w t2 a b c
  have r1 := r0.of_block (Below.heap_alloc (w.alloc (.cells #[a, b, c] t2)) (.cells #[f] t1) w.heap.size (by omega))
  have r2 := r1.of_block (Below.heap_alloc ((w.alloc (.cells #[a, b, c] t2)).alloc (.cells #[f] t1)) (.cells #[x, y, z] t2) w.heap.size (by omega))
  exact ⟨cell_heap (w := (((w.alloc (.cells #[a, b, c] t2)).alloc (.cells #[f] t1)).alloc (.cells #[x, y, z] t2)).drew) (e2.trans e1) rfl, n.drew, r2.drew⟩
/-- What stands when the token is checked. -/
def SF (w : World) (k : Int) (d : ByteArray) (w' : World) : Prop :=
  w'.cell? ⟨w.heap.size + 2, 0, none⟩ = some (.int .i64 k) ∧ w'.cell? ⟨w.heap.size + 2, 1, none⟩ = some (.string d) ∧ w'.cell? ⟨w.heap.size + 2, 2, none⟩ = some (.int .i64 0) ∧ w'.cell? ⟨w.heap.size, 0, none⟩ = some (.int .i64 0) ∧ w'.cell? ⟨w.heap.size, 1, none⟩ = some (.string ⟨#[]⟩) ∧ w'.cell? ⟨w.heap.size, 2, none⟩ = some (.int .i64 0) ∧ w'.frozen? ⟨w.heap.size, 0, none⟩ = false ∧ w'.frozen? ⟨w.heap.size, 1, none⟩ = false ∧ w'.frozen? ⟨w.heap.size, 2, none⟩ = false ∧ ThrAt w' (w.heap.size + 2) 33 (.int .i64 k) (.string d) (.int .i64 0) ∧ ThrAt w' w.heap.size 33 (.int .i64 0) (.string ⟨#[]⟩) (.int .i64 0) ∧ Below w.heap.size w w'
theorem SF.mk {w : World} {k : Int} {d : ByteArray} {w' : World} (h : ThrAt w' (w.heap.size + 2) 33 (.int .i64 k) (.string d) (.int .i64 0)) (g : ThrAt w' w.heap.size 33 (.int .i64 0) (.string ⟨#[]⟩) (.int .i64 0)) (b : Below w.heap.size w w') : SF w k d w' :=
  ⟨h.cell0, h.cell1, h.cell2, g.cell0, g.cell1, g.cell2, g.frozen 0, g.frozen 1, g.frozen 2, h, g, b⟩
theorem SF.below {w : World} {k : Int} {d : ByteArray} {w1 w2 : World} (h : SF w k d w1) (hb : Below w1.heap.size w1 w2) : SF w k d w2 := by
  obtain ⟨_, _, _, _, _, _, _, _, _, h1, h2, h3⟩ := h
  exact SF.mk (h1.below hb) (h2.below hb) (h3.trans (hb.mono h3.size))
theorem SF.drew {w : World} {k : Int} {d : ByteArray} {w1 : World} (h : SF w k d w1) : SF w k d w1.drew := h.below (Below.refl _ _).drew
theorem SF.bel {w : World} {k : Int} {d : ByteArray} {w1 : World} (h : SF w k d w1) : Below w.heap.size w w1 := h.2.2.2.2.2.2.2.2.2.2.2
theorem txtU_len : ∀ (n : Nat) (l acc : List UInt8) (k : Nat), (txtU n l acc k).1.length ≤ acc.length + l.length
  | 0, l, acc, k => by simp [txtU]
  | n + 1, [], acc, k => by simp [txtU]
  | n + 1, c :: r, acc, k => by
    rw [txtU_cons]
    by_cases h1 : c = 34
    · rw [if_pos h1]
      exact Nat.le_add_right _ _
    · rw [if_neg h1]
      by_cases h2 : (chrA (c :: r)).2.2 ≠ 0
      · rw [if_pos h2]
        simp
      · rw [if_neg h2]
        have h3 := txtU_len n ((c :: r).drop (chrA (c :: r)).2.1) (acc ++ [(chrA (c :: r)).1]) (k + (chrA (c :: r)).2.1)
        have h4 := (chrA_app (c :: r) [] (by simpa using h2)).2
        rw [List.length_drop, List.length_append, List.length_singleton] at h3
        omega
theorem clsK_five (c : Int) : clsK c = 1 ∨ clsK c = 2 ∨ clsK c = 3 ∨ clsK c = 4 ∨ clsK c = 5 := by
  unfold clsK
  (repeat' split) <;> simp
set_option maxHeartbeats 8000000 in
set_option maxRecDepth 100000 in
theorem first_any (s : ByteArray) (h0 : 0 < s.size) (hs : s.size ≤ 1099511627776) (w : World) (hT : TabL w) (hO : TabO w) :
    Calls Tryd.prog 23 #[.string s] w fun e w' => e = .returned (.tuple #[tkV (firF s.data.toList).1 (firF s.data.toList).2.1 0, .int .i64 ((firF s.data.toList).2.2.1 : Nat), .int .i64 ((firF s.data.toList).2.2.2 : Nat)]) ∧ Below w.heap.size w w' := by
  have hl := lenB s
  have HT := Lib.hid hT
  have HO := Lib.hid hO
  have CL := Lib.hid (fun c w => class_any c w)
  have i0 := fun w => ixS s 0 0 rfl h0 w
  have h0I : (0 : Int) < (s.size : Int) := by omega
  have hc9 := (s[0]).toNat_lt
  have hcI : (0 : Int) ≤ ((s[0]).toNat : Int) ∧ ((s[0]).toNat : Int) ≤ 255 := by omega
  have hcons : s.data.toList = s[0] :: s.data.toList.drop 1 := by
    have h := drop_consB s 0 h0
    rwa [List.drop_zero] at h
  have CLc := Lib.hid (fun w => CL.out (((s[0]).toNat : Nat) : Int) w)
  clear CL hT hO
  go_enter Tryd.func23, Tryd.ntmps23
  go_wp2_with fail
  obtain ⟨cn, hcn⟩ : ∃ cn : Nat, cn = (s[0]).toNat := ⟨_, rfl⟩
  rw [← hcn] at CLc hc9 hcI i0
  have g1 := Lib.hid hcn
  have g2 := Lib.hid hcons
  have hcw : IntKind.i32.wrap (cn : Int) = (cn : Int) := by
    rw [IntKind.wrap_i32]
    omega
  clear hcn hcons
  have PX := Lib.hid (fun w' h => prefix_any s (w.heap.size + 1) w' h)
  have VT := Lib.hid (fun k x hk hs w' h => validText_any k 0 x hk hs w' h)
  go_cut [7] (fun s7 wx => s7 = .pointer (some ⟨w.heap.size + 2, 0, none⟩) ∧ Hid (ClsAt wx (w.heap.size + 1)) ∧ Hid (Below w.heap.size w wx) ∧ Hid (ThrAt wx (w.heap.size + 2) 33 (.int .i64 (clsK (cn : Int))) (.string ⟨#[]⟩) (.int .i64 0)) ∧ Hid (ThrAt wx w.heap.size 33 (.int .i64 0) (.string ⟨#[]⟩) (.int .i64 0)))
  case first =>
    go_region_with (go_at_call 28; go_fit (CLc.out _); rintro e w2 ⟨rfl, rfl⟩)
    all_goals
      go_wp2_with fail
      go_meet
      exact ⟨rfl, Lib.hid (fir_new w _ _ _ _ _ _ _ _ _).1, Lib.hid ((((Below.refl _ _).alloc (Nat.le_refl _) _).alloc (by simp) _).alloc (by simp; omega) _).drew, Lib.hid (fir_new w _ _ _ _ _ _ _ _ _).2.1, Lib.hid (fir_new w _ _ _ _ _ _ _ _ _).2.2⟩
  case rest =>
    obtain ⟨rfl, HC, HB, HK, HR⟩ := hcut
    have hgt : cn = cn := rfl
    rcases (show (clsK (cn : Int) = 1 ∨ clsK (cn : Int) = 2) ∨ clsK (cn : Int) = 3 ∨ clsK (cn : Int) = 4 ∨ clsK (cn : Int) = 5 by have := clsK_five (cn : Int); omega) with hk | hk | hk | hk
    · obtain ⟨d, hd⟩ : ∃ d : ByteArray, d = ⟨(s.data.toList.takeWhile wrdB).toArray⟩ := ⟨_, rfl⟩
      have hde : d.data.toList = s.data.toList.takeWhile wrdB := by rw [hd]
      have hd0 : 0 < d.size := by
        rw [← lenB, hde, g2.out, List.takeWhile_cons]
        have : wrdB s[0] = true := by
          rw [← clsK_wrd, ← g1.out]
          rcases hk with h | h <;> rw [h] <;> rfl
        rw [this, if_pos rfl]
        simp
      have hds : d.size ≤ s.size := by
        rw [← lenB, hde, ← lenB]
        exact (List.takeWhile_prefix _).length_le
      have HF := Lib.hid (show firF s.data.toList = (clsK (cn : Int), d.data.toList, d.size, vtE (clsK (cn : Int)) d.data.toList) from by
        rw [← lenB d, hde, g2.out, firF_cons, ← g1.out]
        rcases hk with h | h <;> rw [if_neg (by omega), if_neg (by omega), if_neg (by omega)])
      have HD := Lib.hid hd
      have PXs := PX
      have hPX : ∀ w', ClsAt w' (w.heap.size + 1) → Calls Tryd.prog 30 #[.string s, .func (.func 29) #[] #[.pointer (some ⟨w.heap.size + 1, 0, none⟩)]] w' fun e w'' => e = .returned (.string d) ∧ Below w'.heap.size w' w'' := by
        rw [hd]
        exact PX.out
      have HPX := Lib.hid hPX
      have hkk : (clsK (cn : Int) == 1 || clsK (cn : Int) == 2) = true := by rcases hk with h | h <;> rw [h] <;> rfl
      have HVT := Lib.hid (fun w' h => VT.out (clsK (cn : Int)) d (hk.elim .inl (fun h => .inr (.inl ⟨h, hd0⟩))) (by omega) w' h)
      generalize clsK (cn : Int) = k at *
      generalize vtE k d.data.toList = vt at *
      clear hd hde PX PXs hPX VT CLc g1 g2 i0 hcw
      have c0 := HK.out.cell0
      cases q1 : (k == 1)
      · have q2 : (k == 2) = true := by rw [q1] at hkk; exact hkk
        clear hk hkk
        go_wp2_with fail
        go_fit (HPX.out _ HC.out)
        rintro e w2 ⟨rfl, hb⟩
        have K1 := HK.out.below hb
        have B1 := HB.out.trans (hb.mono HB.out.size)
        have kf := K1.frozen 1
        have kc := K1.cell1
        have R1 := HR.out.below hb
        have hs0 : SF w k d (w2.setCell ⟨w.heap.size + 2, 1, none⟩ (.string d)) := SF.mk (K1.set1 (.string d)) (R1.of_block (Below.heap_setCell _ _ _ _ (by show w.heap.size ≠ w.heap.size + 2; omega))) (B1.setCell (p := ⟨w.heap.size + 2, 1, none⟩) (by show _ ≤ w.heap.size + 2; omega) (.string d))
        have k1 := hs0.2.1
        clear hb K1 B1 R1 c0
        go_wp2_with fail
        clear kf kc k1
        generalize w2.setCell ⟨w.heap.size + 2, 1, none⟩ (.string d) = W at *
        have hsd := hs0.drew
        obtain ⟨n0, n1, n2, p0, p1, p2, g0, g1, g2, -⟩ := id hsd
        go_region_with (go_at_call 33; go_fit (HVT.out _ (HT.out.below hsd.bel)); rintro e w3 ⟨rfl, hb3⟩; have hs3 := hsd.below hb3; obtain ⟨m0, m1, m2, r0, r1, r2, f0, f1, f2, -⟩ := id hs3)
        all_goals
          go_wp2_with fail
          have HQ := ((hs3.2.2.2.2.2.2.2.2.2.2.1.set0 (.int .i64 k)).set1 (.string d)).set2 (.int .i64 0)
          have z0 := HQ.cell0
          have z1 := HQ.cell1
          have z2 := HQ.cell2
          have hbz := hs3.bel
          (try simp only [Exit.inBlock, Exit.then])
          refine bodyPost_ret (v := .tuple #[.agg #[.int .i64 k, .string d, .int .i64 0], .int .i64 (d.size : Nat), .int .i64 (vt : Nat)]) ?_ rfl ⟨?_, ?_⟩
          · rw [results_cell_tmp2 rfl]
            go_simp
          · rw [HF.out]
            rfl
          · exact ((hbz.setCell (p := ⟨w.heap.size, 0, none⟩) (Nat.le_refl _) _).setCell (p := ⟨w.heap.size, 1, none⟩) (Nat.le_refl _) _).setCell (p := ⟨w.heap.size, 2, none⟩) (Nat.le_refl _) _
      · clear hk hkk
        go_wp2_with fail
        go_fit (HPX.out _ HC.out)
        rintro e w2 ⟨rfl, hb⟩
        have K1 := HK.out.below hb
        have B1 := HB.out.trans (hb.mono HB.out.size)
        have kf := K1.frozen 1
        have kc := K1.cell1
        have R1 := HR.out.below hb
        have hs0 : SF w k d (w2.setCell ⟨w.heap.size + 2, 1, none⟩ (.string d)) := SF.mk (K1.set1 (.string d)) (R1.of_block (Below.heap_setCell _ _ _ _ (by show w.heap.size ≠ w.heap.size + 2; omega))) (B1.setCell (p := ⟨w.heap.size + 2, 1, none⟩) (by show _ ≤ w.heap.size + 2; omega) (.string d))
        have k1 := hs0.2.1
        clear hb K1 B1 R1 c0
        go_wp2_with fail
        clear kf kc k1
        generalize w2.setCell ⟨w.heap.size + 2, 1, none⟩ (.string d) = W at *
        have hsd := hs0.drew
        obtain ⟨n0, n1, n2, p0, p1, p2, g0, g1, g2, -⟩ := id hsd
        go_region_with (go_at_call 33; go_fit (HVT.out _ (HT.out.below hsd.bel)); rintro e w3 ⟨rfl, hb3⟩; have hs3 := hsd.below hb3; obtain ⟨m0, m1, m2, r0, r1, r2, f0, f1, f2, -⟩ := id hs3)
        all_goals
          go_wp2_with fail
          have HQ := ((hs3.2.2.2.2.2.2.2.2.2.2.1.set0 (.int .i64 k)).set1 (.string d)).set2 (.int .i64 0)
          have z0 := HQ.cell0
          have z1 := HQ.cell1
          have z2 := HQ.cell2
          have hbz := hs3.bel
          (try simp only [Exit.inBlock, Exit.then])
          refine bodyPost_ret (v := .tuple #[.agg #[.int .i64 k, .string d, .int .i64 0], .int .i64 (d.size : Nat), .int .i64 (vt : Nat)]) ?_ rfl ⟨?_, ?_⟩
          · rw [results_cell_tmp2 rfl]
            go_simp
          · rw [HF.out]
            rfl
          · exact ((hbz.setCell (p := ⟨w.heap.size, 0, none⟩) (Nat.le_refl _) _).setCell (p := ⟨w.heap.size, 1, none⟩) (Nat.le_refl _) _).setCell (p := ⟨w.heap.size, 2, none⟩) (Nat.le_refl _) _
    · rw [hk] at HK
      have UQ := Lib.hid (fun w' h => unquoted_any s h0 hs w' h)
      obtain ⟨R, hR⟩ : ∃ R, R = txtU (s.data.toList.tail.length + 1) s.data.toList.tail [] 1 := ⟨_, rfl⟩
      rw [← hR] at UQ
      have htl : s.data.toList.tail = s.data.toList.drop 1 := by rw [List.drop_one]
      have hRl : R.1.length ≤ s.size := by
        have h := txtU_len (s.data.toList.tail.length + 1) s.data.toList.tail [] 1
        rw [← hR, List.length_tail, lenB] at h
        simp at h
        omega
      have HF := Lib.hid (show firF s.data.toList = (if R.2.2 = 0 then (3, R.1, R.2.1, vtE 3 R.1) else (0, [], 0, R.2.2)) from by
        rw [hR, htl, g2.out, firF_cons, ← g1.out, hk, if_pos rfl, List.drop_succ_cons, List.drop_zero])
      obtain ⟨x, n, er⟩ := R
      simp only at UQ HF hRl
      obtain ⟨d, hd⟩ : ∃ d : ByteArray, d = ⟨x.toArray⟩ := ⟨_, rfl⟩
      have hde : d.data.toList = x := by rw [hd]
      rw [← hd] at UQ
      have hds : d.size ≤ s.size := by rw [← lenB, hde]; exact hRl
      have HVT := Lib.hid (fun w' h => VT.out 3 d (by simp) (by omega) w' h)
      rw [← hde] at HF
      generalize vtE 3 d.data.toList = vt at *
      have c0 := HK.out.cell0
      by_cases her : er = 0
      · subst her
        rw [if_pos rfl] at HF
        clear hd hde PX VT CLc g1 g2 i0 hcw hk hR htl hRl
        go_wp2_with fail
        go_fit (UQ.out _ (HT.out.below HB.out))
        rintro e w2 ⟨rfl, hb⟩
        have K1 := HK.out.below hb
        have B1 := HB.out.trans (hb.mono HB.out.size)
        have kf := K1.frozen 1
        have kc := K1.cell1
        have R1 := HR.out.below hb
        have hs0 : SF w 3 d (w2.setCell ⟨w.heap.size + 2, 1, none⟩ (.string d)) := SF.mk (K1.set1 (.string d)) (R1.of_block (Below.heap_setCell _ _ _ _ (by show w.heap.size ≠ w.heap.size + 2; omega))) (B1.setCell (p := ⟨w.heap.size + 2, 1, none⟩) (by show _ ≤ w.heap.size + 2; omega) (.string d))
        have k1 := hs0.2.1
        clear hb K1 B1 R1 c0
        go_wp2_with fail
        clear kf kc k1
        generalize w2.setCell ⟨w.heap.size + 2, 1, none⟩ (.string d) = W at *
        have hsd := hs0.drew
        obtain ⟨n0, n1, n2, p0, p1, p2, g0, g1, g2, -⟩ := id hsd
        go_region_with (go_at_call 33; go_fit (HVT.out _ (HT.out.below hsd.bel)); rintro e w3 ⟨rfl, hb3⟩; have hs3 := hsd.below hb3; obtain ⟨m0, m1, m2, r0, r1, r2, f0, f1, f2, -⟩ := id hs3)
        all_goals
          go_wp2_with fail
          have HQ := ((hs3.2.2.2.2.2.2.2.2.2.2.1.set0 (.int .i64 3)).set1 (.string d)).set2 (.int .i64 0)
          have z0 := HQ.cell0
          have z1 := HQ.cell1
          have z2 := HQ.cell2
          have hbz := hs3.bel
          (try simp only [Exit.inBlock, Exit.then])
          refine bodyPost_ret (v := .tuple #[.agg #[.int .i64 3, .string d, .int .i64 0], .int .i64 (n : Nat), .int .i64 (vt : Nat)]) ?_ rfl ⟨?_, ?_⟩
          · rw [results_cell_tmp2 rfl]
            go_simp
          · rw [HF.out]
            rfl
          · exact ((hbz.setCell (p := ⟨w.heap.size, 0, none⟩) (Nat.le_refl _) _).setCell (p := ⟨w.heap.size, 1, none⟩) (Nat.le_refl _) _).setCell (p := ⟨w.heap.size, 2, none⟩) (Nat.le_refl _) _
      · have q3 : ((er : Int) != 0) = true := by rw [bne_iff_ne]; omega
        rw [if_neg her] at HF
        clear hd hde PX VT CLc g1 g2 i0 hcw hk hR htl hRl
        go_wp2_with fail
        go_fit (UQ.out _ (HT.out.below HB.out))
        rintro e w2 ⟨rfl, hb⟩
        have B1 := HB.out.trans (hb.mono HB.out.size)
        have R1 := HR.out.below hb
        clear hb c0
        have r0 := R1.cell0
        have r1 := R1.cell1
        have r2 := R1.cell2
        have f0 := R1.frozen 0
        have f1 := R1.frozen 1
        have f2 := R1.frozen 2
        go_wp2_with fail
        have HQ := ((R1.set0 (.int .i64 0)).set1 (.string ⟨#[]⟩)).set2 (.int .i64 0)
        have z0 := HQ.cell0
        have z1 := HQ.cell1
        have z2 := HQ.cell2
        (try simp only [Exit.inBlock, Exit.then])
        refine bodyPost_ret (v := .tuple #[.agg #[.int .i64 0, .string ⟨#[]⟩, .int .i64 0], .int .i64 0, .int .i64 (er : Nat)]) ?_ rfl ⟨?_, ?_⟩
        · rw [results_cell_tmp2 rfl]
          go_simp
        · rw [HF.out]
          rfl
        · exact ((B1.setCell (p := ⟨w.heap.size, 0, none⟩) (Nat.le_refl _) _).setCell (p := ⟨w.heap.size, 1, none⟩) (Nat.le_refl _) _).setCell (p := ⟨w.heap.size, 2, none⟩) (Nat.le_refl _) _
    · rw [hk] at HK
      obtain ⟨d, hd⟩ : ∃ d : ByteArray, d = ⟨(opsF s.data.toList).toArray⟩ := ⟨_, rfl⟩
      have hde : d.data.toList = opsF s.data.toList := by rw [hd]
      have hds : d.size ≤ s.size := by
        rw [← lenB, hde, ← lenB, g2.out, opsF_opL, List.length_take]
        exact Nat.min_le_right _ _
      have HF := Lib.hid (show firF s.data.toList = (4, d.data.toList, d.size, vtE 4 d.data.toList) from by
        rw [← lenB d, hde, g2.out, firF_cons, ← g1.out, hk]
        rfl)
      have OP := Lib.hid (fun w' h => operator_any s w' h)
      rw [← hd] at OP
      have HVT := Lib.hid (fun w' h => VT.out 4 d (by simp) (by omega) w' h)
      generalize vtE 4 d.data.toList = vt at *
      clear hd hde PX VT CLc g1 g2 i0 hcw hk
      have c0 := HK.out.cell0
      go_wp2_with fail
      go_fit (OP.out _ (HO.out.below HB.out))
      rintro e w2 ⟨rfl, rfl⟩
      have K1 := HK.out
      have kf := K1.frozen 1
      have kc := K1.cell1
      have hs0 : SF w 4 d (wc.setCell ⟨w.heap.size + 2, 1, none⟩ (.string d)) := SF.mk (K1.set1 (.string d)) (HR.out.of_block (Below.heap_setCell _ _ _ _ (by show w.heap.size ≠ w.heap.size + 2; omega))) (HB.out.setCell (p := ⟨w.heap.size + 2, 1, none⟩) (by show _ ≤ w.heap.size + 2; omega) (.string d))
      have k1 := hs0.2.1
      clear K1 c0
      go_wp2_with fail
      clear kf kc k1
      generalize wc.setCell ⟨w.heap.size + 2, 1, none⟩ (.string d) = W at *
      have hsd := hs0.drew
      obtain ⟨n0, n1, n2, p0, p1, p2, g0, g1, g2, -⟩ := id hsd
      go_region_with (go_at_call 33; go_fit (HVT.out _ (HT.out.below hsd.bel)); rintro e w3 ⟨rfl, hb3⟩; have hs3 := hsd.below hb3; obtain ⟨m0, m1, m2, r0, r1, r2, f0, f1, f2, -⟩ := id hs3)
      all_goals
        go_wp2_with fail
        have HQ := ((hs3.2.2.2.2.2.2.2.2.2.2.1.set0 (.int .i64 4)).set1 (.string d)).set2 (.int .i64 0)
        have z0 := HQ.cell0
        have z1 := HQ.cell1
        have z2 := HQ.cell2
        have hbz := hs3.bel
        (try simp only [Exit.inBlock, Exit.then])
        refine bodyPost_ret (v := .tuple #[.agg #[.int .i64 4, .string d, .int .i64 0], .int .i64 (d.size : Nat), .int .i64 (vt : Nat)]) ?_ rfl ⟨?_, ?_⟩
        · rw [results_cell_tmp2 rfl]
          go_simp
        · rw [HF.out]
          rfl
        · exact ((hbz.setCell (p := ⟨w.heap.size, 0, none⟩) (Nat.le_refl _) _).setCell (p := ⟨w.heap.size, 1, none⟩) (Nat.le_refl _) _).setCell (p := ⟨w.heap.size, 2, none⟩) (Nat.le_refl _) _
    · rw [hk] at HK
      obtain ⟨d, hd⟩ : ∃ d : ByteArray, d = ⟨#[]⟩ := ⟨_, rfl⟩
      have HF := Lib.hid (show firF s.data.toList = (5, d.data.toList, 1, 0) from by
        rw [g2.out, firF_cons, ← g1.out, hk, hd]
        rfl)
      have HVT := Lib.hid (fun w' h => VT.out 5 d (by simp) (by rw [hd]; decide) w' h)
      rw [show vtE 5 d.data.toList = 0 from rfl] at HVT
      rw [← hd] at HK
      clear PX VT CLc g1 g2 i0 hcw hk
      have hs0 : SF w 5 d wc := SF.mk HK.out HR.out HB.out
      have c0 := HK.out.cell0
      clear hd
      go_wp2_with fail
      clear c0
      generalize wc = W at *
      have hsd := hs0.drew
      obtain ⟨n0, n1, n2, p0, p1, p2, g0, g1, g2, -⟩ := id hsd
      go_region_with (go_at_call 33; go_fit (HVT.out _ (HT.out.below hsd.bel)); rintro e w3 ⟨rfl, hb3⟩; have hs3 := hsd.below hb3; obtain ⟨m0, m1, m2, r0, r1, r2, f0, f1, f2, -⟩ := id hs3)
      all_goals
        go_wp2_with fail
        have HQ := ((hs3.2.2.2.2.2.2.2.2.2.2.1.set0 (.int .i64 5)).set1 (.string d)).set2 (.int .i64 0)
        have z0 := HQ.cell0
        have z1 := HQ.cell1
        have z2 := HQ.cell2
        have hbz := hs3.bel
        (try simp only [Exit.inBlock, Exit.then])
        refine bodyPost_ret (v := .tuple #[.agg #[.int .i64 5, .string d, .int .i64 0], .int .i64 1, .int .i64 0]) ?_ rfl ⟨?_, ?_⟩
        · rw [results_cell_tmp2 rfl]
          go_simp
        · rw [HF.out]
          rfl
        · exact ((hbz.setCell (p := ⟨w.heap.size, 0, none⟩) (Nat.le_refl _) _).setCell (p := ⟨w.heap.size, 1, none⟩) (Nat.le_refl _) _).setCell (p := ⟨w.heap.size, 2, none⟩) (Nat.le_refl _) _
end Go.Proofs.YtoliiiijbdoliaaDoor
