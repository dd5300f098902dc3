/- The contract of the program's parseNeed (label): the walk. -/
import Derived.Test.YtglckcenjnieaaaGreatDoorLaF
namespace Go.Proofs.YtglckcenjnieaaaGreatDoor
open Go.RowKit Go.Lib

theorem results_tct {fn : Func} {t p u : Tmp} {ty : TypeId} (h : fn.results = #[.tmp t, .cell p ty, .tmp u]) (tmps : Array Value) (P : Program) (w : World) :
    (results fn tmps).run P w =
      ((asAddr (tmps.getD p undef)).run P w).andThen fun a w₁ => ((loadVar ty a).run P w₁).andThen fun x w₂ => .ok (.tuple #[tmps.getD t undef, x, tmps.getD u undef]) w₂ := by
  simp only [results, h]
  simp [Sem.run_bind, Result.andThen]
/-- A block of two cells. -/
structure TwoL (w : World) (b : Nat) (t : TypeId) (x y : Value) : Prop where
  blk : w.heap[b]? = some (.cells #[x, y] t (0, 0))
theorem TwoL.lt {w : World} {b : Nat} {t : TypeId} {x y : Value} (h : TwoL w b t x y) : b < w.heap.size := (Array.getElem?_eq_some_iff.1 h.blk).1
theorem TwoL.facts {w : World} {b : Nat} {t : TypeId} {x y : Value} (h : TwoL w b t x y) : w.cell? ⟨b, 0, none⟩ = some x ∧ w.cell? ⟨b, 1, none⟩ = some y ∧ w.frozen? ⟨b, 0, none⟩ = false ∧ w.frozen? ⟨b, 1, none⟩ = false := by
  have h := h.blk
  refine ⟨?_, ?_, ?_, ?_⟩ <;> simp [World.cell?, World.frozen?, h]
theorem TwoL.below {w w' : World} {b : Nat} {t : TypeId} {x y : Value} (h : TwoL w b t x y) (hb : Below w.heap.size w w') : TwoL w' b t x y := ⟨(hb.block b h.lt).trans h.blk⟩
theorem TwoL.new (w : World) (t : TypeId) (x y : Value) : TwoL (w.alloc (.cells #[x, y] t)) w.heap.size t x y := ⟨heap_alloc_new w _⟩
theorem TwoL.alloc {w : World} {b : Nat} {t : TypeId} {x y : Value} (h : TwoL w b t x y) (o : Obj) : TwoL (w.alloc o) b t x y := ⟨(Below.heap_alloc w o b h.lt).trans h.blk⟩
/-- A block of three cells. -/
structure ThrL (w : World) (b : Nat) (t : TypeId) (x y z : Value) : Prop where
  blk : w.heap[b]? = some (.cells #[x, y, z] t (0, 0))
theorem ThrL.lt {w : World} {b : Nat} {t : TypeId} {x y z : Value} (h : ThrL w b t x y z) : b < w.heap.size := (Array.getElem?_eq_some_iff.1 h.blk).1
theorem ThrL.facts {w : World} {b : Nat} {t : TypeId} {x y z : Value} (h : ThrL w b t x y z) : w.cell? ⟨b, 0, none⟩ = some x ∧ w.cell? ⟨b, 1, none⟩ = some y ∧ w.cell? ⟨b, 2, none⟩ = some z := by
  have h := h.blk
  refine ⟨?_, ?_, ?_⟩ <;> simp [World.cell?, h]
theorem ThrL.below {w w' : World} {b : Nat} {t : TypeId} {x y z : Value} (h : ThrL w b t x y z) (hb : Below w.heap.size w w') : ThrL w' b t x y z := ⟨(hb.block b h.lt).trans h.blk⟩
theorem ThrL.new (w : World) (t : TypeId) (x y z : Value) : ThrL (w.alloc (.cells #[x, y, z] t)) w.heap.size t x y z := ⟨heap_alloc_new w _⟩

theorem needP_at_0 (l : List UInt8) (h : Lib.hasPrefix l [33] = false) : (Lib.cut l [62, 61]).2.2 = true → needP l = numF (Lib.cut l [62, 61]).1 (Lib.cut l [62, 61]).2.1 false true := by
  intro h1; unfold needP needC; rw [h, h1]; rfl
theorem needP_at_1 (l : List UInt8) (h : Lib.hasPrefix l [33] = false) (h0 : (Lib.cut l [62, 61]).2.2 = false) : (Lib.cut l [60, 61]).2.2 = true → needP l = numF (Lib.cut l [60, 61]).1 (Lib.cut l [60, 61]).2.1 true false := by
  intro h1; unfold needP needC; rw [h, h0, h1]; rfl
theorem needP_at_2 (l : List UInt8) (h : Lib.hasPrefix l [33] = false) (h0 : (Lib.cut l [62, 61]).2.2 = false) (h00 : (Lib.cut l [60, 61]).2.2 = false) : (Lib.cut l [61]).2.2 = true → needP l = numF (Lib.cut l [61]).1 (Lib.cut l [61]).2.1 false false := by
  intro h1; unfold needP needC; rw [h, h0, h00, h1]; rfl
theorem needP_at_3 (l : List UInt8) (h : Lib.hasPrefix l [33] = false) (h0 : (Lib.cut l [62, 61]).2.2 = false) (h00 : (Lib.cut l [60, 61]).2.2 = false) (h000 : (Lib.cut l [61]).2.2 = false) : needP l = if nameB l = true then some (l, -1, 9007199254740992) else none := by
  unfold needP needC; rw [h, h0, h00, h000]; rfl

set_option maxHeartbeats 4000000 in
theorem parseNeed_cut (s : ByteArray) (hs : s.size ≤ 1048576) (h33 : Lib.hasPrefix s.data.toList [33] = false) (w : World) (hT : TabK w) :
    Calls Tryz.prog 27 #[.string s] w (NeedPost s w) := by
  have HT := Lib.hid hT
  have P := Lib.hid (fun w => Tryz.strings_CutPrefix s ⟨#[33]⟩ w)
  rw [show (⟨#[33]⟩ : ByteArray).data.toList = [33] from rfl, h33] at P
  generalize (⟨(Lib.trimPrefix s.data.toList [33]).toArray⟩ : ByteArray) = p0 at P
  obtain ⟨g0, g1, g2, g3, g4, g5, g6, g7, g8⟩ := comp_cells hT
  have B0 := Lib.hid ((Below.refl w.heap.size w).alloc (Nat.le_refl _) (.cells #[.int .i64 0, .int .i64 0] 40))
  have T0 := Lib.hid (TwoL.new w 40 (.int .i64 0) (.int .i64 0))
  have hgl : 0 < w.heap.size := cell_ltK g0
  clear hT
  go_enter Tryz.func27, Tryz.ntmps27
  go_wp2_with fail
  go_fit (P.out _)
  rintro e w1 ⟨rfl, rfl⟩
  go_wp2_with fail
  clear g0 g1 g2 g3 g4 g5 g6 g7 g8
  go_loopw [25] (fun s25 wr => ∃ j : Nat, s25 = .int .i64 (j : Int) ∧ j ≤ 3 ∧ (1 ≤ j → (Lib.cut s.data.toList [62, 61]).2.2 = false) ∧ (2 ≤ j → (Lib.cut s.data.toList [60, 61]).2.2 = false) ∧ (3 ≤ j → (Lib.cut s.data.toList [61]).2.2 = false) ∧ TwoL wr w.heap.size 40 (.int .i64 0) (.int .i64 0) ∧ Below w.heap.size w wr) (fun s25 _ => 3 - (RowKit.intOf s25).toNat)
  case atStart => exact ⟨0, rfl, by omega, fun h => by omega, fun h => by omega, fun h => by omega, T0.out, B0.out⟩
  case round =>
    obtain ⟨j, rfl, hj, f1, f2, f3, htw, hbel⟩ := hrel
    have z0 := htw.lt
    have z1 := hbel.size
    obtain ⟨t0, t1, t2, t3⟩ := htw.facts
    have TW := Lib.hid htw
    have BE := Lib.hid hbel
    clear htw hbel
    rcases (show j = 0 ∨ j = 1 ∨ j = 2 ∨ j = 3 by omega) with rfl | rfl | rfl | rfl
    · have ix := fun w => (comp_ix w).1
      have C0 := fun w hT => cut_any s ⟨#[62, 61]⟩ (by omega) w hT
      rw [show (⟨#[62, 61]⟩ : ByteArray).data.toList = [62, 61] from rfl] at C0
      have hl := cut_len s.data.toList [62, 61]
      have hsz : s.data.toList.length = s.size := by rw [Array.length_toList]; rfl
      have hP := needP_at_0 s.data.toList h33 
      obtain ⟨a, b, f, hE⟩ : ∃ a b f, Lib.cut s.data.toList [62, 61] = (a, b, f) := ⟨_, _, _, rfl⟩
      rw [hE] at C0 hl hP
      dsimp only at C0 hl hP
      obtain ⟨x, hx⟩ : ∃ x : ByteArray, x = ⟨a.toArray⟩ := ⟨_, rfl⟩
      obtain ⟨y, hy⟩ : ∃ y : ByteArray, y = ⟨b.toArray⟩ := ⟨_, rfl⟩
      have hxa : x.data.toList = a := by rw [hx]
      have hyb : y.data.toList = b := by rw [hy]
      have hxs : x.size ≤ 1048576 := by rw [hx]; show a.toArray.size ≤ _; simp; omega
      have hys : y.size ≤ 1048576 := by rw [hy]; show b.toArray.size ≤ _; simp; omega
      rw [← hx, ← hy] at C0
      have C := Lib.hid C0
      have N0 := fun w => idName_any x (by omega) w
      rw [hxa] at N0
      have PM := Lib.hid (show ∀ (v : Int) (w : World), Calls Tryz.prog 52 #[.agg #[.string ⟨#[62, 61]⟩, .bool false, .bool true], .int .i64 v] w fun e w' => e = .returned (.agg #[.int .i64 v, .int .i64 9007199254740992]) ∧ Below w.heap.size w w' from fun v w => permits_any ⟨#[62, 61]⟩ false true v w)
      have HX := Lib.hid hx
      have FF := Lib.hid (And.intro f1 (And.intro f2 f3))
      have HEE := Lib.hid (show (Lib.cut s.data.toList [62, 61]).2.2 = f by rw [hE])
      have HPP := Lib.hid hP
      clear C0 hl hsz hP hE hx hy hxa f1 f2 f3
      cases f
      · clear N0 hyb hxs hys
        go_wp2_with fail
        go_fit (C.out _ (HT.out.below (BE.out.alloc z1 _)))
        rintro e w2 ⟨rfl, hb⟩
        have hth := (ThrL.new wr 73 (.string ⟨#[62, 61]⟩) (.bool false) (.bool true)).below hb
        have htw := (TW.out.alloc _).below hb
        have hbel := (BE.out.alloc z1 _).trans (hb.mono (by simp; omega))
        obtain ⟨u0, u1, u2⟩ := hth.facts
        clear t0 t1 t2 t3
        obtain ⟨t0, t1, t2, t3⟩ := htw.facts
        have z2 := hth.lt
        have z3 := htw.lt
        have z4 := hbel.size
        have TH := Lib.hid hth
        have TW2 := Lib.hid htw
        have BE2 := Lib.hid hbel
        clear hb hth htw hbel
        go_wp2_with fail
        go_roundw
        case rel => exact ⟨0 + 1, rfl, by omega, fun _ => HEE.out, fun h => by omega, fun h => by omega, TW2.out, BE2.out⟩
        case measure => simp [RowKit.intOf]
      cases hm : numL b with
      | none =>
        have M := Lib.hid (fun w hT => parseNumber_no y (by omega) (by rw [hyb]; exact hm) w hT)
        have HN := Lib.hid (show needP s.data.toList = none by rw [HPP.out rfl]; unfold numF; rw [hm])
        clear N0 hyb hxs hys hm
        go_wp2_with fail
        go_fit (C.out _ (HT.out.below (BE.out.alloc z1 _)))
        rintro e w2 ⟨rfl, hb⟩
        have hth := (ThrL.new wr 73 (.string ⟨#[62, 61]⟩) (.bool false) (.bool true)).below hb
        have htw := (TW.out.alloc _).below hb
        have hbel := (BE.out.alloc z1 _).trans (hb.mono (by simp; omega))
        obtain ⟨u0, u1, u2⟩ := hth.facts
        clear t0 t1 t2 t3
        obtain ⟨t0, t1, t2, t3⟩ := htw.facts
        have z2 := hth.lt
        have z3 := htw.lt
        have z4 := hbel.size
        have TH := Lib.hid hth
        have TW2 := Lib.hid htw
        have BE2 := Lib.hid hbel
        clear hb hth htw hbel
        go_wp2_with fail
        go_fit (M.out _ ((HT.out.below BE2.out).1))
        rintro e w3 ⟨v, rfl, hb⟩
        have hth := TH.out.below hb
        have htw := TW2.out.below hb
        have hbel := BE2.out.trans (hb.mono z4)
        clear u0 u1 u2 t0 t1 t2 t3 z2 z3
        obtain ⟨u0, u1, u2⟩ := hth.facts
        obtain ⟨t0, t1, t2, t3⟩ := htw.facts
        have z2 := hth.lt
        have z3 := htw.lt
        have z5 := hbel.size
        have TH3 := Lib.hid hth
        have TW3 := Lib.hid htw
        have BE3 := Lib.hid hbel
        clear hb hth htw hbel
        go_wp2_with fail
        go_fit (PM.out v _)
        rintro e w4 ⟨rfl, hb⟩
        have hth := TH3.out.below hb
        have htw := TW3.out.below hb
        have hbel := BE3.out.trans (hb.mono z5)
        clear u0 u1 u2 t0 t1 t2 t3 z2 z3
        obtain ⟨u0, u1, u2⟩ := hth.facts
        obtain ⟨t0, t1, t2, t3⟩ := htw.facts
        have z2 := hth.lt
        have z3 := htw.lt
        have z6 := hbel.size
        have TH4 := Lib.hid hth
        have TW4 := Lib.hid htw
        have BE4 := Lib.hid hbel
        clear hb hth htw hbel
        go_wp2_with fail
        refine bodyPost_ret (v := .tuple #[.string x, .agg #[.int .i64 v, .int .i64 9007199254740992], .bool false]) ?_ rfl ⟨x, v, 9007199254740992, false, rfl, by rw [HN.out]; rfl, ?_⟩
        · rw [results_tct rfl]
          go_simp
        · exact (BE4.out.setCell (Nat.le_refl _) _).setCell (Nat.le_refl _) _
      | some n =>
        obtain ⟨v, hv⟩ : ∃ v : Int, v = (n : Int) := ⟨_, rfl⟩
        have M0 := fun w hT => parseNumber_ok y (by omega) n (by rw [hyb]; exact hm) w hT
        rw [← hv] at M0
        have M := Lib.hid M0
        cases hn : nameB a
        · rw [hn] at N0
          have N := Lib.hid N0
          have HN := Lib.hid (show needP s.data.toList = none by rw [HPP.out rfl]; unfold numF; rw [hm]; dsimp only; rw [hn]; rfl)
          clear N0 hyb hxs hys hm M0 hn hv
          go_wp2_with fail
          go_fit (C.out _ (HT.out.below (BE.out.alloc z1 _)))
          rintro e w2 ⟨rfl, hb⟩
          have hth := (ThrL.new wr 73 (.string ⟨#[62, 61]⟩) (.bool false) (.bool true)).below hb
          have htw := (TW.out.alloc _).below hb
          have hbel := (BE.out.alloc z1 _).trans (hb.mono (by simp; omega))
          obtain ⟨u0, u1, u2⟩ := hth.facts
          clear t0 t1 t2 t3
          obtain ⟨t0, t1, t2, t3⟩ := htw.facts
          have z2 := hth.lt
          have z3 := htw.lt
          have z4 := hbel.size
          have TH := Lib.hid hth
          have TW2 := Lib.hid htw
          have BE2 := Lib.hid hbel
          clear hb hth htw hbel
          go_wp2_with fail
          go_fit (M.out _ ((HT.out.below BE2.out).1))
          rintro e w3 ⟨rfl, hb⟩
          have hth := TH.out.below hb
          have htw := TW2.out.below hb
          have hbel := BE2.out.trans (hb.mono z4)
          clear u0 u1 u2 t0 t1 t2 t3 z2 z3
          obtain ⟨u0, u1, u2⟩ := hth.facts
          obtain ⟨t0, t1, t2, t3⟩ := htw.facts
          have z2 := hth.lt
          have z3 := htw.lt
          have z5 := hbel.size
          have TH3 := Lib.hid hth
          have TW3 := Lib.hid htw
          have BE3 := Lib.hid hbel
          clear hb hth htw hbel
          go_wp2_with fail
          go_fit (PM.out v _)
          rintro e w4 ⟨rfl, hb⟩
          have hth := TH3.out.below hb
          have htw := TW3.out.below hb
          have hbel := BE3.out.trans (hb.mono z5)
          clear u0 u1 u2 t0 t1 t2 t3 z2 z3
          obtain ⟨u0, u1, u2⟩ := hth.facts
          obtain ⟨t0, t1, t2, t3⟩ := htw.facts
          have z2 := hth.lt
          have z3 := htw.lt
          have z6 := hbel.size
          have TH4 := Lib.hid hth
          have TW4 := Lib.hid htw
          have BE4 := Lib.hid hbel
          clear hb hth htw hbel
          go_wp2_with fail
          go_fit (N.out _)
          rintro e w5 ⟨rfl, hb⟩
          have hth := TH4.out.below hb
          have htw := TW4.out.below hb
          have hbel := BE4.out.trans (hb.mono z6)
          clear u0 u1 u2 t0 t1 t2 t3 z2 z3
          obtain ⟨u0, u1, u2⟩ := hth.facts
          obtain ⟨t0, t1, t2, t3⟩ := htw.facts
          have z2 := hth.lt
          have z3 := htw.lt
          have z7 := hbel.size
          have TH5 := Lib.hid hth
          have TW5 := Lib.hid htw
          have BE5 := Lib.hid hbel
          clear hb hth htw hbel
          go_wp2_with fail
          refine bodyPost_ret (v := .tuple #[.string x, .agg #[.int .i64 v, .int .i64 9007199254740992], .bool false]) ?_ rfl ⟨x, v, 9007199254740992, false, rfl, by rw [HN.out]; rfl, ?_⟩
          · rw [results_tct rfl]
            go_simp
          · exact (BE5.out.setCell (Nat.le_refl _) _).setCell (Nat.le_refl _) _
        · rw [hn] at N0
          have N := Lib.hid N0
          have HN := Lib.hid (show needP s.data.toList = some (a, v, 9007199254740992) by rw [HPP.out rfl, hv]; unfold numF; rw [hm]; dsimp only; rw [hn]; rfl)
          clear N0 hyb hxs hys hm M0 hn hv
          go_wp2_with fail
          go_fit (C.out _ (HT.out.below (BE.out.alloc z1 _)))
          rintro e w2 ⟨rfl, hb⟩
          have hth := (ThrL.new wr 73 (.string ⟨#[62, 61]⟩) (.bool false) (.bool true)).below hb
          have htw := (TW.out.alloc _).below hb
          have hbel := (BE.out.alloc z1 _).trans (hb.mono (by simp; omega))
          obtain ⟨u0, u1, u2⟩ := hth.facts
          clear t0 t1 t2 t3
          obtain ⟨t0, t1, t2, t3⟩ := htw.facts
          have z2 := hth.lt
          have z3 := htw.lt
          have z4 := hbel.size
          have TH := Lib.hid hth
          have TW2 := Lib.hid htw
          have BE2 := Lib.hid hbel
          clear hb hth htw hbel
          go_wp2_with fail
          go_fit (M.out _ ((HT.out.below BE2.out).1))
          rintro e w3 ⟨rfl, hb⟩
          have hth := TH.out.below hb
          have htw := TW2.out.below hb
          have hbel := BE2.out.trans (hb.mono z4)
          clear u0 u1 u2 t0 t1 t2 t3 z2 z3
          obtain ⟨u0, u1, u2⟩ := hth.facts
          obtain ⟨t0, t1, t2, t3⟩ := htw.facts
          have z2 := hth.lt
          have z3 := htw.lt
          have z5 := hbel.size
          have TH3 := Lib.hid hth
          have TW3 := Lib.hid htw
          have BE3 := Lib.hid hbel
          clear hb hth htw hbel
          go_wp2_with fail
          go_fit (PM.out v _)
          rintro e w4 ⟨rfl, hb⟩
          have hth := TH3.out.below hb
          have htw := TW3.out.below hb
          have hbel := BE3.out.trans (hb.mono z5)
          clear u0 u1 u2 t0 t1 t2 t3 z2 z3
          obtain ⟨u0, u1, u2⟩ := hth.facts
          obtain ⟨t0, t1, t2, t3⟩ := htw.facts
          have z2 := hth.lt
          have z3 := htw.lt
          have z6 := hbel.size
          have TH4 := Lib.hid hth
          have TW4 := Lib.hid htw
          have BE4 := Lib.hid hbel
          clear hb hth htw hbel
          go_wp2_with fail
          go_fit (N.out _)
          rintro e w5 ⟨rfl, hb⟩
          have hth := TH4.out.below hb
          have htw := TW4.out.below hb
          have hbel := BE4.out.trans (hb.mono z6)
          clear u0 u1 u2 t0 t1 t2 t3 z2 z3
          obtain ⟨u0, u1, u2⟩ := hth.facts
          obtain ⟨t0, t1, t2, t3⟩ := htw.facts
          have z2 := hth.lt
          have z3 := htw.lt
          have z7 := hbel.size
          have TH5 := Lib.hid hth
          have TW5 := Lib.hid htw
          have BE5 := Lib.hid hbel
          clear hb hth htw hbel
          go_wp2_with fail
          refine bodyPost_ret (v := .tuple #[.string x, .agg #[.int .i64 v, .int .i64 9007199254740992], .bool true]) ?_ rfl ⟨x, v, 9007199254740992, true, rfl, by rw [HN.out]; exact ⟨rfl, HX.out, rfl, rfl⟩, ?_⟩
          · rw [results_tct rfl]
            go_simp
          · exact (BE5.out.setCell (Nat.le_refl _) _).setCell (Nat.le_refl _) _
    · have ix := fun w => (comp_ix w).2.1
      have C0 := fun w hT => cut_any s ⟨#[60, 61]⟩ (by omega) w hT
      rw [show (⟨#[60, 61]⟩ : ByteArray).data.toList = [60, 61] from rfl] at C0
      have hl := cut_len s.data.toList [60, 61]
      have hsz : s.data.toList.length = s.size := by rw [Array.length_toList]; rfl
      have hP := needP_at_1 s.data.toList h33 (f1 (by omega))
      obtain ⟨a, b, f, hE⟩ : ∃ a b f, Lib.cut s.data.toList [60, 61] = (a, b, f) := ⟨_, _, _, rfl⟩
      rw [hE] at C0 hl hP
      dsimp only at C0 hl hP
      obtain ⟨x, hx⟩ : ∃ x : ByteArray, x = ⟨a.toArray⟩ := ⟨_, rfl⟩
      obtain ⟨y, hy⟩ : ∃ y : ByteArray, y = ⟨b.toArray⟩ := ⟨_, rfl⟩
      have hxa : x.data.toList = a := by rw [hx]
      have hyb : y.data.toList = b := by rw [hy]
      have hxs : x.size ≤ 1048576 := by rw [hx]; show a.toArray.size ≤ _; simp; omega
      have hys : y.size ≤ 1048576 := by rw [hy]; show b.toArray.size ≤ _; simp; omega
      rw [← hx, ← hy] at C0
      have C := Lib.hid C0
      have N0 := fun w => idName_any x (by omega) w
      rw [hxa] at N0
      have PM := Lib.hid (show ∀ (v : Int) (w : World), Calls Tryz.prog 52 #[.agg #[.string ⟨#[60, 61]⟩, .bool true, .bool false], .int .i64 v] w fun e w' => e = .returned (.agg #[.int .i64 0, .int .i64 v]) ∧ Below w.heap.size w w' from fun v w => permits_any ⟨#[60, 61]⟩ true false v w)
      have HX := Lib.hid hx
      have FF := Lib.hid (And.intro f1 (And.intro f2 f3))
      have HEE := Lib.hid (show (Lib.cut s.data.toList [60, 61]).2.2 = f by rw [hE])
      have HPP := Lib.hid hP
      clear C0 hl hsz hP hE hx hy hxa f1 f2 f3
      cases f
      · clear N0 hyb hxs hys
        go_wp2_with fail
        go_fit (C.out _ (HT.out.below (BE.out.alloc z1 _)))
        rintro e w2 ⟨rfl, hb⟩
        have hth := (ThrL.new wr 73 (.string ⟨#[60, 61]⟩) (.bool true) (.bool false)).below hb
        have htw := (TW.out.alloc _).below hb
        have hbel := (BE.out.alloc z1 _).trans (hb.mono (by simp; omega))
        obtain ⟨u0, u1, u2⟩ := hth.facts
        clear t0 t1 t2 t3
        obtain ⟨t0, t1, t2, t3⟩ := htw.facts
        have z2 := hth.lt
        have z3 := htw.lt
        have z4 := hbel.size
        have TH := Lib.hid hth
        have TW2 := Lib.hid htw
        have BE2 := Lib.hid hbel
        clear hb hth htw hbel
        go_wp2_with fail
        go_roundw
        case rel => exact ⟨1 + 1, rfl, by omega, fun _ => FF.out.1 (by omega), fun _ => HEE.out, fun h => by omega, TW2.out, BE2.out⟩
        case measure => simp [RowKit.intOf]
      cases hm : numL b with
      | none =>
        have M := Lib.hid (fun w hT => parseNumber_no y (by omega) (by rw [hyb]; exact hm) w hT)
        have HN := Lib.hid (show needP s.data.toList = none by rw [HPP.out rfl]; unfold numF; rw [hm])
        clear N0 hyb hxs hys hm
        go_wp2_with fail
        go_fit (C.out _ (HT.out.below (BE.out.alloc z1 _)))
        rintro e w2 ⟨rfl, hb⟩
        have hth := (ThrL.new wr 73 (.string ⟨#[60, 61]⟩) (.bool true) (.bool false)).below hb
        have htw := (TW.out.alloc _).below hb
        have hbel := (BE.out.alloc z1 _).trans (hb.mono (by simp; omega))
        obtain ⟨u0, u1, u2⟩ := hth.facts
        clear t0 t1 t2 t3
        obtain ⟨t0, t1, t2, t3⟩ := htw.facts
        have z2 := hth.lt
        have z3 := htw.lt
        have z4 := hbel.size
        have TH := Lib.hid hth
        have TW2 := Lib.hid htw
        have BE2 := Lib.hid hbel
        clear hb hth htw hbel
        go_wp2_with fail
        go_fit (M.out _ ((HT.out.below BE2.out).1))
        rintro e w3 ⟨v, rfl, hb⟩
        have hth := TH.out.below hb
        have htw := TW2.out.below hb
        have hbel := BE2.out.trans (hb.mono z4)
        clear u0 u1 u2 t0 t1 t2 t3 z2 z3
        obtain ⟨u0, u1, u2⟩ := hth.facts
        obtain ⟨t0, t1, t2, t3⟩ := htw.facts
        have z2 := hth.lt
        have z3 := htw.lt
        have z5 := hbel.size
        have TH3 := Lib.hid hth
        have TW3 := Lib.hid htw
        have BE3 := Lib.hid hbel
        clear hb hth htw hbel
        go_wp2_with fail
        go_fit (PM.out v _)
        rintro e w4 ⟨rfl, hb⟩
        have hth := TH3.out.below hb
        have htw := TW3.out.below hb
        have hbel := BE3.out.trans (hb.mono z5)
        clear u0 u1 u2 t0 t1 t2 t3 z2 z3
        obtain ⟨u0, u1, u2⟩ := hth.facts
        obtain ⟨t0, t1, t2, t3⟩ := htw.facts
        have z2 := hth.lt
        have z3 := htw.lt
        have z6 := hbel.size
        have TH4 := Lib.hid hth
        have TW4 := Lib.hid htw
        have BE4 := Lib.hid hbel
        clear hb hth htw hbel
        go_wp2_with fail
        refine bodyPost_ret (v := .tuple #[.string x, .agg #[.int .i64 0, .int .i64 v], .bool false]) ?_ rfl ⟨x, 0, v, false, rfl, by rw [HN.out]; rfl, ?_⟩
        · rw [results_tct rfl]
          go_simp
        · exact (BE4.out.setCell (Nat.le_refl _) _).setCell (Nat.le_refl _) _
      | some n =>
        obtain ⟨v, hv⟩ : ∃ v : Int, v = (n : Int) := ⟨_, rfl⟩
        have M0 := fun w hT => parseNumber_ok y (by omega) n (by rw [hyb]; exact hm) w hT
        rw [← hv] at M0
        have M := Lib.hid M0
        cases hn : nameB a
        · rw [hn] at N0
          have N := Lib.hid N0
          have HN := Lib.hid (show needP s.data.toList = none by rw [HPP.out rfl]; unfold numF; rw [hm]; dsimp only; rw [hn]; rfl)
          clear N0 hyb hxs hys hm M0 hn hv
          go_wp2_with fail
          go_fit (C.out _ (HT.out.below (BE.out.alloc z1 _)))
          rintro e w2 ⟨rfl, hb⟩
          have hth := (ThrL.new wr 73 (.string ⟨#[60, 61]⟩) (.bool true) (.bool false)).below hb
          have htw := (TW.out.alloc _).below hb
          have hbel := (BE.out.alloc z1 _).trans (hb.mono (by simp; omega))
          obtain ⟨u0, u1, u2⟩ := hth.facts
          clear t0 t1 t2 t3
          obtain ⟨t0, t1, t2, t3⟩ := htw.facts
          have z2 := hth.lt
          have z3 := htw.lt
          have z4 := hbel.size
          have TH := Lib.hid hth
          have TW2 := Lib.hid htw
          have BE2 := Lib.hid hbel
          clear hb hth htw hbel
          go_wp2_with fail
          go_fit (M.out _ ((HT.out.below BE2.out).1))
          rintro e w3 ⟨rfl, hb⟩
          have hth := TH.out.below hb
          have htw := TW2.out.below hb
          have hbel := BE2.out.trans (hb.mono z4)
          clear u0 u1 u2 t0 t1 t2 t3 z2 z3
          obtain ⟨u0, u1, u2⟩ := hth.facts
          obtain ⟨t0, t1, t2, t3⟩ := htw.facts
          have z2 := hth.lt
          have z3 := htw.lt
          have z5 := hbel.size
          have TH3 := Lib.hid hth
          have TW3 := Lib.hid htw
          have BE3 := Lib.hid hbel
          clear hb hth htw hbel
          go_wp2_with fail
          go_fit (PM.out v _)
          rintro e w4 ⟨rfl, hb⟩
          have hth := TH3.out.below hb
          have htw := TW3.out.below hb
          have hbel := BE3.out.trans (hb.mono z5)
          clear u0 u1 u2 t0 t1 t2 t3 z2 z3
          obtain ⟨u0, u1, u2⟩ := hth.facts
          obtain ⟨t0, t1, t2, t3⟩ := htw.facts
          have z2 := hth.lt
          have z3 := htw.lt
          have z6 := hbel.size
          have TH4 := Lib.hid hth
          have TW4 := Lib.hid htw
          have BE4 := Lib.hid hbel
          clear hb hth htw hbel
          go_wp2_with fail
          go_fit (N.out _)
          rintro e w5 ⟨rfl, hb⟩
          have hth := TH4.out.below hb
          have htw := TW4.out.below hb
          have hbel := BE4.out.trans (hb.mono z6)
          clear u0 u1 u2 t0 t1 t2 t3 z2 z3
          obtain ⟨u0, u1, u2⟩ := hth.facts
          obtain ⟨t0, t1, t2, t3⟩ := htw.facts
          have z2 := hth.lt
          have z3 := htw.lt
          have z7 := hbel.size
          have TH5 := Lib.hid hth
          have TW5 := Lib.hid htw
          have BE5 := Lib.hid hbel
          clear hb hth htw hbel
          go_wp2_with fail
          refine bodyPost_ret (v := .tuple #[.string x, .agg #[.int .i64 0, .int .i64 v], .bool false]) ?_ rfl ⟨x, 0, v, false, rfl, by rw [HN.out]; rfl, ?_⟩
          · rw [results_tct rfl]
            go_simp
          · exact (BE5.out.setCell (Nat.le_refl _) _).setCell (Nat.le_refl _) _
        · rw [hn] at N0
          have N := Lib.hid N0
          have HN := Lib.hid (show needP s.data.toList = some (a, 0, v) by rw [HPP.out rfl, hv]; unfold numF; rw [hm]; dsimp only; rw [hn]; rfl)
          clear N0 hyb hxs hys hm M0 hn hv
          go_wp2_with fail
          go_fit (C.out _ (HT.out.below (BE.out.alloc z1 _)))
          rintro e w2 ⟨rfl, hb⟩
          have hth := (ThrL.new wr 73 (.string ⟨#[60, 61]⟩) (.bool true) (.bool false)).below hb
          have htw := (TW.out.alloc _).below hb
          have hbel := (BE.out.alloc z1 _).trans (hb.mono (by simp; omega))
          obtain ⟨u0, u1, u2⟩ := hth.facts
          clear t0 t1 t2 t3
          obtain ⟨t0, t1, t2, t3⟩ := htw.facts
          have z2 := hth.lt
          have z3 := htw.lt
          have z4 := hbel.size
          have TH := Lib.hid hth
          have TW2 := Lib.hid htw
          have BE2 := Lib.hid hbel
          clear hb hth htw hbel
          go_wp2_with fail
          go_fit (M.out _ ((HT.out.below BE2.out).1))
          rintro e w3 ⟨rfl, hb⟩
          have hth := TH.out.below hb
          have htw := TW2.out.below hb
          have hbel := BE2.out.trans (hb.mono z4)
          clear u0 u1 u2 t0 t1 t2 t3 z2 z3
          obtain ⟨u0, u1, u2⟩ := hth.facts
          obtain ⟨t0, t1, t2, t3⟩ := htw.facts
          have z2 := hth.lt
          have z3 := htw.lt
          have z5 := hbel.size
          have TH3 := Lib.hid hth
          have TW3 := Lib.hid htw
          have BE3 := Lib.hid hbel
          clear hb hth htw hbel
          go_wp2_with fail
          go_fit (PM.out v _)
          rintro e w4 ⟨rfl, hb⟩
          have hth := TH3.out.below hb
          have htw := TW3.out.below hb
          have hbel := BE3.out.trans (hb.mono z5)
          clear u0 u1 u2 t0 t1 t2 t3 z2 z3
          obtain ⟨u0, u1, u2⟩ := hth.facts
          obtain ⟨t0, t1, t2, t3⟩ := htw.facts
          have z2 := hth.lt
          have z3 := htw.lt
          have z6 := hbel.size
          have TH4 := Lib.hid hth
          have TW4 := Lib.hid htw
          have BE4 := Lib.hid hbel
          clear hb hth htw hbel
          go_wp2_with fail
          go_fit (N.out _)
          rintro e w5 ⟨rfl, hb⟩
          have hth := TH4.out.below hb
          have htw := TW4.out.below hb
          have hbel := BE4.out.trans (hb.mono z6)
          clear u0 u1 u2 t0 t1 t2 t3 z2 z3
          obtain ⟨u0, u1, u2⟩ := hth.facts
          obtain ⟨t0, t1, t2, t3⟩ := htw.facts
          have z2 := hth.lt
          have z3 := htw.lt
          have z7 := hbel.size
          have TH5 := Lib.hid hth
          have TW5 := Lib.hid htw
          have BE5 := Lib.hid hbel
          clear hb hth htw hbel
          go_wp2_with fail
          refine bodyPost_ret (v := .tuple #[.string x, .agg #[.int .i64 0, .int .i64 v], .bool true]) ?_ rfl ⟨x, 0, v, true, rfl, by rw [HN.out]; exact ⟨rfl, HX.out, rfl, rfl⟩, ?_⟩
          · rw [results_tct rfl]
            go_simp
          · exact (BE5.out.setCell (Nat.le_refl _) _).setCell (Nat.le_refl _) _
    · have ix := fun w => (comp_ix w).2.2
      have C0 := fun w hT => cut_any s ⟨#[61]⟩ (by omega) w hT
      rw [show (⟨#[61]⟩ : ByteArray).data.toList = [61] from rfl] at C0
      have hl := cut_len s.data.toList [61]
      have hsz : s.data.toList.length = s.size := by rw [Array.length_toList]; rfl
      have hP := needP_at_2 s.data.toList h33 (f1 (by omega)) (f2 (by omega))
      obtain ⟨a, b, f, hE⟩ : ∃ a b f, Lib.cut s.data.toList [61] = (a, b, f) := ⟨_, _, _, rfl⟩
      rw [hE] at C0 hl hP
      dsimp only at C0 hl hP
      obtain ⟨x, hx⟩ : ∃ x : ByteArray, x = ⟨a.toArray⟩ := ⟨_, rfl⟩
      obtain ⟨y, hy⟩ : ∃ y : ByteArray, y = ⟨b.toArray⟩ := ⟨_, rfl⟩
      have hxa : x.data.toList = a := by rw [hx]
      have hyb : y.data.toList = b := by rw [hy]
      have hxs : x.size ≤ 1048576 := by rw [hx]; show a.toArray.size ≤ _; simp; omega
      have hys : y.size ≤ 1048576 := by rw [hy]; show b.toArray.size ≤ _; simp; omega
      rw [← hx, ← hy] at C0
      have C := Lib.hid C0
      have N0 := fun w => idName_any x (by omega) w
      rw [hxa] at N0
      have PM := Lib.hid (show ∀ (v : Int) (w : World), Calls Tryz.prog 52 #[.agg #[.string ⟨#[61]⟩, .bool false, .bool false], .int .i64 v] w fun e w' => e = .returned (.agg #[.int .i64 v, .int .i64 v]) ∧ Below w.heap.size w w' from fun v w => permits_any ⟨#[61]⟩ false false v w)
      have HX := Lib.hid hx
      have FF := Lib.hid (And.intro f1 (And.intro f2 f3))
      have HEE := Lib.hid (show (Lib.cut s.data.toList [61]).2.2 = f by rw [hE])
      have HPP := Lib.hid hP
      clear C0 hl hsz hP hE hx hy hxa f1 f2 f3
      cases f
      · clear N0 hyb hxs hys
        go_wp2_with fail
        go_fit (C.out _ (HT.out.below (BE.out.alloc z1 _)))
        rintro e w2 ⟨rfl, hb⟩
        have hth := (ThrL.new wr 73 (.string ⟨#[61]⟩) (.bool false) (.bool false)).below hb
        have htw := (TW.out.alloc _).below hb
        have hbel := (BE.out.alloc z1 _).trans (hb.mono (by simp; omega))
        obtain ⟨u0, u1, u2⟩ := hth.facts
        clear t0 t1 t2 t3
        obtain ⟨t0, t1, t2, t3⟩ := htw.facts
        have z2 := hth.lt
        have z3 := htw.lt
        have z4 := hbel.size
        have TH := Lib.hid hth
        have TW2 := Lib.hid htw
        have BE2 := Lib.hid hbel
        clear hb hth htw hbel
        go_wp2_with fail
        go_roundw
        case rel => exact ⟨2 + 1, rfl, by omega, fun _ => FF.out.1 (by omega), fun _ => FF.out.2.1 (by omega), fun _ => HEE.out, TW2.out, BE2.out⟩
        case measure => simp [RowKit.intOf]
      cases hm : numL b with
      | none =>
        have M := Lib.hid (fun w hT => parseNumber_no y (by omega) (by rw [hyb]; exact hm) w hT)
        have HN := Lib.hid (show needP s.data.toList = none by rw [HPP.out rfl]; unfold numF; rw [hm])
        clear N0 hyb hxs hys hm
        go_wp2_with fail
        go_fit (C.out _ (HT.out.below (BE.out.alloc z1 _)))
        rintro e w2 ⟨rfl, hb⟩
        have hth := (ThrL.new wr 73 (.string ⟨#[61]⟩) (.bool false) (.bool false)).below hb
        have htw := (TW.out.alloc _).below hb
        have hbel := (BE.out.alloc z1 _).trans (hb.mono (by simp; omega))
        obtain ⟨u0, u1, u2⟩ := hth.facts
        clear t0 t1 t2 t3
        obtain ⟨t0, t1, t2, t3⟩ := htw.facts
        have z2 := hth.lt
        have z3 := htw.lt
        have z4 := hbel.size
        have TH := Lib.hid hth
        have TW2 := Lib.hid htw
        have BE2 := Lib.hid hbel
        clear hb hth htw hbel
        go_wp2_with fail
        go_fit (M.out _ ((HT.out.below BE2.out).1))
        rintro e w3 ⟨v, rfl, hb⟩
        have hth := TH.out.below hb
        have htw := TW2.out.below hb
        have hbel := BE2.out.trans (hb.mono z4)
        clear u0 u1 u2 t0 t1 t2 t3 z2 z3
        obtain ⟨u0, u1, u2⟩ := hth.facts
        obtain ⟨t0, t1, t2, t3⟩ := htw.facts
        have z2 := hth.lt
        have z3 := htw.lt
        have z5 := hbel.size
        have TH3 := Lib.hid hth
        have TW3 := Lib.hid htw
        have BE3 := Lib.hid hbel
        clear hb hth htw hbel
        go_wp2_with fail
        go_fit (PM.out v _)
        rintro e w4 ⟨rfl, hb⟩
        have hth := TH3.out.below hb
        have htw := TW3.out.below hb
        have hbel := BE3.out.trans (hb.mono z5)
        clear u0 u1 u2 t0 t1 t2 t3 z2 z3
        obtain ⟨u0, u1, u2⟩ := hth.facts
        obtain ⟨t0, t1, t2, t3⟩ := htw.facts
        have z2 := hth.lt
        have z3 := htw.lt
        have z6 := hbel.size
        have TH4 := Lib.hid hth
        have TW4 := Lib.hid htw
        have BE4 := Lib.hid hbel
        clear hb hth htw hbel
        go_wp2_with fail
        refine bodyPost_ret (v := .tuple #[.string x, .agg #[.int .i64 v, .int .i64 v], .bool false]) ?_ rfl ⟨x, v, v, false, rfl, by rw [HN.out]; rfl, ?_⟩
        · rw [results_tct rfl]
          go_simp
        · exact (BE4.out.setCell (Nat.le_refl _) _).setCell (Nat.le_refl _) _
      | some n =>
        obtain ⟨v, hv⟩ : ∃ v : Int, v = (n : Int) := ⟨_, rfl⟩
        have M0 := fun w hT => parseNumber_ok y (by omega) n (by rw [hyb]; exact hm) w hT
        rw [← hv] at M0
        have M := Lib.hid M0
        cases hn : nameB a
        · rw [hn] at N0
          have N := Lib.hid N0
          have HN := Lib.hid (show needP s.data.toList = none by rw [HPP.out rfl]; unfold numF; rw [hm]; dsimp only; rw [hn]; rfl)
          clear N0 hyb hxs hys hm M0 hn hv
          go_wp2_with fail
          go_fit (C.out _ (HT.out.below (BE.out.alloc z1 _)))
          rintro e w2 ⟨rfl, hb⟩
          have hth := (ThrL.new wr 73 (.string ⟨#[61]⟩) (.bool false) (.bool false)).below hb
          have htw := (TW.out.alloc _).below hb
          have hbel := (BE.out.alloc z1 _).trans (hb.mono (by simp; omega))
          obtain ⟨u0, u1, u2⟩ := hth.facts
          clear t0 t1 t2 t3
          obtain ⟨t0, t1, t2, t3⟩ := htw.facts
          have z2 := hth.lt
          have z3 := htw.lt
          have z4 := hbel.size
          have TH := Lib.hid hth
          have TW2 := Lib.hid htw
          have BE2 := Lib.hid hbel
          clear hb hth htw hbel
          go_wp2_with fail
          go_fit (M.out _ ((HT.out.below BE2.out).1))
          rintro e w3 ⟨rfl, hb⟩
          have hth := TH.out.below hb
          have htw := TW2.out.below hb
          have hbel := BE2.out.trans (hb.mono z4)
          clear u0 u1 u2 t0 t1 t2 t3 z2 z3
          obtain ⟨u0, u1, u2⟩ := hth.facts
          obtain ⟨t0, t1, t2, t3⟩ := htw.facts
          have z2 := hth.lt
          have z3 := htw.lt
          have z5 := hbel.size
          have TH3 := Lib.hid hth
          have TW3 := Lib.hid htw
          have BE3 := Lib.hid hbel
          clear hb hth htw hbel
          go_wp2_with fail
          go_fit (PM.out v _)
          rintro e w4 ⟨rfl, hb⟩
          have hth := TH3.out.below hb
          have htw := TW3.out.below hb
          have hbel := BE3.out.trans (hb.mono z5)
          clear u0 u1 u2 t0 t1 t2 t3 z2 z3
          obtain ⟨u0, u1, u2⟩ := hth.facts
          obtain ⟨t0, t1, t2, t3⟩ := htw.facts
          have z2 := hth.lt
          have z3 := htw.lt
          have z6 := hbel.size
          have TH4 := Lib.hid hth
          have TW4 := Lib.hid htw
          have BE4 := Lib.hid hbel
          clear hb hth htw hbel
          go_wp2_with fail
          go_fit (N.out _)
          rintro e w5 ⟨rfl, hb⟩
          have hth := TH4.out.below hb
          have htw := TW4.out.below hb
          have hbel := BE4.out.trans (hb.mono z6)
          clear u0 u1 u2 t0 t1 t2 t3 z2 z3
          obtain ⟨u0, u1, u2⟩ := hth.facts
          obtain ⟨t0, t1, t2, t3⟩ := htw.facts
          have z2 := hth.lt
          have z3 := htw.lt
          have z7 := hbel.size
          have TH5 := Lib.hid hth
          have TW5 := Lib.hid htw
          have BE5 := Lib.hid hbel
          clear hb hth htw hbel
          go_wp2_with fail
          refine bodyPost_ret (v := .tuple #[.string x, .agg #[.int .i64 v, .int .i64 v], .bool false]) ?_ rfl ⟨x, v, v, false, rfl, by rw [HN.out]; rfl, ?_⟩
          · rw [results_tct rfl]
            go_simp
          · exact (BE5.out.setCell (Nat.le_refl _) _).setCell (Nat.le_refl _) _
        · rw [hn] at N0
          have N := Lib.hid N0
          have HN := Lib.hid (show needP s.data.toList = some (a, v, v) by rw [HPP.out rfl, hv]; unfold numF; rw [hm]; dsimp only; rw [hn]; rfl)
          clear N0 hyb hxs hys hm M0 hn hv
          go_wp2_with fail
          go_fit (C.out _ (HT.out.below (BE.out.alloc z1 _)))
          rintro e w2 ⟨rfl, hb⟩
          have hth := (ThrL.new wr 73 (.string ⟨#[61]⟩) (.bool false) (.bool false)).below hb
          have htw := (TW.out.alloc _).below hb
          have hbel := (BE.out.alloc z1 _).trans (hb.mono (by simp; omega))
          obtain ⟨u0, u1, u2⟩ := hth.facts
          clear t0 t1 t2 t3
          obtain ⟨t0, t1, t2, t3⟩ := htw.facts
          have z2 := hth.lt
          have z3 := htw.lt
          have z4 := hbel.size
          have TH := Lib.hid hth
          have TW2 := Lib.hid htw
          have BE2 := Lib.hid hbel
          clear hb hth htw hbel
          go_wp2_with fail
          go_fit (M.out _ ((HT.out.below BE2.out).1))
          rintro e w3 ⟨rfl, hb⟩
          have hth := TH.out.below hb
          have htw := TW2.out.below hb
          have hbel := BE2.out.trans (hb.mono z4)
          clear u0 u1 u2 t0 t1 t2 t3 z2 z3
          obtain ⟨u0, u1, u2⟩ := hth.facts
          obtain ⟨t0, t1, t2, t3⟩ := htw.facts
          have z2 := hth.lt
          have z3 := htw.lt
          have z5 := hbel.size
          have TH3 := Lib.hid hth
          have TW3 := Lib.hid htw
          have BE3 := Lib.hid hbel
          clear hb hth htw hbel
          go_wp2_with fail
          go_fit (PM.out v _)
          rintro e w4 ⟨rfl, hb⟩
          have hth := TH3.out.below hb
          have htw := TW3.out.below hb
          have hbel := BE3.out.trans (hb.mono z5)
          clear u0 u1 u2 t0 t1 t2 t3 z2 z3
          obtain ⟨u0, u1, u2⟩ := hth.facts
          obtain ⟨t0, t1, t2, t3⟩ := htw.facts
          have z2 := hth.lt
          have z3 := htw.lt
          have z6 := hbel.size
          have TH4 := Lib.hid hth
          have TW4 := Lib.hid htw
          have BE4 := Lib.hid hbel
          clear hb hth htw hbel
          go_wp2_with fail
          go_fit (N.out _)
          rintro e w5 ⟨rfl, hb⟩
          have hth := TH4.out.below hb
          have htw := TW4.out.below hb
          have hbel := BE4.out.trans (hb.mono z6)
          clear u0 u1 u2 t0 t1 t2 t3 z2 z3
          obtain ⟨u0, u1, u2⟩ := hth.facts
          obtain ⟨t0, t1, t2, t3⟩ := htw.facts
          have z2 := hth.lt
          have z3 := htw.lt
          have z7 := hbel.size
          have TH5 := Lib.hid hth
          have TW5 := Lib.hid htw
          have BE5 := Lib.hid hbel
          clear hb hth htw hbel
          go_wp2_with fail
          refine bodyPost_ret (v := .tuple #[.string x, .agg #[.int .i64 v, .int .i64 v], .bool true]) ?_ rfl ⟨x, v, v, true, rfl, by rw [HN.out]; exact ⟨rfl, HX.out, rfl, rfl⟩, ?_⟩
          · rw [results_tct rfl]
            go_simp
          · exact (BE5.out.setCell (Nat.le_refl _) _).setCell (Nat.le_refl _) _
    · have F := Lib.hid (And.intro (f1 (by omega)) (And.intro (f2 (by omega)) (f3 (by omega))))
      clear f1 f2 f3
      have N := Lib.hid (fun w => idName_any s (by omega) w)
      have hP := needP_at_3 s.data.toList h33 F.out.1 F.out.2.1 F.out.2.2
      cases hn : nameB s.data.toList
      · rw [hn] at N hP
        have HN := Lib.hid (show needP s.data.toList = none from hP)
        clear hP hn
        go_wp2_with fail
        go_fit (N.out _)
        rintro e w4 ⟨rfl, hb⟩
        have htw := TW.out.below hb
        have BE4 := Lib.hid (BE.out.trans (hb.mono z1))
        clear t0 t1 t2 t3
        obtain ⟨t0, t1, t2, t3⟩ := htw.facts
        clear hb htw
        go_wp2_with fail
        refine bodyPost_ret (v := .tuple #[.string s, .agg #[.int .i64 (-1), .int .i64 9007199254740992], .bool false]) ?_ rfl ⟨s, -1, 9007199254740992, false, rfl, by rw [HN.out]; rfl, ?_⟩
        · rw [results_tct rfl]
          go_simp
        · exact (BE4.out.setCell (Nat.le_refl _) _).setCell (Nat.le_refl _) _
      · rw [hn] at N hP
        have HN := Lib.hid (show needP s.data.toList = some (s.data.toList, -1, 9007199254740992) from hP)
        clear hP hn
        go_wp2_with fail
        go_fit (N.out _)
        rintro e w4 ⟨rfl, hb⟩
        have htw := TW.out.below hb
        have BE4 := Lib.hid (BE.out.trans (hb.mono z1))
        clear t0 t1 t2 t3
        obtain ⟨t0, t1, t2, t3⟩ := htw.facts
        clear hb htw
        go_wp2_with fail
        refine bodyPost_ret (v := .tuple #[.string s, .agg #[.int .i64 (-1), .int .i64 9007199254740992], .bool true]) ?_ rfl ⟨s, -1, 9007199254740992, true, rfl, by rw [HN.out]; exact ⟨rfl, str_of rfl, rfl, rfl⟩, ?_⟩
        · rw [results_tct rfl]
          go_simp
        · exact (BE4.out.setCell (Nat.le_refl _) _).setCell (Nat.le_refl _) _

set_option maxHeartbeats 4000000 in
theorem parseNeed_not (s : ByteArray) (hs : s.size ≤ 1048576) (h33 : Lib.hasPrefix s.data.toList [33] = true) (w : World) :
    Calls Tryz.prog 27 #[.string s] w (NeedPost s w) := by
  have P0 := fun w => Tryz.strings_CutPrefix s ⟨#[33]⟩ w
  rw [show (⟨#[33]⟩ : ByteArray).data.toList = [33] from rfl, h33, show Lib.trimPrefix s.data.toList [33] = s.data.toList.drop 1 by unfold Lib.trimPrefix; rw [h33]; rfl] at P0
  have hP : needP s.data.toList = if nameB (s.data.toList.drop 1) = true then some (s.data.toList.drop 1, -2, -2) else none := by unfold needP; rw [h33]; rfl
  obtain ⟨x, hx⟩ : ∃ x : ByteArray, x = ⟨(s.data.toList.drop 1).toArray⟩ := ⟨_, rfl⟩
  have hsz : s.data.toList.length = s.size := by rw [Array.length_toList]; rfl
  have hxs : x.size ≤ 1048576 := by rw [hx]; show (s.data.toList.drop 1).toArray.size ≤ _; simp; omega
  have hxa : x.data.toList = s.data.toList.drop 1 := by rw [hx]
  rw [← hx] at P0
  have P := Lib.hid P0
  have N := Lib.hid (fun w => idName_any x (by omega) w)
  rw [hxa] at N
  have HX := Lib.hid hx
  have T0 := Lib.hid (TwoL.new w 40 (.int .i64 0) (.int .i64 0))
  have B0 := Lib.hid ((Below.refl w.heap.size w).alloc (Nat.le_refl _) (.cells #[.int .i64 0, .int .i64 0] 40))
  clear P0 hx hsz hxa h33
  cases hn : nameB (s.data.toList.drop 1)
  · rw [hn] at N hP
    have HN := Lib.hid (show needP s.data.toList = none from hP)
    clear hP hn
    go_enter Tryz.func27, Tryz.ntmps27
    go_wp2_with fail
    go_fit (P.out _)
    rintro e w1 ⟨rfl, rfl⟩
    go_wp2_with fail
    go_fit (N.out _)
    rintro e w4 ⟨rfl, hb⟩
    have htw := T0.out.below hb
    have BE4 := Lib.hid (B0.out.trans (hb.mono (by simp)))
    obtain ⟨t0, t1, t2, t3⟩ := htw.facts
    clear hb htw
    go_wp2_with fail
    refine bodyPost_ret (v := .tuple #[.string x, .agg #[.int .i64 (-2), .int .i64 (-2)], .bool false]) ?_ rfl ⟨x, -2, -2, false, rfl, by rw [HN.out]; rfl, ?_⟩
    · rw [results_tct rfl]
      go_simp
    · exact (BE4.out.setCell (Nat.le_refl _) _).setCell (Nat.le_refl _) _
  · rw [hn] at N hP
    have HN := Lib.hid (show needP s.data.toList = some (s.data.toList.drop 1, -2, -2) from hP)
    clear hP hn
    go_enter Tryz.func27, Tryz.ntmps27
    go_wp2_with fail
    go_fit (P.out _)
    rintro e w1 ⟨rfl, rfl⟩
    go_wp2_with fail
    go_fit (N.out _)
    rintro e w4 ⟨rfl, hb⟩
    have htw := T0.out.below hb
    have BE4 := Lib.hid (B0.out.trans (hb.mono (by simp)))
    obtain ⟨t0, t1, t2, t3⟩ := htw.facts
    clear hb htw
    go_wp2_with fail
    refine bodyPost_ret (v := .tuple #[.string x, .agg #[.int .i64 (-2), .int .i64 (-2)], .bool true]) ?_ rfl ⟨x, -2, -2, true, rfl, by rw [HN.out]; exact ⟨rfl, HX.out, rfl, rfl⟩, ?_⟩
    · rw [results_tct rfl]
      go_simp
    · exact (BE4.out.setCell (Nat.le_refl _) _).setCell (Nat.le_refl _) _
theorem parseNeed_any (s : ByteArray) (hs : s.size ≤ 1048576) (w : World) (hT : TabK w) :
    Calls Tryz.prog 27 #[.string s] w (NeedPost s w) := by
  cases h : Lib.hasPrefix s.data.toList [33]
  · exact parseNeed_cut s hs h w hT
  · exact parseNeed_not s hs h w
end Go.Proofs.YtglckcenjnieaaaGreatDoor
