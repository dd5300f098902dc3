/- P7.3, P7.7: ValueShown returns true for every two values of bulk at most 1048576 together (the second form): two valid values have the same literal only if they are equal. Condition: the bulk alone, and what the listed variables hold. -/
import Derived.Test.YtabopneehhnhfaaGreatDoorTie
import Derived.Test.YtabopneehhnhfaaGreatDoorCards
import Derived.Test.YtabopneehhnhfaaGreatDoorVluTab
import Derived.Test.YtabopneehhnhfaaGreatDoorOpR
import Derived.Test.YtabopneehhnhfaaGreatDoorVluWk
import Derived.Test.YtabopneehhnhfaaGreatDoorVluI
import Derived.Test.YtabopneehhnhfaaGreatDoorVluRd
import Derived.Test.YtabopneehhnhfaaGreatDoorValM
import Derived.Test.YtabopneehhnhfaaGreatDoorOpW
import Derived.ProofKit
import Derived.OpenShut
import Derived.LaidMore
import Derived.Stop.Joined
import Derived.SevenTiedAt
import Derived.SizedLaws
import Derived.Deep.DeepHandedRow
namespace Go.Proofs.YtabopneehhnhfaaGreatDoor.valueShown
open Go.ChangeShapes Go.WideShapes Go.ChangeAt Go.RowKit
set_option linter.unusedVariables false

theorem own : ownKnob Tryz.prog.godebug = none := by kernel_rfl
theorem laidOut : laidOutB Tryz.prog = true := by kernel_rfl

/-- The boxes of two values. -/
def S12 (w : World) (k : Int) (t : Bool) (i : Int) (s : ByteArray) (a b : Value) (k' : Int) (t' : Bool) (i' : Int) (s' : ByteArray) (a' b' : Value) (w' : World) : Prop :=
  w'.cell? ⟨w.heap.size, 0, none⟩ = some (.int .i64 k) ∧ w'.cell? ⟨w.heap.size, 1, none⟩ = some (.bool t) ∧ w'.cell? ⟨w.heap.size, 2, none⟩ = some (.int .i64 i) ∧ w'.cell? ⟨w.heap.size, 3, none⟩ = some (.string s) ∧ w'.cell? ⟨w.heap.size, 4, none⟩ = some (a) ∧ w'.cell? ⟨w.heap.size, 5, none⟩ = some (b) ∧ w'.cell? ⟨w.heap.size + 1, 0, none⟩ = some (.int .i64 k') ∧ w'.cell? ⟨w.heap.size + 1, 1, none⟩ = some (.bool t') ∧ w'.cell? ⟨w.heap.size + 1, 2, none⟩ = some (.int .i64 i') ∧ w'.cell? ⟨w.heap.size + 1, 3, none⟩ = some (.string s') ∧ w'.cell? ⟨w.heap.size + 1, 4, none⟩ = some (a') ∧ w'.cell? ⟨w.heap.size + 1, 5, none⟩ = some (b') ∧ Below w.heap.size w w'
theorem S12.parts {w : World} {k : Int} {t : Bool} {i : Int} {s : ByteArray} {a b : Value} {k' : Int} {t' : Bool} {i' : Int} {s' : ByteArray} {a' b' : Value} {w1 : World} (h : S12 w k t i s a b k' t' i' s' a' b' w1) : Box6 w.heap.size k t i s a b w1 ∧ Box6 (w.heap.size + 1) k' t' i' s' a' b' w1 ∧ Below w.heap.size w w1 := by
  obtain ⟨x0, x1, x2, x3, x4, x5, y0, y1, y2, y3, y4, y5, hb⟩ := h
  exact ⟨⟨x0, x1, x2, x3, x4, x5⟩, ⟨y0, y1, y2, y3, y4, y5⟩, hb⟩
theorem S12.mk' {w : World} {k : Int} {t : Bool} {i : Int} {s : ByteArray} {a b : Value} {k' : Int} {t' : Bool} {i' : Int} {s' : ByteArray} {a' b' : Value} {w1 : World} (hx : Box6 w.heap.size k t i s a b w1) (hy : Box6 (w.heap.size + 1) k' t' i' s' a' b' w1) (hb : Below w.heap.size w w1) : S12 w k t i s a b k' t' i' s' a' b' w1 := by
  obtain ⟨x0, x1, x2, x3, x4, x5⟩ := hx
  obtain ⟨y0, y1, y2, y3, y4, y5⟩ := hy
  exact ⟨x0, x1, x2, x3, x4, x5, y0, y1, y2, y3, y4, y5, hb⟩
theorem S12.below {w : World} {k : Int} {t : Bool} {i : Int} {s : ByteArray} {a b : Value} {k' : Int} {t' : Bool} {i' : Int} {s' : ByteArray} {a' b' : Value} {w1 w2 : World} (h : S12 w k t i s a b k' t' i' s' a' b' w1) (hb : Below w1.heap.size w1 w2) : S12 w k t i s a b k' t' i' s' a' b' w2 :=
  S12.mk' (h.parts.1.below hb) (h.parts.2.1.below hb) (h.parts.2.2.trans (hb.mono h.parts.2.2.size))
theorem S12.drew {w : World} {k : Int} {t : Bool} {i : Int} {s : ByteArray} {a b : Value} {k' : Int} {t' : Bool} {i' : Int} {s' : ByteArray} {a' b' : Value} {w1 : World} (h : S12 w k t i s a b k' t' i' s' a' b' w1) : S12 w k t i s a b k' t' i' s' a' b' w1.drew := h.below (Below.refl _ _).drew
/-- For valid values: one literal, one value. -/
theorem show_inj {m : Nat} {x y : Vl} (fx : fitsV m x) (fy : fitsV m y) (hx : errV 16 x = 0) (hy : errV 16 y = 0) : ((showB m x).toList == (showB m y).toList) = decide (cmpV m x y = 0) ∧ sameV m x y = decide (cmpV m x y = 0) := by
  have hc := cmpV_eq m 16 x y fx fy hx hy
  have hs := sameV_iff m x y fx fy
  by_cases e : x = y
  · have h0 := hc.2 e
    rw [h0, hs.2 e, e]
    exact ⟨by simp, by simp⟩
  · have h0 : ¬ cmpV m x y = 0 := fun h => e (hc.1 h)
    have h1 : sameV m x y = false := by
      cases h : sameV m x y
      · rfl
      · exact absurd (hs.1 h) e
    rw [h1, decide_eq_false h0]
    refine ⟨?_, rfl⟩
    rw [beq_eq_false_iff_ne]
    intro h
    unfold showB at h
    rw [if_pos hx, if_pos hy, Lib.toList_data, Lib.toList_data] at h
    have hl : litV m x ++ [] = litV m y ++ [] := by simpa using h
    exact e (lit_inj m 16 x y [] [] fx fy hx hy (fun h t e => nomatch e) (fun h t e => nomatch e) hl).1
set_option maxHeartbeats 8000000 in
set_option maxRecDepth 100000 in
theorem walk (m0 : Nat) (A : Value) (x : Vl) (hlimA : ∀ m, errV 16 x = 0 → (litV m x).length + 64 ≤ 140737488355328) (m1 : Nat) (B : Value) (y : Vl) (hlimB : ∀ m, errV 16 y = 0 → (litV m y).length + 64 ≤ 140737488355328) (w : World) (hT : TabP w) (hA' : IsV m0 w A x) (hB' : IsV m1 w B y) :
    Calls Tryz.prog 6 #[A, B] w fun e w' => e = .returned (.bool true) ∧ Below w.heap.size w w' := by
  obtain ⟨m, hm⟩ : ∃ m, m = max m0 m1 := ⟨_, rfl⟩
  have hA := isV_up (show m0 ≤ m by omega) hA'
  have hB := isV_up (show m1 ≤ m by omega) hB'
  clear hA' hB' hm
  have SA := Lib.hid (fun w' (h : Below w.heap.size w w') => show_any m A x w' (tabP_below hT h) (hA.below h) (hlimA m))
  have SB := Lib.hid (fun w' (h : Below w.heap.size w w') => show_any m B y w' (tabP_below hT h) (hB.below h) (hlimB m))
  have VA := Lib.hid (fun w' (h : Below w.heap.size w w') => refValidV_any m A x w' (hA.below h))
  have VB := Lib.hid (fun w' (h : Below w.heap.size w w') => refValidV_any m B y w' (hB.below h))
  have EQ := Lib.hid (fun w' (h : Below w.heap.size w w') => equal_any m A B x y w' (hA.below h) (hB.below h))
  have SM := Lib.hid (fun w' (h : Below w.heap.size w w') => same_any m A B x y w' (hA.below h) (hB.below h))
  have AW := Lib.hid (fun w' (h : Below w.heap.size w w') => awake_any w' (tabP_below hT h))
  have HI := Lib.hid (fun hx hy => show_inj (m := m) (x := x) (y := y) (fits_is hA) (fits_is hB) hx hy)
  clear hlimA hlimB hT
  obtain ⟨er, her⟩ : ∃ er, er = errV 16 x := ⟨_, rfl⟩
  obtain ⟨fr, hfr⟩ : ∃ fr, fr = errV 16 y := ⟨_, rfl⟩
  rw [← her] at VA HI
  rw [← hfr] at VB HI
  clear her hfr
  generalize showB m x = b1 at SA HI
  generalize showB m y = b2 at SB HI
  generalize sameV m x y = q2 at SM HI
  generalize decide (cmpV m x y = 0) = q at EQ HI
  obtain ⟨k, t, i, s, l, ks, av, c, kv, kc, rfl, rfl, _⟩ := hA
  obtain ⟨k', t', i', s', l', ks', av', c', kv', kc', rfl, rfl, _⟩ := hB
  have hs0 : S12 w k t i s (.slice av l.length c) (.slice kv ks.length kc) k' t' i' s' (.slice av' l'.length c') (.slice kv' ks'.length kc') ((w.alloc (.cells #[.int .i64 k, .bool t, .int .i64 i, .string s, .slice av l.length c, .slice kv ks.length kc] 25)).alloc (.cells #[.int .i64 k', .bool t', .int .i64 i', .string s', .slice av' l'.length c', .slice kv' ks'.length kc'] 25)) := by
    have hB1 : Below w.heap.size w (w.alloc (.cells #[.int .i64 k, .bool t, .int .i64 i, .string s, .slice av l.length c, .slice kv ks.length kc] 25)) := (Below.refl _ _).alloc (Nat.le_refl _) _
    have X := (CellsAt.new w 25 #[.int .i64 k, .bool t, .int .i64 i, .string s, .slice av l.length c, .slice kv ks.length kc]).alloc (.cells #[.int .i64 k', .bool t', .int .i64 i', .string s', .slice av' l'.length c', .slice kv' ks'.length kc'] 25)
    have Y := CellsAt.new (w.alloc (.cells #[.int .i64 k, .bool t, .int .i64 i, .string s, .slice av l.length c, .slice kv ks.length kc] 25)) 25 #[.int .i64 k', .bool t', .int .i64 i', .string s', .slice av' l'.length c', .slice kv' ks'.length kc']
    simp only [World.size_alloc] at Y
    exact S12.mk' (Box6.of X) (Box6.of Y) (hB1.alloc hB1.size _)
  by_cases h0 : er = 0
  · subst h0
    by_cases h1 : fr = 0
    · subst h1
      obtain ⟨hq1, hq2⟩ := HI.out rfl rfl
      subst hq2
      clear HI
      go_enter Tryz.func6, Tryz.ntmps6
      obtain ⟨x0, x1, x2, x3, x4, x5, y0, y1, y2, y3, y4, y5, -⟩ := id hs0
      go_wp2_with fail
      go_fit (VA.out _ hs0.parts.2.2)
      rintro e w1 ⟨rfl, hb⟩
      have hs1 := hs0.below hb
      clear x0 x1 x2 x3 x4 x5 y0 y1 y2 y3 y4 y5 hb hs0
      obtain ⟨x0, x1, x2, x3, x4, x5, y0, y1, y2, y3, y4, y5, -⟩ := id hs1
      go_wp2_with fail
      go_fit (VB.out _ hs1.parts.2.2)
      rintro e w2 ⟨rfl, hb⟩
      have hs2 := hs1.below hb
      clear x0 x1 x2 x3 x4 x5 y0 y1 y2 y3 y4 y5 hb hs1
      have hs3 := hs2.drew
      cases q2
      all_goals
        go_wp2_with fail
        go_region_held3 (fun w' => w'.cell? ⟨w.heap.size, 0, none⟩ = some (.int .i64 k) ∧ w'.cell? ⟨w.heap.size, 1, none⟩ = some (.bool t) ∧ w'.cell? ⟨w.heap.size, 2, none⟩ = some (.int .i64 i) ∧ w'.cell? ⟨w.heap.size, 3, none⟩ = some (.string s) ∧ w'.cell? ⟨w.heap.size, 4, none⟩ = some (.slice av l.length c) ∧ w'.cell? ⟨w.heap.size, 5, none⟩ = some (.slice kv ks.length kc) ∧ w'.cell? ⟨w.heap.size + 1, 0, none⟩ = some (.int .i64 k') ∧ w'.cell? ⟨w.heap.size + 1, 1, none⟩ = some (.bool t') ∧ w'.cell? ⟨w.heap.size + 1, 2, none⟩ = some (.int .i64 i') ∧ w'.cell? ⟨w.heap.size + 1, 3, none⟩ = some (.string s') ∧ w'.cell? ⟨w.heap.size + 1, 4, none⟩ = some (.slice av' l'.length c') ∧ w'.cell? ⟨w.heap.size + 1, 5, none⟩ = some (.slice kv' ks'.length kc') ∧ Below w.heap.size w w') (first | exact hs3 | exact S12.below (by assumption) (by assumption)) (first
          | (go_at_call 18; first | (go_fit (SA.out _ (S12.parts (by assumption)).2.2); rintro e w3 ⟨rfl, hb3⟩) | (go_fit (SB.out _ (S12.parts (by assumption)).2.2); rintro e w4 ⟨rfl, hb4⟩))
          | (go_at_call 17; go_fit (EQ.out _ (S12.parts (by assumption)).2.2); rintro e w5 ⟨rfl, hb5⟩)
          | (go_at_call 20; go_fit (SM.out _ (S12.parts (by assumption)).2.2); rintro e w6 ⟨rfl, hb6⟩)
          | (go_at_call 14; go_fit (AW.out _ (S12.parts (by assumption)).2.2); rintro e w7 ⟨rfl, hb7⟩))
        have hf : S12 w k t i s (.slice av l.length c) (.slice kv ks.length kc) k' t' i' s' (.slice av' l'.length c') (.slice kv' ks'.length kc') w7 := by assumption
        go_wp2_with fail
        go_ret
        exact ⟨rfl, hf.parts.2.2⟩
    · have g1 : ((fr : Int) != 0) = true := by rw [bne_iff_ne]; omega
      clear HI h1
      go_enter Tryz.func6, Tryz.ntmps6
      obtain ⟨x0, x1, x2, x3, x4, x5, y0, y1, y2, y3, y4, y5, -⟩ := id hs0
      go_wp2_with fail
      go_fit (VA.out _ hs0.parts.2.2)
      rintro e w1 ⟨rfl, hb⟩
      have hs1 := hs0.below hb
      clear x0 x1 x2 x3 x4 x5 y0 y1 y2 y3 y4 y5 hb hs0
      obtain ⟨x0, x1, x2, x3, x4, x5, y0, y1, y2, y3, y4, y5, -⟩ := id hs1
      go_wp2_with fail
      go_fit (VB.out _ hs1.parts.2.2)
      rintro e w2 ⟨rfl, hb⟩
      have hs2 := hs1.below hb
      clear x0 x1 x2 x3 x4 x5 y0 y1 y2 y3 y4 y5 hb hs1
      obtain ⟨x0, x1, x2, x3, x4, x5, y0, y1, y2, y3, y4, y5, -⟩ := id hs2
      go_wp2_with fail
      go_fit (AW.out _ hs2.parts.2.2)
      rintro e w3 ⟨rfl, hb⟩
      have hs9 := hs2.below hb
      clear x0 x1 x2 x3 x4 x5 y0 y1 y2 y3 y4 y5 hb hs2
      go_wp2_with fail
      go_ret
      exact ⟨rfl, hs9.parts.2.2⟩
  · have g1 : ((er : Int) != 0) = true := by rw [bne_iff_ne]; omega
    clear HI h0
    go_enter Tryz.func6, Tryz.ntmps6
    obtain ⟨x0, x1, x2, x3, x4, x5, y0, y1, y2, y3, y4, y5, -⟩ := id hs0
    go_wp2_with fail
    go_fit (VA.out _ hs0.parts.2.2)
    rintro e w1 ⟨rfl, hb⟩
    have hs1 := hs0.below hb
    clear x0 x1 x2 x3 x4 x5 y0 y1 y2 y3 y4 y5 hb hs0
    obtain ⟨x0, x1, x2, x3, x4, x5, y0, y1, y2, y3, y4, y5, -⟩ := id hs1
    go_wp2_with fail
    go_fit (AW.out _ hs1.parts.2.2)
    rintro e w2 ⟨rfl, hb⟩
    have hs9 := hs1.below hb
    clear x0 x1 x2 x3 x4 x5 y0 y1 y2 y3 y4 y5 hb hs1
    go_wp2_with fail
    go_ret
    exact ⟨rfl, hs9.parts.2.2⟩

theorem witness_shapedRow {H : Type} {enc : TypeId × Value → H} {C : Checked} {os : Os} {f : FuncId} {fn : Func} {s : OpenSpec} {conds : List PathCond} {apart : Bool} {laid : List (String × DataW Unit)} (modest : Bool) (w0 : World) (args : Array Value) (hos : w0.os = os)
    (hsh : (w0.forCall (fun _ _ => 0) ⟨#[], args, []⟩).Shaped C.prog) (hok : Input.okWideB C.prog (w0.forCall (fun _ _ => 0) ⟨#[], args, []⟩) f ⟨#[], args, []⟩ = true)
    (hrow : s.preRow enc C.prog fn conds apart laid (w0.forCall (fun _ _ => 0) ⟨#[], args, []⟩).memory args) :
    ∃ (w : World) (tape : Tape) (i : Input), w.os = os ∧ (w.forCall tape i).Shaped C.prog ∧ i.vars = [] ∧ Input.okWide C.prog (w.forCall tape i) .any w.heap.size f i ∧
      s.preRow enc C.prog fn conds apart laid (w.forCall tape i).memory i.args ∧ ({ modest := modest } : Assume).holds C.prog (lone (Frame.enter C.prog f i.args .normal) [] (w.forCall tape i)) :=
  ⟨w0, fun _ _ => 0, ⟨#[], args, []⟩, hos, hsh, (Input.okWide_of_okWideB (base := 0) hok).1, (Input.okWide_of_okWideB hok).2, hrow, by
    simp only [Assume.holds]
    exact ⟨by simp, by simp, fun _ => Modest.zero, by simp, by simp⟩⟩
theorem reads (os : Os) {H : Type} (enc : TypeId × Value → H) : ∃ places, DataW.whole enc Tryz.prog ((World.laidAll Tryz.prog os laidV).forCall (fun _ _ => 0) ⟨#[], #[.agg #[.int .i64 0, .bool false, .int .i64 0, .string ⟨#[]⟩, .slice none 0 0, .slice none 0 0], .agg #[.int .i64 0, .bool false, .int .i64 0, .string ⟨#[]⟩, .slice none 0 0, .slice none 0 0]], []⟩).memory Tryz.f6.params.toList Rows.valueShownSpec.vars false #[.agg #[.int .i64 0, .bool false, .int .i64 0, .string ⟨#[]⟩, .slice none 0 0, .slice none 0 0], .agg #[.int .i64 0, .bool false, .int .i64 0, .string ⟨#[]⟩, .slice none 0 0, .slice none 0 0]].toList 8 = some ([.agg [.lit (.int .i64 0), .lit (.bool false), .lit (.int .i64 0), .lit (.string []), .nil, .nil], .agg [.lit (.int .i64 0), .lit (.bool false), .lit (.int .i64 0), .lit (.string []), .nil, .nil]], [], places) := by
  have hw : (DataW.whole enc Tryz.prog ((World.laidAll Tryz.prog os laidV).forCall (fun _ _ => 0) ⟨#[], #[.agg #[.int .i64 0, .bool false, .int .i64 0, .string ⟨#[]⟩, .slice none 0 0, .slice none 0 0], .agg #[.int .i64 0, .bool false, .int .i64 0, .string ⟨#[]⟩, .slice none 0 0, .slice none 0 0]], []⟩).memory Tryz.f6.params.toList Rows.valueShownSpec.vars false #[.agg #[.int .i64 0, .bool false, .int .i64 0, .string ⟨#[]⟩, .slice none 0 0, .slice none 0 0], .agg #[.int .i64 0, .bool false, .int .i64 0, .string ⟨#[]⟩, .slice none 0 0, .slice none 0 0]].toList 8).map (fun x => (x.1, x.2.1)) = some ([.agg [.lit (.int .i64 0), .lit (.bool false), .lit (.int .i64 0), .lit (.string []), .nil, .nil], .agg [.lit (.int .i64 0), .lit (.bool false), .lit (.int .i64 0), .lit (.string []), .nil, .nil]], []) := by kernel_rfl
  obtain ⟨⟨x1, x2, x3⟩, hx, hx1⟩ := Option.map_eq_some_iff.1 hw
  simp only [Prod.mk.injEq] at hx1
  obtain ⟨rfl, rfl⟩ := hx1
  exact ⟨x3, hx⟩

set_option maxRecDepth 100000 in
theorem lifted (os : Os) (started : os.Started) (H : Type) (enc : TypeId × Value → H) (F : Stop.Interp) :
    ReturnsInHanded {} Tryz.checked os 6 .any ((Rows.OpenSpec.upto Rows.valueShownSpec).preRow enc Tryz.prog Tryz.f6 Rows.valueShownUptoRow.domain false Rows.valueShownUptoRow.laid) (((Rows.OpenSpec.upto Rows.valueShownSpec).at F).post enc Tryz.prog Tryz.f6 false true false false) := by
  obtain ⟨places, hx⟩ := reads os enc
  refine returnsInHanded_of_row (C := Tryz.checked) (s := Rows.OpenSpec.upto Rows.valueShownSpec) own started (by kernel_rfl) Tryz.func6
    (witness_shapedRow (enc := enc) (C := Tryz.checked) false (World.laidAll Tryz.prog os laidV) #[.agg #[.int .i64 0, .bool false, .int .i64 0, .string ⟨#[]⟩, .slice none 0 0, .slice none 0 0], .agg #[.int .i64 0, .bool false, .int .i64 0, .string ⟨#[]⟩, .slice none 0 0, .slice none 0 0]] (World.laidAll_os _ _ _) (World.shaped_of_ZipB (by kernel_rfl) (by kernel_rfl)) (by kernel_rfl)
      (OpenSpec.preRow_of_cond 8 hx (by kernel_rfl) (fun k hk => by cases hk; kernel_rfl) (by kernel_rfl) (layV_met os _))) ?_
  intro W base args ds gs before hval0 hW hcnd hk hsz hL _ _
  have hval : ∀ (j : Nat) t v, Tryz.f6.params[j]? = some t → args[j]? = some v → Value.okWide Tryz.prog W .any base t v := hval0
  have hW' := hW
  obtain ⟨p, q, hA0, hV, rfl, hfz, hnd⟩ := hW
  have hA : DataW.TrodAll enc Tryz.prog W 0 (fun _ => true) true Tryz.f6.params.toList args.toList ds p := hA0
  rw [Tryz.params6] at hA hval hsz
  obtain ⟨v0, vs0, d0, ds0, p0, q0, hargs, rfl, rfl, h0, r0⟩ := trodAll_cons hA
  obtain ⟨v1, vs1, d1, ds1, p1, q1, rfl, rfl, rfl, h1, r1⟩ := trodAll_cons r0
  obtain ⟨rfl, rfl, rfl⟩ := trodAll_nil r1
  obtain rfl : args = #[v0, v1] := by cases args; simp_all
  obtain ⟨rfl, rfl⟩ := trodVars_none hV
  have hbulk := of_decide_eq_true (hk _ rfl)
  simp only [List.append_nil, Rows.uptoBulkAll] at hbulk
  have k0 := h0
  have lt0 : ∀ x ∈ p0, x.block < W.heap.size := by obtain ⟨m, hm⟩ := k0; exact DataW.trod_lt m _ _ _ hm
  have hw0 : (d0.weights Tryz.prog 25).all (· ≤ reachBytes) = true := List.all_eq_true.2 (fun n hn => List.all_eq_true.1 hsz n (DataW.weights_mem_each (j := 0) (t := 25) rfl rfl n hn))
  obtain ⟨m0, y0, hr0, hb0⟩ := open_valueB (hval 0 25 v0 rfl rfl) h0 hw0
  have k1 := h1
  have lt1 : ∀ x ∈ p1, x.block < W.heap.size := by obtain ⟨m, hm⟩ := k1; exact DataW.trod_lt m _ _ _ hm
  have hw1 : (d1.weights Tryz.prog 25).all (· ≤ reachBytes) = true := List.all_eq_true.2 (fun n hn => List.all_eq_true.1 hsz n (DataW.weights_mem_each (j := 1) (t := 25) rfl rfl n hn))
  obtain ⟨m1, y1, hr1, hb1⟩ := open_valueB (hval 1 25 v1 rfl rfl) h1 hw1
  clear hA0 hval0
  refine (walk m0 v0 y0 (fun m _ => by have := hb0 m; omega) m1 v1 y1 (fun m _ => by have := hb1 m; omega)  W (tabV_of hL) hr0 hr1).mono fun e W' ⟨he, bel⟩ => ?_
  subst he
  exact ⟨_, rfl, _, _, _, [], _, [], hW', trodAll_mk1 (shut_bool Tryz.underlying4 _), (trodAll_cons_mk (Below.trod laidOut (by kernel_rfl) (of_decide_eq_true (by kernel_rfl)) k0 bel lt0) (trodAll_cons_mk (Below.trod laidOut (by kernel_rfl) (of_decide_eq_true (by kernel_rfl)) k1 bel lt1) trodAll_mk0)), rfl, bel.frame _, fun h => by cases h⟩

theorem over : Rows.ValueShownUptoSaid :=
  OpenClaim.holds_of_cond 6 Tryz.f6 rfl rfl rfl rfl rfl rfl rfl ⟨rfl, rfl, rfl, rfl, rfl⟩ rfl rfl rfl rfl rfl (by kernel_rfl) Tryz.func6 (by kernel_rfl)
    (of_decide_eq_true (by kernel_rfl)) (by unfold Func.isWrapper; first | (rw [if_pos (by decide +kernel)]; kernel_rfl) | (rw [if_neg (by decide +kernel)]; exact ⟨rfl, rfl⟩))
    (fun os started H enc _ F => by rw [OpenClaim.pre_eq_preRow]; exact lifted os started H enc F)

/-- THE STATEMENT. -/
theorem proved : Rows.ValueShownUptoCardSaid :=
  Claim7.holds_tied_plain_at .later [] [.data, .data, .data, .data, .pinned] true Rows.valueShownUptoCard.stood.harness false
    over (fun _ h => by cases h) (by kernel_rfl) (fun _ h => by cases h) valueShownUpto_row_tie rfl ⟨rfl, rfl⟩ (by kernel_rfl) rfl
    (fun f fn hf hfn => by
      obtain rfl : f = 6 := Option.some.inj ((show Tryz.prog.funcNamed "pipeline/pipelinelaw07.ValueShown" = some 6 by kernel_rfl).symm.trans hf) |>.symm
      obtain rfl : fn = Tryz.f6 := (Option.some.inj (Tryz.func6.symm.trans hfn)).symm
      exact ⟨by kernel_rfl, fun j t ht => by
        rw [Tryz.params6] at ht
        have hm : t ∈ [25, 25] := by simpa using Array.mem_of_getElem? ht
        have hall : ([25, 25].all fun u => !Tryz.prog.wantsStandIn u) = true := by kernel_rfl
        exact (show Tryz.prog.wantsStandIn t = false by simpa using List.all_eq_true.1 hall t hm)⟩)
    (by kernel_rfl)
#print axioms proved
end Go.Proofs.YtabopneehhnhfaaGreatDoor.valueShown
