/- The contracts of isWeight, isCost, compareRatios, cmp.Or and of the two closures (fairness). -/
import Derived.Test.YtmjikddceegloaaGreatDoorFrB
import Derived.Test.YtmjikddceegloaaGreatDoorFrC
import Derived.Test.YtmjikddceegloaaGreatDoorFrN
import Derived.Test.YtmjikddceegloaaGreatDoorIdpG
import Derived.Deep.RegionWith
import Derived.Deep.CutBlock
namespace Go.Proofs.YtmjikddceegloaaGreatDoor
open Go.RowKit Go.Lib
set_option linter.unusedSimpArgs false

/-- A block of three cells. -/
structure ThH (w : World) (b : Nat) (x y z : Value) : Prop where
  blk : w.heap[b]? = some (.cells #[x, y, z] 41 (0, 0))
theorem ThH.lt {w : World} {b : Nat} {x y z : Value} (h : ThH w b x y z) : b < w.heap.size := (Array.getElem?_eq_some_iff.1 h.blk).1
theorem ThH.facts {w : World} {b : Nat} {x y z : Value} (h : ThH w b x y z) : w.cell? ⟨b, 0, none⟩ = some x ∧ w.cell? ⟨b, 1, none⟩ = some y ∧ w.cell? ⟨b, 2, none⟩ = some z := by
  have h := h.blk
  refine ⟨?_, ?_, ?_⟩ <;> simp [World.cell?, h]
theorem ThH.froz {w : World} {b : Nat} {x y z : Value} (h : ThH w b x y z) : w.frozen? ⟨b, 0, none⟩ = false ∧ w.frozen? ⟨b, 1, none⟩ = false ∧ w.frozen? ⟨b, 2, none⟩ = false := by
  have h := h.blk
  refine ⟨?_, ?_, ?_⟩ <;> simp [World.frozen?, h]
theorem ThH.below {w w' : World} {b : Nat} {x y z : Value} (h : ThH w b x y z) (hb : Below w.heap.size w w') : ThH w' b x y z := ⟨(hb.block b h.lt).trans h.blk⟩
theorem ThH.alloc {w : World} {b : Nat} {x y z : Value} (h : ThH w b x y z) (o : Obj) : ThH (w.alloc o) b x y z := ⟨(Below.heap_alloc w o b h.lt).trans h.blk⟩
theorem ThH.new (w : World) (x y z : Value) : ThH (w.alloc (.cells #[x, y, z] 41)) w.heap.size x y z := ⟨heap_alloc_new w _⟩

theorem wgt_any (n : Int) (w : World) :
    Calls Tryz.prog 25 #[.int .i64 n] w fun e w' => e = .returned (.bool (decide (1 ≤ n ∧ n ≤ 1000))) ∧ w = w' := by
  by_cases h1 : 1 ≤ n <;> by_cases h2 : n ≤ 1000
  all_goals
    have HV := Lib.hid (show decide (1 ≤ n ∧ n ≤ 1000) = _ from rfl)
    go_enter Tryz.func25, Tryz.ntmps25
    go_wp2_with fail
    go_ret
    exact ⟨ret_bool (by simp [h1, h2]), rfl⟩
theorem cost_any (n : Int) (w : World) :
    Calls Tryz.prog 38 #[.int .i64 n] w fun e w' => e = .returned (.bool (decide (1 ≤ n ∧ n ≤ 1000000))) ∧ w = w' := by
  by_cases h1 : 1 ≤ n <;> by_cases h2 : n ≤ 1000000
  all_goals
    go_enter Tryz.func38, Tryz.ntmps38
    go_wp2_with fail
    go_ret
    exact ⟨ret_bool (by simp [h1, h2]), rfl⟩
/-- A share's numbers are ints. -/
def NumS (s : Sha) : Prop := I64 s.wgt ∧ I64 s.srv
set_option maxHeartbeats 2000000 in
theorem ratios_any (a b : Sha) (sa sb : ByteArray) (ha : NumS a) (hb : NumS b) (w : World) :
    Calls Tryz.prog 29 #[.agg #[.string sa, .int .i64 a.wgt, .int .i64 a.srv], .agg #[.string sb, .int .i64 b.wgt, .int .i64 b.srv]] w fun e w' => e = .returned (.int .i64 (cmpR a b)) ∧ BelowD w w' := by
  obtain ⟨pa, ga, va⟩ := a
  obtain ⟨pb, gb, vb⟩ := b
  obtain ⟨a1, a2⟩ := ha
  obtain ⟨b1, b2⟩ := hb
  dsimp only at a1 a2 b1 b2 ⊢
  have L1 := fun w => LessD_any va gb vb ga a2 b1 b2 a1 w
  have L2 := fun w => LessD_any vb ga va gb b2 a1 a2 b1 w
  have HV := Lib.hid (show cmpR ⟨pa, ga, va⟩ ⟨pb, gb, vb⟩ = if va * gb < vb * ga then -1 else if vb * ga < va * gb then 1 else 0 from rfl)
  by_cases h1 : va * gb < vb * ga
  · rw [decide_eq_true h1] at L1
    have HN := Lib.hid (show cmpR ⟨pa, ga, va⟩ ⟨pb, gb, vb⟩ = -1 by rw [HV.out, if_pos h1])
    have L1 := Lib.hid L1
    clear L2 h1 HV a1 a2 b1 b2
    go_enter Tryz.func29, Tryz.ntmps29
    go_wp2_with fail
    go_fit (L1.out _)
    rintro e w1 ⟨rfl, hb⟩
    have BE := Lib.hid ((((BelowD.refl w).alloc _).alloc _).trans hb)
    clear hb
    go_wp2_with fail
    go_ret
    exact ⟨by rw [HN.out]; rfl, BE.out⟩
  · rw [decide_eq_false h1] at L1
    have L1 := Lib.hid L1
    by_cases h2 : vb * ga < va * gb
    · rw [decide_eq_true h2] at L2
      have HN := Lib.hid (show cmpR ⟨pa, ga, va⟩ ⟨pb, gb, vb⟩ = 1 by rw [HV.out, if_neg h1, if_pos h2])
      have L2 := Lib.hid L2
      clear h1 h2 HV a1 a2 b1 b2
      go_enter Tryz.func29, Tryz.ntmps29
      go_wp2_with fail
      go_fit (L1.out _)
      rintro e w1 ⟨rfl, hb⟩
      have hD := (((BelowD.refl w).alloc _).alloc _).trans hb
      have T1 := ((ThH.new w (.string sa) (.int .i64 ga) (.int .i64 va)).alloc (.cells #[.string sb, .int .i64 gb, .int .i64 vb] 41)).below hb.1
      have T2 := (ThH.new (w.alloc (.cells #[.string sa, .int .i64 ga, .int .i64 va] 41)) (.string sb) (.int .i64 gb) (.int .i64 vb)).below hb.1
      rw [show (w.alloc (.cells #[.string sa, .int .i64 ga, .int .i64 va] 41)).heap.size = w.heap.size + 1 by simp] at T2
      obtain ⟨c0, c1, c2⟩ := T1.facts
      obtain ⟨d0, d1, d2⟩ := T2.facts
      have BE := Lib.hid hD
      clear hb hD T1 T2
      go_wp2_with fail
      go_fit (L2.out _)
      rintro e w2 ⟨rfl, hb⟩
      have BE2 := Lib.hid (BE.out.trans hb)
      clear hb
      go_wp2_with fail
      go_ret
      exact ⟨by rw [HN.out]; rfl, BE2.out⟩
    · rw [decide_eq_false h2] at L2
      have HN := Lib.hid (show cmpR ⟨pa, ga, va⟩ ⟨pb, gb, vb⟩ = 0 by rw [HV.out, if_neg h1, if_neg h2])
      have L2 := Lib.hid L2
      clear h1 h2 HV a1 a2 b1 b2
      go_enter Tryz.func29, Tryz.ntmps29
      go_wp2_with fail
      go_fit (L1.out _)
      rintro e w1 ⟨rfl, hb⟩
      have hD := (((BelowD.refl w).alloc _).alloc _).trans hb
      have T1 := ((ThH.new w (.string sa) (.int .i64 ga) (.int .i64 va)).alloc (.cells #[.string sb, .int .i64 gb, .int .i64 vb] 41)).below hb.1
      have T2 := (ThH.new (w.alloc (.cells #[.string sa, .int .i64 ga, .int .i64 va] 41)) (.string sb) (.int .i64 gb) (.int .i64 vb)).below hb.1
      rw [show (w.alloc (.cells #[.string sa, .int .i64 ga, .int .i64 va] 41)).heap.size = w.heap.size + 1 by simp] at T2
      obtain ⟨c0, c1, c2⟩ := T1.facts
      obtain ⟨d0, d1, d2⟩ := T2.facts
      have BE := Lib.hid hD
      clear hb hD T1 T2
      go_wp2_with fail
      go_fit (L2.out _)
      rintro e w2 ⟨rfl, hb⟩
      have BE2 := Lib.hid (BE.out.trans hb)
      clear hb
      go_wp2_with fail
      go_ret
      exact ⟨by rw [HN.out]; rfl, BE2.out⟩
set_option maxHeartbeats 2000000 in
theorem or_any (x y : Int) (g c : Nat) (w : World) (h0 : w.cell? ⟨g, 0, none⟩ = some (.int .i64 x)) (h1 : w.cell? ⟨g, 1, none⟩ = some (.int .i64 y)) :
    Calls Tryz.prog 42 #[.slice (some ⟨g, 0, none⟩) 2 c] w fun e w' => e = .returned (.int .i64 (if x ≠ 0 then x else y)) ∧ BelowD w w' := by
  by_cases hx : x = 0
  · subst hx
    have HN := Lib.hid (show (if (0 : Int) ≠ 0 then (0 : Int) else y) = y by simp)
    rw [HN.out]
    by_cases hy : y = 0
    · subst hy
      go_enter Tryz.func42, Tryz.ntmps42
      go_wp2_with fail
      go_loop [8] (fun s8 => ∃ j : Nat, j ≤ 2 ∧ s8 = .int .i64 (j : Int)) (fun s8 => 2 - (RowKit.intOf s8).toNat)
      case atStart => exact ⟨0, by omega, rfl⟩
      case round =>
        obtain ⟨j, hj, rfl⟩ := hrel
        rcases (show j = 0 ∨ j = 1 ∨ j = 2 by omega) with rfl | rfl | rfl
        · go_wp2_with fail
          go_round
          case rel => exact ⟨1, by omega, by go_num⟩
          case measure => simp [RowKit.intOf]
        · go_wp2_with fail
          go_round
          case rel => exact ⟨2, by omega, by go_num⟩
          case measure => simp [RowKit.intOf]
        · go_wp2_with fail
          go_ret
          exact ⟨rfl, BelowD.refl _⟩
    · have u : (y != 0) = true := by simpa using hy
      go_enter Tryz.func42, Tryz.ntmps42
      go_wp2_with fail
      go_loop [8] (fun s8 => ∃ j : Nat, j ≤ 1 ∧ s8 = .int .i64 (j : Int)) (fun s8 => 2 - (RowKit.intOf s8).toNat)
      case atStart => exact ⟨0, by omega, rfl⟩
      case round =>
        obtain ⟨j, hj, rfl⟩ := hrel
        rcases (show j = 0 ∨ j = 1 by omega) with rfl | rfl
        · go_wp2_with fail
          go_round
          case rel => exact ⟨1, by omega, by go_num⟩
          case measure => simp [RowKit.intOf]
        · go_wp2_with fail
          go_ret
          exact ⟨rfl, BelowD.refl _⟩
  · have u : (x != 0) = true := by simpa using hx
    rw [if_pos hx]
    go_enter Tryz.func42, Tryz.ntmps42
    go_wp2_with fail
    go_loop [8] (fun s8 => ∃ j : Nat, j ≤ 0 ∧ s8 = .int .i64 (j : Int)) (fun s8 => 2 - (RowKit.intOf s8).toNat)
    case atStart => exact ⟨0, by omega, rfl⟩
    case round =>
      obtain ⟨j, hj, rfl⟩ := hrel
      obtain rfl : j = 0 := by omega
      go_wp2_with fail
      go_ret
      exact ⟨rfl, BelowD.refl _⟩
end Go.Proofs.YtmjikddceegloaaGreatDoor
