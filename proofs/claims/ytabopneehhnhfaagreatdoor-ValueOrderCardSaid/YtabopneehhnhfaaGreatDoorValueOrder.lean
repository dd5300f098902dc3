/- Layer 7: ValueOrder. -/
import Derived.Test.YtabopneehhnhfaaGreatDoorTie
import Derived.Test.YtabopneehhnhfaaGreatDoorCards
import Derived.Test.YtabopneehhnhfaaGreatDoorVluTab
import Derived.Test.YtabopneehhnhfaaGreatDoorOpR
import Derived.Test.YtabopneehhnhfaaGreatDoorVluWk
import Derived.Test.YtabopneehhnhfaaGreatDoorVluJ
import Derived.ProofKit
import Derived.OpenShut
import Derived.LaidMore
import Derived.Stop.Joined
import Derived.SevenTiedAt
import Derived.SizedLaws
namespace Go.Proofs.YtabopneehhnhfaaGreatDoor.valueOrder
open Go.ChangeShapes Go.WideShapes Go.ChangeAt Go.RowKit
set_option linter.unusedVariables false

theorem own : ownKnob Tryz.prog.godebug = none := by kernel_rfl
theorem laidOut : laidOutB Tryz.prog = true := by kernel_rfl

/-- The boxes of three values. -/
def S18 (w : World) (k : Int) (t : Bool) (i : Int) (s : ByteArray) (a b : Value) (k' : Int) (t' : Bool) (i' : Int) (s' : ByteArray) (a' b' : Value) (k2 : Int) (t2 : Bool) (i2 : Int) (s2 : ByteArray) (a2 b2 : Value) (w' : World) : Prop :=
  w'.cell? ⟨w.heap.size, 0, none⟩ = some (.int .i64 k) ∧ w'.cell? ⟨w.heap.size, 1, none⟩ = some (.bool t) ∧ w'.cell? ⟨w.heap.size, 2, none⟩ = some (.int .i64 i) ∧ w'.cell? ⟨w.heap.size, 3, none⟩ = some (.string s) ∧ w'.cell? ⟨w.heap.size, 4, none⟩ = some (a) ∧ w'.cell? ⟨w.heap.size, 5, none⟩ = some (b) ∧ w'.cell? ⟨w.heap.size + 1, 0, none⟩ = some (.int .i64 k') ∧ w'.cell? ⟨w.heap.size + 1, 1, none⟩ = some (.bool t') ∧ w'.cell? ⟨w.heap.size + 1, 2, none⟩ = some (.int .i64 i') ∧ w'.cell? ⟨w.heap.size + 1, 3, none⟩ = some (.string s') ∧ w'.cell? ⟨w.heap.size + 1, 4, none⟩ = some (a') ∧ w'.cell? ⟨w.heap.size + 1, 5, none⟩ = some (b') ∧ w'.cell? ⟨w.heap.size + 1 + 1, 0, none⟩ = some (.int .i64 k2) ∧ w'.cell? ⟨w.heap.size + 1 + 1, 1, none⟩ = some (.bool t2) ∧ w'.cell? ⟨w.heap.size + 1 + 1, 2, none⟩ = some (.int .i64 i2) ∧ w'.cell? ⟨w.heap.size + 1 + 1, 3, none⟩ = some (.string s2) ∧ w'.cell? ⟨w.heap.size + 1 + 1, 4, none⟩ = some (a2) ∧ w'.cell? ⟨w.heap.size + 1 + 1, 5, none⟩ = some (b2) ∧ Below w.heap.size w w'
theorem S18.parts {w : World} {k : Int} {t : Bool} {i : Int} {s : ByteArray} {a b : Value} {k' : Int} {t' : Bool} {i' : Int} {s' : ByteArray} {a' b' : Value} {k2 : Int} {t2 : Bool} {i2 : Int} {s2 : ByteArray} {a2 b2 : Value} {w1 : World} (h : S18 w k t i s a b k' t' i' s' a' b' k2 t2 i2 s2 a2 b2 w1) : Box6 w.heap.size k t i s a b w1 ∧ Box6 (w.heap.size + 1) k' t' i' s' a' b' w1 ∧ Box6 (w.heap.size + 1 + 1) k2 t2 i2 s2 a2 b2 w1 ∧ Below w.heap.size w w1 := by
  obtain ⟨x0, x1, x2, x3, x4, x5, y0, y1, y2, y3, y4, y5, z0, z1, z2, z3, z4, z5, hb⟩ := h
  exact ⟨⟨x0, x1, x2, x3, x4, x5⟩, ⟨y0, y1, y2, y3, y4, y5⟩, ⟨z0, z1, z2, z3, z4, z5⟩, hb⟩
theorem S18.mk' {w : World} {k : Int} {t : Bool} {i : Int} {s : ByteArray} {a b : Value} {k' : Int} {t' : Bool} {i' : Int} {s' : ByteArray} {a' b' : Value} {k2 : Int} {t2 : Bool} {i2 : Int} {s2 : ByteArray} {a2 b2 : Value} {w1 : World} (hx : Box6 w.heap.size k t i s a b w1) (hy : Box6 (w.heap.size + 1) k' t' i' s' a' b' w1) (hz : Box6 (w.heap.size + 1 + 1) k2 t2 i2 s2 a2 b2 w1) (hb : Below w.heap.size w w1) : S18 w k t i s a b k' t' i' s' a' b' k2 t2 i2 s2 a2 b2 w1 := by
  obtain ⟨x0, x1, x2, x3, x4, x5⟩ := hx
  obtain ⟨y0, y1, y2, y3, y4, y5⟩ := hy
  obtain ⟨z0, z1, z2, z3, z4, z5⟩ := hz
  exact ⟨x0, x1, x2, x3, x4, x5, y0, y1, y2, y3, y4, y5, z0, z1, z2, z3, z4, z5, hb⟩
theorem S18.below {w : World} {k : Int} {t : Bool} {i : Int} {s : ByteArray} {a b : Value} {k' : Int} {t' : Bool} {i' : Int} {s' : ByteArray} {a' b' : Value} {k2 : Int} {t2 : Bool} {i2 : Int} {s2 : ByteArray} {a2 b2 : Value} {w1 w2 : World} (h : S18 w k t i s a b k' t' i' s' a' b' k2 t2 i2 s2 a2 b2 w1) (hb : Below w1.heap.size w1 w2) : S18 w k t i s a b k' t' i' s' a' b' k2 t2 i2 s2 a2 b2 w2 :=
  S18.mk' (h.parts.1.below hb) (h.parts.2.1.below hb) (h.parts.2.2.1.below hb) (h.parts.2.2.2.trans (hb.mono h.parts.2.2.2.size))
theorem S18.drew {w : World} {k : Int} {t : Bool} {i : Int} {s : ByteArray} {a b : Value} {k' : Int} {t' : Bool} {i' : Int} {s' : ByteArray} {a' b' : Value} {k2 : Int} {t2 : Bool} {i2 : Int} {s2 : ByteArray} {a2 b2 : Value} {w1 : World} (h : S18 w k t i s a b k' t' i' s' a' b' k2 t2 i2 s2 a2 b2 w1) : S18 w k t i s a b k' t' i' s' a' b' k2 t2 i2 s2 a2 b2 w1.drew := h.below (Below.refl _ _).drew
set_option maxHeartbeats 8000000 in
set_option maxRecDepth 100000 in
theorem walk (m0 : Nat) (A : Value) (x : Vl) (m1 : Nat) (B : Value) (y : Vl) (m2 : Nat) (C : Value) (z : Vl) (w : World) (hT : TabP w) (hA' : IsV m0 w A x) (hB' : IsV m1 w B y) (hC' : IsV m2 w C z) :
    Calls Tryz.prog 4 #[A, B, C] w fun e w' => e = .returned (.bool true) ∧ Below w.heap.size w w' := by
  obtain ⟨m, hm⟩ : ∃ m, m = max m0 (max m1 m2) := ⟨_, rfl⟩
  have hA := isV_up (show m0 ≤ m by omega) hA'
  have hB := isV_up (show m1 ≤ m by omega) hB'
  have hC := isV_up (show m2 ≤ m by omega) hC'
  clear hA' hB' hC' hm
  have AB := Lib.hid (fun w' (h : Below w.heap.size w w') => cmp_any m A B x y w' (hA.below h) (hB.below h))
  have BC := Lib.hid (fun w' (h : Below w.heap.size w w') => cmp_any m B C y z w' (hB.below h) (hC.below h))
  have AC := Lib.hid (fun w' (h : Below w.heap.size w w') => cmp_any m A C x z w' (hA.below h) (hC.below h))
  have BA := Lib.hid (fun w' (h : Below w.heap.size w w') => cmp_any m B A y x w' (hB.below h) (hA.below h))
  have AA := Lib.hid (fun w' (h : Below w.heap.size w w') => cmp_any m A A x x w' (hA.below h) (hA.below h))
  have AB' := Lib.hid (fun w' (h : Below w.heap.size w w') => cmpR_any m A B x y w' (hA.below h) (hB.below h))
  have BC' := Lib.hid (fun w' (h : Below w.heap.size w w') => cmpR_any m B C y z w' (hB.below h) (hC.below h))
  have AC' := Lib.hid (fun w' (h : Below w.heap.size w w') => cmpR_any m A C x z w' (hA.below h) (hC.below h))
  have EQ := Lib.hid (fun w' (h : Below w.heap.size w w') => equal_any m A B x y w' (hA.below h) (hB.below h))
  have AW := Lib.hid (fun w' (h : Below w.heap.size w w') => awake_any w' (tabP_below hT h))
  have P := cmpV_pre m
  have an := P.anti x y
  have rf := P.refl x
  have tr := P.tr x y z
  have lt := fun h1 h2 => P.lt (x := x) (y := y) (z := z) h1 h2
  have rp := P.rng x y
  have rq := P.rng y z
  have rr := P.rng x z
  rw [an] at BA
  rw [rf] at AA
  obtain ⟨k, t, i, s, l, ks, av, c, kv, kc, rfl, rfl, _⟩ := hA
  obtain ⟨k', t', i', s', l', ks', av', c', kv', kc', rfl, rfl, _⟩ := hB
  obtain ⟨k2, t2, i2, s2, l2, ks2, av2, c2, kv2, kc2, rfl, rfl, _⟩ := hC
  generalize cmpV m (Vl.mk k t i s l ks) (Vl.mk k' t' i' s' l' ks') = p at *
  generalize cmpV m (Vl.mk k' t' i' s' l' ks') (Vl.mk k2 t2 i2 s2 l2 ks2) = q at *
  generalize cmpV m (Vl.mk k t i s l ks) (Vl.mk k2 t2 i2 s2 l2 ks2) = r at *
  have hs0 : S18 w k t i s (.slice av l.length c) (.slice kv ks.length kc) k' t' i' s' (.slice av' l'.length c') (.slice kv' ks'.length kc') k2 t2 i2 s2 (.slice av2 l2.length c2) (.slice kv2 ks2.length kc2) (((w.alloc (.cells #[.int .i64 k, .bool t, .int .i64 i, .string s, .slice av l.length c, .slice kv ks.length kc] 25)).alloc (.cells #[.int .i64 k', .bool t', .int .i64 i', .string s', .slice av' l'.length c', .slice kv' ks'.length kc'] 25)).alloc (.cells #[.int .i64 k2, .bool t2, .int .i64 i2, .string s2, .slice av2 l2.length c2, .slice kv2 ks2.length kc2] 25)) := by
    have hB1 : Below w.heap.size w (w.alloc (.cells #[.int .i64 k, .bool t, .int .i64 i, .string s, .slice av l.length c, .slice kv ks.length kc] 25)) := (Below.refl _ _).alloc (Nat.le_refl _) _
    have X := ((CellsAt.new w 25 #[.int .i64 k, .bool t, .int .i64 i, .string s, .slice av l.length c, .slice kv ks.length kc]).alloc (.cells #[.int .i64 k', .bool t', .int .i64 i', .string s', .slice av' l'.length c', .slice kv' ks'.length kc'] 25)).alloc (.cells #[.int .i64 k2, .bool t2, .int .i64 i2, .string s2, .slice av2 l2.length c2, .slice kv2 ks2.length kc2] 25)
    have Y := (CellsAt.new (w.alloc (.cells #[.int .i64 k, .bool t, .int .i64 i, .string s, .slice av l.length c, .slice kv ks.length kc] 25)) 25 #[.int .i64 k', .bool t', .int .i64 i', .string s', .slice av' l'.length c', .slice kv' ks'.length kc']).alloc (.cells #[.int .i64 k2, .bool t2, .int .i64 i2, .string s2, .slice av2 l2.length c2, .slice kv2 ks2.length kc2] 25)
    have Z := CellsAt.new ((w.alloc (.cells #[.int .i64 k, .bool t, .int .i64 i, .string s, .slice av l.length c, .slice kv ks.length kc] 25)).alloc (.cells #[.int .i64 k', .bool t', .int .i64 i', .string s', .slice av' l'.length c', .slice kv' ks'.length kc'] 25)) 25 #[.int .i64 k2, .bool t2, .int .i64 i2, .string s2, .slice av2 l2.length c2, .slice kv2 ks2.length kc2]
    simp only [World.size_alloc] at Y Z
    exact S18.mk' (Box6.of X) (Box6.of Y) (Box6.of Z) ((hB1.alloc hB1.size _).alloc (by simp <;> omega) _)
  clear hT an rf P
  have hpq := Lib.hid (And.intro tr (And.intro lt (And.intro rp (And.intro rq rr))))
  have n1 : (p != p) = false := bne_self_eq_false' _
  have n2 : (q != q) = false := bne_self_eq_false' _
  have n3 : (r != r) = false := bne_self_eq_false' _
  have n4 : (-p != -p) = false := bne_self_eq_false' _
  have p1 : -1 ≤ p := by omega
  have p2 : p ≤ 1 := by omega
  clear tr lt rp rq rr
  go_enter Tryz.func4, Tryz.ntmps4
  go_wp2_with fail
  obtain ⟨W0, hW0⟩ : ∃ W0, W0 = (((w.alloc (.cells #[.int .i64 k, .bool t, .int .i64 i, .string s, .slice av l.length c, .slice kv ks.length kc] 25)).alloc (.cells #[.int .i64 k', .bool t', .int .i64 i', .string s', .slice av' l'.length c', .slice kv' ks'.length kc'] 25)).alloc (.cells #[.int .i64 k2, .bool t2, .int .i64 i2, .string s2, .slice av2 l2.length c2, .slice kv2 ks2.length kc2] 25)) := ⟨_, rfl⟩
  rw [← hW0] at hs0 ⊢
  clear hW0
  go_region_held3 (fun w' => w'.cell? ⟨w.heap.size, 0, none⟩ = some (.int .i64 k) ∧ w'.cell? ⟨w.heap.size, 1, none⟩ = some (.bool t) ∧ w'.cell? ⟨w.heap.size, 2, none⟩ = some (.int .i64 i) ∧ w'.cell? ⟨w.heap.size, 3, none⟩ = some (.string s) ∧ w'.cell? ⟨w.heap.size, 4, none⟩ = some ((.slice av l.length c)) ∧ w'.cell? ⟨w.heap.size, 5, none⟩ = some ((.slice kv ks.length kc)) ∧ w'.cell? ⟨w.heap.size + 1, 0, none⟩ = some (.int .i64 k') ∧ w'.cell? ⟨w.heap.size + 1, 1, none⟩ = some (.bool t') ∧ w'.cell? ⟨w.heap.size + 1, 2, none⟩ = some (.int .i64 i') ∧ w'.cell? ⟨w.heap.size + 1, 3, none⟩ = some (.string s') ∧ w'.cell? ⟨w.heap.size + 1, 4, none⟩ = some ((.slice av' l'.length c')) ∧ w'.cell? ⟨w.heap.size + 1, 5, none⟩ = some ((.slice kv' ks'.length kc')) ∧ w'.cell? ⟨w.heap.size + 1 + 1, 0, none⟩ = some (.int .i64 k2) ∧ w'.cell? ⟨w.heap.size + 1 + 1, 1, none⟩ = some (.bool t2) ∧ w'.cell? ⟨w.heap.size + 1 + 1, 2, none⟩ = some (.int .i64 i2) ∧ w'.cell? ⟨w.heap.size + 1 + 1, 3, none⟩ = some (.string s2) ∧ w'.cell? ⟨w.heap.size + 1 + 1, 4, none⟩ = some ((.slice av2 l2.length c2)) ∧ w'.cell? ⟨w.heap.size + 1 + 1, 5, none⟩ = some ((.slice kv2 ks2.length kc2)) ∧ Below w.heap.size w w') (first | exact S18.drew hs0 | exact S18.below (by assumption) (by assumption)) (first
    | (go_at_call 15; first | (go_fit (AB.out _ (S18.parts (by assumption)).2.2.2); rintro e w1 ⟨rfl, hb1⟩) | (go_fit (BC.out _ (S18.parts (by assumption)).2.2.2); rintro e w2 ⟨rfl, hb2⟩) | (go_fit (AC.out _ (S18.parts (by assumption)).2.2.2); rintro e w3 ⟨rfl, hb3⟩)))
  have hs1 : S18 w k t i s (.slice av l.length c) (.slice kv ks.length kc) k' t' i' s' (.slice av' l'.length c') (.slice kv' ks'.length kc') k2 t2 i2 s2 (.slice av2 l2.length c2) (.slice kv2 ks2.length kc2) w3 := by assumption
  clear hs0
  obtain ⟨x0, x1, x2, x3, x4, x5, y0, y1, y2, y3, y4, y5, z0, z1, z2, z3, z4, z5, -⟩ := id hs1
  go_wp2_with fail
  go_fit (AB'.out _ hs1.parts.2.2.2)
  rintro e w4 ⟨rfl, hb⟩
  have hs2 := hs1.below hb
  clear x0 x1 x2 x3 x4 x5 y0 y1 y2 y3 y4 y5 z0 z1 z2 z3 z4 z5 hb hs1
  obtain ⟨x0, x1, x2, x3, x4, x5, y0, y1, y2, y3, y4, y5, z0, z1, z2, z3, z4, z5, -⟩ := id hs2
  go_wp2_with fail
  go_fit (BC'.out _ hs2.parts.2.2.2)
  rintro e w5 ⟨rfl, hb⟩
  have hs3 := hs2.below hb
  clear x0 x1 x2 x3 x4 x5 y0 y1 y2 y3 y4 y5 z0 z1 z2 z3 z4 z5 hb hs2
  obtain ⟨x0, x1, x2, x3, x4, x5, y0, y1, y2, y3, y4, y5, z0, z1, z2, z3, z4, z5, -⟩ := id hs3
  go_wp2_with fail
  go_fit (AC'.out _ hs3.parts.2.2.2)
  rintro e w6 ⟨rfl, hb⟩
  have hs4 := hs3.below hb
  clear x0 x1 x2 x3 x4 x5 y0 y1 y2 y3 y4 y5 z0 z1 z2 z3 z4 z5 hb hs3
  obtain ⟨x0, x1, x2, x3, x4, x5, y0, y1, y2, y3, y4, y5, z0, z1, z2, z3, z4, z5, -⟩ := id hs4
  go_wp2_with fail
  go_fit (BA.out _ hs4.parts.2.2.2)
  rintro e w7 ⟨rfl, hb⟩
  have hs5 := hs4.below hb
  clear x0 x1 x2 x3 x4 x5 y0 y1 y2 y3 y4 y5 z0 z1 z2 z3 z4 z5 hb hs4
  obtain ⟨x0, x1, x2, x3, x4, x5, y0, y1, y2, y3, y4, y5, z0, z1, z2, z3, z4, z5, -⟩ := id hs5
  go_wp2_with fail
  go_fit (AA.out _ hs5.parts.2.2.2)
  rintro e w8 ⟨rfl, hb⟩
  have hs6 := hs5.below hb
  clear x0 x1 x2 x3 x4 x5 y0 y1 y2 y3 y4 y5 z0 z1 z2 z3 z4 z5 hb hs5
  have HS := Lib.hid hs6.parts.2.2.2
  obtain ⟨tr, lt, rp, rq, rr⟩ := hpq.out
  obtain ⟨x0, x1, x2, x3, x4, x5, y0, y1, y2, y3, y4, y5, z0, z1, z2, z3, z4, z5, -⟩ := id hs6
  clear n1 n2 n3 n4 p1 p2 hpq hs6 AB BC AC BA AA AB' BC' AC'
  rcases rp with rfl | rfl | rfl <;> rcases rq with rfl | rfl | rfl <;> rcases rr with rfl | rfl | rfl
  all_goals first
    | (exfalso; omega)
    | (clear tr lt
       go_wp2_with fail
       go_fit (EQ.out _ HS.out)
       rintro e w9 ⟨rfl, hb⟩
       have B9 := Lib.hid (HS.out.trans (hb.mono HS.out.size))
       clear hb x0 x1 x2 x3 x4 x5 y0 y1 y2 y3 y4 y5 z0 z1 z2 z3 z4 z5
       go_wp2_with fail
       go_fit (AW.out _ B9.out)
       rintro e wa ⟨rfl, hb⟩
       have Ba := Lib.hid (B9.out.trans (hb.mono B9.out.size))
       clear hb
       go_wp2_with fail
       go_ret
       exact ⟨rfl, Ba.out⟩)

set_option maxRecDepth 100000 in
theorem lifted (os : Os) (started : os.Started) (H : Type) (enc : TypeId × Value → H) :
    ReturnsInHanded {} Tryz.checked os 4 .any (fun w args => (Rows.valueOrderSpec.pre enc Tryz.prog Tryz.f4 Rows.valueOrderRow.domain false w args ∧ laidMetH Tryz.prog laidV w) ∧ sizedMet enc Tryz.prog Tryz.f4 (OpenSpec.ofChange Rows.valueOrderSpec) false w args) (Rows.valueOrderSpec.post enc Tryz.prog Tryz.f4 false true false false) := by
  refine returnsInHanded_of_change_and (C := Tryz.checked) (X := fun w _ => laidMetH Tryz.prog laidV w) (fun _ _ _ hh h => h.of_heap hh) own started (by kernel_rfl) Tryz.func4
    (ChangeSpec.witness_shaped (enc := enc) (C := Tryz.checked) (os := os) (X := fun w _ => laidMetH Tryz.prog laidV w) false (World.laidAll Tryz.prog os laidV) #[.agg #[.int .i64 0, .bool false, .int .i64 0, .string ⟨#[]⟩, .slice none 0 0, .slice none 0 0], .agg #[.int .i64 0, .bool false, .int .i64 0, .string ⟨#[]⟩, .slice none 0 0, .slice none 0 0], .agg #[.int .i64 0, .bool false, .int .i64 0, .string ⟨#[]⟩, .slice none 0 0, .slice none 0 0]] 8 (World.laidAll_os _ _ _) (World.shaped_of_ZipB (by kernel_rfl) (by kernel_rfl)) (by kernel_rfl) (by kernel_rfl) (by kernel_rfl) (layV_met os _)) ?_
  intro W base args ds gs before hval0 hW hcnd hsz hL _
  have hval : ∀ (j : Nat) t v, Tryz.f4.params[j]? = some t → args[j]? = some v → Value.okWide Tryz.prog W .any base t v := hval0
  have hW' := hW
  obtain ⟨p, q, hA0, hV, rfl, hfz, hnd⟩ := hW
  have hA : DataW.TrodAll enc Tryz.prog W 0 (fun _ => true) true Tryz.f4.params.toList args.toList ds p := hA0
  rw [Tryz.params4] at hA hval hsz
  obtain ⟨v0, vs0, d0, ds0, p0, q0, hargs, rfl, rfl, h0, r0⟩ := trodAll_cons hA
  obtain ⟨v1, vs1, d1, ds1, p1, q1, rfl, rfl, rfl, h1, r1⟩ := trodAll_cons r0
  obtain ⟨v2, vs2, d2, ds2, p2, q2, rfl, rfl, rfl, h2, r2⟩ := trodAll_cons r1
  obtain ⟨rfl, rfl, rfl⟩ := trodAll_nil r2
  obtain rfl : args = #[v0, v1, v2] := by cases args; simp_all
  obtain ⟨rfl, rfl⟩ := trodVars_none hV
  have k0 := h0
  have lt0 : ∀ x ∈ p0, x.block < W.heap.size := by obtain ⟨m, hm⟩ := k0; exact DataW.trod_lt m _ _ _ hm
  have hw0 : (d0.weights Tryz.prog 25).all (· ≤ reachBytes) = true := List.all_eq_true.2 (fun n hn => List.all_eq_true.1 hsz n (DataW.weights_mem_each (j := 0) (t := 25) rfl rfl n hn))
  obtain ⟨m0, y0, hr0⟩ := open_value (hval 0 25 v0 rfl rfl) h0 hw0
  have k1 := h1
  have lt1 : ∀ x ∈ p1, x.block < W.heap.size := by obtain ⟨m, hm⟩ := k1; exact DataW.trod_lt m _ _ _ hm
  have hw1 : (d1.weights Tryz.prog 25).all (· ≤ reachBytes) = true := List.all_eq_true.2 (fun n hn => List.all_eq_true.1 hsz n (DataW.weights_mem_each (j := 1) (t := 25) rfl rfl n hn))
  obtain ⟨m1, y1, hr1⟩ := open_value (hval 1 25 v1 rfl rfl) h1 hw1
  have k2 := h2
  have lt2 : ∀ x ∈ p2, x.block < W.heap.size := by obtain ⟨m, hm⟩ := k2; exact DataW.trod_lt m _ _ _ hm
  have hw2 : (d2.weights Tryz.prog 25).all (· ≤ reachBytes) = true := List.all_eq_true.2 (fun n hn => List.all_eq_true.1 hsz n (DataW.weights_mem_each (j := 2) (t := 25) rfl rfl n hn))
  obtain ⟨m2, y2, hr2⟩ := open_value (hval 2 25 v2 rfl rfl) h2 hw2
  clear hA0 hval0
  refine (walk m0 v0 y0 m1 v1 y1 m2 v2 y2  W (tabV_of hL) hr0 hr1 hr2).mono fun e W' ⟨he, bel⟩ => ?_
  subst he
  exact ⟨_, rfl, _, _, _, [], _, [], hW', trodAll_mk1 (shut_bool Tryz.underlying4 _), (trodAll_cons_mk (Below.trod laidOut (by kernel_rfl) (of_decide_eq_true (by kernel_rfl)) k0 bel lt0) (trodAll_cons_mk (Below.trod laidOut (by kernel_rfl) (of_decide_eq_true (by kernel_rfl)) k1 bel lt1) (trodAll_cons_mk (Below.trod laidOut (by kernel_rfl) (of_decide_eq_true (by kernel_rfl)) k2 bel lt2) trodAll_mk0))), rfl, bel.frame _, fun h => by cases h⟩

theorem over : Rows.valueOrderRow.holds Tryz.pinned (OpenSpec.ofChange Rows.valueOrderSpec) :=
  OpenClaim.holds_of_wide 4 Tryz.f4 rfl rfl rfl rfl rfl rfl rfl ⟨rfl, rfl, rfl, rfl, rfl⟩ rfl rfl rfl rfl rfl (by kernel_rfl) Tryz.func4 (by kernel_rfl)
    (of_decide_eq_true (by kernel_rfl)) (by unfold Func.isWrapper; first | (rw [if_pos (by decide +kernel)]; kernel_rfl) | (rw [if_neg (by decide +kernel)]; exact ⟨rfl, rfl⟩))
    (fun os started H enc _ => lifted os started H enc)

/-- THE STATEMENT. -/
theorem proved : Rows.ValueOrderCardSaid :=
  Claim7.holds_tied_plain_at .later [] [.data, .data, .data, .data, .pinned] true Rows.valueOrderCard.stood.harness false
    over (fun _ h => by cases h) (by kernel_rfl) (fun _ h => by cases h) valueOrder_row_tie rfl ⟨rfl, rfl⟩ (by kernel_rfl) rfl
    (fun f fn hf hfn => by
      obtain rfl : f = 4 := Option.some.inj ((show Tryz.prog.funcNamed "pipeline/pipelinelaw07.ValueOrder" = some 4 by kernel_rfl).symm.trans hf) |>.symm
      obtain rfl : fn = Tryz.f4 := (Option.some.inj (Tryz.func4.symm.trans hfn)).symm
      exact ⟨by kernel_rfl, fun j t ht => by
        rw [Tryz.params4] at ht
        have hm : t ∈ [25, 25, 25] := by simpa using Array.mem_of_getElem? ht
        have hall : ([25, 25, 25].all fun u => !Tryz.prog.wantsStandIn u) = true := by kernel_rfl
        exact (show Tryz.prog.wantsStandIn t = false by simpa using List.all_eq_true.1 hall t hm)⟩)
    (by kernel_rfl)
#print axioms proved
end Go.Proofs.YtabopneehhnhfaaGreatDoor.valueOrder
