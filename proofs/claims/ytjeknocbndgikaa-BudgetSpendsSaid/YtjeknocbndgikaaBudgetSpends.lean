/- BudgetSpends: for every bucket and every two integers, Spend and Refund return what the document returns. No condition on the inputs. -/
import Derived.Test.YtjeknocbndgikaaBudO
import Derived.ProofKit
import Derived.OpenShut
namespace Go.Proofs.Ytjeknocbndgikaa.budgetSpends
open Go.ChangeShapes Go.WideShapes Go.ChangeAt Go.RowKit
set_option linter.unusedVariables false

theorem own : ownKnob Try.prog.godebug = none := by kernel_rfl
theorem laidOut : laidOutB Try.prog = true := by kernel_rfl

/-- Three buckets in memory. -/
structure Tri (W w : World) (p1 p2 : Nat) (r u l a A B : Value) : Prop where
  p : FourAt w W.heap.size 23 r u l a
  c : FourAt w p1 23 r u A B
  d : FourAt w p2 23 r u A B
  bel : Below W.heap.size W w
theorem Tri.below {W w w' : World} {p1 p2 : Nat} {r u l a A B : Value} (h : Tri W w p1 p2 r u l a A B) (hb : Below w.heap.size w w') : Tri W w' p1 p2 r u l a A B := ⟨h.p.below hb, h.c.below hb, h.d.below hb, h.bel.trans (hb.mono h.bel.size)⟩
theorem Tri.drew {W w : World} {p1 p2 : Nat} {r u l a A B : Value} (h : Tri W w p1 p2 r u l a A B) : Tri W w.drew p1 p2 r u l a A B := ⟨⟨h.p.blk⟩, ⟨h.c.blk⟩, ⟨h.d.blk⟩, h.bel.drew⟩
theorem tri_s {W w : World} {p1 p2 : Nat} {r u l a A B : Value} (h : Tri W w p1 p2 r u l a A B) : w.cell? ⟨W.heap.size, 0, none⟩ = some r ∧ w.cell? ⟨W.heap.size, 1, none⟩ = some u ∧ w.cell? ⟨W.heap.size, 2, none⟩ = some l ∧ w.cell? ⟨W.heap.size, 3, none⟩ = some a ∧ w.cell? ⟨p1, 0, none⟩ = some r ∧ w.cell? ⟨p1, 1, none⟩ = some u ∧ w.cell? ⟨p1, 2, none⟩ = some A ∧ w.cell? ⟨p1, 3, none⟩ = some B ∧ w.cell? ⟨p2, 0, none⟩ = some r ∧ w.cell? ⟨p2, 1, none⟩ = some u ∧ w.cell? ⟨p2, 2, none⟩ = some A ∧ w.cell? ⟨p2, 3, none⟩ = some B ∧ Tri W w p1 p2 r u l a A B := by
  obtain ⟨c0, c1, c2, c3, -⟩ := h.p.facts
  obtain ⟨d0, d1, d2, d3, -⟩ := h.c.facts
  obtain ⟨e0, e1, e2, e3, -⟩ := h.d.facts
  exact ⟨c0, c1, c2, c3, d0, d1, d2, d3, e0, e1, e2, e3, h⟩
theorem tri_t {W w w' : World} {p1 p2 : Nat} {r u l a A B : Value} (h : w.cell? ⟨W.heap.size, 0, none⟩ = some r ∧ w.cell? ⟨W.heap.size, 1, none⟩ = some u ∧ w.cell? ⟨W.heap.size, 2, none⟩ = some l ∧ w.cell? ⟨W.heap.size, 3, none⟩ = some a ∧ w.cell? ⟨p1, 0, none⟩ = some r ∧ w.cell? ⟨p1, 1, none⟩ = some u ∧ w.cell? ⟨p1, 2, none⟩ = some A ∧ w.cell? ⟨p1, 3, none⟩ = some B ∧ w.cell? ⟨p2, 0, none⟩ = some r ∧ w.cell? ⟨p2, 1, none⟩ = some u ∧ w.cell? ⟨p2, 2, none⟩ = some A ∧ w.cell? ⟨p2, 3, none⟩ = some B ∧ Tri W w p1 p2 r u l a A B) (hb : Below w.heap.size w w') : w'.cell? ⟨W.heap.size, 0, none⟩ = some r ∧ w'.cell? ⟨W.heap.size, 1, none⟩ = some u ∧ w'.cell? ⟨W.heap.size, 2, none⟩ = some l ∧ w'.cell? ⟨W.heap.size, 3, none⟩ = some a ∧ w'.cell? ⟨p1, 0, none⟩ = some r ∧ w'.cell? ⟨p1, 1, none⟩ = some u ∧ w'.cell? ⟨p1, 2, none⟩ = some A ∧ w'.cell? ⟨p1, 3, none⟩ = some B ∧ w'.cell? ⟨p2, 0, none⟩ = some r ∧ w'.cell? ⟨p2, 1, none⟩ = some u ∧ w'.cell? ⟨p2, 2, none⟩ = some A ∧ w'.cell? ⟨p2, 3, none⟩ = some B ∧ Tri W w' p1 p2 r u l a A B := tri_s (h.2.2.2.2.2.2.2.2.2.2.2.2.below hb)
theorem tri_bel {W w : World} {p1 p2 : Nat} {r u l a A B : Value} (h : w.cell? ⟨W.heap.size, 0, none⟩ = some r ∧ w.cell? ⟨W.heap.size, 1, none⟩ = some u ∧ w.cell? ⟨W.heap.size, 2, none⟩ = some l ∧ w.cell? ⟨W.heap.size, 3, none⟩ = some a ∧ w.cell? ⟨p1, 0, none⟩ = some r ∧ w.cell? ⟨p1, 1, none⟩ = some u ∧ w.cell? ⟨p1, 2, none⟩ = some A ∧ w.cell? ⟨p1, 3, none⟩ = some B ∧ w.cell? ⟨p2, 0, none⟩ = some r ∧ w.cell? ⟨p2, 1, none⟩ = some u ∧ w.cell? ⟨p2, 2, none⟩ = some A ∧ w.cell? ⟨p2, 3, none⟩ = some B ∧ Tri W w p1 p2 r u l a A B) : Below W.heap.size W w := h.2.2.2.2.2.2.2.2.2.2.2.2.bel
theorem eqB_self (a b c d : Int) (w : World) : (Op.equalIn 10000 23 (.agg #[.int .i64 a, .int .i64 b, .int .i64 c, .int .i64 d]) (.agg #[.int .i64 a, .int .i64 b, .int .i64 c, .int .i64 d])).run Try.prog w = .ok true w := by
  rw [eqB]; simp
set_option maxHeartbeats 1000000 in
theorem walk (r u l a t c : Int) (g : I64 r ∧ I64 u ∧ I64 l ∧ I64 a) (w1 : (Lit.int .i64 t).wf = true) (w2 : (Lit.int .i64 c).wf = true) (w : World) :
    Calls Try.prog 5 #[.agg #[.int .i64 r, .int .i64 u, .int .i64 l, .int .i64 a], .int .i64 t, .int .i64 c] w fun e w' => e = .returned (.bool true) ∧ Below w.heap.size w w' := by
  have N := Lib.hid (fun w => Spend_any r u l a t c w)
  have R := Lib.hid (fun w => rSpend_any r u l a t c w)
  have M := Lib.hid (fun w => Refund_any r u l a t c w)
  have Q := Lib.hid (fun w => rRefund_any r u l a t c w)
  clear g w1 w2
  generalize spL r u l a t c = A at N R
  generalize spA r u l a t c = B at N R
  generalize spE r u l a t c = E at N R
  generalize rfL r u l a t c = C at M Q
  generalize rfA r u l a t c = D at M Q
  have q1 := eqB_self r u A B
  have q2 := eqB_self r u C D
  have q3 : (E == E) = true := by simp
  have hs0 := FourAt.new w 23 (.int .i64 r) (.int .i64 u) (.int .i64 l) (.int .i64 a)
  go_enter Try.func5, Try.ntmps5
  go_wp2_with fail
  go_fit (N.out _)
  rintro e w1 ⟨rfl, hb⟩
  have f0 := hs0.below hb
  have b1 := ((Below.refl w.heap.size w).alloc (Nat.le_refl _) _).trans (hb.mono (by simp))
  obtain ⟨c0, c1, c2, c3, -⟩ := f0.facts
  have z0 := f0.lt
  have F0 := Lib.hid f0
  have B1 := Lib.hid b1
  clear hb hs0 f0 b1
  go_wp2_with fail
  go_fit (R.out _)
  rintro e w2 ⟨rfl, hb⟩
  have F1 := Lib.hid (And.intro ((F0.out.alloc _).below hb) ((FourAt.new w1 23 (.int .i64 r) (.int .i64 u) (.int .i64 A) (.int .i64 B)).below hb))
  have B2 := Lib.hid ((B1.out.alloc B1.out.size _).trans (hb.mono (by have := B1.out.size; simp; omega)))
  have z1 := F1.out.2.lt
  have z2 := F1.out.1.lt
  clear hb c0 c1 c2 c3
  go_upto_region 3 with fail
  have hs0 : Tri w (w2.alloc (.cells #[.int .i64 r, .int .i64 u, .int .i64 A, .int .i64 B] 23)) w1.heap.size w2.heap.size (.int .i64 r) (.int .i64 u) (.int .i64 l) (.int .i64 a) (.int .i64 A) (.int .i64 B) :=
    ⟨F1.out.1.alloc _, F1.out.2.alloc _, FourAt.new _ _ _ _ _ _, B2.out.alloc B2.out.size _⟩
  obtain ⟨wn, hwn⟩ : ∃ wn, wn = w2.alloc (.cells #[.int .i64 r, .int .i64 u, .int .i64 A, .int .i64 B] 23) := ⟨_, rfl⟩
  rw [← hwn] at hs0 ⊢
  have hs1 := tri_s hs0.drew
  clear hwn z1 z2 hs0
  generalize w1.heap.size = p1 at *
  generalize w2.heap.size = p2 at *
  go_region_held3 (fun w' => w'.cell? ⟨w.heap.size, 0, none⟩ = some (.int .i64 r) ∧ w'.cell? ⟨w.heap.size, 1, none⟩ = some (.int .i64 u) ∧ w'.cell? ⟨w.heap.size, 2, none⟩ = some (.int .i64 l) ∧ w'.cell? ⟨w.heap.size, 3, none⟩ = some (.int .i64 a) ∧ w'.cell? ⟨p1, 0, none⟩ = some (.int .i64 r) ∧ w'.cell? ⟨p1, 1, none⟩ = some (.int .i64 u) ∧ w'.cell? ⟨p1, 2, none⟩ = some (.int .i64 A) ∧ w'.cell? ⟨p1, 3, none⟩ = some (.int .i64 B) ∧ w'.cell? ⟨p2, 0, none⟩ = some (.int .i64 r) ∧ w'.cell? ⟨p2, 1, none⟩ = some (.int .i64 u) ∧ w'.cell? ⟨p2, 2, none⟩ = some (.int .i64 A) ∧ w'.cell? ⟨p2, 3, none⟩ = some (.int .i64 B) ∧ Tri w w' p1 p2 (.int .i64 r) (.int .i64 u) (.int .i64 l) (.int .i64 a) (.int .i64 A) (.int .i64 B)) (first | exact hs1 | assumption | exact tri_t (by assumption) (by assumption)) (first
      | (go_at_call 16; go_fit (M.out _); rintro e w2 ⟨rfl, hb2⟩)
      | (go_at_call 17; go_fit (Q.out _); rintro e w2 ⟨rfl, hb2⟩)
      | (go_at_call 11; go_fit (lives22_any _); rintro e w2 ⟨rfl, hb2⟩))
  all_goals
    go_wp2_with fail
    go_ret
    refine ⟨rfl, ?_⟩
    exact tri_bel (W := w) (p1 := p1) (p2 := p2) (r := .int .i64 r) (u := .int .i64 u) (l := .int .i64 l) (a := .int .i64 a) (A := .int .i64 A) (B := .int .i64 B) (by assumption)


set_option maxRecDepth 100000 in
theorem lifted (os : Os) (started : os.Started) (H : Type) (enc : TypeId × Value → H) :
    ReturnsInHanded {} Try.checked os 5 .any (Rows.budgetSpendsSpec.pre6 enc Try.prog Try.f5 Rows.budgetSpendsRow.domain false) (Rows.budgetSpendsSpec.post enc Try.prog Try.f5 false true false false) := by
  refine returnsInHanded_of_change (C := Try.checked) own started (by kernel_rfl) Try.func5
    (ChangeSpec.witness6 (enc := enc) (C := Try.checked) false ⟨#[], #[.agg #[.int .i64 0, .int .i64 0, .int .i64 0, .int .i64 0], .int .i64 0, .int .i64 0], []⟩ 8 (by kernel_rfl) (by kernel_rfl) (by kernel_rfl) (by kernel_rfl)) ?_
  intro W base args ds gs before hval0 hW hcnd _
  have hval : ∀ (j : Nat) t v, Try.f5.params[j]? = some t → args[j]? = some v → Value.okWide Try.prog W .any base t v := hval0
  have hW' := hW
  obtain ⟨p, q, hA0, hV, rfl, hfz, hnd⟩ := hW
  have hA : DataW.TrodAll enc Try.prog W 0 (fun _ => true) true Try.f5.params.toList args.toList ds p := hA0
  rw [Try.params5] at hA hval
  obtain ⟨v0, vs0, d0, ds0, p0, q0, hargs, rfl, rfl, h0, r0⟩ := trodAll_cons hA
  obtain ⟨v1, vs1, d1, ds1, p1, q1, rfl, rfl, rfl, h1, r1⟩ := trodAll_cons r0
  obtain ⟨v2, vs2, d2, ds2, p2, q2, rfl, rfl, rfl, h2, r2⟩ := trodAll_cons r1
  obtain ⟨rfl, rfl, rfl⟩ := trodAll_nil r2
  obtain rfl : args = #[v0, v1, v2] := by cases args; simp_all
  obtain ⟨rfl, rfl⟩ := trodVars_none hV
  have k0 := h0
  have lt0 : ∀ x ∈ p0, x.block < W.heap.size := by obtain ⟨m, hm⟩ := k0; exact DataW.trod_lt m _ _ _ hm
  obtain ⟨x0a, x0b, x0c, x0d, rfl, g0⟩ := open_bucket (hval 0 23 v0 rfl rfl) h0
  obtain ⟨a1, rfl, rfl, rfl, w1⟩ := open_int Try.underlying3 (hval 1 3 v1 rfl rfl) h1
  obtain ⟨a2, rfl, rfl, rfl, w2⟩ := open_int Try.underlying3 (hval 2 3 v2 rfl rfl) h2
  clear hA0 hval0
  refine (walk x0a x0b x0c x0d a1 a2 g0 w1 w2 W ).mono fun e W' ⟨he, bel⟩ => ?_
  subst he
  exact ⟨_, rfl, _, _, _, [], _, [], hW', trodAll_mk1 (shut_bool Try.underlying4 _), (trodAll_cons_mk (Below.trod laidOut (by kernel_rfl) (of_decide_eq_true (by kernel_rfl)) k0 bel lt0) (trodAll_cons_mk (shut_int Try.underlying3 w1) (trodAll_cons_mk (shut_int Try.underlying3 w2) trodAll_mk0))), rfl, bel.frame _, fun h => by cases h⟩

theorem over : Rows.budgetSpendsRow.holds Try.pinned (OpenSpec.ofChange Rows.budgetSpendsSpec) :=
  OpenClaim.holds_of_wide 5 Try.f5 rfl rfl rfl rfl rfl rfl rfl ⟨rfl, rfl, rfl, rfl, rfl⟩ rfl rfl rfl rfl rfl (by kernel_rfl) Try.func5 (by kernel_rfl)
    (of_decide_eq_true (by kernel_rfl)) (by unfold Func.isWrapper; first | (rw [if_pos (by decide +kernel)]; kernel_rfl) | (rw [if_neg (by decide +kernel)]; exact ⟨rfl, rfl⟩))
    (fun os started H enc _ => lifted os started H enc)

/-- THE STATEMENT. -/
theorem proved : Rows.BudgetSpendsSaid :=
  over
#print axioms proved
end Go.Proofs.Ytjeknocbndgikaa.budgetSpends
