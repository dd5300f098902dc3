/- BudgetParts: for every bucket and every two integers, spending nothing at the first time changes no level at a later one. No condition on the inputs. -/
import Derived.Test.YtjeknocbndgikaaBudO
import Derived.ProofKit
import Derived.OpenShut
namespace Go.Proofs.Ytjeknocbndgikaa.budgetParts
open Go.ChangeShapes Go.WideShapes Go.ChangeAt Go.RowKit
set_option linter.unusedVariables false

theorem own : ownKnob Try.prog.godebug = none := by kernel_rfl
theorem laidOut : laidOutB Try.prog = true := by kernel_rfl

/-- A level in two steps is the level in one. -/
theorem lvl_two {r u l a t x : Int} (h : okB r u l a = true) (h1 : tmB t = true) (h2 : tmB x = true) (h3 : t ≤ x) : lvl r u (lvl r u l a t) (max a t) x = lvl r u l a x := by
  obtain ⟨r1, r2, u1, u2, l1, l2, a1, a2⟩ := okB_of h
  obtain ⟨t1, t2⟩ := tmB_of h1
  obtain ⟨x1, x2⟩ := tmB_of h2
  unfold lvl
  rw [show max (max a t) x = max a x by omega]
  have e : r * (max a x - a) = r * (max a t - a) + r * (max a x - max a t) := by rw [← Int.mul_add]; congr 1; omega
  have p1 := rate_bd (r := r) (x := max a x - max a t) ⟨r1, r2⟩ (by omega)
  have p2 := rate_bd (r := r) (x := max a t - a) ⟨r1, r2⟩ (by omega)
  rw [e]
  generalize r * (max a x - max a t) = p at *
  generalize r * (max a t - a) = q at *
  omega
theorem okB_two {r u l a t : Int} (h : okB r u l a = true) (h1 : tmB t = true) : okB r u (lvl r u l a t) (max a t) = true := by
  have hl := lvl_bd h h1
  obtain ⟨r1, r2, u1, u2, l1, l2, a1, a2⟩ := okB_of h
  obtain ⟨t1, t2⟩ := tmB_of h1
  unfold okB
  rw [decide_eq_true_eq]
  omega
theorem sp_ok {r u l a t c : Int} (h : spE r u l a t c = 0) : spB r u l a t c = true := by
  cases hb : spB r u l a t c with
  | true => rfl
  | false =>
    unfold spE at h
    rw [hb] at h
    simp only [Bool.false_eq_true, if_false] at h
    split at h
    · omega
    · split at h <;> omega
theorem sp_parts {r u l a t c : Int} (h : spB r u l a t c = true) : okB r u l a = true ∧ tmB t = true ∧ csB c = true ∧ 1000 * c ≤ lvl r u l a t ∧ spL r u l a t c = lvl r u l a t - 1000 * c ∧ spA r u l a t c = max a t := by
  have h' := h
  unfold spB at h'
  simp only [Bool.and_eq_true, decide_eq_true_eq] at h'
  refine ⟨h'.1.1.1, h'.1.1.2, h'.1.2, h'.2, ?_, ?_⟩
  · unfold spL; rw [h]; rfl
  · unfold spA; rw [h]; rfl
theorem parts_eq {r u l a t x : Int} (h : spE r u l a t 0 = 0) (hx : t ≤ x) : lvD r u (spL r u l a t 0) (spA r u l a t 0) x = lvD r u l a x := by
  obtain ⟨h1, h2, _, _, h5, h6⟩ := sp_parts (sp_ok h)
  rw [h5, h6, show lvl r u l a t - 1000 * 0 = lvl r u l a t by omega]
  unfold lvD
  rw [okB_two h1 h2, h1]
  cases h7 : tmB x
  · rfl
  · simp only [Bool.and_self, if_true]
    exact lvl_two h1 h2 h7 hx
/-- Two buckets in memory. -/
structure Duo (W w : World) (p1 : Nat) (r u l a A B : Value) : Prop where
  p : FourAt w W.heap.size 23 r u l a
  c : FourAt w p1 23 r u A B
  bel : Below W.heap.size W w
theorem Duo.below {W w w' : World} {p1 : Nat} {r u l a A B : Value} (h : Duo W w p1 r u l a A B) (hb : Below w.heap.size w w') : Duo W w' p1 r u l a A B := ⟨h.p.below hb, h.c.below hb, h.bel.trans (hb.mono h.bel.size)⟩
theorem Duo.drew {W w : World} {p1 : Nat} {r u l a A B : Value} (h : Duo W w p1 r u l a A B) : Duo W w.drew p1 r u l a A B := ⟨⟨h.p.blk⟩, ⟨h.c.blk⟩, h.bel.drew⟩
theorem duo_s {W w : World} {p1 : Nat} {r u l a A B : Value} (h : Duo W w p1 r u l a A B) : w.cell? ⟨W.heap.size, 0, none⟩ = some r ∧ w.cell? ⟨W.heap.size, 1, none⟩ = some u ∧ w.cell? ⟨W.heap.size, 2, none⟩ = some l ∧ w.cell? ⟨W.heap.size, 3, none⟩ = some a ∧ w.cell? ⟨p1, 0, none⟩ = some r ∧ w.cell? ⟨p1, 1, none⟩ = some u ∧ w.cell? ⟨p1, 2, none⟩ = some A ∧ w.cell? ⟨p1, 3, none⟩ = some B ∧ Duo W w p1 r u l a A B := by
  obtain ⟨c0, c1, c2, c3, -⟩ := h.p.facts
  obtain ⟨d0, d1, d2, d3, -⟩ := h.c.facts
  exact ⟨c0, c1, c2, c3, d0, d1, d2, d3, h⟩
theorem duo_t {W w w' : World} {p1 : Nat} {r u l a A B : Value} (h : w.cell? ⟨W.heap.size, 0, none⟩ = some r ∧ w.cell? ⟨W.heap.size, 1, none⟩ = some u ∧ w.cell? ⟨W.heap.size, 2, none⟩ = some l ∧ w.cell? ⟨W.heap.size, 3, none⟩ = some a ∧ w.cell? ⟨p1, 0, none⟩ = some r ∧ w.cell? ⟨p1, 1, none⟩ = some u ∧ w.cell? ⟨p1, 2, none⟩ = some A ∧ w.cell? ⟨p1, 3, none⟩ = some B ∧ Duo W w p1 r u l a A B) (hb : Below w.heap.size w w') :
    w'.cell? ⟨W.heap.size, 0, none⟩ = some r ∧ w'.cell? ⟨W.heap.size, 1, none⟩ = some u ∧ w'.cell? ⟨W.heap.size, 2, none⟩ = some l ∧ w'.cell? ⟨W.heap.size, 3, none⟩ = some a ∧ w'.cell? ⟨p1, 0, none⟩ = some r ∧ w'.cell? ⟨p1, 1, none⟩ = some u ∧ w'.cell? ⟨p1, 2, none⟩ = some A ∧ w'.cell? ⟨p1, 3, none⟩ = some B ∧ Duo W w' p1 r u l a A B := duo_s (h.2.2.2.2.2.2.2.2.below hb)

set_option maxHeartbeats 1000000 in
theorem walk (r u l a t x : Int) (g : I64 r ∧ I64 u ∧ I64 l ∧ I64 a) (w1 : (Lit.int .i64 t).wf = true) (w2 : (Lit.int .i64 x).wf = true) (w : World) :
    Calls Try.prog 7 #[.agg #[.int .i64 r, .int .i64 u, .int .i64 l, .int .i64 a], .int .i64 t, .int .i64 x] w fun e w' => e = .returned (.bool true) ∧ Below w.heap.size w w' := by
  have N := Lib.hid (fun w => Spend_any r u l a t 0 w)
  have L1 := Lib.hid (fun w => Level_any r u l a x w)
  have L2 := Lib.hid (fun w => Level_any r u (spL r u l a t 0) (spA r u l a t 0) x w)
  have P := Lib.hid (fun h => parts_eq (r := r) (u := u) (l := l) (a := a) (t := t) (x := x) h)
  clear g w1 w2
  generalize spL r u l a t 0 = A at N L2 P
  generalize spA r u l a t 0 = B at N L2 P
  generalize spE r u l a t 0 = E at N P
  have hs0 := FourAt.new w 23 (.int .i64 r) (.int .i64 u) (.int .i64 l) (.int .i64 a)
  by_cases hE : E = 0
  · subst hE
    by_cases hx : x < t
    · clear L1 L2 P
      go_enter Try.func7, Try.ntmps7
      go_wp2_with fail
      go_fit (N.out _)
      rintro e w1 ⟨rfl, hb⟩
      have B1 := Lib.hid (((Below.refl w.heap.size w).alloc (Nat.le_refl _) _).trans (hb.mono (by simp)))
      clear hb hs0
      go_wp2_with fail
      go_fit (lives22_any _)
      rintro e w2 ⟨rfl, hb⟩
      have B3 := Lib.hid ((B1.out.alloc B1.out.size _).trans (hb.mono (by have := B1.out.size; simp; omega)))
      clear hb
      go_wp2_with fail
      go_ret
      exact ⟨rfl, B3.out⟩
    · have hD := P.out rfl (by omega)
      rw [hD] at L2
      generalize lvD r u l a x = D at L1 L2
      have q2 : (D == D) = true := by simp
      clear P hD
      go_enter Try.func7, Try.ntmps7
      go_wp2_with fail
      go_fit (N.out _)
      rintro e w1 ⟨rfl, hb⟩
      have F0 := Lib.hid (hs0.below hb)
      have B1 := Lib.hid (((Below.refl w.heap.size w).alloc (Nat.le_refl _) _).trans (hb.mono (by simp)))
      clear hb hs0
      go_upto_region 4 with fail
      have hs0 : Duo w (w1.alloc (.cells #[.int .i64 r, .int .i64 u, .int .i64 A, .int .i64 B] 23)) w1.heap.size (.int .i64 r) (.int .i64 u) (.int .i64 l) (.int .i64 a) (.int .i64 A) (.int .i64 B) :=
        ⟨F0.out.alloc _, FourAt.new _ _ _ _ _ _, B1.out.alloc B1.out.size _⟩
      obtain ⟨wn, hwn⟩ : ∃ wn, wn = w1.alloc (.cells #[.int .i64 r, .int .i64 u, .int .i64 A, .int .i64 B] 23) := ⟨_, rfl⟩
      rw [← hwn] at hs0 ⊢
      have hs1 := duo_s hs0.drew
      clear hwn hs0
      generalize w1.heap.size = p1 at *
      go_region_held3 (fun w' => w'.cell? ⟨w.heap.size, 0, none⟩ = some (.int .i64 r) ∧ w'.cell? ⟨w.heap.size, 1, none⟩ = some (.int .i64 u) ∧ w'.cell? ⟨w.heap.size, 2, none⟩ = some (.int .i64 l) ∧ w'.cell? ⟨w.heap.size, 3, none⟩ = some (.int .i64 a) ∧ w'.cell? ⟨p1, 0, none⟩ = some (.int .i64 r) ∧ w'.cell? ⟨p1, 1, none⟩ = some (.int .i64 u) ∧ w'.cell? ⟨p1, 2, none⟩ = some (.int .i64 A) ∧ w'.cell? ⟨p1, 3, none⟩ = some (.int .i64 B) ∧ Duo w w' p1 (.int .i64 r) (.int .i64 u) (.int .i64 l) (.int .i64 a) (.int .i64 A) (.int .i64 B)) (first | exact hs1 | assumption | exact duo_t (by assumption) (by assumption)) (first
        | (go_at_call 12; go_fit (L1.out _); rintro e w2 ⟨rfl, hb2⟩)
        | (go_at_call 12; go_fit (L2.out _); rintro e w2 ⟨rfl, hb2⟩)
        | (go_at_call 11; go_fit (lives22_any _); rintro e w2 ⟨rfl, hb2⟩))
      all_goals
        go_wp2_with fail
        go_ret
        refine ⟨rfl, ?_⟩
        exact Duo.bel (by
          have hq : ∀ {w' : World}, (w'.cell? ⟨w.heap.size, 0, none⟩ = some (.int .i64 r) ∧ w'.cell? ⟨w.heap.size, 1, none⟩ = some (.int .i64 u) ∧ w'.cell? ⟨w.heap.size, 2, none⟩ = some (.int .i64 l) ∧ w'.cell? ⟨w.heap.size, 3, none⟩ = some (.int .i64 a) ∧ w'.cell? ⟨p1, 0, none⟩ = some (.int .i64 r) ∧ w'.cell? ⟨p1, 1, none⟩ = some (.int .i64 u) ∧ w'.cell? ⟨p1, 2, none⟩ = some (.int .i64 A) ∧ w'.cell? ⟨p1, 3, none⟩ = some (.int .i64 B) ∧ Duo w w' p1 (.int .i64 r) (.int .i64 u) (.int .i64 l) (.int .i64 a) (.int .i64 A) (.int .i64 B)) → Duo w w' p1 (.int .i64 r) (.int .i64 u) (.int .i64 l) (.int .i64 a) (.int .i64 A) (.int .i64 B) := fun h => h.2.2.2.2.2.2.2.2
          exact hq (by assumption))
  · have hE2 : (E != 0) = true := by simpa using hE
    have hE3 : (E == 0) = false := by simpa using hE
    clear L1 L2 P
    go_enter Try.func7, Try.ntmps7
    go_wp2_with fail
    go_fit (N.out _)
    rintro e w1 ⟨rfl, hb⟩
    have B1 := Lib.hid (((Below.refl w.heap.size w).alloc (Nat.le_refl _) _).trans (hb.mono (by simp)))
    clear hb hs0
    go_wp2_with fail
    go_fit (lives22_any _)
    rintro e w2 ⟨rfl, hb⟩
    have B3 := Lib.hid ((B1.out.alloc B1.out.size _).trans (hb.mono (by have := B1.out.size; simp; omega)))
    clear hb
    go_wp2_with fail
    go_ret
    exact ⟨rfl, B3.out⟩


set_option maxRecDepth 100000 in
theorem lifted (os : Os) (started : os.Started) (H : Type) (enc : TypeId × Value → H) :
    ReturnsInHanded {} Try.checked os 7 .any (Rows.budgetPartsSpec.pre6 enc Try.prog Try.f7 Rows.budgetPartsRow.domain false) (Rows.budgetPartsSpec.post enc Try.prog Try.f7 false true false false) := by
  refine returnsInHanded_of_change (C := Try.checked) own started (by kernel_rfl) Try.func7
    (ChangeSpec.witness6 (enc := enc) (C := Try.checked) false ⟨#[], #[.agg #[.int .i64 0, .int .i64 0, .int .i64 0, .int .i64 0], .int .i64 0, .int .i64 0], []⟩ 8 (by kernel_rfl) (by kernel_rfl) (by kernel_rfl) (by kernel_rfl)) ?_
  intro W base args ds gs before hval0 hW hcnd _
  have hval : ∀ (j : Nat) t v, Try.f7.params[j]? = some t → args[j]? = some v → Value.okWide Try.prog W .any base t v := hval0
  have hW' := hW
  obtain ⟨p, q, hA0, hV, rfl, hfz, hnd⟩ := hW
  have hA : DataW.TrodAll enc Try.prog W 0 (fun _ => true) true Try.f7.params.toList args.toList ds p := hA0
  rw [Try.params7] at hA hval
  obtain ⟨v0, vs0, d0, ds0, p0, q0, hargs, rfl, rfl, h0, r0⟩ := trodAll_cons hA
  obtain ⟨v1, vs1, d1, ds1, p1, q1, rfl, rfl, rfl, h1, r1⟩ := trodAll_cons r0
  obtain ⟨v2, vs2, d2, ds2, p2, q2, rfl, rfl, rfl, h2, r2⟩ := trodAll_cons r1
  obtain ⟨rfl, rfl, rfl⟩ := trodAll_nil r2
  obtain rfl : args = #[v0, v1, v2] := by cases args; simp_all
  obtain ⟨rfl, rfl⟩ := trodVars_none hV
  have k0 := h0
  have lt0 : ∀ x ∈ p0, x.block < W.heap.size := by obtain ⟨m, hm⟩ := k0; exact DataW.trod_lt m _ _ _ hm
  obtain ⟨x0a, x0b, x0c, x0d, rfl, g0⟩ := open_bucket (hval 0 23 v0 rfl rfl) h0
  obtain ⟨a1, rfl, rfl, rfl, w1⟩ := open_int Try.underlying3 (hval 1 3 v1 rfl rfl) h1
  obtain ⟨a2, rfl, rfl, rfl, w2⟩ := open_int Try.underlying3 (hval 2 3 v2 rfl rfl) h2
  clear hA0 hval0
  refine (walk x0a x0b x0c x0d a1 a2 g0 w1 w2 W ).mono fun e W' ⟨he, bel⟩ => ?_
  subst he
  exact ⟨_, rfl, _, _, _, [], _, [], hW', trodAll_mk1 (shut_bool Try.underlying4 _), (trodAll_cons_mk (Below.trod laidOut (by kernel_rfl) (of_decide_eq_true (by kernel_rfl)) k0 bel lt0) (trodAll_cons_mk (shut_int Try.underlying3 w1) (trodAll_cons_mk (shut_int Try.underlying3 w2) trodAll_mk0))), rfl, bel.frame _, fun h => by cases h⟩

theorem over : Rows.budgetPartsRow.holds Try.pinned (OpenSpec.ofChange Rows.budgetPartsSpec) :=
  OpenClaim.holds_of_wide 7 Try.f7 rfl rfl rfl rfl rfl rfl rfl ⟨rfl, rfl, rfl, rfl, rfl⟩ rfl rfl rfl rfl rfl (by kernel_rfl) Try.func7 (by kernel_rfl)
    (of_decide_eq_true (by kernel_rfl)) (by unfold Func.isWrapper; first | (rw [if_pos (by decide +kernel)]; kernel_rfl) | (rw [if_neg (by decide +kernel)]; exact ⟨rfl, rfl⟩))
    (fun os started H enc _ => lifted os started H enc)

/-- THE STATEMENT. -/
theorem proved : Rows.BudgetPartsSaid :=
  over
#print axioms proved
end Go.Proofs.Ytjeknocbndgikaa.budgetParts
