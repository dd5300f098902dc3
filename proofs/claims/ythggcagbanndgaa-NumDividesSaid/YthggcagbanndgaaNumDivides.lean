/- NumDivides: for every two integers and every number, the greatest common divisor that num.Gcd returns divides both, and what divides both divides it. No condition on the inputs. -/
import Derived.Test.YthggcagbanndgaaLives
import Derived.ProofKit
import Derived.OpenShut
namespace Go.Proofs.Ythggcagbanndgaa.numDivides
open Go.ChangeShapes Go.WideShapes Go.ChangeAt Go.RowKit
set_option linter.unusedVariables false

theorem own : ownKnob Try.prog.godebug = none := by kernel_rfl

theorem gcd2_mem (a b : Int) : gcdL [a, b] = Nat.gcd a.natAbs b.natAbs := by simp [gcdL]
theorem tmod_of_dvd {a : Int} {g : Nat} (h : g ∣ a.natAbs) : a.tmod (g : Int) = 0 := Int.tmod_eq_zero_of_dvd (Int.ofNat_dvd_left.2 h)

/-- What is known of the greatest common divisor of two ints, as the statement asks for it. -/
theorem divides_facts (a b n : Int) (ha : I64 a) (hb : I64 b) (hn : 1 ≤ n) (g : Int) (hg : g = gcdOut [a, b]) :
    (g = 0 ∧ a = 0 ∧ b = 0) ∨ g = 9223372036854775807 ∨
    (1 ≤ g ∧ g < 9223372036854775807 ∧ a.tmod g = 0 ∧ b.tmod g = 0 ∧ gcdOut [b, a] = g ∧ (a.tmod n = 0 → b.tmod n = 0 → g % n = 0)) := by
  have e1 : gcdOut [b, a] = gcdOut [a, b] := by unfold gcdOut; rw [gcd2_mem, gcd2_mem, Nat.gcd_comm]
  unfold gcdOut at hg
  rw [gcd2_mem] at hg
  obtain ⟨G, hG⟩ : ∃ G, G = Nat.gcd a.natAbs b.natAbs := ⟨_, rfl⟩
  rw [← hG] at hg
  by_cases h0 : G = 0
  · left
    have h1 : Nat.gcd a.natAbs b.natAbs = 0 := by rw [← hG, h0]
    have h2 := Nat.eq_zero_of_gcd_eq_zero_left h1
    have h3 := Nat.eq_zero_of_gcd_eq_zero_right h1
    omega
  · by_cases h1 : 9223372036854775807 ≤ G
    · right; left; omega
    · right; right
      have hgG : g = (G : Int) := by omega
      refine ⟨by omega, by omega, ?_, ?_, ?_, ?_⟩
      · rw [hgG, hG]; exact tmod_of_dvd (Nat.gcd_dvd_left _ _)
      · rw [hgG, hG]; exact tmod_of_dvd (Nat.gcd_dvd_right _ _)
      · rw [e1]; unfold gcdOut; rw [gcd2_mem, ← hG]; omega
      · intro h2 h3
        obtain ⟨m, rfl⟩ := Int.eq_ofNat_of_zero_le (show 0 ≤ n by omega)
        have d1 : m ∣ a.natAbs := Int.ofNat_dvd_left.1 (Int.dvd_of_tmod_eq_zero h2)
        have d2 : m ∣ b.natAbs := Int.ofNat_dvd_left.1 (Int.dvd_of_tmod_eq_zero h3)
        have d3 : m ∣ G := by rw [hG]; exact Nat.dvd_gcd d1 d2
        rw [hgG]
        exact Int.emod_eq_zero_of_dvd (Int.natCast_dvd_natCast.2 d3)

theorem gcd_ab (a b g : Int) (ha : I64 a) (hb : I64 b) (hg : gcdOut [a, b] = g) (B : Nat) (w : World) (h0 : w.cell? ⟨B, 0, none⟩ = some (.int .i64 a)) (h1 : w.cell? ⟨B, 1, none⟩ = some (.int .i64 b)) (hB : B < w.heap.size) :
    Calls Try.prog 26 #[.slice (some ⟨B, 0, none⟩) 2 2] w fun e w' => e = .returned (.int .i64 g) ∧ Below w.heap.size w w' := by
  have h := gcd_two a b ha hb B w h0 h1 hB
  rwa [hg] at h

set_option maxHeartbeats 1000000 in
theorem walk (a b d : Int) (w0 : (Lit.int .i64 a).wf = true) (w1 : (Lit.int .i64 b).wf = true) (w2 : (Lit.int .u16 d).wf = true) (w : World) :
    Calls Try.prog 9 #[.int .i64 a, .int .i64 b, .int .u16 d] w fun e w' => e = .returned (.bool true) ∧ Below w.heap.size w w' := by
  have hd : 0 ≤ d ∧ d ≤ 65535 := by simpa [Lit.wf, IntKind.signed, IntKind.min, IntKind.max, IntKind.bits] using w2
  obtain ⟨g, hg⟩ : ∃ g, g = gcdOut [a, b] := ⟨_, rfl⟩
  have hf := divides_facts a b (d + 1) (I64.mk w0) (I64.mk w1) (by omega) g hg
  have HA := Lib.hid (I64.mk w0); have HB := Lib.hid (I64.mk w1)
  have HG := Lib.hid hg
  clear hg w0 w1 w2
  rcases hf with ⟨rfl, rfl, rfl⟩ | rfl | ⟨g1, g2, f1, f2, f3, f4⟩
  · go_enter Try.func9, Try.ntmps9
    go_wp2_with fail
    go_fit (gcd_ab 0 0 0 HA.out HB.out HG.out.symm _ _ (by simp [World.cell?_alloc_new]) (by simp [World.cell?_alloc_new]) (by simp))
    rintro e w1 ⟨rfl, hb1⟩
    have z1 := hb1.size
    have B1 := Lib.hid (((Below.refl w.heap.size w).alloc (Nat.le_refl _) _).trans (hb1.mono (by simp)))
    simp at z1
    clear hb1
    go_wp2_with fail
    go_fit (lives_any _)
    rintro e w3 ⟨rfl, hb3⟩
    have B3 := Lib.hid (B1.out.trans (hb3.mono (by omega)))
    clear hb3 B1
    go_wp2_with fail
    go_ret
    exact ⟨rfl, B3.out⟩
  · go_enter Try.func9, Try.ntmps9
    go_wp2_with fail
    go_fit (gcd_ab a b 9223372036854775807 HA.out HB.out HG.out.symm _ _ (by simp [World.cell?_alloc_new]) (by simp [World.cell?_alloc_new]) (by simp))
    rintro e w1 ⟨rfl, hb1⟩
    have z1 := hb1.size
    have B1 := Lib.hid (((Below.refl w.heap.size w).alloc (Nat.le_refl _) _).trans (hb1.mono (by simp)))
    simp at z1
    clear hb1
    go_wp2_with fail
    go_fit (lives_any _)
    rintro e w3 ⟨rfl, hb3⟩
    have B3 := Lib.hid (B1.out.trans (hb3.mono (by omega)))
    clear hb3 B1
    go_wp2_with fail
    go_ret
    exact ⟨rfl, B3.out⟩
  · have u1 : (g == 0) = false := by rw [beq_eq_false_iff_ne]; omega
    have u2 : decide (g < 0) = false := by simp; omega
    have u3 : (g == 9223372036854775807) = false := by rw [beq_eq_false_iff_ne]; omega
    have u4 : (a.tmod g == 0) = true := by rw [beq_iff_eq]; exact f1
    have u5 : (b.tmod g == 0) = true := by rw [beq_iff_eq]; exact f2
    have u6 : (g == g) = true := by simp
    have F3 := Lib.hid f3
    have F4 := Lib.hid f4
    clear f1 f2 f3 f4
    by_cases c1 : a.tmod (d + 1) = 0
    · have u7 : (a.tmod (d + 1) != 0) = false := by rw [bne_eq_false_iff_eq]; exact c1
      by_cases c2 : b.tmod (d + 1) = 0
      · have u8 : (b.tmod (d + 1) != 0) = false := by rw [bne_eq_false_iff_eq]; exact c2
        have u9 : (g % (d + 1) == 0) = true := by rw [beq_iff_eq]; exact F4.out c1 c2
        clear c1 c2 F4
        go_enter Try.func9, Try.ntmps9
        go_wp2_with fail
        go_fit (gcd_ab a b g HA.out HB.out HG.out.symm _ _ (by simp [World.cell?_alloc_new]) (by simp [World.cell?_alloc_new]) (by simp))
        rintro e w1 ⟨rfl, hb1⟩
        have z1 := hb1.size
        have B1 := Lib.hid (((Below.refl w.heap.size w).alloc (Nat.le_refl _) _).trans (hb1.mono (by simp)))
        simp at z1
        clear hb1
        go_wp2_with fail
        go_fit (gcd_ab b a g HB.out HA.out F3.out _ _ (by simp [World.cell?_alloc_new]) (by simp [World.cell?_alloc_new]) (by simp))
        rintro e w2 ⟨rfl, hb2⟩
        have z2 := hb2.size
        have B2 := Lib.hid ((B1.out.alloc (by omega) _).trans (hb2.mono (by simp; omega)))
        simp at z2
        clear hb2 B1
        go_wp2_with fail
        go_fit (lives_any _)
        rintro e w3 ⟨rfl, hb3⟩
        have B3 := Lib.hid (B2.out.trans (hb3.mono (by omega)))
        clear hb3 B2
        go_wp2_with fail
        go_ret
        exact ⟨rfl, B3.out⟩
      · have u8 : (b.tmod (d + 1) != 0) = true := by rw [bne_iff_ne]; exact c2
        clear c1 c2 F4
        go_enter Try.func9, Try.ntmps9
        go_wp2_with fail
        go_fit (gcd_ab a b g HA.out HB.out HG.out.symm _ _ (by simp [World.cell?_alloc_new]) (by simp [World.cell?_alloc_new]) (by simp))
        rintro e w1 ⟨rfl, hb1⟩
        have z1 := hb1.size
        have B1 := Lib.hid (((Below.refl w.heap.size w).alloc (Nat.le_refl _) _).trans (hb1.mono (by simp)))
        simp at z1
        clear hb1
        go_wp2_with fail
        go_fit (gcd_ab b a g HB.out HA.out F3.out _ _ (by simp [World.cell?_alloc_new]) (by simp [World.cell?_alloc_new]) (by simp))
        rintro e w2 ⟨rfl, hb2⟩
        have z2 := hb2.size
        have B2 := Lib.hid ((B1.out.alloc (by omega) _).trans (hb2.mono (by simp; omega)))
        simp at z2
        clear hb2 B1
        go_wp2_with fail
        go_fit (lives_any _)
        rintro e w3 ⟨rfl, hb3⟩
        have B3 := Lib.hid (B2.out.trans (hb3.mono (by omega)))
        clear hb3 B2
        go_wp2_with fail
        go_ret
        exact ⟨rfl, B3.out⟩
    · have u7 : (a.tmod (d + 1) != 0) = true := by rw [bne_iff_ne]; exact c1
      clear c1 F4
      go_enter Try.func9, Try.ntmps9
      go_wp2_with fail
      go_fit (gcd_ab a b g HA.out HB.out HG.out.symm _ _ (by simp [World.cell?_alloc_new]) (by simp [World.cell?_alloc_new]) (by simp))
      rintro e w1 ⟨rfl, hb1⟩
      have z1 := hb1.size
      have B1 := Lib.hid (((Below.refl w.heap.size w).alloc (Nat.le_refl _) _).trans (hb1.mono (by simp)))
      simp at z1
      clear hb1
      go_wp2_with fail
      go_fit (gcd_ab b a g HB.out HA.out F3.out _ _ (by simp [World.cell?_alloc_new]) (by simp [World.cell?_alloc_new]) (by simp))
      rintro e w2 ⟨rfl, hb2⟩
      have z2 := hb2.size
      have B2 := Lib.hid ((B1.out.alloc (by omega) _).trans (hb2.mono (by simp; omega)))
      simp at z2
      clear hb2 B1
      go_wp2_with fail
      go_fit (lives_any _)
      rintro e w3 ⟨rfl, hb3⟩
      have B3 := Lib.hid (B2.out.trans (hb3.mono (by omega)))
      clear hb3 B2
      go_wp2_with fail
      go_ret
      exact ⟨rfl, B3.out⟩


set_option maxRecDepth 100000 in
theorem lifted (os : Os) (started : os.Started) (H : Type) (enc : TypeId × Value → H) :
    ReturnsInHanded {} Try.checked os 9 .any (Rows.numDividesSpec.pre6 enc Try.prog Try.f9 Rows.numDividesRow.domain false) (Rows.numDividesSpec.post enc Try.prog Try.f9 false true false false) := by
  refine returnsInHanded_of_change (C := Try.checked) own started (by kernel_rfl) Try.func9
    (ChangeSpec.witness6 (enc := enc) (C := Try.checked) false ⟨#[], #[.int .i64 0, .int .i64 0, .int .u16 0], []⟩ 8 (by kernel_rfl) (by kernel_rfl) (by kernel_rfl) (by kernel_rfl)) ?_
  intro W base args ds gs before hval0 hW hcnd _
  have hval : ∀ (j : Nat) t v, Try.f9.params[j]? = some t → args[j]? = some v → Value.okWide Try.prog W .any base t v := hval0
  have hW' := hW
  obtain ⟨p, q, hA0, hV, rfl, hfz, hnd⟩ := hW
  have hA : DataW.TrodAll enc Try.prog W 0 (fun _ => true) true Try.f9.params.toList args.toList ds p := hA0
  rw [Try.params9] at hA hval
  obtain ⟨v0, vs0, d0, ds0, p0, q0, hargs, rfl, rfl, h0, r0⟩ := trodAll_cons hA
  obtain ⟨v1, vs1, d1, ds1, p1, q1, rfl, rfl, rfl, h1, r1⟩ := trodAll_cons r0
  obtain ⟨v2, vs2, d2, ds2, p2, q2, rfl, rfl, rfl, h2, r2⟩ := trodAll_cons r1
  obtain ⟨rfl, rfl, rfl⟩ := trodAll_nil r2
  obtain rfl : args = #[v0, v1, v2] := by cases args; simp_all
  obtain ⟨rfl, rfl⟩ := trodVars_none hV
  obtain ⟨a0, rfl, rfl, rfl, w0⟩ := open_int Try.underlying3 (hval 0 3 v0 rfl rfl) h0
  obtain ⟨a1, rfl, rfl, rfl, w1⟩ := open_int Try.underlying3 (hval 1 3 v1 rfl rfl) h1
  obtain ⟨a2, rfl, rfl, rfl, w2⟩ := open_int Try.underlying42 (hval 2 42 v2 rfl rfl) h2
  clear hA0 hval0
  refine (walk a0 a1 a2 w0 w1 w2 W ).mono fun e W' ⟨he, bel⟩ => ?_
  subst he
  exact ⟨_, rfl, _, _, _, [], _, [], hW', trodAll_mk1 (shut_bool Try.underlying4 _), (trodAll_cons_mk (shut_int Try.underlying3 w0) (trodAll_cons_mk (shut_int Try.underlying3 w1) (trodAll_cons_mk (shut_int Try.underlying42 w2) trodAll_mk0))), rfl, bel.frame _, fun h => by cases h⟩

theorem over : Rows.numDividesRow.holds Try.pinned (OpenSpec.ofChange Rows.numDividesSpec) :=
  OpenClaim.holds_of_wide 9 Try.f9 rfl rfl rfl rfl rfl rfl rfl ⟨rfl, rfl, rfl, rfl, rfl⟩ rfl rfl rfl rfl rfl (by kernel_rfl) Try.func9 (by kernel_rfl)
    (of_decide_eq_true (by kernel_rfl)) (by unfold Func.isWrapper; first | (rw [if_pos (by decide +kernel)]; kernel_rfl) | (rw [if_neg (by decide +kernel)]; exact ⟨rfl, rfl⟩))
    (fun os started H enc _ => lifted os started H enc)

/-- THE STATEMENT. -/
theorem proved : Rows.NumDividesSaid :=
  over
#print axioms proved
end Go.Proofs.Ythggcagbanndgaa.numDivides
