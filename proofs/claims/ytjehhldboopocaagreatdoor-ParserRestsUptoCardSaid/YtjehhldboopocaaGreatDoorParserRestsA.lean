/- The walk of the law: Tokens that are followed by an ended line are read as they are. -/
import Derived.Test.YtjehhldboopocaaGreatDoorPk40
import Derived.Test.YtjehhldboopocaaGreatDoorPmR
import Derived.ProofKit
import Derived.OpenShut
import Derived.LaidMore
import Derived.Stop.Joined
import Derived.SevenTiedAt
import Derived.SizedLaws
import Derived.Deep.DeepHandedRow
namespace Go.Proofs.YtjehhldboopocaaGreatDoor.parserRests
open Go.ChangeShapes Go.WideShapes Go.ChangeAt Go.RowKit Go.Proofs.YtjehhldboopocaaGreatDoor.Lx
set_option linter.unusedVariables false
theorem own : ownKnob Tryz.prog.godebug = none := by kernel_rfl
theorem laidOut : laidOutB Tryz.prog = true := by kernel_rfl

set_option maxHeartbeats 8000000 in
set_option maxRecDepth 100000 in
theorem walk (a : Option Addr) (cap : Nat) (L : List Tm) (hL : L.length ≤ cap) (hc : cap ≤ 9223372036854775807) (hs : (L.map fun t => 4 * t.text.length + 3).sum ≤ 4194304) (a2 : Option Addr) (cap2 : Nat) (L2 : List Tm) (hL2 : L2.length ≤ cap2) (hc2 : cap2 ≤ 9223372036854775807) (hs2 : (L2.map fun t => 4 * t.text.length + 3).sum ≤ 4194304) (w : World) (hT : TabX w) (hr : ReadsK w a L) (hr2 : ReadsK w a2 L2) :
    Calls Tryz.prog 9 #[.slice a L.length cap, .slice a2 L2.length cap2] w fun e w' => e = .returned (.bool true) ∧ Below w.heap.size w w' := by
  have HT := Lib.hid hT
  have hn1 := sum_len L
  have hn2 := sum_len L2
  have hE : ∀ w', Below w.heap.size w w' → EnvR w' a L := fun w' hb => ⟨(hT.below hb).1, hr.below hb, by omega, fun t ht => by have h : 4 * t.text.length + 3 ≤ _ := sum_mem (g := fun t : Tm => 4 * t.text.length + 3) L t ht; omega⟩
  have HE := Lib.hid hE
  rcases take_cases L with ⟨p, er, ⟨q1, q2⟩, TL⟩ | ⟨x, n, hp, hv⟩
  · have TL := Lib.hid TL
    clear hE hT hr hr2 hs hs2 hL hc hL2 hc2 hn1 hn2
    go_enter Tryz.func9, Tryz.ntmps9
    go_wp2_with fail
    go_fit (TL.out _ _ _ (HE.out _ (Below.refl _ _)))
    rintro e w1 ⟨rfl, hb⟩
    have B1 := Lib.hid hb
    clear hb
    rw [show zeroC.toArray = #[.int .i64 0, .string ⟨#[]⟩, .int .i64 0, .bool false, .int .i64 0, .string ⟨#[]⟩, .slice none 0 0, .slice none 0 0, .slice none 0 0, .slice none 0 0] from rfl]
    go_upto_region 3 with fail
    have B2 := Lib.hid (B1.out.alloc B1.out.size (.cells #[.int .i64 0, .string ⟨#[]⟩, .int .i64 0, .bool false, .int .i64 0, .string ⟨#[]⟩, .slice none 0 0, .slice none 0 0, .slice none 0 0, .slice none 0 0] 29))
    go_wp2_with fail
    go_fit (awakeX _ (HT.out.below B2.out))
    rintro e w2 ⟨rfl, hb⟩
    have B3 := Lib.hid (B2.out.trans (hb.mono B2.out.size))
    clear hb
    go_wp2_with fail
    go_ret
    exact ⟨rfl, B3.out⟩
  · obtain ⟨h1, h2, h3⟩ := rests (rest := L2) hp
    obtain ⟨b, off, rfl, -⟩ := hr 0 (by omega)
    have hz3 : (L.take n ++ ((⟨5, [], 0⟩ : Tm) :: L2)).length = n + 1 + L2.length := by
      rw [List.length_append, List.length_take, List.length_cons]
      omega
    have TL := Lib.hid (fun ta tc w' hE => take_okC hp hv ta tc w' hE)
    have TM := fun ta tc w' hE => take_okC h3 hv ta tc w' hE
    rw [hz3] at TM
    have TM := Lib.hid TM
    have HSM := Lib.hid (show ∀ t, t ∈ L.take n ++ ((⟨5, [], 0⟩ : Tm) :: L2) → t.text.length ≤ 1099511627776 from fun t ht => by
      rcases List.mem_append.1 ht with h | h
      · have h : 4 * t.text.length + 3 ≤ _ := sum_mem (g := fun t : Tm => 4 * t.text.length + 3) L t (List.mem_of_mem_take h)
        omega
      · rcases List.mem_cons.1 h with h | h
        · rw [h]; simp
        · have h : 4 * t.text.length + 3 ≤ _ := sum_mem (g := fun t : Tm => 4 * t.text.length + 3) L2 t h
          omega)
    have HZ3 := Lib.hid hz3
    have EQ := Lib.hid (fun (C D : List Value) (m n : Nat) (w : World) (h1 : IsE m w C x) (h2 : IsE n w D x) => (show Calls Tryz.prog 22 #[.agg C.toArray, .agg D.toArray] w fun e w' => e = .returned (.bool true) ∧ Below w.heap.size w w' from by
      have h := equalX_any C D x x w h1 h2
      rw [eqX_refl] at h
      exact h))
    have HR := Lib.hid (readsK_take hr n)
    have HR2 := Lib.hid hr2
    have htl : (L.take n).length = n := by rw [List.length_take]; omega
    have HTL := Lib.hid htl
    have st := fun w => sliceT_to b off L.length cap n (by omega) w
    have n0 : (0 : Int) ≤ (n : Int) := by omega
    have n1 : ¬ (n : Int) < 1 := by omega
    have n2 : ¬ (L.length : Int) < (n : Int) := by omega
    have nn : n ≤ 1398101 ∧ L2.length ≤ 1398101 := by omega
    obtain ⟨i0, hi, hz0, hz1, hzb⟩ := info_parts infoTok
    clear hE hT hr hr2 hs hs2 hc hc2 hn1 hn2 hp hv h3 hz3 htl
    go_enter Tryz.func9, Tryz.ntmps9
    go_wp2_with fail
    go_fit (TL.out _ _ _ (HE.out _ (Below.refl _ _)))
    rintro e w1 ⟨⟨C, m, rfl, hx⟩, hb⟩
    have B1 := Lib.hid hb
    have HX1 := Lib.hid hx
    obtain ⟨k, nm, vk, vt, vi, vs, vl, vks, vav, vc, vkv, vkc, l, ks, av, c, kv, kc, e0, rfl, -⟩ := hx w1 (Below.refl _ _)
    clear hb hx e0
    go_upto_region 2 with fail
    obtain ⟨nx, hnx⟩ : ∃ nx : ByteArray, nx = ⟨nm.toArray⟩ := ⟨_, rfl⟩
    rw [← hnx] at HX1 ⊢
    have hb2 := (Below.refl w1.heap.size w1).alloc (Nat.le_refl _) (.cells #[.int .i64 k, .string nx, .int .i64 vk, .bool vt, .int .i64 vi, .string vs, .slice vav vl.length vc, .slice vkv vks.length vkc, .slice av l.length c, .slice kv ks.length kc] 29)
    have hC2 := CellsAt.new w1 29 #[.int .i64 k, .string nx, .int .i64 vk, .bool vt, .int .i64 vi, .string vs, .slice vav vl.length vc, .slice vkv vks.length vkc, .slice av l.length c, .slice kv ks.length kc]
    have hX2 := HX1.out _ hb2
    obtain ⟨W2, hW2⟩ : ∃ W2, W2 = w1.alloc (.cells #[.int .i64 k, .string nx, .int .i64 vk, .bool vt, .int .i64 vi, .string vs, .slice vav vl.length vc, .slice vkv vks.length vkc, .slice av l.length c, .slice kv ks.length kc] 29) := ⟨_, rfl⟩
    rw [← hW2] at hb2 hC2 hX2 ⊢
    have B2 := Lib.hid (B1.out.trans (hb2.mono B1.out.size))
    have C2 := Lib.hid hC2
    have X2 := Lib.hid hX2
    have R2 := Lib.hid (HR.out.below B2.out)
    have S2 := Lib.hid (HR2.out.below B2.out)
    clear hb2 hC2 hX2 hW2 HX1 B1 hnx HR HR2
    go_upto_region 5 with fail
    trace_state
    go_wp2_with (at_builtin; refine wpList_append_own _ rfl _ _ 37 rfl W2.heap.size 52 i0 (.agg #[.int .i64 0, .string ⟨#[]⟩, .int .i64 0]) 3 32 Tryz.underlying37 hi hz0 hz1 hzb rfl (by decide) (.slice none 0 0) 0 [] rfl (World.ownsRow_nil _ _ _ _) ⟨b, off, none⟩ n cap ((L.take n).flatMap tkC) rfl (by rw [flat3_len, HTL.out]) (reads_news R2.out) (one_tok _) ?c1 ?c2 ?c3 ?_)
    case c1 => unfold maxLen; omega
    case c2 => omega
    case c3 => exact Nat.le_refl _
    intro v3 W3 ho3 hg3 _
    have hb3 : Below W2.heap.size W2 W3 := (Below.refl _ W2).grown hg3 (Nat.le_refl _) (fun k hk => by cases hk)
    have B3 := Lib.hid (B2.out.trans (hb3.mono B2.out.size))
    have Q3 := Lib.hid hb3
    have ho3' : W3.ownsRow W2.heap.size 52 3 v3 n ((L.take n).flatMap tkC) := by simpa using ho3
    have O3 := Lib.hid (ho3'.alloc (.cells #[.int .i64 5, .string ⟨#[]⟩, .int .i64 0] 52))
    have hz : W2.heap.size ≤ W3.heap.size := hb3.size
    have K3 := Lib.hid (fun k hk => (ho3'.lt k hk).1)
    clear hb3 ho3 ho3' hg3
    go_wp2_with (at_builtin; refine wpList_append_own _ rfl _ _ 37 rfl W2.heap.size 52 i0 (.agg #[.int .i64 0, .string ⟨#[]⟩, .int .i64 0]) 3 32 Tryz.underlying37 hi hz0 hz1 hzb rfl (by decide) v3 n ((L.take n).flatMap tkC) rfl O3.out ⟨W3.heap.size, 0, none⟩ 1 1 [.int .i64 5, .string ⟨#[]⟩, .int .i64 0] rfl rfl ?d1 ?d2 ?d3 ?d4 ?d5 ?_)
    case d1 =>
      intro j u hj
      match j, hj with
      | 0, hj => simp at hj; subst hj; simp [Addr.add, go_sem]
      | 1, hj => simp at hj; subst hj; simp [Addr.add, go_sem]
      | 2, hj => simp at hj; subst hj; simp [Addr.add, go_sem]
    case d2 => intro u hu; simp at hu; rcases hu with rfl | rfl | rfl <;> rfl
    case d3 => unfold maxLen; omega
    case d4 => omega
    case d5 => simp; omega
    intro v4 W4 ho4 hg4 _
    have hb4 : Below W2.heap.size W2 W4 := (Q3.out.alloc hz (.cells #[.int .i64 5, .string ⟨#[]⟩, .int .i64 0] 52)).grown hg4 (by simp; omega) K3.out
    have hz4 : W2.heap.size ≤ W4.heap.size := hb4.size
    have B4 := Lib.hid (B2.out.trans (hb4.mono B2.out.size))
    have Q4 := Lib.hid hb4
    have O4 := Lib.hid ho4
    have S4 := Lib.hid (S2.out.below hb4)
    have K4 := Lib.hid (fun k hk => (ho4.lt k hk).1)
    clear hb4 ho4 hg4 O3 Q3 B3 K3
    go_upto_region 7 with fail
    go_cut [8] (fun s8 W5 => ∃ a5 c5, s8 = .slice a5 (n + 1 + L2.length) c5 ∧ Hid (ReadsK W5 a5 (L.take n ++ ((⟨5, [], 0⟩ : Tm) :: L2))) ∧ Hid (Below W2.heap.size W2 W5))
    case first =>
      have RO : ∀ (v5 : Value) (W5 : World), W5.ownsRow W2.heap.size 52 3 v5 (n + 1 + L2.length) (((L.take n).flatMap tkC ++ [.int .i64 5, .string ⟨#[]⟩, .int .i64 0]) ++ L2.flatMap tkC) → ∃ a5 c5, v5 = .slice a5 (n + 1 + L2.length) c5 ∧ ReadsK W5 a5 (L.take n ++ ((⟨5, [], 0⟩ : Tm) :: L2)) := by
        intro v5 W5 h
        have e : ((L.take n).flatMap tkC ++ [.int .i64 5, .string ⟨#[]⟩, .int .i64 0]) ++ L2.flatMap tkC = (L.take n ++ ((⟨5, [], 0⟩ : Tm) :: L2)).flatMap tkC := by
          rw [List.flatMap_append, List.flatMap_cons, List.append_assoc]
          rfl
        rw [e, ← HZ3.out] at h
        have h2 : RowK W5 W2.heap.size v5 (L.take n ++ ((⟨5, [], 0⟩ : Tm) :: L2)) := h
        obtain ⟨a5, c5, e5, h5⟩ := h2.reads
        rw [HZ3.out] at e5
        exact ⟨a5, c5, e5, h5⟩
      have RO := Lib.hid RO
      by_cases hl0 : L2 = []
      · subst hl0
        have H4 := O4.out
        rcases H4.2 with ⟨rfl, h0⟩ | ⟨g, cap4, cur, rfl, hB, hg, hnc, hcm, _⟩
        · exact absurd h0 (by omega)
        · clear hB hg hcm
          have FIN := Lib.hid (RO.out _ W4 (by simpa using H4))
          clear H4
          cases a2 with
          | none =>
            go_wp2_with (at_builtin; refine wpList_append_nil rfl _ _ 37 rfl 52 i0 Tryz.underlying37 hi (some ⟨g, 0, none⟩) (n + 1) cap4 hnc rfl cap2 rfl ?_)
            go_wp2_with fail
            go_meet
            obtain ⟨a5, c5, e5, h5⟩ := FIN.out
            exact ⟨a5, c5, e5, Lib.hid h5, Q4⟩
          | some ad =>
            go_wp2_with (at_builtin; refine wpList_append_none rfl _ _ 37 rfl 52 i0 Tryz.underlying37 hi (some ⟨g, 0, none⟩) (n + 1) cap4 hnc rfl ad cap2 0 rfl rfl ?_)
            go_wp2_with fail
            go_meet
            obtain ⟨a5, c5, e5, h5⟩ := FIN.out
            exact ⟨a5, c5, e5, Lib.hid h5, Q4⟩
      · have hp : 0 < L2.length := List.length_pos_iff.2 hl0
        obtain ⟨b2, o2, rfl, -⟩ := S4.out 0 hp
        go_wp2_with (at_builtin; refine wpList_append_own _ rfl _ _ 37 rfl W2.heap.size 52 i0 (.agg #[.int .i64 0, .string ⟨#[]⟩, .int .i64 0]) 3 32 Tryz.underlying37 hi hz0 hz1 hzb rfl (by decide) v4 (n + 1) _ rfl O4.out ⟨b2, o2, none⟩ L2.length cap2 (L2.flatMap tkC) rfl (flat3_len L2) (reads_news S4.out) (one_tok _) ?e1 ?e2 ?e3 ?_)
        case e1 => unfold maxLen; omega
        case e2 => omega
        case e3 => exact hz4
        intro v5 W5 ho5 hg5 _
        have hb5 : Below W2.heap.size W2 W5 := Q4.out.grown hg5 hz4 K4.out
        obtain ⟨a5, c5, rfl, h5⟩ := RO.out v5 W5 (by simpa using ho5)
        have Q5 := Lib.hid hb5
        have H5 := Lib.hid h5
        clear hb5 h5 ho5 hg5
        go_wp2_with fail
        go_meet
        exact ⟨a5, c5, rfl, H5, Q5⟩
    case rest =>
    obtain ⟨a5, c5, rfl, RK5, QB5⟩ := hcut
    have B5 := Lib.hid (B2.out.trans (QB5.out.mono B2.out.size))
    have C5 := Lib.hid (C2.out.below QB5.out)
    have X5 := Lib.hid (X2.out.below QB5.out)
    have E5 := Lib.hid (show EnvR wc a5 (L.take n ++ ((⟨5, [], 0⟩ : Tm) :: L2)) from ⟨(HT.out.below B5.out).1, RK5.out, by rw [HZ3.out]; omega, HSM.out⟩)
    clear Q4 O4 S4 K4 R2 S2 B4 B2 C2 X2 RK5 QB5
    go_wp2_with fail
    go_fit (TM.out _ _ _ E5.out)
    rintro e w6 ⟨⟨D, q, rfl, hy⟩, hb6⟩
    have B6 := Lib.hid (B5.out.trans (hb6.mono B5.out.size))
    have C6 := Lib.hid (C5.out.below hb6)
    have X6 := Lib.hid (X5.out.below hb6)
    have HY6 := Lib.hid hy
    obtain ⟨k', n', uk, ut, ui, us, ul, uks, uav, uc, ukv, ukc, l', ks', av', c', kv', kc', e0, rfl, -⟩ := hy w6 (Below.refl _ _)
    clear hb6 hy e0 B5 C5 X5 E5
    go_upto_region 9 with fail
    obtain ⟨nx', hnx'⟩ : ∃ nx' : ByteArray, nx' = ⟨n'.toArray⟩ := ⟨_, rfl⟩
    rw [← hnx'] at HY6 ⊢
    have hb7 := (Below.refl w6.heap.size w6).alloc (Nat.le_refl _) (.cells #[.int .i64 k', .string nx', .int .i64 uk, .bool ut, .int .i64 ui, .string us, .slice uav ul.length uc, .slice ukv uks.length ukc, .slice av' l'.length c', .slice kv' ks'.length kc'] 29)
    have hD7 := CellsAt.new w6 29 #[.int .i64 k', .string nx', .int .i64 uk, .bool ut, .int .i64 ui, .string us, .slice uav ul.length uc, .slice ukv uks.length ukc, .slice av' l'.length c', .slice kv' ks'.length kc']
    have hY7 := HY6.out _ hb7
    obtain ⟨W7, hW7⟩ : ∃ W7, W7 = w6.alloc (.cells #[.int .i64 k', .string nx', .int .i64 uk, .bool ut, .int .i64 ui, .string us, .slice uav ul.length uc, .slice ukv uks.length ukc, .slice av' l'.length c', .slice kv' ks'.length kc'] 29) := ⟨_, rfl⟩
    rw [← hW7] at hb7 hD7 hY7 ⊢
    have B7 := Lib.hid (B6.out.trans (hb7.mono B6.out.size))
    have hC7 := C6.out.below hb7
    have X7 := Lib.hid (X6.out.below hb7)
    have Y7 := Lib.hid hY7
    have d0 := hC7.cell (k := 0) (u := .int .i64 k) rfl
    have d1 := hC7.cell (k := 1) (u := .string nx) rfl
    have d2 := hC7.cell (k := 2) (u := .int .i64 vk) rfl
    have d3 := hC7.cell (k := 3) (u := .bool vt) rfl
    have d4 := hC7.cell (k := 4) (u := .int .i64 vi) rfl
    have d5 := hC7.cell (k := 5) (u := .string vs) rfl
    have d6 := hC7.cell (k := 6) (u := .slice vav vl.length vc) rfl
    have d7 := hC7.cell (k := 7) (u := .slice vkv vks.length vkc) rfl
    have d8 := hC7.cell (k := 8) (u := .slice av l.length c) rfl
    have d9 := hC7.cell (k := 9) (u := .slice kv ks.length kc) rfl
    have g0 := hD7.cell (k := 0) (u := .int .i64 k') rfl
    have g1 := hD7.cell (k := 1) (u := .string nx') rfl
    have g2 := hD7.cell (k := 2) (u := .int .i64 uk) rfl
    have g3 := hD7.cell (k := 3) (u := .bool ut) rfl
    have g4 := hD7.cell (k := 4) (u := .int .i64 ui) rfl
    have g5 := hD7.cell (k := 5) (u := .string us) rfl
    have g6 := hD7.cell (k := 6) (u := .slice uav ul.length uc) rfl
    have g7 := hD7.cell (k := 7) (u := .slice ukv uks.length ukc) rfl
    have g8 := hD7.cell (k := 8) (u := .slice av' l'.length c') rfl
    have g9 := hD7.cell (k := 9) (u := .slice kv' ks'.length kc') rfl
    clear hb7 hD7 hY7 hW7 hC7 B6 C6 X6 HY6 hnx'
    have hnn : ((n : Int) == (n : Int)) = true := beq_self_eq_true _
    go_wp2_with fail
    go_fit (EQ.out _ _ _ _ _ X7.out Y7.out)
    rintro e w8 ⟨rfl, hb8⟩
    have B8 := Lib.hid (B7.out.trans (hb8.mono B7.out.size))
    clear hb8 X7 Y7 B7 d0 d1 d2 d3 d4 d5 d6 d7 d8 d9 g0 g1 g2 g3 g4 g5 g6 g7 g8 g9
    go_wp2_with fail
    go_fit (awakeX _ (HT.out.below B8.out))
    rintro e w9 ⟨rfl, hb9⟩
    have B9 := Lib.hid (B8.out.trans (hb9.mono B8.out.size))
    clear hb9
    go_wp2_with fail
    go_ret
    exact ⟨rfl, B9.out⟩

end Go.Proofs.YtjehhldboopocaaGreatDoor.parserRests
