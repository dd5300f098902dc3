/- Contract of the document's Same, of values (pipelineref07). -/
import Derived.Test.YtabopneehhnhfaaGreatDoorVluA
import Derived.Test.YtabopneehhnhfaaGreatDoorValK
import Derived.Deep.RegionHeld3
namespace Go.Proofs.YtabopneehhnhfaaGreatDoor
open Go.RowKit Go.Lib

def hdS (f : Vl → Vl → Bool) (x y : Vl) : Bool := x.kind == y.kind && x.truth == y.truth && x.num == y.num && (x.str.data.toList == y.str.data.toList) && (x.keys == y.keys) && (x.list.length == y.list.length) && (x.list.zip y.list).all fun p => f p.1 p.2
theorem sameV_mk (m : Nat) (x y : Vl) (hx : fitsV m x) (hy : fitsV m y) : ∃ f, sameV m x y = hdS f x y ∧ ∀ m', m = m' + 1 → f = sameV m' := by
  cases m with
  | zero =>
    obtain ⟨k, t, i, s, l, ks⟩ := x
    obtain ⟨k', t', i', s', l', ks'⟩ := y
    have hx : l = [] := hx
    have hy : l' = [] := hy
    subst hx hy
    refine ⟨fun _ _ => true, ?_, fun _ h => by omega⟩
    simp [sameV, hdS, Vl.list]
  | succ m => exact ⟨sameV m, rfl, fun m' h => by rw [show m = m' by omega]⟩
/-- Same at values of at most m levels below. -/
def SameP (m : Nat) : Prop := ∀ (A B : Value) (x y : Vl) (w : World), IsV m w A x → IsV m w B y →
  Calls Tryz.prog 20 #[A, B] w fun e w' => e = .returned (.bool (sameV m x y)) ∧ Below w.heap.size w w'

set_option maxHeartbeats 4000000 in
/-- A field that lies ahead of the elements parts them. -/
theorem same_head (k k2 : Int) (t t2 : Bool) (i i2 : Int) (s s2 : ByteArray) (av av2 kv kv2 : Option Addr) (n n2 c c2 kn kn2 kc kc2 : Nat) (w : World) (h : ¬ (k = k2 ∧ t = t2 ∧ i = i2 ∧ s = s2 ∧ n = n2 ∧ kn = kn2)) :
    Calls Tryz.prog 20 #[.agg #[.int .i64 k, .bool t, .int .i64 i, .string s, .slice av n c, .slice kv kn kc], .agg #[.int .i64 k2, .bool t2, .int .i64 i2, .string s2, .slice av2 n2 c2, .slice kv2 kn2 kc2]] w fun e w' => e = .returned (.bool false) ∧ Below w.heap.size w w' := by
  by_cases h1 : k = k2
  case neg =>
    have g : (k != k2) = true := by simpa using h1
    clear h h1
    go_enter Tryz.func20, Tryz.ntmps20
    go_wp2_with fail
    go_ret
    exact ⟨rfl, (by repeat (first | exact Below.refl _ _ | refine Below.alloc ?_ (by simp <;> omega) _))⟩
  subst h1
  by_cases h2 : t = t2
  case neg =>
    have g : t2 = !t := by cases t <;> cases t2 <;> simp_all
    subst g
    clear h h2
    cases t
    all_goals
      go_enter Tryz.func20, Tryz.ntmps20
      go_wp2_with fail
      go_ret
      exact ⟨rfl, (by repeat (first | exact Below.refl _ _ | refine Below.alloc ?_ (by simp <;> omega) _))⟩
  subst h2
  by_cases h3 : i = i2
  case neg =>
    have g : (i != i2) = true := by simpa using h3
    clear h h3
    cases t
    all_goals
      go_enter Tryz.func20, Tryz.ntmps20
      go_wp2_with fail
      go_ret
      exact ⟨rfl, (by repeat (first | exact Below.refl _ _ | refine Below.alloc ?_ (by simp <;> omega) _))⟩
  subst h3
  by_cases h4 : s = s2
  case neg =>
    have g : (s.toList == s2.toList) = false := by rw [beq_eq_false_iff_ne, Lib.toList_data, Lib.toList_data]; exact fun e => h4 (str_inj.1 e)
    clear h h4
    cases t
    all_goals
      go_enter Tryz.func20, Tryz.ntmps20
      go_wp2_with fail
      go_ret
      exact ⟨rfl, (by repeat (first | exact Below.refl _ _ | refine Below.alloc ?_ (by simp <;> omega) _))⟩
  subst h4
  by_cases h5 : n = n2
  case neg =>
    have g : ((n : Int) != (n2 : Int)) = true := by simp; omega
    clear h h5
    cases t
    all_goals
      go_enter Tryz.func20, Tryz.ntmps20
      go_wp2_with fail
      go_ret
      exact ⟨rfl, (by repeat (first | exact Below.refl _ _ | refine Below.alloc ?_ (by simp <;> omega) _))⟩
  subst h5
  by_cases h6 : kn = kn2
  case neg =>
    have g : ((kn : Int) != (kn2 : Int)) = true := by simp; omega
    clear h h6
    cases t
    all_goals
      go_enter Tryz.func20, Tryz.ntmps20
      go_wp2_with fail
      go_ret
      exact ⟨rfl, (by repeat (first | exact Below.refl _ _ | refine Below.alloc ?_ (by simp <;> omega) _))⟩
  exact absurd ⟨rfl, rfl, rfl, rfl, rfl, h6⟩ h

theorem zip_drop {α : Type} (f : α → α → Bool) (a b : List α) (j : Nat) (h1 : j < a.length) (h2 : j < b.length) : ((a.drop j).zip (b.drop j)).all (fun p => f p.1 p.2) = (f a[j] b[j] && ((a.drop (j + 1)).zip (b.drop (j + 1))).all (fun p => f p.1 p.2)) := by
  rw [List.drop_eq_getElem_cons h1, List.drop_eq_getElem_cons h2, List.zip_cons_cons, List.all_cons]
theorem keys_drop (a b : List (List UInt8)) (j : Nat) (h1 : j < a.length) (h2 : j < b.length) : (a.drop j == b.drop j) = ((a[j] == b[j]) && (a.drop (j + 1) == b.drop (j + 1))) := by
  rw [List.drop_eq_getElem_cons h1, List.drop_eq_getElem_cons h2]
  rfl

set_option maxHeartbeats 8000000 in
set_option maxRecDepth 100000 in
theorem same_any : ∀ m, SameP m := by
  intro m
  induction m using Nat.strongRecOn with
  | ind m ih =>
    intro A B x y w hA hB
    have fx := fits_is hA
    have fy := fits_is hB
    obtain ⟨k, t, i, s, l, ks, av, c, kv, kc, rfl, rfl, g0, g1, g2, g3, g4, g5, g6, g7, g8, g9, hs, hl⟩ := id hA
    obtain ⟨k2, t2, i2, s2, l2, ks2, av2, c2, kv2, kc2, rfl, rfl, r0, r1, r2, r3, r4, r5, r6, r7, r8, r9, hs2, hl2⟩ := id hB
    obtain ⟨f, he, hm⟩ := sameV_mk m _ _ fx fy
    rw [he]
    by_cases hh : ¬ (k = k2 ∧ t = t2 ∧ i = i2 ∧ s = s2 ∧ l.length = l2.length ∧ ks.length = ks2.length)
    · have E : hdS f (.mk k t i s l ks) (.mk k2 t2 i2 s2 l2 ks2) = false := by
        rw [← Bool.not_eq_true]
        intro h
        simp only [hdS, Vl.kind, Vl.truth, Vl.num, Vl.str, Vl.keys, Vl.list, Bool.and_eq_true, beq_iff_eq, str_inj] at h
        obtain ⟨⟨⟨⟨⟨⟨e1, e2⟩, e3⟩, e4⟩, e5⟩, e6⟩, _⟩ := h
        exact hh ⟨e1, e2, e3, e4, e6, by rw [e5]⟩
      rw [E]
      exact same_head k k2 t t2 i i2 s s2 av av2 kv kv2 _ _ c c2 _ _ kc kc2 w hh
    · obtain ⟨rfl, rfl, rfl, rfl, hn, hkn⟩ := Classical.not_not.1 hh
      have E : hdS f (.mk k t i s l ks) (.mk k t i s l2 ks2) = ((ks == ks2) && (l.zip l2).all (fun p => f p.1 p.2)) := by
        simp [hdS, Vl.kind, Vl.truth, Vl.num, Vl.str, Vl.keys, Vl.list, hn]
      rw [E]
      have HI := Lib.hid ih
      have HM := Lib.hid hm
      have HS := Lib.hid hs
      have HS2 := Lib.hid hs2
      have HL := Lib.hid hl
      have HL2 := Lib.hid hl2
      have HLN := Lib.hid hn
      have HKN := Lib.hid hkn
      clear E he hh hA hB fx fy ih hm hs hs2 hl hl2 g0 g1 g2 g7 g8 g9 r0 r1 r2 r7 r8 r9 g4 g5 r4 r5
      have hlen : l.length ≤ 9223372036854775000 := by omega
      have hklen : ks.length ≤ 9223372036854775000 := by omega
      clear g3 g6 r3 r6
      rw [← hn, ← hkn]
      have VA := (V6_new w k t i s (.slice av l.length c) (.slice kv ks.length kc)).below (by simp) ((Below.refl _ _).alloc (Nat.le_refl _) (.cells #[.int .i64 k, .bool t, .int .i64 i, .string s, .slice av2 l.length c2, .slice kv2 ks.length kc2] 25))
      have VB := V6_new (w.alloc (.cells #[.int .i64 k, .bool t, .int .i64 i, .string s, .slice av l.length c, .slice kv ks.length kc] 25)) k t i s (.slice av2 l.length c2) (.slice kv2 ks.length kc2)
      have B0 : Below w.heap.size w ((w.alloc (.cells #[.int .i64 k, .bool t, .int .i64 i, .string s, .slice av l.length c, .slice kv ks.length kc] 25)).alloc (.cells #[.int .i64 k, .bool t, .int .i64 i, .string s, .slice av2 l.length c2, .slice kv2 ks.length kc2] 25)) := (by repeat (first | exact Below.refl _ _ | refine Below.alloc ?_ (by simp <;> omega) _))
      simp only [World.size_alloc] at VB
      clear hn hkn
      cases t
      · go_enter Tryz.func20, Tryz.ntmps20
        go_wp2_with fail
        obtain ⟨W0, hW0⟩ : ∃ W0, W0 = ((w.alloc (.cells #[.int .i64 k, .bool false, .int .i64 i, .string s, .slice av l.length c, .slice kv ks.length kc] 25)).alloc (.cells #[.int .i64 k, .bool false, .int .i64 i, .string s, .slice av2 l.length c2, .slice kv2 ks.length kc2] 25)) := ⟨_, rfl⟩
        rw [← hW0] at VA VB B0 ⊢
        have VA := Lib.hid VA
        have VB := Lib.hid VB
        have B0 := Lib.hid B0
        clear hW0
        go_loopw [5] (fun s5 wr => ∃ j : Nat, j ≤ ks.length ∧ s5 = .int .i64 (j : Int) ∧ Hid ((ks == ks2) = (ks.drop j == ks2.drop j)) ∧ Hid (V6 wr w.heap.size k false i s (.slice av l.length c) (.slice kv ks.length kc)) ∧ Hid (V6 wr (w.heap.size + 1) k false i s (.slice av2 l.length c2) (.slice kv2 ks.length kc2)) ∧ Hid (Below w.heap.size w wr)) (fun s5 _ => ks.length - (RowKit.intOf s5).toNat)
        case atStart => exact ⟨0, by omega, rfl, Lib.hid rfl, VA, VB, B0⟩
        case round =>
          obtain ⟨j, hj, rfl, HE, VA, VB, HB⟩ := hrel
          obtain ⟨-, -, -, -, -, -, a5⟩ := id VA.out
          obtain ⟨-, -, -, -, -, -, b5⟩ := id VB.out
          by_cases hlt : j < ks.length
          · obtain ⟨b, off, rfl, h2, c0⟩ := HS.out j hlt
            have hlt2 : j < ks2.length := by have := HKN.out; omega
            obtain ⟨b2, off2, rfl, h3, d0⟩ := HS2.out j hlt2
            have p0 := (HB.out.cell (p := ⟨b, _, none⟩) h2).trans c0
            have q0 := (HB.out.cell (p := ⟨b2, _, none⟩) h3).trans d0
            have hst := keys_drop ks ks2 j hlt hlt2
            rw [← HE.out] at hst
            have hjI : (j : Int) < (ks.length : Int) := by omega
            have hj0 : (0 : Int) ≤ (j : Int) := by omega
            have hq : ((⟨ks[j].toArray⟩ : ByteArray).toList == (⟨ks2[j].toArray⟩ : ByteArray).toList) = (ks[j] == ks2[j]) := by rw [Lib.toList_data, Lib.toList_data]
            generalize (ks[j] == ks2[j]) = q at hst hq
            generalize (⟨ks[j].toArray⟩ : ByteArray) = x at p0 hq
            generalize (⟨ks2[j].toArray⟩ : ByteArray) = y at q0 hq
            clear c0 d0 hlt2
            have HST := Lib.hid hst
            clear hst
            cases q
            · go_upto_region 6 with fail
              go_quiet (fail)
              have HB2 := Lib.hid (below_drewN HB.out nq)
              go_wp2_with fail
              go_ret
              exact ⟨by rw [HST.out]; rfl, HB2.out⟩
            · go_upto_region 6 with fail
              go_quiet (fail)
              have HB2 := Lib.hid (below_drewN HB.out nq)
              have hbn := below_drewN (Below.refl wr.heap.size wr) nq
              have VA2 := Lib.hid (VA.out.below VA.out.1 hbn)
              have VB2 := Lib.hid (VB.out.below VB.out.1 hbn)
              go_wp2_with fail
              exact ⟨⟨j + 1, by omega, by go_num, Lib.hid (by rw [HST.out, Bool.true_and]), VA2, VB2, HB2⟩, by simp [RowKit.intOf]; omega⟩
          · obtain rfl : j = ks.length := by omega
            have HE1 := Lib.hid (show (ks == ks2) = true by rw [HE.out, List.drop_length, HKN.out, List.drop_length]; rfl)
            clear HS HS2 hlt
            go_wp2_with fail
            go_loopw [6] (fun s6 wr => ∃ j : Nat, j ≤ l.length ∧ s6 = .int .i64 (j : Int) ∧ Hid ((l.zip l2).all (fun p => f p.1 p.2) = ((l.drop j).zip (l2.drop j)).all (fun p => f p.1 p.2)) ∧ Hid (V6 wr w.heap.size k false i s (.slice av l.length c) (.slice kv ks.length kc)) ∧ Hid (V6 wr (w.heap.size + 1) k false i s (.slice av2 l.length c2) (.slice kv2 ks.length kc2)) ∧ Hid (Below w.heap.size w wr)) (fun s6 _ => l.length - (RowKit.intOf s6).toNat)
            case atStart => exact ⟨0, by omega, rfl, Lib.hid rfl, VA, VB, HB⟩
            case round =>
              obtain ⟨j, hj, rfl, HE, VA, VB, HB⟩ := hrel
              obtain ⟨-, -, -, -, -, a4, -⟩ := id VA.out
              obtain ⟨-, -, -, -, -, b4, -⟩ := id VB.out
              by_cases hlt : j < l.length
              · cases m with
                | zero => exact absurd hlt (by have h : l = [] := HL.out; rw [h]; simp)
                | succ m =>
                have hlt2 : j < l2.length := by have := HLN.out; omega
                obtain ⟨b, off, k1, t1, i1, s1, l1, ks1, av1, c1, kv1, kc1, h0, rfl, h2, e0, e1, e2, e3, e4, e5, q0, q1, q2, q3, q4, q5, q6, q7, q8, q9, hs1, hl1⟩ := HL.out j hlt
                obtain ⟨b2, off2, k3, t3, i3, s3, l3, ks3, av3, c3, kv3, kc3, f0, rfl, f2, d0, d1, d2, d3, d4, d5, r0, r1, r2, r3, r4, r5, r6, r7, r8, r9, hs3, hl3⟩ := HL2.out j hlt2
                have p0 := (HB.out.cell (p := ⟨b, _, none⟩) h2).trans e0
                have p1 := (HB.out.cell (p := ⟨b, _, none⟩) h2).trans e1
                have p2 := (HB.out.cell (p := ⟨b, _, none⟩) h2).trans e2
                have p3 := (HB.out.cell (p := ⟨b, _, none⟩) h2).trans e3
                have p4 := (HB.out.cell (p := ⟨b, _, none⟩) h2).trans e4
                have p5 := (HB.out.cell (p := ⟨b, _, none⟩) h2).trans e5
                have o0 := (HB.out.cell (p := ⟨b2, _, none⟩) f2).trans d0
                have o1 := (HB.out.cell (p := ⟨b2, _, none⟩) f2).trans d1
                have o2 := (HB.out.cell (p := ⟨b2, _, none⟩) f2).trans d2
                have o3 := (HB.out.cell (p := ⟨b2, _, none⟩) f2).trans d3
                have o4 := (HB.out.cell (p := ⟨b2, _, none⟩) f2).trans d4
                have o5 := (HB.out.cell (p := ⟨b2, _, none⟩) f2).trans d5
                have hst := zip_drop f l l2 j hlt hlt2
                have hx : l[j] = .mk k1 t1 i1 s1 l1 ks1 := (List.getElem?_eq_some_iff.1 h0).2
                have hy : l2[j] = .mk k3 t3 i3 s3 l3 ks3 := (List.getElem?_eq_some_iff.1 f0).2
                rw [← HE.out, hx, hy] at hst
                have F := Lib.hid (fun w' (hb : Below w.heap.size w w') => HI.out m (Nat.lt_succ_self m) (.agg #[.int .i64 k1, .bool t1, .int .i64 i1, .string s1, .slice av1 l1.length c1, .slice kv1 ks1.length kc1]) (.agg #[.int .i64 k3, .bool t3, .int .i64 i3, .string s3, .slice av3 l3.length c3, .slice kv3 ks3.length kc3]) (.mk k1 t1 i1 s1 l1 ks1) (.mk k3 t3 i3 s3 l3 ks3) w'
                  (IsV.below ⟨k1, t1, i1, s1, l1, ks1, av1, c1, kv1, kc1, rfl, rfl, q0, q1, q2, q3, q4, q5, q6, q7, q8, q9, hs1, hl1⟩ hb) (IsV.below ⟨k3, t3, i3, s3, l3, ks3, av3, c3, kv3, kc3, rfl, rfl, r0, r1, r2, r3, r4, r5, r6, r7, r8, r9, hs3, hl3⟩ hb))
                rw [← HM.out m rfl] at F
                generalize f (.mk k1 t1 i1 s1 l1 ks1) (.mk k3 t3 i3 s3 l3 ks3) = q at F hst
                have hjI : (j : Int) < (l.length : Int) := by omega
                have hj0 : (0 : Int) ≤ (j : Int) := by omega
                have HST := Lib.hid hst
                have HBL := Lib.hid (show b < wr.heap.size ∧ b2 < wr.heap.size from ⟨Nat.lt_of_lt_of_le h2 HB.out.size, Nat.lt_of_lt_of_le f2 HB.out.size⟩)
                have VAD := Lib.hid (VA.out.below VA.out.1 (Below.refl wr.heap.size wr).drew)
                have VBD := Lib.hid (VB.out.below VB.out.1 (Below.refl wr.heap.size wr).drew)
                have hs0 : (fun w' : World => (w'.cell? ⟨w.heap.size, 4, none⟩ = some (.slice (some ⟨b, off, none⟩) l.length c) ∧ w'.cell? ⟨w.heap.size + 1, 4, none⟩ = some (.slice (some ⟨b2, off2, none⟩) l.length c2) ∧ w'.cell? ⟨b, off + j * 6, none⟩ = some (.int .i64 k1) ∧ w'.cell? ⟨b, off + j * 6 + 1, none⟩ = some (.bool t1) ∧ w'.cell? ⟨b, off + j * 6 + 2, none⟩ = some (.int .i64 i1) ∧ w'.cell? ⟨b, off + j * 6 + 3, none⟩ = some (.string s1) ∧ w'.cell? ⟨b, off + j * 6 + 4, none⟩ = some (.slice av1 l1.length c1) ∧ w'.cell? ⟨b, off + j * 6 + 5, none⟩ = some (.slice kv1 ks1.length kc1) ∧ w'.cell? ⟨b2, off2 + j * 6, none⟩ = some (.int .i64 k3) ∧ w'.cell? ⟨b2, off2 + j * 6 + 1, none⟩ = some (.bool t3) ∧ w'.cell? ⟨b2, off2 + j * 6 + 2, none⟩ = some (.int .i64 i3) ∧ w'.cell? ⟨b2, off2 + j * 6 + 3, none⟩ = some (.string s3) ∧ w'.cell? ⟨b2, off2 + j * 6 + 4, none⟩ = some (.slice av3 l3.length c3) ∧ w'.cell? ⟨b2, off2 + j * 6 + 5, none⟩ = some (.slice kv3 ks3.length kc3))) wr.drew := ⟨a4, b4, p0, p1, p2, p3, p4, p5, o0, o1, o2, o3, o4, o5⟩
                have hs2' : ∀ w2, Below wr.drew.heap.size wr.drew w2 → (fun w' : World => (w'.cell? ⟨w.heap.size, 4, none⟩ = some (.slice (some ⟨b, off, none⟩) l.length c) ∧ w'.cell? ⟨w.heap.size + 1, 4, none⟩ = some (.slice (some ⟨b2, off2, none⟩) l.length c2) ∧ w'.cell? ⟨b, off + j * 6, none⟩ = some (.int .i64 k1) ∧ w'.cell? ⟨b, off + j * 6 + 1, none⟩ = some (.bool t1) ∧ w'.cell? ⟨b, off + j * 6 + 2, none⟩ = some (.int .i64 i1) ∧ w'.cell? ⟨b, off + j * 6 + 3, none⟩ = some (.string s1) ∧ w'.cell? ⟨b, off + j * 6 + 4, none⟩ = some (.slice av1 l1.length c1) ∧ w'.cell? ⟨b, off + j * 6 + 5, none⟩ = some (.slice kv1 ks1.length kc1) ∧ w'.cell? ⟨b2, off2 + j * 6, none⟩ = some (.int .i64 k3) ∧ w'.cell? ⟨b2, off2 + j * 6 + 1, none⟩ = some (.bool t3) ∧ w'.cell? ⟨b2, off2 + j * 6 + 2, none⟩ = some (.int .i64 i3) ∧ w'.cell? ⟨b2, off2 + j * 6 + 3, none⟩ = some (.string s3) ∧ w'.cell? ⟨b2, off2 + j * 6 + 4, none⟩ = some (.slice av3 l3.length c3) ∧ w'.cell? ⟨b2, off2 + j * 6 + 5, none⟩ = some (.slice kv3 ks3.length kc3))) w2 := fun w2 hb => ⟨(hb.cell (p := ⟨_, _, none⟩) VA.out.1).trans a4, (hb.cell (p := ⟨_, _, none⟩) VB.out.1).trans b4, (hb.cell (p := ⟨b, _, none⟩) HBL.out.1).trans p0, (hb.cell (p := ⟨b, _, none⟩) HBL.out.1).trans p1, (hb.cell (p := ⟨b, _, none⟩) HBL.out.1).trans p2, (hb.cell (p := ⟨b, _, none⟩) HBL.out.1).trans p3, (hb.cell (p := ⟨b, _, none⟩) HBL.out.1).trans p4, (hb.cell (p := ⟨b, _, none⟩) HBL.out.1).trans p5, (hb.cell (p := ⟨b2, _, none⟩) HBL.out.2).trans o0, (hb.cell (p := ⟨b2, _, none⟩) HBL.out.2).trans o1, (hb.cell (p := ⟨b2, _, none⟩) HBL.out.2).trans o2, (hb.cell (p := ⟨b2, _, none⟩) HBL.out.2).trans o3, (hb.cell (p := ⟨b2, _, none⟩) HBL.out.2).trans o4, (hb.cell (p := ⟨b2, _, none⟩) HBL.out.2).trans o5⟩
                have HS2 := Lib.hid hs2'
                clear hst hx hy h0 f0 h2 f2 e0 e1 e2 e3 e4 e5 d0 d1 d2 d3 d4 d5 q0 q1 q2 q3 q4 q5 q6 q7 q8 q9 hs1 hl1 r0 r1 r2 r3 r4 r5 r6 r7 r8 r9 hs3 hl3 hs2' hlt2
                go_upto_region 11 with fail
                go_region_held3 (fun w' => (w'.cell? ⟨w.heap.size, 4, none⟩ = some (.slice (some ⟨b, off, none⟩) l.length c) ∧ w'.cell? ⟨w.heap.size + 1, 4, none⟩ = some (.slice (some ⟨b2, off2, none⟩) l.length c2) ∧ w'.cell? ⟨b, off + j * 6, none⟩ = some (.int .i64 k1) ∧ w'.cell? ⟨b, off + j * 6 + 1, none⟩ = some (.bool t1) ∧ w'.cell? ⟨b, off + j * 6 + 2, none⟩ = some (.int .i64 i1) ∧ w'.cell? ⟨b, off + j * 6 + 3, none⟩ = some (.string s1) ∧ w'.cell? ⟨b, off + j * 6 + 4, none⟩ = some (.slice av1 l1.length c1) ∧ w'.cell? ⟨b, off + j * 6 + 5, none⟩ = some (.slice kv1 ks1.length kc1) ∧ w'.cell? ⟨b2, off2 + j * 6, none⟩ = some (.int .i64 k3) ∧ w'.cell? ⟨b2, off2 + j * 6 + 1, none⟩ = some (.bool t3) ∧ w'.cell? ⟨b2, off2 + j * 6 + 2, none⟩ = some (.int .i64 i3) ∧ w'.cell? ⟨b2, off2 + j * 6 + 3, none⟩ = some (.string s3) ∧ w'.cell? ⟨b2, off2 + j * 6 + 4, none⟩ = some (.slice av3 l3.length c3) ∧ w'.cell? ⟨b2, off2 + j * 6 + 5, none⟩ = some (.slice kv3 ks3.length kc3))) (first | exact hs0 | exact HS2.out _ (by assumption)) (first | (go_at_call 20; go_fit (F.out _ HB.out.drew); rintro e w2 ⟨rfl, hb2⟩))
                have VA2 := Lib.hid (VAD.out.below VAD.out.1 hb2)
                have VB2 := Lib.hid (VBD.out.below VBD.out.1 hb2)
                have B2 := Lib.hid (HB.out.drew.trans (hb2.mono HB.out.drew.size))
                clear hb2
                cases q
                · go_wp2_with fail
                  go_ret
                  exact ⟨by rw [HE1.out, HST.out]; rfl, B2.out⟩
                · go_wp2_with fail
                  exact ⟨⟨j + 1, by omega, by go_num, Lib.hid (by rw [HST.out, Bool.true_and]), VA2, VB2, B2⟩, by simp [RowKit.intOf]; omega⟩
              · obtain rfl : j = l.length := by omega
                have HE2 := Lib.hid (show (l.zip l2).all (fun p => f p.1 p.2) = true by rw [HE.out, List.drop_length]; rfl)
                clear hlt
                go_wp2_with fail
                go_ret
                exact ⟨by rw [HE1.out, HE2.out]; rfl, HB.out⟩
      · go_enter Tryz.func20, Tryz.ntmps20
        go_wp2_with fail
        obtain ⟨W0, hW0⟩ : ∃ W0, W0 = ((w.alloc (.cells #[.int .i64 k, .bool true, .int .i64 i, .string s, .slice av l.length c, .slice kv ks.length kc] 25)).alloc (.cells #[.int .i64 k, .bool true, .int .i64 i, .string s, .slice av2 l.length c2, .slice kv2 ks.length kc2] 25)) := ⟨_, rfl⟩
        rw [← hW0] at VA VB B0 ⊢
        have VA := Lib.hid VA
        have VB := Lib.hid VB
        have B0 := Lib.hid B0
        clear hW0
        go_loopw [5] (fun s5 wr => ∃ j : Nat, j ≤ ks.length ∧ s5 = .int .i64 (j : Int) ∧ Hid ((ks == ks2) = (ks.drop j == ks2.drop j)) ∧ Hid (V6 wr w.heap.size k true i s (.slice av l.length c) (.slice kv ks.length kc)) ∧ Hid (V6 wr (w.heap.size + 1) k true i s (.slice av2 l.length c2) (.slice kv2 ks.length kc2)) ∧ Hid (Below w.heap.size w wr)) (fun s5 _ => ks.length - (RowKit.intOf s5).toNat)
        case atStart => exact ⟨0, by omega, rfl, Lib.hid rfl, VA, VB, B0⟩
        case round =>
          obtain ⟨j, hj, rfl, HE, VA, VB, HB⟩ := hrel
          obtain ⟨-, -, -, -, -, -, a5⟩ := id VA.out
          obtain ⟨-, -, -, -, -, -, b5⟩ := id VB.out
          by_cases hlt : j < ks.length
          · obtain ⟨b, off, rfl, h2, c0⟩ := HS.out j hlt
            have hlt2 : j < ks2.length := by have := HKN.out; omega
            obtain ⟨b2, off2, rfl, h3, d0⟩ := HS2.out j hlt2
            have p0 := (HB.out.cell (p := ⟨b, _, none⟩) h2).trans c0
            have q0 := (HB.out.cell (p := ⟨b2, _, none⟩) h3).trans d0
            have hst := keys_drop ks ks2 j hlt hlt2
            rw [← HE.out] at hst
            have hjI : (j : Int) < (ks.length : Int) := by omega
            have hj0 : (0 : Int) ≤ (j : Int) := by omega
            have hq : ((⟨ks[j].toArray⟩ : ByteArray).toList == (⟨ks2[j].toArray⟩ : ByteArray).toList) = (ks[j] == ks2[j]) := by rw [Lib.toList_data, Lib.toList_data]
            generalize (ks[j] == ks2[j]) = q at hst hq
            generalize (⟨ks[j].toArray⟩ : ByteArray) = x at p0 hq
            generalize (⟨ks2[j].toArray⟩ : ByteArray) = y at q0 hq
            clear c0 d0 hlt2
            have HST := Lib.hid hst
            clear hst
            cases q
            · go_upto_region 6 with fail
              go_quiet (fail)
              have HB2 := Lib.hid (below_drewN HB.out nq)
              go_wp2_with fail
              go_ret
              exact ⟨by rw [HST.out]; rfl, HB2.out⟩
            · go_upto_region 6 with fail
              go_quiet (fail)
              have HB2 := Lib.hid (below_drewN HB.out nq)
              have hbn := below_drewN (Below.refl wr.heap.size wr) nq
              have VA2 := Lib.hid (VA.out.below VA.out.1 hbn)
              have VB2 := Lib.hid (VB.out.below VB.out.1 hbn)
              go_wp2_with fail
              exact ⟨⟨j + 1, by omega, by go_num, Lib.hid (by rw [HST.out, Bool.true_and]), VA2, VB2, HB2⟩, by simp [RowKit.intOf]; omega⟩
          · obtain rfl : j = ks.length := by omega
            have HE1 := Lib.hid (show (ks == ks2) = true by rw [HE.out, List.drop_length, HKN.out, List.drop_length]; rfl)
            clear HS HS2 hlt
            go_wp2_with fail
            go_loopw [6] (fun s6 wr => ∃ j : Nat, j ≤ l.length ∧ s6 = .int .i64 (j : Int) ∧ Hid ((l.zip l2).all (fun p => f p.1 p.2) = ((l.drop j).zip (l2.drop j)).all (fun p => f p.1 p.2)) ∧ Hid (V6 wr w.heap.size k true i s (.slice av l.length c) (.slice kv ks.length kc)) ∧ Hid (V6 wr (w.heap.size + 1) k true i s (.slice av2 l.length c2) (.slice kv2 ks.length kc2)) ∧ Hid (Below w.heap.size w wr)) (fun s6 _ => l.length - (RowKit.intOf s6).toNat)
            case atStart => exact ⟨0, by omega, rfl, Lib.hid rfl, VA, VB, HB⟩
            case round =>
              obtain ⟨j, hj, rfl, HE, VA, VB, HB⟩ := hrel
              obtain ⟨-, -, -, -, -, a4, -⟩ := id VA.out
              obtain ⟨-, -, -, -, -, b4, -⟩ := id VB.out
              by_cases hlt : j < l.length
              · cases m with
                | zero => exact absurd hlt (by have h : l = [] := HL.out; rw [h]; simp)
                | succ m =>
                have hlt2 : j < l2.length := by have := HLN.out; omega
                obtain ⟨b, off, k1, t1, i1, s1, l1, ks1, av1, c1, kv1, kc1, h0, rfl, h2, e0, e1, e2, e3, e4, e5, q0, q1, q2, q3, q4, q5, q6, q7, q8, q9, hs1, hl1⟩ := HL.out j hlt
                obtain ⟨b2, off2, k3, t3, i3, s3, l3, ks3, av3, c3, kv3, kc3, f0, rfl, f2, d0, d1, d2, d3, d4, d5, r0, r1, r2, r3, r4, r5, r6, r7, r8, r9, hs3, hl3⟩ := HL2.out j hlt2
                have p0 := (HB.out.cell (p := ⟨b, _, none⟩) h2).trans e0
                have p1 := (HB.out.cell (p := ⟨b, _, none⟩) h2).trans e1
                have p2 := (HB.out.cell (p := ⟨b, _, none⟩) h2).trans e2
                have p3 := (HB.out.cell (p := ⟨b, _, none⟩) h2).trans e3
                have p4 := (HB.out.cell (p := ⟨b, _, none⟩) h2).trans e4
                have p5 := (HB.out.cell (p := ⟨b, _, none⟩) h2).trans e5
                have o0 := (HB.out.cell (p := ⟨b2, _, none⟩) f2).trans d0
                have o1 := (HB.out.cell (p := ⟨b2, _, none⟩) f2).trans d1
                have o2 := (HB.out.cell (p := ⟨b2, _, none⟩) f2).trans d2
                have o3 := (HB.out.cell (p := ⟨b2, _, none⟩) f2).trans d3
                have o4 := (HB.out.cell (p := ⟨b2, _, none⟩) f2).trans d4
                have o5 := (HB.out.cell (p := ⟨b2, _, none⟩) f2).trans d5
                have hst := zip_drop f l l2 j hlt hlt2
                have hx : l[j] = .mk k1 t1 i1 s1 l1 ks1 := (List.getElem?_eq_some_iff.1 h0).2
                have hy : l2[j] = .mk k3 t3 i3 s3 l3 ks3 := (List.getElem?_eq_some_iff.1 f0).2
                rw [← HE.out, hx, hy] at hst
                have F := Lib.hid (fun w' (hb : Below w.heap.size w w') => HI.out m (Nat.lt_succ_self m) (.agg #[.int .i64 k1, .bool t1, .int .i64 i1, .string s1, .slice av1 l1.length c1, .slice kv1 ks1.length kc1]) (.agg #[.int .i64 k3, .bool t3, .int .i64 i3, .string s3, .slice av3 l3.length c3, .slice kv3 ks3.length kc3]) (.mk k1 t1 i1 s1 l1 ks1) (.mk k3 t3 i3 s3 l3 ks3) w'
                  (IsV.below ⟨k1, t1, i1, s1, l1, ks1, av1, c1, kv1, kc1, rfl, rfl, q0, q1, q2, q3, q4, q5, q6, q7, q8, q9, hs1, hl1⟩ hb) (IsV.below ⟨k3, t3, i3, s3, l3, ks3, av3, c3, kv3, kc3, rfl, rfl, r0, r1, r2, r3, r4, r5, r6, r7, r8, r9, hs3, hl3⟩ hb))
                rw [← HM.out m rfl] at F
                generalize f (.mk k1 t1 i1 s1 l1 ks1) (.mk k3 t3 i3 s3 l3 ks3) = q at F hst
                have hjI : (j : Int) < (l.length : Int) := by omega
                have hj0 : (0 : Int) ≤ (j : Int) := by omega
                have HST := Lib.hid hst
                have HBL := Lib.hid (show b < wr.heap.size ∧ b2 < wr.heap.size from ⟨Nat.lt_of_lt_of_le h2 HB.out.size, Nat.lt_of_lt_of_le f2 HB.out.size⟩)
                have VAD := Lib.hid (VA.out.below VA.out.1 (Below.refl wr.heap.size wr).drew)
                have VBD := Lib.hid (VB.out.below VB.out.1 (Below.refl wr.heap.size wr).drew)
                have hs0 : (fun w' : World => (w'.cell? ⟨w.heap.size, 4, none⟩ = some (.slice (some ⟨b, off, none⟩) l.length c) ∧ w'.cell? ⟨w.heap.size + 1, 4, none⟩ = some (.slice (some ⟨b2, off2, none⟩) l.length c2) ∧ w'.cell? ⟨b, off + j * 6, none⟩ = some (.int .i64 k1) ∧ w'.cell? ⟨b, off + j * 6 + 1, none⟩ = some (.bool t1) ∧ w'.cell? ⟨b, off + j * 6 + 2, none⟩ = some (.int .i64 i1) ∧ w'.cell? ⟨b, off + j * 6 + 3, none⟩ = some (.string s1) ∧ w'.cell? ⟨b, off + j * 6 + 4, none⟩ = some (.slice av1 l1.length c1) ∧ w'.cell? ⟨b, off + j * 6 + 5, none⟩ = some (.slice kv1 ks1.length kc1) ∧ w'.cell? ⟨b2, off2 + j * 6, none⟩ = some (.int .i64 k3) ∧ w'.cell? ⟨b2, off2 + j * 6 + 1, none⟩ = some (.bool t3) ∧ w'.cell? ⟨b2, off2 + j * 6 + 2, none⟩ = some (.int .i64 i3) ∧ w'.cell? ⟨b2, off2 + j * 6 + 3, none⟩ = some (.string s3) ∧ w'.cell? ⟨b2, off2 + j * 6 + 4, none⟩ = some (.slice av3 l3.length c3) ∧ w'.cell? ⟨b2, off2 + j * 6 + 5, none⟩ = some (.slice kv3 ks3.length kc3))) wr.drew := ⟨a4, b4, p0, p1, p2, p3, p4, p5, o0, o1, o2, o3, o4, o5⟩
                have hs2' : ∀ w2, Below wr.drew.heap.size wr.drew w2 → (fun w' : World => (w'.cell? ⟨w.heap.size, 4, none⟩ = some (.slice (some ⟨b, off, none⟩) l.length c) ∧ w'.cell? ⟨w.heap.size + 1, 4, none⟩ = some (.slice (some ⟨b2, off2, none⟩) l.length c2) ∧ w'.cell? ⟨b, off + j * 6, none⟩ = some (.int .i64 k1) ∧ w'.cell? ⟨b, off + j * 6 + 1, none⟩ = some (.bool t1) ∧ w'.cell? ⟨b, off + j * 6 + 2, none⟩ = some (.int .i64 i1) ∧ w'.cell? ⟨b, off + j * 6 + 3, none⟩ = some (.string s1) ∧ w'.cell? ⟨b, off + j * 6 + 4, none⟩ = some (.slice av1 l1.length c1) ∧ w'.cell? ⟨b, off + j * 6 + 5, none⟩ = some (.slice kv1 ks1.length kc1) ∧ w'.cell? ⟨b2, off2 + j * 6, none⟩ = some (.int .i64 k3) ∧ w'.cell? ⟨b2, off2 + j * 6 + 1, none⟩ = some (.bool t3) ∧ w'.cell? ⟨b2, off2 + j * 6 + 2, none⟩ = some (.int .i64 i3) ∧ w'.cell? ⟨b2, off2 + j * 6 + 3, none⟩ = some (.string s3) ∧ w'.cell? ⟨b2, off2 + j * 6 + 4, none⟩ = some (.slice av3 l3.length c3) ∧ w'.cell? ⟨b2, off2 + j * 6 + 5, none⟩ = some (.slice kv3 ks3.length kc3))) w2 := fun w2 hb => ⟨(hb.cell (p := ⟨_, _, none⟩) VA.out.1).trans a4, (hb.cell (p := ⟨_, _, none⟩) VB.out.1).trans b4, (hb.cell (p := ⟨b, _, none⟩) HBL.out.1).trans p0, (hb.cell (p := ⟨b, _, none⟩) HBL.out.1).trans p1, (hb.cell (p := ⟨b, _, none⟩) HBL.out.1).trans p2, (hb.cell (p := ⟨b, _, none⟩) HBL.out.1).trans p3, (hb.cell (p := ⟨b, _, none⟩) HBL.out.1).trans p4, (hb.cell (p := ⟨b, _, none⟩) HBL.out.1).trans p5, (hb.cell (p := ⟨b2, _, none⟩) HBL.out.2).trans o0, (hb.cell (p := ⟨b2, _, none⟩) HBL.out.2).trans o1, (hb.cell (p := ⟨b2, _, none⟩) HBL.out.2).trans o2, (hb.cell (p := ⟨b2, _, none⟩) HBL.out.2).trans o3, (hb.cell (p := ⟨b2, _, none⟩) HBL.out.2).trans o4, (hb.cell (p := ⟨b2, _, none⟩) HBL.out.2).trans o5⟩
                have HS2 := Lib.hid hs2'
                clear hst hx hy h0 f0 h2 f2 e0 e1 e2 e3 e4 e5 d0 d1 d2 d3 d4 d5 q0 q1 q2 q3 q4 q5 q6 q7 q8 q9 hs1 hl1 r0 r1 r2 r3 r4 r5 r6 r7 r8 r9 hs3 hl3 hs2' hlt2
                go_upto_region 11 with fail
                go_region_held3 (fun w' => (w'.cell? ⟨w.heap.size, 4, none⟩ = some (.slice (some ⟨b, off, none⟩) l.length c) ∧ w'.cell? ⟨w.heap.size + 1, 4, none⟩ = some (.slice (some ⟨b2, off2, none⟩) l.length c2) ∧ w'.cell? ⟨b, off + j * 6, none⟩ = some (.int .i64 k1) ∧ w'.cell? ⟨b, off + j * 6 + 1, none⟩ = some (.bool t1) ∧ w'.cell? ⟨b, off + j * 6 + 2, none⟩ = some (.int .i64 i1) ∧ w'.cell? ⟨b, off + j * 6 + 3, none⟩ = some (.string s1) ∧ w'.cell? ⟨b, off + j * 6 + 4, none⟩ = some (.slice av1 l1.length c1) ∧ w'.cell? ⟨b, off + j * 6 + 5, none⟩ = some (.slice kv1 ks1.length kc1) ∧ w'.cell? ⟨b2, off2 + j * 6, none⟩ = some (.int .i64 k3) ∧ w'.cell? ⟨b2, off2 + j * 6 + 1, none⟩ = some (.bool t3) ∧ w'.cell? ⟨b2, off2 + j * 6 + 2, none⟩ = some (.int .i64 i3) ∧ w'.cell? ⟨b2, off2 + j * 6 + 3, none⟩ = some (.string s3) ∧ w'.cell? ⟨b2, off2 + j * 6 + 4, none⟩ = some (.slice av3 l3.length c3) ∧ w'.cell? ⟨b2, off2 + j * 6 + 5, none⟩ = some (.slice kv3 ks3.length kc3))) (first | exact hs0 | exact HS2.out _ (by assumption)) (first | (go_at_call 20; go_fit (F.out _ HB.out.drew); rintro e w2 ⟨rfl, hb2⟩))
                have VA2 := Lib.hid (VAD.out.below VAD.out.1 hb2)
                have VB2 := Lib.hid (VBD.out.below VBD.out.1 hb2)
                have B2 := Lib.hid (HB.out.drew.trans (hb2.mono HB.out.drew.size))
                clear hb2
                cases q
                · go_wp2_with fail
                  go_ret
                  exact ⟨by rw [HE1.out, HST.out]; rfl, B2.out⟩
                · go_wp2_with fail
                  exact ⟨⟨j + 1, by omega, by go_num, Lib.hid (by rw [HST.out, Bool.true_and]), VA2, VB2, B2⟩, by simp [RowKit.intOf]; omega⟩
              · obtain rfl : j = l.length := by omega
                have HE2 := Lib.hid (show (l.zip l2).all (fun p => f p.1 p.2) = true by rw [HE.out, List.drop_length]; rfl)
                clear hlt
                go_wp2_with fail
                go_ret
                exact ⟨by rw [HE1.out, HE2.out]; rfl, HB.out⟩
end Go.Proofs.YtabopneehhnhfaaGreatDoor
