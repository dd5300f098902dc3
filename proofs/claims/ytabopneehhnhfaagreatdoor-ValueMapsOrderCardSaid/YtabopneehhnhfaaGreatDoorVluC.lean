/- Contracts of the document's Vars and SameVars (pipelineref07). -/
import Derived.Test.YtabopneehhnhfaaGreatDoorVluY
import Derived.Test.YtabopneehhnhfaaGreatDoorVluI
import Derived.Test.YtabopneehhnhfaaGreatDoorValM
import Derived.Deep.RegionHeld3
namespace Go.Proofs.YtabopneehhnhfaaGreatDoor
open Go.RowKit Go.Lib

/-- The row of entries laid so far, whose values lie where they lay at first. -/
def RowO (w0 : World) (N m : Nat) (w : World) (v : Value) (l : List Vr) (j : Nat) : Prop := ∃ xs, w.ownsRow N 55 7 v j xs ∧ ∀ q, q < j → ElR l xs (fun kv ks av l' => ReadsStr w0 kv ks ∧ ReadsV m w0 av l') q
theorem RowO.nil (w0 : World) (N m : Nat) (w : World) (l : List Vr) : RowO w0 N m w (.slice none 0 0) l 0 := ⟨[], World.ownsRow_nil w N _ _, fun q h => by omega⟩
theorem RowO.below {w0 : World} {N m : Nat} {w w' : World} {v : Value} {l : List Vr} {j : Nat} (h : RowO w0 N m w v l j) (hb : Below w.heap.size w w') : RowO w0 N m w' v l j := by
  obtain ⟨xs, h1, h2⟩ := h
  exact ⟨xs, own_from h1 (From.of_below hb), h2⟩
theorem RowO.reads {w0 : World} {N m : Nat} {w : World} {v : Value} {l : List Vr} (h : RowO w0 N m w v l l.length) (hb : Below w0.heap.size w0 w) : ∃ a c, v = .slice a l.length c ∧ l.length ≤ c ∧ c ≤ 9223372036854775807 ∧ ReadsR m w a l := by
  obtain ⟨xs, h1, h2⟩ := h
  exact own_readsR h1 rfl (fun j hj => (h2 j hj).mono rfl (fun _ _ _ => rfl) (fun _ _ _ _ h => ⟨h.1.below hb, ReadsV.below hb m _ _ h.2⟩))

set_option maxRecDepth 100000 in
set_option maxHeartbeats 4000000 in
theorem rVars_any (m : Nat) (V : Value) (x : Vl) (w : World) (hV : IsV m w V x) :
    Calls Tryz.prog 24 #[V] w fun e w' => ∃ a c, e = .returned (.tuple #[.slice a (varsL x).length c, .int .i64 (varsE x : Nat)]) ∧ ReadsR m w' a (varsL x) ∧ Below w.heap.size w w' := by
  have M := Lib.hid (fun w' (hb : Below w.heap.size w w') => refValidV_any m V x w' (hV.below hb))
  obtain ⟨k, t, i, s, l, ks, av, c, kv, kc, rfl, rfl, g0, g1, g2, g3, g4, g5, g6, g7, g8, g9, hs, hl⟩ := hV
  have C0 := CellsAt.new w 25 #[.int .i64 k, .bool t, .int .i64 i, .string s, .slice av l.length c, .slice kv ks.length kc]
  have B0 := Lib.hid ((Below.refl w.heap.size w).alloc (Nat.le_refl _) (.cells #[.int .i64 k, .bool t, .int .i64 i, .string s, .slice av l.length c, .slice kv ks.length kc] 25))
  have E1 := Lib.hid (varsE_of (.mk k t i s l ks))
  have E2 := Lib.hid (show varsL (.mk k t i s l ks) = if varsE (.mk k t i s l ks) = 0 then ks.zip l else [] from rfl)
  by_cases h0 : errV 16 (.mk k t i s l ks) = 0
  · rw [h0] at M
    by_cases hk : k = 5
    · subst hk
      have hE : varsE (.mk 5 t i s l ks) = 0 := by rw [E1.out, if_neg (by omega)]; rfl
      have hL : varsL (.mk 5 t i s l ks) = ks.zip l := by rw [E2.out, if_pos hE]
      have hpar := (err_parts.1 h0).1
      have hkl : ks.length = l.length := by
        have h := hpar.2.2.2.2.2.2.2.2.1 rfl
        unfold keysB at h
        simp only [Bool.and_eq_true, decide_eq_true_eq] at h
        exact h.1.1
      have hl4 : l.length ≤ 1024 := hpar.2.2.2.2.2.2.1
      rw [hE, hL]
      have hzl : (ks.zip l).length = l.length := by simp; omega
      rw [hzl]
      obtain ⟨Z, hZ⟩ : ∃ Z, Z = ks.zip l := ⟨_, rfl⟩
      rw [← hZ]
      have HZ := Lib.hid hZ
      have HKV := Lib.hid (And.intro hs (And.intro hl g9))
      have gk : ((5 : Int) != 5) = false := rfl
      have HKL := Lib.hid hkl
      have HZL := Lib.hid (show Z.length = l.length by rw [hZ]; exact hzl)
      clear hZ hs hl h0 hE hL hpar E1 E2 hzl g9 hkl
      go_enter Tryz.func24, Tryz.ntmps24
      go_wp2_with fail
      go_fit (M.out _ B0.out)
      rintro e w1 ⟨rfl, hb1⟩
      have C1 := C0.below hb1
      have B1 := Lib.hid (B0.out.trans (hb1.mono B0.out.size))
      have p0 : w1.cell? ⟨w.heap.size, 0, none⟩ = some (.int .i64 5) := C1.cell rfl
      have p5 : w1.cell? ⟨w.heap.size, 5, none⟩ = some (.slice kv ks.length kc) := C1.cell rfl
      clear hb1 C0
      have C1 := Lib.hid C1
      go_wp2_with fail
      have IN := Lib.hid (show Below w.heap.size w w1 from B1.out)
      have S0 := Lib.hid (RowO.nil w (w.heap.size + 1) m w1 Z)
      clear p0 p5
      go_loopw [5, 6] (fun s5 s6 wr => ∃ j : Nat, j ≤ l.length ∧ s6 = .int .i64 (j : Int) ∧ Hid (RowO w (w.heap.size + 1) m wr s5 Z j) ∧ Hid (CellsAt wr w.heap.size 25 #[.int .i64 5, .bool t, .int .i64 i, .string s, .slice av l.length c, .slice kv ks.length kc]) ∧ Hid (Below w.heap.size w wr)) (fun _ s6 _ => l.length - (RowKit.intOf s6).toNat)
      case atStart => exact ⟨0, by omega, rfl, S0, C1, IN⟩
      case round =>
        obtain ⟨j, hj, rfl, HW, C, HB⟩ := hrel
        clear S0 C1 IN
        have hzr := C.out.lt
        have b5 : wr.cell? ⟨w.heap.size, 5, none⟩ = some (.slice kv ks.length kc) := C.out.cell rfl
        by_cases hlt : j < l.length
        · have hjk : j < ks.length := by have := HKL.out; omega
          cases m with
          | zero => exact absurd hlt (by have h : l = [] := HKV.out.2.1; rw [h]; simp)
          | succ m =>
          obtain ⟨b, off, k1, t1, i1, s1, l1, ks1, av1, c1, kv1, kc1, h0, rfl, h2, e0, e1, e2, e3, e4, e5, r0, r1, r2, r3, r4, r5, r6, r7, r8, r9, rs, rv⟩ := HKV.out.2.1 j hlt
          obtain ⟨bk, offk, rfl, hk2, ek⟩ := HKV.out.1 j hjk
          have hksz := HKV.out.2.2 _ (List.getElem_mem hjk)
          have hZj : Z[j]? = some (ks[j], .mk k1 t1 i1 s1 l1 ks1) := by
            rw [HZ.out, List.getElem?_zip_eq_some]
            exact ⟨List.getElem?_eq_getElem hjk, h0⟩
          have p0 := (HB.out.cell (p := ⟨b, _, none⟩) h2).trans e0
          have p1 := (HB.out.cell (p := ⟨b, _, none⟩) h2).trans e1
          have p2 := (HB.out.cell (p := ⟨b, _, none⟩) h2).trans e2
          have p3 := (HB.out.cell (p := ⟨b, _, none⟩) h2).trans e3
          have p4 := (HB.out.cell (p := ⟨b, _, none⟩) h2).trans e4
          have p5 := (HB.out.cell (p := ⟨b, _, none⟩) h2).trans e5
          have pk := (HB.out.cell (p := ⟨bk, _, none⟩) hk2).trans ek
          have b4 : wr.cell? ⟨w.heap.size, 4, none⟩ = some (.slice (some ⟨b, off, none⟩) l.length c) := C.out.cell rfl
          obtain ⟨kn, hkn⟩ : ∃ kn, kn = ks[j] := ⟨_, rfl⟩
          rw [← hkn] at hZj pk hksz
          have HX := Lib.hid (show kn.length ≤ 140737488351232 ∧ (-9223372036854775808 ≤ k1 ∧ k1 ≤ 9223372036854775807) ∧ (-9223372036854775808 ≤ i1 ∧ i1 ≤ 9223372036854775807) ∧ s1.size ≤ 140737488351232 ∧ l1.length * 88 ≤ 140737488351232 ∧ l1.length ≤ c1 ∧ c1 ≤ 9223372036854775807 ∧ ks1.length * 16 ≤ 140737488351232 ∧ ks1.length ≤ kc1 ∧ kc1 ≤ 9223372036854775807 ∧ (∀ x, x ∈ ks1 → x.length ≤ 140737488351232) from ⟨hksz, r0, r1, r2, r3, r4, r5, r6, r7, r8, r9⟩)
          have HRR := Lib.hid (show ReadsStr w kv1 ks1 ∧ ReadsV (m + 1) w av1 l1 from ⟨rs, readsV_up (Nat.le_succ m) _ _ rv⟩)
          have HZJ := Lib.hid hZj
          have hjI : (j : Int) < (l.length : Int) := by omega
          have hjkI : (j : Int) < (ks.length : Int) := by omega
          have hj00 : (0 : Int) ≤ (j : Int) := by omega
          go_wp2_with fail
          clear b5
          obtain ⟨i0, hi, hq0, hq1, hq2⟩ := info_parts infoVar
          obtain ⟨xs, hown, hels⟩ := HW.out
          have HEL := Lib.hid hels
          have HO1 := Lib.hid hown.1
          have hbd : Below wr.heap.size wr wr.drew := (Below.refl _ _).drew
          obtain ⟨W2, hW2⟩ : ∃ W2, W2 = wr.drew := ⟨_, rfl⟩
          rw [← hW2] at hbd
          have HO := (own_from (w2 := W2) hown (From.of_below hbd)).alloc (.cells #[.string ⟨kn.toArray⟩, .int .i64 k1, .bool t1, .int .i64 i1, .string s1, .slice av1 l1.length c1, .slice kv1 ks1.length kc1] 55)
          have C2 := C.out.below hbd
          have B2 := Lib.hid (HB.out.trans (hbd.mono HB.out.size))
          have hb : b < wr.heap.size := World.block_lt_of_cell? wr _ p0
          have p0 := (hbd.cell (p := ⟨b, _, none⟩) hb).trans p0
          have p1 := (hbd.cell (p := ⟨b, _, none⟩) hb).trans p1
          have p2 := (hbd.cell (p := ⟨b, _, none⟩) hb).trans p2
          have p3 := (hbd.cell (p := ⟨b, _, none⟩) hb).trans p3
          have p4 := (hbd.cell (p := ⟨b, _, none⟩) hb).trans p4
          have p5 := (hbd.cell (p := ⟨b, _, none⟩) hb).trans p5
          have hbk : bk < wr.heap.size := World.block_lt_of_cell? wr _ pk
          have pk := (hbd.cell (p := ⟨bk, _, none⟩) hbk).trans pk
          have b4 : W2.cell? ⟨w.heap.size, 4, none⟩ = some (.slice (some ⟨b, off, none⟩) l.length c) := C2.cell rfl
          have b5 : W2.cell? ⟨w.heap.size, 5, none⟩ = some (.slice (some ⟨bk, offk, none⟩) ks.length kc) := C2.cell rfl
          have hz2 : w.heap.size + 1 ≤ (W2.alloc (.cells #[.string ⟨kn.toArray⟩, .int .i64 k1, .bool t1, .int .i64 i1, .string s1, .slice av1 l1.length c1, .slice kv1 ks1.length kc1] 55)).heap.size := by have := C2.lt; simp; omega
          have hm1 : j + 1 ≤ maxLen := by unfold maxLen; omega
          have hm2 : (j + 1) * 104 ≤ 140737488355328 := by omega
          rw [hW2] at HO C2 B2 p0 p1 p2 p3 p4 p5 pk b4 b5 hz2
          clear hZj hksz h0 h2 e0 e1 e2 e3 e4 e5 r0 r1 r2 r3 r4 r5 r6 r7 r8 r9 rs rv hk2 ek hkn hown hels hb hbk hbd hW2
          have C2 := Lib.hid C2
          have HO := Lib.hid HO
          go_region_law (refine step_append_lies _ rfl _ _ 35 rfl (w.heap.size + 1) 55 i0 _ 7 104 Tryz.underlying35 hi hq0 hq1 hq2 rfl (by decide) u5 j xs rfl HO.out ⟨wr.drew.heap.size, 0, none⟩ 1 1 [.string ⟨kn.toArray⟩, .int .i64 k1, .bool t1, .int .i64 i1, .string s1, .slice av1 l1.length c1, .slice kv1 ks1.length kc1] rfl rfl (World.news_of_block (heap_alloc_new _ _)) (by intro u hu; simp at hu; rcases hu with rfl | rfl | rfl | rfl | rfl | rfl | rfl <;> rfl) (by decide) hm1 hm2 hz2 _ rfl ?_; intro g3 cap3 w3 ho3 hg3 hat3 hlt3)
          all_goals
            have HR3 := Lib.hid (show RowO w (w.heap.size + 1) (m + 1) w3 (.slice (some ⟨g3, 0, none⟩) (j + 1) cap3) Z (j + 1) by
              refine ⟨_, ho3, fun q hq => ?_⟩
              by_cases hqj : q < j
              · exact elR_app (HEL.out q hqj) hqj HO1.out
              · obtain rfl : q = j := by omega
                exact elR_snoc HO1.out HZJ.out HX.out HRR.out)
            have B3 := Lib.hid ((B2.out.alloc B2.out.size _).grown hg3 (by have := B2.out.size; simp; omega) (fun k hk => by have := (HO.out.lt k hk).1; omega))
            have C3 := Lib.hid ((C2.out.alloc _).of_block (hg3.block w.heap.size (by have := C2.out.lt; simp; omega) (fun e => by have := (HO.out.lt _ e.symm).1; omega)))
            clear ho3 hg3 hat3 hlt3 HO HEL
            go_wp2_with fail
            exact ⟨⟨j + 1, by omega, by go_num, HR3, C3, B3⟩, by simp [RowKit.intOf]; omega⟩
        · obtain rfl : j = l.length := by omega
          have hjI : ¬ (l.length : Int) < (l.length : Int) := by omega
          have hjkI : ¬ (l.length : Int) < (ks.length : Int) := by have := HKL.out; omega
          obtain ⟨a, c9, rfl, h1, h2, h3⟩ := RowO.reads (l := Z) (by rw [HZL.out]; exact HW.out) HB.out
          rw [HZL.out] at h1 ⊢
          have H := Lib.hid h3
          clear h1 h2 h3
          go_wp2_with fail
          go_ret2
          exact ⟨a, ⟨c9, rfl⟩, H.out, HB.out⟩
    · have hE : varsE (.mk k t i s l ks) = 9 := by rw [E1.out, if_neg (by omega), if_neg (show ¬ (Vl.mk k t i s l ks).kind = 5 from hk)]
      have hL : varsL (.mk k t i s l ks) = [] := by rw [E2.out, if_neg (by omega)]
      rw [hE, hL]
      have g : (k != 5) = true := by simpa using hk
      clear hE hL E1 E2 hk hs hl h0 g9
      go_enter Tryz.func24, Tryz.ntmps24
      go_wp2_with fail
      go_fit (M.out _ B0.out)
      rintro e w1 ⟨rfl, hb1⟩
      have C1 := C0.below hb1
      have B1 := Lib.hid (B0.out.trans (hb1.mono B0.out.size))
      have p0 : w1.cell? ⟨w.heap.size, 0, none⟩ = some (.int .i64 k) := C1.cell rfl
      clear hb1 C0 C1
      go_wp2_with fail
      go_ret2
      exact ⟨none, 0, rfl, fun j hj => by simp at hj, B1.out⟩
  · have hE : varsE (.mk k t i s l ks) = errV 16 (.mk k t i s l ks) := by rw [E1.out, if_pos h0]
    have hL : varsL (.mk k t i s l ks) = [] := by rw [E2.out, if_neg (by rw [hE]; exact h0)]
    rw [hE, hL]
    obtain ⟨z, hz⟩ : ∃ z, z = errV 16 (.mk k t i s l ks) := ⟨_, rfl⟩
    rw [← hz] at M h0 ⊢
    have g1 : ((z : Int) != 0) = true := by rw [bne_iff_ne]; omega
    clear hE hL E1 E2 hz h0 hs hl g9
    go_enter Tryz.func24, Tryz.ntmps24
    go_wp2_with fail
    go_fit (M.out _ B0.out)
    rintro e w1 ⟨rfl, hb1⟩
    have B1 := Lib.hid (B0.out.trans (hb1.mono B0.out.size))
    clear hb1 C0
    go_wp2_with fail
    go_ret2
    exact ⟨none, 0, rfl, fun j hj => by simp at hj, B1.out⟩
/-- The cells of two entries. -/
def S14 (w : World) (b1 o1 b2 o2 : Nat) (n : ByteArray) (k : Int) (t : Bool) (i : Int) (s : ByteArray) (sl kl sl' kl' : Value) (w' : World) : Prop :=
  w'.cell? ⟨b1, o1, none⟩ = some (.string n) ∧ w'.cell? ⟨b1, o1 + 1, none⟩ = some (.int .i64 k) ∧ w'.cell? ⟨b1, o1 + 2, none⟩ = some (.bool t) ∧ w'.cell? ⟨b1, o1 + 3, none⟩ = some (.int .i64 i) ∧ w'.cell? ⟨b1, o1 + 4, none⟩ = some (.string s) ∧ w'.cell? ⟨b1, o1 + 5, none⟩ = some (sl) ∧ w'.cell? ⟨b1, o1 + 6, none⟩ = some (kl) ∧ w'.cell? ⟨b2, o2, none⟩ = some (.string n) ∧ w'.cell? ⟨b2, o2 + 1, none⟩ = some (.int .i64 k) ∧ w'.cell? ⟨b2, o2 + 2, none⟩ = some (.bool t) ∧ w'.cell? ⟨b2, o2 + 3, none⟩ = some (.int .i64 i) ∧ w'.cell? ⟨b2, o2 + 4, none⟩ = some (.string s) ∧ w'.cell? ⟨b2, o2 + 5, none⟩ = some (sl') ∧ w'.cell? ⟨b2, o2 + 6, none⟩ = some (kl') ∧ Below w.heap.size w w'
theorem S14.below {w : World} {b1 o1 b2 o2 : Nat} {n : ByteArray} {k : Int} {t : Bool} {i : Int} {s : ByteArray} {sl kl sl' kl' : Value} {w1 w2 : World} (h : S14 w b1 o1 b2 o2 n k t i s sl kl sl' kl' w1) (hb : Below w1.heap.size w1 w2) : S14 w b1 o1 b2 o2 n k t i s sl kl sl' kl' w2 := by
  obtain ⟨x0, x1, x2, x3, x4, x5, x6, y0, y1, y2, y3, y4, y5, y6, h1⟩ := h
  have z1 : b1 < w1.heap.size := World.block_lt_of_cell? w1 _ x0
  have z2 : b2 < w1.heap.size := World.block_lt_of_cell? w1 _ y0
  exact ⟨(hb.cell (p := ⟨b1, _, none⟩) z1).trans x0, (hb.cell (p := ⟨b1, _, none⟩) z1).trans x1, (hb.cell (p := ⟨b1, _, none⟩) z1).trans x2, (hb.cell (p := ⟨b1, _, none⟩) z1).trans x3, (hb.cell (p := ⟨b1, _, none⟩) z1).trans x4, (hb.cell (p := ⟨b1, _, none⟩) z1).trans x5, (hb.cell (p := ⟨b1, _, none⟩) z1).trans x6, (hb.cell (p := ⟨b2, _, none⟩) z2).trans y0, (hb.cell (p := ⟨b2, _, none⟩) z2).trans y1, (hb.cell (p := ⟨b2, _, none⟩) z2).trans y2, (hb.cell (p := ⟨b2, _, none⟩) z2).trans y3, (hb.cell (p := ⟨b2, _, none⟩) z2).trans y4, (hb.cell (p := ⟨b2, _, none⟩) z2).trans y5, (hb.cell (p := ⟨b2, _, none⟩) z2).trans y6, h1.trans (hb.mono h1.size)⟩
theorem S14.bel {w : World} {b1 o1 b2 o2 : Nat} {n : ByteArray} {k : Int} {t : Bool} {i : Int} {s : ByteArray} {sl kl sl' kl' : Value} {w1 : World} (h : S14 w b1 o1 b2 o2 n k t i s sl kl sl' kl' w1) : Below w.heap.size w w1 := by
  obtain ⟨_, _, _, _, _, _, _, _, _, _, _, _, _, _, h1⟩ := h
  exact h1
theorem S14.drew {w : World} {b1 o1 b2 o2 : Nat} {n : ByteArray} {k : Int} {t : Bool} {i : Int} {s : ByteArray} {sl kl sl' kl' : Value} {w1 : World} (h : S14 w b1 o1 b2 o2 n k t i s sl kl sl' kl' w1) : S14 w b1 o1 b2 o2 n k t i s sl kl sl' kl' w1.drew := h.below (Below.refl _ _).drew
/-- SameVars at two rows that read as the same entries. -/
theorem same_self {m : Nat} {w : World} {A B : Value} {x : Vl} (hA : IsV m w A x) (hB : IsV m w B x) :
    Calls Tryz.prog 20 #[A, B] w fun e w' => e = .returned (.bool true) ∧ Below w.heap.size w w' := by
  have h := same_any m A B x x w hA hB
  rwa [(sameV_iff m x x (fits_is hA) (fits_is hA)).2 rfl] at h
set_option maxRecDepth 100000 in
set_option maxHeartbeats 4000000 in
theorem rSameVars_eq (m : Nat) (l : List Vr) (a b : Option Addr) (ca cb : Nat) (hlen : l.length ≤ 9223372036854775000) (w : World) (ha : ReadsR m w a l) (hb : ReadsR m w b l) :
    Calls Tryz.prog 29 #[.slice a l.length ca, .slice b l.length cb] w fun e w' => e = .returned (.bool true) ∧ Below w.heap.size w w' := by
  have HA := Lib.hid ha
  have HB' := Lib.hid hb
  clear ha hb
  go_enter Tryz.func29, Tryz.ntmps29
  go_wp2_with fail
  go_loopw [5] (fun s5 wr => ∃ j : Nat, j ≤ l.length ∧ s5 = .int .i64 (j : Int) ∧ Hid (Below w.heap.size w wr)) (fun s5 _ => l.length - (RowKit.intOf s5).toNat)
  case atStart => exact ⟨0, by omega, rfl, Lib.hid (Below.refl _ _)⟩
  case round =>
    obtain ⟨j, hj, rfl, HB⟩ := hrel
    by_cases hlt : j < l.length
    · obtain ⟨b1, off1, n, k, t, i, s, l', ks, av, c, kv, kc, h0, rfl, h2, c0, c1, c2, c3, c4, c5, c6, g, g0, g1, g2, g3, g4, g5, g6, g7, g8, g9, hs, hl⟩ := HA.out j hlt
      obtain ⟨b2, off2, n', k', t', i', s', l'', ks', av', c', kv', kc', h0', rfl, h2', d0, d1, d2, d3, d4, d5, d6, q, q0, q1, q2, q3, q4, q5, q6, q7, q8, q9, hs', hl'⟩ := HB'.out j hlt
      rw [h0] at h0'
      injection h0' with h0'
      injection h0' with e1 e2
      injection e2 with e3 e4 e5 e6 e7 e8
      subst e1 e3 e4 e5 e6 e7 e8
      have SM := Lib.hid (fun w' (hb : Below w.heap.size w w') => same_self (IsV.below (w := w) ⟨k, t, i, s, l', ks, av, c, kv, kc, rfl, rfl, g0, g1, g2, g3, g4, g5, g6, g7, g8, g9, hs, hl⟩ hb) (IsV.below (w := w) ⟨k, t, i, s, l', ks, av', c', kv', kc', rfl, rfl, q0, q1, q2, q3, q4, q5, q6, q7, q8, q9, hs', hl'⟩ hb))
      have p0 := (HB.out.cell (p := ⟨b1, _, none⟩) h2).trans c0
      have p1 := (HB.out.cell (p := ⟨b1, _, none⟩) h2).trans c1
      have p2 := (HB.out.cell (p := ⟨b1, _, none⟩) h2).trans c2
      have p3 := (HB.out.cell (p := ⟨b1, _, none⟩) h2).trans c3
      have p4 := (HB.out.cell (p := ⟨b1, _, none⟩) h2).trans c4
      have p5 := (HB.out.cell (p := ⟨b1, _, none⟩) h2).trans c5
      have p6 := (HB.out.cell (p := ⟨b1, _, none⟩) h2).trans c6
      have y0 := (HB.out.cell (p := ⟨b2, _, none⟩) h2').trans d0
      have y1 := (HB.out.cell (p := ⟨b2, _, none⟩) h2').trans d1
      have y2 := (HB.out.cell (p := ⟨b2, _, none⟩) h2').trans d2
      have y3 := (HB.out.cell (p := ⟨b2, _, none⟩) h2').trans d3
      have y4 := (HB.out.cell (p := ⟨b2, _, none⟩) h2').trans d4
      have y5 := (HB.out.cell (p := ⟨b2, _, none⟩) h2').trans d5
      have y6 := (HB.out.cell (p := ⟨b2, _, none⟩) h2').trans d6
      obtain ⟨nm, hnm⟩ : ∃ nm : ByteArray, nm = ⟨n.toArray⟩ := ⟨_, rfl⟩
      rw [← hnm] at p0 y0
      have hq : (nm.toList == nm.toList) = true := beq_self_eq_true _
      have hjI : (j : Int) < (l.length : Int) := by omega
      have hj0 : (0 : Int) ≤ (j : Int) := by omega
      clear c0 c1 c2 c3 c4 c5 c6 d0 d1 d2 d3 d4 d5 d6 g g0 g1 g2 g3 g4 g5 g6 g7 g8 g9 q q0 q1 q2 q3 q4 q5 q6 q7 q8 q9 hs hl hs' hl' h0 h2 h2' hnm
      have hs0 : S14 w b1 (off1 + j * 7) b2 (off2 + j * 7) nm k t i s (.slice av l'.length c) (.slice kv ks.length kc) (.slice av' l'.length c') (.slice kv' ks.length kc') wr := ⟨p0, p1, p2, p3, p4, p5, p6, y0, y1, y2, y3, y4, y5, y6, HB.out⟩
      have hn : (!(nm.toList == nm.toList)) = false := by rw [hq]; rfl
      clear p0 p1 p2 p3 p4 p5 p6 y0 y1 y2 y3 y4 y5 y6
      go_wp2_with fail
      go_region_held3 (fun w' => w'.cell? ⟨b1, off1 + j * 7, none⟩ = some (.string nm) ∧ w'.cell? ⟨b1, off1 + j * 7 + 1, none⟩ = some (.int .i64 k) ∧ w'.cell? ⟨b1, off1 + j * 7 + 2, none⟩ = some (.bool t) ∧ w'.cell? ⟨b1, off1 + j * 7 + 3, none⟩ = some (.int .i64 i) ∧ w'.cell? ⟨b1, off1 + j * 7 + 4, none⟩ = some (.string s) ∧ w'.cell? ⟨b1, off1 + j * 7 + 5, none⟩ = some (.slice av l'.length c) ∧ w'.cell? ⟨b1, off1 + j * 7 + 6, none⟩ = some (.slice kv ks.length kc) ∧ w'.cell? ⟨b2, off2 + j * 7, none⟩ = some (.string nm) ∧ w'.cell? ⟨b2, off2 + j * 7 + 1, none⟩ = some (.int .i64 k) ∧ w'.cell? ⟨b2, off2 + j * 7 + 2, none⟩ = some (.bool t) ∧ w'.cell? ⟨b2, off2 + j * 7 + 3, none⟩ = some (.int .i64 i) ∧ w'.cell? ⟨b2, off2 + j * 7 + 4, none⟩ = some (.string s) ∧ w'.cell? ⟨b2, off2 + j * 7 + 5, none⟩ = some (.slice av' l'.length c') ∧ w'.cell? ⟨b2, off2 + j * 7 + 6, none⟩ = some (.slice kv' ks.length kc') ∧ Below w.heap.size w w') (first | exact S14.drew hs0 | exact S14.below (by assumption) (by assumption)) (first | (go_at_call 20; go_fit (SM.out _ (S14.bel (by assumption))); rintro e w1 ⟨rfl, hb1⟩))
      have hf : S14 w b1 (off1 + j * 7) b2 (off2 + j * 7) nm k t i s (.slice av l'.length c) (.slice kv ks.length kc) (.slice av' l'.length c') (.slice kv' ks.length kc') w1 := by assumption
      have HB1 := Lib.hid hf.bel
      clear hf hs0
      go_wp2_with fail
      exact ⟨⟨j + 1, by omega, by go_num, HB1⟩, by simp [RowKit.intOf]; omega⟩
    · obtain rfl : j = l.length := by omega
      have hjI : ¬ (l.length : Int) < (l.length : Int) := by omega
      clear hlt
      go_wp2_with fail
      go_ret
      exact ⟨rfl, HB.out⟩
end Go.Proofs.YtabopneehhnhfaaGreatDoor
