/- The document's with (pipelineref07). -/
import Derived.Test.YtabopneehhnhfaaGreatDoorVluD
namespace Go.Proofs.YtabopneehhnhfaaGreatDoor
open Go.RowKit Go.Lib

set_option maxRecDepth 100000 in
set_option maxHeartbeats 16000000 in
theorem rWith_any (m : Nat) (l : List Vr) (p : Vr) (av kv : Option Addr) (c kc : Nat) (X : Value) (wb w : World) (hs : ReadsStr w kv (l.map (·.1))) (hr : RowAt wb w m av (l.map (·.2))) (g9 : ∀ x, x ∈ l.map (·.1) → x.length ≤ 140737488351232) (hX : IsR m wb X p) (hl : l.length < 1024) :
    Calls Tryz.prog 50 #[.agg #[.int .i64 5, .bool false, .int .i64 0, .string ⟨#[]⟩, .slice av (l.map (·.2)).length c, .slice kv (l.map (·.1)).length kc], X] w fun e w' => ∃ a c' k kc', e = .returned (.agg #[.int .i64 5, .bool false, .int .i64 0, .string ⟨#[]⟩, .slice a (insM p l).length c', .slice k (insM p l).length kc']) ∧
      (insM p l).length ≤ c' ∧ c' ≤ 9223372036854775807 ∧ (insM p l).length ≤ kc' ∧ kc' ≤ 9223372036854775807 ∧ (∀ w2, From w.heap.size w' w2 → ReadsStr w2 k ((insM p l).map (·.1)) ∧ RowAt wb w2 m a ((insM p l).map (·.2))) ∧ Below w.heap.size w w' := by
  obtain ⟨pn, pk, pt, pi, ps, pl, pks, pav, pc, pkv, pkc, rfl, rfl, hpn, hpV⟩ := hX
  obtain ⟨_, _, _, _, _, _, _, _, _, _, ex, ey, x0, x1, x2, x3, x4, x5, x6, x7, x8, x9, xs, xr⟩ := hpV
  injection ex with e1 e2 e3 e4 e5 e6
  subst e1 e2 e3 e4 e5 e6
  injection ey with ey
  simp only [Array.mk.injEq, List.cons.injEq, and_true, Value.slice.injEq, true_and] at ey
  obtain ⟨⟨rfl, rfl⟩, rfl, rfl⟩ := ey
  have hkl : (l.map (·.1)).length = l.length := List.length_map _
  have hll : (l.map (·.2)).length = l.length := List.length_map _
  have HKK := Lib.hid (show ∀ j n x, l[j]? = some (n, x) → (l.map (·.1))[j]? = some n ∧ (l.map (·.2))[j]? = some x from fun j n x h => by rw [List.getElem?_map, List.getElem?_map, h]; exact ⟨rfl, rfl⟩)
  have HMM := Lib.hid (show ∀ p : Vr, p ∈ l → p.1 ∈ l.map (·.1) from fun p hp => List.mem_map.2 ⟨p, hp, rfl⟩)
  generalize l.map (·.1) = Ks at *
  generalize l.map (·.2) = Ls at *
  obtain ⟨W3, hW3⟩ : ∃ W3, W3 = (((w.alloc (.cells #[.int .i64 5, .bool false, .int .i64 0, .string ⟨#[]⟩, .slice av Ls.length c, .slice kv Ks.length kc] 25)).alloc (.cells #[.string ⟨pn.toArray⟩, .int .i64 pk, .bool pt, .int .i64 pi, .string ps, .slice pav pl.length pc, .slice pkv pks.length pkc] 55)).alloc (.cells #[.int .i64 0, .bool false, .int .i64 0, .string ⟨#[]⟩, .slice none 0 0, .slice none 0 0] 25)) := ⟨_, rfl⟩
  have B3 : Below w.heap.size w W3 := by rw [hW3]; exact (((Below.refl _ _).alloc (Nat.le_refl _) _).alloc (by simp) _).alloc (by simp <;> omega) _
  have C3 : CellsAt W3 w.heap.size 25 #[.int .i64 5, .bool false, .int .i64 0, .string ⟨#[]⟩, .slice av Ls.length c, .slice kv Ks.length kc] := by rw [hW3]; exact ((CellsAt.new w _ _).alloc _).alloc _
  have X3 : CellsAt W3 (w.heap.size + 1) 55 #[.string ⟨pn.toArray⟩, .int .i64 pk, .bool pt, .int .i64 pi, .string ps, .slice pav pl.length pc, .slice pkv pks.length pkc] := by
    have h := (CellsAt.new (w.alloc (.cells #[.int .i64 5, .bool false, .int .i64 0, .string ⟨#[]⟩, .slice av Ls.length c, .slice kv Ks.length kc] 25)) 55 #[.string ⟨pn.toArray⟩, .int .i64 pk, .bool pt, .int .i64 pi, .string ps, .slice pav pl.length pc, .slice pkv pks.length pkc]).alloc (.cells #[.int .i64 0, .bool false, .int .i64 0, .string ⟨#[]⟩, .slice none 0 0, .slice none 0 0] 25)
    simp only [World.size_alloc] at h
    rw [hW3]; exact h
  have Z3 : CellsAt W3 (w.heap.size + 1 + 1) 25 #[.int .i64 0, .bool false, .int .i64 0, .string ⟨#[]⟩, .slice none 0 0, .slice none 0 0] := by
    have h := CellsAt.new ((w.alloc (.cells #[.int .i64 5, .bool false, .int .i64 0, .string ⟨#[]⟩, .slice av Ls.length c, .slice kv Ks.length kc] 25)).alloc (.cells #[.string ⟨pn.toArray⟩, .int .i64 pk, .bool pt, .int .i64 pi, .string ps, .slice pav pl.length pc, .slice pkv pks.length pkc] 55)) 25 #[.int .i64 0, .bool false, .int .i64 0, .string ⟨#[]⟩, .slice none 0 0, .slice none 0 0]
    simp only [World.size_alloc] at h
    rw [hW3]; exact h
  have hsz : W3.heap.size = w.heap.size + 1 + 1 + 1 := by rw [hW3]; simp
  have HK := Lib.hid hs
  have HL := Lib.hid hr
  have HPG := Lib.hid (show (-9223372036854775808 ≤ pk ∧ pk ≤ 9223372036854775807) ∧ (-9223372036854775808 ≤ pi ∧ pi ≤ 9223372036854775807) ∧ ps.size ≤ 140737488351232 ∧ pl.length * 88 ≤ 140737488351232 ∧ pl.length ≤ pc ∧ pc ≤ 9223372036854775807 ∧ pks.length * 16 ≤ 140737488351232 ∧ pks.length ≤ pkc ∧ pkc ≤ 9223372036854775807 ∧ (∀ x, x ∈ pks → x.length ≤ 140737488351232) from ⟨x0, x1, x2, x3, x4, x5, x6, x7, x8, x9⟩)
  have HPR := Lib.hid (show ReadsStr wb pkv pks ∧ ReadsV m wb pav pl from ⟨xs, xr⟩)
  have HPN := Lib.hid hpn
  have HG9 := Lib.hid g9
  have B3 := Lib.hid B3
  have C3 := Lib.hid C3
  have X3 := Lib.hid X3
  have Z3 := Lib.hid Z3
  have O0 := Lib.hid (OutS.new wb W3 m)
  have HP := Lib.hid (show ∃ p : Vr, p = (pn, .mk pk pt pi ps pl pks) from ⟨_, rfl⟩)
  have HLN := Lib.hid (And.intro hkl hll)
  have hKn : Ks.length < 1024 := by omega
  clear x0 x1 x2 x3 x4 x5 x6 x7 x8 x9 xs xr hs hr hpn g9 HP hkl hll
  go_enter Tryz.func50, Tryz.ntmps50
  go_wp2_with fail
  rw [← hW3, ← hsz]
  clear hW3
  have HSZ := Lib.hid hsz
  obtain ⟨n1, hn1⟩ : ∃ n1, n1 = w.heap.size + 1 := ⟨_, rfl⟩
  obtain ⟨n2, hn2⟩ : ∃ n2, n2 = w.heap.size + 1 + 1 := ⟨_, rfl⟩
  obtain ⟨n0, hn0⟩ : ∃ n0, n0 = w.heap.size := ⟨_, rfl⟩
  have HNN := Lib.hid (show n0 < W3.heap.size ∧ n1 < W3.heap.size ∧ n2 < W3.heap.size ∧ n0 = w.heap.size ∧ n2 = w.heap.size + 1 + 1 by omega)
  rw [← hn2] at Z3 ⊢
  rw [← hn1] at X3 ⊢
  rw [← hn0] at C3 ⊢
  clear hn0 hn1 hn2 hsz
  go_loopw [6, 7] (fun s6 s7 wr => ∃ (j : Nat) (A : List Vr) (KA : List (List UInt8)) (LA : List Vl) (d : Bool) (kA lA : Value), j ≤ Ks.length ∧ s7 = .int .i64 (j : Int) ∧ s6 = .bool d ∧ KA.length ≤ j + 1 ∧ LA.length ≤ j + 1 ∧ (d = false → KA.length ≤ j ∧ LA.length ≤ j) ∧ Hid (KA = A.map (·.1) ∧ LA = A.map (·.2)) ∧ Hid (insM (pn, .mk pk pt pi ps pl pks) l = A ++ (if d = true then l.drop j else insM (pn, .mk pk pt pi ps pl pks) (l.drop j))) ∧ Hid (OutS wb W3 wr m KA LA kA lA)) (fun _ s7 _ => Ks.length - (RowKit.intOf s7).toNat)
  case atStart => exact ⟨0, [], [], [], false, .slice none 0 0, .slice none 0 0, by omega, rfl, rfl, by simp, by simp, fun _ => ⟨by simp, by simp⟩, Lib.hid ⟨rfl, rfl⟩, Lib.hid (by simp), O0⟩
  case round =>
    obtain ⟨j, A, KA, LA, d, kA, lA, hj, rfl, rfl, hKA, hLA, hKL0, HKL, HE, HO⟩ := hrel
    clear O0
    have CC := C3.out.below HO.out.bel
    have XX := X3.out.below HO.out.bel
    have b4 : wr.cell? ⟨n0, 4, none⟩ = some (.slice av Ls.length c) := CC.cell rfl
    have b5 : wr.cell? ⟨n0, 5, none⟩ = some (.slice kv Ks.length kc) := CC.cell rfl
    have x0 : wr.cell? ⟨n1, 0, none⟩ = some (.string ⟨pn.toArray⟩) := XX.cell rfl
    have x1 : wr.cell? ⟨n1, 1, none⟩ = some (.int .i64 pk) := XX.cell rfl
    have x2 : wr.cell? ⟨n1, 2, none⟩ = some (.bool pt) := XX.cell rfl
    have x3 : wr.cell? ⟨n1, 3, none⟩ = some (.int .i64 pi) := XX.cell rfl
    have x4 : wr.cell? ⟨n1, 4, none⟩ = some (.string ps) := XX.cell rfl
    have x5 : wr.cell? ⟨n1, 5, none⟩ = some (.slice pav pl.length pc) := XX.cell rfl
    have x6 : wr.cell? ⟨n1, 6, none⟩ = some (.slice pkv pks.length pkc) := XX.cell rfl
    have o4 := HO.out.box.cell (k := 4) rfl
    have o5 := HO.out.box.cell (k := 5) rfl
    clear CC XX
    by_cases hlt : j < Ks.length
    · have hjl : j < Ls.length := by have := HLN.out; omega
      obtain ⟨b, off, k1, t1, i1, s1, l1, ks1, av1, c1, kv1, kc1, h0, rfl, h2, e0, e1, e2, e3, e4, e5, r0, r1, r2, r3, r4, r5, r6, r7, r8, r9, rs, rv⟩ := HL.out j hjl
      obtain ⟨bk, offk, rfl, hk2, ek⟩ := HK.out j hlt
      have hkI : (j : Int) < (Ks.length : Int) := by omega
      have hlI : (j : Int) < (Ls.length : Int) := by omega
      have hj0 : (0 : Int) ≤ (j : Int) := by omega
      have hjl0 : j < l.length := by have := HLN.out; omega
      have HB := Lib.hid (And.intro h2 (And.intro e0 (And.intro e1 (And.intro e2 (And.intro e3 (And.intro e4 e5))))))
      obtain ⟨q, hq⟩ : ∃ q, l[j]? = some q := ⟨_, List.getElem?_eq_getElem hjl0⟩
      obtain ⟨kn, qx⟩ := q
      obtain ⟨hkn, hqx⟩ := HKK.out j kn qx hq
      rw [h0] at hqx
      injection hqx with hqx
      subst hqx
      have hknj : Ks[j] = kn := by
        have h := List.getElem?_eq_getElem hlt
        rw [hkn] at h
        exact (Option.some.inj h).symm
      rw [hknj] at ek
      have hknl : kn.length ≤ 140737488351232 := HG9.out kn (by rw [← hknj]; exact List.getElem_mem hlt)
      have HBK := Lib.hid (And.intro hk2 ek)
      have HVG := Lib.hid (show (-9223372036854775808 ≤ k1 ∧ k1 ≤ 9223372036854775807) ∧ (-9223372036854775808 ≤ i1 ∧ i1 ≤ 9223372036854775807) ∧ s1.size ≤ 140737488351232 ∧ l1.length * 88 ≤ 140737488351232 ∧ l1.length ≤ c1 ∧ c1 ≤ 9223372036854775807 ∧ ks1.length * 16 ≤ 140737488351232 ∧ ks1.length ≤ kc1 ∧ kc1 ≤ 9223372036854775807 ∧ (∀ x, x ∈ ks1 → x.length ≤ 140737488351232) from ⟨r0, r1, r2, r3, r4, r5, r6, r7, r8, r9⟩)
      have HVR := Lib.hid (show ReadsStr wb kv1 ks1 ∧ ReadsV m wb av1 l1 from ⟨rs, rv⟩)
      have hdr : l.drop j = (kn, .mk k1 t1 i1 s1 l1 ks1) :: l.drop (j + 1) := by
        have h := List.getElem?_eq_getElem hjl0
        rw [hq] at h
        rw [List.drop_eq_getElem_cons hjl0, ← Option.some.inj h]
      have HST := Lib.hid (ins_step (pn, .mk pk pt pi ps pl pks) (kn, .mk k1 t1 i1 s1 l1 ks1) A (l.drop (j + 1)) l d (by rw [← hdr]; exact HE.out))
      clear b4 b5 h0 h2 e0 e1 e2 e3 e4 e5 r0 r1 r2 r3 r4 r5 r6 r7 r8 r9 rs rv hk2 ek hq hkn hdr hknj o4 o5 x0 x1 x2 x3 x4 x5 x6
      have CC := C3.out.below HO.out.bel
      have XX := X3.out.below HO.out.bel
      have b4 : wr.cell? ⟨n0, 4, none⟩ = some (.slice (some ⟨b, off, none⟩) Ls.length c) := CC.cell rfl
      have b5 : wr.cell? ⟨n0, 5, none⟩ = some (.slice (some ⟨bk, offk, none⟩) Ks.length kc) := CC.cell rfl
      have x0 : wr.cell? ⟨n1, 0, none⟩ = some (.string ⟨pn.toArray⟩) := XX.cell rfl
      have x1 : wr.cell? ⟨n1, 1, none⟩ = some (.int .i64 pk) := XX.cell rfl
      have x2 : wr.cell? ⟨n1, 2, none⟩ = some (.bool pt) := XX.cell rfl
      have x3 : wr.cell? ⟨n1, 3, none⟩ = some (.int .i64 pi) := XX.cell rfl
      have x4 : wr.cell? ⟨n1, 4, none⟩ = some (.string ps) := XX.cell rfl
      have x5 : wr.cell? ⟨n1, 5, none⟩ = some (.slice pav pl.length pc) := XX.cell rfl
      have x6 : wr.cell? ⟨n1, 6, none⟩ = some (.slice pkv pks.length pkc) := XX.cell rfl
      have BW := B3.out.trans (HO.out.bel.mono B3.out.size)
      have y0 := (BW.cell (p := ⟨b, _, none⟩) HB.out.1).trans HB.out.2.1
      have y1 := (BW.cell (p := ⟨b, _, none⟩) HB.out.1).trans HB.out.2.2.1
      have y2 := (BW.cell (p := ⟨b, _, none⟩) HB.out.1).trans HB.out.2.2.2.1
      have y3 := (BW.cell (p := ⟨b, _, none⟩) HB.out.1).trans HB.out.2.2.2.2.1
      have y4 := (BW.cell (p := ⟨b, _, none⟩) HB.out.1).trans HB.out.2.2.2.2.2.1
      have y5 := (BW.cell (p := ⟨b, _, none⟩) HB.out.1).trans HB.out.2.2.2.2.2.2
      have yk := (BW.cell (p := ⟨bk, _, none⟩) HBK.out.1).trans HBK.out.2
      clear BW
      have o4 := HO.out.box.cell (k := 4) rfl
      have o5 := HO.out.box.cell (k := 5) rfl
      clear CC XX
      have FC := Lib.hid (fun w => refCompare_any ⟨pn.toArray⟩ ⟨kn.toArray⟩ (by rw [mkS_size]; exact HPN.out) (by rw [mkS_size]; exact hknl) w)
      simp only at FC
      have HNN2 := HNN
      cases d with
      | true =>
        clear hKL0
        go_upto_region 6 with fail
        go_quiet (fail)
        have ON := Lib.hid (HO.out.below (below_drewN (Below.refl wr.heap.size wr) nq))
        clear b4 b5 x0 x1 x2 x3 x4 x5 x6 y0 y1 y2 y3 y4 y5 yk o4 o5
        obtain ⟨WN, hWN⟩ : ∃ WN, WN = wr.drewN nq := ⟨_, rfl⟩
        rw [← hWN] at ON ⊢
        clear hWN HO
        go_upto_region 10 with fail
        go_cut [] (fun wx => ∃ kB, Hid (OutS wb W3 wx m (KA ++ [kn]) LA kB lA))
        case first =>
          have hbd : Below WN.heap.size WN WN.drew := (Below.refl _ _).drew
          have OD := ON.out.below hbd
          have CC := C3.out.below OD.bel
          have XX := X3.out.below OD.bel
          have b4 : WN.drew.cell? ⟨n0, 4, none⟩ = some (.slice (some ⟨b, off, none⟩) Ls.length c) := CC.cell rfl
          have b5 : WN.drew.cell? ⟨n0, 5, none⟩ = some (.slice (some ⟨bk, offk, none⟩) Ks.length kc) := CC.cell rfl
          have x0 : WN.drew.cell? ⟨n1, 0, none⟩ = some (.string ⟨pn.toArray⟩) := XX.cell rfl
          have x1 : WN.drew.cell? ⟨n1, 1, none⟩ = some (.int .i64 pk) := XX.cell rfl
          have x2 : WN.drew.cell? ⟨n1, 2, none⟩ = some (.bool pt) := XX.cell rfl
          have x3 : WN.drew.cell? ⟨n1, 3, none⟩ = some (.int .i64 pi) := XX.cell rfl
          have x4 : WN.drew.cell? ⟨n1, 4, none⟩ = some (.string ps) := XX.cell rfl
          have x5 : WN.drew.cell? ⟨n1, 5, none⟩ = some (.slice pav pl.length pc) := XX.cell rfl
          have x6 : WN.drew.cell? ⟨n1, 6, none⟩ = some (.slice pkv pks.length pkc) := XX.cell rfl
          have BW := B3.out.trans (OD.bel.mono B3.out.size)
          have y0 := (BW.cell (p := ⟨b, _, none⟩) HB.out.1).trans HB.out.2.1
          have y1 := (BW.cell (p := ⟨b, _, none⟩) HB.out.1).trans HB.out.2.2.1
          have y2 := (BW.cell (p := ⟨b, _, none⟩) HB.out.1).trans HB.out.2.2.2.1
          have y3 := (BW.cell (p := ⟨b, _, none⟩) HB.out.1).trans HB.out.2.2.2.2.1
          have y4 := (BW.cell (p := ⟨b, _, none⟩) HB.out.1).trans HB.out.2.2.2.2.2.1
          have y5 := (BW.cell (p := ⟨b, _, none⟩) HB.out.1).trans HB.out.2.2.2.2.2.2
          have yk := (BW.cell (p := ⟨bk, _, none⟩) HBK.out.1).trans HBK.out.2
          clear BW
          have o4 := OD.box.cell (k := 4) rfl
          have o5 := OD.box.cell (k := 5) rfl
          clear CC XX
          obtain ⟨i0, hi, hq0, hq1, hq2⟩ := info_parts infoStr
          have HOA := Lib.hid (OD.keys.alloc (.cells #[.string ⟨kn.toArray⟩] 9))
          have NW := World.news_of_block (heap_alloc_new WN.drew (.cells #[.string ⟨kn.toArray⟩] 9))
          have hzs : W3.heap.size + 1 ≤ (WN.drew.alloc (.cells #[.string ⟨kn.toArray⟩] 9)).heap.size := by have := OD.box.lt; simp at this ⊢; omega
          have o5a := (ON.out.box.alloc (.cells #[.string ⟨kn.toArray⟩] 9)).cell (k := 5) rfl
          have hm1 : KA.length + 1 ≤ maxLen := by unfold maxLen; omega
          have hm2 : (KA.length + 1) * 16 ≤ 140737488355328 := by omega
          have HOD := Lib.hid OD
          clear OD hbd
          go_region_law (refine step_append_lies _ rfl _ _ 23 rfl (W3.heap.size + 1) 9 i0 _ 1 16 Tryz.underlying23 hi hq0 hq1 hq2 rfl (by decide) kA KA.length _ rfl HOA.out ⟨WN.drew.heap.size, 0, none⟩ 1 1 [.string ⟨kn.toArray⟩] rfl rfl NW (by intro u hu; simp at hu; subst hu; rfl) (by decide) hm1 hm2 hzs _ rfl ?_; intro gk capk wk hok hgk hatk hltk; obtain ⟨hbx, hO⟩ := HOD.out.key (n := kn) hok hgk; have f5 := hbx.frozen 5; have z5 := hbx.cell (k := 5) rfl)
          all_goals
            go_wp2_with fail
            go_meet
            exact ⟨_, Lib.hid hO⟩
        case rest =>
        obtain ⟨kB, HOC⟩ := hcut
        go_upto_region 11 with fail
        have hbd : Below wc.heap.size wc wc.drew := (Below.refl _ _).drew
        have OD := HOC.out.below hbd
        have CC := C3.out.below OD.bel
        have XX := X3.out.below OD.bel
        have b4 : wc.drew.cell? ⟨n0, 4, none⟩ = some (.slice (some ⟨b, off, none⟩) Ls.length c) := CC.cell rfl
        have b5 : wc.drew.cell? ⟨n0, 5, none⟩ = some (.slice (some ⟨bk, offk, none⟩) Ks.length kc) := CC.cell rfl
        have x0 : wc.drew.cell? ⟨n1, 0, none⟩ = some (.string ⟨pn.toArray⟩) := XX.cell rfl
        have x1 : wc.drew.cell? ⟨n1, 1, none⟩ = some (.int .i64 pk) := XX.cell rfl
        have x2 : wc.drew.cell? ⟨n1, 2, none⟩ = some (.bool pt) := XX.cell rfl
        have x3 : wc.drew.cell? ⟨n1, 3, none⟩ = some (.int .i64 pi) := XX.cell rfl
        have x4 : wc.drew.cell? ⟨n1, 4, none⟩ = some (.string ps) := XX.cell rfl
        have x5 : wc.drew.cell? ⟨n1, 5, none⟩ = some (.slice pav pl.length pc) := XX.cell rfl
        have x6 : wc.drew.cell? ⟨n1, 6, none⟩ = some (.slice pkv pks.length pkc) := XX.cell rfl
        have BW := B3.out.trans (OD.bel.mono B3.out.size)
        have y0 := (BW.cell (p := ⟨b, _, none⟩) HB.out.1).trans HB.out.2.1
        have y1 := (BW.cell (p := ⟨b, _, none⟩) HB.out.1).trans HB.out.2.2.1
        have y2 := (BW.cell (p := ⟨b, _, none⟩) HB.out.1).trans HB.out.2.2.2.1
        have y3 := (BW.cell (p := ⟨b, _, none⟩) HB.out.1).trans HB.out.2.2.2.2.1
        have y4 := (BW.cell (p := ⟨b, _, none⟩) HB.out.1).trans HB.out.2.2.2.2.2.1
        have y5 := (BW.cell (p := ⟨b, _, none⟩) HB.out.1).trans HB.out.2.2.2.2.2.2
        have yk := (BW.cell (p := ⟨bk, _, none⟩) HBK.out.1).trans HBK.out.2
        clear BW
        have o4 := OD.box.cell (k := 4) rfl
        have o5 := OD.box.cell (k := 5) rfl
        clear CC XX
        obtain ⟨i9, hi9, hq90, hq91, hq92⟩ := info_parts infoVal
        obtain ⟨ys, hy, hel⟩ := OD.vals
        have HOA := Lib.hid (hy.alloc (.cells #[.int .i64 k1, .bool t1, .int .i64 i1, .string s1, .slice av1 l1.length c1, .slice kv1 ks1.length kc1] 25))
        have NW := World.news_of_block (heap_alloc_new wc.drew (.cells #[.int .i64 k1, .bool t1, .int .i64 i1, .string s1, .slice av1 l1.length c1, .slice kv1 ks1.length kc1] 25))
        have hzs : W3.heap.size + 1 ≤ (wc.drew.alloc (.cells #[.int .i64 k1, .bool t1, .int .i64 i1, .string s1, .slice av1 l1.length c1, .slice kv1 ks1.length kc1] 25)).heap.size := by have := OD.box.lt; simp at this ⊢; omega
        have o4a := (HOC.out.box.alloc (.cells #[.int .i64 k1, .bool t1, .int .i64 i1, .string s1, .slice av1 l1.length c1, .slice kv1 ks1.length kc1] 25)).cell (k := 4) rfl
        have hm1 : LA.length + 1 ≤ maxLen := by unfold maxLen; omega
        have hm2 : (LA.length + 1) * 88 ≤ 140737488355328 := by omega
        have HOD := Lib.hid OD
        have HY := Lib.hid (And.intro hy hel)
        clear OD hbd hy hel
        have HEN := Lib.hid (show insM (pn, Vl.mk pk pt pi ps pl pks) l = A ++ [(kn, Vl.mk k1 t1 i1 s1 l1 ks1)] ++ (if true = true then l.drop (j + 1) else insM (pn, Vl.mk pk pt pi ps pl pks) (l.drop (j + 1))) by have h := HST.out; simpa using h)
        have hn1 : (KA ++ [kn]).length ≤ j + 1 + 1 := by rw [List.length_append, List.length_singleton]; omega
        have hn2 : (LA ++ [Vl.mk k1 t1 i1 s1 l1 ks1]).length ≤ j + 1 + 1 := by rw [List.length_append, List.length_singleton]; omega
        have HKE := Lib.hid (show KA ++ [kn] = (A ++ [(kn, Vl.mk k1 t1 i1 s1 l1 ks1)]).map (·.1) ∧ LA ++ [Vl.mk k1 t1 i1 s1 l1 ks1] = (A ++ [(kn, Vl.mk k1 t1 i1 s1 l1 ks1)]).map (·.2) by
          rw [HKL.out.1, HKL.out.2]
          simp)
        go_region_law (refine step_append_lies _ rfl _ _ 22 rfl (W3.heap.size + 1) 25 i9 _ 6 88 Tryz.underlying22 hi9 hq90 hq91 hq92 rfl (by decide) lA LA.length ys rfl HOA.out ⟨wc.drew.heap.size, 0, none⟩ 1 1 [.int .i64 k1, .bool t1, .int .i64 i1, .string s1, .slice av1 l1.length c1, .slice kv1 ks1.length kc1] rfl rfl NW (by intro u hu; simp at hu; rcases hu with rfl | rfl | rfl | rfl | rfl | rfl <;> rfl) (by decide) hm1 hm2 hzs _ rfl ?_; intro gk capk wk hok hgk hatk hltk; obtain ⟨hbx, hO⟩ := HOD.out.val (t1 := t1) HY.out.1 HY.out.2 HVG.out HVR.out hok hgk; have f4 := hbx.frozen 4; have z4 := hbx.cell (k := 4) rfl)
        all_goals
          go_wp2_with fail
          exact ⟨⟨j + 1, A ++ [(kn, Vl.mk k1 t1 i1 s1 l1 ks1)], KA ++ [kn], LA ++ [Vl.mk k1 t1 i1 s1 l1 ks1], true, kB, .slice (some ⟨gk, 0, none⟩) (LA.length + 1) capk, by omega, by go_num, rfl, hn1, hn2, (fun h => Bool.noConfusion h), HKE, HEN, Lib.hid hO⟩, by simp [RowKit.intOf]; omega⟩
      | false =>
        obtain ⟨hKA, hLA⟩ := hKL0 rfl
        obtain ⟨cq, hcq⟩ : ∃ cq, cq = cmpL pn kn := ⟨_, rfl⟩
        rw [← hcq] at FC
        have HCQ := Lib.hid hcq
        clear hcq
        by_cases hlt0 : cq < 0
        · go_upto_region 6 with fail
          go_quiet (first | (go_at_call 61; exact Calls.quiet_of (FC.out _)))
          have ON := Lib.hid (HO.out.below (below_drewN (Below.refl wr.heap.size wr) nq))
          clear b4 b5 x0 x1 x2 x3 x4 x5 x6 y0 y1 y2 y3 y4 y5 yk o4 o5
          obtain ⟨WN, hWN⟩ : ∃ WN, WN = wr.drewN nq := ⟨_, rfl⟩
          rw [← hWN] at ON ⊢
          clear hWN HO
          go_upto_region 7 with fail
          have CC := C3.out.below ON.out.bel
          have XX := X3.out.below ON.out.bel
          have b4 : WN.cell? ⟨n0, 4, none⟩ = some (.slice (some ⟨b, off, none⟩) Ls.length c) := CC.cell rfl
          have b5 : WN.cell? ⟨n0, 5, none⟩ = some (.slice (some ⟨bk, offk, none⟩) Ks.length kc) := CC.cell rfl
          have x0 : WN.cell? ⟨n1, 0, none⟩ = some (.string ⟨pn.toArray⟩) := XX.cell rfl
          have x1 : WN.cell? ⟨n1, 1, none⟩ = some (.int .i64 pk) := XX.cell rfl
          have x2 : WN.cell? ⟨n1, 2, none⟩ = some (.bool pt) := XX.cell rfl
          have x3 : WN.cell? ⟨n1, 3, none⟩ = some (.int .i64 pi) := XX.cell rfl
          have x4 : WN.cell? ⟨n1, 4, none⟩ = some (.string ps) := XX.cell rfl
          have x5 : WN.cell? ⟨n1, 5, none⟩ = some (.slice pav pl.length pc) := XX.cell rfl
          have x6 : WN.cell? ⟨n1, 6, none⟩ = some (.slice pkv pks.length pkc) := XX.cell rfl
          have BW := B3.out.trans (ON.out.bel.mono B3.out.size)
          have y0 := (BW.cell (p := ⟨b, _, none⟩) HB.out.1).trans HB.out.2.1
          have y1 := (BW.cell (p := ⟨b, _, none⟩) HB.out.1).trans HB.out.2.2.1
          have y2 := (BW.cell (p := ⟨b, _, none⟩) HB.out.1).trans HB.out.2.2.2.1
          have y3 := (BW.cell (p := ⟨b, _, none⟩) HB.out.1).trans HB.out.2.2.2.2.1
          have y4 := (BW.cell (p := ⟨b, _, none⟩) HB.out.1).trans HB.out.2.2.2.2.2.1
          have y5 := (BW.cell (p := ⟨b, _, none⟩) HB.out.1).trans HB.out.2.2.2.2.2.2
          have yk := (BW.cell (p := ⟨bk, _, none⟩) HBK.out.1).trans HBK.out.2
          clear BW
          have o4 := ON.out.box.cell (k := 4) rfl
          have o5 := ON.out.box.cell (k := 5) rfl
          clear CC XX
          obtain ⟨i0, hi, hq0, hq1, hq2⟩ := info_parts infoStr
          have HOA := Lib.hid (ON.out.keys.alloc (.cells #[.string ⟨pn.toArray⟩] 9))
          have NW := World.news_of_block (heap_alloc_new WN (.cells #[.string ⟨pn.toArray⟩] 9))
          have hzs : W3.heap.size + 1 ≤ (WN.alloc (.cells #[.string ⟨pn.toArray⟩] 9)).heap.size := by have := ON.out.box.lt; simp; omega
          go_wp2_with (at_builtin; refine wpList_append_lies _ rfl _ _ 23 rfl (W3.heap.size + 1) 9 i0 _ 1 16 Tryz.underlying23 hi hq0 hq1 hq2 rfl (by decide) kA KA.length _ rfl HOA.out ⟨WN.heap.size, 0, none⟩ 1 1 [.string ⟨pn.toArray⟩] rfl rfl NW (by intro u hu; simp at hu; subst hu; rfl) (by decide) (by unfold maxLen; omega) (by omega) hzs _ rfl ?_)
          intro gk capk wk hok hgk hatk hltk
          obtain ⟨hbx, hO⟩ := ON.out.key (n := pn) hok hgk
          have f5 := hbx.frozen 5
          have z5 := hbx.cell (k := 5) rfl
          clear hok hgk hatk hltk HOA NW hzs hi hq0 hq1 hq2 hbx
          clear b4 b5 x0 x1 x2 x3 x4 x5 x6 y0 y1 y2 y3 y4 y5 yk o4 o5
          go_upto_region 8 with fail
          obtain ⟨WP, hWP⟩ : ∃ WP, WP = wk.setCell ⟨W3.heap.size, 5, none⟩ (.slice (some ⟨gk, 0, none⟩) (KA.length + 1) capk) := ⟨_, rfl⟩
          rw [← hWP] at hO ⊢
          obtain ⟨kP, hkP⟩ : ∃ kP, kP = Value.slice (some ⟨gk, 0, none⟩) (KA.length + 1) capk := ⟨_, rfl⟩
          rw [← hkP] at hO ⊢
          have OP := Lib.hid hO
          clear hO hWP hkP f5 z5
          have CC := C3.out.below OP.out.bel
          have XX := X3.out.below OP.out.bel
          have b4 : WP.cell? ⟨n0, 4, none⟩ = some (.slice (some ⟨b, off, none⟩) Ls.length c) := CC.cell rfl
          have b5 : WP.cell? ⟨n0, 5, none⟩ = some (.slice (some ⟨bk, offk, none⟩) Ks.length kc) := CC.cell rfl
          have x0 : WP.cell? ⟨n1, 0, none⟩ = some (.string ⟨pn.toArray⟩) := XX.cell rfl
          have x1 : WP.cell? ⟨n1, 1, none⟩ = some (.int .i64 pk) := XX.cell rfl
          have x2 : WP.cell? ⟨n1, 2, none⟩ = some (.bool pt) := XX.cell rfl
          have x3 : WP.cell? ⟨n1, 3, none⟩ = some (.int .i64 pi) := XX.cell rfl
          have x4 : WP.cell? ⟨n1, 4, none⟩ = some (.string ps) := XX.cell rfl
          have x5 : WP.cell? ⟨n1, 5, none⟩ = some (.slice pav pl.length pc) := XX.cell rfl
          have x6 : WP.cell? ⟨n1, 6, none⟩ = some (.slice pkv pks.length pkc) := XX.cell rfl
          have BW := B3.out.trans (OP.out.bel.mono B3.out.size)
          have y0 := (BW.cell (p := ⟨b, _, none⟩) HB.out.1).trans HB.out.2.1
          have y1 := (BW.cell (p := ⟨b, _, none⟩) HB.out.1).trans HB.out.2.2.1
          have y2 := (BW.cell (p := ⟨b, _, none⟩) HB.out.1).trans HB.out.2.2.2.1
          have y3 := (BW.cell (p := ⟨b, _, none⟩) HB.out.1).trans HB.out.2.2.2.2.1
          have y4 := (BW.cell (p := ⟨b, _, none⟩) HB.out.1).trans HB.out.2.2.2.2.2.1
          have y5 := (BW.cell (p := ⟨b, _, none⟩) HB.out.1).trans HB.out.2.2.2.2.2.2
          have yk := (BW.cell (p := ⟨bk, _, none⟩) HBK.out.1).trans HBK.out.2
          clear BW
          have o4 := OP.out.box.cell (k := 4) rfl
          have o5 := OP.out.box.cell (k := 5) rfl
          clear CC XX
          obtain ⟨i9, hi9, hq90, hq91, hq92⟩ := info_parts infoVal
          obtain ⟨ys, hy, hel⟩ := OP.out.vals
          have HOA := Lib.hid (hy.alloc (.cells #[.int .i64 pk, .bool pt, .int .i64 pi, .string ps, .slice pav pl.length pc, .slice pkv pks.length pkc] 25))
          have NW := World.news_of_block (heap_alloc_new WP (.cells #[.int .i64 pk, .bool pt, .int .i64 pi, .string ps, .slice pav pl.length pc, .slice pkv pks.length pkc] 25))
          have hzs : W3.heap.size + 1 ≤ (WP.alloc (.cells #[.int .i64 pk, .bool pt, .int .i64 pi, .string ps, .slice pav pl.length pc, .slice pkv pks.length pkc] 25)).heap.size := by have := OP.out.box.lt; simp; omega
          have HY := Lib.hid (And.intro hy hel)
          clear hy hel
          go_wp2_with (at_builtin; refine wpList_append_lies _ rfl _ _ 22 rfl (W3.heap.size + 1) 25 i9 _ 6 88 Tryz.underlying22 hi9 hq90 hq91 hq92 rfl (by decide) lA LA.length ys rfl HOA.out ⟨WP.heap.size, 0, none⟩ 1 1 [.int .i64 pk, .bool pt, .int .i64 pi, .string ps, .slice pav pl.length pc, .slice pkv pks.length pkc] rfl rfl NW (by intro u hu; simp at hu; rcases hu with rfl | rfl | rfl | rfl | rfl | rfl <;> rfl) (by decide) (by unfold maxLen; omega) (by omega) hzs _ rfl ?_)
          intro gk capk wk hok hgk hatk hltk
          obtain ⟨hbx, hO⟩ := OP.out.val (t1 := pt) HY.out.1 HY.out.2 HPG.out HPR.out hok hgk
          have f4 := hbx.frozen 4
          have z4 := hbx.cell (k := 4) rfl
          clear hok hgk hatk hltk HOA NW hzs hi9 hq90 hq91 hq92 hbx HY
          clear b4 b5 x0 x1 x2 x3 x4 x5 x6 y0 y1 y2 y3 y4 y5 yk o4 o5
          go_upto_region 9 with fail
          obtain ⟨WQ, hWQ⟩ : ∃ WQ, WQ = wk.setCell ⟨W3.heap.size, 4, none⟩ (.slice (some ⟨gk, 0, none⟩) (LA.length + 1) capk) := ⟨_, rfl⟩
          rw [← hWQ] at hO ⊢
          obtain ⟨lQ, hlQ⟩ : ∃ lQ, lQ = Value.slice (some ⟨gk, 0, none⟩) (LA.length + 1) capk := ⟨_, rfl⟩
          rw [← hlQ] at hO ⊢
          have OQ := Lib.hid hO
          clear hO hWQ hlQ f4 z4
          go_upto_region 10 with fail
          have hKP : (KA ++ [pn]).length ≤ j + 1 := by simp; omega
          have hLP : (LA ++ [Vl.mk pk pt pi ps pl pks]).length ≤ j + 1 := by simp; omega
          obtain ⟨KP, hKPe⟩ : ∃ KP, KP = KA ++ [pn] := ⟨_, rfl⟩
          obtain ⟨LP, hLPe⟩ : ∃ LP, LP = LA ++ [Vl.mk pk pt pi ps pl pks] := ⟨_, rfl⟩
          rw [← hKPe] at OQ hKP
          rw [← hLPe] at OQ hLP
          have HKP := Lib.hid (And.intro hKPe hLPe)
          clear hKPe hLPe OP ON
          go_cut [] (fun wx => ∃ kB, Hid (OutS wb W3 wx m (KP ++ [kn]) LP kB lQ))
          case first =>
            have hbd : Below WQ.heap.size WQ WQ.drew := (Below.refl _ _).drew
            have OD := OQ.out.below hbd
            have CC := C3.out.below OD.bel
            have XX := X3.out.below OD.bel
            have b4 : WQ.drew.cell? ⟨n0, 4, none⟩ = some (.slice (some ⟨b, off, none⟩) Ls.length c) := CC.cell rfl
            have b5 : WQ.drew.cell? ⟨n0, 5, none⟩ = some (.slice (some ⟨bk, offk, none⟩) Ks.length kc) := CC.cell rfl
            have x0 : WQ.drew.cell? ⟨n1, 0, none⟩ = some (.string ⟨pn.toArray⟩) := XX.cell rfl
            have x1 : WQ.drew.cell? ⟨n1, 1, none⟩ = some (.int .i64 pk) := XX.cell rfl
            have x2 : WQ.drew.cell? ⟨n1, 2, none⟩ = some (.bool pt) := XX.cell rfl
            have x3 : WQ.drew.cell? ⟨n1, 3, none⟩ = some (.int .i64 pi) := XX.cell rfl
            have x4 : WQ.drew.cell? ⟨n1, 4, none⟩ = some (.string ps) := XX.cell rfl
            have x5 : WQ.drew.cell? ⟨n1, 5, none⟩ = some (.slice pav pl.length pc) := XX.cell rfl
            have x6 : WQ.drew.cell? ⟨n1, 6, none⟩ = some (.slice pkv pks.length pkc) := XX.cell rfl
            have BW := B3.out.trans (OD.bel.mono B3.out.size)
            have y0 := (BW.cell (p := ⟨b, _, none⟩) HB.out.1).trans HB.out.2.1
            have y1 := (BW.cell (p := ⟨b, _, none⟩) HB.out.1).trans HB.out.2.2.1
            have y2 := (BW.cell (p := ⟨b, _, none⟩) HB.out.1).trans HB.out.2.2.2.1
            have y3 := (BW.cell (p := ⟨b, _, none⟩) HB.out.1).trans HB.out.2.2.2.2.1
            have y4 := (BW.cell (p := ⟨b, _, none⟩) HB.out.1).trans HB.out.2.2.2.2.2.1
            have y5 := (BW.cell (p := ⟨b, _, none⟩) HB.out.1).trans HB.out.2.2.2.2.2.2
            have yk := (BW.cell (p := ⟨bk, _, none⟩) HBK.out.1).trans HBK.out.2
            clear BW
            have o4 := OD.box.cell (k := 4) rfl
            have o5 := OD.box.cell (k := 5) rfl
            clear CC XX
            obtain ⟨i0, hi, hq0, hq1, hq2⟩ := info_parts infoStr
            have HOA := Lib.hid (OD.keys.alloc (.cells #[.string ⟨kn.toArray⟩] 9))
            have NW := World.news_of_block (heap_alloc_new WQ.drew (.cells #[.string ⟨kn.toArray⟩] 9))
            have hzs : W3.heap.size + 1 ≤ (WQ.drew.alloc (.cells #[.string ⟨kn.toArray⟩] 9)).heap.size := by have := OD.box.lt; simp at this ⊢; omega
            have o5a := (OQ.out.box.alloc (.cells #[.string ⟨kn.toArray⟩] 9)).cell (k := 5) rfl
            have hm1 : KP.length + 1 ≤ maxLen := by unfold maxLen; omega
            have hm2 : (KP.length + 1) * 16 ≤ 140737488355328 := by omega
            have HOD := Lib.hid OD
            clear OD hbd
            go_region_law (refine step_append_lies _ rfl _ _ 23 rfl (W3.heap.size + 1) 9 i0 _ 1 16 Tryz.underlying23 hi hq0 hq1 hq2 rfl (by decide) kP KP.length _ rfl HOA.out ⟨WQ.drew.heap.size, 0, none⟩ 1 1 [.string ⟨kn.toArray⟩] rfl rfl NW (by intro u hu; simp at hu; subst hu; rfl) (by decide) hm1 hm2 hzs _ rfl ?_; intro gk capk wk hok hgk hatk hltk; obtain ⟨hbx, hO⟩ := HOD.out.key (n := kn) hok hgk; have f5 := hbx.frozen 5; have z5 := hbx.cell (k := 5) rfl)
            all_goals
              go_wp2_with fail
              go_meet
              exact ⟨_, Lib.hid hO⟩
          case rest =>
          obtain ⟨kB, HOC⟩ := hcut
          go_upto_region 11 with fail
          have hbd : Below wc.heap.size wc wc.drew := (Below.refl _ _).drew
          have OD := HOC.out.below hbd
          have CC := C3.out.below OD.bel
          have XX := X3.out.below OD.bel
          have b4 : wc.drew.cell? ⟨n0, 4, none⟩ = some (.slice (some ⟨b, off, none⟩) Ls.length c) := CC.cell rfl
          have b5 : wc.drew.cell? ⟨n0, 5, none⟩ = some (.slice (some ⟨bk, offk, none⟩) Ks.length kc) := CC.cell rfl
          have x0 : wc.drew.cell? ⟨n1, 0, none⟩ = some (.string ⟨pn.toArray⟩) := XX.cell rfl
          have x1 : wc.drew.cell? ⟨n1, 1, none⟩ = some (.int .i64 pk) := XX.cell rfl
          have x2 : wc.drew.cell? ⟨n1, 2, none⟩ = some (.bool pt) := XX.cell rfl
          have x3 : wc.drew.cell? ⟨n1, 3, none⟩ = some (.int .i64 pi) := XX.cell rfl
          have x4 : wc.drew.cell? ⟨n1, 4, none⟩ = some (.string ps) := XX.cell rfl
          have x5 : wc.drew.cell? ⟨n1, 5, none⟩ = some (.slice pav pl.length pc) := XX.cell rfl
          have x6 : wc.drew.cell? ⟨n1, 6, none⟩ = some (.slice pkv pks.length pkc) := XX.cell rfl
          have BW := B3.out.trans (OD.bel.mono B3.out.size)
          have y0 := (BW.cell (p := ⟨b, _, none⟩) HB.out.1).trans HB.out.2.1
          have y1 := (BW.cell (p := ⟨b, _, none⟩) HB.out.1).trans HB.out.2.2.1
          have y2 := (BW.cell (p := ⟨b, _, none⟩) HB.out.1).trans HB.out.2.2.2.1
          have y3 := (BW.cell (p := ⟨b, _, none⟩) HB.out.1).trans HB.out.2.2.2.2.1
          have y4 := (BW.cell (p := ⟨b, _, none⟩) HB.out.1).trans HB.out.2.2.2.2.2.1
          have y5 := (BW.cell (p := ⟨b, _, none⟩) HB.out.1).trans HB.out.2.2.2.2.2.2
          have yk := (BW.cell (p := ⟨bk, _, none⟩) HBK.out.1).trans HBK.out.2
          clear BW
          have o4 := OD.box.cell (k := 4) rfl
          have o5 := OD.box.cell (k := 5) rfl
          clear CC XX
          obtain ⟨i9, hi9, hq90, hq91, hq92⟩ := info_parts infoVal
          obtain ⟨ys, hy, hel⟩ := OD.vals
          have HOA := Lib.hid (hy.alloc (.cells #[.int .i64 k1, .bool t1, .int .i64 i1, .string s1, .slice av1 l1.length c1, .slice kv1 ks1.length kc1] 25))
          have NW := World.news_of_block (heap_alloc_new wc.drew (.cells #[.int .i64 k1, .bool t1, .int .i64 i1, .string s1, .slice av1 l1.length c1, .slice kv1 ks1.length kc1] 25))
          have hzs : W3.heap.size + 1 ≤ (wc.drew.alloc (.cells #[.int .i64 k1, .bool t1, .int .i64 i1, .string s1, .slice av1 l1.length c1, .slice kv1 ks1.length kc1] 25)).heap.size := by have := OD.box.lt; simp at this ⊢; omega
          have o4a := (HOC.out.box.alloc (.cells #[.int .i64 k1, .bool t1, .int .i64 i1, .string s1, .slice av1 l1.length c1, .slice kv1 ks1.length kc1] 25)).cell (k := 4) rfl
          have hm1 : LP.length + 1 ≤ maxLen := by unfold maxLen; omega
          have hm2 : (LP.length + 1) * 88 ≤ 140737488355328 := by omega
          have HOD := Lib.hid OD
          have HY := Lib.hid (And.intro hy hel)
          clear OD hbd hy hel
          have HEN := Lib.hid (show insM (pn, Vl.mk pk pt pi ps pl pks) l = A ++ [(pn, Vl.mk pk pt pi ps pl pks)] ++ [(kn, Vl.mk k1 t1 i1 s1 l1 ks1)] ++ (if true = true then l.drop (j + 1) else insM (pn, Vl.mk pk pt pi ps pl pks) (l.drop (j + 1))) by
            have h := HST.out
            have hc : cmpL pn kn < 0 := by rw [← HCQ.out]; exact hlt0
            simpa [hc] using h)
          have HKE := Lib.hid (show KP ++ [kn] = (A ++ [(pn, Vl.mk pk pt pi ps pl pks)] ++ [(kn, Vl.mk k1 t1 i1 s1 l1 ks1)]).map (·.1) ∧ LP ++ [.mk k1 t1 i1 s1 l1 ks1] = (A ++ [(pn, Vl.mk pk pt pi ps pl pks)] ++ [(kn, Vl.mk k1 t1 i1 s1 l1 ks1)]).map (·.2) by
            rw [HKP.out.1, HKP.out.2, HKL.out.1, HKL.out.2]
            simp)
          have hn1 : (KP ++ [kn]).length ≤ j + 1 + 1 := by rw [List.length_append, List.length_singleton]; omega
          have hn2 : (LP ++ [Vl.mk k1 t1 i1 s1 l1 ks1]).length ≤ j + 1 + 1 := by rw [List.length_append, List.length_singleton]; omega
          go_region_law (refine step_append_lies _ rfl _ _ 22 rfl (W3.heap.size + 1) 25 i9 _ 6 88 Tryz.underlying22 hi9 hq90 hq91 hq92 rfl (by decide) lQ LP.length ys rfl HOA.out ⟨wc.drew.heap.size, 0, none⟩ 1 1 [.int .i64 k1, .bool t1, .int .i64 i1, .string s1, .slice av1 l1.length c1, .slice kv1 ks1.length kc1] rfl rfl NW (by intro u hu; simp at hu; rcases hu with rfl | rfl | rfl | rfl | rfl | rfl <;> rfl) (by decide) hm1 hm2 hzs _ rfl ?_; intro gk capk wk hok hgk hatk hltk; obtain ⟨hbx, hO⟩ := HOD.out.val (t1 := t1) HY.out.1 HY.out.2 HVG.out HVR.out hok hgk; have f4 := hbx.frozen 4; have z4 := hbx.cell (k := 4) rfl)
          all_goals
            go_wp2_with fail
            exact ⟨⟨j + 1, A ++ [(pn, Vl.mk pk pt pi ps pl pks)] ++ [(kn, Vl.mk k1 t1 i1 s1 l1 ks1)], KP ++ [kn], LP ++ [Vl.mk k1 t1 i1 s1 l1 ks1], true, kB, .slice (some ⟨gk, 0, none⟩) (LP.length + 1) capk, by omega, by go_num, rfl, hn1, hn2, (fun h => Bool.noConfusion h), HKE, HEN, Lib.hid hO⟩, by simp [RowKit.intOf]; omega⟩
        · go_upto_region 6 with fail
          go_quiet (first | (go_at_call 61; exact Calls.quiet_of (FC.out _)))
          have ON := Lib.hid (HO.out.below (below_drewN (Below.refl wr.heap.size wr) nq))
          clear b4 b5 x0 x1 x2 x3 x4 x5 x6 y0 y1 y2 y3 y4 y5 yk o4 o5
          obtain ⟨WN, hWN⟩ : ∃ WN, WN = wr.drewN nq := ⟨_, rfl⟩
          rw [← hWN] at ON ⊢
          clear hWN HO
          go_upto_region 10 with fail
          go_cut [] (fun wx => ∃ kB, Hid (OutS wb W3 wx m (KA ++ [kn]) LA kB lA))
          case first =>
            have hbd : Below WN.heap.size WN WN.drew := (Below.refl _ _).drew
            have OD := ON.out.below hbd
            have CC := C3.out.below OD.bel
            have XX := X3.out.below OD.bel
            have b4 : WN.drew.cell? ⟨n0, 4, none⟩ = some (.slice (some ⟨b, off, none⟩) Ls.length c) := CC.cell rfl
            have b5 : WN.drew.cell? ⟨n0, 5, none⟩ = some (.slice (some ⟨bk, offk, none⟩) Ks.length kc) := CC.cell rfl
            have x0 : WN.drew.cell? ⟨n1, 0, none⟩ = some (.string ⟨pn.toArray⟩) := XX.cell rfl
            have x1 : WN.drew.cell? ⟨n1, 1, none⟩ = some (.int .i64 pk) := XX.cell rfl
            have x2 : WN.drew.cell? ⟨n1, 2, none⟩ = some (.bool pt) := XX.cell rfl
            have x3 : WN.drew.cell? ⟨n1, 3, none⟩ = some (.int .i64 pi) := XX.cell rfl
            have x4 : WN.drew.cell? ⟨n1, 4, none⟩ = some (.string ps) := XX.cell rfl
            have x5 : WN.drew.cell? ⟨n1, 5, none⟩ = some (.slice pav pl.length pc) := XX.cell rfl
            have x6 : WN.drew.cell? ⟨n1, 6, none⟩ = some (.slice pkv pks.length pkc) := XX.cell rfl
            have BW := B3.out.trans (OD.bel.mono B3.out.size)
            have y0 := (BW.cell (p := ⟨b, _, none⟩) HB.out.1).trans HB.out.2.1
            have y1 := (BW.cell (p := ⟨b, _, none⟩) HB.out.1).trans HB.out.2.2.1
            have y2 := (BW.cell (p := ⟨b, _, none⟩) HB.out.1).trans HB.out.2.2.2.1
            have y3 := (BW.cell (p := ⟨b, _, none⟩) HB.out.1).trans HB.out.2.2.2.2.1
            have y4 := (BW.cell (p := ⟨b, _, none⟩) HB.out.1).trans HB.out.2.2.2.2.2.1
            have y5 := (BW.cell (p := ⟨b, _, none⟩) HB.out.1).trans HB.out.2.2.2.2.2.2
            have yk := (BW.cell (p := ⟨bk, _, none⟩) HBK.out.1).trans HBK.out.2
            clear BW
            have o4 := OD.box.cell (k := 4) rfl
            have o5 := OD.box.cell (k := 5) rfl
            clear CC XX
            obtain ⟨i0, hi, hq0, hq1, hq2⟩ := info_parts infoStr
            have HOA := Lib.hid (OD.keys.alloc (.cells #[.string ⟨kn.toArray⟩] 9))
            have NW := World.news_of_block (heap_alloc_new WN.drew (.cells #[.string ⟨kn.toArray⟩] 9))
            have hzs : W3.heap.size + 1 ≤ (WN.drew.alloc (.cells #[.string ⟨kn.toArray⟩] 9)).heap.size := by have := OD.box.lt; simp at this ⊢; omega
            have o5a := (ON.out.box.alloc (.cells #[.string ⟨kn.toArray⟩] 9)).cell (k := 5) rfl
            have hm1 : KA.length + 1 ≤ maxLen := by unfold maxLen; omega
            have hm2 : (KA.length + 1) * 16 ≤ 140737488355328 := by omega
            have HOD := Lib.hid OD
            clear OD hbd
            go_region_law (refine step_append_lies _ rfl _ _ 23 rfl (W3.heap.size + 1) 9 i0 _ 1 16 Tryz.underlying23 hi hq0 hq1 hq2 rfl (by decide) kA KA.length _ rfl HOA.out ⟨WN.drew.heap.size, 0, none⟩ 1 1 [.string ⟨kn.toArray⟩] rfl rfl NW (by intro u hu; simp at hu; subst hu; rfl) (by decide) hm1 hm2 hzs _ rfl ?_; intro gk capk wk hok hgk hatk hltk; obtain ⟨hbx, hO⟩ := HOD.out.key (n := kn) hok hgk; have f5 := hbx.frozen 5; have z5 := hbx.cell (k := 5) rfl)
            all_goals
              go_wp2_with fail
              go_meet
              exact ⟨_, Lib.hid hO⟩
          case rest =>
          obtain ⟨kB, HOC⟩ := hcut
          go_upto_region 11 with fail
          have hbd : Below wc.heap.size wc wc.drew := (Below.refl _ _).drew
          have OD := HOC.out.below hbd
          have CC := C3.out.below OD.bel
          have XX := X3.out.below OD.bel
          have b4 : wc.drew.cell? ⟨n0, 4, none⟩ = some (.slice (some ⟨b, off, none⟩) Ls.length c) := CC.cell rfl
          have b5 : wc.drew.cell? ⟨n0, 5, none⟩ = some (.slice (some ⟨bk, offk, none⟩) Ks.length kc) := CC.cell rfl
          have x0 : wc.drew.cell? ⟨n1, 0, none⟩ = some (.string ⟨pn.toArray⟩) := XX.cell rfl
          have x1 : wc.drew.cell? ⟨n1, 1, none⟩ = some (.int .i64 pk) := XX.cell rfl
          have x2 : wc.drew.cell? ⟨n1, 2, none⟩ = some (.bool pt) := XX.cell rfl
          have x3 : wc.drew.cell? ⟨n1, 3, none⟩ = some (.int .i64 pi) := XX.cell rfl
          have x4 : wc.drew.cell? ⟨n1, 4, none⟩ = some (.string ps) := XX.cell rfl
          have x5 : wc.drew.cell? ⟨n1, 5, none⟩ = some (.slice pav pl.length pc) := XX.cell rfl
          have x6 : wc.drew.cell? ⟨n1, 6, none⟩ = some (.slice pkv pks.length pkc) := XX.cell rfl
          have BW := B3.out.trans (OD.bel.mono B3.out.size)
          have y0 := (BW.cell (p := ⟨b, _, none⟩) HB.out.1).trans HB.out.2.1
          have y1 := (BW.cell (p := ⟨b, _, none⟩) HB.out.1).trans HB.out.2.2.1
          have y2 := (BW.cell (p := ⟨b, _, none⟩) HB.out.1).trans HB.out.2.2.2.1
          have y3 := (BW.cell (p := ⟨b, _, none⟩) HB.out.1).trans HB.out.2.2.2.2.1
          have y4 := (BW.cell (p := ⟨b, _, none⟩) HB.out.1).trans HB.out.2.2.2.2.2.1
          have y5 := (BW.cell (p := ⟨b, _, none⟩) HB.out.1).trans HB.out.2.2.2.2.2.2
          have yk := (BW.cell (p := ⟨bk, _, none⟩) HBK.out.1).trans HBK.out.2
          clear BW
          have o4 := OD.box.cell (k := 4) rfl
          have o5 := OD.box.cell (k := 5) rfl
          clear CC XX
          obtain ⟨i9, hi9, hq90, hq91, hq92⟩ := info_parts infoVal
          obtain ⟨ys, hy, hel⟩ := OD.vals
          have HOA := Lib.hid (hy.alloc (.cells #[.int .i64 k1, .bool t1, .int .i64 i1, .string s1, .slice av1 l1.length c1, .slice kv1 ks1.length kc1] 25))
          have NW := World.news_of_block (heap_alloc_new wc.drew (.cells #[.int .i64 k1, .bool t1, .int .i64 i1, .string s1, .slice av1 l1.length c1, .slice kv1 ks1.length kc1] 25))
          have hzs : W3.heap.size + 1 ≤ (wc.drew.alloc (.cells #[.int .i64 k1, .bool t1, .int .i64 i1, .string s1, .slice av1 l1.length c1, .slice kv1 ks1.length kc1] 25)).heap.size := by have := OD.box.lt; simp at this ⊢; omega
          have o4a := (HOC.out.box.alloc (.cells #[.int .i64 k1, .bool t1, .int .i64 i1, .string s1, .slice av1 l1.length c1, .slice kv1 ks1.length kc1] 25)).cell (k := 4) rfl
          have hm1 : LA.length + 1 ≤ maxLen := by unfold maxLen; omega
          have hm2 : (LA.length + 1) * 88 ≤ 140737488355328 := by omega
          have HOD := Lib.hid OD
          have HY := Lib.hid (And.intro hy hel)
          clear OD hbd hy hel
          have HEN := Lib.hid (show insM (pn, Vl.mk pk pt pi ps pl pks) l = A ++ [(kn, Vl.mk k1 t1 i1 s1 l1 ks1)] ++ (if false = true then l.drop (j + 1) else insM (pn, Vl.mk pk pt pi ps pl pks) (l.drop (j + 1))) by
            have h := HST.out
            have hc : ¬ cmpL pn kn < 0 := by rw [← HCQ.out]; exact hlt0
            simpa [hc] using h)
          have hn1 : (KA ++ [kn]).length ≤ j + 1 + 1 := by rw [List.length_append, List.length_singleton]; omega
          have hn2 : (LA ++ [Vl.mk k1 t1 i1 s1 l1 ks1]).length ≤ j + 1 + 1 := by rw [List.length_append, List.length_singleton]; omega
          have hn3 : (KA ++ [kn]).length ≤ j + 1 ∧ (LA ++ [Vl.mk k1 t1 i1 s1 l1 ks1]).length ≤ j + 1 := by rw [List.length_append, List.length_singleton, List.length_append, List.length_singleton]; omega
          have HKE := Lib.hid (show KA ++ [kn] = (A ++ [(kn, Vl.mk k1 t1 i1 s1 l1 ks1)]).map (·.1) ∧ LA ++ [Vl.mk k1 t1 i1 s1 l1 ks1] = (A ++ [(kn, Vl.mk k1 t1 i1 s1 l1 ks1)]).map (·.2) by
            rw [HKL.out.1, HKL.out.2]
            simp)
          go_region_law (refine step_append_lies _ rfl _ _ 22 rfl (W3.heap.size + 1) 25 i9 _ 6 88 Tryz.underlying22 hi9 hq90 hq91 hq92 rfl (by decide) lA LA.length ys rfl HOA.out ⟨wc.drew.heap.size, 0, none⟩ 1 1 [.int .i64 k1, .bool t1, .int .i64 i1, .string s1, .slice av1 l1.length c1, .slice kv1 ks1.length kc1] rfl rfl NW (by intro u hu; simp at hu; rcases hu with rfl | rfl | rfl | rfl | rfl | rfl <;> rfl) (by decide) hm1 hm2 hzs _ rfl ?_; intro gk capk wk hok hgk hatk hltk; obtain ⟨hbx, hO⟩ := HOD.out.val (t1 := t1) HY.out.1 HY.out.2 HVG.out HVR.out hok hgk; have f4 := hbx.frozen 4; have z4 := hbx.cell (k := 4) rfl)
          all_goals
            go_wp2_with fail
            exact ⟨⟨j + 1, A ++ [(kn, Vl.mk k1 t1 i1 s1 l1 ks1)], KA ++ [kn], LA ++ [Vl.mk k1 t1 i1 s1 l1 ks1], false, kB, .slice (some ⟨gk, 0, none⟩) (LA.length + 1) capk, by omega, by go_num, rfl, hn1, hn2, fun _ => hn3, HKE, HEN, Lib.hid hO⟩, by simp [RowKit.intOf]; omega⟩
    · obtain rfl : j = Ks.length := by omega
      have hkI : ¬ (Ks.length : Int) < (Ks.length : Int) := by omega
      cases d with
      | true =>
        have hAe : insM (pn, .mk pk pt pi ps pl pks) l = A := by
          have h := HE.out
          rw [if_pos rfl, show Ks.length = l.length from HLN.out.1, List.drop_length, List.append_nil] at h
          exact h
        have HAE := Lib.hid hAe
        clear hAe
        clear b4 x0 x1 x2 x3 x4 x5 x6
        obtain ⟨qa, qc, ra, rc, eq1, eq2, qb1, qb2, rb1, rb2, HRW⟩ := HO.out.rows
        have HRW := Lib.hid HRW
        obtain ⟨nk, hnk⟩ : ∃ nk, nk = KA.length := ⟨_, rfl⟩
        obtain ⟨nl, hnl⟩ : ∃ nl, nl = LA.length := ⟨_, rfl⟩
        rw [← hnk] at eq1 qb1
        rw [← hnl] at eq2 rb1
        have HNK := Lib.hid (And.intro hnk hnl)
        clear hnk hnl
        subst eq1 eq2
        have ZR := Z3.out.below HO.out.bel
        have z0 : wr.cell? ⟨n2, 0, none⟩ = some (.int .i64 0) := ZR.cell rfl
        have z1 : wr.cell? ⟨n2, 1, none⟩ = some (.bool false) := ZR.cell rfl
        have z2 : wr.cell? ⟨n2, 2, none⟩ = some (.int .i64 0) := ZR.cell rfl
        have z3 : wr.cell? ⟨n2, 3, none⟩ = some (.string ⟨#[]⟩) := ZR.cell rfl
        have z4 : wr.cell? ⟨n2, 4, none⟩ = some (.slice none 0 0) := ZR.cell rfl
        have z5 : wr.cell? ⟨n2, 5, none⟩ = some (.slice none 0 0) := ZR.cell rfl
        have o0 := HO.out.box.cell (k := 0) rfl
        have o1 := HO.out.box.cell (k := 1) rfl
        have o2 := HO.out.box.cell (k := 2) rfl
        have o3 := HO.out.box.cell (k := 3) rfl
        have o4 := HO.out.box.cell (k := 4) rfl
        have o5 := HO.out.box.cell (k := 5) rfl
        have zf := ZR.frozen
        go_wp2_with fail
        obtain ⟨W9, hW9⟩ : ∃ W9, W9 = ((((((wr.setCell ⟨n2, 0, none⟩ (.int .i64 5)).setCell ⟨n2, 1, none⟩ (.bool false)).setCell ⟨n2, 2, none⟩ (.int .i64 0)).setCell ⟨n2, 3, none⟩ (.string ⟨#[]⟩)).setCell ⟨n2, 4, none⟩ (.slice ra nl rc)).setCell ⟨n2, 5, none⟩ (.slice qa nk qc)) := ⟨_, rfl⟩
        rw [← hW9]
        obtain ⟨⟨cs', G4, h1, h2⟩, h3, h4, h5⟩ := six_set ZR 0 _ _ _ _ _ _ W9 hW9
        obtain ⟨q0, q1, q2, q3, q4, q5⟩ := h1 (by decide)
        have u0 : W9.cell? ⟨n2, 0, none⟩ = _ := G4.cell q0
        have u1 : W9.cell? ⟨n2, 1, none⟩ = _ := G4.cell q1
        have u2 : W9.cell? ⟨n2, 2, none⟩ = _ := G4.cell q2
        have u3 : W9.cell? ⟨n2, 3, none⟩ = _ := G4.cell q3
        have u4 : W9.cell? ⟨n2, 4, none⟩ = _ := G4.cell q4
        have u5 : W9.cell? ⟨n2, 5, none⟩ = _ := G4.cell q5
        have hnn := HNN.out
        have hB := h5 w.heap.size w (by omega) (B3.out.trans (HO.out.bel.mono B3.out.size))
        have hFr : From (W3.heap.size + 1) wr W9 := ⟨by omega, fun b hb _ => h3 b (by omega)⟩
        have hlen := (ins_perm (pn, Vl.mk pk pt pi ps pl pks) l).length_eq
        rw [List.length_cons] at hlen
        have en := HNK.out
        have e1 : nk = (insM (pn, Vl.mk pk pt pi ps pl pks) l).length := by rw [en.1, HKL.out.1, List.length_map, HAE.out]
        have e2 : nl = (insM (pn, Vl.mk pk pt pi ps pl pks) l).length := by rw [en.2, HKL.out.2, List.length_map, HAE.out]
        have hfin : ∀ w2, From w.heap.size W9 w2 → ReadsStr w2 qa ((insM (pn, Vl.mk pk pt pi ps pl pks) l).map (·.1)) ∧ RowAt wb w2 m ra ((insM (pn, Vl.mk pk pt pi ps pl pks) l).map (·.2)) := by
          intro w2 hf
          rw [HAE.out, ← HKL.out.1, ← HKL.out.2]
          exact HRW.out w2 (hFr.trans (hf.mono (by have := B3.out.size; omega)))
        refine bodyPost_ret (v := .agg #[.int .i64 5, .bool false, .int .i64 0, .string ⟨#[]⟩, (.slice ra nl rc), (.slice qa nk qc)]) (by simp [results, Tryz.f50, go_sem, u0, u1, u2, u3, u4, u5]) rfl ⟨ra, rc, qa, qc, by rw [← e1, e2, ← e1], ?_, rb2, ?_, qb2, hfin, hB⟩
        · rw [← e2]; exact rb1
        · rw [← e1]; exact qb1
      | false =>
        have hAe : insM (pn, .mk pk pt pi ps pl pks) l = A ++ [(pn, .mk pk pt pi ps pl pks)] := by
          have h := HE.out
          rw [if_neg (by decide), show Ks.length = l.length from HLN.out.1, List.drop_length] at h
          exact h
        have HAE := Lib.hid hAe
        obtain ⟨hKA, hLA⟩ := hKL0 rfl
        clear hAe
        go_upto_region 13 with fail
        obtain ⟨i0, hi, hq0, hq1, hq2⟩ := info_parts infoStr
        have HOA := Lib.hid (HO.out.keys.alloc (.cells #[.string ⟨pn.toArray⟩] 9))
        have NW := World.news_of_block (heap_alloc_new wr (.cells #[.string ⟨pn.toArray⟩] 9))
        have hzs : W3.heap.size + 1 ≤ (wr.alloc (.cells #[.string ⟨pn.toArray⟩] 9)).heap.size := by have := HO.out.box.lt; simp; omega
        go_wp2_with (at_builtin; refine wpList_append_lies _ rfl _ _ 23 rfl (W3.heap.size + 1) 9 i0 _ 1 16 Tryz.underlying23 hi hq0 hq1 hq2 rfl (by decide) kA KA.length _ rfl HOA.out ⟨wr.heap.size, 0, none⟩ 1 1 [.string ⟨pn.toArray⟩] rfl rfl NW (by intro u hu; simp at hu; subst hu; rfl) (by decide) (by unfold maxLen; omega) (by omega) hzs _ rfl ?_)
        intro gk capk wk hok hgk hatk hltk
        obtain ⟨hbx, hO⟩ := HO.out.key (n := pn) hok hgk
        have f5 := hbx.frozen 5
        have z5 := hbx.cell (k := 5) rfl
        clear hok hgk hatk hltk HOA NW hzs hi hq0 hq1 hq2 hbx
        clear b4 b5 x0 x1 x2 x3 x4 x5 x6 o4 o5
        go_upto_region 14 with fail
        obtain ⟨WP, hWP⟩ : ∃ WP, WP = wk.setCell ⟨W3.heap.size, 5, none⟩ (.slice (some ⟨gk, 0, none⟩) (KA.length + 1) capk) := ⟨_, rfl⟩
        rw [← hWP] at hO ⊢
        obtain ⟨kP, hkP⟩ : ∃ kP, kP = Value.slice (some ⟨gk, 0, none⟩) (KA.length + 1) capk := ⟨_, rfl⟩
        rw [← hkP] at hO ⊢
        have OP := Lib.hid hO
        clear hO hWP hkP f5 z5
        have CC := C3.out.below OP.out.bel
        have XX := X3.out.below OP.out.bel
        have b4 : WP.cell? ⟨n0, 4, none⟩ = some (.slice av Ls.length c) := CC.cell rfl
        have b5 : WP.cell? ⟨n0, 5, none⟩ = some (.slice kv Ks.length kc) := CC.cell rfl
        have x0 : WP.cell? ⟨n1, 0, none⟩ = some (.string ⟨pn.toArray⟩) := XX.cell rfl
        have x1 : WP.cell? ⟨n1, 1, none⟩ = some (.int .i64 pk) := XX.cell rfl
        have x2 : WP.cell? ⟨n1, 2, none⟩ = some (.bool pt) := XX.cell rfl
        have x3 : WP.cell? ⟨n1, 3, none⟩ = some (.int .i64 pi) := XX.cell rfl
        have x4 : WP.cell? ⟨n1, 4, none⟩ = some (.string ps) := XX.cell rfl
        have x5 : WP.cell? ⟨n1, 5, none⟩ = some (.slice pav pl.length pc) := XX.cell rfl
        have x6 : WP.cell? ⟨n1, 6, none⟩ = some (.slice pkv pks.length pkc) := XX.cell rfl
        have o4 := OP.out.box.cell (k := 4) rfl
        have o5 := OP.out.box.cell (k := 5) rfl
        clear CC XX
        obtain ⟨i9, hi9, hq90, hq91, hq92⟩ := info_parts infoVal
        obtain ⟨ys, hy, hel⟩ := OP.out.vals
        have HOA := Lib.hid (hy.alloc (.cells #[.int .i64 pk, .bool pt, .int .i64 pi, .string ps, .slice pav pl.length pc, .slice pkv pks.length pkc] 25))
        have NW := World.news_of_block (heap_alloc_new WP (.cells #[.int .i64 pk, .bool pt, .int .i64 pi, .string ps, .slice pav pl.length pc, .slice pkv pks.length pkc] 25))
        have hzs : W3.heap.size + 1 ≤ (WP.alloc (.cells #[.int .i64 pk, .bool pt, .int .i64 pi, .string ps, .slice pav pl.length pc, .slice pkv pks.length pkc] 25)).heap.size := by have := OP.out.box.lt; simp; omega
        have HY := Lib.hid (And.intro hy hel)
        clear hy hel
        go_wp2_with (at_builtin; refine wpList_append_lies _ rfl _ _ 22 rfl (W3.heap.size + 1) 25 i9 _ 6 88 Tryz.underlying22 hi9 hq90 hq91 hq92 rfl (by decide) lA LA.length ys rfl HOA.out ⟨WP.heap.size, 0, none⟩ 1 1 [.int .i64 pk, .bool pt, .int .i64 pi, .string ps, .slice pav pl.length pc, .slice pkv pks.length pkc] rfl rfl NW (by intro u hu; simp at hu; rcases hu with rfl | rfl | rfl | rfl | rfl | rfl <;> rfl) (by decide) (by unfold maxLen; omega) (by omega) hzs _ rfl ?_)
        intro gk capk wk hok hgk hatk hltk
        obtain ⟨hbx, hO⟩ := OP.out.val (t1 := pt) HY.out.1 HY.out.2 HPG.out HPR.out hok hgk
        have f4 := hbx.frozen 4
        have z4 := hbx.cell (k := 4) rfl
        clear hok hgk hatk hltk HOA NW hzs hi9 hq90 hq91 hq92 hbx HY
        clear b4 b5 x0 x1 x2 x3 x4 x5 x6 o4 o5
        go_upto_region 15 with fail
        obtain ⟨WQ, hWQ⟩ : ∃ WQ, WQ = wk.setCell ⟨W3.heap.size, 4, none⟩ (.slice (some ⟨gk, 0, none⟩) (LA.length + 1) capk) := ⟨_, rfl⟩
        rw [← hWQ] at hO ⊢
        obtain ⟨lQ, hlQ⟩ : ∃ lQ, lQ = Value.slice (some ⟨gk, 0, none⟩) (LA.length + 1) capk := ⟨_, rfl⟩
        rw [← hlQ] at hO ⊢
        have OQ := Lib.hid hO
        clear hO hWQ hlQ f4 z4
        obtain ⟨KP, hKPe⟩ : ∃ KP, KP = KA ++ [pn] := ⟨_, rfl⟩
        obtain ⟨LP, hLPe⟩ : ∃ LP, LP = LA ++ [Vl.mk pk pt pi ps pl pks] := ⟨_, rfl⟩
        have HKP := Lib.hid (show KP = (A ++ [(pn, Vl.mk pk pt pi ps pl pks)]).map (·.1) ∧ LP = (A ++ [(pn, Vl.mk pk pt pi ps pl pks)]).map (·.2) by
          rw [hKPe, hLPe, HKL.out.1, HKL.out.2]
          simp)
        rw [← hKPe, ← hLPe] at OQ
        clear hKPe hLPe OP HO
        obtain ⟨qa, qc, ra, rc, eq1, eq2, qb1, qb2, rb1, rb2, HRW⟩ := OQ.out.rows
        have HRW := Lib.hid HRW
        obtain ⟨nk, hnk⟩ : ∃ nk, nk = KP.length := ⟨_, rfl⟩
        obtain ⟨nl, hnl⟩ : ∃ nl, nl = LP.length := ⟨_, rfl⟩
        rw [← hnk] at eq1 qb1
        rw [← hnl] at eq2 rb1
        have HNK := Lib.hid (And.intro hnk hnl)
        clear hnk hnl
        subst eq1 eq2
        have ZR := Z3.out.below OQ.out.bel
        have z0 : WQ.cell? ⟨n2, 0, none⟩ = some (.int .i64 0) := ZR.cell rfl
        have z1 : WQ.cell? ⟨n2, 1, none⟩ = some (.bool false) := ZR.cell rfl
        have z2 : WQ.cell? ⟨n2, 2, none⟩ = some (.int .i64 0) := ZR.cell rfl
        have z3 : WQ.cell? ⟨n2, 3, none⟩ = some (.string ⟨#[]⟩) := ZR.cell rfl
        have z4 : WQ.cell? ⟨n2, 4, none⟩ = some (.slice none 0 0) := ZR.cell rfl
        have z5 : WQ.cell? ⟨n2, 5, none⟩ = some (.slice none 0 0) := ZR.cell rfl
        have o0 := OQ.out.box.cell (k := 0) rfl
        have o1 := OQ.out.box.cell (k := 1) rfl
        have o2 := OQ.out.box.cell (k := 2) rfl
        have o3 := OQ.out.box.cell (k := 3) rfl
        have o4 := OQ.out.box.cell (k := 4) rfl
        have o5 := OQ.out.box.cell (k := 5) rfl
        have zf := ZR.frozen
        go_wp2_with fail
        obtain ⟨W9, hW9⟩ : ∃ W9, W9 = ((((((WQ.setCell ⟨n2, 0, none⟩ (.int .i64 5)).setCell ⟨n2, 1, none⟩ (.bool false)).setCell ⟨n2, 2, none⟩ (.int .i64 0)).setCell ⟨n2, 3, none⟩ (.string ⟨#[]⟩)).setCell ⟨n2, 4, none⟩ (.slice ra nl rc)).setCell ⟨n2, 5, none⟩ (.slice qa nk qc)) := ⟨_, rfl⟩
        rw [← hW9]
        obtain ⟨⟨cs', G4, h1, h2⟩, h3, h4, h5⟩ := six_set ZR 0 _ _ _ _ _ _ W9 hW9
        obtain ⟨q0, q1, q2, q3, q4, q5⟩ := h1 (by decide)
        have u0 : W9.cell? ⟨n2, 0, none⟩ = _ := G4.cell q0
        have u1 : W9.cell? ⟨n2, 1, none⟩ = _ := G4.cell q1
        have u2 : W9.cell? ⟨n2, 2, none⟩ = _ := G4.cell q2
        have u3 : W9.cell? ⟨n2, 3, none⟩ = _ := G4.cell q3
        have u4 : W9.cell? ⟨n2, 4, none⟩ = _ := G4.cell q4
        have u5 : W9.cell? ⟨n2, 5, none⟩ = _ := G4.cell q5
        have hnn := HNN.out
        have hB := h5 w.heap.size w (by omega) (B3.out.trans (OQ.out.bel.mono B3.out.size))
        have hFr : From (W3.heap.size + 1) WQ W9 := ⟨by omega, fun b hb _ => h3 b (by omega)⟩
        have hlen := (ins_perm (pn, Vl.mk pk pt pi ps pl pks) l).length_eq
        rw [List.length_cons] at hlen
        have en := HNK.out
        have e1 : nk = (insM (pn, Vl.mk pk pt pi ps pl pks) l).length := by rw [en.1, HKP.out.1, List.length_map, HAE.out]
        have e2 : nl = (insM (pn, Vl.mk pk pt pi ps pl pks) l).length := by rw [en.2, HKP.out.2, List.length_map, HAE.out]
        have hfin : ∀ w2, From w.heap.size W9 w2 → ReadsStr w2 qa ((insM (pn, Vl.mk pk pt pi ps pl pks) l).map (·.1)) ∧ RowAt wb w2 m ra ((insM (pn, Vl.mk pk pt pi ps pl pks) l).map (·.2)) := by
          intro w2 hf
          rw [HAE.out, ← HKP.out.1, ← HKP.out.2]
          exact HRW.out w2 (hFr.trans (hf.mono (by have := B3.out.size; omega)))
        refine bodyPost_ret (v := .agg #[.int .i64 5, .bool false, .int .i64 0, .string ⟨#[]⟩, (.slice ra nl rc), (.slice qa nk qc)]) (by simp [results, Tryz.f50, go_sem, u0, u1, u2, u3, u4, u5]) rfl ⟨ra, rc, qa, qc, by rw [← e1, e2, ← e1], ?_, rb2, ?_, qb2, hfin, hB⟩
        · rw [← e2]; exact rb1
        · rw [← e1]; exact qb1
end Go.Proofs.YtabopneehhnhfaaGreatDoor
