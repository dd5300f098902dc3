/- Two rows that grow in turn: the names and the values of a map to be (value). Contract of the program's Map where the entries have no error (value). Contract of the program's Map (value); the example's map. -/
import Derived.Test.YtabopneehhnhfaaGreatDoorVluY
import Derived.Test.YtabopneehhnhfaaGreatDoorVluZe
namespace Go.Proofs.YtabopneehhnhfaaGreatDoor
open Go.RowKit Go.Lib

theorem own_grown {w w' : World} {B n size : Nat} {t : TypeId} {v : Value} {xs : List Value} {ob : Option Nat} (h : w.ownsRow B t size v n xs) (hg : w.grownBy w' ob) (hne : ∀ g, v.ownBlock = some g → ob ≠ some g) : w'.ownsRow B t size v n xs := by
  obtain ⟨h1, h2 | ⟨g, cap, cur, rfl, hB, hh, r⟩⟩ := h
  · exact ⟨h1, .inl h2⟩
  · exact ⟨h1, .inr ⟨g, cap, cur, rfl, hB, (hg.block g (Array.getElem?_eq_some_iff.1 hh).1 (fun e => hne g rfl e.symm)).trans hh, r⟩⟩
/-- Rows of two types lie in two blocks. -/
theorem rows_differ {w : World} {B B' n n' s s' : Nat} {t t' : TypeId} {v u : Value} {xs ys : List Value} (h : w.ownsRow B t s v n xs) (h' : w.ownsRow B' t' s' u n' ys) (ht : t ≠ t') : ∀ g, v.ownBlock = some g → u.ownBlock ≠ some g := by
  intro g e1 e2
  rcases h.2 with ⟨rfl, _⟩ | ⟨g1, cap, cur, rfl, _, hh, _⟩
  · simp [Value.ownBlock] at e1
  rcases h'.2 with ⟨rfl, _⟩ | ⟨g2, cap2, cur2, rfl, _, hh2, _⟩
  · simp [Value.ownBlock] at e2
  simp only [Value.ownBlock, Option.some.injEq] at e1 e2
  subst e1; subst e2
  rw [hh] at hh2
  injection hh2 with q
  injection q with _ q2 _
  exact ht q2
theorem RowV.grownU {N m : Nat} {w w' : World} {v u u' : Value} {l : List Vl} {j : Nat} (h : RowV N m w v u l j) (hg : w.grownBy w' u.ownBlock) (hu : ∀ g, u'.ownBlock = some g → u.ownBlock = some g ∨ g = w.heap.size) (hne : ∀ g, v.ownBlock = some g → u.ownBlock ≠ some g) : RowV N m w' v u' l j := by
  obtain ⟨xs, h1, h2⟩ := h
  exact ⟨xs, own_grown h1 hg hne, fun q hq => (h2 q hq).mono (fun _ _ _ => rfl) (fun _ _ _ _ h => ((h.swap).grown hg hu).swap)⟩
theorem RowV.set {N m : Nat} {w : World} {v u : Value} {l : List Vl} {j : Nat} (h : RowV N m w v u l j) {b : Nat} (hb : b < N) (k : Nat) (x : Value) : RowV N m (w.setCell ⟨b, k, none⟩ x) v u l j := by
  obtain ⟨xs, h1, h2⟩ := h
  exact ⟨xs, own_from h1 (From.set hb k x), fun q hq => (h2 q hq).mono (fun _ _ _ => rfl) (fun _ _ _ _ h => h.set hb k x)⟩
/-- A further value. -/
theorem RowV.snoc {N m : Nat} {w w' : World} {v v' u : Value} {l : List Vl} {j : Nat} {xs : List Value} {k : Int} {t : Bool} {i : Int} {s : ByteArray} {l' : List Vl} {ks : List (List UInt8)} {av kv : Option Addr} {c kc : Nat} (e : l[j]? = some (.mk k t i s l' ks))
    (g : (-9223372036854775808 ≤ k ∧ k ≤ 9223372036854775807) ∧ (-9223372036854775808 ≤ i ∧ i ≤ 9223372036854775807) ∧ s.size ≤ 140737488351232 ∧ l'.length * 88 ≤ 140737488351232 ∧ l'.length ≤ c ∧ c ≤ 9223372036854775807 ∧ ks.length * 16 ≤ 140737488351232 ∧ ks.length ≤ kc ∧ kc ≤ 9223372036854775807 ∧ (∀ x, x ∈ ks → x.length ≤ 140737488351232))
    (hx : xs.length = j * 6) (hels : ∀ q, q < j → El l xs.toArray (fun kv ks av l' => Apart2 N m w v u kv ks av l') q) (hap : Apart2 N m w v u kv ks av l') (hg : w.grownBy w' v.ownBlock) (hv : ∀ g, v'.ownBlock = some g → v.ownBlock = some g ∨ g = w.heap.size)
    (ho : w'.ownsRow N 25 6 v' (j + 1) (xs ++ [.int .i64 k, .bool t, .int .i64 i, .string s, .slice av l'.length c, .slice kv ks.length kc])) : RowV N m w' v' u l (j + 1) := by
  refine ⟨_, ho, fun q hq => ?_⟩
  by_cases hqj : q < j
  · exact (el_app (hels q hqj) hqj hx).mono (fun _ _ _ => rfl) (fun _ _ _ _ h => h.grown hg hv)
  · obtain rfl : q = j := by omega
    exact el_snoc hx e g (hap.grown hg hv)
/-- What the row's values lie apart from may grow by a block of its own. -/
theorem lies_own {v : Value} {g n cap z : Nat} (h : v.ownBlock = some g ∨ g = z) : ∀ g', (Value.slice (some ⟨g, 0, none⟩) n cap).ownBlock = some g' → v.ownBlock = some g' ∨ g' = z := by
  intro g' e
  simp only [Value.ownBlock, Option.some.injEq] at e
  subst e
  exact h
end Go.Proofs.YtabopneehhnhfaaGreatDoor
namespace Go.Proofs.YtabopneehhnhfaaGreatDoor
open Go.RowKit Go.Lib

theorem mapV_eq (l : List Vr) : mapV l = .mk 5 false 0 ⟨#[]⟩ ((sortM l).map (·.2)) ((sortM l).map (·.1)) := rfl
set_option maxRecDepth 100000 in
set_option maxHeartbeats 4000000 in
theorem map_some (m : Nat) (p : Addr) (l : List Vr) (c : Nat) (w : World) (hr : ReadsR m w (some p) l) (h0 : errVs l = 0) (hne : l ≠ []) :
    Calls Tryz.prog 21 #[.slice (some p) l.length c] w fun e w' => ∃ R, e = .returned (.tuple #[R, .int .i64 0]) ∧ Stb w.heap.size w' (fun w2 => IsV (m + 1) w2 R (mapV l)) ∧ Below w.heap.size w w' := by
  have hl4 : l.length ≤ 1024 := by
    unfold errVs at h0
    split at h0
    · cases h0
    · omega
  have hone : Once l := by
    unfold errVs at h0
    rw [if_neg (by omega)] at h0
    exact (errM_once l [] h0).1
  have M := Lib.hid (fun w' (hb : Below w.heap.size w w') => by have h := validVars_any m (some p) l c w' (hr.below hb) (by omega); rwa [h0] at h)
  obtain ⟨Q, hQ1, hQ2, hQ3⟩ := raws hr
  have hQl : Q.length = l.length := by rw [← hQ1, List.length_map]
  have CL := Lib.hid (fun w' (hb : Below w.heap.size w w') => cloneR_own m p l c (by omega) w' (hr.below hb))
  have CC := Lib.hid (fun w1 w2 v' (hb : Below w.heap.size w w1) ho => clone_cells (w1 := w1) (w2 := w2) (v' := v') hr hb hQl hQ3 ho hne)
  have ST := Lib.hid (fun w1 g cap h1 h2 h3 => sortVars_any m w w1 g cap Q l hQ1 hQ2 hone h1 h2 h3 (by omega))
  have HQ := Lib.hid hQl
  have B0 := Lib.hid ((Below.refl w.heap.size w).alloc (Nat.le_refl _) (.cells #[.int .i64 0, .bool false, .int .i64 0, .string ⟨#[]⟩, .slice none 0 0, .slice none 0 0] 25))
  have Z0 := CellsAt.new w 25 #[.int .i64 0, .bool false, .int .i64 0, .string ⟨#[]⟩, .slice none 0 0, .slice none 0 0]
  have hkn : ∀ q, q ∈ l → q.1.length ≤ 140737488351232 := by
    intro q hq
    obtain ⟨j, hj, rfl⟩ := List.getElem_of_mem hq
    obtain ⟨b, off, n, k, t, i, s, l', ks, av, c, kv, kc, g0, g1, g2, c0, c1, c2, c3, c4, c5, c6, gn, _⟩ := hr j hj
    rw [(List.getElem?_eq_some_iff.1 g0).2]
    exact gn
  obtain ⟨K, hK⟩ : ∃ K, K = (sortM l).map (·.1) := ⟨_, rfl⟩
  obtain ⟨L, hL⟩ : ∃ L, L = (sortM l).map (·.2) := ⟨_, rfl⟩
  have HE := Lib.hid (show mapV l = .mk 5 false 0 ⟨#[]⟩ L K by rw [hK, hL]; rfl)
  have hsl : (sortM l).length = l.length := (sortM_perm l).length_eq
  have HKL := Lib.hid (show K.length = Q.length ∧ L.length = Q.length ∧ Q.length ≤ 1024 ∧ ∀ x, x ∈ K → x.length ≤ 140737488351232 by
    refine ⟨by rw [hK, List.length_map]; omega, by rw [hL, List.length_map]; omega, by omega, fun x hx => ?_⟩
    rw [hK] at hx
    obtain ⟨q, hq, rfl⟩ := List.mem_map.1 hx
    exact hkn q ((sortM_perm l).mem_iff.1 hq))
  have HKE := Lib.hid (And.intro hK hL)
  have hQ4 : Q.length ≤ 1024 := by omega
  rw [HE.out]
  clear hr h0 hone hQ1 hQ2 hQ3 hQl hne hkn hsl hK hL hl4 HE
  go_enter Tryz.func21, Tryz.ntmps21
  go_wp2_with fail
  go_fit (M.out _ B0.out)
  rintro e w1 ⟨rfl, hb1⟩
  have B1 := Lib.hid (B0.out.trans (hb1.mono B0.out.size))
  have Z1 := Lib.hid (Z0.below hb1)
  clear hb1 Z0 B0
  go_wp2_with fail
  go_fit (CL.out _ B1.out)
  rintro e w2 ⟨v', rfl, ho2, hb2⟩
  obtain ⟨g, cap, rfl, hg1, hg2, hcells, hfr⟩ := CC.out _ _ _ B1.out ho2
  have B2 := Lib.hid (B1.out.trans (hb2.mono B1.out.size))
  have Z2 := Lib.hid (Z1.out.below hb2)
  have hz1 := Z1.out.lt
  have HC := Lib.hid (And.intro hcells hfr)
  clear hb2 ho2 hcells hfr Z1
  go_wp2_with fail
  go_fit (ST.out _ _ _ hg2 HC.out.1 HC.out.2)
  rintro e w3 ⟨rfl, Q', hq1, hq2, hq3, hq4, hq5, hq6, hq7⟩
  have HS := Lib.hid (And.intro hq1 (And.intro hq2 (And.intro hq3 hq4)))
  have B3 := Lib.hid (hq7 B2.out (Nat.le_trans B1.out.size hg1))
  have Z3 := Lib.hid (Z2.out.of_block (hq6 _ (by have := Z2.out.lt; omega) Z2.out.lt))
  have hg3 : g < w3.heap.size := Nat.lt_of_lt_of_le hg2 hq5
  clear hq1 hq2 hq3 hq4 hq5 hq6 hq7 HC Z2 B1 hg1
  go_wp2_with fail
  have C0 := Lib.hid (CellsAt.new w3 25 #[.int .i64 5, .bool false, .int .i64 0, .string ⟨#[]⟩, .slice none 0 0, .slice none 0 0])
  have N0 := Lib.hid ((Below.refl w3.heap.size w3).alloc (Nat.le_refl _) (.cells #[.int .i64 5, .bool false, .int .i64 0, .string ⟨#[]⟩, .slice none 0 0, .slice none 0 0] 25))
  have V0 := Lib.hid (RowV.nil (w3.heap.size + 1) m (w3.alloc (.cells #[.int .i64 5, .bool false, .int .i64 0, .string ⟨#[]⟩, .slice none 0 0, .slice none 0 0] 25)) (.slice none 0 0) L)
  have K0 := Lib.hid (World.ownsRow_nil (w3.alloc (.cells #[.int .i64 5, .bool false, .int .i64 0, .string ⟨#[]⟩, .slice none 0 0, .slice none 0 0] 25)) (w3.heap.size + 1) 9 1)
  go_loopw [22] (fun s22 wr => ∃ (j : Nat) (kv lv : Value), j ≤ Q.length ∧ s22 = .int .i64 (j : Int) ∧ Hid (CellsAt wr w3.heap.size 25 #[.int .i64 5, .bool false, .int .i64 0, .string ⟨#[]⟩, lv, kv]) ∧ Hid (RowV (w3.heap.size + 1) m wr lv kv L j) ∧ Hid (wr.ownsRow (w3.heap.size + 1) 9 1 kv j ((K.take j).map strV)) ∧ Hid (Below w3.heap.size w3 wr)) (fun s22 _ => Q.length - (RowKit.intOf s22).toNat)
  case atStart => exact ⟨0, .slice none 0 0, .slice none 0 0, by omega, rfl, C0, V0, K0, N0⟩
  case round =>
    obtain ⟨j, kv, lv, hj, rfl, C, HV, HK, HB⟩ := hrel
    clear C0 V0 K0 N0
    have hzr := C.out.lt
    by_cases hlt : j < Q.length
    · obtain ⟨s1, s2, s3, s4⟩ := HS.out
      have hjq : j < Q'.length := by omega
      obtain ⟨k1, t1, i1, x1, l1, ks1, av1, c1, kv1, kc1, hp, a1, a2, a3, a4, a5, a6, hIs⟩ := s3 _ (List.getElem_mem hjq)
      have e0 : w3.cell? ⟨g, j * 7, none⟩ = some (.string ⟨(Q'[j]).1.n.toArray⟩) := s4 j 0 hjq (by decide)
      have e1 : w3.cell? ⟨g, j * 7 + 1, none⟩ = some (.int .i64 k1) := (s4 j 1 hjq (by decide)).trans (congrArg some a1)
      have e2 : w3.cell? ⟨g, j * 7 + 2, none⟩ = some (.bool t1) := (s4 j 2 hjq (by decide)).trans (congrArg some a2)
      have e3 : w3.cell? ⟨g, j * 7 + 3, none⟩ = some (.int .i64 i1) := (s4 j 3 hjq (by decide)).trans (congrArg some a3)
      have e4 : w3.cell? ⟨g, j * 7 + 4, none⟩ = some (.string x1) := (s4 j 4 hjq (by decide)).trans (congrArg some a4)
      have e5 : w3.cell? ⟨g, j * 7 + 5, none⟩ = some (.slice av1 l1.length c1) := (s4 j 5 hjq (by decide)).trans (congrArg some a5)
      have e6 : w3.cell? ⟨g, j * 7 + 6, none⟩ = some (.slice kv1 ks1.length kc1) := (s4 j 6 hjq (by decide)).trans (congrArg some a6)
      have hsj : (sortM l)[j]? = some (Q'[j]).2 := by rw [← s1, List.getElem?_map, List.getElem?_eq_getElem hjq]; rfl
      have hLj : L[j]? = some (.mk k1 t1 i1 x1 l1 ks1) := by rw [HKE.out.2, List.getElem?_map, hsj, hp]; rfl
      have hKj : K[j]? = some (Q'[j]).1.n := by rw [HKE.out.1, List.getElem?_map, hsj, hp]; rfl
      have hKs : (K.take (j + 1)).map strV = (K.take j).map strV ++ [.string ⟨(Q'[j]).1.n.toArray⟩] := by
        have hjk : j < K.length := by have := HKL.out.1; omega
        rw [List.take_succ_eq_append_getElem hjk, List.map_append, List.map_cons, List.map_nil, (List.getElem?_eq_some_iff.1 hKj).2]
        rfl
      obtain ⟨kn, hkn⟩ : ∃ kn : ByteArray, kn = ⟨(Q'[j]).1.n.toArray⟩ := ⟨_, rfl⟩
      rw [← hkn] at e0 hKs
      have HKS := Lib.hid hKs
      have HLJ := Lib.hid hLj
      have p0 := (HB.out.cell (p := ⟨g, _, none⟩) hg3).trans e0
      have p1 := (HB.out.cell (p := ⟨g, _, none⟩) hg3).trans e1
      have p2 := (HB.out.cell (p := ⟨g, _, none⟩) hg3).trans e2
      have p3 := (HB.out.cell (p := ⟨g, _, none⟩) hg3).trans e3
      have p4 := (HB.out.cell (p := ⟨g, _, none⟩) hg3).trans e4
      have p5 := (HB.out.cell (p := ⟨g, _, none⟩) hg3).trans e5
      have p6 := (HB.out.cell (p := ⟨g, _, none⟩) hg3).trans e6
      have m5 : wr.cell? ⟨w3.heap.size, 5, none⟩ = some kv := C.out.cell rfl
      have F := Lib.hid (fun w' (hb : Below w3.heap.size w3 w') => copied_any m (.agg #[.int .i64 k1, .bool t1, .int .i64 i1, .string x1, .slice av1 l1.length c1, .slice kv1 ks1.length kc1]) (.mk k1 t1 i1 x1 l1 ks1) w' (IsV.below hIs (B3.out.trans (hb.mono B3.out.size))))
      have hjI : (j : Int) < (Q.length : Int) := by omega
      have hj00 : (0 : Int) ≤ (j : Int) := by omega
      clear e0 e1 e2 e3 e4 e5 e6 hsj hLj hKj hKs hkn s1 s2 s3 s4 hp a1 a2 a3 a4 a5 a6 hIs
      obtain ⟨i0, hi, hq0, hq1, hq2⟩ := info_parts infoStr
      obtain ⟨i9, hi9, hq90, hq91, hq92⟩ := info_parts infoVal
      have HO := Lib.hid ((HK.out.alloc (.cells #[.string kn, .int .i64 k1, .bool t1, .int .i64 i1, .string x1, .slice av1 l1.length c1, .slice kv1 ks1.length kc1] 55)).alloc (.cells #[.string kn] 9))
      have NW : ∀ jj u, [Value.string kn][jj]? = some u → ((wr.alloc (.cells #[.string kn, .int .i64 k1, .bool t1, .int .i64 i1, .string x1, .slice av1 l1.length c1, .slice kv1 ks1.length kc1] 55)).alloc (.cells #[.string kn] 9)).cell? ((⟨wr.heap.size + 1, 0, none⟩ : Addr).add jj) = some u := World.news_of_block (by have h := heap_alloc_new (wr.alloc (.cells #[.string kn, .int .i64 k1, .bool t1, .int .i64 i1, .string x1, .slice av1 l1.length c1, .slice kv1 ks1.length kc1] 55)) (.cells #[.string kn] 9); simpa using h)
      have hzs : w3.heap.size + 1 ≤ ((wr.alloc (.cells #[.string kn, .int .i64 k1, .bool t1, .int .i64 i1, .string x1, .slice av1 l1.length c1, .slice kv1 ks1.length kc1] 55)).alloc (.cells #[.string kn] 9)).heap.size := by simp; omega
      have VB0 := Lib.hid ((CellsAt.new wr 55 #[.string kn, .int .i64 k1, .bool t1, .int .i64 i1, .string x1, .slice av1 l1.length c1, .slice kv1 ks1.length kc1]).alloc (.cells #[.string kn] 9))
      have CM0 := Lib.hid ((C.out.alloc (.cells #[.string kn, .int .i64 k1, .bool t1, .int .i64 i1, .string x1, .slice av1 l1.length c1, .slice kv1 ks1.length kc1] 55)).alloc (.cells #[.string kn] 9))
      have BB0 := Lib.hid ((HB.out.alloc HB.out.size (.cells #[.string kn, .int .i64 k1, .bool t1, .int .i64 i1, .string x1, .slice av1 l1.length c1, .slice kv1 ks1.length kc1] 55)).alloc (by simp; have := HB.out.size; omega) (.cells #[.string kn] 9))
      have HV0 := Lib.hid ((HV.out.below ((Below.refl _ wr).alloc (Nat.le_refl _) (.cells #[.string kn, .int .i64 k1, .bool t1, .int .i64 i1, .string x1, .slice av1 l1.length c1, .slice kv1 ks1.length kc1] 55))).below ((Below.refl _ _).alloc (Nat.le_refl _) (.cells #[.string kn] 9)))
      have NE := Lib.hid (show ∀ b, some b = kv.ownBlock → w3.heap.size + 1 ≤ b ∧ b < wr.heap.size from fun b e => HK.out.lt b e.symm)
      go_wp2_with (at_builtin; refine wpList_append_lies _ rfl _ _ 23 rfl (w3.heap.size + 1) 9 i0 _ 1 16 Tryz.underlying23 hi hq0 hq1 hq2 rfl (by decide) kv j _ rfl HO.out ⟨wr.heap.size + 1, 0, none⟩ 1 1 [.string kn] rfl rfl NW (by intro u hu; simp at hu; subst hu; rfl) (by decide) (by unfold maxLen; omega) (by omega) hzs _ rfl ?_)
      intro gk capk w4 ho4 hg4 hat4 hlt4
      have CM4 : CellsAt w4 w3.heap.size 25 #[.int .i64 5, .bool false, .int .i64 0, .string ⟨#[]⟩, lv, kv] := CM0.out.of_block (hg4.block _ CM0.out.lt (fun e => by have := (NE.out _ e).1; omega))
      have VB4 := VB0.out.of_block (hg4.block _ VB0.out.lt (fun e => by have := (NE.out _ e).2; omega))
      have BB4 := BB0.out.grown hg4 (by have := BB0.out.size; omega) (fun k hk => by have := (NE.out k hk.symm).1; omega)
      have HV4 : RowV (w3.heap.size + 1) m w4 lv (.slice (some ⟨gk, 0, none⟩) (j + 1) capk) L j := by
        obtain ⟨xs, h1, h2⟩ := HV0.out
        exact RowV.grownU ⟨xs, h1, h2⟩ hg4 (lies_own (hat4.imp id (fun h => by simpa using h))) (rows_differ h1 HO.out (by decide))
      have HK4 := Lib.hid ho4
      have f5 := CM4.frozen 5
      have z5 : w4.cell? ⟨w3.heap.size, 5, none⟩ = some kv := CM4.cell rfl
      clear ho4 hg4 hat4 hlt4 HO NW VB0 CM0 BB0 HV0 p0 p1 p2 p3 p4 p5 p6 m5 NE
      have C5 : CellsAt (w4.setCell ⟨w3.heap.size, 5, none⟩ (.slice (some ⟨gk, 0, none⟩) (j + 1) capk)) w3.heap.size 25 #[.int .i64 5, .bool false, .int .i64 0, .string ⟨#[]⟩, lv, (.slice (some ⟨gk, 0, none⟩) (j + 1) capk)] := CM4.set 5 (.slice (some ⟨gk, 0, none⟩) (j + 1) capk)
      have VB5 := VB4.other (show wr.heap.size ≠ w3.heap.size by omega) 5 (.slice (some ⟨gk, 0, none⟩) (j + 1) capk)
      have BB5 := Lib.hid (BB4.setCell (p := ⟨w3.heap.size, 5, none⟩) (Nat.le_refl _) (.slice (some ⟨gk, 0, none⟩) (j + 1) capk))
      have HV5 := Lib.hid (HV4.set (Nat.lt_succ_self _) 5 (.slice (some ⟨gk, 0, none⟩) (j + 1) capk))
      have HK5 := Lib.hid (own_from HK4.out (From.set (Nat.lt_succ_self _) 5 (.slice (some ⟨gk, 0, none⟩) (j + 1) capk)))
      clear CM4 VB4 BB4 HV4 HK4
      have C5 := Lib.hid C5
      have VB5 := Lib.hid VB5
      go_wp2_with fail
      obtain ⟨W5, hW5⟩ : ∃ W5, W5 = w4.setCell ⟨w3.heap.size, 5, none⟩ (.slice (some ⟨gk, 0, none⟩) (j + 1) capk) := ⟨_, rfl⟩
      rw [← hW5] at C5 VB5 BB5 HV5 HK5 ⊢
      clear hW5 f5 z5
      obtain ⟨xs, hown, hels⟩ := HV5.out
      have HXL := Lib.hid hown.1
      have C5d := C5.out.drew
      have VB5d := VB5.out.drew
      have y1 : W5.drew.cell? ⟨wr.heap.size, 1, none⟩ = some (.int .i64 k1) := VB5d.cell rfl
      have y2 : W5.drew.cell? ⟨wr.heap.size, 2, none⟩ = some (.bool t1) := VB5d.cell rfl
      have y3 : W5.drew.cell? ⟨wr.heap.size, 3, none⟩ = some (.int .i64 i1) := VB5d.cell rfl
      have y4 : W5.drew.cell? ⟨wr.heap.size, 4, none⟩ = some (.string x1) := VB5d.cell rfl
      have y5 : W5.drew.cell? ⟨wr.heap.size, 5, none⟩ = some (.slice av1 l1.length c1) := VB5d.cell rfl
      have y6 : W5.drew.cell? ⟨wr.heap.size, 6, none⟩ = some (.slice kv1 ks1.length kc1) := VB5d.cell rfl
      have y7 : W5.drew.cell? ⟨w3.heap.size, 4, none⟩ = some lv := C5d.cell rfl
      have BD := Lib.hid BB5.out.drew
      have HC5 := Lib.hid C5d
      have HOW := Lib.hid (own_from (w2 := W5.drew) hown (From.of_below (Below.refl _ _).drew))
      have HEL := Lib.hid (show ∀ q, q < j → El L xs.toArray (fun kv ks av l' => Apart2 (w3.heap.size + 1) m W5.drew lv (.slice (some ⟨gk, 0, none⟩) (j + 1) capk) kv ks av l') q from fun q hq => (hels q hq).mono (fun _ _ _ => rfl) (fun _ _ _ _ h => h.below (Below.refl _ _).drew))
      have HK6 := Lib.hid (own_from (w2 := W5.drew) HK5.out (From.of_below (Below.refl _ _).drew))
      have hz5 : w3.heap.size + 1 ≤ W5.drew.heap.size := HC5.out.lt
      clear hown hels C5d VB5d
      have hm1 : j + 1 ≤ maxLen := by unfold maxLen; omega
      have hm2 : (j + 1) * 88 ≤ 140737488355328 := by omega
      go_region_law (first
        | (refine step_append_lies _ rfl _ _ 22 rfl (w3.heap.size + 1) 25 i9 _ 6 88 Tryz.underlying22 hi9 hq90 hq91 hq92 rfl (by decide) lv j xs rfl (HO6.alloc _) ⟨w6.heap.size, 0, none⟩ 1 1 [.int .i64 k1, .bool t1, .int .i64 i1, .string x1, .slice av3 l1.length c3, .slice kv3 ks1.length kc3] rfl rfl (World.news_of_block (heap_alloc_new _ _)) (by intro u hu; simp at hu; rcases hu with rfl | rfl | rfl | rfl | rfl | rfl <;> rfl) (by decide) hm1 hm2 hz6 _ rfl ?_; intro g7 cap7 w7 ho7 hg7 hat7 hlt7; have C7 := (C6.alloc (.cells #[.int .i64 k1, .bool t1, .int .i64 i1, .string x1, .slice av3 l1.length c3, .slice kv3 ks1.length kc3] 25)).of_block (hg7.block _ (C6.alloc _).lt (fun e => by have := (HO6.lt _ e.symm).1; omega)); have f7 := C7.frozen 4; have b8 : w7.cell? ⟨w3.heap.size, 4, none⟩ = some lv := C7.cell rfl)
        | (go_simp; go_at_call 47; go_fit (F.out _ BD.out); rintro e w6 ⟨R, rfl, hR, hb6⟩; obtain ⟨av3, c3, kv3, kc3, rfl, x0, x2, x3, x4, x5, x6, x7, x8, x9, x10, hN⟩ := isV_stb hR; have C6 := HC5.out.below hb6; have b6 : w6.cell? ⟨w3.heap.size, 4, none⟩ = some lv := C6.cell rfl; have b7 : ∀ o, (w6.alloc o).cell? ⟨w3.heap.size, 4, none⟩ = some lv := fun o => (C6.alloc o).cell rfl; have HO6 := own_from HOW.out (From.of_below hb6); have hz6 : w3.heap.size + 1 ≤ (w6.alloc (.cells #[.int .i64 k1, .bool t1, .int .i64 i1, .string x1, .slice av3 l1.length c3, .slice kv3 ks1.length kc3] 25)).heap.size := by have := hb6.size; simp; omega))
      all_goals
        clear y1 y2 y3 y4 y5 y6 y7 b6 b7 b8 f7
        have hal : Below w6.heap.size w6 (w6.alloc (.cells #[.int .i64 k1, .bool t1, .int .i64 i1, .string x1, .slice av3 l1.length c3, .slice kv3 ks1.length kc3] 25)) := (Below.refl _ _).alloc (Nat.le_refl _) _
        have HKA := ((own_from HK6.out (From.of_below hb6)).alloc (.cells #[.int .i64 k1, .bool t1, .int .i64 i1, .string x1, .slice av3 l1.length c3, .slice kv3 ks1.length kc3] 25))
        have HRV : RowV (w3.heap.size + 1) m w7 (.slice (some ⟨g7, 0, none⟩) (j + 1) cap7) (.slice (some ⟨gk, 0, none⟩) (j + 1) capk) L (j + 1) := RowV.snoc HLJ.out ⟨x0, x2, x3, x4, x5, x6, x7, x8, x9, x10⟩ HXL.out (fun q hq => (HEL.out q hq).mono (fun _ _ _ => rfl) (fun _ _ _ _ h => (h.below hb6).below hal)) (Apart2.below (w := w6) ⟨W5.drew.heap.size, w6.heap.size, hz5, StbI.of hN, fun b e => .inl (HOW.out.lt b e).2, fun b e => .inl (HK6.out.lt b e).2⟩ hal) hg7 (lies_own (hat7.imp id (fun h => by simpa using h))) ho7
        have HK7 := own_grown HKA hg7 (fun b e1 e2 => rows_differ HKA (HO6.alloc _) (by decide) b e1 e2)
        have B7 := ((BD.out.trans (hb6.mono (by omega))).alloc (by have := hb6.size; omega) (.cells #[.int .i64 k1, .bool t1, .int .i64 i1, .string x1, .slice av3 l1.length c3, .slice kv3 ks1.length kc3] 25)).grown hg7 (by have := hb6.size; simp; omega) (fun k hk => by have := (HO6.lt k hk).1; omega)
        have HK8 := Lib.hid (own_from HK7 (From.set (Nat.lt_succ_self _) 4 (.slice (some ⟨g7, 0, none⟩) (j + 1) cap7)))
        have HV8 := Lib.hid (HRV.set (Nat.lt_succ_self _) 4 (.slice (some ⟨g7, 0, none⟩) (j + 1) cap7))
        have C8 : Hid (CellsAt (w7.setCell ⟨w3.heap.size, 4, none⟩ (.slice (some ⟨g7, 0, none⟩) (j + 1) cap7)) w3.heap.size 25 #[.int .i64 5, .bool false, .int .i64 0, .string ⟨#[]⟩, (.slice (some ⟨g7, 0, none⟩) (j + 1) cap7), (.slice (some ⟨gk, 0, none⟩) (j + 1) capk)]) := Lib.hid (C7.set 4 (.slice (some ⟨g7, 0, none⟩) (j + 1) cap7))
        have B8 := Lib.hid (B7.setCell (p := ⟨w3.heap.size, 4, none⟩) (Nat.le_refl _) (.slice (some ⟨g7, 0, none⟩) (j + 1) cap7))
        clear hal HKA HRV HK7 B7 C7 HO6 C6 hb6 hR hN ho7 hg7 hat7 hlt7 hz6 x0 x2 x3 x4 x5 x6 x7 x8 x9 x10
        go_wp2_with fail
        exact ⟨⟨j + 1, (.slice (some ⟨gk, 0, none⟩) (j + 1) capk), (.slice (some ⟨g7, 0, none⟩) (j + 1) cap7), by omega, by go_num, C8, HV8, Lib.hid (by rw [HKS.out]; simpa [List.map_take] using HK8.out), B8⟩, by simp [RowKit.intOf]; omega⟩
    · obtain rfl : j = Q.length := by omega
      have hjI : ¬ (Q.length : Int) < (Q.length : Int) := by omega
      obtain ⟨la, lc, rfl, hl1, hl2, hl3⟩ := RowV.reads (l := L) (by rw [HKL.out.2.1]; exact HV.out)
      have hKt : K.take Q.length = K := List.take_of_length_le (by have := HKL.out.1; omega)
      have HKo := HK.out
      rw [hKt] at HKo
      obtain ⟨ka, kc, rfl, hk1, hk2, _⟩ := own_readsS HKo HKL.out.1.symm
      have HST := Lib.hid (show Stb (w3.heap.size + 1) wr (fun w2 => ReadsStr w2 ka K) from fun w2 hf => by
        obtain ⟨ka2, kc2, e, _, _, h5⟩ := own_readsS (own_from HKo hf) HKL.out.1.symm
        cases e
        exact h5)
      have HLT := Lib.hid hl3
      have HLL := Lib.hid (And.intro hl1 (And.intro hl2 (And.intro hk1 hk2)))
      have c0 : wr.cell? ⟨w3.heap.size, 0, none⟩ = some (.int .i64 5) := C.out.cell rfl
      have c1 : wr.cell? ⟨w3.heap.size, 1, none⟩ = some (.bool false) := C.out.cell rfl
      have c2 : wr.cell? ⟨w3.heap.size, 2, none⟩ = some (.int .i64 0) := C.out.cell rfl
      have c3 : wr.cell? ⟨w3.heap.size, 3, none⟩ = some (.string ⟨#[]⟩) := C.out.cell rfl
      have c4 : wr.cell? ⟨w3.heap.size, 4, none⟩ = some (.slice la L.length lc) := C.out.cell rfl
      have c5 : wr.cell? ⟨w3.heap.size, 5, none⟩ = some (.slice ka K.length kc) := C.out.cell rfl
      clear hl1 hl2 hl3 hk1 hk2 HKo hKt
      have ZR := Z3.out.below HB.out
      have z0 : wr.cell? ⟨w.heap.size, 0, none⟩ = some (.int .i64 0) := ZR.cell rfl
      have z1 : wr.cell? ⟨w.heap.size, 1, none⟩ = some (.bool false) := ZR.cell rfl
      have z2 : wr.cell? ⟨w.heap.size, 2, none⟩ = some (.int .i64 0) := ZR.cell rfl
      have z3 : wr.cell? ⟨w.heap.size, 3, none⟩ = some (.string ⟨#[]⟩) := ZR.cell rfl
      have z4 : wr.cell? ⟨w.heap.size, 4, none⟩ = some (.slice none 0 0) := ZR.cell rfl
      have z5 : wr.cell? ⟨w.heap.size, 5, none⟩ = some (.slice none 0 0) := ZR.cell rfl
      have zf := ZR.frozen
      go_wp2_with fail
      obtain ⟨W9, hW9⟩ : ∃ W9, W9 = (((((wr.setCell ⟨w.heap.size, 0, none⟩ (.int .i64 5)).setCell ⟨w.heap.size, 1, none⟩ (.bool false)).setCell ⟨w.heap.size, 2, none⟩ (.int .i64 0)).setCell ⟨w.heap.size, 3, none⟩ (.string ⟨#[]⟩)).setCell ⟨w.heap.size, 4, none⟩ (.slice la L.length lc)).setCell ⟨w.heap.size, 5, none⟩ (.slice ka K.length kc) := ⟨_, rfl⟩
      rw [← hW9]
      obtain ⟨⟨cs', G4, h1, h2⟩, h3, h4, h5⟩ := six_set ZR 0 _ _ _ _ _ _ W9 hW9
      obtain ⟨q0, q1, q2, q3, q4, q5⟩ := h1 (by decide)
      have u0 : W9.cell? ⟨w.heap.size, 0, none⟩ = _ := G4.cell q0
      have u1 : W9.cell? ⟨w.heap.size, 1, none⟩ = _ := G4.cell q1
      have u2 : W9.cell? ⟨w.heap.size, 2, none⟩ = _ := G4.cell q2
      have u3 : W9.cell? ⟨w.heap.size, 3, none⟩ = _ := G4.cell q3
      have u4 : W9.cell? ⟨w.heap.size, 4, none⟩ = _ := G4.cell q4
      have u5 : W9.cell? ⟨w.heap.size, 5, none⟩ = _ := G4.cell q5
      have hB := h5 w.heap.size w (Nat.le_refl _) (B3.out.trans (HB.out.mono B3.out.size))
      have hzz := Z3.out.lt
      have hFr : From (w3.heap.size + 1) wr W9 := ⟨by omega, fun b hb _ => h3 b (by omega)⟩
      obtain ⟨l1, l2, l3, l4⟩ := HLL.out
      obtain ⟨n1, n2, n3, n4⟩ := HKL.out
      refine bodyPost_ret (v := .tuple #[.agg #[.int .i64 5, .bool false, .int .i64 0, .string ⟨#[]⟩, .slice la L.length lc, .slice ka K.length kc], .int .i64 0]) (by simp [results, Tryz.f21, go_sem, u0, u1, u2, u3, u4, u5]) rfl ⟨_, rfl, ?_, hB⟩
      intro w9 hf
      have hf2 : From (w3.heap.size + 1) wr w9 := hFr.trans (hf.mono (by omega))
      exact ⟨5, false, 0, ⟨#[]⟩, L, K, la, lc, ka, kc, rfl, rfl, by decide, by decide, by decide, by omega, l1, l2, by omega, l3, by unfold maxLen at l4; omega, n4, HST.out w9 hf2, HLT.out w9 hf2⟩
end Go.Proofs.YtabopneehhnhfaaGreatDoor
namespace Go.Proofs.YtabopneehhnhfaaGreatDoor
open Go.RowKit Go.Lib

def kA : List UInt8 := [107, 50]
def kB : List UInt8 := [107, 49, 48]
def vOne : Vl := .mk 2 false 1 ⟨#[]⟩ [] []
def vA : Vl := .mk 3 false 0 ⟨#[97]⟩ [] []
def vM : Vl := .mk 5 false 0 ⟨#[]⟩ [vA, vOne] [kA, kB]
theorem e_map : mapV [(kB, vOne), (kA, vA)] = vM := by kernel_rfl
theorem e_errs : errVs [(kB, vOne), (kA, vA)] = 0 := by decide +kernel
/-- The cells of the two entries. -/
def exCells : Array Value := #[.string ⟨#[107, 49, 48]⟩, .int .i64 2, .bool false, .int .i64 1, .string ⟨#[]⟩, .slice none 0 0, .slice none 0 0, .string ⟨#[107, 50]⟩, .int .i64 3, .bool false, .int .i64 0, .string ⟨#[97]⟩, .slice none 0 0, .slice none 0 0]
theorem reads_ex {w : World} {B : Nat} (h : CellsAt w B 55 exCells) : ReadsR 0 w (some ⟨B, 0, none⟩) [(kB, vOne), (kA, vA)] := by
  intro j hj
  match j, hj with
  | 0, _ => exact ⟨B, 0, kB, 2, false, 1, ⟨#[]⟩, [], [], none, 0, none, 0, rfl, rfl, h.lt, h.cell rfl, h.cell rfl, h.cell rfl, h.cell rfl, h.cell rfl, h.cell rfl, h.cell rfl, by decide, by omega, by omega, by decide, by simp, by simp, by omega, by simp, by simp, by omega, by simp, fun k hk => by simp at hk, rfl⟩
  | 1, _ => exact ⟨B, 0, kA, 3, false, 0, ⟨#[97]⟩, [], [], none, 0, none, 0, rfl, rfl, h.lt, h.cell rfl, h.cell rfl, h.cell rfl, h.cell rfl, h.cell rfl, h.cell rfl, h.cell rfl, by decide, by omega, by omega, by decide, by simp, by simp, by omega, by simp, by simp, by omega, by simp, fun k hk => by simp at hk, rfl⟩
theorem map_ex (w : World) (B : Nat) (h : CellsAt w B 55 exCells) :
    Calls Tryz.prog 21 #[.slice (some ⟨B, 0, none⟩) 2 2] w fun e w' => ∃ av c kv kc, e = .returned (.tuple #[.agg #[.int .i64 5, .bool false, .int .i64 0, .string ⟨#[]⟩, .slice av 2 c, .slice kv 2 kc], .int .i64 0]) ∧ IsV 1 w' (.agg #[.int .i64 5, .bool false, .int .i64 0, .string ⟨#[]⟩, .slice av 2 c, .slice kv 2 kc]) vM ∧ Below w.heap.size w w' := by
  refine (map_some 0 ⟨B, 0, none⟩ _ 2 w (reads_ex h) e_errs (by simp)).mono ?_
  rintro e w' ⟨R, rfl, hR, hb⟩
  rw [e_map] at hR
  have h1 := hR.here
  obtain ⟨av, c, kv, kc, rfl, _⟩ := isV_stb (show Stb w.heap.size w' (fun w2 => IsV 1 w2 R (.mk 5 false 0 ⟨#[]⟩ [vA, vOne] [kA, kB])) from hR)
  exact ⟨av, c, kv, kc, rfl, h1, hb⟩
end Go.Proofs.YtabopneehhnhfaaGreatDoor
