/- Contract of the program's Vars (value). Contract of the program's Vars (value), the walk. A row of values whose parts lie apart from two rows (value). -/
import Derived.Test.YtabopneehhnhfaaGreatDoorVluV
import Derived.Test.YtabopneehhnhfaaGreatDoorVluL
namespace Go.Proofs.YtabopneehhnhfaaGreatDoor
open Go.RowKit Go.Lib

/-- It holds in every world that agrees on the blocks from n to z. -/
def StbI (n z : Nat) (w : World) (P : World → Prop) : Prop := z ≤ w.heap.size ∧ ∀ w2, z ≤ w2.heap.size → (∀ b, n ≤ b → b < z → w2.heap[b]? = w.heap[b]?) → P w2
theorem StbI.of {n : Nat} {w : World} {P : World → Prop} (h : Stb n w P) : StbI n w.heap.size w P := ⟨Nat.le_refl _, fun w2 h1 h2 => h w2 ⟨h1, h2⟩⟩
theorem StbI.on {n z : Nat} {w w' : World} {P : World → Prop} (h : StbI n z w P) (hz : w.heap.size ≤ w'.heap.size) (he : ∀ b, n ≤ b → b < z → w'.heap[b]? = w.heap[b]?) : StbI n z w' P :=
  ⟨Nat.le_trans h.1 hz, fun w2 h1 h2 => h.2 w2 h1 (fun b hb hlt => (h2 b hb hlt).trans (he b hb hlt))⟩
theorem StbI.here {n z : Nat} {w : World} {P : World → Prop} (h : StbI n z w P) : P w := h.2 w h.1 (fun _ _ _ => rfl)
/-- What an entry of the row points to lies in blocks of its own, apart from the row's. -/
def ApartI (N m : Nat) (w : World) (v : Value) (kv : Option Addr) (ks : List (List UInt8)) (av : Option Addr) (l : List Vl) : Prop :=
  ∃ n z, N ≤ n ∧ StbI n z w (fun w2 => ReadsStr w2 kv ks ∧ ReadsV m w2 av l) ∧ ∀ g, v.ownBlock = some g → g < n ∨ z ≤ g
theorem ApartI.below {N m : Nat} {w w' : World} {v : Value} {kv : Option Addr} {ks : List (List UInt8)} {av : Option Addr} {l : List Vl} (h : ApartI N m w v kv ks av l) (hb : Below w.heap.size w w') : ApartI N m w' v kv ks av l := by
  obtain ⟨n, z, h1, h2, h3⟩ := h
  exact ⟨n, z, h1, h2.on hb.size (fun b _ hlt => hb.block b (Nat.lt_of_lt_of_le hlt h2.1)), h3⟩
theorem ApartI.grown {N m : Nat} {w w' : World} {v v' : Value} {kv : Option Addr} {ks : List (List UInt8)} {av : Option Addr} {l : List Vl} (h : ApartI N m w v kv ks av l) (hg : w.grownBy w' v.ownBlock) (hv : ∀ g, v'.ownBlock = some g → v.ownBlock = some g ∨ g = w.heap.size) : ApartI N m w' v' kv ks av l := by
  obtain ⟨n, z, h1, h2, h3⟩ := h
  refine ⟨n, z, h1, h2.on hg.size (fun b hb hlt => hg.block b (Nat.lt_of_lt_of_le hlt h2.1) ?_), fun g e => ?_⟩
  · intro e
    rcases h3 b e.symm with h | h <;> omega
  · rcases hv g e with e | e
    · exact h3 g e
    · right
      have := h2.1
      omega
theorem ApartI.from {N m : Nat} {w w' : World} {v : Value} {kv : Option Addr} {ks : List (List UInt8)} {av : Option Addr} {l : List Vl} (h : ApartI N m w v kv ks av l) (hf : From N w w') : ReadsStr w' kv ks ∧ ReadsV m w' av l := by
  obtain ⟨n, z, h1, h2, h3⟩ := h
  exact h2.2 w' (Nat.le_trans h2.1 hf.1) (fun b hb hlt => hf.2 b (by omega) (Nat.lt_of_lt_of_le hlt h2.1))

theorem elR_snoc {l : List Vr} {xs : List Value} {j : Nat} (hx : xs.length = j * 7) {P : Option Addr → List (List UInt8) → Option Addr → List Vl → Prop} {n : List UInt8} {k : Int} {t : Bool} {i : Int} {s : ByteArray} {l' : List Vl} {ks : List (List UInt8)} {av kv : Option Addr} {c kc : Nat} (e : l[j]? = some (n, .mk k t i s l' ks))
    (g : n.length ≤ 140737488351232 ∧ (-9223372036854775808 ≤ k ∧ k ≤ 9223372036854775807) ∧ (-9223372036854775808 ≤ i ∧ i ≤ 9223372036854775807) ∧ s.size ≤ 140737488351232 ∧ l'.length * 88 ≤ 140737488351232 ∧ l'.length ≤ c ∧ c ≤ 9223372036854775807 ∧ ks.length * 16 ≤ 140737488351232 ∧ ks.length ≤ kc ∧ kc ≤ 9223372036854775807 ∧ (∀ x, x ∈ ks → x.length ≤ 140737488351232)) (hp : P kv ks av l') :
    ElR l (xs ++ [.string ⟨n.toArray⟩, .int .i64 k, .bool t, .int .i64 i, .string s, .slice av l'.length c, .slice kv ks.length kc]) P j := by
  obtain ⟨g0, g1, g2, g3, g4, g5, g6, g7, g8, g9, g10⟩ := g
  have hq : ∀ d, d < 7 → (xs ++ [Value.string ⟨n.toArray⟩, .int .i64 k, .bool t, .int .i64 i, .string s, .slice av l'.length c, .slice kv ks.length kc])[j * 7 + d]? = [Value.string ⟨n.toArray⟩, .int .i64 k, .bool t, .int .i64 i, .string s, .slice av l'.length c, .slice kv ks.length kc][d]? := by
    intro d _
    rw [List.getElem?_append_right (by omega), hx]
    congr 1
    omega
  exact ⟨n, k, t, i, s, l', ks, av, c, kv, kc, e, hq 0 (by omega), hq 1 (by omega), hq 2 (by omega), hq 3 (by omega), hq 4 (by omega), hq 5 (by omega), hq 6 (by omega), g0, g1, g2, g3, g4, g5, g6, g7, g8, g9, g10, hp⟩
theorem elR_app {l : List Vr} {xs news : List Value} {j q : Nat} {P : Option Addr → List (List UInt8) → Option Addr → List Vl → Prop} (h : ElR l xs P q) (hq : q < j) (hx : xs.length = j * 7) : ElR l (xs ++ news) P q :=
  h.mono rfl (fun k _ h2 => List.getElem?_append_left (by omega)) (fun _ _ _ _ h => h)
/-- The row of the entries laid so far. -/
def RowI (N m : Nat) (w : World) (v : Value) (l : List Vr) (j : Nat) : Prop := ∃ xs, w.ownsRow N 55 7 v j xs ∧ ∀ q, q < j → ElR l xs (fun kv ks av l' => ApartI N m w v kv ks av l') q
theorem RowI.nil (N m : Nat) (w : World) (l : List Vr) : RowI N m w (.slice none 0 0) l 0 := ⟨[], World.ownsRow_nil w N _ _, fun q h => by omega⟩
theorem RowI.below {N m : Nat} {w w' : World} {v : Value} {l : List Vr} {j : Nat} (h : RowI N m w v l j) (hb : Below w.heap.size w w') : RowI N m w' v l j := by
  obtain ⟨xs, h1, h2⟩ := h
  exact ⟨xs, own_from h1 (From.of_below hb), fun q hq => (h2 q hq).mono rfl (fun _ _ _ => rfl) (fun _ _ _ _ h => h.below hb)⟩
theorem RowI.reads {N m : Nat} {w : World} {v : Value} {l : List Vr} (h : RowI N m w v l l.length) : ∃ a c, v = .slice a l.length c ∧ l.length ≤ c ∧ c ≤ 9223372036854775807 ∧ Stb N w (fun w2 => ReadsR m w2 a l) := by
  obtain ⟨xs, h1, h2⟩ := h
  obtain ⟨a, c, e, g1, g2, _⟩ := own_readsR (m := m) h1 rfl (fun j hj => (h2 j hj).mono rfl (fun _ _ _ => rfl) (fun _ _ _ _ h => h.from (From.refl _ _)))
  refine ⟨a, c, e, g1, g2, fun w2 hf => ?_⟩
  obtain ⟨a2, c2, e2, _, _, g5⟩ := own_readsR (m := m) (own_from h1 hf) rfl (fun j hj => (h2 j hj).mono rfl (fun _ _ _ => rfl) (fun _ _ _ _ h => h.from hf))
  rw [e] at e2
  cases e2
  exact g5
end Go.Proofs.YtabopneehhnhfaaGreatDoor
namespace Go.Proofs.YtabopneehhnhfaaGreatDoor
open Go.RowKit Go.Lib

theorem varsE_of (x : Vl) : varsE x = if errV 16 x ≠ 0 then errV 16 x else if x.kind = 5 then 0 else 9 := rfl
set_option maxRecDepth 100000 in
set_option maxHeartbeats 2000000 in
theorem vars_any (m : Nat) (V : Value) (x : Vl) (w : World) (hV : IsV m w V x) :
    Calls Tryz.prog 23 #[V] w fun e w' => ∃ a c, e = .returned (.tuple #[.slice a (varsL x).length c, .int .i64 (varsE x : Nat)]) ∧ (varsL x).length ≤ c ∧ c ≤ 9223372036854775807 ∧ Stb w.heap.size w' (fun w2 => ReadsR m w2 a (varsL x)) ∧ Below w.heap.size w w' := by
  have M := Lib.hid (fun w' (hb : Below w.heap.size w w') => validV_any m V x w' (hV.below hb))
  obtain ⟨k, t, i, s, l, ks, av, c, kv, kc, rfl, rfl, g0, g1, g2, g3, g4, g5, g6, g7, g8, g9, hs, hl⟩ := hV
  have C0 := CellsAt.new w 25 #[.int .i64 k, .bool t, .int .i64 i, .string s, .slice av l.length c, .slice kv ks.length kc]
  have B0 := Lib.hid ((Below.refl w.heap.size w).alloc (Nat.le_refl _) (.cells #[.int .i64 k, .bool t, .int .i64 i, .string s, .slice av l.length c, .slice kv ks.length kc] 25))
  have E1 := Lib.hid (varsE_of (.mk k t i s l ks))
  have E2 := Lib.hid (show varsL (.mk k t i s l ks) = if varsE (.mk k t i s l ks) = 0 then ks.zip l else [] from rfl)
  by_cases h0 : errV 16 (.mk k t i s l ks) = 0
  · rw [h0] at M
    by_cases hk : k = 5
    · subst hk
      have hE : varsE (.mk 5 t i s l ks) = 0 := by rw [E1.out, if_neg (by omega)]; rfl
      have hL : varsL (.mk 5 t i s l ks) = ks.zip l := by rw [E2.out, if_pos hE]
      have hpar := (err_parts.1 h0).1
      have hkl : ks.length = l.length := by
        have h := hpar.2.2.2.2.2.2.2.2.1 rfl
        unfold keysB at h
        simp only [Bool.and_eq_true, decide_eq_true_eq] at h
        exact h.1.1
      have hl4 : l.length ≤ 1024 := hpar.2.2.2.2.2.2.1
      rw [hE, hL]
      have hzl : (ks.zip l).length = l.length := by simp; omega
      rw [hzl]
      obtain ⟨Z, hZ⟩ : ∃ Z, Z = ks.zip l := ⟨_, rfl⟩
      rw [← hZ]
      have HZ := Lib.hid hZ
      have HKV := Lib.hid (And.intro hs (And.intro hl g9))
      have gk : ((5 : Int) != 5) = false := rfl
      have HKL := Lib.hid hkl
      have HZL := Lib.hid (show Z.length = l.length by rw [hZ]; exact hzl)
      clear hZ hs hl h0 hE hL hpar E1 E2 hzl g9 hkl
      go_enter Tryz.func23, Tryz.ntmps23
      go_wp2_with fail
      go_fit (M.out _ B0.out)
      rintro e w1 ⟨rfl, hb1⟩
      have C1 := C0.below hb1
      have B1 := Lib.hid (B0.out.trans (hb1.mono B0.out.size))
      have p0 : w1.cell? ⟨w.heap.size, 0, none⟩ = some (.int .i64 5) := C1.cell rfl
      have p5 : w1.cell? ⟨w.heap.size, 5, none⟩ = some (.slice kv ks.length kc) := C1.cell rfl
      clear hb1 C0
      have C1 := Lib.hid C1
      go_wp2_with fail
      have IN := Lib.hid (show Below w.heap.size w w1 from B1.out)
      have S0 := Lib.hid (RowI.nil (w.heap.size + 1) m w1 Z)
      clear p0 p5
      go_loopw [5, 19] (fun s5 s19 wr => ∃ j : Nat, j ≤ l.length ∧ s19 = .int .i64 (j : Int) ∧ Hid (RowI (w.heap.size + 1) m wr s5 Z j) ∧ Hid (CellsAt wr w.heap.size 25 #[.int .i64 5, .bool t, .int .i64 i, .string s, .slice av l.length c, .slice kv ks.length kc]) ∧ Hid (Below w.heap.size w wr)) (fun _ s19 _ => l.length - (RowKit.intOf s19).toNat)
      case atStart => exact ⟨0, by omega, rfl, S0, C1, IN⟩
      case round =>
        obtain ⟨j, hj, rfl, HW, C, HB⟩ := hrel
        clear S0 C1 IN
        have hzr := C.out.lt
        by_cases hlt : j < l.length
        · have hjk : j < ks.length := by have := HKL.out; omega
          cases m with
          | zero => exact absurd hlt (by have h : l = [] := HKV.out.2.1; rw [h]; simp)
          | succ m =>
          obtain ⟨b, off, k1, t1, i1, s1, l1, ks1, av1, c1, kv1, kc1, h0, rfl, h2, e0, e1, e2, e3, e4, e5, r0, r1, r2, r3, r4, r5, r6, r7, r8, r9, rs, rv⟩ := HKV.out.2.1 j hlt
          obtain ⟨bk, offk, rfl, hk2, ek⟩ := HKV.out.1 j hjk
          have hksz := HKV.out.2.2 _ (List.getElem_mem hjk)
          have hZj : Z[j]? = some (ks[j], .mk k1 t1 i1 s1 l1 ks1) := by
            rw [HZ.out, List.getElem?_zip_eq_some]
            exact ⟨List.getElem?_eq_getElem hjk, h0⟩
          have p0 := (HB.out.cell (p := ⟨b, _, none⟩) h2).trans e0
          have p1 := (HB.out.cell (p := ⟨b, _, none⟩) h2).trans e1
          have p2 := (HB.out.cell (p := ⟨b, _, none⟩) h2).trans e2
          have p3 := (HB.out.cell (p := ⟨b, _, none⟩) h2).trans e3
          have p4 := (HB.out.cell (p := ⟨b, _, none⟩) h2).trans e4
          have p5 := (HB.out.cell (p := ⟨b, _, none⟩) h2).trans e5
          have pk := (HB.out.cell (p := ⟨bk, _, none⟩) hk2).trans ek
          have b4 : wr.cell? ⟨w.heap.size, 4, none⟩ = some (.slice (some ⟨b, off, none⟩) l.length c) := C.out.cell rfl
          have F := Lib.hid (fun w' (hb : Below w.heap.size w w') => copied_any m (.agg #[.int .i64 k1, .bool t1, .int .i64 i1, .string s1, .slice av1 l1.length c1, .slice kv1 ks1.length kc1]) (.mk k1 t1 i1 s1 l1 ks1) w' (IsV.below ⟨k1, t1, i1, s1, l1, ks1, av1, c1, kv1, kc1, rfl, rfl, r0, r1, r2, r3, r4, r5, r6, r7, r8, r9, rs, rv⟩ hb))
          have HZJ := Lib.hid (And.intro hZj hksz)
          have hjI : (j : Int) < (l.length : Int) := by omega
          have hjkI : (j : Int) < (ks.length : Int) := by omega
          have hj00 : (0 : Int) ≤ (j : Int) := by omega
          obtain ⟨kn, hkn⟩ : ∃ kn, kn = ks[j] := ⟨_, rfl⟩
          rw [← hkn] at HZJ pk
          clear hZj hksz h0 h2 e0 e1 e2 e3 e4 e5 r0 r1 r2 r3 r4 r5 r6 r7 r8 r9 rs rv hk2 ek hkn
          go_wp2_with fail
          go_fit (F.out _ HB.out)
          rintro e w2 ⟨R, rfl, hR, hb2⟩
          obtain ⟨av3, c3, kv3, kc3, rfl, x0, x1, x2, x3, x4, x5, x6, x7, x8, x9, hN⟩ := isV_stb (show Stb wr.heap.size w2 (fun w3 => IsV (m + 1) w3 R (.mk k1 t1 i1 s1 l1 ks1)) from fun w3 hf => isV_up (Nat.le_succ m) (hR w3 hf))
          have HX := Lib.hid (show kn.length ≤ 140737488351232 ∧ (-9223372036854775808 ≤ k1 ∧ k1 ≤ 9223372036854775807) ∧ (-9223372036854775808 ≤ i1 ∧ i1 ≤ 9223372036854775807) ∧ s1.size ≤ 140737488351232 ∧ l1.length * 88 ≤ 140737488351232 ∧ l1.length ≤ c3 ∧ c3 ≤ 9223372036854775807 ∧ ks1.length * 16 ≤ 140737488351232 ∧ ks1.length ≤ kc3 ∧ kc3 ≤ 9223372036854775807 ∧ (∀ x, x ∈ ks1 → x.length ≤ 140737488351232) from ⟨HZJ.out.2, x0, x1, x2, x3, x4, x5, x6, x7, x8, x9⟩)
          obtain ⟨i0, hi, hq0, hq1, hq2⟩ := info_parts infoVar
          obtain ⟨xs, hown, hels⟩ := HW.out
          have hap : ApartI (w.heap.size + 1) (m + 1) w2 u5 kv3 ks1 av3 l1 := ⟨wr.heap.size, w2.heap.size, hzr, StbI.of hN, fun g e => .inl (hown.lt g e).2⟩
          have hown2 := own_from hown (From.of_below hb2)
          have hels2 : ∀ q, q < j → ElR Z xs (fun kv ks av l' => ApartI (w.heap.size + 1) (m + 1) w2 u5 kv ks av l') q := fun q hq => (hels q hq).mono rfl (fun _ _ _ => rfl) (fun _ _ _ _ h => h.below hb2)
          have HEL := Lib.hid (And.intro hels2 hap)
          have HO := Lib.hid (hown2.alloc (.cells #[.string ⟨kn.toArray⟩, .int .i64 k1, .bool t1, .int .i64 i1, .string s1, .slice av3 l1.length c3, .slice kv3 ks1.length kc3] 55))
          have B2 := Lib.hid (HB.out.trans (hb2.mono HB.out.size))
          have C2 := Lib.hid (C.out.below hb2)
          have HO1 := Lib.hid (hown.1)
          have hz2 : w.heap.size + 1 ≤ w2.heap.size := by have := hb2.size; omega
          clear hown hels hap hown2 hels2 hN hR x0 x1 x2 x3 x4 x5 x6 x7 x8 x9 hb2 p0 p1 p2 p3 p4 p5 pk b4
          go_wp2_with (at_builtin; refine wpList_append_lies _ rfl _ _ 35 rfl (w.heap.size + 1) 55 i0 _ 7 104 Tryz.underlying35 hi hq0 hq1 hq2 rfl (by decide) u5 j xs rfl HO.out ⟨w2.heap.size, 0, none⟩ 1 1 [.string ⟨kn.toArray⟩, .int .i64 k1, .bool t1, .int .i64 i1, .string s1, .slice av3 l1.length c3, .slice kv3 ks1.length kc3] rfl rfl (World.news_of_block (heap_alloc_new _ _)) (by intro u hu; simp at hu; rcases hu with rfl | rfl | rfl | rfl | rfl | rfl | rfl <;> rfl) (by decide) (by unfold maxLen; omega) (by omega) (by simp; omega) _ rfl ?_)
          intro g3 cap3 w3 ho3 hg3 hat3 hlt3
          have HR3 := Lib.hid (show RowI (w.heap.size + 1) (m + 1) w3 (.slice (some ⟨g3, 0, none⟩) (j + 1) cap3) Z (j + 1) by
            have hv : ∀ g, (Value.slice (some ⟨g3, 0, none⟩) (j + 1) cap3).ownBlock = some g → u5.ownBlock = some g ∨ g = (w2.alloc (.cells #[.string ⟨kn.toArray⟩, .int .i64 k1, .bool t1, .int .i64 i1, .string s1, .slice av3 l1.length c3, .slice kv3 ks1.length kc3] 55)).heap.size := by
              intro g e
              simp only [Value.ownBlock, Option.some.injEq] at e
              rcases hat3 with h | h
              · exact .inl (by rw [h, e])
              · exact .inr (by rw [← e, h]; simp)
            have hal : Below w2.heap.size w2 (w2.alloc (.cells #[.string ⟨kn.toArray⟩, .int .i64 k1, .bool t1, .int .i64 i1, .string s1, .slice av3 l1.length c3, .slice kv3 ks1.length kc3] 55)) := (Below.refl _ _).alloc (Nat.le_refl _) _
            refine ⟨_, ho3, fun q hq => ?_⟩
            by_cases hqj : q < j
            · exact (elR_app (HEL.out.1 q hqj) hqj HO1.out).mono rfl (fun _ _ _ => rfl) (fun _ _ _ _ h => (h.below hal).grown hg3 hv)
            · obtain rfl : q = j := by omega
              exact elR_snoc HO1.out HZJ.out.1 HX.out ((HEL.out.2.below hal).grown hg3 hv))
          have B3 := Lib.hid ((B2.out.alloc B2.out.size _).grown hg3 (by simp; omega) (fun k hk => by have := (HO.out.lt k hk).1; omega))
          have C3 := Lib.hid ((C2.out.alloc _).of_block (hg3.block w.heap.size (by simp; omega) (fun e => by have := (HO.out.lt _ e.symm).1; omega)))
          clear ho3 hg3 hat3 hlt3 HO HEL
          go_wp2_with fail
          exact ⟨⟨j + 1, by omega, by go_num, HR3, C3, B3⟩, by simp [RowKit.intOf]; omega⟩
        · obtain rfl : j = l.length := by omega
          have hjI : ¬ (l.length : Int) < (l.length : Int) := by omega
          have hjkI : ¬ (l.length : Int) < (ks.length : Int) := by have := HKL.out; omega
          obtain ⟨a, c9, rfl, h1, h2, h3⟩ := RowI.reads (l := Z) (by rw [HZL.out]; exact HW.out)
          rw [HZL.out] at h1 ⊢
          have H := Lib.hid (And.intro h1 (And.intro h2 (h3.mono (Nat.le_succ _))))
          clear h1 h2 h3
          go_wp2_with fail
          go_ret2
          exact ⟨a, c9, rfl, H.out.1, H.out.2.1, H.out.2.2, HB.out⟩
    · have hE : varsE (.mk k t i s l ks) = 9 := by rw [E1.out, if_neg (by omega), if_neg (show ¬ (Vl.mk k t i s l ks).kind = 5 from hk)]
      have hL : varsL (.mk k t i s l ks) = [] := by rw [E2.out, if_neg (by omega)]
      rw [hE, hL]
      have g : (k != 5) = true := by simpa using hk
      clear hE hL E1 E2 hk hs hl h0 g9
      go_enter Tryz.func23, Tryz.ntmps23
      go_wp2_with fail
      go_fit (M.out _ B0.out)
      rintro e w1 ⟨rfl, hb1⟩
      have C1 := C0.below hb1
      have B1 := Lib.hid (B0.out.trans (hb1.mono B0.out.size))
      have p0 : w1.cell? ⟨w.heap.size, 0, none⟩ = some (.int .i64 k) := C1.cell rfl
      clear hb1 C0 C1
      go_wp2_with fail
      go_ret2
      exact ⟨none, 0, rfl, Nat.le_refl _, by omega, fun w2 _ j hj => by simp at hj, B1.out⟩
  · have hE : varsE (.mk k t i s l ks) = errV 16 (.mk k t i s l ks) := by rw [E1.out, if_pos h0]
    have hL : varsL (.mk k t i s l ks) = [] := by rw [E2.out, if_neg (by omega)]
    rw [hE, hL]
    obtain ⟨z, hz⟩ : ∃ z, z = errV 16 (.mk k t i s l ks) := ⟨_, rfl⟩
    rw [← hz] at M h0 ⊢
    have g1 : ((z : Int) != 0) = true := by rw [bne_iff_ne]; omega
    have g2 : ((z : Int) == 0) = false := by rw [beq_eq_false_iff_ne]; omega
    clear hE hL E1 E2 hs hl h0 g9 hz
    go_enter Tryz.func23, Tryz.ntmps23
    go_wp2_with fail
    go_fit (M.out _ B0.out)
    rintro e w1 ⟨rfl, hb1⟩
    have B1 := Lib.hid (B0.out.trans (hb1.mono B0.out.size))
    clear hb1 C0
    go_wp2_with fail
    go_ret2
    exact ⟨none, 0, rfl, Nat.le_refl _, by omega, fun w2 _ j hj => by simp at hj, B1.out⟩
end Go.Proofs.YtabopneehhnhfaaGreatDoor
namespace Go.Proofs.YtabopneehhnhfaaGreatDoor
open Go.RowKit Go.Lib

/-- What a value points to lies in blocks of its own, apart from both rows'. -/
def Apart2 (N m : Nat) (w : World) (v u : Value) (kv : Option Addr) (ks : List (List UInt8)) (av : Option Addr) (l : List Vl) : Prop :=
  ∃ n z, N ≤ n ∧ StbI n z w (fun w2 => ReadsStr w2 kv ks ∧ ReadsV m w2 av l) ∧ (∀ g, v.ownBlock = some g → g < n ∨ z ≤ g) ∧ ∀ g, u.ownBlock = some g → g < n ∨ z ≤ g
theorem Apart2.swap {N m : Nat} {w : World} {v u : Value} {kv : Option Addr} {ks : List (List UInt8)} {av : Option Addr} {l : List Vl} (h : Apart2 N m w v u kv ks av l) : Apart2 N m w u v kv ks av l := by
  obtain ⟨n, z, h1, h2, h3, h4⟩ := h
  exact ⟨n, z, h1, h2, h4, h3⟩
theorem Apart2.below {N m : Nat} {w w' : World} {v u : Value} {kv : Option Addr} {ks : List (List UInt8)} {av : Option Addr} {l : List Vl} (h : Apart2 N m w v u kv ks av l) (hb : Below w.heap.size w w') : Apart2 N m w' v u kv ks av l := by
  obtain ⟨n, z, h1, h2, h3, h4⟩ := h
  exact ⟨n, z, h1, h2.on hb.size (fun b _ hlt => hb.block b (Nat.lt_of_lt_of_le hlt h2.1)), h3, h4⟩
theorem Apart2.grown {N m : Nat} {w w' : World} {v v' u : Value} {kv : Option Addr} {ks : List (List UInt8)} {av : Option Addr} {l : List Vl} (h : Apart2 N m w v u kv ks av l) (hg : w.grownBy w' v.ownBlock) (hv : ∀ g, v'.ownBlock = some g → v.ownBlock = some g ∨ g = w.heap.size) : Apart2 N m w' v' u kv ks av l := by
  obtain ⟨n, z, h1, h2, h3, h4⟩ := h
  refine ⟨n, z, h1, h2.on hg.size (fun b hb hlt => hg.block b (Nat.lt_of_lt_of_le hlt h2.1) ?_), fun g e => ?_, h4⟩
  · intro e
    rcases h3 b e.symm with h | h <;> omega
  · rcases hv g e with e | e
    · exact h3 g e
    · right
      have := h2.1
      omega
/-- A store into a block below all that. -/
theorem Apart2.set {N m : Nat} {w : World} {v u : Value} {kv : Option Addr} {ks : List (List UInt8)} {av : Option Addr} {l : List Vl} (h : Apart2 N m w v u kv ks av l) {b : Nat} (hb : b < N) (k : Nat) (x : Value) : Apart2 N m (w.setCell ⟨b, k, none⟩ x) v u kv ks av l := by
  obtain ⟨n, z, h1, h2, h3, h4⟩ := h
  exact ⟨n, z, h1, h2.on (by simp) (fun c hc _ => Below.heap_setCell _ _ _ c (by show c ≠ b; omega)), h3, h4⟩
theorem Apart2.from {N m : Nat} {w w' : World} {v u : Value} {kv : Option Addr} {ks : List (List UInt8)} {av : Option Addr} {l : List Vl} (h : Apart2 N m w v u kv ks av l) (hf : From N w w') : ReadsStr w' kv ks ∧ ReadsV m w' av l := by
  obtain ⟨n, z, h1, h2, _⟩ := h
  exact h2.2 w' (Nat.le_trans h2.1 hf.1) (fun b hb hlt => hf.2 b (by omega) (Nat.lt_of_lt_of_le hlt h2.1))
theorem el_snoc {l : List Vl} {xs : List Value} {j : Nat} (hx : xs.length = j * 6) {P : Option Addr → List (List UInt8) → Option Addr → List Vl → Prop} {k : Int} {t : Bool} {i : Int} {s : ByteArray} {l' : List Vl} {ks : List (List UInt8)} {av kv : Option Addr} {c kc : Nat} (e : l[j]? = some (.mk k t i s l' ks))
    (g : (-9223372036854775808 ≤ k ∧ k ≤ 9223372036854775807) ∧ (-9223372036854775808 ≤ i ∧ i ≤ 9223372036854775807) ∧ s.size ≤ 140737488351232 ∧ l'.length * 88 ≤ 140737488351232 ∧ l'.length ≤ c ∧ c ≤ 9223372036854775807 ∧ ks.length * 16 ≤ 140737488351232 ∧ ks.length ≤ kc ∧ kc ≤ 9223372036854775807 ∧ (∀ x, x ∈ ks → x.length ≤ 140737488351232)) (hp : P kv ks av l') :
    El l (xs ++ ([.int .i64 k, .bool t, .int .i64 i, .string s, .slice av l'.length c, .slice kv ks.length kc] : List Value)).toArray P j := by
  obtain ⟨g1, g2, g3, g4, g5, g6, g7, g8, g9, g10⟩ := g
  have hq : ∀ d, d < 6 → (xs ++ [Value.int .i64 k, .bool t, .int .i64 i, .string s, .slice av l'.length c, .slice kv ks.length kc]).toArray[j * 6 + d]? = [Value.int .i64 k, .bool t, .int .i64 i, .string s, .slice av l'.length c, .slice kv ks.length kc][d]? := by
    intro d _
    rw [List.getElem?_toArray, List.getElem?_append_right (by omega), hx]
    congr 1
    omega
  exact ⟨k, t, i, s, l', ks, av, c, kv, kc, e, hq 0 (by omega), hq 1 (by omega), hq 2 (by omega), hq 3 (by omega), hq 4 (by omega), hq 5 (by omega), g1, g2, g3, g4, g5, g6, g7, g8, g9, g10, hp⟩
theorem el_app {l : List Vl} {xs news : List Value} {j q : Nat} {P : Option Addr → List (List UInt8) → Option Addr → List Vl → Prop} (h : El l xs.toArray P q) (hq : q < j) (hx : xs.length = j * 6) : El l (xs ++ news).toArray P q :=
  h.mono (fun k _ h2 => by rw [List.getElem?_toArray, List.getElem?_toArray]; exact List.getElem?_append_left (by omega)) (fun _ _ _ _ h => h)
/-- The row of the values laid so far, apart from row u. -/
def RowV (N m : Nat) (w : World) (v u : Value) (l : List Vl) (j : Nat) : Prop := ∃ xs, w.ownsRow N 25 6 v j xs ∧ ∀ q, q < j → El l xs.toArray (fun kv ks av l' => Apart2 N m w v u kv ks av l') q
theorem RowV.nil (N m : Nat) (w : World) (u : Value) (l : List Vl) : RowV N m w (.slice none 0 0) u l 0 := ⟨[], World.ownsRow_nil w N _ _, fun q h => by omega⟩
theorem RowV.below {N m : Nat} {w w' : World} {v u : Value} {l : List Vl} {j : Nat} (h : RowV N m w v u l j) (hb : Below w.heap.size w w') : RowV N m w' v u l j := by
  obtain ⟨xs, h1, h2⟩ := h
  exact ⟨xs, own_from h1 (From.of_below hb), fun q hq => (h2 q hq).mono (fun _ _ _ => rfl) (fun _ _ _ _ h => h.below hb)⟩
theorem RowV.reads {N m : Nat} {w : World} {v u : Value} {l : List Vl} (h : RowV N m w v u l l.length) : ∃ a c, v = .slice a l.length c ∧ l.length ≤ c ∧ c ≤ 9223372036854775807 ∧ Stb N w (fun w2 => ReadsV (m + 1) w2 a l) := by
  obtain ⟨xs, h1, h2⟩ := h
  rcases h1.2 with ⟨rfl, h0⟩ | ⟨g, cap, cur, rfl, hB, hg, hnc, hcm, hsz, htk⟩
  · have hl : l = [] := List.length_eq_zero_iff.1 h0
    subst hl
    exact ⟨none, 0, rfl, Nat.le_refl _, by omega, fun w2 _ => readsV_nil _ _ _⟩
  · refine ⟨some ⟨g, 0, none⟩, cap, rfl, hnc, hcm, fun w2 hf => ?_⟩
    have hlt := (Array.getElem?_eq_some_iff.1 hg).1
    have hC : CellsAt w2 g 25 cur := ⟨(hf.2 g hB hlt).trans hg⟩
    refine els_reads hC (fun j hj => (h2 j hj).mono (fun k _ hk => ?_) (fun _ _ _ _ h => h.from hf))
    have e : xs.toArray[k]? = xs[k]? := by simp
    rw [e, ← htk, List.getElem?_take_of_lt (by omega), Array.getElem?_toList]
end Go.Proofs.YtabopneehhnhfaaGreatDoor
