/- Contracts of the document's common and put (glob). -/
import Derived.Test.YtaalfnfikjmomaaGlbRa
import Derived.Test.YtaalfnfikjmomaaGlbG
import Derived.Test.YtaalfnfikjmomaaGlbI
import Derived.Test.YtaalfnfikjmomaaGlbU
namespace Go.Proofs.Ytaalfnfikjmomaa
open Go.RowKit Go.Lib
set_option maxHeartbeats 8000000 in
set_option maxRecDepth 100000 in
theorem common_any (x y : GE) (hx : x.kind ≤ 5) (hy : y.kind ≤ 5) (iv jv : Option Addr) (ic jc : Nat) (hl : x.items.length ≤ 4096) (hl2 : y.items.length ≤ 4096) (w : World) (hr : ReadsI (fun _ => True) w iv x.items) (hr2 : ReadsI (fun _ => True) w jv y.items) :
    Calls Try.prog 44 #[.agg #[.int .i64 (x.kind : Nat), .slice iv x.items.length ic], .agg #[.int .i64 (y.kind : Nat), .slice jv y.items.length jc]] w fun e w' => (∃ (c : UInt8) (ok : Bool), e = .returned (.tuple #[.int .u8 c.toNat, .bool ok]) ∧ (ok = true → fitsB x c = true ∧ fitsB y c = true) ∧ (ok = false → ∀ c, ¬ (fitsB x c = true ∧ fitsB y c = true))) ∧ Below w.heap.size w w' := by
  have F1 := Lib.hid (fun c w hr => refFits_any x c hx iv ic hl (fun _ => True) w hr)
  have F2 := Lib.hid (fun c w hr => refFits_any y c hy jv jc hl2 (fun _ => True) w hr)
  have R := Lib.hid (And.intro hr hr2)
  obtain ⟨kx, hkx⟩ : ∃ k, k = x.kind := ⟨_, rfl⟩
  obtain ⟨ky, hky⟩ : ∃ k, k = y.kind := ⟨_, rfl⟩
  rw [← hkx] at F1 ⊢
  rw [← hky] at F2 ⊢
  clear hr hr2 hx hy hl hl2 hkx hky
  go_enter Try.func44, Try.ntmps44
  go_wp2_with fail
  have BX := Lib.hid (show BlkAt ((w.alloc (Obj.cells #[.int .i64 (kx : Nat), .slice iv x.items.length ic] 53)).alloc (Obj.cells #[.int .i64 (ky : Nat), .slice jv y.items.length jc] 53)) w.heap.size 53 #[.int .i64 (kx : Nat), .slice iv x.items.length ic] ∧ BlkAt ((w.alloc (Obj.cells #[.int .i64 (kx : Nat), .slice iv x.items.length ic] 53)).alloc (Obj.cells #[.int .i64 (ky : Nat), .slice jv y.items.length jc] 53)) (w.heap.size + 1) 53 #[.int .i64 (ky : Nat), .slice jv y.items.length jc] ∧ Below w.heap.size w ((w.alloc (Obj.cells #[.int .i64 (kx : Nat), .slice iv x.items.length ic] 53)).alloc (Obj.cells #[.int .i64 (ky : Nat), .slice jv y.items.length jc] 53)) from by
    have b2 := BlkAt.new (w.alloc (Obj.cells #[.int .i64 (kx : Nat), .slice iv x.items.length ic] 53)) 53 #[.int .i64 (ky : Nat), .slice jv y.items.length jc]
    simp only [World.size_alloc] at b2
    exact ⟨(BlkAt.new w _ _).of_block (Below.heap_alloc _ _ _ (by simp)), b2, ((Below.refl w.heap.size w).alloc (Nat.le_refl _) _).alloc (by simp) _⟩)
  generalize ((w.alloc (Obj.cells #[.int .i64 (kx : Nat), .slice iv x.items.length ic] 53)).alloc (Obj.cells #[.int .i64 (ky : Nat), .slice jv y.items.length jc] 53)) = W0 at BX ⊢
  go_loopw [6] (fun s6 wr => ∃ k : Nat, s6 = .int .i64 ((k : Int) - 1) ∧ k ≤ 256 ∧ (∀ c : UInt8, k ≤ c.toNat → ¬ (fitsB x c = true ∧ fitsB y c = true)) ∧ BlkAt wr w.heap.size 53 #[.int .i64 (kx : Nat), .slice iv x.items.length ic] ∧ BlkAt wr (w.heap.size + 1) 53 #[.int .i64 (ky : Nat), .slice jv y.items.length jc] ∧ Below w.heap.size w wr) (fun s6 _ => (RowKit.intOf s6 + 1).toNat)
  case atStart => exact ⟨256, rfl, Nat.le_refl _, fun c h => by have := c.toNat_lt; omega, BX.out⟩
  case round =>
    obtain ⟨k, rfl, hk, hno, hb1, hb2, hb⟩ := hrel
    have HR := Lib.hid (And.intro hb1 (And.intro hb2 hb))
    have NO := Lib.hid hno
    cases k with
    | zero =>
      rw [show ((0 : Nat) : Int) - 1 = -1 by omega]
      clear hno hb1 hb2 hb hk
      go_wp2_with fail
      go_ret2
      exact ⟨⟨0, false, rfl, fun h => (nomatch h), fun _ c => NO.out c (Nat.zero_le _)⟩, HR.out.2.2⟩
    | succ j =>
      rw [show ((j + 1 : Nat) : Int) - 1 = (j : Int) by omega]
      have j0 : (0 : Int) ≤ j ∧ (j : Int) < 256 := by omega
      obtain ⟨c, hc⟩ : ∃ c : UInt8, c.toNat = j := ⟨j.toUInt8, by simp; omega⟩
      have wu : IntKind.u8.wrap (j : Int) = j := by rw [IntKind.wrap_u8]; omega
      have G1 := Lib.hid (fun w hr => F1.out c w hr)
      have G2 := Lib.hid (fun w hr => F2.out c w hr)
      rw [hc] at G1 G2
      have HC := Lib.hid hc
      have HK := Lib.hid hk
      have a0 := hb1.cell (k := 0) rfl
      have a1 := hb1.cell (k := 1) rfl
      clear hno hb1 hb2 hb hk hc
      go_wp2_with fail
      go_fit (G1.out _ (R.out.1.below HR.out.2.2))
      rintro e w2 ⟨rfl, hb3⟩
      have B3 := Lib.hid (And.intro (HR.out.2.2.trans (hb3.mono HR.out.2.2.size)) (And.intro (HR.out.1.below hb3) (HR.out.2.1.below hb3)))
      clear hb3 a0 a1
      cases hf : fitsB x c
      · have HN := Lib.hid (show ∀ d : UInt8, j ≤ d.toNat → ¬ (fitsB x d = true ∧ fitsB y d = true) from fun d hd => by
          by_cases e : d.toNat = j
          · obtain rfl : d = c := UInt8.toNat_inj.1 (by rw [e, HC.out])
            rw [hf]
            intro h
            cases h.1
          · exact NO.out d (by omega))
        clear hf
        go_wp2_with fail
        go_roundw
        case rel => exact ⟨j, rfl, by have := HK.out; omega, HN.out, B3.out.2.1, B3.out.2.2, B3.out.1⟩
        case measure => simp [RowKit.intOf]
      · have HF := Lib.hid hf
        have a0 := B3.out.2.2.cell (k := 0) rfl
        have a1 := B3.out.2.2.cell (k := 1) rfl
        clear hf
        go_wp2_with fail
        go_fit (G2.out _ (R.out.2.below B3.out.1))
        rintro e w3 ⟨rfl, hb3⟩
        have B4 := Lib.hid (And.intro (B3.out.1.trans (hb3.mono B3.out.1.size)) (And.intro (B3.out.2.1.below hb3) (B3.out.2.2.below hb3)))
        clear hb3 a0 a1
        cases hg : fitsB y c
        · have HN := Lib.hid (show ∀ d : UInt8, j ≤ d.toNat → ¬ (fitsB x d = true ∧ fitsB y d = true) from fun d hd => by
            by_cases e : d.toNat = j
            · obtain rfl : d = c := UInt8.toNat_inj.1 (by rw [e, HC.out])
              rw [hg]
              intro h
              cases h.2
            · exact NO.out d (by omega))
          clear hg
          go_wp2_with fail
          go_roundw
          case rel => exact ⟨j, rfl, by have := HK.out; omega, HN.out, B4.out.2.1, B4.out.2.2, B4.out.1⟩
          case measure => simp [RowKit.intOf]
        · have HG := Lib.hid hg
          clear hg
          go_wp2_with fail
          go_ret2
          exact ⟨⟨c, true, by rw [HC.out]; rfl, fun _ => ⟨HF.out, HG.out⟩, fun h => (nomatch h)⟩, B4.out.1⟩
/-- The cells of places. -/
def plC1 (p : Pl) : List Value := [.int .i64 (p.a : Nat), .int .i64 (p.b : Nat), .int .i64 (p.src : Nat), .bool p.moved, .int .u8 p.byte.toNat]
def plC (l : List Pl) : List Value := l.flatMap plC1
theorem plC_snoc (l : List Pl) (x : Pl) : plC (l ++ [x]) = plC l ++ plC1 x := by unfold plC; rw [List.flatMap_append]; simp
theorem plC_len (l : List Pl) : (plC l).length = l.length * 5 := by
  induction l with
  | nil => rfl
  | cons a l ih => rw [show a :: l = [a] ++ l from rfl, plC, List.flatMap_append, List.length_append]; show 5 + (plC l).length = _; rw [ih, List.length_append, List.length_singleton]; omega
theorem plC_at : ∀ (l : List Pl) (k : Nat) (h : k < l.length) (j : Nat), j < 5 → (plC l)[5 * k + j]? = (plC1 l[k])[j]?
  | [], k, h, _, _ => by simp at h
  | a :: l, 0, _, j, hj => by
    rw [show plC (a :: l) = plC1 a ++ plC l from rfl, List.getElem?_append_left (by show 5 * 0 + j < 5; omega)]
    simp
  | a :: l, k + 1, h, j, hj => by
    have := plC_at l k (by simpa using h) j hj
    rw [show plC (a :: l) = plC1 a ++ plC l from rfl, List.getElem?_append_right (by show 5 ≤ _; omega), show 5 * (k + 1) + j - (plC1 a).length = 5 * k + j by show 5 * (k + 1) + j - 5 = _; omega, this]
    simp
theorem info59 : (Try.prog.info? 59).map (fun i => (i.zero, i.size, i.bytes)) = some (some (.agg #[.int .i64 0, .int .i64 0, .int .i64 0, .bool false, .int .u8 0]), 5, 32) := by kernel_rfl
theorem own_cellPl {w : World} {B n cap g : Nat} {l : List Pl} (h : w.ownsRow B 59 5 (.slice (some ⟨g, 0, none⟩) n cap) n (plC l)) (hn : n = l.length) (k : Nat) (hk : k < l.length) :
    w.cell? ⟨g, k * 5, none⟩ = some (.int .i64 (l[k].a : Nat)) ∧ w.cell? ⟨g, k * 5 + 1, none⟩ = some (.int .i64 (l[k].b : Nat)) ∧ w.cell? ⟨g, k * 5 + 2, none⟩ = some (.int .i64 (l[k].src : Nat)) ∧ w.cell? ⟨g, k * 5 + 3, none⟩ = some (.bool l[k].moved) ∧ w.cell? ⟨g, k * 5 + 4, none⟩ = some (.int .u8 l[k].byte.toNat) := by
  have c := fun j (hj : j < 5) => h.cellAt (k * 5 + j) (by omega)
  have a := fun j (hj : j < 5) => plC_at l k hk j hj
  have e5 : k * 5 = 5 * k := Nat.mul_comm _ _
  rw [e5] at c ⊢
  exact ⟨(c 0 (by omega)).trans (a 0 (by omega)), (c 1 (by omega)).trans (a 1 (by omega)), (c 2 (by omega)).trans (a 2 (by omega)), (c 3 (by omega)).trans (a 3 (by omega)), (c 4 (by omega)).trans (a 4 (by omega))⟩
set_option maxHeartbeats 8000000 in
set_option maxRecDepth 100000 in
theorem put_any (l : List Pl) (p : Pl) (sv : Value) (B : Nat) (w : World) (hl : l.length ≤ 33554432) (hB : B ≤ w.heap.size) (ho : w.ownsRow B 59 5 sv l.length (plC l)) :
    Calls Try.prog 43 #[sv, .agg #[.int .i64 (p.a : Nat), .int .i64 (p.b : Nat), .int .i64 (p.src : Nat), .bool p.moved, .int .u8 p.byte.toNat]] w fun e w' => ∃ v', e = .returned v' ∧ w'.ownsRow B 59 5 v' (putL l p).length (plC (putL l p)) ∧ w.grownBy w' sv.ownBlock ∧ (v'.ownBlock = sv.ownBlock ∨ ∃ g, v'.ownBlock = some g ∧ w.heap.size ≤ g) := by
  obtain ⟨i0, hi0, hz0, hz1, hzb⟩ := info_parts info59
  obtain ⟨sa, sc, rfl⟩ := own_slice ho
  obtain ⟨pa, pb, ps, pm, py⟩ := p
  simp only
  have O := Lib.hid (And.intro ho (And.intro hB hl))
  have l0 : (0 : Int) ≤ l.length ∧ (l.length : Int) ≤ 33554432 := by omega
  obtain ⟨pn, hpn⟩ : ∃ pn, pn = py.toNat := ⟨_, rfl⟩
  rw [← hpn]
  have HPN := Lib.hid hpn
  clear ho hB hl hpn
  go_enter Try.func43, Try.ntmps43
  go_wp2_with fail
  have PB := Lib.hid (BlkAt.new w 59 #[.int .i64 (pa : Nat), .int .i64 (pb : Nat), .int .i64 (ps : Nat), .bool pm, .int .u8 (pn : Nat)])
  have B0 := Lib.hid ((Below.refl w.heap.size w).alloc (Nat.le_refl _) (Obj.cells #[.int .i64 (pa : Nat), .int .i64 (pb : Nat), .int .i64 (ps : Nat), .bool pm, .int .u8 (pn : Nat)] 59))
  go_loopw [5] (fun s5 wr => ∃ i : Nat, s5 = .int .i64 (i : Int) ∧ i ≤ l.length ∧ (∀ k (h : k < l.length), k < i → ¬ (l[k].a = pa ∧ l[k].b = pb)) ∧ BlkAt wr w.heap.size 59 #[.int .i64 (pa : Nat), .int .i64 (pb : Nat), .int .i64 (ps : Nat), .bool pm, .int .u8 (pn : Nat)] ∧ Below w.heap.size w wr) (fun s5 _ => l.length - (RowKit.intOf s5).toNat)
  case atStart => exact ⟨0, rfl, by omega, fun k _ h => by omega, PB.out, B0.out⟩
  case round =>
    obtain ⟨i, rfl, hi, hno, hpb, hb⟩ := hrel
    have HB := Lib.hid (And.intro hpb hb)
    have HO := Lib.hid (own_keep O.out.1 hb)
    have NO := Lib.hid hno
    by_cases hlt : i < l.length
    · obtain ⟨g, rfl⟩ : ∃ g, sa = some ⟨g, 0, none⟩ := by
        rcases HO.out.2 with ⟨_, h0⟩ | ⟨g, cap, cur, e, _⟩
        · omega
        · injection e with e; exact ⟨g, e⟩
      obtain ⟨x0, x1, -, -, -⟩ := own_cellPl HO.out rfl i hlt
      obtain ⟨qa, hqa⟩ : ∃ qa, qa = l[i].a := ⟨_, rfl⟩
      obtain ⟨qb, hqb⟩ : ∃ qb, qb = l[i].b := ⟨_, rfl⟩
      rw [← hqa] at x0
      rw [← hqb] at x1
      have HQ := Lib.hid (show ∃ h : i < l.length, l[i].a = qa ∧ l[i].b = qb from ⟨hlt, hqa.symm, hqb.symm⟩)
      have j0 : (0 : Int) ≤ i ∧ (i : Int) < (l.length : Int) := by omega
      have p0 := hpb.cell (k := 0) rfl
      have p1 := hpb.cell (k := 1) rfl
      clear hqa hqb hpb hb hno hi hlt
      by_cases h1 : qa = pa
      · subst h1
        by_cases h2 : qb = pb
        · subst h2
          have HAS := Lib.hid (show putL l ⟨qa, qb, ps, pm, py⟩ = l from by
            unfold putL
            obtain ⟨h, e1, e2⟩ := HQ.out
            rw [if_pos (hasPl_iff.2 ⟨l[i], List.getElem_mem h, e1, e2⟩)])
          go_wp2_with fail
          go_quiet (fail)
          go_wp2_with fail
          go_ret
          refine ⟨_, rfl, ?_, ?_, .inl rfl⟩
          · rw [HAS.out]; exact own_keep HO.out (below_drewN (Below.refl _ _) _)
          · have := below_drewN HB.out.2 nq
            exact ⟨this.os, this.tape, this.output, this.size, fun k hk _ => this.block k hk⟩
        · have h3 : ((qb : Int) == (pb : Int)) = false := by rw [beq_eq_false_iff_ne]; omega
          have HN := Lib.hid (show ∀ k (h : k < l.length), k < i + 1 → ¬ (l[k].a = qa ∧ l[k].b = pb) from fun k h hk => by
            by_cases e : k = i
            · subst e
              obtain ⟨_, _, e2⟩ := HQ.out
              intro h; exact h2 (e2.symm.trans h.2)
            · exact NO.out k h (by omega))
          clear h2
          go_wp2_with fail
          go_quiet (fail)
          go_wp2_with fail
          go_roundw
          case rel => exact ⟨i + 1, by go_num, HQ.out.1, HN.out, HB.out.1.below (below_drewN (Below.refl _ _) _), below_drewN HB.out.2 _⟩
          case measure => have := HQ.out.1; simp [RowKit.intOf]; omega
      · have h3 : ((qa : Int) == (pa : Int)) = false := by rw [beq_eq_false_iff_ne]; omega
        have HN := Lib.hid (show ∀ k (h : k < l.length), k < i + 1 → ¬ (l[k].a = pa ∧ l[k].b = pb) from fun k h hk => by
          by_cases e : k = i
          · subst e
            obtain ⟨_, e1, _⟩ := HQ.out
            intro h; exact h1 (e1.symm.trans h.1)
          · exact NO.out k h (by omega))
        clear h1
        go_wp2_with fail
        go_quiet (fail)
        go_wp2_with fail
        go_roundw
        case rel => exact ⟨i + 1, by go_num, HQ.out.1, HN.out, HB.out.1.below (below_drewN (Below.refl _ _) _), below_drewN HB.out.2 _⟩
        case measure => have := HQ.out.1; simp [RowKit.intOf]; omega
    · obtain rfl : i = l.length := by omega
      have HAS := Lib.hid (show putL l ⟨pa, pb, ps, pm, py⟩ = l ++ [⟨pa, pb, ps, pm, py⟩] from by
        unfold putL
        rw [if_neg]
        intro h
        obtain ⟨q, hq, e⟩ := hasPl_iff.1 h
        obtain ⟨k, hk, rfl⟩ := List.getElem_of_mem hq
        exact NO.out k hk hk e)
      have p0 := hpb.cell (k := 0) rfl
      have p1 := hpb.cell (k := 1) rfl
      have p2 := hpb.cell (k := 2) rfl
      have p3 := hpb.cell (k := 3) rfl
      have p4 := hpb.cell (k := 4) rfl
      have HA := Lib.hid (HO.out.alloc (Obj.cells #[.int .i64 (pa : Nat), .int .i64 (pb : Nat), .int .i64 (ps : Nat), .bool pm, .int .u8 (pn : Nat)] 59))
      have BA := Lib.hid (HB.out.2.alloc HB.out.2.size (Obj.cells #[.int .i64 (pa : Nat), .int .i64 (pb : Nat), .int .i64 (ps : Nat), .bool pm, .int .u8 (pn : Nat)] 59))
      clear hpb hb hno hi hlt
      go_wp2_with (at_builtin; refine wpList_append_own_at _ rfl _ _ 56 rfl B 59 i0 (.agg #[.int .i64 0, .int .i64 0, .int .i64 0, .bool false, .int .u8 0]) 5 32 Try.underlying56 hi0 hz0 hz1 hzb rfl (by decide) _ _ _ rfl HA.out ⟨wr.heap.size, 0, none⟩ 1 1 [.int .i64 (pa : Nat), .int .i64 (pb : Nat), .int .i64 (ps : Nat), .bool pm, .int .u8 (pn : Nat)] rfl rfl ?c1 ?c2 ?c3 ?c4 ?c5 ?_)
      case c1 =>
        intro j u hj
        rw [addr_add0]
        exact (BlkAt.new wr 59 #[.int .i64 (pa : Nat), .int .i64 (pb : Nat), .int .i64 (ps : Nat), .bool pm, .int .u8 (pn : Nat)]).cell (k := j) (by simpa using hj)
      case c2 => intro u hu; simp at hu; rcases hu with rfl | rfl | rfl | rfl | rfl <;> rfl
      case c3 => have := O.out.2.2; unfold maxLen; omega
      case c4 => have := O.out.2.2; omega
      case c5 => have := O.out.2.1; have := HB.out.2.size; simp; omega
      intro v6 w6 ho6 hg6 _ hat
      have RES := Lib.hid (show w6.ownsRow B 59 5 v6 (putL l ⟨pa, pb, ps, pm, py⟩).length (plC (putL l ⟨pa, pb, ps, pm, py⟩)) ∧ w.grownBy w6 (Value.ownBlock (.slice sa l.length sc)) ∧ (v6.ownBlock = Value.ownBlock (.slice sa l.length sc) ∨ ∃ g, v6.ownBlock = some g ∧ w.heap.size ≤ g) from by
        refine ⟨?_, ⟨hg6.os.trans BA.out.os, hg6.tape.trans BA.out.tape, hg6.output.trans BA.out.output, Nat.le_trans BA.out.size hg6.size, fun k hk hne => (hg6.block k (Nat.lt_of_lt_of_le hk BA.out.size) hne).trans (BA.out.block k hk)⟩, ?_⟩
        · rw [HAS.out, List.length_append, List.length_singleton, plC_snoc]
          rw [HPN.out] at ho6
          exact ho6
        · rcases hat with e | e
          · exact .inl e
          · exact .inr ⟨_, e, by have := HB.out.2.size; simp; omega⟩)
      clear ho6 hg6 hat
      go_wp2_with fail
      go_ret
      exact ⟨_, rfl, RES.out⟩
end Go.Proofs.Ytaalfnfikjmomaa
