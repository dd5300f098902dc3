/- Contract of the document's places (glob). -/
import Derived.Test.YtaalfnfikjmomaaGlbRb
import Derived.Test.YtaalfnfikjmomaaGlbOe
namespace Go.Proofs.Ytaalfnfikjmomaa
open Go.RowKit Go.Lib
theorem unseen_put {m n : Nat} {l : List Pl} {p : Pl} (ha : p.a < m) (hb : p.b < n) : 2 * unseen m n (hasPl (putL l p)) + (putL l p).length ≤ 2 * unseen m n (hasPl l) + l.length ∧ unseen m n (hasPl (putL l p)) + (putL l p).length ≤ unseen m n (hasPl l) + l.length := by
  unfold putL
  by_cases h : hasPl l p.a p.b = true
  · rw [if_pos h]; exact ⟨Nat.le_refl _, Nat.le_refl _⟩
  · rw [if_neg h]
    have h0 : hasPl l p.a p.b = false := by simpa using h
    have e : hasPl (l ++ [p]) = updS (hasPl l) p.a p.b := by
      funext i j
      have e1 : hasPl (l ++ [p]) i j = (hasPl l i j || (p.a == i && p.b == j)) := by unfold hasPl; rw [List.any_append]; simp
      rw [e1]
      unfold updS upd
      by_cases hi : i = p.a
      · subst hi
        by_cases hj : j = p.b
        · subst hj; simp
        · have : (p.b == j) = false := by rw [beq_eq_false_iff_ne]; exact fun e => hj e.symm
          simp [this, hj]
      · have : (p.a == i) = false := by rw [beq_eq_false_iff_ne]; exact fun e => hi e.symm
        simp [this, hi]
    have := unseen_lt (m := m) (n := n) (S := hasPl l) ha hb h0
    rw [e, List.length_append, List.length_singleton]
    omega
/-- What holds while a place is followed. -/
structure PSt (w : World) (x y : List GE) (i : Nat) (p : Pl) (pb : Nat) (kk : Nat) (l : List Pl) (sv : Value) (W : World) : Prop where
  row : W.ownsRow w.heap.size 59 5 sv l.length (plC l)
  blk : BlkAt W pb 59 #[.int .i64 (p.a : Nat), .int .i64 (p.b : Nat), .int .i64 (p.src : Nat), .bool p.moved, .int .u8 p.byte.toNat]
  apart : sv.ownBlock ≠ some pb
  base : Below w.heap.size w W
  good : PlGood x y l
  closed : ClosedP x y l i
  at_ : ∃ h : i < l.length, l[i] = p
  num : 2 * unseen (x.length + 1) (y.length + 1) (hasPl l) + l.length ≤ kk
  len : unseen (x.length + 1) (y.length + 1) (hasPl l) + l.length ≤ (x.length + 1) * (y.length + 1)
theorem PSt.below {w : World} {x y : List GE} {i : Nat} {p : Pl} {pb kk : Nat} {l : List Pl} {sv : Value} {W W' : World} (h : PSt w x y i p pb kk l sv W) (hb : Below W.heap.size W W') : PSt w x y i p pb kk l sv W' :=
  ⟨own_keep h.row hb, h.blk.below hb, h.apart, h.base.trans (hb.mono h.base.size), h.good, h.closed, h.at_, h.num, h.len⟩
theorem PSt.put {w : World} {x y : List GE} {i : Nat} {p q : Pl} {pb kk : Nat} {l : List Pl} {sv v' : Value} {W W' : World} (h : PSt w x y i p pb kk l sv W) (hq : q.src = i) (hs : PStep x y p q) (hi : q.a ≤ x.length ∧ q.b ≤ y.length)
    (ho : W'.ownsRow w.heap.size 59 5 v' (putL l q).length (plC (putL l q))) (hg : W.grownBy W' sv.ownBlock) (hat : v'.ownBlock = sv.ownBlock ∨ ∃ g, v'.ownBlock = some g ∧ W.heap.size ≤ g) : PSt w x y i p pb kk (putL l q) v' W' := by
  have hlt := h.blk.lt
  have hu := unseen_put (m := x.length + 1) (n := y.length + 1) (l := l) (p := q) (by omega) (by omega)
  obtain ⟨hil, hip⟩ := h.at_
  refine ⟨ho, h.blk.of_block (hg.block _ hlt (fun e => h.apart e.symm)), ?_, h.base.grown hg h.base.size (fun k hk => (h.row.lt k hk).1), good_put h.good (by rw [hq]; exact hil) ?_ hi, closed_put (Nat.le_of_lt hil) h.closed, ?_, by have := h.num; omega, by have := h.len; omega⟩
  · rcases hat with e | ⟨g, e, hg2⟩
    · rw [e]; exact h.apart
    · rw [e]; intro e2; injection e2 with e2; omega
  · have : l[q.src]'(by rw [hq]; exact hil) = p := by simp only [hq]; exact hip
    rw [this]
    exact hs
  · obtain ⟨h2, e⟩ := putL_get (p := q) i hil
    exact ⟨h2, e.trans hip⟩
/-- Whether an element at an index is one that matches any number of bytes. -/
def goA (x : List GE) (k : Nat) : Bool := match x[k]? with | some e => manyB e | none => false
theorem goA_at {x : List GE} {k : Nat} (h : k < x.length) : goA x k = manyB x[k] := by unfold goA; rw [List.getElem?_eq_getElem h]
theorem goA_ge {x : List GE} {k : Nat} (h : ¬ k < x.length) : goA x k = false := by unfold goA; rw [List.getElem?_eq_none (by omega)]
theorem goA_true {x : List GE} {k : Nat} (h : goA x k = true) : ∃ h : k < x.length, manyB x[k] = true := by
  by_cases e : k < x.length
  · exact ⟨e, by rw [← goA_at e]; exact h⟩
  · rw [goA_ge e] at h; cases h
theorem own_set_other {w : World} {B n size : Nat} {t : TypeId} {v u : Value} {xs : List Value} {a : Addr} (h : w.ownsRow B t size v n xs) (hne : v.ownBlock ≠ some a.block) : (w.setCell a u).ownsRow B t size v n xs := by
  obtain ⟨h1, h2⟩ := h
  refine ⟨h1, ?_⟩
  rcases h2 with h2 | ⟨g, cap, cur, e, hB, hg, h3⟩
  · exact .inl h2
  · refine .inr ⟨g, cap, cur, e, hB, ?_, h3⟩
    rw [Below.heap_setCell _ _ _ _ (fun e2 => hne (by rw [e, ← e2]; rfl))]
    exact hg
theorem PSt.lenB {w : World} {x y : List GE} {i : Nat} {p : Pl} {pb kk : Nat} {l : List Pl} {sv : Value} {W : World} (h : PSt w x y i p pb kk l sv W) (hx : x.length ≤ 4096) (hy : y.length ≤ 4096) : l.length ≤ 16785410 := by
  have h1 := Nat.mul_le_mul (Nat.add_le_add_right hx 1) (Nat.add_le_add_right hy 1)
  have h2 := h.len
  omega
/-- What holds at the head of each round of places, with the number that falls. -/
def PRl (w : World) (x y : List GE) (kk : Nat) (s5 s6 : Value) (W : World) : Prop :=
  ∃ (l : List Pl) (i : Nat), s6 = .int .i64 (i : Int) ∧ i ≤ l.length ∧ kk + i = 2 * unseen (x.length + 1) (y.length + 1) (hasPl l) + l.length ∧ unseen (x.length + 1) (y.length + 1) (hasPl l) + l.length ≤ (x.length + 1) * (y.length + 1) ∧ W.ownsRow w.heap.size 59 5 s5 l.length (plC l) ∧ Below w.heap.size w W ∧ PlGood x y l ∧ ClosedP x y l i
theorem prl_next {w : World} {x y : List GE} {i : Nat} {p : Pl} {nb kk k9 : Nat} {l : List Pl} {sv : Value} {W : World} (h : PSt w x y i p nb k9 l sv W) (hk : kk + i = k9)
    (c1 : goA x p.a = true → hasPl l (p.a + 1) p.b = true) (c2 : goA y p.b = true → hasPl l p.a (p.b + 1) = true)
    (c3 : ∀ (h1 : p.a < x.length) (h2 : p.b < y.length) (c : UInt8), fitsB x[p.a] c = true → fitsB y[p.b] c = true → hasPl l (if manyB x[p.a] = true then p.a else p.a + 1) (if manyB y[p.b] = true then p.b else p.b + 1) = true) :
    ∃ k', PRl w x y k' sv (.int .i64 ((i : Int) + 1)) W ∧ k' < kk := by
  obtain ⟨hil, hip⟩ := h.at_
  have hn := h.num
  refine ⟨2 * unseen (x.length + 1) (y.length + 1) (hasPl l) + l.length - (i + 1), ⟨l, i + 1, by go_num, hil, by omega, h.len, h.row, h.base, h.good, ?_⟩, by omega⟩
  intro k hk2 hki
  by_cases e : k = i
  · subst e
    simp only [hip]
    exact ⟨fun g hm => c1 (by rw [goA_at g]; exact hm), fun g hm => c2 (by rw [goA_at g]; exact hm), c3⟩
  · exact h.closed k hk2 (by omega)
theorem start_good (x y : List GE) : PlGood x y [⟨0, 0, 0, false, 0⟩] := by
  refine ⟨by simp, ⟨by simp, rfl, rfl⟩, fun k hk h0 => ?_, fun k hk => ?_⟩
  · simp at hk; omega
  · simp at hk; subst hk; exact ⟨Nat.zero_le _, Nat.zero_le _⟩
set_option maxHeartbeats 16000000 in
set_option maxRecDepth 100000 in
theorem places_any (x y : List GE) (a1 a2 : Option Addr) (c1 c2 : Nat) (hx : x.length ≤ 4096) (hy : y.length ≤ 4096) (w : World) (hr : ReadsE w a1 x) (hr2 : ReadsE w a2 y) (hi1 : ∀ e ∈ x, e.items.length ≤ 4096) (hi2 : ∀ e ∈ y, e.items.length ≤ 4096) :
    Calls Try.prog 30 #[.slice a1 x.length c1, .slice a2 y.length c2] w fun e w' => ∃ (v : Value) (l : List Pl), e = .returned v ∧ w'.ownsRow w.heap.size 59 5 v l.length (plC l) ∧ PlGood x y l ∧ ClosedP x y l l.length ∧ l.length ≤ 33554432 ∧ Below w.heap.size w w' := by
  have R1 := Lib.hid hr
  have R2 := Lib.hid hr2
  have HI := Lib.hid (And.intro hi1 hi2)
  have HL := Lib.hid (And.intro hx hy)
  have m0 : (0 : Int) ≤ x.length ∧ (x.length : Int) ≤ 4096 ∧ (0 : Int) ≤ y.length ∧ (y.length : Int) ≤ 4096 := by omega
  clear hr hr2 hi1 hi2 hx hy
  go_enter Try.func30, Try.ntmps30
  go_wp2_with fail
  have ST := Lib.hid (show PRl w x y (2 * unseen (x.length + 1) (y.length + 1) (hasPl [⟨0, 0, 0, false, 0⟩]) + 1) (.slice (some ⟨w.heap.size, 0, none⟩) 1 1) (.int .i64 0) (w.alloc (Obj.cells #[.int .i64 0, .int .i64 0, .int .i64 0, .bool false, .int .u8 0] 59)) from by
    refine ⟨[⟨0, 0, 0, false, 0⟩], 0, rfl, Nat.zero_le _, rfl, ?_, World.ownsRow_lit (base := w.heap.size) (e := 59) (size := 5) w #[.int .i64 0, .int .i64 0, .int .i64 0, .bool false, .int .u8 0] 1 (Nat.le_refl _) (by decide) rfl, (Below.refl w.heap.size w).alloc (Nat.le_refl _) _, start_good x y, fun k _ h => by omega⟩
    have h := unseen_put (m := x.length + 1) (n := y.length + 1) (l := []) (p := ⟨0, 0, 0, false, 0⟩) (by simp) (by simp)
    have h2 : unseen (x.length + 1) (y.length + 1) (hasPl []) ≤ (x.length + 1) * (y.length + 1) := by
      unfold unseen
      refine Nat.le_trans List.countP_le_length ?_
      unfold allP
      rw [List.length_flatMap]
      have e : ((List.range (x.length + 1)).map fun a => ((List.range (y.length + 1)).map fun b => (a, b)).length) = (List.range (x.length + 1)).map fun _ => (y.length + 1) := by
        apply List.map_congr_left
        intro a _
        simp
      have sc : ∀ l : List Nat, (l.map fun _ => y.length + 1).sum = l.length * (y.length + 1) := by
        intro l
        induction l with
        | nil => simp
        | cons a l ih => rw [List.map_cons, List.sum_cons, ih, List.length_cons, Nat.succ_mul]; omega
      rw [e, sc, List.length_range]
      exact Nat.le_refl _
    have h3 := h.2
    have e2 : putL [] (⟨0, 0, 0, false, 0⟩ : Pl) = [⟨0, 0, 0, false, 0⟩] := rfl
    rw [e2] at h3
    simp at h3 ⊢
    omega)
  generalize (w.alloc (Obj.cells #[.int .i64 0, .int .i64 0, .int .i64 0, .bool false, .int .u8 0] 59)) = W0 at ST ⊢
  go_loopw [5, 6] (fun s5 s6 wr => ∃ k, PRl w x y k s5 s6 wr) (fun s5 s6 wr => lst (fun k => PRl w x y k s5 s6 wr))
  case atStart => exact ⟨_, ST.out⟩
  case round =>
    obtain ⟨hk, hmin⟩ := lst_spec hrel
    clear hmin
    have HKK := Lib.hid (show ∃ kk, kk = lst (fun k => PRl w x y k u5 u6 wr) from ⟨_, rfl⟩)
    obtain ⟨kk, hkk⟩ := HKK.out
    rw [← hkk] at hk
    have HK := Lib.hid hkk
    clear hkk HKK hrel
    obtain ⟨l, i, rfl, hi, hnum, hlen, hrow, hbase, hgood, hclosed⟩ := hk
    obtain ⟨sa, sc, rfl⟩ := own_slice hrow
    have hll : l.length ≤ 16785410 := by
      have h1 := Nat.mul_le_mul (Nat.add_le_add_right HL.out.1 1) (Nat.add_le_add_right HL.out.2 1)
      omega
    have l0 : (0 : Int) ≤ l.length ∧ (l.length : Int) ≤ 16785410 := by omega
    by_cases hlt : i < l.length
    · obtain ⟨g, rfl⟩ : ∃ g, sa = some ⟨g, 0, none⟩ := by
        rcases hrow.2 with ⟨_, h0⟩ | ⟨g, cap, cur, e, _⟩
        · omega
        · injection e with e; exact ⟨g, e⟩
      obtain ⟨x0, x1, x2, x3, x4⟩ := own_cellPl hrow rfl i hlt
      obtain ⟨p, hp⟩ : ∃ p, p = l[i] := ⟨_, rfl⟩
      rw [← hp] at x0 x1 x2 x3 x4
      have hin := hgood.in_ i hlt
      rw [← hp] at hin
      have P1 := Lib.hid (show PSt w x y i p wr.heap.size (kk + i) l (.slice (some ⟨g, 0, none⟩) l.length sc) (wr.alloc (Obj.cells #[.int .i64 (p.a : Nat), .int .i64 (p.b : Nat), .int .i64 (p.src : Nat), .bool p.moved, .int .u8 p.byte.toNat] 59)) from
        ⟨hrow.alloc _, BlkAt.new _ _ _, fun e => by have := (hrow.lt _ e).2; omega, hbase.alloc hbase.size _, hgood, hclosed, ⟨hlt, hp.symm⟩, by omega, hlen⟩)
      have j0 : (0 : Int) ≤ i ∧ (i : Int) < (l.length : Int) := by omega
      have HJ := Lib.hid (And.intro hlt hll)
      obtain ⟨pa, pb, ps, pm, py⟩ := p
      simp only at x0 x1 x2 x3 x4 hin P1
      have HP := Lib.hid hin
      have pa0 : (0 : Int) ≤ pa ∧ (pa : Int) ≤ (x.length : Int) := by omega
      have pb0 : (0 : Int) ≤ pb ∧ (pb : Int) ≤ (y.length : Int) := by omega
      obtain ⟨pyn, hpyn⟩ : ∃ n, n = py.toNat := ⟨_, rfl⟩
      rw [← hpyn] at x4 P1
      have HPY := Lib.hid hpyn
      clear hp hin hnum hlen hrow hbase hgood hclosed hi hll hlt hpyn
      obtain ⟨nb, hnb⟩ : ∃ nb, nb = wr.heap.size := ⟨_, rfl⟩
      obtain ⟨W1, hW1⟩ : ∃ W1, W1 = wr.alloc (Obj.cells #[.int .i64 (pa : Nat), .int .i64 (pb : Nat), .int .i64 (ps : Nat), .bool pm, .int .u8 (pyn : Nat)] 59) := ⟨_, rfl⟩
      go_upto_region 6 with (fail)
      rw [← hW1] at P1 ⊢
      rw [← hnb] at P1 ⊢
      clear hW1 hnb x0 x1 x2 x3 x4
      have d0 := P1.out.blk.cell (k := 0) rfl
      have d1 := P1.out.blk.cell (k := 1) rfl
      simp only at d0 d1
      go_cut [35] (fun sT wx => sT = .bool (goA x pa) ∧ Below W1.heap.size W1 wx)
      case first =>
        by_cases hlt : pa < x.length
        · obtain ⟨b, iv, ic, hbe, hb9, e1, e2, e3, e4⟩ := R1.out.below P1.out.base pa hlt
          subst hbe
          rw [Nat.mul_comm] at e1 e2
          have HG := Lib.hid (goA_at hlt)
          obtain ⟨e, he⟩ : ∃ e, e = x[pa] := ⟨_, rfl⟩
          rw [← he] at e1 e2 e3 e4 HG
          have M := Lib.hid (fun w => refMany_any e e3 (.slice iv e.items.length ic) w ⟨_, _, _, rfl⟩)
          have g1 : (pa : Int) < (x.length : Int) := by omega
          clear he e3 e4 hlt hb9
          go_wp2_with fail
          go_fit (M.out _)
          rintro e9 w2 ⟨rfl, hb2⟩
          have B2 := Lib.hid hb2
          clear hb2
          go_wp2_with fail
          go_meet
          exact ⟨by rw [HG.out], B2.out⟩
        · have g1 : ¬ (pa : Int) < (x.length : Int) := by omega
          have HG := Lib.hid (goA_ge hlt)
          clear hlt
          go_wp2_with fail
          go_meet
          exact ⟨by rw [HG.out], Below.refl _ _⟩
      case rest =>
        obtain ⟨rfl, hb⟩ := hcut
        have Q1 := Lib.hid (P1.out.below hb)
        obtain ⟨V1, hV⟩ : ∃ V, V = wc := ⟨_, rfl⟩
        rw [← hV] at Q1 ⊢
        clear hb hV d0 d1
        go_upto_if 35 with (fail)
        go_cut [5] (fun s5 wx => ∃ lz, PSt w x y i ⟨pa, pb, ps, pm, py⟩ nb (kk + i) lz s5 wx ∧ (goA x pa = true → hasPl lz (pa + 1) (pb) = true) ∧ (∀ a b, hasPl l a b = true → hasPl lz a b = true))
        case first =>
          cases hg : goA x pa
          · have HG := Lib.hid hg
            clear hg
            go_wp2_with fail
            go_meet
            exact ⟨l, Q1.out, (fun h => by rw [HG.out] at h; cases h), fun _ _ h => h⟩
          · have HG := Lib.hid hg
            have d0 := Q1.out.blk.cell (k := 0) rfl
            have d1 := Q1.out.blk.cell (k := 1) rfl
            simp only at d0 d1
            have PT := Lib.hid (put_any l ⟨pa + 1, pb, i, false, 0⟩ (.slice (some ⟨g, 0, none⟩) l.length sc) w.heap.size V1 (by have := Q1.out.lenB HL.out.1 HL.out.2; omega) Q1.out.base.size Q1.out.row)
            simp only [Int.natCast_add, Int.natCast_one] at PT
            rw [show (((0 : UInt8).toNat : Nat) : Int) = 0 from rfl] at PT
            clear hg
            go_wp2_with fail
            go_fit PT.out
            rintro e9 w3 ⟨v', rfl, ho, hg3, hat⟩
            have NP := Lib.hid (Q1.out.put (q := ⟨pa + 1, pb, i, false, 0⟩) rfl (.inl ⟨rfl, .inl (by obtain ⟨h1, h2⟩ := goA_true HG.out; exact ⟨h1, h2, rfl, rfl⟩)⟩) (by obtain ⟨h, _⟩ := goA_true HG.out; have := HP.out; simp only; omega) ho hg3 hat)
            clear ho hg3 hat
            go_wp2_with fail
            go_meet
            exact ⟨_, NP.out, fun _ => putL_has l ⟨pa + 1, pb, i, false, 0⟩, fun _ _ h => putL_mono h⟩
        case rest =>
          obtain ⟨l1, hp1, has1, mono1⟩ := hcut
          obtain ⟨sa1, sc1, rfl⟩ := own_slice hp1.row
          have S1 := Lib.hid (And.intro hp1 (And.intro has1 mono1))
          obtain ⟨X1, hX⟩ : ∃ X, X = wc := ⟨_, rfl⟩
          rw [← hX] at S1 ⊢
          clear hp1 has1 mono1 hX Q1
          have T1 := Lib.hid S1.out.1
          have d0 := T1.out.blk.cell (k := 0) rfl
          have d1 := T1.out.blk.cell (k := 1) rfl
          simp only at d0 d1
          go_upto_region 8 with (fail)
          go_cut [57] (fun sT wx => sT = .bool (goA y pb) ∧ Below X1.heap.size X1 wx)
          case first =>
            by_cases hlt : pb < y.length
            · obtain ⟨b, iv, ic, hbe, hb9, e1, e2, e3, e4⟩ := R2.out.below T1.out.base pb hlt
              subst hbe
              rw [Nat.mul_comm] at e1 e2
              have HG := Lib.hid (goA_at hlt)
              obtain ⟨e, he⟩ : ∃ e, e = y[pb] := ⟨_, rfl⟩
              rw [← he] at e1 e2 e3 e4 HG
              have M := Lib.hid (fun w => refMany_any e e3 (.slice iv e.items.length ic) w ⟨_, _, _, rfl⟩)
              have g1 : (pb : Int) < (y.length : Int) := by omega
              clear he e3 e4 hlt hb9
              go_wp2_with fail
              go_fit (M.out _)
              rintro e9 w2 ⟨rfl, hb2⟩
              have B2 := Lib.hid hb2
              clear hb2
              go_wp2_with fail
              go_meet
              exact ⟨by rw [HG.out], B2.out⟩
            · have g1 : ¬ (pb : Int) < (y.length : Int) := by omega
              have HG := Lib.hid (goA_ge hlt)
              clear hlt
              go_wp2_with fail
              go_meet
              exact ⟨by rw [HG.out], Below.refl _ _⟩
          case rest =>
            obtain ⟨rfl, hb⟩ := hcut
            have Q2 := Lib.hid (T1.out.below hb)
            obtain ⟨V2, hV⟩ : ∃ V, V = wc := ⟨_, rfl⟩
            rw [← hV] at Q2 ⊢
            clear hb hV d0 d1
            go_upto_if 57 with (fail)
            go_cut [5] (fun s5 wx => ∃ lz, PSt w x y i ⟨pa, pb, ps, pm, py⟩ nb (kk + i) lz s5 wx ∧ (goA y pb = true → hasPl lz (pa) (pb + 1) = true) ∧ (∀ a b, hasPl l1 a b = true → hasPl lz a b = true))
            case first =>
              cases hg : goA y pb
              · have HG := Lib.hid hg
                clear hg
                go_wp2_with fail
                go_meet
                exact ⟨l1, Q2.out, (fun h => by rw [HG.out] at h; cases h), fun _ _ h => h⟩
              · have HG := Lib.hid hg
                have d0 := Q2.out.blk.cell (k := 0) rfl
                have d1 := Q2.out.blk.cell (k := 1) rfl
                simp only at d0 d1
                have PT := Lib.hid (put_any l1 ⟨pa, pb + 1, i, false, 0⟩ (.slice sa1 l1.length sc1) w.heap.size V2 (by have := Q2.out.lenB HL.out.1 HL.out.2; omega) Q2.out.base.size Q2.out.row)
                simp only [Int.natCast_add, Int.natCast_one] at PT
                rw [show (((0 : UInt8).toNat : Nat) : Int) = 0 from rfl] at PT
                clear hg
                go_wp2_with fail
                go_fit PT.out
                rintro e9 w3 ⟨v', rfl, ho, hg3, hat⟩
                have NP := Lib.hid (Q2.out.put (q := ⟨pa, pb + 1, i, false, 0⟩) rfl (.inl ⟨rfl, .inr (by obtain ⟨h1, h2⟩ := goA_true HG.out; exact ⟨h1, h2, rfl, rfl⟩)⟩) (by obtain ⟨h, _⟩ := goA_true HG.out; have := HP.out; simp only; omega) ho hg3 hat)
                clear ho hg3 hat
                go_wp2_with fail
                go_meet
                exact ⟨_, NP.out, fun _ => putL_has l1 ⟨pa, pb + 1, i, false, 0⟩, fun _ _ h => putL_mono h⟩
            case rest =>
              obtain ⟨l2, hp1, has2, mono2⟩ := hcut
              obtain ⟨sa2, sc2, rfl⟩ := own_slice hp1.row
              have S2 := Lib.hid (And.intro hp1 (And.intro has2 mono2))
              obtain ⟨X2, hX⟩ : ∃ X, X = wc := ⟨_, rfl⟩
              rw [← hX] at S2 ⊢
              clear hp1 has2 mono2 hX Q2
              have T2 := Lib.hid S2.out.1
              have C1 := Lib.hid (show goA x pa = true → hasPl l2 (pa + 1) pb = true from fun h => S2.out.2.2 _ _ (S1.out.2.1 h))
              have C2 := Lib.hid (show goA y pb = true → hasPl l2 pa (pb + 1) = true from S2.out.2.1)
              have d0 := T2.out.blk.cell (k := 0) rfl
              have d1 := T2.out.blk.cell (k := 1) rfl
              simp only at d0 d1
              by_cases ga : pa = x.length
              · have g1 : ((pa : Int) == (x.length : Int)) = true := by rw [beq_iff_eq]; omega
                have g2 : (pa : Int) = (x.length : Int) := by omega
                have NX := Lib.hid (prl_next T2.out rfl C1.out C2.out (fun h1 h2 => by simp only at h1 h2; omega))
                go_wp2_with fail
                go_roundw
                case rel => obtain ⟨k', h, _⟩ := NX.out; exact ⟨k', h⟩
                case measure =>
                  obtain ⟨k', h, hk'⟩ := NX.out
                  rw [← HK.out]
                  exact Nat.lt_of_le_of_lt ((lst_spec ⟨k', h⟩).2 k' h) hk'
              · have g1 : ((pa : Int) == (x.length : Int)) = false := by rw [beq_eq_false_iff_ne]; omega
                by_cases gb : pb = y.length
                · have g2 : ((pb : Int) == (y.length : Int)) = true := by rw [beq_iff_eq]; omega
                  have NX := Lib.hid (prl_next T2.out rfl C1.out C2.out (fun h1 h2 => by simp only at h1 h2; omega))
                  go_wp2_with fail
                  go_roundw
                  case rel => obtain ⟨k', h, _⟩ := NX.out; exact ⟨k', h⟩
                  case measure =>
                    obtain ⟨k', h, hk'⟩ := NX.out
                    rw [← HK.out]
                    exact Nat.lt_of_le_of_lt ((lst_spec ⟨k', h⟩).2 k' h) hk'
                · have g2 : ((pb : Int) == (y.length : Int)) = false := by rw [beq_eq_false_iff_ne]; omega
                  have hlx : pa < x.length := by omega
                  have hly : pb < y.length := by omega
                  have HLT := Lib.hid (And.intro hlx hly)
                  obtain ⟨ex, hex⟩ : ∃ e, e = x[pa] := ⟨_, rfl⟩
                  obtain ⟨ey, hey⟩ : ∃ e, e = y[pb] := ⟨_, rfl⟩
                  obtain ⟨b1, iv, ic, hbe1, -, -, -, ek1, -⟩ := R1.out pa hlx
                  obtain ⟨b2, jv, jc, hbe2, -, -, -, ek2, -⟩ := R2.out pb hly
                  subst hbe1
                  subst hbe2
                  have CX := Lib.hid (fun (W : World) (hW : Below w.heap.size w W) => show ∃ (iv : Option Addr) (ic : Nat), W.cell? ⟨b1, pa * 2, none⟩ = some (.int .i64 (ex.kind : Nat)) ∧ W.cell? ⟨b1, pa * 2 + 1, none⟩ = some (.slice iv ex.items.length ic) ∧ ReadsI (fun _ => True) W iv ex.items from by
                    obtain ⟨b, iv, ic, h1, _, h2, h3, _, h4⟩ := R1.out.below hW pa HLT.out.1
                    injection h1 with h1
                    injection h1 with h1
                    subst h1
                    rw [Nat.mul_comm, ← hex] at h2 h3
                    rw [← hex] at h4
                    exact ⟨iv, ic, h2, h3, h4⟩)
                  have CY := Lib.hid (fun (W : World) (hW : Below w.heap.size w W) => show ∃ (iv : Option Addr) (ic : Nat), W.cell? ⟨b2, pb * 2, none⟩ = some (.int .i64 (ey.kind : Nat)) ∧ W.cell? ⟨b2, pb * 2 + 1, none⟩ = some (.slice iv ey.items.length ic) ∧ ReadsI (fun _ => True) W iv ey.items from by
                    obtain ⟨b, iv, ic, h1, _, h2, h3, _, h4⟩ := R2.out.below hW pb HLT.out.2
                    injection h1 with h1
                    injection h1 with h1
                    subst h1
                    rw [Nat.mul_comm, ← hey] at h2 h3
                    rw [← hey] at h4
                    exact ⟨iv, ic, h2, h3, h4⟩)
                  have HE := Lib.hid (And.intro hex hey)
                  rw [← hex] at ek1
                  rw [← hey] at ek2
                  have EK := Lib.hid (And.intro ek1 (And.intro ek2 (And.intro (HI.out.1 ex (by rw [hex]; exact List.getElem_mem hlx)) (HI.out.2 ey (by rw [hey]; exact List.getElem_mem hly)))))
                  have q1 : (pa : Int) < (x.length : Int) := by omega
                  have q2 : (pb : Int) < (y.length : Int) := by omega
                  clear hex hey ek1 ek2 ga gb
                  go_upto_region 11 with (fail)
                  have DQ := Lib.hid (And.intro (T2.out.blk.cell (k := 0) rfl) (T2.out.blk.cell (k := 1) rfl))
                  obtain ⟨iv3, ic3, u1, u2, u3⟩ := CX.out X2 T2.out.base
                  obtain ⟨jv3, jc3, v1, v2, v3⟩ := CY.out X2 T2.out.base
                  have CM := Lib.hid (fun w h1 h2 => common_any ex ey EK.out.1 EK.out.2.1 iv3 jv3 ic3 jc3 EK.out.2.2.1 EK.out.2.2.2 w h1 h2)
                  have RD := Lib.hid (And.intro u3 v3)
                  clear u3 v3
                  go_cut [8, 9] (fun s8 s9 wx => ∃ (c : UInt8) (ok : Bool), s8 = .int .u8 c.toNat ∧ s9 = .bool ok ∧ (ok = true → fitsB ex c = true ∧ fitsB ey c = true) ∧ (ok = false → ∀ c, ¬ (fitsB ex c = true ∧ fitsB ey c = true)) ∧ Below X2.heap.size X2 wx)
                  case first =>
                    go_region_with (go_at_call 44; go_fit (CM.out _ (RD.out.1.below (Below.refl _ _).drew) (RD.out.2.below (Below.refl _ _).drew)); rintro e9 w2 ⟨⟨c, ok, rfl, h1, h2⟩, hb2⟩; go_wp2_with fail)
                    all_goals
                      go_wp2_with fail
                      go_meet
                      exact ⟨c, ok, rfl, rfl, h1, h2, (Below.refl _ _).drew.trans hb2⟩
                  case rest =>
                    obtain ⟨c, ok, rfl, rfl, hf, hnf, hb⟩ := hcut
                    have T4 := Lib.hid (T2.out.below hb)
                    have FF := Lib.hid (And.intro hf hnf)
                    obtain ⟨X4, hX⟩ : ∃ X, X = wc := ⟨_, rfl⟩
                    rw [← hX] at T4 ⊢
                    clear hb hX hf hnf u1 u2 v1 v2 d0 d1
                    cases ok
                    · have NX := Lib.hid (prl_next T4.out rfl C1.out C2.out (fun h1 h2 c f1 f2 => by
                        simp only at h1 h2 f1 f2
                        exact absurd ⟨by rw [HE.out.1]; exact f1, by rw [HE.out.2]; exact f2⟩ (FF.out.2 rfl c)))
                      go_wp2_with fail
                      go_roundw
                      case rel => obtain ⟨k', h, _⟩ := NX.out; exact ⟨k', h⟩
                      case measure =>
                        obtain ⟨k', h, hk'⟩ := NX.out
                        rw [← HK.out]
                        exact Nat.lt_of_le_of_lt ((lst_spec ⟨k', h⟩).2 k' h) hk'
                    · obtain ⟨cn, hcn⟩ : ∃ cn, cn = c.toNat := ⟨_, rfl⟩
                      rw [← hcn]
                      have HCN := Lib.hid hcn
                      clear hcn
                      have T5 := Lib.hid (T4.out.below ((Below.refl X4.heap.size X4).alloc (Nat.le_refl _) (Obj.cells #[.int .i64 (pa : Nat), .int .i64 (pb : Nat), .int .i64 (i : Nat), .bool true, .int .u8 (cn : Nat)] 59)))
                      have QB := Lib.hid (BlkAt.new X4 59 #[.int .i64 (pa : Nat), .int .i64 (pb : Nat), .int .i64 (i : Nat), .bool true, .int .u8 (cn : Nat)])
                      obtain ⟨qb, hqb⟩ : ∃ qb, qb = X4.heap.size := ⟨_, rfl⟩
                      have QNE := Lib.hid (show nb ≠ qb ∧ w.heap.size ≤ qb ∧ Value.ownBlock (.slice sa2 l2.length sc2) ≠ some qb from by
                        have z1 := T4.out.blk.lt
                        have z2 := T4.out.base.size
                        exact ⟨by omega, by omega, fun e => by have := (T4.out.row.lt _ e).2; omega⟩)
                      have d0 := T4.out.blk.cell (k := 0) rfl
                      have d1 := T4.out.blk.cell (k := 1) rfl
                      simp only at d0 d1
                      have d0' := T5.out.blk.cell (k := 0) rfl
                      have d1' := T5.out.blk.cell (k := 1) rfl
                      simp only at d0' d1'
                      obtain ⟨iv3, ic3, u1, u2, u3⟩ := CX.out _ T5.out.base
                      have M1 := Lib.hid (fun w => refMany_any ex EK.out.1 (.slice iv3 ex.items.length ic3) w ⟨_, _, _, rfl⟩)
                      clear u3
                      go_upto_region 14 with (fail)
                      rw [← hqb] at QB ⊢
                      obtain ⟨X5, hX5⟩ : ∃ X5, X5 = X4.alloc (Obj.cells #[.int .i64 (pa : Nat), .int .i64 (pb : Nat), .int .i64 (i : Nat), .bool true, .int .u8 (cn : Nat)] 59) := ⟨_, rfl⟩
                      rw [← hX5] at T5 QB d0' d1' u1 u2 ⊢
                      clear hX5 d0 d1 hqb
                      go_cut [108] (fun sT wx => sT = .bool (!manyB ex) ∧ Below X5.heap.size X5 wx)
                      case first =>
                        go_wp2_with fail
                        go_fit (M1.out _)
                        rintro e9 w6 ⟨rfl, hb6⟩
                        have B6 := Lib.hid hb6
                        clear hb6
                        go_wp2_with fail
                        go_meet
                        exact ⟨rfl, B6.out⟩
                      case rest =>
                        obtain ⟨rfl, hb6⟩ := hcut
                        have T6 := Lib.hid (And.intro (T5.out.below hb6) (QB.out.below hb6))
                        obtain ⟨X6, hX⟩ : ∃ X, X = wc := ⟨_, rfl⟩
                        rw [← hX] at T6 ⊢
                        clear hb6 hX d0' d1' u1 u2 T5 QB
                        go_upto_if 108 with (fail)
                        go_cut [] (fun wx => PSt w x y i ⟨pa, pb, ps, pm, py⟩ nb (kk + i) l2 (.slice sa2 l2.length sc2) wx ∧ BlkAt wx qb 59 #[.int .i64 ((if manyB ex = true then pa else pa + 1 : Nat) : Int), .int .i64 (pb : Nat), .int .i64 (i : Nat), .bool true, .int .u8 (cn : Nat)])
                        case first =>
                          have q0 := T6.out.2.cell (k := 0) rfl
                          have f0 := T6.out.2.frozen 0
                          cases hm : manyB ex
                          · have HM := Lib.hid hm
                            clear hm
                            go_wp2_with fail
                            go_meet
                            rw [if_neg (by rw [HM.out]; decide)]
                            refine ⟨⟨own_set_other T6.out.1.row QNE.out.2.2, T6.out.1.blk.setOther (a := ⟨qb, 0, none⟩) QNE.out.1 _, T6.out.1.apart, T6.out.1.base.setCell (p := ⟨qb, 0, none⟩) QNE.out.2.1 _, T6.out.1.good, T6.out.1.closed, T6.out.1.at_, T6.out.1.num, T6.out.1.len⟩, ?_⟩
                            have := T6.out.2.set 0 (.int .i64 ((pa : Int) + 1))
                            exact this
                          · have HM := Lib.hid hm
                            clear hm
                            go_wp2_with fail
                            go_meet
                            rw [if_pos HM.out]
                            exact T6.out
                        case rest =>
                          have T7 := Lib.hid hcut
                          obtain ⟨X7, hX⟩ : ∃ X, X = wc := ⟨_, rfl⟩
                          rw [← hX] at T7 ⊢
                          clear hcut hX T6
                          obtain ⟨qa', hqa'⟩ : ∃ qa', qa' = (if manyB ex = true then pa else pa + 1 : Nat) := ⟨_, rfl⟩
                          rw [← hqa'] at T7
                          have HQA := Lib.hid hqa'
                          clear hqa'
                          have d0' := T7.out.1.blk.cell (k := 0) rfl
                          have d1' := T7.out.1.blk.cell (k := 1) rfl
                          simp only at d0' d1'
                          obtain ⟨jv3, jc3, u1, u2, u3⟩ := CY.out _ T7.out.1.base
                          have M2 := Lib.hid (fun w => refMany_any ey EK.out.2.1 (.slice jv3 ey.items.length jc3) w ⟨_, _, _, rfl⟩)
                          clear u3
                          go_upto_region 16 with (fail)
                          go_cut [119] (fun sT wx => sT = .bool (!manyB ey) ∧ Below X7.heap.size X7 wx)
                          case first =>
                            go_wp2_with fail
                            go_fit (M2.out _)
                            rintro e9 w6 ⟨rfl, hb6⟩
                            have B6 := Lib.hid hb6
                            clear hb6
                            go_wp2_with fail
                            go_meet
                            exact ⟨rfl, B6.out⟩
                          case rest =>
                            obtain ⟨rfl, hb6⟩ := hcut
                            have T8 := Lib.hid (And.intro (T7.out.1.below hb6) (T7.out.2.below hb6))
                            obtain ⟨X8, hX⟩ : ∃ X, X = wc := ⟨_, rfl⟩
                            rw [← hX] at T8 ⊢
                            clear hb6 hX d0' d1' u1 u2 T7
                            go_upto_if 119 with (fail)
                            go_cut [] (fun wx => PSt w x y i ⟨pa, pb, ps, pm, py⟩ nb (kk + i) l2 (.slice sa2 l2.length sc2) wx ∧ BlkAt wx qb 59 #[.int .i64 (qa' : Nat), .int .i64 ((if manyB ey = true then pb else pb + 1 : Nat) : Int), .int .i64 (i : Nat), .bool true, .int .u8 (cn : Nat)])
                            case first =>
                              have q1' := T8.out.2.cell (k := 1) rfl
                              have f1 := T8.out.2.frozen 1
                              cases hm : manyB ey
                              · have HM := Lib.hid hm
                                clear hm
                                go_wp2_with fail
                                go_meet
                                rw [if_neg (by rw [HM.out]; decide)]
                                refine ⟨⟨own_set_other T8.out.1.row QNE.out.2.2, T8.out.1.blk.setOther (a := ⟨qb, 1, none⟩) QNE.out.1 _, T8.out.1.apart, T8.out.1.base.setCell (p := ⟨qb, 1, none⟩) QNE.out.2.1 _, T8.out.1.good, T8.out.1.closed, T8.out.1.at_, T8.out.1.num, T8.out.1.len⟩, ?_⟩
                                have := T8.out.2.set 1 (.int .i64 ((pb : Int) + 1))
                                exact this
                              · have HM := Lib.hid hm
                                clear hm
                                go_wp2_with fail
                                go_meet
                                rw [if_pos HM.out]
                                exact T8.out
                            case rest =>
                              have T9 := Lib.hid hcut
                              obtain ⟨X9, hX⟩ : ∃ X, X = wc := ⟨_, rfl⟩
                              rw [← hX] at T9 ⊢
                              clear hcut hX T8
                              obtain ⟨qb', hqb'⟩ : ∃ qb', qb' = (if manyB ey = true then pb else pb + 1 : Nat) := ⟨_, rfl⟩
                              rw [← hqb'] at T9
                              have HQB := Lib.hid hqb'
                              clear hqb'
                              have t0 := T9.out.2.cell (k := 0) rfl
                              have t1 := T9.out.2.cell (k := 1) rfl
                              have t2 := T9.out.2.cell (k := 2) rfl
                              have t3 := T9.out.2.cell (k := 3) rfl
                              have t4 := T9.out.2.cell (k := 4) rfl
                              have PT := Lib.hid (put_any l2 ⟨qa', qb', i, true, c⟩ (.slice sa2 l2.length sc2) w.heap.size X9 (by have := T9.out.1.lenB HL.out.1 HL.out.2; omega) T9.out.1.base.size T9.out.1.row)
                              simp only at PT
                              rw [← HCN.out] at PT
                              go_wp2_with fail
                              go_fit PT.out
                              rintro e9 w3 ⟨v', rfl, ho, hg3, hat⟩
                              have NP := T9.out.1.put (q := ⟨qa', qb', i, true, c⟩) rfl (.inr ⟨rfl, HLT.out.1, HLT.out.2, by simp only; rw [← HE.out.1]; exact (FF.out.1 (by trivial)).1, by simp only; rw [← HE.out.2]; exact (FF.out.1 (by trivial)).2, by simp only; rw [← HE.out.1]; exact HQA.out, by simp only; rw [← HE.out.2]; exact HQB.out⟩) (by
                                have h1 := HLT.out.1
                                have h2 := HLT.out.2
                                have h3 := HQA.out
                                have h4 := HQB.out
                                simp only
                                refine ⟨?_, ?_⟩
                                · rw [h3]; split <;> omega
                                · rw [h4]; split <;> omega) ho hg3 hat
                              have NX := Lib.hid (prl_next NP rfl (fun h => putL_mono (C1.out h)) (fun h => putL_mono (C2.out h)) (fun h1 h2 c' f1 f2 => by
                                have := putL_has l2 ⟨qa', qb', i, true, c⟩
                                simp only at this ⊢
                                rw [← HE.out.1, ← HE.out.2, ← HQA.out, ← HQB.out]
                                exact this))
                              clear ho hg3 hat NP
                              go_wp2_with fail
                              go_roundw
                              case rel => obtain ⟨k', h, _⟩ := NX.out; exact ⟨k', h⟩
                              case measure =>
                                obtain ⟨k', h, hk'⟩ := NX.out
                                rw [← HK.out]
                                exact Nat.lt_of_le_of_lt ((lst_spec ⟨k', h⟩).2 k' h) hk'
    · obtain rfl : i = l.length := by omega
      have RES := Lib.hid (And.intro hrow (And.intro hgood (And.intro hclosed (And.intro hll hbase))))
      clear hrow hgood hclosed hbase hlen hnum hi hlt
      go_wp2_with fail
      go_ret
      exact ⟨_, l, rfl, RES.out.1, RES.out.2.1, RES.out.2.2.1, by have := RES.out.2.2.2.1; omega, RES.out.2.2.2.2⟩
end Go.Proofs.Ytaalfnfikjmomaa
