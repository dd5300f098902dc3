/- Contracts of the document's Witness and Overlaps (glob). -/
import Derived.Test.YtaalfnfikjmomaaGlbRc
import Derived.Test.YtaalfnfikjmomaaGlbOg
import Derived.Test.YtaalfnfikjmomaaBaseB
namespace Go.Proofs.Ytaalfnfikjmomaa
open Go.RowKit Go.Lib
theorem overP_iff {a b : List UInt8} {x y : List GE} (ha : parseP a = some x) (hb : parseP b = some y) : overP a b = true ↔ ∃ s, GM x s ∧ GM y s := by
  unfold overP
  rw [ha, hb]
  exact @decide_eq_true_iff _ (Classical.propDecidable _)
/-- What Witness gives: a common string, or that there is none. -/
def WitPost (a b : List UInt8) (w : World) (e : Ending) (w' : World) : Prop :=
  Below w.heap.size w w' ∧ ((∃ s : ByteArray, e = .returned (.tuple #[.string s, .bool true]) ∧ s.size ≤ 33554432 ∧ matchP a s.data.toList = true ∧ matchP b s.data.toList = true ∧ overP a b = true) ∨ (e = .returned (.tuple #[.string ⟨#[]⟩, .bool false]) ∧ overP a b = false))
theorem backS_ok {x y : List GE} {l : List Pl} {k : Nat} {s : List UInt8} (hg : PlGood x y l) (hk : k < l.length) (h0 : 0 < k) (h1 : GM (x.drop l[k].a) s) (h2 : GM (y.drop l[k].b) s) : ∃ h : l[k].src < l.length, l[k].src < k ∧ GM (x.drop l[l[k].src].a) (backS l[k] s) ∧ GM (y.drop l[l[k].src].b) (backS l[k] s) := by
  obtain ⟨g1, g2, g3⟩ := hg.from_ k hk h0
  obtain ⟨e1, e2⟩ := step_back g3 h1 h2
  exact ⟨g1, g2, e1, e2⟩
theorem match_of {a : List UInt8} {x : List GE} {s : List UInt8} (h : parseP a = some x) (g : GM x s) : matchP a s = true := by
  unfold matchP
  rw [h]
  exact gmB_true.2 g
set_option maxHeartbeats 16000000 in
set_option maxRecDepth 100000 in
theorem refWitness_any (p q : ByteArray) (w : World) :
    Calls Try.prog 21 #[.string p, .string q] w (WitPost p.data.toList q.data.toList w) := by
  have E1 := Lib.hid (refElems_any p w)
  have E2 := Lib.hid (fun w => refElems_any q w)
  cases hp : parseP p.data.toList with
  | none =>
    have HV := Lib.hid (overP_none1 (b := q.data.toList) hp)
    rw [hp] at E1
    clear hp
    cases hq : parseP q.data.toList with
    | none =>
      rw [hq] at E2
      clear hq
      go_enter Try.func21, Try.ntmps21
      go_wp2_with fail
      go_fit E1.out
      rintro e w1 ⟨hb, h2⟩
      have B := Lib.hid hb
      simp only at h2
      subst h2
      clear hb
      go_wp2_with fail
      go_fit (E2.out _)
      rintro e w2 ⟨hb, h2⟩
      have B2 := Lib.hid (B.out.trans (hb.mono B.out.size))
      simp only at h2
      subst h2
      clear hb
      go_wp2_with fail
      go_ret2
      exact ⟨B2.out, .inr ⟨rfl, HV.out⟩⟩
    | some Y =>
      rw [hq] at E2
      clear hq
      go_enter Try.func21, Try.ntmps21
      go_wp2_with fail
      go_fit E1.out
      rintro e w1 ⟨hb, h2⟩
      have B := Lib.hid hb
      simp only at h2
      subst h2
      clear hb
      go_wp2_with fail
      go_fit (E2.out _)
      rintro e w2 ⟨hb, a2, c2, rfl, _⟩
      have B2 := Lib.hid (B.out.trans (hb.mono B.out.size))
      clear hb
      go_wp2_with fail
      go_ret2
      exact ⟨B2.out, .inr ⟨rfl, HV.out⟩⟩
  | some X =>
    cases hq : parseP q.data.toList with
    | none =>
      have HV := Lib.hid (overP_none2 (a := p.data.toList) hq)
      rw [hp] at E1
      rw [hq] at E2
      clear hp hq
      go_enter Try.func21, Try.ntmps21
      go_wp2_with fail
      go_fit E1.out
      rintro e w1 ⟨hb, a1, c1, rfl, _⟩
      have B := Lib.hid hb
      clear hb
      go_wp2_with fail
      go_fit (E2.out _)
      rintro e w2 ⟨hb, h2⟩
      have B2 := Lib.hid (B.out.trans (hb.mono B.out.size))
      simp only at h2
      subst h2
      clear hb
      go_wp2_with fail
      go_ret2
      exact ⟨B2.out, .inr ⟨rfl, HV.out⟩⟩
    | some Y =>
      rw [hp] at E1
      rw [hq] at E2
      have HPQ := Lib.hid (And.intro hp hq)
      clear hp hq
      go_enter Try.func21, Try.ntmps21
      go_wp2_with fail
      go_fit E1.out
      rintro e w1 ⟨hb, a1, c1, rfl, _, _, hl1, hr1⟩
      have B := Lib.hid hb
      have R1 := Lib.hid (And.intro hl1 hr1)
      clear hb hl1 hr1
      go_wp2_with fail
      go_fit (E2.out _)
      rintro e w2 ⟨hb, a2, c2, rfl, _, _, hl2, hr2⟩
      have B2 := Lib.hid (B.out.trans (hb.mono B.out.size))
      have PL := Lib.hid (places_any X Y a1 a2 c1 c2 R1.out.1 hl2 w2 (R1.out.2.below hb) hr2 (fun e he => ((parseP_items HPQ.out.1).2 e he).1) (fun e he => ((parseP_items HPQ.out.2).2 e he).1))
      have HL := Lib.hid (And.intro R1.out.1 hl2)
      have m0 : (0 : Int) ≤ X.length ∧ (X.length : Int) ≤ 4096 ∧ (0 : Int) ≤ Y.length ∧ (Y.length : Int) ≤ 4096 := by have := R1.out.1; omega
      clear hb hl2 hr2
      go_wp2_with fail
      go_fit PL.out
      rintro e w3 ⟨v, l, rfl, hrow, hgood, hclosed, hlen, hb3⟩
      obtain ⟨sa, sc, rfl⟩ := own_slice hrow
      obtain ⟨g, rfl⟩ : ∃ g, sa = some ⟨g, 0, none⟩ := by
        rcases hrow.2 with ⟨_, h0⟩ | ⟨g, cap, cur, e, _⟩
        · have := hgood.ne; omega
        · injection e with e; exact ⟨g, e⟩
      have G := Lib.hid (And.intro hgood (And.intro hclosed (And.intro hlen (And.intro hrow (B2.out.trans (hb3.mono B2.out.size))))))
      have l0 : (0 : Int) ≤ l.length ∧ (l.length : Int) ≤ 33554432 := by omega
      have B3 := Lib.hid (Below.refl w3.heap.size w3)
      clear hrow hgood hclosed hlen hb3
      go_wp2_with fail
      go_loopw [11] (fun s11 wr => ∃ i : Nat, s11 = .int .i64 (i : Int) ∧ i ≤ l.length ∧ (∀ k (h : k < l.length), k < i → ¬ (l[k].a = X.length ∧ l[k].b = Y.length)) ∧ Below w3.heap.size w3 wr) (fun s11 _ => l.length - (RowKit.intOf s11).toNat)
      case atStart => exact ⟨0, rfl, Nat.zero_le _, fun k _ h => by omega, B3.out⟩
      case round =>
        obtain ⟨i, rfl, hi, hno, hb⟩ := hrel
        have NO := Lib.hid hno
        have HB := Lib.hid hb
        by_cases hlt : i < l.length
        · have hrow := own_keep G.out.2.2.2.1 hb
          obtain ⟨x0, x1, -, -, -⟩ := own_cellPl hrow rfl i hlt
          obtain ⟨qa, hqa⟩ : ∃ qa, qa = l[i].a := ⟨_, rfl⟩
          obtain ⟨qb, hqb⟩ : ∃ qb, qb = l[i].b := ⟨_, rfl⟩
          rw [← hqa] at x0
          rw [← hqb] at x1
          have HQ := Lib.hid (show ∃ h : i < l.length, l[i].a = qa ∧ l[i].b = qb from ⟨hlt, hqa.symm, hqb.symm⟩)
          have i0 : (0 : Int) ≤ i ∧ (i : Int) < (l.length : Int) := by omega
          clear hqa hqb hb hno hi hlt hrow
          by_cases h1 : qa = X.length
          · by_cases h2 : qb = Y.length
            · have g1 : ((qa : Int) != (X.length : Int)) = false := by rw [bne_eq_false_iff_eq]; omega
              have g2 : ((qb : Int) != (Y.length : Int)) = false := by rw [bne_eq_false_iff_eq]; omega
              have ST := Lib.hid (show ∃ h : i < l.length, GM (X.drop l[i].a) [] ∧ GM (Y.drop l[i].b) [] from by
                obtain ⟨h, e1, e2⟩ := HQ.out
                refine ⟨h, ?_, ?_⟩
                · rw [e1, h1, List.drop_eq_nil_of_le (Nat.le_refl _)]; exact .nil
                · rw [e2, h2, List.drop_eq_nil_of_le (Nat.le_refl _)]; exact .nil)
              clear h1 h2
              go_wp2_with fail
              go_loopw [12, 13] (fun s12 s13 wx => ∃ (k : Nat) (s : List UInt8) (h : k < l.length), s13 = .int .i64 (k : Int) ∧ s12 = .string ⟨s.toArray⟩ ∧ GM (X.drop l[k].a) s ∧ GM (Y.drop l[k].b) s ∧ s.length + k ≤ i ∧ Below w3.heap.size w3 wx) (fun _ s13 _ => (RowKit.intOf s13).toNat)
              case atStart =>
                obtain ⟨h, e1, e2⟩ := ST.out
                exact ⟨i, [], h, rfl, rfl, e1, e2, by simp, HB.out⟩
              case round =>
                obtain ⟨k, s, hk, rfl, rfl, hg1, hg2, hsl, hb⟩ := hrel
                have HB2 := Lib.hid hb
                have HG := Lib.hid (And.intro hsl (show ∃ hk : k < l.length, GM (X.drop l[k].a) s ∧ GM (Y.drop l[k].b) s from ⟨hk, hg1, hg2⟩))
                obtain ⟨S, hS⟩ : ∃ S : ByteArray, S = ⟨s.toArray⟩ := ⟨_, rfl⟩
                rw [← hS]
                have HS := Lib.hid hS
                have hSs : S.size = s.length := by rw [hS, sizeL]
                by_cases hk0 : k = 0
                · subst hk0
                  have RES := Lib.hid (show matchP p.data.toList S.data.toList = true ∧ matchP q.data.toList S.data.toList = true ∧ overP p.data.toList q.data.toList = true ∧ S.size ≤ 33554432 from by
                    obtain ⟨h0, e1, e2⟩ := G.out.1.start
                    rw [e1, List.drop_zero] at hg1
                    rw [e2, List.drop_zero] at hg2
                    have hSl : S.data.toList = s := by rw [hS]
                    refine ⟨by rw [hSl]; exact match_of HPQ.out.1 hg1, by rw [hSl]; exact match_of HPQ.out.2 hg2, overP_some HPQ.out.1 HPQ.out.2 ⟨fun _ => ⟨s, hg1, hg2⟩, fun _ => rfl⟩, by omega⟩)
                  clear hS hSs hg1 hg2 hb hsl
                  go_wp2_with fail
                  go_ret2
                  exact ⟨G.out.2.2.2.2.trans (HB2.out.mono G.out.2.2.2.2.size), .inl ⟨S, rfl, RES.out.2.2.2, RES.out.1, RES.out.2.1, RES.out.2.2.1⟩⟩
                · have hrow := own_keep G.out.2.2.2.1 hb
                  obtain ⟨-, -, y2, y3, y4⟩ := own_cellPl hrow rfl k hk
                  obtain ⟨f1, f2, f3, f4⟩ := backS_ok G.out.1 hk (by omega) hg1 hg2
                  obtain ⟨fr, hfr⟩ : ∃ fr, fr = l[k].src := ⟨_, rfl⟩
                  obtain ⟨cb, hcb⟩ : ∃ cb, cb = l[k].byte := ⟨_, rfl⟩
                  have hbk : backS l[k] s = if l[k].moved then cb :: s else s := by rw [hcb]; rfl
                  have NX := Lib.hid (show ∃ h : fr < l.length, fr < k ∧ GM (X.drop l[fr].a) (if l[k].moved then cb :: s else s) ∧ GM (Y.drop l[fr].b) (if l[k].moved then cb :: s else s) from by
                    rw [hbk] at f3 f4
                    simp only [hfr]
                    exact ⟨f1, f2, f3, f4⟩)
                  rw [← hfr] at y2
                  rw [← hcb] at y4
                  have k0 : (0 : Int) < k ∧ (k : Int) < (l.length : Int) := by omega
                  cases hmv : l[k].moved
                  · rw [hmv] at y3
                    have NX2 := Lib.hid (show ∃ h : fr < l.length, fr < k ∧ GM (X.drop l[fr].a) s ∧ GM (Y.drop l[fr].b) s from by have := NX.out; rw [hmv] at this; exact this)
                    clear hS hSs hg1 hg2 hb hsl hfr hcb hbk f1 f2 f3 f4 hrow hmv hk0
                    go_wp2_with fail
                    go_roundw
                    case rel =>
                      obtain ⟨h, e1, e2, e3⟩ := NX2.out
                      exact ⟨fr, s, h, rfl, by rw [HS.out], e2, e3, by have := HG.out.1; omega, HB2.out⟩
                    case measure =>
                      obtain ⟨h, e1, e2, e3⟩ := NX2.out
                      simp [RowKit.intOf]; omega
                  · rw [hmv] at y3
                    have NX2 := Lib.hid (show ∃ h : fr < l.length, fr < k ∧ GM (X.drop l[fr].a) (cb :: s) ∧ GM (Y.drop l[fr].b) (cb :: s) from by have := NX.out; rw [hmv] at this; exact this)
                    have hcv : (convert 45 9 (.slice (some ⟨wr.heap.size, 0, none⟩) 1 1)).run Try.prog (wr.alloc (Obj.cells #[.int .u8 (cb.toNat : Int)] 5)) = .ok (.string ⟨#[cb]⟩) (wr.alloc (Obj.cells #[.int .u8 (cb.toNat : Int)] 5)) := conv_str (some ⟨wr.heap.size, 0, none⟩) [cb] (wr.alloc (Obj.cells #[.int .u8 (cb.toNat : Int)] 5)) (fun k hk => by
                      simp at hk
                      subst hk
                      exact ⟨_, _, rfl, by simp, (BlkAt.new wr 5 #[.int .u8 (cb.toNat : Int)]).cell (k := 0) rfl⟩) 1
                    have hsum := fun w => run_string_add_sum (P := Try.prog) w ⟨#[cb]⟩ S (by show 1 + S.size ≤ _; have := HG.out.1; have := G.out.2.2.1; omega)
                    have hrow2 := hrow.alloc (Obj.cells #[.int .u8 (cb.toNat : Int)] 5)
                    obtain ⟨-, -, z2, -, -⟩ := own_cellPl hrow2 rfl k hk
                    rw [← hfr] at z2
                    clear hS hSs hg1 hg2 hb hsl hfr hcb hbk f1 f2 f3 f4 hrow hrow2 hmv hk0
                    go_wp2_with fail
                    go_roundw
                    case rel =>
                      obtain ⟨h, e1, e2, e3⟩ := NX2.out
                      refine ⟨fr, cb :: s, h, rfl, ?_, e2, e3, by have := HG.out.1; simp; omega, HB2.out.alloc HB2.out.size _⟩
                      rw [HS.out]
                      congr 1
                    case measure =>
                      obtain ⟨h, e1, e2, e3⟩ := NX2.out
                      simp [RowKit.intOf]; omega
            · have g1 : ((qa : Int) != (X.length : Int)) = false := by rw [bne_eq_false_iff_eq]; omega
              have g2 : ((qb : Int) != (Y.length : Int)) = true := by rw [bne_iff_ne]; omega
              have HN := Lib.hid (show ∀ k (h : k < l.length), k < i + 1 → ¬ (l[k].a = X.length ∧ l[k].b = Y.length) from fun k h hk => by
                by_cases e : k = i
                · subst e
                  obtain ⟨_, _, e2⟩ := HQ.out
                  intro h; exact h2 (e2.symm.trans h.2)
                · exact NO.out k h (by omega))
              clear h1 h2
              go_wp2_with fail
              go_roundw
              case rel => exact ⟨i + 1, by go_num, HQ.out.1, HN.out, HB.out⟩
              case measure => have := HQ.out.1; simp [RowKit.intOf]; omega
          · have g1 : ((qa : Int) != (X.length : Int)) = true := by rw [bne_iff_ne]; omega
            have HN := Lib.hid (show ∀ k (h : k < l.length), k < i + 1 → ¬ (l[k].a = X.length ∧ l[k].b = Y.length) from fun k h hk => by
              by_cases e : k = i
              · subst e
                obtain ⟨_, e1, _⟩ := HQ.out
                intro h; exact h1 (e1.symm.trans h.1)
              · exact NO.out k h (by omega))
            clear h1
            go_wp2_with fail
            go_roundw
            case rel => exact ⟨i + 1, by go_num, HQ.out.1, HN.out, HB.out⟩
            case measure => have := HQ.out.1; simp [RowKit.intOf]; omega
        · obtain rfl : i = l.length := by omega
          have HV := Lib.hid (show overP p.data.toList q.data.toList = false from overP_some HPQ.out.1 HPQ.out.2 (by
            constructor
            · intro h; cases h
            · rintro ⟨s, h1, h2⟩
              obtain ⟨h0, e1, e2⟩ := G.out.1.start
              have hs : hasPl l 0 0 = true := hasPl_iff.2 ⟨l[0], List.getElem_mem h0, e1, e2⟩
              have := closed_reach G.out.2.1 _ s 0 0 (Nat.lt_succ_self _) (Nat.zero_le _) (Nat.zero_le _) hs (by simpa using h1) (by simpa using h2)
              obtain ⟨q, hq, e⟩ := hasPl_iff.1 this
              obtain ⟨k, hk, rfl⟩ := List.getElem_of_mem hq
              exact absurd e (NO.out k hk hk)))
          clear hno hb hi hlt
          go_wp2_with fail
          go_ret2
          exact ⟨G.out.2.2.2.2.trans (HB.out.mono G.out.2.2.2.2.size), .inr ⟨rfl, HV.out⟩⟩
set_option maxHeartbeats 4000000 in
theorem refOverlaps_any (p q : ByteArray) (w : World) :
    Calls Try.prog 20 #[.string p, .string q] w fun e w' => e = .returned (.bool (overP p.data.toList q.data.toList)) ∧ Below w.heap.size w w' := by
  have W := Lib.hid (refWitness_any p q w)
  go_enter Try.func20, Try.ntmps20
  go_wp2_with fail
  go_fit W.out
  rintro e w1 ⟨hb, h⟩
  have B := Lib.hid hb
  rcases h with ⟨s, rfl, _, _, _, h⟩ | ⟨rfl, h⟩
  · have HV := Lib.hid h
    clear h hb
    go_wp2_with fail
    go_ret
    exact ⟨by rw [HV.out]; rfl, B.out⟩
  · have HV := Lib.hid h
    clear h hb
    go_wp2_with fail
    go_ret
    exact ⟨by rw [HV.out]; rfl, B.out⟩
end Go.Proofs.Ytaalfnfikjmomaa
