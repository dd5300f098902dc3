/- The contracts of the reader's fields and field (octets), by induction on the levels that are left. -/
import Derived.Test.YtfnjemocekgncaaPrsA
import Derived.Maps.AppendAt
namespace Go.Proofs.Ytfnjemocekgncaa
open Go.RowKit Go.Lib

def FieldPost (R n : Nat) (w : World) (p : Nat × Fd × List UInt8) (e : Ending) (w' : World) : Prop :=
  ∃ k i s av c l', e = .returned (.tuple #[.agg #[.int .i64 k, .int .i64 i, .string s, .slice av (List.length l') c], .int .i64 (p.1 : Nat)]) ∧ But R w w' ∧
    (p.1 = 0 → p.2.1 = .mk k i s l' ∧ -9223372036854775808 ≤ k ∧ k ≤ 9223372036854775807 ∧ -9223372036854775808 ≤ i ∧ i ≤ 9223372036854775807 ∧ l'.length ≤ 9223372036854775807 ∧ ReadsS (w.heap.size ≤ ·) (n - 1) w' av l' ∧ RSt R w' p.2.2)
def FieldsPost (R n : Nat) (w : World) (p : Nat × List Fd × List UInt8) (e : Ending) (w' : World) : Prop :=
  ∃ v c, e = .returned (.tuple #[.slice v p.2.1.length c, .int .i64 (p.1 : Nat)]) ∧ But R w w' ∧ (p.1 = 0 → p.2.1.length ≤ 1099511627776 ∧ ReadsS (w.heap.size ≤ ·) n w' v p.2.1 ∧ RSt R w' p.2.2)
def FieldOk (n : Nat) : Prop := ∀ (R : Nat) (l : List UInt8) (w : World) (t : Int), t = 129 - (n : Int) → n ≤ 128 → l.length ≤ 1099511627776 → RSt R w l →
  Calls Try.prog 39 #[.pointer (some ⟨R, 0, none⟩), .int .i64 t] w (FieldPost R n w (pField n l))
def FieldsOk (n : Nat) : Prop := ∀ (R : Nat) (l : List UInt8) (w : World) (t : Int), t = 129 - (n : Int) → n ≤ 128 → l.length ≤ 1099511627776 → RSt R w l →
  Calls Try.prog 37 #[.pointer (some ⟨R, 0, none⟩), .int .i64 t] w (FieldsPost R n w (pFields (pField n) l))

set_option maxHeartbeats 4000000 in
set_option maxRecDepth 100000 in
theorem fields_bad0 (n R : Nat) (l : List UInt8) (w : World) (t : Int) (a : Option Addr) (c : Nat) (hl : l.length ≤ 1099511627776) (hc : w.cell? ⟨R, 0, none⟩ = some (.slice a l.length c)) (h3 : ReadsBytes w a l) (he : (take l).2.2 ≠ 0) :
    Calls Try.prog 37 #[.pointer (some ⟨R, 0, none⟩), .int .i64 t] w (FieldsPost R n w (pFields (pField n) l)) := by
  have hT := TakeUint_any a c l (by omega) w h3
  rw [show pFields (pField n) l = ((take l).2.2, [], []) by unfold pFields; rw [if_pos he]]
  obtain ⟨⟨u, k, e⟩, ht⟩ : ∃ t, t = take l := ⟨_, rfl⟩
  rw [← ht] at hT he ⊢
  simp only at hT he ⊢
  have HT := Lib.hid hT
  have u1 : ((e : Int) != 0) = true := by rw [bne_iff_ne]; omega
  have HE := Lib.hid he
  clear hT ht he h3
  go_enter Try.func37, Try.ntmps37
  go_wp2_with fail
  go_fit (HT.out)
  rintro e w1 ⟨rfl, rfl⟩
  go_wp2_with fail
  go_ret2
  exact ⟨none, 0, rfl, But.refl _ _, fun h => absurd h HE.out⟩

theorem fields_bad (n R : Nat) (l : List UInt8) (w : World) (t : Int) (hl : l.length ≤ 1099511627776) (hr : RSt R w l) (he : (take l).2.2 ≠ 0) :
    Calls Try.prog 37 #[.pointer (some ⟨R, 0, none⟩), .int .i64 t] w (FieldsPost R n w (pFields (pField n) l)) := by
  obtain ⟨a, c, hc, _, _, _, _, h3, _⟩ := hr
  exact fields_bad0 n R l w t a c hl hc h3 he

theorem info68 : (Try.prog.info? 48).map (fun i => (i.zero, i.size, i.bytes)) = some (some (.agg #[.int .i64 0, .int .i64 0, .string ⟨#[]⟩, .slice none 0 0]), 4, 56) := by kernel_rfl

/-- What holds at each round's head: i of u fields have been taken. -/
def FRel (R n u : Nat) (l0 l : List UInt8) (w : World) (i : Nat) (acc : List Fd) (r : List UInt8) (xs : List Value) (sv : Value) (wr : World) : Prop :=
  i ≤ u ∧ acc.length + r.length ≤ l0.length ∧ RSt R wr r ∧ But R w wr ∧ wr.ownsRow w.heap.size 48 4 sv acc.length xs ∧ Row (fun b => w.heap.size ≤ b ∧ some b ≠ sv.ownBlock) (n - 1) wr acc xs ∧
    pList (pField n) u l = cat acc (pList (pField n) (u - i) r) ∧ (n = 0 → acc = [])

theorem But.grown {R : Nat} {w wx w6 : World} {row : Option Nat} (h : But R w wx) (g : wx.grownBy w6 row) (hr : ∀ k, row = some k → w.heap.size ≤ k) : But R w w6 :=
  ⟨g.os.trans h.os, g.tape.trans h.tape, g.output.trans h.output, Nat.le_trans h.size g.size, fun k hk hn =>
    (g.block k (Nat.lt_of_lt_of_le hk h.size) (fun e => by have := hr k e.symm; omega)).trans (h.block k hk hn)⟩
theorem RSt.move {R : Nat} {w w' : World} {l : List UInt8} (h : RSt R w l) (hz : w.heap.size ≤ w'.heap.size) (hb : ∀ b, b ≤ R → w'.heap[b]? = w.heap[b]?) : RSt R w' l := by
  obtain ⟨a, c, h1, h2, h3, h4, h5, h6, h7⟩ := h
  refine ⟨a, c, (World.cell?_of_block (w := w) (hb R (Nat.le_refl _))).trans h1, (World.frozen?_of_block (w := w) (hb R (Nat.le_refl _))).trans h2, by omega, h4, h5, ?_, h7⟩
  intro k hk
  obtain ⟨b, off, e, hlt, hc⟩ := h6 k hk
  have := h7 b off e
  exact ⟨b, off, e, by omega, (World.cell?_of_block (w := w) (a := ⟨b, off + k, none⟩) (hb b (by omega))).trans hc⟩

theorem FRel.step {R n u : Nat} {l0 l r : List UInt8} {w wr w2 wx w6 : World} {i : Nat} {acc : List Fd} {xs : List Value} {sv v6 : Value} {p : Nat × Fd × List UInt8} {k i' : Int} {s : ByteArray} {av : Option Addr} {c : Nat} {l' : List Fd}
    (h : FRel R n u l0 l w i acc r xs sv wr) (hlt : i < u) (hR : R < w.heap.size) (hp : p = pField n r) (hp0 : p.1 = 0) (q1 : p.2.1 = .mk k i' s l')
    (q2 : -9223372036854775808 ≤ k) (q3 : k ≤ 9223372036854775807) (q4 : -9223372036854775808 ≤ i') (q5 : i' ≤ 9223372036854775807) (q6 : l'.length ≤ 9223372036854775807)
    (q7 : ReadsS (wr.heap.size ≤ ·) (n - 1) w2 av l') (q8 : RSt R w2 p.2.2) (hb : But R wr w2) (hby : But R w2 wx) (hbz : ∀ b, b < w2.heap.size → wx.heap[b]? = w2.heap[b]?)
    (ho : w6.ownsRow w.heap.size 48 4 v6 (acc.length + 1) (xs ++ [.int .i64 k, .int .i64 i', .string s, .slice av l'.length c]))
    (hg : wx.grownBy w6 sv.ownBlock) (hat : v6.ownBlock = sv.ownBlock ∨ v6.ownBlock = some wx.heap.size) :
    FRel R n u l0 l w (i + 1) (acc ++ [p.2.1]) p.2.2 (xs ++ [.int .i64 k, .int .i64 i', .string s, .slice av l'.length c]) v6 w6 := by
  obtain ⟨_, h2, h3, h4, h5, h6, h7, h8⟩ := h
  have hlen := pField_len n r (by rw [← hp]; exact hp0)
  rw [← hp] at hlen
  have hsv := fun k e => h5.lt k e
  have hz1 := h4.size
  have hz2 := hb.size
  have hz3 := hby.size
  have hz4 := hg.size
  refine ⟨hlt, by rw [List.length_append, List.length_singleton]; omega, ?_, ?_, by rw [List.length_append, List.length_singleton]; exact ho, ?_, ?_, ?_⟩
  · refine q8.move (by omega) (fun b hbR => ?_)
    have := q8
    rw [hg.block b (by omega) (fun e => by have := (hsv b e.symm).1; omega)]
    exact hbz b (by omega)
  · exact ((h4.trans hb).trans hby).grown hg (fun k e => (hsv k e).1)
  · refine Row.snoc ?_ ?_
    · refine h6.move (by omega) (fun b hbw hS => ⟨⟨hS.1, ?_⟩, ?_⟩)
      · rcases hat with e | e
        · rw [e]; exact hS.2
        · rw [e]; intro e2; injection e2 with e3; omega
      · rw [hg.block b (by omega) hS.2, hbz b (by omega)]
        exact hb.block b hbw (by intro e; injection e with e; have := hS.1; omega)
    · have key : ∀ b, b < w2.heap.size → wr.heap.size ≤ b → (w.heap.size ≤ b ∧ some b ≠ v6.ownBlock) ∧ w6.heap[b]? = w2.heap[b]? := by
        intro b hbw hS
        refine ⟨⟨by omega, ?_⟩, ?_⟩
        · rcases hat with e | e
          · rw [e]; intro e2; have := (hsv b e2.symm).2; omega
          · rw [e]; intro e2; injection e2 with e3; omega
        · rw [hg.block b (by omega) (fun e2 => by have := (hsv b e2.symm).2; omega)]
          exact hbz b hbw
      exact ⟨k, i', s, av, c, l', q1, rfl, q2, q3, q4, q5, q6, ReadsS.move (by omega) key (n - 1) av l' q7⟩
  · rw [h7, show u - i = (u - (i + 1)) + 1 by omega, pList_step (pField n) acc _ r (by rw [← hp]; exact hp0), ← hp]
  · intro hn
    subst hn
    rw [hp] at hp0
    simp [pField] at hp0

set_option maxHeartbeats 4000000 in
set_option maxRecDepth 100000 in
theorem fields_of (n : Nat) (ih : Hid (FieldOk n)) : FieldsOk n := by
  intro R l w t ht0 hn hl hr
  by_cases he : (take l).2.2 ≠ 0
  · exact fields_bad n R l w t hl hr he
  obtain ⟨a, c, hc, hf, hR, h1, h2, h3, h4⟩ := hr
  have hT := TakeUint_any a c l (by omega) w h3
  obtain ⟨hu, _, hk⟩ := take_facts l
  rw [show pFields (pField n) l = pList (pField n) (take l).1 (l.drop (take l).2.1) by unfold pFields; rw [if_neg he]]
  obtain ⟨⟨u, k, e⟩, ht⟩ : ∃ t, t = take l := ⟨_, rfl⟩
  rw [← ht] at hT hu hk he ⊢
  simp only at hT hu hk he ⊢
  obtain rfl : e = 0 := by omega
  have HT := Lib.hid hT
  have HR3 := Lib.hid h3
  have H4 := Lib.hid h4
  have hsl := fun w => slice_from a l.length c k hk w
  have k0 : (0 : Int) ≤ k ∧ (k : Int) ≤ l.length := by omega
  clear hT ht he h3 h4
  go_enter Try.func37, Try.ntmps37
  go_wp2_with fail
  go_fit (HT.out)
  rintro e w1 ⟨rfl, rfl⟩
  go_wp2_with fail
  have HREL := Lib.hid (show FRel R n u l (l.drop k) w 0 [] (l.drop k) [] (.slice none 0 0) (w.setCell ⟨R, 0, none⟩ (.slice (dropA a c k) (l.length - k) (c - k))) from by
    refine ⟨by omega, by simp, ?_, But.set _ _ _ _, World.ownsRow_nil _ _ _ _, Row.nil _ _ _, by rw [Nat.sub_zero, cat_nil], fun _ => rfl⟩
    refine ⟨dropA a c k, c - k, by rw [List.length_drop]; go_simp, by go_simp, by simp [World.setCell]; exact hR, by rw [List.length_drop]; omega, by omega, ?_, dropA_block HR3.out H4.out (by omega)⟩
    exact (But.set R w 0 _).bytes (dropA_reads HR3.out h1 k) (dropA_block HR3.out H4.out (by omega)))
  go_loopw [9, 34] (fun s9 s34 wr => ∃ (i : Nat) (acc : List Fd) (r : List UInt8) (xs : List Value), s34 = .int .u64 i ∧ FRel R n u l (l.drop k) w i acc r xs s9 wr) (fun _ s34 _ => u - (RowKit.intOf s34).toNat)
  case atStart => exact ⟨0, [], l.drop k, [], rfl, HREL.out⟩
  case round =>
    obtain ⟨i, acc, r, xs, rfl, hrel⟩ := hrel
    have HF := Lib.hid hrel
    have hiu : i ≤ u := hrel.1
    clear hrel HREL hc hf hsl
    by_cases hlt : i < u
    · have IH := Lib.hid (ih.out R r wr (129 - (n : Int)) rfl hn (by have := HF.out.2.1; omega) HF.out.2.2.1)
      go_wp2_with fail
      go_fit (IH.out)
      obtain ⟨p, hp⟩ : ∃ p, p = pField n r := ⟨_, rfl⟩
      rw [← hp]
      rintro e w2 ⟨k', i', s', av, c', l', rfl, hbut, hok⟩
      have HP := Lib.hid hp
      have HBUT := Lib.hid hbut
      have HOK := Lib.hid hok
      have hzr := HF.out.2.2.2.1.size
      have hz2 := hbut.size
      have hR2 : R < w.heap.size := hR
      clear hp hbut hok IH
      by_cases hp0 : p.1 = 0
      · obtain ⟨q1, q2, q3, q4, q5, q6, q7, q8⟩ := HOK.out hp0
        have u1 : ((p.1 : Int) != 0) = false := by rw [bne_eq_false_iff_eq]; omega
        have HP0 := Lib.hid hp0
        have Q1 := Lib.hid q1
        have Q7 := Lib.hid q7
        have Q8 := Lib.hid q8
        clear hp0 q1 q7 q8
        obtain ⟨i0, hi, hz0, hz1, hzb⟩ := info_parts info68
        have hown := HF.out.2.2.2.2.1
        have hnl := HF.out.2.1
        have hown2 : w2.ownsRow w.heap.size 48 4 u9 acc.length xs := hown.kept HBUT.out (by
          cases h : u9.ownBlock with
          | none => exact .inl rfl
          | some g => have := (hown.lt g h).1; exact .inr (by simp; omega))
        have HOWX := Lib.hid ((hown2.alloc (Obj.cells #[.int .i64 k', .int .i64 i', .string s', .slice av l'.length c'] 48)).alloc (Obj.cells #[.int .i64 k', .int .i64 i', .string s', .slice av l'.length c'] 48))
        have HBX := Lib.hid ((HF.out.2.2.2.1.trans HBUT.out).trans ((But.alloc R w2 (Obj.cells #[.int .i64 k', .int .i64 i', .string s', .slice av l'.length c'] 48)).trans (But.alloc R _ (Obj.cells #[.int .i64 k', .int .i64 i', .string s', .slice av l'.length c'] 48))))
        have HBY := Lib.hid ((But.alloc R w2 (Obj.cells #[.int .i64 k', .int .i64 i', .string s', .slice av l'.length c'] 48)).trans (But.alloc R _ (Obj.cells #[.int .i64 k', .int .i64 i', .string s', .slice av l'.length c'] 48)))
        clear hown hown2
        go_wp2_with (at_builtin; refine wpList_append_own_at _ rfl _ _ 45 rfl w.heap.size 48 i0 (.agg #[.int .i64 0, .int .i64 0, .string ⟨#[]⟩, .slice none 0 0]) 4 56 Try.underlying45 hi hz0 hz1 hzb rfl (by decide) _ _ _ rfl HOWX.out ⟨w2.heap.size + 1, 0, none⟩ 1 1 [.int .i64 k', .int .i64 i', .string s', .slice av l'.length c'] rfl rfl ?c1 ?c2 ?c3 ?c4 ?c5 ?_)
        case c1 =>
          intro j u hj
          match j, hj with
          | 0, hj => simp at hj; subst hj; simp [Addr.add, go_sem]
          | 1, hj => simp at hj; subst hj; simp [Addr.add, go_sem]
          | 2, hj => simp at hj; subst hj; simp [Addr.add, go_sem]
          | 3, hj => simp at hj; subst hj; simp [Addr.add, go_sem]
        case c2 => intro u hu; simp at hu; rcases hu with rfl | rfl | rfl | rfl <;> rfl
        case c3 => unfold maxLen; omega
        case c4 => omega
        case c5 => simp; omega
        intro v6 w6 ho6 hg6 _ hat
        have H6 := Lib.hid ho6
        have G6 := Lib.hid hg6
        have AT := Lib.hid hat
        clear ho6 hg6 hat
        go_wp2_with fail
        refine ⟨⟨i + 1, acc ++ [p.2.1], p.2.2, _, by go_num, HF.out.step hlt hR2 HP.out HP0.out Q1.out q2 q3 q4 q5 q6 Q7.out Q8.out HBUT.out HBY.out (fun b hb => ?_) H6.out G6.out (by simpa using AT.out)⟩, by simp [RowKit.intOf]; omega⟩
        rw [Below.heap_alloc _ _ b (by simp; omega), Below.heap_alloc _ _ b hb]
      · have u1 : ((p.1 : Int) != 0) = true := by rw [bne_iff_ne]; omega
        have HN := Lib.hid hp0
        clear hp0
        go_wp2_with fail
        go_ret2
        have hst : pList (pField n) u (l.drop k) = (p.1, [], []) := by
          rw [HF.out.2.2.2.2.2.2.1, show u - i = (u - i - 1) + 1 by omega, pList_stop (pField n) acc (u - i - 1) r (by rw [← HP.out]; exact HN.out), ← HP.out]
        rw [hst]
        exact ⟨none, 0, rfl, (HF.out.2.2.2.1.trans HBUT.out).trans (But.alloc _ _ _), fun h => absurd h HN.out⟩
    · go_wp2_with fail
      go_ret2
      obtain rfl : i = u := by omega
      obtain ⟨_, g1, g2, g3, g4, g5, g6, g7⟩ := HF.out
      rw [g6, Nat.sub_self, pList_done]
      cases n with
      | zero =>
        obtain rfl := g7 rfl
        rcases g4.2 with ⟨rfl, _⟩ | ⟨g, cap, cur, rfl, _⟩
        · exact ⟨none, 0, rfl, g3, fun _ => ⟨by simp, rfl, g2⟩⟩
        · exact ⟨_, cap, rfl, g3, fun _ => ⟨by simp, rfl, g2⟩⟩
      | succ n =>
        obtain ⟨v, c, rfl, hv⟩ := g5.reads (S' := (w.heap.size ≤ ·)) (fun b hb => hb.1) (fun b hb => hb) g4 rfl
        exact ⟨v, c, rfl, g3, fun _ => ⟨by show acc.length ≤ _; omega, hv, g2⟩⟩
end Go.Proofs.Ytfnjemocekgncaa
