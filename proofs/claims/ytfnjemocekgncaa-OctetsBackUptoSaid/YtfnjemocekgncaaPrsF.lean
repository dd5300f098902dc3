/- The contract of the document's list (octets), from that of its take. -/
import Derived.Test.YtfnjemocekgncaaPrsE
namespace Go.Proofs.Ytfnjemocekgncaa
open Go.RowKit Go.Lib

def TkPost (l0 : List UInt8) (n : Nat) (w : World) (p : Nat × Fd × List UInt8) (e : Ending) (w' : World) : Prop :=
  ∃ k i s av c l' z, e = .returned (.tuple #[.agg #[.int .i64 k, .int .i64 i, .string s, .slice av (List.length l') c], .int .i64 z, .int .i64 (p.1 : Nat)]) ∧ Below w.heap.size w w' ∧
    (p.1 = 0 → p.2.1 = .mk k i s l' ∧ -9223372036854775808 ≤ k ∧ k ≤ 9223372036854775807 ∧ -9223372036854775808 ≤ i ∧ i ≤ 9223372036854775807 ∧ l'.length ≤ 9223372036854775807 ∧ ReadsS (w.heap.size ≤ ·) (n - 1) w' av l' ∧
      ∃ en : Nat, z = en ∧ en ≤ l0.length ∧ l0.drop en = p.2.2)
def LsPost (l0 : List UInt8) (n : Nat) (w : World) (p : Nat × List Fd × List UInt8) (e : Ending) (w' : World) : Prop :=
  ∃ v c z, e = .returned (.tuple #[.slice v p.2.1.length c, .int .i64 z, .int .i64 (p.1 : Nat)]) ∧ Below w.heap.size w w' ∧
    (p.1 = 0 → p.2.1.length ≤ 1099511627776 ∧ ReadsS (w.heap.size ≤ ·) n w' v p.2.1 ∧ ∃ en : Nat, z = en ∧ en ≤ l0.length ∧ l0.drop en = p.2.2)
/-- The bytes that are decoded. -/
def Src (v : Option Addr) (cap : Nat) (l0 : List UInt8) (w : World) : Prop := l0.length ≤ cap ∧ cap ≤ 9223372036854775807 ∧ l0.length ≤ 1099511627776 ∧ ReadsBytes w v l0
theorem Src.below {v : Option Addr} {cap : Nat} {l0 : List UInt8} {w w' : World} (h : Src v cap l0 w) (hb : Below w.heap.size w w') : Src v cap l0 w' := ⟨h.1, h.2.1, h.2.2.1, h.2.2.2.below hb⟩
def TakeOk (n : Nat) : Prop := ∀ (v : Option Addr) (cap : Nat) (l0 : List UInt8) (i : Nat) (w : World) (t : Int), t = 129 - (n : Int) → n ≤ 128 → i ≤ l0.length → Src v cap l0 w →
  Calls Try.prog 40 #[.slice v l0.length cap, .int .i64 i, .int .i64 t] w (TkPost l0 n w (pField n (l0.drop i)))
def ListOk (n : Nat) : Prop := ∀ (v : Option Addr) (cap : Nat) (l0 : List UInt8) (i : Nat) (w : World) (t : Int), t = 129 - (n : Int) → n ≤ 128 → i ≤ l0.length → Src v cap l0 w →
  Calls Try.prog 38 #[.slice v l0.length cap, .int .i64 i, .int .i64 t] w (LsPost l0 n w (pFields (pField n) (l0.drop i)))

/-- What holds at each round's head: i of u fields have been taken, the next begins at q. -/
def DRel (n u : Nat) (l0 l : List UInt8) (w : World) (i : Nat) (acc : List Fd) (q : Nat) (xs : List Value) (sv : Value) (wr : World) : Prop :=
  i ≤ u ∧ q ≤ l0.length ∧ acc.length ≤ q ∧ Below w.heap.size w wr ∧ wr.ownsRow w.heap.size 48 4 sv acc.length xs ∧ Row (fun b => w.heap.size ≤ b ∧ some b ≠ sv.ownBlock) (n - 1) wr acc xs ∧
    pList (pField n) u l = cat acc (pList (pField n) (u - i) (l0.drop q)) ∧ (n = 0 → acc = [])

theorem DRel.step {n u : Nat} {l0 l : List UInt8} {w wr w2 wx w6 : World} {i q en : Nat} {acc : List Fd} {xs : List Value} {sv v6 : Value} {p : Nat × Fd × List UInt8} {k i' : Int} {s : ByteArray} {av : Option Addr} {c : Nat} {l' : List Fd}
    (h : DRel n u l0 l w i acc q xs sv wr) (hlt : i < u) (hp : p = pField n (l0.drop q)) (hp0 : p.1 = 0) (q1 : p.2.1 = .mk k i' s l')
    (q2 : -9223372036854775808 ≤ k) (q3 : k ≤ 9223372036854775807) (q4 : -9223372036854775808 ≤ i') (q5 : i' ≤ 9223372036854775807) (q6 : l'.length ≤ 9223372036854775807)
    (q7 : ReadsS (wr.heap.size ≤ ·) (n - 1) w2 av l') (q8 : en ≤ l0.length) (q9 : l0.drop en = p.2.2) (hb : Below wr.heap.size wr w2) (hby : Below w2.heap.size w2 wx)
    (ho : w6.ownsRow w.heap.size 48 4 v6 (acc.length + 1) (xs ++ [.int .i64 k, .int .i64 i', .string s, .slice av l'.length c]))
    (hg : wx.grownBy w6 sv.ownBlock) (hat : v6.ownBlock = sv.ownBlock ∨ v6.ownBlock = some wx.heap.size) :
    DRel n u l0 l w (i + 1) (acc ++ [p.2.1]) en (xs ++ [.int .i64 k, .int .i64 i', .string s, .slice av l'.length c]) v6 w6 := by
  obtain ⟨_, h2, h3, h4, h5, h6, h7, h8⟩ := h
  have hlen := pField_len n (l0.drop q) (by rw [← hp]; exact hp0)
  rw [← hp, ← q9, List.length_drop, List.length_drop] at hlen
  have hsv := fun k e => h5.lt k e
  have hz1 := h4.size
  have hz2 := hb.size
  have hz3 := hby.size
  have hz4 := hg.size
  refine ⟨hlt, q8, by rw [List.length_append, List.length_singleton]; omega, ?_, by rw [List.length_append, List.length_singleton]; exact ho, ?_, ?_, ?_⟩
  · exact ((h4.trans (hb.mono hz1)).trans (hby.mono (by omega))).grown hg (by omega) (fun k e => (hsv k e).1)
  · refine Row.snoc ?_ ?_
    · have key : ∀ b, b < wr.heap.size → (w.heap.size ≤ b ∧ some b ≠ sv.ownBlock) → (w.heap.size ≤ b ∧ some b ≠ v6.ownBlock) ∧ w6.heap[b]? = wr.heap[b]? := by
        intro b hbw hS
        refine ⟨⟨hS.1, ?_⟩, ?_⟩
        · rcases hat with e | e
          · rw [e]; exact hS.2
          · rw [e]; intro e2; injection e2 with e3; omega
        · rw [hg.block b (by omega) hS.2, hby.block b (by omega)]
          exact hb.block b hbw
      exact h6.move (by omega) key
    · have key : ∀ b, b < w2.heap.size → wr.heap.size ≤ b → (w.heap.size ≤ b ∧ some b ≠ v6.ownBlock) ∧ w6.heap[b]? = w2.heap[b]? := by
        intro b hbw hS
        refine ⟨⟨by omega, ?_⟩, ?_⟩
        · rcases hat with e | e
          · rw [e]; intro e2; have := (hsv b e2.symm).2; omega
          · rw [e]; intro e2; injection e2 with e3; omega
        · rw [hg.block b (by omega) (fun e2 => by have := (hsv b e2.symm).2; omega)]
          exact hby.block b hbw
      exact ⟨k, i', s, av, c, l', q1, rfl, q2, q3, q4, q5, q6, ReadsS.move (by omega) key (n - 1) av l' q7⟩
  · rw [h7, show u - i = (u - (i + 1)) + 1 by omega, pList_step (pField n) acc _ (l0.drop q) (by rw [← hp]; exact hp0), ← hp, q9]
  · intro hn
    subst hn
    rw [hp] at hp0
    simp [pField] at hp0

set_option maxHeartbeats 4000000 in
set_option maxRecDepth 100000 in
theorem list_of (n : Nat) (ih : Hid (TakeOk n)) : ListOk n := by
  intro v cap l0 q w t ht0 hn hq hs
  have hsl := fun w => slice_from v l0.length cap q hq w
  have hT := refTakeUint_any (dropA v cap q) (cap - q) (l0.drop q) (by rw [List.length_drop]; have := hs.2.2.1; omega) w (dropA_reads hs.2.2.2 hs.1 q)
  rw [List.length_drop] at hT
  obtain ⟨hu, _, hk⟩ := take_facts (l0.drop q)
  rw [List.length_drop] at hk
  obtain ⟨P, hP⟩ : ∃ P, P = pFields (pField n) (l0.drop q) := ⟨_, rfl⟩
  rw [← hP]
  unfold pFields at hP
  obtain ⟨⟨u, k, e⟩, htk⟩ : ∃ t, t = take (l0.drop q) := ⟨_, rfl⟩
  rw [← htk] at hT hu hk hP
  simp only at hT hu hk hP
  have HT := Lib.hid hT
  have HS := Lib.hid hs
  have HP := Lib.hid hP
  have hl9 : l0.length ≤ 1099511627776 := hs.2.2.1
  have k0 : (0 : Int) ≤ k ∧ (q : Int) + k ≤ l0.length := by omega
  clear hT htk hs hP
  by_cases he : e = 0
  · have HX := Lib.hid (show P = pList (pField n) u ((l0.drop q).drop k) by rw [HP.out, if_neg (by omega)])
    have u1 : ((e : Int) != 0) = false := by rw [bne_eq_false_iff_eq]; omega
    clear he
    go_enter Try.func38, Try.ntmps38
    go_wp2_with fail
    go_fit (HT.out)
    rintro e w1 ⟨rfl, rfl⟩
    go_wp2_with fail
    have HREL := Lib.hid (show DRel n u l0 ((l0.drop q).drop k) w 0 [] (q + k) [] (.slice none 0 0) w from
      ⟨by omega, by omega, by simp, Below.refl _ _, World.ownsRow_nil _ _ _ _, Row.nil _ _ _, by rw [Nat.sub_zero, cat_nil, List.drop_drop], fun _ => rfl⟩)
    go_loopw [1, 12, 13] (fun s1 s12 s13 wr => ∃ (i : Nat) (acc : List Fd) (at' : Nat) (xs : List Value), s1 = .int .i64 at' ∧ s13 = .int .u64 i ∧ DRel n u l0 ((l0.drop q).drop k) w i acc at' xs s12 wr) (fun _ _ s13 _ => u - (RowKit.intOf s13).toNat)
    case atStart => exact ⟨0, [], q + k, [], by go_num, rfl, HREL.out⟩
    case round =>
      obtain ⟨i, acc, at', xs, rfl, rfl, hrel⟩ := hrel
      have HF := Lib.hid hrel
      have hiu : i ≤ u := hrel.1
      have hat9 : at' ≤ l0.length := hrel.2.1
      clear hrel HREL hsl
      by_cases hlt : i < u
      · have IH := Lib.hid (ih.out v cap l0 at' wr (129 - (n : Int)) rfl hn hat9 (HS.out.below HF.out.2.2.2.1))
        go_wp2_with fail
        go_fit (IH.out)
        obtain ⟨p, hp⟩ : ∃ p, p = pField n (l0.drop at') := ⟨_, rfl⟩
        rw [← hp]
        rintro e w2 ⟨k', i', s', av, c', l', z, rfl, hbut, hok⟩
        have HPP := Lib.hid hp
        have HBUT := Lib.hid hbut
        have HOK := Lib.hid hok
        have hzr := HF.out.2.2.2.1.size
        have hz2 := hbut.size
        clear hp hbut hok IH
        by_cases hp0 : p.1 = 0
        · obtain ⟨q1, q2, q3, q4, q5, q6, q7, en, rfl, q8, q9⟩ := HOK.out hp0
          have u2 : ((p.1 : Int) != 0) = false := by rw [bne_eq_false_iff_eq]; omega
          have HP0 := Lib.hid hp0
          have Q1 := Lib.hid q1
          have Q7 := Lib.hid q7
          have Q9 := Lib.hid q9
          clear hp0 q1 q7 q9 HOK
          obtain ⟨i0, hi, hz0, hz1, hzb⟩ := info_parts info68
          have hown := HF.out.2.2.2.2.1
          have hnl := HF.out.2.2.1
          have hown2 := hown.kept (grown_of_below HBUT.out none) (by
            cases h : u12.ownBlock with
            | none => exact .inl rfl
            | some g => exact .inr (by simp))
          have HOWX := Lib.hid ((hown2.alloc (Obj.cells #[.int .i64 k', .int .i64 i', .string s', .slice av l'.length c'] 48)).alloc (Obj.cells #[.int .i64 k', .int .i64 i', .string s', .slice av l'.length c'] 48))
          have HBY := Lib.hid (((Below.refl w2.heap.size w2).alloc (Nat.le_refl _) (Obj.cells #[.int .i64 k', .int .i64 i', .string s', .slice av l'.length c'] 48)).alloc (by simp) (Obj.cells #[.int .i64 k', .int .i64 i', .string s', .slice av l'.length c'] 48))
          clear hown hown2
          go_wp2_with (at_builtin; refine wpList_append_own_at _ rfl _ _ 45 rfl w.heap.size 48 i0 (.agg #[.int .i64 0, .int .i64 0, .string ⟨#[]⟩, .slice none 0 0]) 4 56 Try.underlying45 hi hz0 hz1 hzb rfl (by decide) _ _ _ rfl HOWX.out ⟨w2.heap.size + 1, 0, none⟩ 1 1 [.int .i64 k', .int .i64 i', .string s', .slice av l'.length c'] rfl rfl ?c1 ?c2 ?c3 ?c4 ?c5 ?_)
          case c1 =>
            intro j u hj
            match j, hj with
            | 0, hj => simp at hj; subst hj; simp [Addr.add, go_sem]
            | 1, hj => simp at hj; subst hj; simp [Addr.add, go_sem]
            | 2, hj => simp at hj; subst hj; simp [Addr.add, go_sem]
            | 3, hj => simp at hj; subst hj; simp [Addr.add, go_sem]
          case c2 => intro u hu; simp at hu; rcases hu with rfl | rfl | rfl | rfl <;> rfl
          case c3 => unfold maxLen; omega
          case c4 => omega
          case c5 => simp; omega
          intro v6 w6 ho6 hg6 _ hat
          have H6 := Lib.hid ho6
          have G6 := Lib.hid hg6
          have AT := Lib.hid hat
          clear ho6 hg6 hat
          go_wp2_with fail
          exact ⟨⟨i + 1, acc ++ [p.2.1], en, _, rfl, by go_num, HF.out.step hlt HPP.out HP0.out Q1.out q2 q3 q4 q5 q6 Q7.out q8 Q9.out HBUT.out HBY.out H6.out G6.out (by simpa using AT.out)⟩, by simp [RowKit.intOf]; omega⟩
        · have u2 : ((p.1 : Int) != 0) = true := by rw [bne_iff_ne]; omega
          have HN := Lib.hid hp0
          clear hp0
          go_wp2_with fail
          go_ret3
          have hst : P = (p.1, [], []) := by
            rw [HX.out, HF.out.2.2.2.2.2.2.1, show u - i = (u - i - 1) + 1 by omega, pList_stop (pField n) acc (u - i - 1) (l0.drop at') (by rw [← HPP.out]; exact HN.out), ← HPP.out]
          rw [hst]
          exact ⟨none, 0, at', rfl, (HF.out.2.2.2.1.trans (HBUT.out.mono hzr)).alloc (by omega) _, fun h => absurd h HN.out⟩
      · go_wp2_with fail
        go_ret3
        obtain rfl : i = u := by omega
        obtain ⟨_, g1, g2, g3, g4, g5, g6, g7⟩ := HF.out
        rw [HX.out, g6, Nat.sub_self, pList_done]
        cases n with
        | zero =>
          obtain rfl := g7 rfl
          rcases g4.2 with ⟨rfl, _⟩ | ⟨g, cap, cur, rfl, _⟩
          · exact ⟨none, 0, at', rfl, g3, fun _ => ⟨by simp, rfl, at', rfl, g1, rfl⟩⟩
          · exact ⟨_, cap, at', rfl, g3, fun _ => ⟨by simp, rfl, at', rfl, g1, rfl⟩⟩
        | succ n =>
          obtain ⟨v, c, rfl, hv⟩ := g5.reads (S' := (w.heap.size ≤ ·)) (fun b hb => hb.1) (fun b hb => hb) g4 rfl
          exact ⟨v, c, at', rfl, g3, fun _ => ⟨by show acc.length ≤ _; omega, hv, at', rfl, g1, rfl⟩⟩
  · have u1 : ((e : Int) != 0) = true := by rw [bne_iff_ne]; omega
    have HX := Lib.hid (show P = (e, [], []) by rw [HP.out, if_pos he])
    have HE := Lib.hid he
    clear he
    go_enter Try.func38, Try.ntmps38
    go_wp2_with fail
    go_fit (HT.out)
    rintro e w1 ⟨rfl, rfl⟩
    go_wp2_with fail
    go_ret3
    rw [HX.out]
    exact ⟨none, 0, q, rfl, Below.refl _ _, fun h => absurd h HE.out⟩
end Go.Proofs.Ytfnjemocekgncaa
