/- Contracts of functions of the program, and what they are made of (parser; Pk16). -/
import Derived.Test.YtjehhldboopocaaGreatDoorPk10
import Derived.Test.YtjehhldboopocaaGreatDoorPk13
import Derived.Test.YtjehhldboopocaaGreatDoorPk14
import Derived.Test.YtjehhldboopocaaGreatDoorPk15
import Derived.Lib.IndexMore
import Derived.Laws.RangeAny
import Derived.OwnWalk
import Derived.WalkSmall
import Derived.Maps.AppendAt
namespace Go.Proofs.YtjehhldboopocaaGreatDoor.Lx
open Go.RowKit Go.Lib
set_option linter.unusedVariables false
theorem occ_one (l : List UInt8) (j : Nat) (h : j < l.length) : Lib.occAt l [10] j = (l[j] == 10) := by
  unfold Lib.occAt
  rw [List.drop_eq_getElem_cons h]
  simp only [List.isPrefixOf, Bool.and_true]
  exact Bool.beq_comm
theorem cut_ln (l : List UInt8) : (Lib.cut l [10]).1 = l.takeWhile (fun c => !(c == 10)) := by
  unfold Lib.cut
  rcases Lib.index_spec l [10] with ⟨h1, h2⟩ | ⟨i, h1, h2, h3, h4⟩
  · rw [h1, if_neg (by omega)]
    rw [tw_at l l.length (fun j hj hl => by rw [← occ_one l j hl, h2 j (Nat.le_of_lt hj)]; rfl) (Nat.le_refl _) (fun h => absurd h (Nat.lt_irrefl _)), List.take_length]
  · rw [h1, if_pos (by omega)]
    have hi : i < l.length := by
      rcases Nat.lt_or_ge i l.length with h | h
      · exact h
      · unfold Lib.occAt at h3
        rw [List.drop_eq_nil_of_le h] at h3
        cases h3
    exact (tw_at l i (fun j hj hl => by rw [← occ_one l j hl, h4 j hj]; rfl) h2 (fun h => by rw [← occ_one l i h, h3]; rfl)).symm
set_option maxHeartbeats 2000000 in
theorem lineLength_any (s : ByteArray) (hs : s.size < 4294967281) (w : World) (hT : TabL w) :
    Calls Tryz.prog 41 #[.string s] w fun e w' => e = .returned (.int .i64 ((s.data.toList.takeWhile (fun c => !(c == 10))).length : Nat)) ∧ Below w.heap.size w w' := by
  obtain ⟨m, hm⟩ := hT.2.2.2
  have CU := Lib.hid (Tryz.strings_Cut s ⟨#[10]⟩ m w hs hm)
  rw [show (⟨#[10]⟩ : ByteArray).data.toList = [10] from rfl, cut_ln] at CU
  obtain ⟨d, hd⟩ : ∃ d : ByteArray, d = ⟨(s.data.toList.takeWhile (fun c => !(c == 10))).toArray⟩ := ⟨_, rfl⟩
  have HL := Lib.hid (show (s.data.toList.takeWhile (fun c => !(c == 10))).length = d.size from by rw [← lenB, hd])
  rw [← hd] at CU
  clear hd hm hT
  go_enter Tryz.func41, Tryz.ntmps41
  go_wp2_with fail
  go_fit (CU.out)
  rintro e w1 ⟨rfl, n, rfl⟩
  go_wp2_with fail
  go_ret
  exact ⟨by rw [HL.out]; rfl, below_drewN (Below.refl _ _) n⟩

/-- By how much a token changes the number of open brackets. -/
def opnI (k : Int) (t : List UInt8) : Int := if k = 4 ∧ (t = [40] ∨ t = [91]) then 1 else if k = 4 ∧ (t = [41] ∨ t = [93]) then -1 else 0
set_option maxHeartbeats 2000000 in
theorem opened_any (k p : Int) (s : ByteArray) (w : World) : Calls Tryz.prog 44 #[.agg #[.int .i64 k, .string s, .int .i64 p]] w fun e w' => e = .returned (.int .i64 (opnI k s.data.toList)) ∧ Below w.heap.size w w' := by
  have ht := Lib.toList_data s
  by_cases h4 : k = 4
  · subst h4
    cases q1 : (s.toList == [40])
    · cases q2 : (s.toList == [91])
      · cases q3 : (s.toList == [41])
        · cases q4 : (s.toList == [93])
          · have HE := Lib.hid (show opnI 4 s.data.toList = 0 from by
              rw [ht] at q1 q2 q3 q4
              rw [beq_eq_false_iff_ne] at q1 q2 q3 q4
              unfold opnI
              rw [if_neg (fun h => h.2.elim q1 q2), if_neg (fun h => h.2.elim q3 q4)])
            clear ht
            go_enter Tryz.func44, Tryz.ntmps44
            go_wp2_with fail
            go_ret
            exact ⟨by rw [HE.out]; rfl, (Below.refl _ _).alloc (Nat.le_refl _) _⟩
          · have HE := Lib.hid (show opnI 4 s.data.toList = -1 from by
              rw [ht] at q1 q2 q3 q4
              rw [beq_eq_false_iff_ne] at q1 q2
              unfold opnI
              rw [if_neg (fun h => h.2.elim q1 q2), if_pos ⟨rfl, .inr (beq_iff_eq.1 q4)⟩])
            clear ht
            go_enter Tryz.func44, Tryz.ntmps44
            go_wp2_with fail
            go_ret
            exact ⟨by rw [HE.out]; rfl, (Below.refl _ _).alloc (Nat.le_refl _) _⟩
        · have HE := Lib.hid (show opnI 4 s.data.toList = -1 from by
            rw [ht] at q1 q2 q3
            rw [beq_eq_false_iff_ne] at q1 q2
            unfold opnI
            rw [if_neg (fun h => h.2.elim q1 q2), if_pos ⟨rfl, .inl (beq_iff_eq.1 q3)⟩])
          clear ht
          go_enter Tryz.func44, Tryz.ntmps44
          go_wp2_with fail
          go_ret
          exact ⟨by rw [HE.out]; rfl, (Below.refl _ _).alloc (Nat.le_refl _) _⟩
      · have HE := Lib.hid (show opnI 4 s.data.toList = 1 from by
          rw [ht] at q2
          unfold opnI
          rw [if_pos ⟨rfl, .inr (beq_iff_eq.1 q2)⟩])
        clear ht
        go_enter Tryz.func44, Tryz.ntmps44
        go_wp2_with fail
        go_ret
        exact ⟨by rw [HE.out]; rfl, (Below.refl _ _).alloc (Nat.le_refl _) _⟩
    · have HE := Lib.hid (show opnI 4 s.data.toList = 1 from by
        rw [ht] at q1
        unfold opnI
        rw [if_pos ⟨rfl, .inl (beq_iff_eq.1 q1)⟩])
      clear ht
      go_enter Tryz.func44, Tryz.ntmps44
      go_wp2_with fail
      go_ret
      exact ⟨by rw [HE.out]; rfl, (Below.refl _ _).alloc (Nat.le_refl _) _⟩
  · have HE := Lib.hid (show opnI k s.data.toList = 0 from by
      unfold opnI
      rw [if_neg (fun h => h4 h.1), if_neg (fun h => h4 h.1)])
    have q : (k != 4) = true := by rw [bne_iff_ne]; exact h4
    clear h4 ht
    go_enter Tryz.func44, Tryz.ntmps44
    go_wp2_with fail
    go_ret
    exact ⟨by rw [HE.out]; rfl, (Below.refl _ _).alloc (Nat.le_refl _) _⟩
/-- Is the last token a line's end? -/
def endK (l : List Tm) : Bool := match l.getLast? with
  | some t => t.kind == 5
  | none => false
set_option maxHeartbeats 2000000 in
theorem endsLine_any (l : List Tm) (v : Option Addr) (c : Nat) (hlen : l.length ≤ 9223372036854775000) (w : World) (h : ReadsK w v l) :
    Calls Tryz.prog 42 #[.slice v l.length c] w fun e w' => e = .returned (.bool (endK l)) ∧ Below w.heap.size w w' := by
  by_cases h0 : l = []
  · subst h0
    go_enter Tryz.func42, Tryz.ntmps42
    go_wp2_with fail
    go_ret
    exact ⟨rfl, Below.refl _ _⟩
  · have hp : 0 < l.length := List.length_pos_iff.2 h0
    obtain ⟨b, off, rfl, h2, c0, c1, c2⟩ := h (l.length - 1) (by omega)
    have hE := Lib.hid (show endK l = (l[l.length - 1].kind == 5) from by
      unfold endK
      rw [List.getLast?_eq_getElem?, List.getElem?_eq_getElem (by omega)])
    generalize l[l.length - 1].kind = kd at *
    have hpI : (0 : Int) < (l.length : Int) := by omega
    have hj : (l.length : Int) - 1 = ((l.length - 1 : Nat) : Int) := by omega
    clear c1 c2 h h0
    go_enter Tryz.func42, Tryz.ntmps42
    go_wp2_with fail
    go_ret
    exact ⟨by rw [hE.out]; rfl, Below.refl _ _⟩
end Go.Proofs.YtjehhldboopocaaGreatDoor.Lx
namespace Go.Proofs.YtjehhldboopocaaGreatDoor.Lx
open Go.RowKit Go.Lib
set_option linter.unusedVariables false
theorem ign_cons (b : Bool) (c : UInt8) (r : List UInt8) : ignL b (c :: r) = if c ≠ 10 ∧ (b = true ∨ c = 32 ∨ c = 9 ∨ c = 35) then ignL (b || c == 35) r else c :: r := by rw [ignL]
/-- Texts of which the same is left are read alike. -/
theorem lexF_same {l m : List UInt8} (a b o : Nat) (nl : Bool) (h : ignL false l = ignL false m) (hlen : a + l.length = b + m.length) : lexF l a o nl = lexF m b o nl := by
  cases hm : ignL false m with
  | nil =>
    rw [hm] at h
    rw [lexF_nil _ _ _ h, lexF_nil _ _ _ hm]
  | cons c r =>
    rw [hm] at h
    rw [lexF_step _ _ _ h, lexF_step _ _ _ hm]
    have h1 := ign_le h
    have h2 := ign_le hm
    congr 1
    omega
theorem lexF_blank (c : UInt8) (r : List UInt8) (a o : Nat) (nl : Bool) (h : c = 32 ∨ c = 9) : lexF (c :: r) a o nl = lexF r (a + 1) o nl := by
  refine lexF_same a (a + 1) o nl ?_ (by rw [List.length_cons]; omega)
  rw [ign_cons, if_pos]
  · rcases h with rfl | rfl <;> rfl
  · rcases h with rfl | rfl
    · exact ⟨by decide, .inr (.inl rfl)⟩
    · exact ⟨by decide, .inr (.inr (.inl rfl))⟩
/-- The length of the first line. -/
def linL (l : List UInt8) : Nat := (l.takeWhile (fun c => !(c == 10))).length
theorem linL_le (l : List UInt8) : linL l ≤ l.length := (List.takeWhile_sublist _).length_le
theorem ign_line : ∀ r : List UInt8, ignL true r = r.drop (linL r) ∧ ignL false (r.drop (linL r)) = r.drop (linL r)
  | [] => ⟨rfl, rfl⟩
  | c :: r => by
    obtain ⟨h1, h2⟩ := ign_line r
    by_cases hc : c = 10
    · subst hc
      have e : linL (10 :: r) = 0 := by
        unfold linL
        rw [List.takeWhile_cons]
        rfl
      rw [e, List.drop_zero]
      exact ⟨by rw [ign_cons, if_neg (fun h => h.1 rfl)], by rw [ign_cons, if_neg (fun h => h.1 rfl)]⟩
    · have e : linL (c :: r) = linL r + 1 := by
        unfold linL
        rw [List.takeWhile_cons, show (!(c == 10)) = true by simpa using hc, if_pos rfl, List.length_cons]
      rw [e, List.drop_succ_cons]
      refine ⟨?_, h2⟩
      rw [ign_cons, if_pos ⟨hc, .inl rfl⟩, Bool.true_or]
      exact h1
theorem lexF_note (r : List UInt8) (a o : Nat) (nl : Bool) : lexF (35 :: r) a o nl = lexF ((35 :: r).drop (linL (35 :: r))) (a + linL (35 :: r)) o nl := by
  have e : linL (35 :: r) = linL r + 1 := by
    unfold linL
    rw [List.takeWhile_cons]
    rfl
  obtain ⟨h1, h2⟩ := ign_line r
  have hl := linL_le r
  rw [e, List.drop_succ_cons]
  refine lexF_same _ _ o nl ?_ (by rw [List.length_cons, List.length_drop]; omega)
  rw [ign_cons, if_pos ⟨by decide, .inr (.inr (.inr rfl))⟩, h2]
  exact h1
theorem ign_self {c : UInt8} (r : List UInt8) (h : c ≠ 32 ∧ c ≠ 9 ∧ c ≠ 35) : ignL false (c :: r) = c :: r := by
  rw [ign_cons, if_neg]
  rintro ⟨-, h1 | h1 | h1 | h1⟩
  · cases h1
  · exact h.1 h1
  · exact h.2.1 h1
  · exact h.2.2 h1
theorem lexF_line (r : List UInt8) (a o : Nat) (nl : Bool) (h : o ≠ 0 ∨ nl = true) : lexF (10 :: r) a o nl = lexF r (a + 1) o nl := by
  rw [lexF_step (c := 10) (r := r) a o nl (ign_self r (by decide))]
  unfold stepR
  rw [if_pos rfl, if_neg, List.length_cons, Nat.sub_self]
  · rintro ⟨h1, h2⟩
    rcases h with h | h
    · exact h h1
    · rw [h] at h2
      cases h2
/-- A token at the head. -/
theorem lexF_fir (c : UInt8) (r : List UInt8) (a o : Nat) (nl : Bool) (h : c ≠ 32 ∧ c ≠ 9 ∧ c ≠ 35) (h10 : c = 10 → o = 0 ∧ nl = false) :
    lexF (c :: r) a o nl = if (firF (c :: r)).2.2.2 ≠ 0 then .err a (firF (c :: r)).2.2.2 else (lexF ((c :: r).drop (firF (c :: r)).2.2.1) (a + (firF (c :: r)).2.2.1) (opn o (firF (c :: r)).1 (firF (c :: r)).2.1) ((firF (c :: r)).1 == 5)).add [⟨(firF (c :: r)).1, (firF (c :: r)).2.1, a⟩] := by
  rw [lexF_step a o nl (ign_self r h), List.length_cons, Nat.sub_self, Nat.add_zero]
  unfold stepR
  by_cases hc : c = 10
  · subst hc
    obtain ⟨rfl, rfl⟩ := h10 rfl
    rw [if_pos rfl, if_pos ⟨rfl, rfl⟩]
    have e : firF (10 :: r) = (5, [], 1, 0) := by
      rw [firF_cons]
      rfl
    rw [e]
    simp only [ne_eq, not_true_eq_false, if_false]
    rfl
  · rw [if_neg hc]
    obtain ⟨h1, h2⟩ := firF_tok c r hc
    rw [h1]
    by_cases he : (firF (c :: r)).2.2.2 = 0
    · rw [if_neg (fun g => g he), if_neg (fun g => g he), h2 he]
      have hk := tokA_kind c r (by rw [h1]; exact he)
      rw [h2 he] at hk
      have h5 : ((firF (c :: r)).1 == 5) = false := by
        rw [beq_eq_false_iff_ne]
        omega
      rw [h5]
    · rw [if_pos he, if_pos he]
end Go.Proofs.YtjehhldboopocaaGreatDoor.Lx
namespace Go.Proofs.YtjehhldboopocaaGreatDoor.Lx
open Go.RowKit Go.Lib
set_option linter.unusedVariables false
theorem decode_cont (s : ByteArray) (pos : Nat) (h : pos < s.size) (ha : 128 ≤ (s[pos]'h).toNat) (k : Nat) (h1 : 1 ≤ k) (h2 : k < (Utf8.decode s pos).2) : pos + k < s.size ∧ 128 ≤ (s.get! (pos + k)).toNat := by
  have hn : ¬ (s[pos]'h).toNat < 128 := by omega
  simp only [Utf8.decode, get_at s pos h, hn, if_false] at h2
  split at h2
  · rename_i hc
    simp only [Bool.and_eq_true, beq_iff_eq, decide_eq_true_eq] at hc
    split at h2
    · obtain rfl : k = 1 := by simp at h2; omega
      exact ⟨hc.2.1, by omega⟩
    · simp at h2; omega
  · split at h2
    · rename_i hc
      simp only [Bool.and_eq_true, beq_iff_eq, decide_eq_true_eq] at hc
      split at h2
      · rcases (show k = 1 ∨ k = 2 by simp at h2; omega) with rfl | rfl
        · exact ⟨hc.1.2.1, by omega⟩
        · exact ⟨hc.2.1, by omega⟩
      · simp at h2; omega
    · split at h2
      · rename_i hc
        simp only [Bool.and_eq_true, beq_iff_eq, decide_eq_true_eq] at hc
        split at h2
        · rcases (show k = 1 ∨ k = 2 ∨ k = 3 by simp at h2; omega) with rfl | rfl | rfl
          · exact ⟨hc.1.1.2.1, by omega⟩
          · exact ⟨hc.1.2.1, by omega⟩
          · exact ⟨hc.2.1, by omega⟩
        · simp at h2; omega
      · simp at h2; omega
theorem get_ix (s : ByteArray) (i : Nat) (h : i < s.size) : s.get! i = s[i]'h := by
  simp [ByteArray.get!, getElem!_pos, h]
  rfl
/-- Where a rune may begin: at the end, behind an ASCII byte, or at one. -/
def Edge (s : ByteArray) (e : Nat) : Prop := e = s.size ∨ (∃ h : e < s.size, (s[e]'h).toNat < 128) ∨ ∃ h : e - 1 < s.size, 1 ≤ e ∧ (s[e - 1]'h).toNat < 128
/-- No rune lies over an edge. -/
theorem Edge.rune {s : ByteArray} {e pos : Nat} (he : Edge s e) (hle : e ≤ s.size) (hp : pos < s.size) (hlt : pos < e) (hd : (Utf8.decode s pos).2 = 1 ∨ 128 ≤ (s[pos]'hp).toNat) : pos + (Utf8.decode s pos).2 ≤ e := by
  rcases hd with hd | hd
  · omega
  · apply Classical.byContradiction
    intro hn
    have hn : e < pos + (Utf8.decode s pos).2 := Nat.lt_of_not_le hn
    obtain ⟨h1, h2⟩ := decode_cont s pos hp hd (e - pos) (by omega) (by omega)
    rw [show pos + (e - pos) = e by omega] at h1 h2
    rcases he with he | ⟨h, he⟩ | ⟨h, h0, he⟩
    · omega
    · rw [get_ix s e h] at h2
      omega
    · by_cases e1 : e - 1 = pos
      · subst e1
        omega
      · obtain ⟨h3, h4⟩ := decode_cont s pos hp hd (e - 1 - pos) (by omega) (by omega)
        rw [show pos + (e - 1 - pos) = e - 1 by omega] at h3 h4
        rw [get_ix s (e - 1) h] at h4
        omega
theorem txtU_edge : ∀ (n : Nat) (l acc : List UInt8) (k : Nat), (txtU n l acc k).2.2 = 0 → ∃ j, l[j]? = some 34 ∧ (txtU n l acc k).2.1 = k + j + 1
  | 0, l, acc, k, h => by simp [txtU] at h
  | n + 1, [], acc, k, h => by simp [txtU] at h
  | n + 1, c :: r, acc, k, h => by
    rw [txtU_cons] at h ⊢
    by_cases h1 : c = 34
    · rw [if_pos h1]
      exact ⟨0, by rw [h1]; rfl, rfl⟩
    · rw [if_neg h1] at h ⊢
      by_cases h2 : (chrA (c :: r)).2.2 ≠ 0
      · rw [if_pos h2] at h
        exact absurd h h2
      · rw [if_neg h2] at h ⊢
        obtain ⟨j, g1, g2⟩ := txtU_edge n _ _ _ h
        refine ⟨(chrA (c :: r)).2.1 + j, ?_, by rw [g2]; omega⟩
        rw [List.getElem?_drop] at g1
        exact g1
theorem tw_last {p : UInt8 → Bool} {c : UInt8} {r : List UInt8} (h : p c = true) : ∃ x, (c :: r)[((c :: r).takeWhile p).length - 1]? = some x ∧ p x = true := by
  have h1 : 1 ≤ ((c :: r).takeWhile p).length := tw_pos h
  have h2 : ((c :: r).takeWhile p).length - 1 < ((c :: r).takeWhile p).length := by omega
  refine ⟨((c :: r).takeWhile p)[((c :: r).takeWhile p).length - 1], ?_, ?_⟩
  · obtain ⟨t, ht⟩ := List.takeWhile_prefix (p := p) (l := c :: r)
    conv => lhs; rw [← ht]
    rw [List.getElem?_append_left (by rw [ht]; omega)]
    rw [ht]
    exact List.getElem?_eq_getElem h2
  · have := List.all_takeWhile (p := p) (l := c :: r)
    rw [List.all_eq_true] at this
    exact this _ (List.getElem_mem h2)
theorem wrd_low {x : UInt8} (h : wrdB x = true) : x.toNat < 128 := by
  unfold wrdB letB dgB at h
  simp at h
  omega
theorem op_low (c : UInt8) (r : List UInt8) (h : opL (c :: r) ≠ 0) : ∃ x, (c :: r)[opL (c :: r) - 1]? = some x ∧ x.toNat < 128 := by
  have hs : ∀ c : UInt8, sgl.contains c = true → c.toNat < 128 := by
    intro c hc
    simp [sgl] at hc
    rcases hc with rfl | rfl | rfl | rfl | rfl | rfl | rfl | rfl | rfl | rfl | rfl | rfl | rfl | rfl | rfl | rfl | rfl | rfl | rfl <;> decide
  cases r with
  | nil =>
    simp only [opL] at h ⊢
    cases hc : sgl.contains c
    · rw [hc] at h
      simp at h
    · exact ⟨c, by simp, hs c hc⟩
  | cons d q =>
    simp only [opL] at h ⊢
    cases h2 : dbl.contains [c, d]
    · rw [h2] at h
      cases hc : sgl.contains c
      · rw [hc] at h
        simp at h
      · exact ⟨c, by simp, hs c hc⟩
    · refine ⟨d, by simp, ?_⟩
      simp [dbl] at h2
      rcases h2 with h2 | h2 | h2 | h2 | h2 | h2 <;> (obtain ⟨-, rfl⟩ := h2; decide)
/-- The last byte of a token is an ASCII byte. -/
theorem firF_edge (c : UInt8) (r : List UInt8) (h : (firF (c :: r)).2.2.2 = 0) : 1 ≤ (firF (c :: r)).2.2.1 ∧ ∃ x, (c :: r)[(firF (c :: r)).2.2.1 - 1]? = some x ∧ x.toNat < 128 := by
  rw [firF_cons] at h ⊢
  by_cases h3 : clsK (c.toNat : Int) = 3
  · rw [if_pos h3] at h ⊢
    by_cases he : (txtU (r.length + 1) r [] 1).2.2 = 0
    · rw [if_pos he] at h ⊢
      obtain ⟨j, g1, g2⟩ := txtU_edge _ _ _ _ he
      simp only
      rw [g2]
      refine ⟨by omega, 34, ?_, by decide⟩
      rw [show 1 + j + 1 - 1 = j + 1 by omega, List.getElem?_cons_succ]
      exact g1
    · rw [if_neg he] at h
      exact absurd h he
  · rw [if_neg h3] at h ⊢
    by_cases h5 : clsK (c.toNat : Int) = 5
    · rw [if_pos h5]
      refine ⟨Nat.le_refl _, c, rfl, ?_⟩
      unfold clsK at h5
      (repeat' split at h5) <;> omega
    · rw [if_neg h5] at h ⊢
      by_cases h4 : clsK (c.toNat : Int) = 4
      · rw [if_pos h4] at h ⊢
        simp only at h ⊢
        rw [opsF_opL] at h ⊢
        have hle := opL_le (c :: r)
        have h0 : opL (c :: r) ≠ 0 := by
          intro e
          rw [e] at h
          cases h
        rw [List.length_take, Nat.min_eq_left hle]
        exact ⟨by omega, op_low c r h0⟩
      · rw [if_neg h4]
        have hw : wrdB c = true := by
          rw [← clsK_wrd]
          rcases clsK_five (c.toNat : Int) with e | e | e | e | e
          · rw [e]; rfl
          · rw [e]; rfl
          · exact absurd e h3
          · exact absurd e h4
          · exact absurd e h5
        obtain ⟨x, g1, g2⟩ := tw_last (p := wrdB) (r := r) hw
        exact ⟨tw_pos hw, x, g1, wrd_low g2⟩
end Go.Proofs.YtjehhldboopocaaGreatDoor.Lx
namespace Go.Proofs.YtjehhldboopocaaGreatDoor.Lx
open Go.RowKit Go.Lib
set_option linter.unusedVariables false
/-- A token's cells. -/
def tkC (t : Tm) : List Value := [.int .i64 t.kind, .string ⟨t.text.toArray⟩, .int .i64 t.pos]
theorem flat3 : ∀ (L : List Tm) (j : Nat) (h : j < L.length), (L.flatMap tkC)[j * 3]? = some (.int .i64 L[j].kind) ∧ (L.flatMap tkC)[j * 3 + 1]? = some (.string ⟨L[j].text.toArray⟩) ∧ (L.flatMap tkC)[j * 3 + 2]? = some (.int .i64 L[j].pos)
  | t :: L, 0, h => by
    rw [List.flatMap_cons]
    exact ⟨rfl, rfl, rfl⟩
  | t :: L, j + 1, h => by
    obtain ⟨h0, h1, h2⟩ := flat3 L j (by simpa using h)
    rw [List.flatMap_cons, show (j + 1) * 3 = j * 3 + 3 by omega]
    simp only [List.getElem_cons_succ]
    refine ⟨?_, ?_, ?_⟩
    · rw [List.getElem?_append_right (by simp [tkC]), ← h0]
      congr 1
    · rw [List.getElem?_append_right (by simp [tkC]), ← h1]
      congr 1
    · rw [List.getElem?_append_right (by simp [tkC]), ← h2]
      congr 1
/-- The tokens that are laid so far. -/
def RowK (w : World) (B : Nat) (v : Value) (L : List Tm) : Prop := w.ownsRow B 52 3 v L.length (L.flatMap tkC)
theorem RowK.nil (w : World) (B : Nat) : RowK w B (.slice none 0 0) [] := World.ownsRow_nil _ _ _ _
theorem RowK.reads {w : World} {B : Nat} {v : Value} {L : List Tm} (h : RowK w B v L) : ∃ a c, v = .slice a L.length c ∧ ReadsK w a L := by
  have h' : w.ownsRow B 52 3 v L.length (L.flatMap tkC) := h
  have hlt := World.ownsRow.lt h'
  rcases h.2 with ⟨rfl, h0⟩ | ⟨g, cap, cur, rfl, hB, hg, hnc, hcm, _⟩
  · have hl : L = [] := List.eq_nil_of_length_eq_zero (by simpa using h0)
    subst hl
    exact ⟨none, 0, rfl, fun j hj => by simp at hj⟩
  · refine ⟨some ⟨g, 0, none⟩, cap, rfl, fun j hj => ?_⟩
    obtain ⟨h0, h1, h2⟩ := flat3 L j hj
    have hc := World.ownsRow.cellAt h'
    refine ⟨g, 0, rfl, (hlt g rfl).2, ?_, ?_, ?_⟩
    · rw [Nat.zero_add, hc _ (by omega), h0]
    · rw [Nat.zero_add, hc _ (by omega), h1]
    · rw [Nat.zero_add, hc _ (by omega), h2]
/-- A row of its own stays where its block stays. -/
theorem own_stays {w w' : World} {B z n : Nat} {t : TypeId} {v : Value} {xs : List Value} (h : w.ownsRow B t z v n xs) (hb : ∀ g, v.ownBlock = some g → w'.heap[g]? = w.heap[g]?) : w'.ownsRow B t z v n xs := by
  refine ⟨h.1, ?_⟩
  rcases h.2 with ⟨h1, h2⟩ | ⟨g, cap, cur, rfl, hB, hg, h3⟩
  · exact .inl ⟨h1, h2⟩
  · exact .inr ⟨g, cap, cur, rfl, hB, (hb g rfl).trans hg, h3⟩
theorem RowK.below {w w' : World} {B : Nat} {v : Value} {L : List Tm} (h : RowK w B v L) (hb : Below w.heap.size w w') : RowK w' B v L :=
  own_stays h (fun g hg => hb.block g (World.ownsRow.lt h g hg).2)
theorem RowK.iter {w : World} {B : Nat} {v : Value} {L : List Tm} (h : RowK w B v L) {k : Nat} (hk : k < B) (s : ByteArray) (p : Nat) : RowK (w.iterAt k s p) B v L := ownsRow_iterAt h hk s p
end Go.Proofs.YtjehhldboopocaaGreatDoor.Lx
namespace Go.Proofs.YtjehhldboopocaaGreatDoor.Lx
open Go.RowKit Go.Lib
set_option linter.unusedVariables false
/-- Tokens as the grammar sees them. -/
def tsOf (toks : List Tm) : Ts := seen (toks.map fun t => (t.kind, t.text))
/-- The next token, or the zero one. -/
def nxt (toks : List Tm) (i : Nat) : Int × List UInt8 := ((tsOf toks)[i]?).getD (0, [])
/-- Which blocks an expression on the stack may lie in: not the reader's box, not the stack's row, none of Z. -/
def OkB (Z : Nat → Prop) (R : Nat) (G : Value) (k : Nat) : Prop := k ≠ R ∧ some k ≠ G.ownBlock ∧ ¬ Z k
/-- The stack: the cells of its expressions. -/
def StkE (Z : Nat → Prop) (R : Nat) (G : Value) (L : List Xp) (w : World) : Prop := ∃ Cs : List (List Value), w.ownsRow (R + 1) 29 10 G L.length Cs.flatten ∧ Cs.length = L.length ∧
  ∀ (j : Nat) (C : List Value) (x : Xp), Cs[j]? = some C → L[j]? = some x → ∃ m, StD (OkB Z R G) w fun w' => IsE m w' C x
/-- The reader: i tokens are read, L is the stack. -/
structure RS (w0 : World) (ta : Option Addr) (tc : Nat) (toks : List Tm) (Z : Nat → Prop) (R i : Nat) (G : Value) (L : List Xp) (w : World) : Prop where
  below : Below w0.heap.size w0 w
  hR : w0.heap.size ≤ R
  hi : i ≤ toks.length
  hL : L.length ≤ i
  box : ∃ na, CellsAt w R 61 #[.slice ta toks.length tc, .int .i64 i, .int .i64 (nxt toks i).1, .string ⟨(nxt toks i).2.toArray⟩, .int .i64 na, G]
  stk : StkE Z R G L w
/-- What a part of the grammar leaves as it was. -/
structure Fm (R : Nat) (G G' : Value) (w w' : World) : Prop where
  os : w'.os = w.os
  tape : w'.tape = w.tape
  output : w'.output = w.output
  size : w.heap.size ≤ w'.heap.size
  block : ∀ k, k < w.heap.size → k ≠ R → some k ≠ G.ownBlock → w'.heap[k]? = w.heap[k]?
  lies : G'.ownBlock = G.ownBlock ∨ ∃ k, G'.ownBlock = some k ∧ w.heap.size ≤ k
theorem Fm.refl (R : Nat) (G : Value) (w : World) : Fm R G G w w := ⟨rfl, rfl, rfl, Nat.le_refl _, fun _ _ _ _ => rfl, .inl rfl⟩
theorem Fm.trans {R : Nat} {A B C : Value} {u v w : World} (h : Fm R A B u v) (k : Fm R B C v w) : Fm R A C u w := by
  refine ⟨k.os.trans h.os, k.tape.trans h.tape, k.output.trans h.output, Nat.le_trans h.size k.size, ?_, ?_⟩
  · intro i hi hR hne
    refine (k.block i (Nat.lt_of_lt_of_le hi h.size) hR ?_).trans (h.block i hi hR hne)
    rcases h.lies with e | ⟨j, e, hj⟩
    · rw [e]; exact hne
    · rw [e]
      intro e2
      injection e2 with e2
      omega
  · rcases k.lies with e | ⟨j, e, hj⟩
    · rw [e]; exact h.lies
    · exact .inr ⟨j, e, Nat.le_trans h.size hj⟩
theorem Fm.of_below {R : Nat} {G : Value} {w w' : World} (h : Below w.heap.size w w') : Fm R G G w w' := ⟨h.os, h.tape, h.output, h.size, fun k hk _ _ => h.block k hk, .inl rfl⟩
theorem Fm.set {R : Nat} {G : Value} (w : World) (k : Nat) (u : Value) : Fm R G G w (w.setCell ⟨R, k, none⟩ u) := ⟨rfl, rfl, rfl, by simp, fun j _ hj _ => Below.heap_setCell _ _ _ j hj, .inl rfl⟩
theorem Fm.own {R : Nat} {G : Value} (w : World) {g : Nat} (hg : G.ownBlock = some g) (k : Nat) (u : Value) : Fm R G G w (w.setCell ⟨g, k, none⟩ u) :=
  ⟨rfl, rfl, rfl, by simp, fun j _ _ hj => Below.heap_setCell _ _ _ j (by intro e; exact hj (by rw [hg, e])), .inl rfl⟩
/-- What lies outside the reader is as it was. -/
theorem Fm.cell {R : Nat} {G G' : Value} {w w' : World} (h : Fm R G G' w w') {b off : Nat} {v : Value} (hc : w.cell? ⟨b, off, none⟩ = some v) (h1 : b ≠ R) (h2 : some b ≠ G.ownBlock) : w'.cell? ⟨b, off, none⟩ = some v :=
  (World.cell?_of_block (w := w) (a := ⟨b, off, none⟩) (h.block b (World.block_lt_of_cell? w _ hc) h1 h2)).trans hc
theorem Fm.toBelow {w0 : World} {R : Nat} {G G' : Value} {w w' : World} (h : Fm R G G' w w') (hb : Below w0.heap.size w0 w) (hR : w0.heap.size ≤ R) (hG : ∀ g, G.ownBlock = some g → w0.heap.size ≤ g) : Below w0.heap.size w0 w' :=
  ⟨h.os.trans hb.os, h.tape.trans hb.tape, h.output.trans hb.output, Nat.le_trans hb.size h.size, fun k hk => (h.block k (Nat.lt_of_lt_of_le hk hb.size) (by omega) (fun e => by have := hG k e.symm; omega)).trans (hb.block k hk)⟩

section
variable {w0 : World} {ta : Option Addr} {tc : Nat} {toks : List Tm} {Z : Nat → Prop} {R i : Nat} {G : Value} {L : List Xp} {w : World}
theorem StkE.lt (h : StkE Z R G L w) : ∀ g, G.ownBlock = some g → R + 1 ≤ g ∧ g < w.heap.size := by
  obtain ⟨Cs, hr, _⟩ := h
  exact fun g hg => World.ownsRow.lt hr g hg
theorem RS.glt (h : RS w0 ta tc toks Z R i G L w) : ∀ g, G.ownBlock = some g → R + 1 ≤ g ∧ g < w.heap.size := h.stk.lt
theorem RS.Rlt (h : RS w0 ta tc toks Z R i G L w) : R < w.heap.size := by
  obtain ⟨na, hb⟩ := h.box
  exact hb.lt
/-- The stack stays where its blocks stay; which blocks are kept out may turn. -/
theorem StkE.stay {Y : Nat → Prop} {w' : World} (h : StkE Z R G L w) (hz : w.heap.size ≤ w'.heap.size) (hg : ∀ g, G.ownBlock = some g → w'.heap[g]? = w.heap[g]?)
    (hk : ∀ k, k < w.heap.size → OkB Z R G k → w'.heap[k]? = w.heap[k]? ∧ ¬ Y k) : StkE Y R G L w' := by
  obtain ⟨Cs, hr, hl, he⟩ := h
  refine ⟨Cs, own_stays hr hg, hl, fun j C x hC hx => ?_⟩
  obtain ⟨m, hm⟩ := he j C x hC hx
  exact ⟨m, hm.on hz fun k h1 h2 => ⟨(hk k h1 h2).1, h2.1, h2.2.1, (hk k h1 h2).2⟩⟩
/-- Nothing of the reader is touched. -/
theorem RS.stay {Y : Nat → Prop} {w' : World} (h : RS w0 ta tc toks Z R i G L w) (hb : Below w0.heap.size w w') (hr : w'.heap[R]? = w.heap[R]?) (hg : ∀ g, G.ownBlock = some g → w'.heap[g]? = w.heap[g]?)
    (hk : ∀ k, k < w.heap.size → OkB Z R G k → w'.heap[k]? = w.heap[k]? ∧ ¬ Y k) : RS w0 ta tc toks Y R i G L w' := by
  obtain ⟨na, hc⟩ := h.box
  exact ⟨h.below.trans hb, h.hR, h.hi, h.hL, ⟨na, hc.of_block hr⟩, h.stk.stay hb.size hg hk⟩
theorem RS.on {w' : World} (h : RS w0 ta tc toks Z R i G L w) (hb : Below w.heap.size w w') : RS w0 ta tc toks Z R i G L w' :=
  h.stay (hb.mono (by have := h.below.size; exact this)) (hb.block _ h.Rlt) (fun g hg => hb.block g (h.glt g hg).2) fun k hk h2 => ⟨hb.block k hk, h2.2.2⟩
theorem RS.less {Y : Nat → Prop} (h : RS w0 ta tc toks Z R i G L w) (hk : ∀ k, k < w.heap.size → Y k → Z k) : RS w0 ta tc toks Y R i G L w :=
  h.stay (Below.refl _ _) rfl (fun _ _ => rfl) fun k h1 h2 => ⟨rfl, fun h => h2.2.2 (hk k h1 h)⟩
end
end Go.Proofs.YtjehhldboopocaaGreatDoor.Lx
namespace Go.Proofs.YtjehhldboopocaaGreatDoor.Lx
open Go.RowKit Go.Lib
set_option linter.unusedVariables false
theorem flat10 : ∀ (Cs : List (List Value)), (∀ C, C ∈ Cs → C.length = 10) → ∀ j C, Cs[j]? = some C → ∀ q u, C[q]? = some u → Cs.flatten[j * 10 + q]? = some u
  | [], _, j, C, h, _, _, _ => by simp at h
  | D :: Cs, hl, 0, C, h, q, u, hq => by
    simp only [List.getElem?_cons_zero, Option.some.injEq] at h
    subst h
    rw [List.flatten_cons, Nat.zero_mul, Nat.zero_add, List.getElem?_append_left (List.getElem?_eq_some_iff.1 hq).1]
    exact hq
  | D :: Cs, hl, j + 1, C, h, q, u, hq => by
    have hD := hl D (by simp)
    rw [List.getElem?_cons_succ] at h
    rw [List.flatten_cons, List.getElem?_append_right (by omega), hD, show (j + 1) * 10 + q - 10 = j * 10 + q by omega]
    exact flat10 Cs (fun C hC => hl C (by simp [hC])) j C h q u hq
theorem flat10_len : ∀ (Cs : List (List Value)), (∀ C, C ∈ Cs → C.length = 10) → Cs.flatten.length = Cs.length * 10
  | [], _ => rfl
  | D :: Cs, hl => by
    rw [List.flatten_cons, List.length_append, hl D (by simp), flat10_len Cs (fun C hC => hl C (by simp [hC])), List.length_cons]
    omega
/-- A part of an owned row, from its head. -/
theorem own_cut {w : World} {B s n m : Nat} {t : TypeId} {g cap : Nat} {xs : List Value} (h : w.ownsRow B t s (.slice (some ⟨g, 0, none⟩) n cap) n xs) (hm : m ≤ n) : w.ownsRow B t s (.slice (some ⟨g, 0, none⟩) m cap) m (xs.take (m * s)) := by
  have hle : m * s ≤ n * s := Nat.mul_le_mul_right _ hm
  refine ⟨by rw [List.length_take, h.1]; omega, ?_⟩
  rcases h.2 with ⟨h0, _⟩ | ⟨g', cap', cur, e, hB, hg, hnc, hcm, hcs, htake⟩
  · cases h0
  · cases e
    refine .inr ⟨g, cap, cur, rfl, hB, hg, by omega, hcm, hcs, ?_⟩
    rw [← htake, List.take_take, Nat.min_eq_left hle]
theorem own_shape {w : World} {B s n : Nat} {t : TypeId} {v : Value} {xs : List Value} (h : w.ownsRow B t s v n xs) : (v = .slice none 0 0 ∧ n = 0 ∧ xs = []) ∨ ∃ g cap, v = .slice (some ⟨g, 0, none⟩) n cap ∧ n ≤ cap ∧ cap ≤ maxLen ∧ B ≤ g ∧ g < w.heap.size := by
  rcases h.2 with ⟨h0, rfl⟩ | ⟨g, cap, cur, rfl, hB, hg, hnc, hcm, hcs, htake⟩
  · exact .inl ⟨h0, rfl, List.eq_nil_of_length_eq_zero (by simpa using h.1)⟩
  · exact .inr ⟨g, cap, rfl, hnc, hcm, hB, (Array.getElem?_eq_some_iff.1 hg).1⟩
/-- A cell of an owned row is written. -/
theorem own_set {w : World} {B s n : Nat} {t : TypeId} {g cap : Nat} {xs : List Value} (h : w.ownsRow B t s (.slice (some ⟨g, 0, none⟩) n cap) n xs) (j : Nat) (u : Value) : (w.setCell ⟨g, j, none⟩ u).ownsRow B t s (.slice (some ⟨g, 0, none⟩) n cap) n (xs.set j u) := by
  refine ⟨by rw [List.length_set]; exact h.1, ?_⟩
  rcases h.2 with ⟨h0, _⟩ | ⟨g', cap', cur, e, hB, hg, hnc, hcm, hcs, htake⟩
  · cases h0
  · cases e
    refine .inr ⟨g, cap, cur.setIfInBounds j u, rfl, hB, ?_, hnc, hcm, by rw [Array.size_setIfInBounds]; exact hcs, ?_⟩
    · simp [World.setCell, Array.getElem?_modify, hg]
    · rw [Array.toList_setIfInBounds, List.take_set, htake]
theorem own_frozen {w : World} {B s n : Nat} {t : TypeId} {g cap : Nat} {xs : List Value} (h : w.ownsRow B t s (.slice (some ⟨g, 0, none⟩) n cap) n xs) (k : Nat) : w.frozen? ⟨g, k, none⟩ = false := by
  rcases h.2 with ⟨h0, _⟩ | ⟨g', cap', cur, e, hB, hg, _⟩
  · cases h0
  · cases e
    simp [World.frozen?, hg]
theorem own_cell {w : World} {B s n : Nat} {t : TypeId} {g cap : Nat} {xs : List Value} (h : w.ownsRow B t s (.slice (some ⟨g, 0, none⟩) n cap) n xs) {j : Nat} {u : Value} (hj : xs[j]? = some u) : w.cell? ⟨g, j, none⟩ = some u := by
  have := h.cells (g := g) rfl j u hj
  rwa [addr_add, Nat.zero_add] at this
theorem append_set {α : Type} (a b : List α) (k : Nat) (u : α) : (a ++ b).set (a.length + k) u = a ++ b.set k u := by
  rw [List.set_append_right _ _ (by omega), Nat.add_sub_cancel_left]

section
variable {Z : Nat → Prop} {R : Nat} {G : Value} {L A : List Xp} {w : World}
/-- What the elements of a stack's cells are. -/
def Els (D : Nat → Prop) (w : World) (Cs : List (List Value)) (L : List Xp) : Prop := Cs.length = L.length ∧ ∀ (j : Nat) (C : List Value) (x : Xp), Cs[j]? = some C → L[j]? = some x → ∃ m, StD D w fun w' => IsE m w' C x
theorem Els.ten {D : Nat → Prop} {Cs : List (List Value)} (h : Els D w Cs L) : ∀ C, C ∈ Cs → C.length = 10 := by
  intro C hC
  obtain ⟨j, hj, rfl⟩ := List.getElem_of_mem hC
  obtain ⟨m, hm⟩ := h.2 j _ (L[j]'(by rw [← h.1]; exact hj)) (List.getElem?_eq_getElem hj) (List.getElem?_eq_getElem _)
  exact CoreE.len hm.here
theorem Els.ones {D : Nat → Prop} {Cs : List (List Value)} (h : Els D w Cs L) : ∀ u ∈ Cs.flatten, u.oneCell' = true := by
  intro u hu
  rw [List.mem_flatten] at hu
  obtain ⟨C, hC, hu⟩ := hu
  obtain ⟨j, hj, rfl⟩ := List.getElem_of_mem hC
  obtain ⟨m, hm⟩ := h.2 j _ (L[j]'(by rw [← h.1]; exact hj)) (List.getElem?_eq_getElem hj) (List.getElem?_eq_getElem _)
  exact CoreE.one hm.here u hu
theorem Els.left {D : Nat → Prop} {Cs Ds : List (List Value)} {A : List Xp} (h : Els D w (Cs ++ Ds) (L ++ A)) (hl : Cs.length = L.length) : Els D w Cs L := by
  refine ⟨hl, fun j C x hC hx => h.2 j C x ?_ ?_⟩
  · rw [List.getElem?_append_left (List.getElem?_eq_some_iff.1 hC).1]; exact hC
  · rw [List.getElem?_append_left (List.getElem?_eq_some_iff.1 hx).1]; exact hx
theorem Els.right {D : Nat → Prop} {Cs Ds : List (List Value)} {A : List Xp} (h : Els D w (Cs ++ Ds) (L ++ A)) (hl : Cs.length = L.length) : Els D w Ds A := by
  have h1 := h.1
  rw [List.length_append, List.length_append] at h1
  refine ⟨by omega, fun j C x hC hx => h.2 (Cs.length + j) C x ?_ ?_⟩
  · rw [List.getElem?_append_right (by omega), Nat.add_sub_cancel_left]; exact hC
  · rw [hl, List.getElem?_append_right (by omega), Nat.add_sub_cancel_left]; exact hx
theorem Els.snoc {D : Nat → Prop} {Cs : List (List Value)} {C : List Value} {x : Xp} {m : Nat} (h : Els D w Cs L) (hx : StD D w fun w' => IsE m w' C x) : Els D w (Cs ++ [C]) (L ++ [x]) := by
  refine ⟨by simp [h.1], fun j C' x' hC hx' => ?_⟩
  by_cases hj : j < L.length
  · rw [List.getElem?_append_left (by rw [h.1]; exact hj)] at hC
    rw [List.getElem?_append_left hj] at hx'
    exact h.2 j C' x' hC hx'
  · have hl := (List.getElem?_eq_some_iff.1 hx').1
    rw [List.length_append, List.length_singleton] at hl
    obtain rfl : j = L.length := by omega
    rw [← h.1] at hC
    simp only [List.getElem?_append_right (Nat.le_refl _), Nat.sub_self, List.getElem?_cons_zero, Option.some.injEq] at hC hx'
    subst hC hx'
    exact ⟨m, hx⟩
theorem Els.on {D E : Nat → Prop} {w' : World} {Cs : List (List Value)} (h : Els D w Cs L) (hz : w.heap.size ≤ w'.heap.size) (hk : ∀ k, k < w.heap.size → D k → w'.heap[k]? = w.heap[k]? ∧ E k) : Els E w' Cs L :=
  ⟨h.1, fun j C x hC hx => by obtain ⟨m, hm⟩ := h.2 j C x hC hx; exact ⟨m, hm.on hz hk⟩⟩
/-- All elements read at once. -/
theorem Els.all {D : Nat → Prop} : ∀ {Cs : List (List Value)} {L : List Xp}, Els D w Cs L → ∃ m, ∀ (j : Nat) (C : List Value) (x : Xp), Cs[j]? = some C → L[j]? = some x → StD D w fun w' => IsE m w' C x
  | [], L, h => ⟨0, fun j C x hC => by simp at hC⟩
  | C :: Cs, [], h => by have := h.1; simp at this
  | C :: Cs, x :: L, h => by
    obtain ⟨m1, h1⟩ := h.2 0 C x rfl rfl
    obtain ⟨m2, h2⟩ := Els.all (Cs := Cs) (L := L) ⟨by have := h.1; simpa using this, fun j C x hC hx => h.2 (j + 1) C x (by simpa using hC) (by simpa using hx)⟩
    refine ⟨max m1 m2, fun j C' x' hC hx => ?_⟩
    cases j with
    | zero =>
      simp only [List.getElem?_cons_zero, Option.some.injEq] at hC hx
      subst hC hx
      exact h1.imp fun w' h => h.up (by omega)
    | succ j => exact (h2 j C' x' (by simpa using hC) (by simpa using hx)).imp fun w' h => h.up (by omega)
/-- A row of expressions that nobody writes reads as their list. -/
theorem Els.reads {D : Nat → Prop} {Cs : List (List Value)} (h : Els D w Cs L) {B g cap n : Nat} (ho : w.ownsRow B 29 10 (.slice (some ⟨g, 0, none⟩) n cap) n Cs.flatten) (hD : D g) : ∃ m, StD D w fun w' => ReadsE m w' (some ⟨g, 0, none⟩) L := by
  obtain ⟨m, hm⟩ := h.all
  refine ⟨m + 1, fun w' hz hk j x hx => ?_⟩
  have hj := (List.getElem?_eq_some_iff.1 hx).1
  have hj2 : j < Cs.length := by rw [h.1]; exact hj
  have hlt := (own_shape ho)
  have hg : g < w.heap.size := by
    rcases ho.2 with ⟨h0, _⟩ | ⟨g', cap', cur, e, hB, hg, _⟩
    · cases h0
    · cases e
      exact (Array.getElem?_eq_some_iff.1 hg).1
  have hC : Cs[j]? = some Cs[j] := List.getElem?_eq_getElem hj2
  refine ⟨g, 0, Cs[j], rfl, Nat.lt_of_lt_of_le hg hz, (hm j _ x hC hx) w' hz hk, fun q u hq => ?_⟩
  have := own_cell ho (flat10 Cs h.ten j _ hC q u hq)
  rw [Nat.zero_add]
  exact (World.cell?_of_block (w := w) (a := ⟨g, _, none⟩) (hk g hg hD)).trans this
/-- A new expression with args that lie in a row of their own, or none. -/
theorem new_node {D : Nat → Prop} {Cs : List (List Value)} {av : Value} {B : Nat} (k : Int) (n : List UInt8) (hk : -9223372036854775808 ≤ k ∧ k ≤ 9223372036854775807) (hn : n.length ≤ 140737488351232) (h : Els D w Cs L) (hl : L.length * 160 ≤ 140737488351232)
    (ho : w.ownsRow B 29 10 av L.length Cs.flatten) (hD : ∀ g, av.ownBlock = some g → D g) :
    ∃ m, StD D w fun w' => IsE m w' [.int .i64 k, .string ⟨n.toArray⟩, .int .i64 0, .bool false, .int .i64 0, .string ⟨#[]⟩, .slice none 0 0, .slice none 0 0, av, .slice none 0 0] (.mk k zeroV n L []) := by
  rcases own_shape ho with ⟨rfl, h0, hx⟩ | ⟨g, cap, rfl, h1, h2, _⟩
  · have hL : L = [] := List.eq_nil_of_length_eq_zero h0
    subst hL
    exact ⟨0, fun w' _ _ => ⟨k, n, 0, false, 0, ⟨#[]⟩, [], [], none, 0, none, 0, [], [], none, 0, none, 0, rfl, rfl, ⟨0, isV_zero 0 w'⟩, hk, hn, by simp, by simp, by simp, fun j hj => by simp at hj, readsE_nil 0 w' none⟩⟩
  · obtain ⟨m, hm⟩ := h.reads ho (hD g rfl)
    refine ⟨m, fun w' hz hk' => ⟨k, n, 0, false, 0, ⟨#[]⟩, [], [], none, 0, none, 0, L, [], some ⟨g, 0, none⟩, cap, none, 0, rfl, rfl, ⟨0, isV_zero 0 w'⟩, hk, hn, ?_, by simp, by simp, fun j hj => by simp at hj, hm w' hz hk'⟩⟩
    unfold maxLen at h2
    omega
end
end Go.Proofs.YtjehhldboopocaaGreatDoor.Lx
