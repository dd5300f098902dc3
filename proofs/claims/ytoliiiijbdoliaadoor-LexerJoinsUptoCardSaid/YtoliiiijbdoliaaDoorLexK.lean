/- Contracts of the program's lineLength, opened, endsLine (lexer). -/
import Derived.Test.YtoliiiijbdoliaaDoorLexI
import Derived.Lib.IndexMore
namespace Go.Proofs.YtoliiiijbdoliaaDoor
open Go.RowKit Go.Lib
set_option linter.unusedVariables false

theorem occ_one (l : List UInt8) (j : Nat) (h : j < l.length) : Lib.occAt l [10] j = (l[j] == 10) := by
  unfold Lib.occAt
  rw [List.drop_eq_getElem_cons h]
  simp only [List.isPrefixOf, Bool.and_true]
  exact Bool.beq_comm
theorem cut_ln (l : List UInt8) : (Lib.cut l [10]).1 = l.takeWhile (fun c => !(c == 10)) := by
  unfold Lib.cut
  rcases Lib.index_spec l [10] with ⟨h1, h2⟩ | ⟨i, h1, h2, h3, h4⟩
  · rw [h1, if_neg (by omega)]
    rw [tw_at l l.length (fun j hj hl => by rw [← occ_one l j hl, h2 j (Nat.le_of_lt hj)]; rfl) (Nat.le_refl _) (fun h => absurd h (Nat.lt_irrefl _)), List.take_length]
  · rw [h1, if_pos (by omega)]
    have hi : i < l.length := by
      rcases Nat.lt_or_ge i l.length with h | h
      · exact h
      · unfold Lib.occAt at h3
        rw [List.drop_eq_nil_of_le h] at h3
        cases h3
    exact (tw_at l i (fun j hj hl => by rw [← occ_one l j hl, h4 j hj]; rfl) h2 (fun h => by rw [← occ_one l i h, h3]; rfl)).symm
set_option maxHeartbeats 2000000 in
theorem lineLength_any (s : ByteArray) (hs : s.size < 4294967281) (w : World) (hT : TabL w) :
    Calls Tryd.prog 21 #[.string s] w fun e w' => e = .returned (.int .i64 ((s.data.toList.takeWhile (fun c => !(c == 10))).length : Nat)) ∧ Below w.heap.size w w' := by
  obtain ⟨m, hm⟩ := hT.2.2.2
  have CU := Lib.hid (Tryd.strings_Cut s ⟨#[10]⟩ m w hs hm)
  rw [show (⟨#[10]⟩ : ByteArray).data.toList = [10] from rfl, cut_ln] at CU
  obtain ⟨d, hd⟩ : ∃ d : ByteArray, d = ⟨(s.data.toList.takeWhile (fun c => !(c == 10))).toArray⟩ := ⟨_, rfl⟩
  have HL := Lib.hid (show (s.data.toList.takeWhile (fun c => !(c == 10))).length = d.size from by rw [← lenB, hd])
  rw [← hd] at CU
  clear hd hm hT
  go_enter Tryd.func21, Tryd.ntmps21
  go_wp2_with fail
  go_fit (CU.out)
  rintro e w1 ⟨rfl, n, rfl⟩
  go_wp2_with fail
  go_ret
  exact ⟨by rw [HL.out]; rfl, below_drewN (Below.refl _ _) n⟩

/-- By how much a token changes the number of open brackets. -/
def opnI (k : Int) (t : List UInt8) : Int := if k = 4 ∧ (t = [40] ∨ t = [91]) then 1 else if k = 4 ∧ (t = [41] ∨ t = [93]) then -1 else 0
set_option maxHeartbeats 2000000 in
theorem opened_any (k p : Int) (s : ByteArray) (w : World) : Calls Tryd.prog 24 #[.agg #[.int .i64 k, .string s, .int .i64 p]] w fun e w' => e = .returned (.int .i64 (opnI k s.data.toList)) ∧ Below w.heap.size w w' := by
  have ht := Lib.toList_data s
  by_cases h4 : k = 4
  · subst h4
    cases q1 : (s.toList == [40])
    · cases q2 : (s.toList == [91])
      · cases q3 : (s.toList == [41])
        · cases q4 : (s.toList == [93])
          · have HE := Lib.hid (show opnI 4 s.data.toList = 0 from by
              rw [ht] at q1 q2 q3 q4
              rw [beq_eq_false_iff_ne] at q1 q2 q3 q4
              unfold opnI
              rw [if_neg (fun h => h.2.elim q1 q2), if_neg (fun h => h.2.elim q3 q4)])
            clear ht
            go_enter Tryd.func24, Tryd.ntmps24
            go_wp2_with fail
            go_ret
            exact ⟨by rw [HE.out]; rfl, (Below.refl _ _).alloc (Nat.le_refl _) _⟩
          · have HE := Lib.hid (show opnI 4 s.data.toList = -1 from by
              rw [ht] at q1 q2 q3 q4
              rw [beq_eq_false_iff_ne] at q1 q2
              unfold opnI
              rw [if_neg (fun h => h.2.elim q1 q2), if_pos ⟨rfl, .inr (beq_iff_eq.1 q4)⟩])
            clear ht
            go_enter Tryd.func24, Tryd.ntmps24
            go_wp2_with fail
            go_ret
            exact ⟨by rw [HE.out]; rfl, (Below.refl _ _).alloc (Nat.le_refl _) _⟩
        · have HE := Lib.hid (show opnI 4 s.data.toList = -1 from by
            rw [ht] at q1 q2 q3
            rw [beq_eq_false_iff_ne] at q1 q2
            unfold opnI
            rw [if_neg (fun h => h.2.elim q1 q2), if_pos ⟨rfl, .inl (beq_iff_eq.1 q3)⟩])
          clear ht
          go_enter Tryd.func24, Tryd.ntmps24
          go_wp2_with fail
          go_ret
          exact ⟨by rw [HE.out]; rfl, (Below.refl _ _).alloc (Nat.le_refl _) _⟩
      · have HE := Lib.hid (show opnI 4 s.data.toList = 1 from by
          rw [ht] at q2
          unfold opnI
          rw [if_pos ⟨rfl, .inr (beq_iff_eq.1 q2)⟩])
        clear ht
        go_enter Tryd.func24, Tryd.ntmps24
        go_wp2_with fail
        go_ret
        exact ⟨by rw [HE.out]; rfl, (Below.refl _ _).alloc (Nat.le_refl _) _⟩
    · have HE := Lib.hid (show opnI 4 s.data.toList = 1 from by
        rw [ht] at q1
        unfold opnI
        rw [if_pos ⟨rfl, .inl (beq_iff_eq.1 q1)⟩])
      clear ht
      go_enter Tryd.func24, Tryd.ntmps24
      go_wp2_with fail
      go_ret
      exact ⟨by rw [HE.out]; rfl, (Below.refl _ _).alloc (Nat.le_refl _) _⟩
  · have HE := Lib.hid (show opnI k s.data.toList = 0 from by
      unfold opnI
      rw [if_neg (fun h => h4 h.1), if_neg (fun h => h4 h.1)])
    have q : (k != 4) = true := by rw [bne_iff_ne]; exact h4
    clear h4 ht
    go_enter Tryd.func24, Tryd.ntmps24
    go_wp2_with fail
    go_ret
    exact ⟨by rw [HE.out]; rfl, (Below.refl _ _).alloc (Nat.le_refl _) _⟩
/-- Is the last token a line's end? -/
def endK (l : List Tm) : Bool := match l.getLast? with
  | some t => t.kind == 5
  | none => false
set_option maxHeartbeats 2000000 in
theorem endsLine_any (l : List Tm) (v : Option Addr) (c : Nat) (hlen : l.length ≤ 9223372036854775000) (w : World) (h : ReadsK w v l) :
    Calls Tryd.prog 22 #[.slice v l.length c] w fun e w' => e = .returned (.bool (endK l)) ∧ Below w.heap.size w w' := by
  by_cases h0 : l = []
  · subst h0
    go_enter Tryd.func22, Tryd.ntmps22
    go_wp2_with fail
    go_ret
    exact ⟨rfl, Below.refl _ _⟩
  · have hp : 0 < l.length := List.length_pos_iff.2 h0
    obtain ⟨b, off, rfl, h2, c0, c1, c2⟩ := h (l.length - 1) (by omega)
    have hE := Lib.hid (show endK l = (l[l.length - 1].kind == 5) from by
      unfold endK
      rw [List.getLast?_eq_getElem?, List.getElem?_eq_getElem (by omega)])
    generalize l[l.length - 1].kind = kd at *
    have hpI : (0 : Int) < (l.length : Int) := by omega
    have hj : (l.length : Int) - 1 = ((l.length - 1 : Nat) : Int) := by omega
    clear c1 c2 h h0
    go_enter Tryd.func22, Tryd.ntmps22
    go_wp2_with fail
    go_ret
    exact ⟨by rw [hE.out]; rfl, Below.refl _ _⟩
end Go.Proofs.YtoliiiijbdoliaaDoor
