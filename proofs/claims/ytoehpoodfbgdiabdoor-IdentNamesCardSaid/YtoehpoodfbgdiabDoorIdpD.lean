/- The contract of the program's Parts (ident): what strings.Split gives at one byte is what the document's Split gives. -/
import Derived.Test.YtoehpoodfbgdiabDoorIdpC
import Derived.Test.YtoehpoodfbgdiabDoorIdnE
import Derived.Lib.Split
namespace Go.Proofs.YtoehpoodfbgdiabDoor
open Go.RowKit Go.Lib

theorem ix_nil : Lib.index [] [47] = -1 := by simp [Lib.index]
theorem ix_hit (l : List UInt8) : Lib.index (47 :: l) [47] = 0 := by simp [Lib.index]
theorem ix_miss {b : UInt8} (h : b ≠ 47) (l : List UInt8) : Lib.index (b :: l) [47] = if Lib.index l [47] = -1 then -1 else Lib.index l [47] + 1 := by
  have : ([47] : List UInt8).isPrefixOf (b :: l) = false := by simp [List.isPrefixOf]; exact fun e => h e.symm
  rw [Lib.index, this]
  simp
theorem split_at : ∀ (l cur : List UInt8), splitOn cur l = if Lib.index l [47] = -1 then [cur ++ l] else (cur ++ l.take (Lib.index l [47]).toNat) :: splitOn [] (l.drop ((Lib.index l [47]).toNat + 1))
  | [], cur => by rw [ix_nil]; simp [splitOn]
  | b :: l, cur => by
    by_cases hb : b = 47
    · subst hb
      rw [ix_hit, splitOn, if_pos (by decide)]
      simp
    · have hb2 : ¬ b.toNat = 47 := fun e => hb (UInt8.toNat_inj.1 e)
      rw [ix_miss hb, splitOn, if_neg hb2, split_at l (cur ++ [b])]
      have hg := Lib.index_ge l [47]
      by_cases h : Lib.index l [47] = -1
      · simp [h]
      · rw [if_neg h, if_neg h, if_neg (by omega), show (Lib.index l [47] + 1).toNat = (Lib.index l [47]).toNat + 1 by omega, List.take_succ_cons, List.drop_succ_cons]
        simp
theorem split_K : ∀ (fuel : Nat) (l : List UInt8), l.length < fuel → Lib.splitK [47] 0 (Lib.countFrom [47] fuel l) l = splitOn [] l
  | 0, l, h => by omega
  | fuel + 1, l, h => by
    rw [Lib.countFrom, split_at l []]
    have hg := Lib.index_ge l [47]
    by_cases h1 : Lib.index l [47] = -1
    · simp [h1, Lib.splitK]
    · have hb : (Lib.index l [47] == -1) = false := by simp [h1]
      rw [hb, if_neg (by simp), if_neg h1, Nat.add_comm 1, Lib.splitK, hb, if_neg (by simp)]
      simp only [List.nil_append, Nat.add_zero, List.length_singleton]
      congr 1
      cases l with
      | nil => exact absurd ix_nil h1
      | cons b l =>
        refine split_K fuel _ ?_
        rw [List.length_drop]
        simp only [List.length_cons] at h ⊢
        omega
theorem split_B (s : ByteArray) : (Lib.splitB ⟨#[47]⟩ 0 (Lib.countB s ⟨#[47]⟩) s).map (·.data.toList) = splitOn [] s.data.toList := by
  rw [Lib.splitB_data]
  exact split_K _ _ (Nat.lt_succ_self _)

/-- What the library's variable holds when a call begins. -/
def Tab4 (w : World) : Prop := ∃ m, w.cell? ⟨0, 0, none⟩ = some (.int .i64 m)
theorem cell_ltS {w : World} {p : Addr} {v : Value} (h : w.cell? p = some v) : p.block < w.heap.size := by
  rcases Nat.lt_or_ge p.block w.heap.size with hlt | hge
  · exact hlt
  · rw [World.cell?, Array.getElem?_eq_none hge] at h
    cases h
theorem Tab4.below {w w' : World} (h : Tab4 w) (hb : Below w.heap.size w w') : Tab4 w' :=
  h.elim fun m hm => ⟨m, (hb.cell (cell_ltS hm)).trans hm⟩

theorem splitS_any (s : ByteArray) (hs : s.size < 4294967281) (w : World) (hT : Tab4 w) :
    Calls Tryd.prog 36 #[.string s, .string ⟨#[47]⟩] w fun e w' => ∃ a, e = .returned (.slice a (splitOn [] s.data.toList).length (splitOn [] s.data.toList).length) ∧ Below w.heap.size w w' ∧ ReadsStr w' a (splitOn [] s.data.toList) := by
  obtain ⟨m, hm⟩ := hT
  refine (Tryd.strings_Split s ⟨#[47]⟩ m w hs hm (by decide)).mono ?_
  rintro e w' ⟨rfl, rfl⟩
  have hB := split_B s
  have hlen : Lib.countB s ⟨#[47]⟩ + 1 = (splitOn [] s.data.toList).length := by
    rw [← hB, List.length_map]
    exact (Lib.splitB_all _ (by decide) 0 _ s rfl).symm
  refine ⟨some ⟨w.heap.size, 0, none⟩, by rw [hlen], (Below.refl w.heap.size w).alloc (Nat.le_refl _) _, ?_⟩
  intro k hk
  refine ⟨w.heap.size, 0, rfl, by simp, ?_⟩
  have hk2 : k < (Lib.splitB ⟨#[47]⟩ 0 (Lib.countB s ⟨#[47]⟩) s).length := by rw [← hB, List.length_map] at hk; exact hk
  have hx : (splitOn [] s.data.toList)[k] = ((Lib.splitB ⟨#[47]⟩ 0 (Lib.countB s ⟨#[47]⟩) s)[k]'hk2).data.toList := by
    have : (splitOn [] s.data.toList)[k]? = some (((Lib.splitB ⟨#[47]⟩ 0 (Lib.countB s ⟨#[47]⟩) s)[k]'hk2).data.toList) := by
      rw [← hB, List.getElem?_map, List.getElem?_eq_getElem hk2]; rfl
    rw [List.getElem?_eq_getElem hk] at this
    exact Option.some.inj this
  rw [hx, str_back, Nat.zero_add, World.cell?_alloc_mark]
  simp [hk2]

set_option maxHeartbeats 4000000 in
set_option maxRecDepth 100000 in
theorem idParts_any (s : ByteArray) (hs : s.size ≤ 1099511627776) (w : World) (hT : Tab4 w) :
    Calls Tryd.prog 16 #[.string s] w (PartsPost w (partsR s.data.toList)) := by
  have hsl : s.data.toList.length = s.size := by rw [Array.length_toList]; rfl
  by_cases h512 : 512 < s.size
  · have HQ := Lib.hid (show partsR s.data.toList = ([], 3) by unfold partsR; rw [if_pos (by omega)])
    have g1 : (512 : Int) < (s.size : Int) := by omega
    clear hs hT hsl h512
    go_enter Tryd.func16, Tryd.ntmps16
    go_wp2_with fail
    go_ret2
    rw [HQ.out]
    exact ⟨none, 0, rfl, Below.refl _ _, fun k hk => by simp at hk, by simp, by simp⟩
  · have S := Lib.hid (splitS_any s (by omega) w hT)
    have HQ := Lib.hid (show partsR s.data.toList = if (splitOn [] s.data.toList).all nameB = true then (splitOn [] s.data.toList, 0) else ([], 1) by unfold partsR; rw [if_neg (by omega)])
    have hln := splitOn_len s.data.toList []
    have hln0 : 0 < (splitOn [] s.data.toList).length := by
      rw [split_at]
      split <;> simp
    have hmm := splitOn_mem s.data.toList []
    have g1 : ¬ (512 : Int) < (s.size : Int) := by omega
    obtain ⟨P, hP⟩ : ∃ P, P = splitOn [] s.data.toList := ⟨_, rfl⟩
    rw [← hP] at S HQ hln hln0 hmm
    have V := Lib.hid (fun a w hr => idValid_any a P.length P (by omega) (fun x hx => by have := hmm x hx; simp at this; omega) w hr)
    have HL := Lib.hid (And.intro hln0 (show P.length ≤ 9223372036854775807 by omega))
    rw [decide_eq_true hln0, Bool.true_and] at V
    clear hs hT hsl h512 hln hln0 hmm hP
    cases hq : P.all nameB
    · rw [hq] at V HQ
      have HF := Lib.hid (show partsR s.data.toList = ([], 1) by rw [HQ.out]; rfl)
      clear hq
      go_enter Tryd.func16, Tryd.ntmps16
      go_wp2_with fail
      go_fit S.out
      rintro e w1 ⟨a, rfl, hb, hr⟩
      have B := Lib.hid hb
      have R := Lib.hid hr
      clear hb hr
      go_wp2_with fail
      go_fit (V.out _ _ R.out)
      rintro e w2 ⟨rfl, hb⟩
      have B2 := Lib.hid (B.out.trans (hb.mono B.out.size))
      clear hb
      go_wp2_with fail
      go_ret2
      rw [HF.out]
      exact ⟨none, 0, rfl, B2.out, fun k hk => by simp at hk, by simp, by simp⟩
    · rw [hq] at V HQ
      have HF := Lib.hid (show partsR s.data.toList = (P, 0) by rw [HQ.out]; rfl)
      clear hq
      go_enter Tryd.func16, Tryd.ntmps16
      go_wp2_with fail
      go_fit S.out
      rintro e w1 ⟨a, rfl, hb, hr⟩
      have B := Lib.hid hb
      have R := Lib.hid hr
      clear hb hr
      go_wp2_with fail
      go_fit (V.out _ _ R.out)
      rintro e w2 ⟨rfl, hb⟩
      have B2 := Lib.hid (B.out.trans (hb.mono B.out.size))
      have R2 := Lib.hid (R.out.below hb)
      clear hb
      go_wp2_with fail
      go_ret2
      rw [HF.out]
      exact ⟨a, P.length, rfl, B2.out, R2.out, Nat.le_refl _, HL.out.2⟩
end Go.Proofs.YtoehpoodfbgdiabDoor
