/- A valid map is the map of its entries; Get finds each of them (pure). -/
import Derived.Test.YtabopneehhnhfaaGreatDoorVluV
namespace Go.Proofs.YtabopneehhnhfaaGreatDoor
open Go.RowKit Go.Lib

theorem ascB_pair : ∀ ks : List (List UInt8), ascB ks = true → ks.Pairwise fun p q => cmpL p q < 0
  | [], _ => List.Pairwise.nil
  | [x], _ => List.pairwise_singleton _ _
  | x :: y :: r, h => by
    rw [ascB, Bool.and_eq_true, decide_eq_true_eq] at h
    have ih := ascB_pair (y :: r) h.2
    refine List.pairwise_cons.2 ⟨fun z hz => ?_, ih⟩
    rcases List.mem_cons.1 hz with rfl | hz
    · exact h.1
    · exact cmp_lt_trans h.1 ((List.pairwise_cons.1 ih).1 z hz)
theorem zip_asc {ks : List (List UInt8)} {l : List Vl} (hl : ks.length = l.length) (h : ks.Pairwise fun p q => cmpL p q < 0) : Asc (ks.zip l) := by
  have e : (ks.zip l).map (·.1) = ks := by
    rw [List.map_fst_zip]
    omega
  rw [← e, List.pairwise_map] at h
  exact h
theorem zip_fst {ks : List (List UInt8)} {l : List Vl} (hl : ks.length = l.length) : (ks.zip l).map (·.1) = ks := by
  rw [List.map_fst_zip]
  omega
theorem zip_snd {ks : List (List UInt8)} {l : List Vl} (hl : ks.length = l.length) : (ks.zip l).map (·.2) = l := by
  rw [List.map_snd_zip]
  omega
theorem plain_five {t : Bool} {i : Int} {s : ByteArray} {l : List Vl} {ks : List (List UInt8)} (h : plainB 5 t i s l ks = true) : t = false ∧ i = 0 ∧ s = ⟨#[]⟩ := by
  unfold plainB at h
  simp only [Bool.and_eq_true, Bool.or_eq_true, beq_iff_eq, List.isEmpty_iff] at h
  obtain ⟨⟨⟨⟨h1, h2⟩, h3⟩, _⟩, _⟩ := h
  refine ⟨?_, ?_, ?_⟩
  · rcases h1 with h | h
    · simpa using h
    · omega
  · rcases h2 with h | h
    · exact h
    · omega
  · rcases h3 with h | h
    · rw [Lib.toList_data] at h
      exact str_inj.1 h
    · omega
/-- What is told of a valid map. -/
theorem vars_back {x : Vl} (h : varsE x = 0) : errVs (varsL x) = 0 ∧ mapV (varsL x) = x ∧ (varsL x).length ≤ 1024 ∧ ∀ (j : Nat) (p : Vr), (varsL x)[j]? = some p → getV x p.1 = some p.2 := by
  obtain ⟨k, t, i, s, l, ks⟩ := x
  have h0 : errV 16 (.mk k t i s l ks) = 0 := by
    unfold varsE at h
    by_cases e : errV 16 (.mk k t i s l ks) = 0
    · exact e
    · rw [if_pos e] at h
      exact absurd h e
  have hk : k = 5 := by
    unfold varsE at h
    rw [if_neg (by omega)] at h
    by_cases e : k = 5
    · exact e
    · rw [if_neg (show ¬ (Vl.mk k t i s l ks).kind = 5 from e)] at h
      cases h
  subst hk
  obtain ⟨⟨a1, a2, a3, a4, a5, a6, a7, a8, a9, a10⟩, a11⟩ := err_parts.1 h0
  have hkb := a9 rfl
  unfold keysB at hkb
  simp only [Bool.and_eq_true, decide_eq_true_eq] at hkb
  obtain ⟨⟨hlen, hall⟩, hasc⟩ := hkb
  obtain ⟨rfl, rfl, rfl⟩ := plain_five a3
  have hL : varsL (.mk 5 false 0 ⟨#[]⟩ l ks) = ks.zip l := by unfold varsL; rw [if_pos h]; rfl
  rw [hL]
  have hp := ascB_pair ks hasc
  have hA := zip_asc (l := l) hlen hp
  have hO := hA.once
  have hz : (ks.zip l).length = l.length := by rw [List.length_zip]; omega
  refine ⟨?_, ?_, by omega, ?_⟩
  · unfold errVs
    rw [if_neg (by omega)]
    refine (errM_zero _ _).2 ⟨fun p hp => ?_, hO⟩
    obtain ⟨h1, h2⟩ := List.of_mem_zip hp
    have e15 := a11 _ h2
    exact ⟨List.all_eq_true.1 hall _ h1, errV_up 15 _ e15, e15, by simp⟩
  · rw [mapV, ← sort_eq hO (List.Perm.refl _) hA, zip_fst hlen, zip_snd hlen]
  · intro j p hj
    obtain ⟨hk1, hl1⟩ := List.getElem?_zip_eq_some.1 hj
    rw [getV, if_pos rfl]
    have hjk : j < ks.length := (List.getElem?_eq_some_iff.1 hk1).1
    have hkj : ks[j] = p.1 := (List.getElem?_eq_some_iff.1 hk1).2
    have hf : firstK ks p.1 = some j := by
      unfold firstK
      rw [List.findIdx?_eq_some_iff_getElem]
      refine ⟨hjk, by simp [hkj], fun i hi => ?_⟩
      have hlt := (List.pairwise_iff_getElem.1 hp) i j (by omega) hjk hi
      rw [hkj] at hlt
      simp only [beq_iff_eq]
      intro e
      rw [e] at hlt
      have := cmp_tot.pre.refl p.1
      omega
    rw [hf]
    exact hl1
end Go.Proofs.YtabopneehhnhfaaGreatDoor
