/- The order of entries by name, for the library's sort; contract of Map's closure (value). A sorted permutation of entries' cells is the entries' natural order. Plain functions (value). -/
import Derived.Test.YtabopneehhnhfaaGreatDoorVluA
import Derived.Test.YtabopneehhnhfaaGreatDoorVluL
import Derived.Test.YtabopneehhnhfaaGreatDoorNatPG
import Derived.Shelf.SlSortCmp.WholeK
import Derived.Lib.QuietBelow
import Derived.Sort.Statements
namespace Go.Proofs.YtabopneehhnhfaaGreatDoor
open Go.RowKit Go.Lib Go.Sort Go.Shelf

/-- An entry as its cells: its name, and six cells. -/
structure Raw where
  n : List UInt8
  a1 : Value
  a2 : Value
  a3 : Value
  a4 : Value
  a5 : Value
  a6 : Value
  hn : n.length ≤ 140737488351232
  h1 : a1.oneCell' = true ∧ a2.oneCell' = true ∧ a3.oneCell' = true ∧ a4.oneCell' = true ∧ a5.oneCell' = true ∧ a6.oneCell' = true
instance : Inhabited Raw := ⟨⟨[], .bool false, .bool false, .bool false, .bool false, .bool false, .bool false, by decide, by decide⟩⟩
def encR (x : Raw) : List Value := [.string ⟨x.n.toArray⟩, x.a1, x.a2, x.a3, x.a4, x.a5, x.a6]
theorem encR_seven (x : Raw) : (encR x).length = 7 := rfl
theorem encR_one (x : Raw) : ∀ v ∈ encR x, v.oneCell' = true := by
  obtain ⟨n, a1, a2, a3, a4, a5, a6, hn, h1, h2, h3, h4, h5, h6⟩ := x
  intro v hv
  simp only [encR, List.mem_cons, List.not_mem_nil, or_false] at hv
  rcases hv with rfl | rfl | rfl | rfl | rfl | rfl | rfl
  · rfl
  all_goals assumption
def cmpRw (x y : Raw) : Int := cmpL x.n y.n
theorem cmp_nn' {x y z : List UInt8} (h1 : cmpL x y ≤ 0) (h2 : cmpL y z < 0) : cmpL x z < 0 := cmp_tot.pre.lt h1 h2
theorem cmpRw_swo : SWO (ltOf cmpRw) where
  irrefl := fun x => by
    unfold ltOf cmpRw
    rw [(cmp_tot.eq x.n x.n).2 rfl]; rfl
  trans := fun x y z h1 h2 => by
    unfold ltOf cmpRw at *
    rw [decide_eq_true_eq] at *
    exact cmp_lt_trans h1 h2
  ntrans := fun x y z h1 h2 => by
    unfold ltOf cmpRw at *
    rw [decide_eq_false_iff_not] at *
    have a1 := cmp_tot.anti x.n y.n
    have a2 := cmp_tot.anti y.n z.n
    have a3 := cmp_tot.anti x.n z.n
    intro h
    have b : cmpL y.n x.n ≤ 0 := by omega
    have c := cmp_nn' b h
    omega
theorem grown_of' {w w' : World} (h : BelowD w w') : ∃ q os, w' = grow (w.drewN q) os := by
  obtain ⟨p, hp⟩ := regrown_of_below h.1
  refine ⟨w'.drawn - w.drawn, p.os, ?_⟩
  have hd : w'.drawn = p.d := by rw [hp]; rfl
  rw [hp]
  have h2 := h.2
  rw [hd] at h2
  show grow (redrawn w p.d) p.os = grow (w.drewN (p.d - w.drawn)) p.os
  congr 1
  show ({ w with drawn := p.d } : World) = _
  unfold World.drewN
  rw [show w.drawn + (p.d - w.drawn) = p.d by omega]
set_option maxHeartbeats 1000000 in
theorem mapLess_any (x y : Raw) (W : World) : Calls Tryz.prog 46 #[.agg (encR x).toArray, .agg (encR y).toArray] W fun e w' => e = .returned (.int .i64 (cmpRw x y)) ∧ ∃ q os', w' = grow (W.drewN q) os' := by
  obtain ⟨n, a1, a2, a3, a4, a5, a6, hn, -⟩ := x
  obtain ⟨n2, b1, b2, b3, b4, b5, b6, hn2, -⟩ := y
  have F := Lib.hid (fun w' => idCompareD_any ⟨n.toArray⟩ ⟨n2.toArray⟩ (by rw [mkS_size]; exact hn) (by rw [mkS_size]; exact hn2) w')
  have R := Lib.hid (show cmpL n n2 = cmpL (⟨n.toArray⟩ : ByteArray).data.toList (⟨n2.toArray⟩ : ByteArray).data.toList from rfl)
  show Calls Tryz.prog 46 #[.agg #[.string ⟨n.toArray⟩, a1, a2, a3, a4, a5, a6], .agg #[.string ⟨n2.toArray⟩, b1, b2, b3, b4, b5, b6]] W fun e w' => e = .returned (.int .i64 (cmpL n n2)) ∧ ∃ q os', w' = grow (W.drewN q) os'
  rw [R.out]
  generalize (⟨n.toArray⟩ : ByteArray) = s1 at F ⊢
  generalize (⟨n2.toArray⟩ : ByteArray) = s2 at F ⊢
  clear R hn hn2
  go_enter Tryz.func46, Tryz.ntmps46
  go_wp2_with fail
  go_fit (F.out _)
  rintro e w1 ⟨rfl, hb⟩
  have H := Lib.hid (show BelowD W w1 from ⟨(((Below.refl W.heap.size W).alloc (Nat.le_refl _) _).alloc (by simp) _).trans (hb.1.mono (by simp; omega)), hb.2⟩)
  clear hb
  go_wp2_with fail
  go_ret
  exact ⟨rfl, grown_of' H.out⟩
theorem mapLess_lays (blk off size : Nat) (w : World) : CmpLays Tryz.prog 46 #[] encR 7 cmpRw blk off size w := fun _ _ _ _ x y => mapLess_any x y _
end Go.Proofs.YtabopneehhnhfaaGreatDoor
namespace Go.Proofs.YtabopneehhnhfaaGreatDoor
open Go.RowKit Go.Lib Go.Sort

/-- A permutation of what pairs show is shown by a permutation of the pairs. -/
theorem perm_lift {α β : Type} (f : α → β) {d d' : List β} (h : d.Perm d') : ∀ Q : List α, Q.map f = d → ∃ Q' : List α, Q'.Perm Q ∧ Q'.map f = d' := by
  induction h with
  | nil =>
    intro Q hQ
    exact ⟨[], by rw [List.map_eq_nil_iff.1 hQ], rfl⟩
  | cons x _ ih =>
    intro Q hQ
    cases Q with
    | nil => cases hQ
    | cons q Q =>
      rw [List.map_cons] at hQ
      injection hQ with h1 h2
      obtain ⟨Q', h3, h4⟩ := ih Q h2
      exact ⟨q :: Q', h3.cons q, by rw [List.map_cons, h4, h1]⟩
  | swap x y r =>
    intro Q hQ
    match Q, hQ with
    | q1 :: q2 :: Q, hQ =>
      simp only [List.map_cons, List.cons.injEq] at hQ
      obtain ⟨h1, h2, h3⟩ := hQ
      exact ⟨q2 :: q1 :: Q, List.Perm.swap _ _ _, by simp [h1, h2, h3]⟩
  | trans _ _ ih1 ih2 =>
    intro Q hQ
    obtain ⟨Q1, h1, h2⟩ := ih1 Q hQ
    obtain ⟨Q2, h3, h4⟩ := ih2 Q1 h2
    exact ⟨Q2, h3.trans h1, h4⟩
/-- Pairs of cells and entries that bear one name each, sorted. -/
theorem sorted_entries {Q' : List (Raw × Vr)} {l : List Vr} (hp : (Q'.map (·.2)).Perm l) (hn : ∀ q, q ∈ Q' → q.1.n = q.2.1) (ho : Once l)
    (hs : Q'.Pairwise fun p q => ltOf cmpRw q.1 p.1 = false) : Q'.map (·.2) = sortM l := by
  refine sort_eq ho hp ?_
  have ho' : Once (Q'.map (·.2)) := ho.perm hp.symm
  unfold Once at ho'
  unfold Asc
  rw [List.pairwise_map] at ho' ⊢
  refine (hs.and ho').imp_of_mem ?_
  intro p q hpm hqm ⟨h1, h2⟩
  unfold ltOf cmpRw at h1
  rw [decide_eq_false_iff_not, hn p hpm, hn q hqm] at h1
  have a := cmp_tot.anti p.2.1 q.2.1
  have b := cmp_tot.eq p.2.1 q.2.1
  have c : cmpL p.2.1 q.2.1 ≠ 0 := fun e => h2 (b.1 e)
  omega
theorem permIn_perm {α : Type} [Inhabited α] {d d' : Array α} (h : PermIn 0 d.size d d') : d'.toList.Perm d.toList := by
  obtain ⟨h1, _, h2⟩ := h
  rw [← h1, Array.extract_size, h1, Array.extract_size] at h2
  exact h2
theorem sortedIn_pairwise {α : Type} [Inhabited α] {lt : α → α → Bool} {d d' : Array α} (hn : d'.size = d.size) (h : SortedIn lt 0 d.size d') : d'.toList.Pairwise fun x y => lt y x = false := by
  rw [List.pairwise_iff_getElem]
  intro i j hi hj hij
  rw [Array.length_toList] at hi hj
  have e := h i j (Nat.zero_le _) hij (by omega)
  rw [getElem!_pos d' j hj, getElem!_pos d' i hi] at e
  rw [Array.getElem_toList, Array.getElem_toList]
  exact e
end Go.Proofs.YtabopneehhnhfaaGreatDoor
