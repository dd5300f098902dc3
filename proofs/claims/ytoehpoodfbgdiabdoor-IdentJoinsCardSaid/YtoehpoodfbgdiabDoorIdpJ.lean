/- The contract of the program's Sorted (ident). -/
import Derived.Test.YtoehpoodfbgdiabDoorIdpG
import Derived.Test.YtoehpoodfbgdiabDoorIdpI
import Derived.Test.YtoehpoodfbgdiabDoorShelf
import Derived.Lib.OwnBridge
import Derived.Lib.QuietBelow
import Derived.Sort.EncStr
namespace Go.Proofs.YtoehpoodfbgdiabDoor
open Go.RowKit Go.Lib Go.Sort

theorem grown_of {w w' : World} (h : BelowD w w') : ∃ q os, w' = grow (w.drewN q) os := by
  obtain ⟨p, hp⟩ := regrown_of_below h.1
  refine ⟨w'.drawn - w.drawn, p.os, ?_⟩
  have hd : w'.drawn = p.d := by rw [hp]; rfl
  rw [hp]
  have h2 := h.2
  rw [hd] at h2
  show grow (redrawn w p.d) p.os = grow (w.drewN (p.d - w.drawn)) p.os
  congr 1
  show ({ w with drawn := p.d } : World) = _
  unfold World.drewN
  rw [show w.drawn + (p.d - w.drawn) = p.d by omega]
def encS (x : Sh) : Value := encStr x.1
theorem encS_one : OneCell encS := fun _ => rfl
theorem cmp_lays (blk off size : Nat) (w : World) : CmpLays1 Tryd.prog 23 #[] encS cmpS blk off size w := by
  intro m os dk _ x y
  refine (idCompareD_any ⟨x.1.toArray⟩ ⟨y.1.toArray⟩ (by rw [mkS_size]; exact x.2) (by rw [mkS_size]; exact y.2) _).mono ?_
  rintro e w' ⟨he, hb⟩
  exact ⟨he, grown_of hb⟩
theorem own_grow {w : World} {B n : Nat} {t : TypeId} {v : Value} {xs : List Value} (h : w.ownsRow B t 1 v n xs) (os : Array Obj) : (grow w os).ownsRow B t 1 v n xs := by
  refine ⟨h.1, ?_⟩
  rcases h.2 with h2 | ⟨g, cap, cur, h2, h3, h4, h5⟩
  · exact .inl h2
  · refine .inr ⟨g, cap, cur, h2, h3, ?_, h5⟩
    rw [heap_grow_old _ _ (Array.getElem?_eq_some_iff.1 h4).1]
    exact h4
theorem below_growS {B : Nat} {w0 w : World} (h : Below B w0 w) (hB : B ≤ w.heap.size) (os : Array Obj) : Below B w0 (grow w os) :=
  ⟨h.os, h.tape, h.output, Nat.le_trans h.size (by simp [grow]), fun k hk => by rw [heap_grow_old _ _ (Nat.lt_of_lt_of_le hk hB)]; exact h.block k hk⟩
theorem attach_map (L : List (List UInt8)) (hsz : ∀ x, x ∈ L → x.length ≤ 1099511627776) : ∃ D : List Sh, D.map (·.1) = L :=
  ⟨L.attach.map fun x => ⟨x.1, hsz x.1 x.2⟩, by rw [List.map_map]; exact List.attach_map_subtype_val L⟩

set_option maxHeartbeats 4000000 in
set_option maxRecDepth 100000 in
theorem idSorted_any (v : Option Addr) (cap : Nat) (L : List (List UInt8)) (hl : L.length ≤ 1099511627776) (hsz : ∀ x, x ∈ L → x.length ≤ 1099511627776) (w : World) (hr : ReadsStr w v L) :
    Calls Tryd.prog 25 #[.slice v L.length cap] w fun e w' => ∃ u, e = .returned u ∧ w'.ownsRow w.heap.size 9 1 u (sortR L).length ((sortR L).map strV) ∧ Below w.heap.size w w' := by
  have SN := Lib.hid (fun p c w => Tryd.slices_SortFunc_none (α := Sh) p c (.func (.func 23) #[] #[]) w)
  have CE := Lib.hid (fun a c w => Tryd.slices_Compact_string_empty a c w)
  by_cases h0 : L = []
  · subst h0
    cases v with
    | none =>
      have C := Lib.hid (Tryd.slices_Clone_string_nil 0 cap w)
      clear hl hsz hr
      go_enter Tryd.func25, Tryd.ntmps25
      go_wp2_with fail
      go_fit C.out
      rintro e w1 ⟨rfl, rfl⟩
      go_wp2_with fail
      go_fit (SN.out _ _ _)
      rintro e w1 ⟨rfl, rfl⟩
      go_wp2_with fail
      go_fit (CE.out _ _ _)
      rintro e w1 ⟨rfl, rfl⟩
      go_wp2_with fail
      go_ret
      exact ⟨_, rfl, World.ownsRow_nil _ _ _ _, Below.refl _ _⟩
    | some ad =>
      have C := Lib.hid (Tryd.slices_Clone_string_zero ad cap w)
      clear hl hsz hr
      go_enter Tryd.func25, Tryd.ntmps25
      go_wp2_with fail
      go_fit C.out
      rintro e w1 ⟨v', rfl, hown, hne, hb⟩
      obtain ⟨g, c', rfl, _⟩ := holds_of_ownsRow (enc := encStr) (zs := []) hown hne
      have HO := Lib.hid hown
      have B := Lib.hid hb
      clear hown hne hb
      go_wp2_with fail
      go_fit (SN.out _ _ _)
      rintro e w1 ⟨rfl, rfl⟩
      go_wp2_with fail
      go_fit (CE.out _ _ _)
      rintro e w1 ⟨rfl, rfl⟩
      go_wp2_with fail
      go_ret
      exact ⟨_, rfl, HO.out, B.out⟩
  · have hl0 : 0 < L.length := List.length_pos_iff.2 h0
    obtain ⟨b, off, rfl, hbl, hx0⟩ := hr 0 hl0
    obtain ⟨D, hD⟩ := attach_map L hsz
    have hDl : D.length = L.length := by rw [← hD, List.length_map]
    have hzl : (L.map fun x => (⟨x.toArray⟩ : ByteArray)).length = L.length := List.length_map ..
    have C := Lib.hid (Tryd.slices_Clone_string b off L.length cap (L.map fun x => (⟨x.toArray⟩ : ByteArray)) w (by rw [hzl]; exact Nat.le_refl _) (by omega) (by
      intro j hj
      rw [hzl] at hj
      obtain ⟨b', off', e, _, hc⟩ := hr j hj
      cases e
      rw [hc, List.getD, List.getElem?_map, List.getElem?_eq_getElem hj]
      rfl))
    rw [List.take_of_length_le (by rw [hzl]; exact Nat.le_refl _)] at C
    have hcells : (L.map fun x => (⟨x.toArray⟩ : ByteArray)).map Value.string = D.map encS := by
      rw [← hD, List.map_map, List.map_map]; rfl
    rw [hcells] at C
    obtain ⟨M, hM⟩ : ∃ M, M = D.mergeSort fun x y => !(ltOf cmpS) y x := ⟨_, rfl⟩
    have hMl : M.length = L.length := by rw [hM, (List.mergeSort_perm _ _).length_eq, hDl]
    have hmono : Mono (M.map (·.1)) := by rw [hM]; exact sort_mono D
    have hmem : ∀ y, y ∈ M.map (·.1) ↔ y ∈ L := by
      intro y
      rw [← hD, hM]
      exact ((List.mergeSort_perm D _).map _).mem_iff
    have HS := Lib.hid (compact_sort _ _ hmono hmem)
    have SF := Lib.hid (fun g c w hH hblk => Tryd.slices_SortFunc_total encS encS_one cmpS cmpS_swo 23 #[] g 0 c D.toArray w (enters_of Tryd.func23 (by kernel_rfl) rfl) (cmp_lays g 0 _ w) hH hblk (by rw [List.size_toArray, hDl]; omega) cmpS_tot)
    rw [List.size_toArray, hDl] at SF
    simp only at SF
    rw [← hM] at SF
    have CP := Lib.hid (fun g c w hH hc => Tryd.slices_Compact_string g 0 c (M.map (·.1)) w hH (by rw [List.length_map, hMl]; omega) hc)
    rw [List.length_map, hMl] at CP
    have HMl := Lib.hid hMl
    clear hx0 hl hsz hr hcells hmono hmem hM hD hDl hzl h0 hl0 hMl hbl
    go_enter Tryd.func25, Tryd.ntmps25
    go_wp2_with fail
    go_fit C.out
    rintro e w1 ⟨v', rfl, hown, hne, hb⟩
    obtain ⟨g, c', rfl, hg, hglt, hcap, hcm, hzn, hH⟩ := holds_of_ownsRow hown hne
    have HO := Lib.hid hown
    have B := Lib.hid hb
    have SF1 := Lib.hid (SF.out g c' w1 hH hglt)
    have HG := Lib.hid (And.intro hg hcap)
    clear hown hne hb hH hg hglt hcap hcm hzn
    go_wp2_with fail
    go_fit SF1.out
    rintro e w2 ⟨rfl, n, os, hw2⟩
    have hown2 : w2.ownsRow w.heap.size 9 1 (.slice (some ⟨g, 0, none⟩) L.length c') L.length ((M.map (·.1)).map encStr) := by
      have h1 := own_grow (ownsRow_putRow (q := n) (k := L.length) (ys := M) HO.out HMl.out (Nat.le_refl _)) os
      rw [List.take_of_length_le (by rw [HMl.out]; exact Nat.le_refl _)] at h1
      rw [hw2, List.map_map]
      exact h1
    have B2 := Lib.hid (show Below w.heap.size w w2 from by
      rw [hw2]
      exact below_growS (below_putRow B.out HG.out.1) (by show w.heap.size ≤ (putRow encS (Sort.ahead w1 n) g 0 M.toArray).heap.size; simpa [putRow, mapBlock, Sort.ahead] using B.out.size) os)
    obtain ⟨g', c2, e2, _, hglt, _, _, _, hH⟩ := holds_of_ownsRow hown2 (by intro e; cases e)
    simp only [Value.slice.injEq, Option.some.injEq, Addr.mk.injEq, and_true, true_and] at e2
    obtain ⟨rfl, rfl⟩ := e2
    have HO2 := Lib.hid hown2
    have CP1 := Lib.hid (CP.out g c' w2 hH HG.out.2)
    clear hown2 hH hglt hw2
    go_wp2_with fail
    go_fit CP1.out
    rintro e w3 ⟨rfl, q, hw3⟩
    have hk : (Lib.compact (M.map (·.1))).length ≤ L.length := by
      have := Lib.compact_length_le (M.map (·.1))
      rwa [List.length_map, HMl.out] at this
    have HO3 := Lib.hid (show w3.ownsRow w.heap.size 9 1 (.slice (some ⟨g, 0, none⟩) (sortR L).length c') (sortR L).length ((sortR L).map strV) from by
      have h1 := ownsRow_putRow (enc := encStr) (q := q) (k := (Lib.compact (M.map (·.1))).length) (ys := Lib.compact (M.map (·.1)) ++ List.replicate (L.length - (Lib.compact (M.map (·.1))).length) []) HO2.out (by rw [List.length_append, List.length_replicate]; omega) hk
      rw [List.take_left, HS.out] at h1
      rw [hw3, HS.out]
      exact h1)
    have B3 := Lib.hid (show Below w.heap.size w w3 from by rw [hw3]; exact below_putRow B2.out HG.out.1)
    clear hw3 hk
    go_wp2_with fail
    go_ret
    have HU : Lib.compact M.unattach = sortR L := HS.out
    exact ⟨_, by rw [HU]; rfl, HO3.out, B3.out⟩
end Go.Proofs.YtoehpoodfbgdiabDoor
