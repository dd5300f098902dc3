/- The contract of the document's Witness (label). -/
import Derived.Test.YtglckcenjnieaaaGreatDoorLdL
import Derived.Test.YtglckcenjnieaaaGreatDoorLdJ
import Derived.Laws.AppendOwnNone
namespace Go.Proofs.YtglckcenjnieaaaGreatDoor
open Go.RowKit Go.Lib
set_option linter.unusedSimpArgs false

def namesU (N : List (List UInt8)) (i : Nat) : List (List UInt8) := ((N.take i).map fun y => (readD y).2.1).filter fun x => decide (x ≠ [])
theorem namesU_next {N : List (List UInt8)} {i : Nat} (h : i < N.length) : namesU N (i + 1) = namesU N i ++ (if (readD N[i]).2.1 = [] then [] else [(readD N[i]).2.1]) := by
  unfold namesU
  rw [List.take_succ_eq_append_getElem h, List.map_append, List.filter_append]
  congr 1
  by_cases e : (readD N[i]).2.1 = [] <;> simp [e]
theorem namesU_all (A B : List (List UInt8)) : namesU (A ++ B) (A.length + B.length) = namesD A B := by
  unfold namesU namesD
  rw [List.take_of_length_le (by rw [List.length_append]; exact Nat.le_refl _)]
theorem pre_len (l : List UInt8) : (preP l).length ≤ l.length := (List.takeWhile_prefix _).length_le
theorem read_len (l : List UInt8) : (readD l).2.1.length ≤ l.length := by
  have part : ∀ f b, (partD f (preP l) b).2.1.length ≤ l.length := fun f b => by
    rcases partD_form f (preP l) b with h | ⟨k, h, _⟩
    · rw [h]; simp
    · rw [h]; exact pre_len l
  unfold readD
  split
  · split
    · simp
    · simp
  split
  · exact pre_len l
  unfold readS
  split
  · exact part _ _
  split
  · exact part _ _
  split
  · exact part _ _
  · simp
theorem sortR_len (L : List (List UInt8)) : (sortR L).length ≤ L.length := by
  unfold sortR
  have key : ∀ (L : List (List UInt8)) (out : List (List UInt8)), (L.foldl (fun out x => insS x out (posI x out out.length)) out).length ≤ out.length + L.length := by
    intro L
    induction L with
    | nil => intro out; simp
    | cons x r ih =>
      intro out
      rw [List.foldl_cons, List.length_cons]
      have := ih (insS x out (posI x out out.length))
      have := insS_len x out (posI x out out.length)
      omega
  have := key L []
  simpa using this
theorem names_len {A B : List (List UInt8)} (hA : ∀ x ∈ A, x.length ≤ 1000000) (hB : ∀ x ∈ B, x.length ≤ 1000000) {x : List UInt8} (h : x ∈ namesD A B) : x.length ≤ 1000000 := by
  unfold namesD at h
  obtain ⟨h1, _⟩ := List.mem_filter.1 h
  obtain ⟨y, hy, rfl⟩ := List.mem_map.1 h1
  refine Nat.le_trans (read_len y) ?_
  rcases List.mem_append.1 hy with h | h
  · exact hA y h
  · exact hB y h
theorem namesD_len (A B : List (List UInt8)) : (namesD A B).length ≤ A.length + B.length := by
  unfold namesD
  refine Nat.le_trans (List.length_filter_le _ _) ?_
  rw [List.length_map, List.length_append]
  exact Nat.le_refl _
theorem wit_next {A B N : List (List UInt8)} {i : Nat} (h : i < N.length) : (N.take (i + 1)).filterMap (pickD A B) = (N.take i).filterMap (pickD A B) ++ (if chosenD N[i] (permD A N[i]) (permD B N[i]) = [] then [] else [chosenD N[i] (permD A N[i]) (permD B N[i])]) := by
  rw [List.take_succ_eq_append_getElem h, List.filterMap_append]
  congr 1
  unfold pickD
  by_cases e : chosenD N[i] (permD A N[i]) (permD B N[i]) = [] <;> simp [e]
theorem step_lo (a y : List UInt8) (c : DCase) (h : c.lo ≤ 9007199254740992) : (stepD a c y).lo ≤ 9007199254740992 := by
  unfold stepD
  split
  · rcases read_form y with e | ⟨e, h0, h1, hN⟩
    · rename_i hh; rw [e] at hh; exact absurd rfl hh.1
    · generalize readD y = d at e h0 h1 hN ⊢
      obtain ⟨f, b, n⟩ := d
      dsimp only at e h0 h1
      unfold meetD
      dsimp only
      rcases e with rfl | rfl | rfl | rfl | rfl <;> simp <;> omega
  · exact h
theorem perm_lo (L : List (List UInt8)) (a : List UInt8) : (permD L a).lo ≤ 9007199254740992 := by
  have key : ∀ (L : List (List UInt8)) (c : DCase), c.lo ≤ 9007199254740992 → (L.foldl (stepD a) c).lo ≤ 9007199254740992 := by
    intro L
    induction L with
    | nil => intro c h; exact h
    | cons y r ih => intro c h; exact ih _ (step_lo a y c h)
  exact key L _ (by decide)
/-- What the last loop's drawn line stands on. -/
theorem WitS.t {w1 w2 w3 : World} {b o : Nat} {s : ByteArray} (z : b < w1.heap.size) (h : w2.cell? ⟨b, o, none⟩ = some (.string s) ∧ Below w1.heap.size w1 w2) (hb : Below w2.heap.size w2 w3) : w3.cell? ⟨b, o, none⟩ = some (.string s) ∧ Below w1.heap.size w1 w3 :=
  ⟨(hb.cell (p := ⟨b, o, none⟩) (Nat.lt_of_lt_of_le z h.2.size)).trans h.1, h.2.trans (hb.mono h.2.size)⟩
theorem WitS.b {w1 w2 : World} {b o : Nat} {s : ByteArray} (h : w2.cell? ⟨b, o, none⟩ = some (.string s) ∧ Below w1.heap.size w1 w2) : Below w1.heap.size w1 w2 := h.2
theorem WitS.w {w w1 w2 : World} {b o : Nat} {s : ByteArray} (h0 : Below w.heap.size w w1) (h : w2.cell? ⟨b, o, none⟩ = some (.string s) ∧ Below w1.heap.size w1 w2) : Below w.heap.size w w2 := h0.trans (h.2.mono h0.size)
set_option maxHeartbeats 8000000 in
set_option maxRecDepth 100000 in
theorem wit_any (v v' : Option Addr) (cap cap' : Nat) (L M : List (List UInt8)) (hlen : L.length ≤ 1000000) (hx : ∀ x ∈ L, x.length ≤ 1000000) (hlen' : M.length ≤ 1000000) (hx' : ∀ x ∈ M, x.length ≤ 1000000) (w : World) (hr : ReadsStr w v L) (hr' : ReadsStr w v' M) :
    Calls Tryz.prog 20 #[.slice v L.length cap, .slice v' M.length cap'] w (OwnsS w.heap.size w (witD L M)) := by
  obtain ⟨i0, hi0, hz0, hz1, hz2⟩ := info_parts infoS
  have PA := Lib.hid (fun sa w' (hb : Below w.heap.size w w') => perm_any v cap L sa hlen hx w' (hr.below hb))
  have PB := Lib.hid (fun sa w' (hb : Below w.heap.size w w') => perm_any v' cap' M sa hlen' hx' w' (hr'.below hb))
  have NL := Lib.hid (fun (x : List UInt8) (h : x ∈ namesD L M) => names_len hx hx' h)
  have HR := Lib.hid hr
  have HX := Lib.hid hx
  have HR2 := Lib.hid hr'
  have HX2 := Lib.hid hx'
  have pf1 := pfield1
  clear hr hr' hx hx'
  go_enter Tryz.func20, Tryz.ntmps20
  go_wp2_with fail
  go_loopw [5, 7] (fun s5 s7 wr => ∃ (i : Nat) (out : List (List UInt8)), i ≤ L.length + M.length ∧ out.length ≤ i ∧ s7 = .int .i64 (i : Int) ∧ Hid (wr.ownsRow w.heap.size 9 1 s5 out.length (out.map strV)) ∧ Hid (Below w.heap.size w wr) ∧ Hid (out = namesU (L ++ M) i)) (fun _ s7 _ => L.length + M.length - (RowKit.intOf s7).toNat)
  case atStart => exact ⟨0, [], by omega, by simp, rfl, Lib.hid (World.ownsRow_nil _ _ _ _), Lib.hid (Below.refl _ _), Lib.hid rfl⟩
  case round =>
    obtain ⟨i, out, hi, hol, rfl, HOW, HB, HO⟩ := hrel
    by_cases hlt : i < L.length + M.length
    · have g1 : (i : Int) < (L.length : Int) + (M.length : Int) := by omega
      by_cases hiA : i < L.length
      · have g2 : (i : Int) < (L.length : Int) := by omega
        have g3 : (0 : Int) ≤ (i : Int) := by omega
        obtain ⟨b, off, hv, hbl, hc⟩ := (HR.out.below HB.out) i hiA
        subst hv
        have hxl := HX.out _ (List.getElem_mem hiA)
        obtain ⟨x, hxe⟩ : ∃ x, x = L[i] := ⟨_, rfl⟩
        have HNX := Lib.hid (show namesU (L ++ M) (i + 1) = namesU (L ++ M) i ++ (if (readD x).2.1 = [] then [] else [(readD x).2.1]) by
          have hlt : i < (L ++ M).length := by rw [List.length_append]; omega
          rw [namesU_next hlt]
          have : (L ++ M)[i] = x := by rw [hxe]; rw [List.getElem_append_left hiA]
          rw [this])
        rw [← hxe] at hc hxl
        obtain ⟨sx, hsx⟩ : ∃ s : ByteArray, s = ⟨x.toArray⟩ := ⟨_, rfl⟩
        rw [← hsx] at hc
        obtain ⟨⟨f, a, n⟩, hd⟩ : ∃ d, d = readD x := ⟨_, rfl⟩
        obtain ⟨sb, hsb⟩ : ∃ s : ByteArray, s = ⟨a.toArray⟩ := ⟨_, rfl⟩
        have R := fun w => read_any sx (by rw [hsx]; show x.toArray.size ≤ _; simp; omega) w
        rw [show sx.data.toList = x by rw [hsx], ← hd] at R
        dsimp only [ofD] at R
        rw [← hsb] at R
        have R := Lib.hid R
        rw [← hd] at HNX
        dsimp only at HNX
        have HSB := Lib.hid hsb
        have hsl : sb.toList = a := by rw [Lib.toList_data, hsb]
        clear hxe hsx hd hsb hxl
        go_wp2_with fail
        go_fit (R.out _)
        rintro e w2 ⟨rfl, hb⟩
        have B2 := Lib.hid (HB.out.trans (hb.mono HB.out.size))
        have O2 := Lib.hid (ownS_below HOW.out hb)
        have z2 := B2.out.size
        clear hb hc
        by_cases ha : a = []
        · have HN := Lib.hid (show out = namesU (L ++ M) (i + 1) by rw [HNX.out, if_pos ha, List.append_nil, HO.out])
          have u1 : (sb.toList != []) = false := by rw [hsl, ha]; rfl
          have u2 : sb.toList.isEmpty = true := by rw [hsl, ha]; rfl
          have u3 : sb.toList = [] := by rw [hsl, ha]
          clear hsl ha
          go_wp2_with fail
          exact ⟨⟨i + 1, out, by omega, by omega, by go_num, O2, B2, HN⟩, by simp [RowKit.intOf]; omega⟩
        · have HN := Lib.hid (show out ++ [a] = namesU (L ++ M) (i + 1) by rw [HNX.out, if_neg ha, HO.out])
          have u1 : (sb.toList != []) = true := by rw [hsl]; simpa using ha
          have u2 : sb.toList.isEmpty = false := by rw [hsl]; simpa using ha
          have u3 : ¬ sb.toList = [] := by rw [hsl]; exact ha
          have HOA := Lib.hid (O2.out.alloc (Obj.cells #[.string sb] 9))
          have HBA := Lib.hid (B2.out.alloc z2 (Obj.cells #[.string sb] 9))
          clear hsl ha
          go_wp2_with (at_builtin; refine wpList_append_own _ rfl _ _ 22 rfl w.heap.size 9 i0 (.string ⟨#[]⟩) 1 16 Tryz.underlying22 hi0 hz0 hz1 hz2 rfl (by decide) _ _ _ rfl HOA.out ⟨w2.heap.size, 0, none⟩ 1 1 [.string sb] rfl rfl ?c1 ?c2 ?c3 ?c4 ?c5 ?_)
          case c1 =>
            intro j u hj
            match j, hj with
            | 0, hj => simp at hj; subst hj; simp [Addr.add]
          case c2 => intro u hu; simp at hu; subst hu; rfl
          case c3 => unfold maxLen; omega
          case c4 => omega
          case c5 => simp; omega
          intro v6 w6 ho6 hg6 _
          have HO6 := Lib.hid (show w6.ownsRow w.heap.size 9 1 v6 (out ++ [a]).length ((out ++ [a]).map strV) by
            rw [List.map_append, List.length_append]
            rw [HSB.out] at ho6
            exact ho6)
          have HB6 := Lib.hid (HBA.out.grown hg6 (by simp; omega) (fun k hk => (HOA.out.lt k hk).1))
          clear ho6 hg6
          go_wp2_with fail
          exact ⟨⟨i + 1, out ++ [a], by omega, by rw [List.length_append, List.length_singleton]; omega, by go_num, HO6, HB6, HN⟩, by simp [RowKit.intOf]; omega⟩
      · obtain ⟨k, rfl⟩ : ∃ k, i = L.length + k := ⟨i - L.length, by omega⟩
        have hkB : k < M.length := by omega
        have g2 : ¬ ((L.length + k : Nat) : Int) < (L.length : Int) := by omega
        have g3 : (0 : Int) ≤ (k : Int) ∧ (k : Int) < (M.length : Int) := by omega
        have g4 : ((L.length + k : Nat) : Int) - (L.length : Int) = (k : Int) := by omega
        obtain ⟨b, off, hv, hbl, hc⟩ := (HR2.out.below HB.out) k hkB
        subst hv
        have hxl := HX2.out _ (List.getElem_mem hkB)
        obtain ⟨x, hxe⟩ : ∃ x, x = M[k] := ⟨_, rfl⟩
        have HNX := Lib.hid (show namesU (L ++ M) ((L.length + k) + 1) = namesU (L ++ M) (L.length + k) ++ (if (readD x).2.1 = [] then [] else [(readD x).2.1]) by
          have hlt : (L.length + k) < (L ++ M).length := by rw [List.length_append]; omega
          rw [namesU_next hlt]
          have : (L ++ M)[(L.length + k)] = x := by rw [hxe]; rw [List.getElem_append_right (by omega)]; simp
          rw [this])
        rw [← hxe] at hc hxl
        obtain ⟨sx, hsx⟩ : ∃ s : ByteArray, s = ⟨x.toArray⟩ := ⟨_, rfl⟩
        rw [← hsx] at hc
        obtain ⟨⟨f, a, n⟩, hd⟩ : ∃ d, d = readD x := ⟨_, rfl⟩
        obtain ⟨sb, hsb⟩ : ∃ s : ByteArray, s = ⟨a.toArray⟩ := ⟨_, rfl⟩
        have R := fun w => read_any sx (by rw [hsx]; show x.toArray.size ≤ _; simp; omega) w
        rw [show sx.data.toList = x by rw [hsx], ← hd] at R
        dsimp only [ofD] at R
        rw [← hsb] at R
        have R := Lib.hid R
        rw [← hd] at HNX
        dsimp only at HNX
        have HSB := Lib.hid hsb
        have hsl : sb.toList = a := by rw [Lib.toList_data, hsb]
        clear hxe hsx hd hsb hxl
        go_wp2_with fail
        go_fit (R.out _)
        rintro e w2 ⟨rfl, hb⟩
        have B2 := Lib.hid (HB.out.trans (hb.mono HB.out.size))
        have O2 := Lib.hid (ownS_below HOW.out hb)
        have z2 := B2.out.size
        clear hb hc
        by_cases ha : a = []
        · have HN := Lib.hid (show out = namesU (L ++ M) ((L.length + k) + 1) by rw [HNX.out, if_pos ha, List.append_nil, HO.out])
          have u1 : (sb.toList != []) = false := by rw [hsl, ha]; rfl
          have u2 : sb.toList.isEmpty = true := by rw [hsl, ha]; rfl
          have u3 : sb.toList = [] := by rw [hsl, ha]
          clear hsl ha
          go_wp2_with fail
          exact ⟨⟨(L.length + k) + 1, out, by omega, by omega, by go_num, O2, B2, HN⟩, by simp [RowKit.intOf]; omega⟩
        · have HN := Lib.hid (show out ++ [a] = namesU (L ++ M) ((L.length + k) + 1) by rw [HNX.out, if_neg ha, HO.out])
          have u1 : (sb.toList != []) = true := by rw [hsl]; simpa using ha
          have u2 : sb.toList.isEmpty = false := by rw [hsl]; simpa using ha
          have u3 : ¬ sb.toList = [] := by rw [hsl]; exact ha
          have HOA := Lib.hid (O2.out.alloc (Obj.cells #[.string sb] 9))
          have HBA := Lib.hid (B2.out.alloc z2 (Obj.cells #[.string sb] 9))
          clear hsl ha
          go_wp2_with (at_builtin; refine wpList_append_own _ rfl _ _ 22 rfl w.heap.size 9 i0 (.string ⟨#[]⟩) 1 16 Tryz.underlying22 hi0 hz0 hz1 hz2 rfl (by decide) _ _ _ rfl HOA.out ⟨w2.heap.size, 0, none⟩ 1 1 [.string sb] rfl rfl ?c1 ?c2 ?c3 ?c4 ?c5 ?_)
          case c1 =>
            intro j u hj
            match j, hj with
            | 0, hj => simp at hj; subst hj; simp [Addr.add]
          case c2 => intro u hu; simp at hu; subst hu; rfl
          case c3 => unfold maxLen; omega
          case c4 => omega
          case c5 => simp; omega
          intro v6 w6 ho6 hg6 _
          have HO6 := Lib.hid (show w6.ownsRow w.heap.size 9 1 v6 (out ++ [a]).length ((out ++ [a]).map strV) by
            rw [List.map_append, List.length_append]
            rw [HSB.out] at ho6
            exact ho6)
          have HB6 := Lib.hid (HBA.out.grown hg6 (by simp; omega) (fun k hk => (HOA.out.lt k hk).1))
          clear ho6 hg6
          go_wp2_with fail
          exact ⟨⟨(L.length + k) + 1, out ++ [a], by omega, by rw [List.length_append, List.length_singleton]; omega, by go_num, HO6, HB6, HN⟩, by simp [RowKit.intOf]; omega⟩
    · obtain rfl : i = L.length + M.length := by omega
      have HO1 := Lib.hid (show out = namesD L M by rw [HO.out, namesU_all])
      obtain ⟨a1, c1, hv1, hlc, hcm, hrd⟩ := own_readsS HOW.out rfl
      subst hv1
      have hg : ¬ ((L.length + M.length : Nat) : Int) < (L.length : Int) + (M.length : Int) := by omega
      have SO := Lib.hid (refSorted_any a1 c1 out (by omega) (fun x hx => by have := NL.out x (by rw [← HO1.out]; exact hx); omega) wr hrd)
      clear hrd HOW HO hlc hcm
      go_wp2_with fail
      go_fit SO.out
      rintro e w3 ⟨u, rfl, ho3, hb3⟩
      have B3 := Lib.hid (HB.out.trans (hb3.mono HB.out.size))
      obtain ⟨N, hN⟩ : ∃ N, N = sortR (namesD L M) := ⟨_, rfl⟩
      rw [HO1.out, ← hN] at ho3
      have NN := Lib.hid (show ∀ x ∈ N, x.length ≤ 1000000 from fun x hx => NL.out x (by rw [hN, sortR_mem] at hx; exact hx))
      have hNl : N.length ≤ L.length + M.length := by
        rw [hN]
        exact Nat.le_trans (sortR_len _) (namesD_len _ _)
      have HW := Lib.hid (show witD L M = N.filterMap (pickD L M) by rw [hN]; rfl)
      obtain ⟨a3, c3, hv3, hlc3, hcm3, hrd3⟩ := own_readsS ho3 rfl
      subst hv3
      have RN := Lib.hid hrd3
      clear hrd3 hb3 ho3 hN SO HO1 HB hlc3 hcm3
      go_wp2_with fail
      go_loopw [6, 9] (fun s6 s9 wr => ∃ (j : Nat) (o2 : List (List UInt8)), j ≤ N.length ∧ o2.length ≤ j ∧ s9 = .int .i64 (j : Int) ∧ Hid (wr.ownsRow w3.heap.size 9 1 s6 o2.length (o2.map strV)) ∧ Hid (Below w3.heap.size w3 wr) ∧ Hid (o2 = (N.take j).filterMap (pickD L M))) (fun _ s9 _ => N.length - (RowKit.intOf s9).toNat)
      case atStart => exact ⟨0, [], by omega, by simp, rfl, Lib.hid (World.ownsRow_nil _ _ _ _), Lib.hid (Below.refl _ _), Lib.hid rfl⟩
      case round =>
        obtain ⟨j, o2, hj, ho2, rfl, HOW, HB, HO⟩ := hrel
        have z3 := B3.out.size
        have z4 := HB.out.size
        by_cases hlt2 : j < N.length
        · obtain ⟨b, off, hv, hbl, hc⟩ := RN.out j hlt2
          subst hv
          have hxl := NN.out _ (List.getElem_mem hlt2)
          have HNX := Lib.hid (wit_next (A := L) (B := M) hlt2)
          obtain ⟨x, hxe⟩ : ∃ x, x = N[j] := ⟨_, rfl⟩
          rw [← hxe] at hc hxl HNX
          obtain ⟨sx, hsx⟩ : ∃ s : ByteArray, s = ⟨x.toArray⟩ := ⟨_, rfl⟩
          rw [← hsx] at hc
          have hsz : sx.size ≤ 1000000 := by rw [hsx]; show x.toArray.size ≤ _; simpa using hxl
          have hsd : sx.data.toList = x := by rw [hsx]
          have ok1 := perm_ok L x
          have ok2 := perm_ok M x
          obtain ⟨⟨ab, pl, lo, hi⟩, hc1⟩ : ∃ c, c = permD L x := ⟨_, rfl⟩
          obtain ⟨⟨ab', pl', lo', hi'⟩, hc2⟩ : ∃ c, c = permD M x := ⟨_, rfl⟩
          have hlo := perm_lo L x
          rw [← hc1] at ok1 hlo
          have PA1 := fun w' hb => PA.out sx w' hb
          have PB1 := fun w' hb => PB.out sx w' hb
          rw [hsd, ← hc1] at PA1
          rw [hsd, ← hc2] at PB1
          dsimp only [ofC] at PA1 PB1
          have PA1 := Lib.hid PA1
          have PB1 := Lib.hid PB1
          have CH := fun w' => chosen_any sx hsz ab pl ab' pl' lo hi lo' hi' ok1.1 hlo ok1.2 w'
          rw [hsd] at CH
          rw [← hc1, ← hc2] at HNX
          obtain ⟨Y, hY⟩ : ∃ Y, Y = chosenD x ⟨ab, pl, lo, hi⟩ ⟨ab', pl', lo', hi'⟩ := ⟨_, rfl⟩
          rw [← hY] at CH HNX
          obtain ⟨sy, hsy⟩ : ∃ s : ByteArray, s = ⟨Y.toArray⟩ := ⟨_, rfl⟩
          rw [← hsy] at CH
          have CH := Lib.hid CH
          have HSY := Lib.hid hsy
          have hsl : sy.toList = Y := by rw [Lib.toList_data, hsy]
          have i0' : (0 : Int) ≤ (j : Int) := by omega
          have i1' : (j : Int) < (N.length : Int) := by omega
          have hb3 : b < w3.heap.size := hbl
          have BW := Lib.hid (B3.out.trans (HB.out.mono z3))
          obtain ⟨wq, hwq⟩ : ∃ wq, wq = wr := ⟨_, rfl⟩
          have hs1 := WitS.t (b := b) (o := off + j) (s := sx) (by omega) ⟨(HB.out.cell (p := ⟨b, off + j, none⟩) hbl).trans hc, Below.refl wr.heap.size wr⟩ (Below.refl wr.heap.size wr).drew
          have hbr : b < wr.heap.size := by omega
          clear hxe hsx hsd hxl hc hc1 hc2 ok1 ok2 hY hsy hlo hsz
          go_upto_region 15 with fail
          rw [← hwq] at HOW HB hs1 BW hbr z4 ⊢
          clear hwq
          by_cases hY0 : Y = []
          · have HN := Lib.hid (show o2 = (N.take (j + 1)).filterMap (pickD L M) by rw [HNX.out, if_pos hY0, List.append_nil, HO.out])
            have u1 : (sy.toList != []) = false := by rw [hsl, hY0]; rfl
            have u2 : sy.toList.isEmpty = true := by rw [hsl, hY0]; rfl
            have u3 : sy.toList = [] := by rw [hsl, hY0]
            clear hsl hY0
            go_region_held3 (fun w' => w'.cell? ⟨b, off + j, none⟩ = some (.string sx) ∧ Below wq.heap.size wq w') (first | exact hs1 | assumption | exact WitS.t hbr (by assumption) (by assumption)) (first | (go_at_call 40; (first | go_fit (PA1.out _ (WitS.w (b := b) (o := off + j) (s := sx) BW.out (by assumption))) | go_fit (PB1.out _ (WitS.w (b := b) (o := off + j) (s := sx) BW.out (by assumption)))); rintro e w5 ⟨rfl, hb5⟩) | (go_at_call 42; go_fit (CH.out _); rintro e w6 ⟨rfl, hb6⟩))
            all_goals
              go_wp2_with fail
              exact ⟨⟨j + 1, o2, by omega, by omega, by go_num, Lib.hid (ownS_below HOW.out (WitS.b (w1 := wq) (b := b) (o := off + j) (s := sx) (by assumption))), Lib.hid (WitS.w (b := b) (o := off + j) (s := sx) HB.out (by assumption)), HN⟩, by simp [RowKit.intOf]; omega⟩
          · have HN := Lib.hid (show o2 ++ [Y] = (N.take (j + 1)).filterMap (pickD L M) by rw [HNX.out, if_neg hY0, HO.out])
            have u1 : (sy.toList != []) = true := by rw [hsl]; simpa using hY0
            have u2 : sy.toList.isEmpty = false := by rw [hsl]; simpa using hY0
            have u3 : ¬ sy.toList = [] := by rw [hsl]; exact hY0
            clear hsl hY0
            go_region_held3 (fun w' => w'.cell? ⟨b, off + j, none⟩ = some (.string sx) ∧ Below wq.heap.size wq w') (first | exact hs1 | assumption | exact WitS.t hbr (by assumption) (by assumption)) (first | (go_at_call 40; (first | go_fit (PA1.out _ (WitS.w (b := b) (o := off + j) (s := sx) BW.out (by assumption))) | go_fit (PB1.out _ (WitS.w (b := b) (o := off + j) (s := sx) BW.out (by assumption)))); rintro e w5 ⟨rfl, hb5⟩) | (go_at_call 42; go_fit (CH.out _); rintro e w6 ⟨rfl, hb6⟩))
            all_goals
              have BW6 := WitS.b (w1 := wq) (w2 := w6) (b := b) (o := off + j) (s := sx) (by assumption)
              have HB6 := Lib.hid (HB.out.trans (BW6.mono z4))
              have O6 := Lib.hid (ownS_below HOW.out BW6)
              have z6 := HB6.out.size
              have HOA := Lib.hid (O6.out.alloc (Obj.cells #[.string sy] 9))
              have HBA := Lib.hid (HB6.out.alloc z6 (Obj.cells #[.string sy] 9))
              clear BW6
              go_wp2_with (at_builtin; refine wpList_append_own _ rfl _ _ 22 rfl w3.heap.size 9 i0 (.string ⟨#[]⟩) 1 16 Tryz.underlying22 hi0 hz0 hz1 hz2 rfl (by decide) _ _ _ rfl HOA.out ⟨w6.heap.size, 0, none⟩ 1 1 [.string sy] rfl rfl ?d1 ?d2 ?d3 ?d4 ?d5 ?_)
              case d1 =>
                intro j u hj
                match j, hj with
                | 0, hj => simp at hj; subst hj; simp [Addr.add]
              case d2 => intro u hu; simp at hu; subst hu; rfl
              case d3 => unfold maxLen; omega
              case d4 => omega
              case d5 => simp; omega
              intro v7 w7 ho7 hg7 _
              have HO7 := Lib.hid (show w7.ownsRow w3.heap.size 9 1 v7 (o2 ++ [Y]).length ((o2 ++ [Y]).map strV) by
                rw [List.map_append, List.length_append]
                rw [HSY.out] at ho7
                exact ho7)
              have HB7 := Lib.hid (HBA.out.grown hg7 (by simp; omega) (fun k hk => (HOA.out.lt k hk).1))
              clear ho7 hg7
              go_wp2_with fail
              exact ⟨⟨j + 1, o2 ++ [Y], by omega, by rw [List.length_append, List.length_singleton]; omega, by go_num, HO7, HB7, HN⟩, by simp [RowKit.intOf]; omega⟩
        · obtain rfl : j = N.length := by omega
          have HN := Lib.hid (show o2 = witD L M by rw [HO.out, List.take_length, HW.out])
          go_wp2_with fail
          go_ret
          exact ⟨_, rfl, by rw [← HN.out]; exact own_mono HOW.out z3, B3.out.trans (HB.out.mono z3)⟩
end Go.Proofs.YtglckcenjnieaaaGreatDoor
