/- Contracts of the document's Split and Parts (ident), and the plain functions that they compute. -/
import Derived.Test.YtoehpoodfbgdiabDoorIdnA
import Derived.Test.YtoehpoodfbgdiabDoorBaseS
namespace Go.Proofs.YtoehpoodfbgdiabDoor
open Go.RowKit Go.Lib

/-- What stands between the slashes, behind what stands before. -/
def splitOn (cur : List UInt8) : List UInt8 → List (List UInt8)
  | [] => [cur]
  | c :: r => if c.toNat = 47 then cur :: splitOn [] r else splitOn (cur ++ [c]) r
def partsR (l : List UInt8) : List (List UInt8) × Nat := if 512 < l.length then ([], 3) else if (splitOn [] l).all nameB = true then (splitOn [] l, 0) else ([], 1)
/-- A list of strings that the call made. -/
def OwnsS (B : Nat) (w : World) (l : List (List UInt8)) (e : Ending) (w' : World) : Prop :=
  ∃ v, e = .returned v ∧ w'.ownsRow B 9 1 v l.length (l.map strV) ∧ Below B w w'
theorem splitOn_len : ∀ (l cur : List UInt8), (splitOn cur l).length ≤ l.length + 1
  | [], cur => by simp [splitOn]
  | c :: r, cur => by
    unfold splitOn
    split
    · have := splitOn_len r []
      simp only [List.length_cons]; omega
    · have := splitOn_len r (cur ++ [c])
      simp only [List.length_cons]; omega
theorem splitOn_mem : ∀ (l cur : List UInt8) (x : List UInt8), x ∈ splitOn cur l → x.length ≤ cur.length + l.length
  | [], cur, x, h => by
    simp [splitOn] at h
    subst h
    simp
  | c :: r, cur, x, h => by
    unfold splitOn at h
    split at h
    · rcases List.mem_cons.1 h with rfl | h
      · simp
      · have := splitOn_mem r [] x h
        simp only [List.length_nil, List.length_cons] at this ⊢; omega
    · have := splitOn_mem r (cur ++ [c]) x h
      simp only [List.length_append, List.length_cons, List.length_nil] at this ⊢; omega

set_option maxHeartbeats 4000000 in
set_option maxRecDepth 100000 in
theorem refSplit_any (s : ByteArray) (hs : s.size ≤ 1099511627776) (w : World) :
    Calls Tryd.prog 37 #[.string s] w (OwnsS w.heap.size w (splitOn [] s.data.toList)) := by
  obtain ⟨i0, hi, hz0, hz1, hz2⟩ := info_parts infoS
  have hsl : s.data.toList.length = s.size := by rw [Array.length_toList]; rfl
  have HSL := Lib.hid hsl
  clear hsl
  go_enter Tryd.func37, Tryd.ntmps37
  go_wp2_with fail
  go_loopw [3, 4, 5] (fun s3 s4 s5 wr => ∃ (i fr : Nat) (out : List (List UInt8)), fr ≤ i ∧ i ≤ s.size + 1 ∧ fr ≤ s.size + 1 ∧ out.length ≤ i ∧ s5 = .int .i64 i ∧ s4 = .int .i64 fr ∧ wr.ownsRow w.heap.size 9 1 s3 out.length (out.map strV) ∧ Below w.heap.size w wr ∧
      (i ≤ s.size → splitOn [] s.data.toList = out ++ splitOn ((s.data.toList.take i).drop fr) (s.data.toList.drop i)) ∧ (s.size < i → splitOn [] s.data.toList = out)) (fun _ _ s5 _ => s.size + 1 - (RowKit.intOf s5).toNat)
  case atStart => exact ⟨0, 0, [], by omega, by omega, by omega, by simp, rfl, rfl, World.ownsRow_nil _ _ _ _, Below.refl _ _, fun _ => by simp, fun h => by omega⟩
  case round =>
    obtain ⟨i, fr, out, hfi, his, hfs, hol, rfl, rfl, hown, hbel, h1, h2⟩ := hrel
    have HOW := Lib.hid hown
    have HB := Lib.hid hbel
    have hz := hbel.size
    have H1 := Lib.hid h1
    have H2 := Lib.hid h2
    clear hown hbel h1 h2
    by_cases hin : i < s.size
    · have hst : ∀ cur, splitOn cur (s.data.toList.drop i) = if s[i].toNat = 47 then cur :: splitOn [] (s.data.toList.drop (i + 1)) else splitOn (cur ++ [s[i]]) (s.data.toList.drop (i + 1)) := by
        intro cur
        rw [List.drop_eq_getElem_cons (by rw [HSL.out]; exact hin)]
        rfl
      have htk : (s.data.toList.take (i + 1)).drop fr = (s.data.toList.take i).drop fr ++ [s[i]] := by
        rw [List.take_succ_eq_append_getElem (by rw [HSL.out]; exact hin), List.drop_append_of_le_length (by rw [List.length_take, HSL.out]; omega)]
        rfl
      have HST := Lib.hid hst
      have HTK := Lib.hid htk
      have hne : ((i : Int) == (s.size : Int)) = false := by rw [beq_eq_false_iff_ne]; omega
      have hle : (i : Int) ≤ (s.size : Int) := by omega
      clear hst htk
      by_cases h47 : s[i].toNat = 47
      · have u1 : (((s[i].toNat : Nat) : Int) == 47) = true := by rw [beq_iff_eq]; omega
        have hex := extract_mk s fr i
        obtain ⟨x, hx⟩ : ∃ x, x = (s.data.toList.take i).drop fr := ⟨_, rfl⟩
        rw [← hx] at hex
        have HOA := Lib.hid (HOW.out.alloc (Obj.cells #[.string ⟨x.toArray⟩] 9))
        have HBA := Lib.hid (HB.out.alloc hz (Obj.cells #[.string ⟨x.toArray⟩] 9))
        have HN := Lib.hid (show splitOn [] s.data.toList = (out ++ [x]) ++ splitOn ((s.data.toList.take (i + 1)).drop (i + 1)) (s.data.toList.drop (i + 1)) by
          rw [H1.out (by omega), HST.out, if_pos h47, ← hx, List.drop_eq_nil_of_le (show (s.data.toList.take (i + 1)).length ≤ i + 1 by rw [List.length_take]; omega)]
          simp)
        clear hx h47
        go_wp2_with (at_builtin; refine wpList_append_own _ rfl _ _ 27 rfl w.heap.size 9 i0 (.string ⟨#[]⟩) 1 16 Tryd.underlying27 hi hz0 hz1 hz2 rfl (by decide) _ _ _ rfl HOA.out ⟨wr.heap.size, 0, none⟩ 1 1 [.string ⟨x.toArray⟩] rfl rfl ?c1 ?c2 ?c3 ?c4 ?c5 ?_)
        case c1 =>
          intro j u hj
          match j, hj with
          | 0, hj => simp at hj; subst hj; simp [Addr.add]
        case c2 => intro u hu; simp at hu; subst hu; rfl
        case c3 => unfold maxLen; omega
        case c4 => omega
        case c5 => simp; omega
        intro v6 w6 ho6 hg6 _
        have HO6 := Lib.hid (show w6.ownsRow w.heap.size 9 1 v6 (out ++ [x]).length ((out ++ [x]).map strV) by
          rw [List.map_append, List.length_append]; exact ho6)
        have HB6 := Lib.hid (HBA.out.grown hg6 (by simp; omega) (fun k hk => (HOA.out.lt k hk).1))
        clear ho6 hg6
        go_wp2_with fail
        exact ⟨⟨i + 1, i + 1, out ++ [x], by omega, by omega, by omega, by rw [List.length_append, List.length_singleton]; omega, by go_num, by go_num, HO6.out, HB6.out, fun _ => HN.out, fun h => by omega⟩, by simp [RowKit.intOf]; omega⟩
      · have u1 : (((s[i].toNat : Nat) : Int) == 47) = false := by rw [beq_eq_false_iff_ne]; omega
        have HN := Lib.hid (show splitOn [] s.data.toList = out ++ splitOn ((s.data.toList.take (i + 1)).drop fr) (s.data.toList.drop (i + 1)) by
          rw [H1.out (by omega), HST.out, if_neg h47, HTK.out])
        clear h47
        go_wp2_with fail
        exact ⟨⟨i + 1, fr, out, by omega, by omega, by omega, by omega, by go_num, rfl, HOW.out, HB.out, fun _ => HN.out, fun h => by omega⟩, by simp [RowKit.intOf]; omega⟩
    · by_cases heq : i = s.size
      · subst heq
        have hex := extract_mk s fr s.size
        obtain ⟨x, hx⟩ : ∃ x, x = (s.data.toList.take s.size).drop fr := ⟨_, rfl⟩
        rw [← hx] at hex
        have HOA := Lib.hid (HOW.out.alloc (Obj.cells #[.string ⟨x.toArray⟩] 9))
        have HBA := Lib.hid (HB.out.alloc hz (Obj.cells #[.string ⟨x.toArray⟩] 9))
        have HN := Lib.hid (show splitOn [] s.data.toList = out ++ [x] by
          rw [H1.out (Nat.le_refl _), ← hx, List.drop_eq_nil_of_le (by rw [HSL.out]; exact Nat.le_refl _)]
          rfl)
        have u0 : ((s.size : Int) == (s.size : Int)) = true := by simp
        clear hx
        go_wp2_with (at_builtin; refine wpList_append_own _ rfl _ _ 27 rfl w.heap.size 9 i0 (.string ⟨#[]⟩) 1 16 Tryd.underlying27 hi hz0 hz1 hz2 rfl (by decide) _ _ _ rfl HOA.out ⟨wr.heap.size, 0, none⟩ 1 1 [.string ⟨x.toArray⟩] rfl rfl ?d1 ?d2 ?d3 ?d4 ?d5 ?_)
        case d1 =>
          intro j u hj
          match j, hj with
          | 0, hj => simp at hj; subst hj; simp [Addr.add]
        case d2 => intro u hu; simp at hu; subst hu; rfl
        case d3 => unfold maxLen; omega
        case d4 => omega
        case d5 => simp; omega
        intro v6 w6 ho6 hg6 _
        have HO6 := Lib.hid (show w6.ownsRow w.heap.size 9 1 v6 (out ++ [x]).length ((out ++ [x]).map strV) by
          rw [List.map_append, List.length_append]; exact ho6)
        have HB6 := Lib.hid (HBA.out.grown hg6 (by simp; omega) (fun k hk => (HOA.out.lt k hk).1))
        clear ho6 hg6
        go_wp2_with fail
        exact ⟨⟨s.size + 1, s.size + 1, out ++ [x], by omega, by omega, by omega, by rw [List.length_append, List.length_singleton]; omega, by go_num, by go_num, HO6.out, HB6.out, fun h => by omega, fun _ => HN.out⟩, by simp [RowKit.intOf] <;> omega⟩
      · have hE := H2.out (by omega)
        have HE := Lib.hid hE
        have hgt : ¬ (i : Int) ≤ (s.size : Int) := by omega
        clear hE
        go_wp2_with fail
        go_ret
        exact ⟨_, rfl, by rw [HE.out]; exact HOW.out, HB.out⟩

/-- What Parts and the document's Parts leave. -/
def PartsPost (w : World) (p : List (List UInt8) × Nat) (e : Ending) (w' : World) : Prop :=
  ∃ a c, e = .returned (.tuple #[.slice a p.1.length c, .int .i64 (p.2 : Nat)]) ∧ Below w.heap.size w w' ∧ ReadsStr w' a p.1 ∧ p.1.length ≤ c ∧ c ≤ 9223372036854775807
theorem all_drop (l : List (List UInt8)) (j : Nat) (h : j < l.length) : (l.drop j).all nameB = (nameB l[j] && (l.drop (j + 1)).all nameB) := by
  rw [List.drop_eq_getElem_cons h]; rfl
theorem mk_size (x : List UInt8) : (⟨x.toArray⟩ : ByteArray).size = x.length := by
  show x.toArray.size = _
  simp

set_option maxHeartbeats 4000000 in
set_option maxRecDepth 100000 in
theorem refParts_any (s : ByteArray) (hs : s.size ≤ 1099511627776) (w : World) :
    Calls Tryd.prog 17 #[.string s] w (PartsPost w (partsR s.data.toList)) := by
  have hsl : s.data.toList.length = s.size := by rw [Array.length_toList]; rfl
  obtain ⟨q, hq⟩ : ∃ q, q = partsR s.data.toList := ⟨_, rfl⟩
  rw [← hq]
  unfold partsR at hq
  rw [hsl] at hq
  by_cases h5 : 512 < s.size
  · have HF := Lib.hid (show q = ([], 3) by rw [hq, if_pos h5])
    clear hq hsl
    go_enter Tryd.func17, Tryd.ntmps17
    go_wp2_with fail
    go_ret2
    rw [HF.out]
    exact ⟨none, 0, rfl, Below.refl _ _, fun k hk => by simp at hk, by simp, by omega⟩
  · rw [if_neg h5] at hq
    have hn5 : ¬ (512 : Int) < (s.size : Int) := by omega
    have hml := splitOn_len s.data.toList []
    have hmm := splitOn_mem s.data.toList []
    rw [hsl] at hml hmm
    have SP := Lib.hid (refSplit_any s hs w)
    obtain ⟨L, hL⟩ : ∃ L, L = splitOn [] s.data.toList := ⟨_, rfl⟩
    rw [← hL] at hq hml hmm SP
    have HQ := Lib.hid hq
    have HM := Lib.hid hmm
    clear hq hsl hL hmm h5
    go_enter Tryd.func17, Tryd.ntmps17
    go_wp2_with fail
    go_fit (SP.out)
    rintro e w1 ⟨v1, rfl, ho1, hb1⟩
    obtain ⟨a1, c1, rfl, hlc, hcm, hr1⟩ := own_readsS ho1 rfl
    have HR := Lib.hid hr1
    have HB := Lib.hid hb1
    have hcm2 : c1 ≤ 9223372036854775807 := by unfold maxLen at hcm; exact hcm
    clear ho1 hb1 hr1 hcm
    go_wp2_with fail
    go_loop [5] (fun s5 => ∃ j : Nat, j ≤ L.length ∧ s5 = .int .i64 j ∧ L.all nameB = (L.drop j).all nameB) (fun s5 => L.length - (RowKit.intOf s5).toNat)
    case atStart => exact ⟨0, by omega, rfl, by rw [List.drop_zero]⟩
    case round =>
      obtain ⟨j, hj, rfl, hall⟩ := hrel
      have HA := Lib.hid hall
      clear hall
      by_cases hlt : j < L.length
      · obtain ⟨b, off, rfl, hb, hc⟩ := HR.out j hlt
        have hd := all_drop L j hlt
        have hxl := HM.out L[j] (List.getElem_mem hlt)
        obtain ⟨x, hx⟩ : ∃ x, x = L[j] := ⟨_, rfl⟩
        rw [← hx] at hc hd hxl
        have N := Lib.hid (fun w => refName_any ⟨x.toArray⟩ (by rw [mk_size]; simp at hxl; omega) w)
        rw [show (⟨x.toArray⟩ : ByteArray).data.toList = x from rfl] at N
        have HD := Lib.hid hd
        clear hd hx hxl
        by_cases hn : nameB x = true
        · have HE := Lib.hid (show L.all nameB = (L.drop (j + 1)).all nameB by rw [HA.out, HD.out, hn]; rfl)
          rw [hn] at N
          clear hn
          go_wp2_with fail
          go_fit (N.out _)
          rintro e w2 ⟨rfl, rfl⟩
          go_wp2_with fail
          go_round
          case rel => exact ⟨j + 1, by omega, by go_num, HE.out⟩
          case measure => simp [RowKit.intOf]; omega
        · have hn2 : nameB x = false := by simpa using hn
          have HE := Lib.hid (show q = ([], 1) by rw [HQ.out, HA.out, HD.out, hn2]; rfl)
          rw [hn2] at N
          clear hn hn2
          go_wp2_with fail
          go_fit (N.out _)
          rintro e w2 ⟨rfl, rfl⟩
          go_wp2_with fail
          go_ret2
          rw [HE.out]
          exact ⟨none, 0, rfl, HB.out, fun k hk => by simp at hk, by simp, by omega⟩
      · have HE := Lib.hid (show q = (L, 0) by rw [HQ.out, HA.out, List.drop_eq_nil_of_le (by omega)]; rfl)
        go_wp2_with fail
        go_ret2
        rw [HE.out]
        exact ⟨a1, c1, rfl, HB.out, HR.out, hlc, hcm2⟩
end Go.Proofs.YtoehpoodfbgdiabDoor
