/- Contracts of the document's Path and Same (ident), and the plain functions that they compute. -/
import Derived.Test.YtoehpoodfbgdiabDoorIdnB
import Derived.BigQuiet
import Derived.Deep.QuietTactic
import Derived.Deep.DeepCutAuto
import Derived.Deep.CutBlock
namespace Go.Proofs.YtoehpoodfbgdiabDoor
open Go.RowKit Go.Lib

def slashP (l : List (List UInt8)) : List UInt8 := l.flatMap fun x => 47 :: x
/-- The parts, joined by slashes. -/
def joinP (l : List (List UInt8)) : List UInt8 := (slashP l).drop 1
def pathR (l : List (List UInt8)) : List UInt8 × Nat := if l.length = 0 then ([], 1) else if l.all nameB = true then (if 512 < (joinP l).length then ([], 3) else (joinP l, 0)) else ([], 1)
theorem slashP_snoc (l : List (List UInt8)) (x : List UInt8) : slashP (l ++ [x]) = slashP l ++ 47 :: x := by simp [slashP]
theorem slashP_pos (l : List (List UInt8)) (h : 0 < l.length) : 1 ≤ (slashP l).length := by
  cases l with
  | nil => simp at h
  | cons a r => simp [slashP]
theorem joinP_snoc (l : List (List UInt8)) (x : List UInt8) (h : 0 < l.length) : joinP (l ++ [x]) = joinP l ++ 47 :: x := by
  unfold joinP
  rw [slashP_snoc, List.drop_append_of_le_length (slashP_pos l h)]
theorem joinP_one (x : List UInt8) : joinP [x] = x := by simp [joinP, slashP]
theorem nameB_len {x : List UInt8} (h : nameB x = true) : 1 ≤ x.length ∧ x.length ≤ 64 := by
  cases x with
  | nil => simp [nameB] at h
  | cons c r =>
    simp [nameB] at h
    simp only [List.length_cons]
    omega
theorem app_list (a b : ByteArray) : (a ++ b).data.toList = a.data.toList ++ b.data.toList := by simp
theorem list_len (a : ByteArray) : a.data.toList.length = a.size := by rw [Array.length_toList]; rfl
theorem ba_eq {a : ByteArray} {l : List UInt8} (h : a.data.toList = l) : a = ⟨l.toArray⟩ := by subst h; exact (str_back a).symm
theorem ret_si {a b : ByteArray} {c d : Int} (h : a = b) (h2 : c = d) : Ending.returned (.tuple #[.string a, .int .i64 c]) = .returned (.tuple #[.string b, .int .i64 d]) := by rw [h, h2]

/-- What holds at a round's head of Path. -/
def PathRel (L : List (List UInt8)) (i : Nat) (s : ByteArray) : Prop :=
  s.size ≤ 1000 ∧ ((joinP (L.take i)).length ≤ 512 → s.data.toList = joinP (L.take i)) ∧ (512 < (joinP (L.take i)).length → 512 < s.size)
theorem PathRel.zero (L : List (List UInt8)) : PathRel L 0 ⟨#[]⟩ := ⟨by decide, fun _ => rfl, fun h => by simp [joinP, slashP] at h⟩
theorem PathRel.fits {L : List (List UInt8)} {i : Nat} {s : ByteArray} (h : PathRel L i s) (hs : s.size ≤ 512) : s.data.toList = joinP (L.take i) := h.2.1 (by
  apply Decidable.byContradiction
  intro h2
  have := h.2.2 (by omega)
  omega)
theorem PathRel.long {L : List (List UInt8)} {i : Nat} {s : ByteArray} (h : PathRel L i s) (hs : 512 < s.size) : 512 < (joinP (L.take i)).length := by
  apply Decidable.byContradiction
  intro h2
  have h3 := h.2.1 (by omega)
  have := list_len s
  rw [h3] at this
  omega
theorem take_one {L : List (List UInt8)} {i : Nat} (h : i < L.length) : L.take (i + 1) = L.take i ++ [L[i]] := List.take_succ_eq_append_getElem h
theorem PathRel.first {L : List (List UInt8)} {x : List UInt8} {s : ByteArray} (h : PathRel L 0 s) (hlt : 0 < L.length) (hx : x = L[0]) (hn : x.length ≤ 64) (hs : s.size ≤ 512) : PathRel L 1 (s ++ ⟨x.toArray⟩) := by
  have h1 := h.fits hs
  have hj : joinP (L.take 1) = x := by rw [take_one hlt, List.take_zero, List.nil_append, joinP_one, hx]
  have e : (s ++ ⟨x.toArray⟩).data.toList = joinP (L.take 1) := by rw [app_list, h1, hj]; simp [joinP, slashP]
  have hl := list_len (s ++ ⟨x.toArray⟩)
  rw [e, hj] at hl
  exact ⟨by omega, fun _ => e, fun h2 => by rw [hj] at h2; omega⟩
theorem PathRel.more {L : List (List UInt8)} {i : Nat} {x : List UInt8} {s : ByteArray} (h : PathRel L i s) (hi : 0 < i) (hlt : i < L.length) (hx : x = L[i]) (hn : x.length ≤ 64) (hs : s.size + 1 ≤ 512) : PathRel L (i + 1) ((s ++ ⟨#[47]⟩) ++ ⟨x.toArray⟩) := by
  have hl1 := list_len (s ++ ⟨#[47]⟩)
  rw [app_list, List.length_append, list_len] at hl1
  have e1 : (⟨#[47]⟩ : ByteArray).data.toList.length = 1 := rfl
  have h1 := h.fits (by omega)
  have hj : joinP (L.take (i + 1)) = joinP (L.take i) ++ 47 :: x := by rw [take_one hlt, joinP_snoc _ _ (by rw [List.length_take]; omega), hx]
  have e : ((s ++ ⟨#[47]⟩) ++ ⟨x.toArray⟩).data.toList = joinP (L.take (i + 1)) := by rw [app_list, app_list, h1, hj]; simp
  have hl := list_len ((s ++ ⟨#[47]⟩) ++ ⟨x.toArray⟩)
  rw [app_list, List.length_append, list_len] at hl
  have e2 : (⟨x.toArray⟩ : ByteArray).data.toList.length = x.length := rfl
  refine ⟨by omega, fun _ => e, fun h2 => ?_⟩
  have := list_len ((s ++ ⟨#[47]⟩) ++ ⟨x.toArray⟩)
  rw [e] at this
  omega
theorem PathRel.over {L : List (List UInt8)} {i : Nat} {x : List UInt8} {s : ByteArray} (h : PathRel L i s) (hi : 0 < i) (hlt : i < L.length) (hx : x = L[i]) (hp : 1 ≤ x.length) (hs : s.size ≤ 512) (hs2 : ¬ s.size + 1 ≤ 512) : PathRel L (i + 1) (s ++ ⟨#[47]⟩) := by
  have hl1 := list_len (s ++ ⟨#[47]⟩)
  rw [app_list, List.length_append, list_len] at hl1
  have e1 : (⟨#[47]⟩ : ByteArray).data.toList.length = 1 := rfl
  have h1 := h.fits hs
  have hj : joinP (L.take (i + 1)) = joinP (L.take i) ++ 47 :: x := by rw [take_one hlt, joinP_snoc _ _ (by rw [List.length_take]; omega), hx]
  have hl := list_len s
  rw [h1] at hl
  refine ⟨by omega, fun h2 => ?_, fun _ => by omega⟩
  rw [hj, List.length_append, List.length_cons] at h2
  omega
theorem PathRel.stay {L : List (List UInt8)} {i : Nat} {s : ByteArray} (h : PathRel L i s) (hi : 0 < i) (hlt : i < L.length) (hs : ¬ s.size ≤ 512) : PathRel L (i + 1) s := by
  have h1 := h.long (by omega)
  have hj : joinP (L.take (i + 1)) = joinP (L.take i) ++ 47 :: L[i] := by rw [take_one hlt, joinP_snoc _ _ (by rw [List.length_take]; omega)]
  refine ⟨h.1, fun h2 => ?_, fun _ => by omega⟩
  rw [hj, List.length_append] at h2
  omega

set_option maxHeartbeats 4000000 in
set_option maxRecDepth 100000 in
theorem refPath_any (v : Option Addr) (cap : Nat) (L : List (List UInt8)) (hl : L.length ≤ 9223372036854775807) (hsz : ∀ x, x ∈ L → x.length ≤ 9223372036854775807) (w : World) (hr : ReadsStr w v L) :
    Calls Tryd.prog 15 #[.slice v L.length cap] w fun e w' => e = .returned (.tuple #[.string ⟨(pathR L).1.toArray⟩, .int .i64 ((pathR L).2 : Nat)]) ∧ w = w' := by
  have HR := Lib.hid hr
  have HSZ := Lib.hid hsz
  obtain ⟨q, hq⟩ : ∃ q, q = pathR L := ⟨_, rfl⟩
  rw [← hq]
  unfold pathR at hq
  have HQ := Lib.hid hq
  clear hq hr hsz
  by_cases h0 : L.length = 0
  · have HF := Lib.hid (show q = ([], 1) by rw [HQ.out, if_pos h0])
    rw [h0]
    clear h0
    go_enter Tryd.func15, Tryd.ntmps15
    go_wp2_with fail
    go_ret2
    exact ⟨ret_si (by rw [HF.out]) (by rw [HF.out]; rfl), rfl⟩
  have HQ2 := Lib.hid (show q = _ from HQ.out.trans (if_neg h0))
  have u0 : ((L.length : Int) == 0) = false := by rw [beq_eq_false_iff_ne]; omega
  clear h0
  go_enter Tryd.func15, Tryd.ntmps15
  go_wp2_with fail
  go_loop [4, 5] (fun s4 s5 => ∃ (i : Nat) (s : ByteArray), i ≤ L.length ∧ s4 = .string s ∧ s5 = .int .i64 i ∧ L.all nameB = (L.drop i).all nameB ∧ PathRel L i s) (fun _ s5 => L.length - (RowKit.intOf s5).toNat)
  case atStart => exact ⟨0, _, by omega, rfl, rfl, by rw [List.drop_zero], PathRel.zero L⟩
  case round =>
    obtain ⟨i, s, hi, rfl, rfl, hall, hrel⟩ := hrel
    have HA := Lib.hid hall
    have HP := Lib.hid hrel
    have s9 : s.size ≤ 1000 := hrel.1
    clear hall hrel
    by_cases hlt : i < L.length
    · obtain ⟨b, off, rfl, hb, hc⟩ := HR.out i hlt
      have hd := all_drop L i hlt
      have hxl := HSZ.out L[i] (List.getElem_mem hlt)
      obtain ⟨x, hx⟩ : ∃ x, x = L[i] := ⟨_, rfl⟩
      rw [← hx] at hc hd hxl
      have N := Lib.hid (fun w => refName_any ⟨x.toArray⟩ (by rw [mk_size]; omega) w)
      rw [show (⟨x.toArray⟩ : ByteArray).data.toList = x from rfl] at N
      have HD := Lib.hid hd
      have HX := Lib.hid hx
      have hms := mk_size x
      obtain ⟨sx, hsx⟩ : ∃ sx : ByteArray, sx = ⟨x.toArray⟩ := ⟨_, rfl⟩
      rw [← hsx] at hc N hms
      have HSX := Lib.hid hsx
      clear hd hx hsx
      by_cases hn : nameB x = true
      · have HE := Lib.hid (show L.all nameB = (L.drop (i + 1)).all nameB by rw [HA.out, HD.out, hn]; rfl)
        obtain ⟨n1, n2⟩ := nameB_len hn
        have sx0 : sx.size ≤ 64 := by omega
        rw [hn] at N
        clear hn hms hxl
        have e47 : (⟨#[47]⟩ : ByteArray).size ≤ 1 := Nat.le_refl _
        by_cases hi0 : i = 0
        · subst hi0
          rw [Nat.add_zero] at hc
          by_cases hs5 : s.size ≤ 512
          · have HN := Lib.hid (HSX.out ▸ HP.out.first hlt HX.out n2 hs5)
            go_wp2_with fail
            go_fit (N.out _)
            rintro e w2 ⟨rfl, rfl⟩
            go_wp2_with fail
            go_round
            case rel => exact ⟨1, _, by omega, rfl, rfl, HE.out, HN.out⟩
            case measure => simp [RowKit.intOf]; omega
          · exact absurd (HP.out.fits (i := 0) (L := L) (by
              apply Decidable.byContradiction
              intro h
              have := HP.out.long (by omega)
              simp [joinP, slashP] at this)) (by
              intro h
              have h2 := list_len s
              rw [h] at h2
              simp [joinP, slashP] at h2
              omega)
        · have hi1 : (0 : Int) < (i : Int) := by omega
          by_cases hs5 : s.size ≤ 512
          · by_cases hs6 : s.size + 1 ≤ 512
            · have HN := Lib.hid (HSX.out ▸ HP.out.more (by omega) hlt HX.out n2 hs6)
              go_wp2_with fail
              go_fit (N.out _)
              rintro e w2 ⟨rfl, rfl⟩
              go_wp2_with fail
              go_round
              case rel => exact ⟨i + 1, _, by omega, rfl, by go_num, HE.out, HN.out⟩
              case measure => simp [RowKit.intOf]; omega
            · have HN := Lib.hid (HP.out.over (by omega) hlt HX.out n1 hs5 hs6)
              go_wp2_with fail
              go_fit (N.out _)
              rintro e w2 ⟨rfl, rfl⟩
              go_wp2_with fail
              go_round
              case rel => exact ⟨i + 1, _, by omega, rfl, by go_num, HE.out, HN.out⟩
              case measure => simp [RowKit.intOf]; omega
          · have HN := Lib.hid (HP.out.stay (by omega) hlt hs5)
            go_wp2_with fail
            go_fit (N.out _)
            rintro e w2 ⟨rfl, rfl⟩
            go_wp2_with fail
            go_round
            case rel => exact ⟨i + 1, s, by omega, rfl, by go_num, HE.out, HN.out⟩
            case measure => simp [RowKit.intOf]; omega
      · have hn2 : nameB x = false := by simpa using hn
        have HE := Lib.hid (show q = ([], 1) by rw [HQ2.out, HA.out, HD.out, hn2]; rfl)
        rw [hn2] at N
        clear hn hn2
        go_wp2_with fail
        go_fit (N.out _)
        rintro e w2 ⟨rfl, rfl⟩
        go_wp2_with fail
        go_ret2
        exact ⟨ret_si (by rw [HE.out]) (by rw [HE.out]; rfl), rfl⟩
    · obtain rfl : i = L.length := by omega
      have HAll := Lib.hid (show L.all nameB = true by rw [HA.out, List.drop_eq_nil_of_le (Nat.le_refl _)]; rfl)
      by_cases hs5 : 512 < s.size
      · have HE := Lib.hid (show q = ([], 3) by
          have h1 := HP.out.long hs5
          rw [List.take_length] at h1
          rw [HQ2.out, if_pos HAll.out, if_pos h1])
        go_wp2_with fail
        go_ret2
        exact ⟨ret_si (by rw [HE.out]) (by rw [HE.out]; rfl), rfl⟩
      · have h1 := HP.out.fits (by omega)
        rw [List.take_length] at h1
        have h2 := list_len s
        have HE := Lib.hid (show q = (joinP L, 0) by
          rw [h1] at h2
          rw [HQ2.out, if_pos HAll.out, if_neg (by omega)])
        have HS := Lib.hid (ba_eq h1)
        clear h1 h2
        go_wp2_with fail
        go_ret2
        exact ⟨ret_si (by rw [HE.out]; exact HS.out) (by rw [HE.out]; rfl), rfl⟩
end Go.Proofs.YtoehpoodfbgdiabDoor
