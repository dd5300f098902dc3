/- Contracts of the document's Path and Same (ident), and the plain functions that they compute. -/
import Derived.Test.YtmjikddceegloaaGreatDoorIdnB
import Derived.BigQuiet
import Derived.Deep.QuietTactic
import Derived.Deep.DeepCutAuto
import Derived.Deep.CutBlock
namespace Go.Proofs.YtmjikddceegloaaGreatDoor
open Go.RowKit Go.Lib

def slashP (l : List (List UInt8)) : List UInt8 := l.flatMap fun x => 47 :: x
/-- The parts, joined by slashes. -/
def joinP (l : List (List UInt8)) : List UInt8 := (slashP l).drop 1
def pathR (l : List (List UInt8)) : List UInt8 × Nat := if l.length = 0 then ([], 1) else if l.all nameB = true then (if 512 < (joinP l).length then ([], 3) else (joinP l, 0)) else ([], 1)
theorem slashP_snoc (l : List (List UInt8)) (x : List UInt8) : slashP (l ++ [x]) = slashP l ++ 47 :: x := by simp [slashP]
theorem slashP_pos (l : List (List UInt8)) (h : 0 < l.length) : 1 ≤ (slashP l).length := by
  cases l with
  | nil => simp at h
  | cons a r => simp [slashP]
theorem joinP_snoc (l : List (List UInt8)) (x : List UInt8) (h : 0 < l.length) : joinP (l ++ [x]) = joinP l ++ 47 :: x := by
  unfold joinP
  rw [slashP_snoc, List.drop_append_of_le_length (slashP_pos l h)]
theorem joinP_one (x : List UInt8) : joinP [x] = x := by simp [joinP, slashP]
theorem nameB_len {x : List UInt8} (h : nameB x = true) : 1 ≤ x.length ∧ x.length ≤ 64 := by
  cases x with
  | nil => simp [nameB] at h
  | cons c r =>
    simp [nameB] at h
    simp only [List.length_cons]
    omega
theorem app_list (a b : ByteArray) : (a ++ b).data.toList = a.data.toList ++ b.data.toList := by simp
theorem list_len (a : ByteArray) : a.data.toList.length = a.size := by rw [Array.length_toList]; rfl
theorem ba_eq {a : ByteArray} {l : List UInt8} (h : a.data.toList = l) : a = ⟨l.toArray⟩ := by subst h; exact (str_back a).symm
theorem ret_si {a b : ByteArray} {c d : Int} (h : a = b) (h2 : c = d) : Ending.returned (.tuple #[.string a, .int .i64 c]) = .returned (.tuple #[.string b, .int .i64 d]) := by rw [h, h2]

/-- What holds at a round's head of Path. -/
def PathRel (L : List (List UInt8)) (i : Nat) (s : ByteArray) : Prop :=
  s.size ≤ 1000 ∧ ((joinP (L.take i)).length ≤ 512 → s.data.toList = joinP (L.take i)) ∧ (512 < (joinP (L.take i)).length → 512 < s.size)
theorem PathRel.zero (L : List (List UInt8)) : PathRel L 0 ⟨#[]⟩ := ⟨by decide, fun _ => rfl, fun h => by simp [joinP, slashP] at h⟩
theorem PathRel.fits {L : List (List UInt8)} {i : Nat} {s : ByteArray} (h : PathRel L i s) (hs : s.size ≤ 512) : s.data.toList = joinP (L.take i) := h.2.1 (by
  apply Decidable.byContradiction
  intro h2
  have := h.2.2 (by omega)
  omega)
theorem PathRel.long {L : List (List UInt8)} {i : Nat} {s : ByteArray} (h : PathRel L i s) (hs : 512 < s.size) : 512 < (joinP (L.take i)).length := by
  apply Decidable.byContradiction
  intro h2
  have h3 := h.2.1 (by omega)
  have := list_len s
  rw [h3] at this
  omega
theorem take_one {L : List (List UInt8)} {i : Nat} (h : i < L.length) : L.take (i + 1) = L.take i ++ [L[i]] := List.take_succ_eq_append_getElem h
theorem PathRel.first {L : List (List UInt8)} {x : List UInt8} {s : ByteArray} (h : PathRel L 0 s) (hlt : 0 < L.length) (hx : x = L[0]) (hn : x.length ≤ 64) (hs : s.size ≤ 512) : PathRel L 1 (s ++ ⟨x.toArray⟩) := by
  have h1 := h.fits hs
  have hj : joinP (L.take 1) = x := by rw [take_one hlt, List.take_zero, List.nil_append, joinP_one, hx]
  have e : (s ++ ⟨x.toArray⟩).data.toList = joinP (L.take 1) := by rw [app_list, h1, hj]; simp [joinP, slashP]
  have hl := list_len (s ++ ⟨x.toArray⟩)
  rw [e, hj] at hl
  exact ⟨by omega, fun _ => e, fun h2 => by rw [hj] at h2; omega⟩
theorem PathRel.more {L : List (List UInt8)} {i : Nat} {x : List UInt8} {s : ByteArray} (h : PathRel L i s) (hi : 0 < i) (hlt : i < L.length) (hx : x = L[i]) (hn : x.length ≤ 64) (hs : s.size + 1 ≤ 512) : PathRel L (i + 1) ((s ++ ⟨#[47]⟩) ++ ⟨x.toArray⟩) := by
  have hl1 := list_len (s ++ ⟨#[47]⟩)
  rw [app_list, List.length_append, list_len] at hl1
  have e1 : (⟨#[47]⟩ : ByteArray).data.toList.length = 1 := rfl
  have h1 := h.fits (by omega)
  have hj : joinP (L.take (i + 1)) = joinP (L.take i) ++ 47 :: x := by rw [take_one hlt, joinP_snoc _ _ (by rw [List.length_take]; omega), hx]
  have e : ((s ++ ⟨#[47]⟩) ++ ⟨x.toArray⟩).data.toList = joinP (L.take (i + 1)) := by rw [app_list, app_list, h1, hj]; simp
  have hl := list_len ((s ++ ⟨#[47]⟩) ++ ⟨x.toArray⟩)
  rw [app_list, List.length_append, list_len] at hl
  have e2 : (⟨x.toArray⟩ : ByteArray).data.toList.length = x.length := rfl
  refine ⟨by omega, fun _ => e, fun h2 => ?_⟩
  have := list_len ((s ++ ⟨#[47]⟩) ++ ⟨x.toArray⟩)
  rw [e] at this
  omega
theorem PathRel.over {L : List (List UInt8)} {i : Nat} {x : List UInt8} {s : ByteArray} (h : PathRel L i s) (hi : 0 < i) (hlt : i < L.length) (hx : x = L[i]) (hp : 1 ≤ x.length) (hs : s.size ≤ 512) (hs2 : ¬ s.size + 1 ≤ 512) : PathRel L (i + 1) (s ++ ⟨#[47]⟩) := by
  have hl1 := list_len (s ++ ⟨#[47]⟩)
  rw [app_list, List.length_append, list_len] at hl1
  have e1 : (⟨#[47]⟩ : ByteArray).data.toList.length = 1 := rfl
  have h1 := h.fits hs
  have hj : joinP (L.take (i + 1)) = joinP (L.take i) ++ 47 :: x := by rw [take_one hlt, joinP_snoc _ _ (by rw [List.length_take]; omega), hx]
  have hl := list_len s
  rw [h1] at hl
  refine ⟨by omega, fun h2 => ?_, fun _ => by omega⟩
  rw [hj, List.length_append, List.length_cons] at h2
  omega
theorem PathRel.stay {L : List (List UInt8)} {i : Nat} {s : ByteArray} (h : PathRel L i s) (hi : 0 < i) (hlt : i < L.length) (hs : ¬ s.size ≤ 512) : PathRel L (i + 1) s := by
  have h1 := h.long (by omega)
  have hj : joinP (L.take (i + 1)) = joinP (L.take i) ++ 47 :: L[i] := by rw [take_one hlt, joinP_snoc _ _ (by rw [List.length_take]; omega)]
  refine ⟨h.1, fun h2 => ?_, fun _ => by omega⟩
  rw [hj, List.length_append] at h2
  omega

end Go.Proofs.YtmjikddceegloaaGreatDoor
