/- Maps of strings to true, as label's examine holds them; the contracts of the closures of Valid and Need (label). -/
import Derived.Test.YtglckcenjnieaaaGreatDoorLaI
import Derived.Test.YtglckcenjnieaaaGreatDoorIdpG
namespace Go.Proofs.YtglckcenjnieaaaGreatDoor
open Go.RowKit Go.Lib Go.Maps

/-- How a bool in the map reads. -/
def boR (v : Value) : Option (DataW Unit × List MemPlace) := match v with
  | .bool b => some (.lit (.bool b), [])
  | _ => none
theorem boR_inv {v : Value} {b : Bool} {ps : List MemPlace} (h : boR v = some (.lit (.bool b), ps)) : v = .bool b := by
  unfold boR at h
  split at h
  · injection h with h
    injection h with h _
    injection h with h
    injection h with h
    rw [h]
  · cases h
/-- Block K is a map of at most n strings, those of S. -/
def BoM (w : World) (K n : Nat) (S : List (List UInt8)) : Prop :=
  ∃ D : DataW Unit, w.ownsMap Tryz.prog 9 boR K n D ∧ IsMap D ∧ (∀ l, l ∉ S → Maps.has D (.string l) = false) ∧ ∀ l, l ∈ S → ∀ z, D.atKey (.string l) z = .lit (.bool true)
theorem BoM.lt {w : World} {K n : Nat} {S : List (List UInt8)} (h : BoM w K n S) : K < w.heap.size := by
  obtain ⟨D, h, _⟩ := h
  exact h.lt
theorem BoM.kept {w w' : World} {K n : Nat} {S : List (List UInt8)} (h : BoM w K n S) (hb : Below w.heap.size w w') : BoM w' K n S := by
  obtain ⟨D, h1, h2⟩ := h
  exact ⟨D, h1.kept (row := none) ⟨hb.os, hb.tape, hb.output, hb.size, fun k hk _ => hb.block k hk⟩ (by simp), h2⟩
theorem BoM.new (w : World) : BoM (w.alloc (.map #[] 0)) w.heap.size 0 [] :=
  ⟨.map [], World.ownsMap_made w _ _ _, ⟨[], rfl⟩, fun l _ => rfl, fun l h => by cases h⟩
theorem zero_bool (w : World) : (zeroValue 4).run Tryz.prog w = .ok (.bool false) w := by kernel_rfl
theorem BoM.get {w : World} {K n : Nat} {S : List (List UInt8)} (h : BoM w K n S) (l : List UInt8) (hl : l.length ≤ 140737488351232) :
    (Instr.lookup 62 (.map (some K)) (.string ⟨l.toArray⟩) false).run Tryz.prog w = .ok (.bool (decide (l ∈ S))) w := by
  obtain ⟨D, h1, h2, h3, h4⟩ := h
  obtain ⟨v, ps, hrun, hv⟩ := h1.lookup (t := 62) keyS Tryz.underlying62 (zero_bool w) (zd := .lit (.bool false)) (zp := []) rfl (keyS_at l hl)
  by_cases hS : l ∈ S
  · rw [h4 l hS] at hv
    obtain rfl := boR_inv hv
    rw [hrun, decide_eq_true hS]
  · rw [atKey_of_not_has (h3 l hS)] at hv
    obtain rfl := boR_inv hv
    rw [hrun, decide_eq_false hS]
theorem BoM.put {w : World} {K n : Nat} {S : List (List UInt8)} (h : BoM w K n S) (hn : n < 1048576) (l : List UInt8) (hl : l.length ≤ 140737488351232) :
    ∃ w', (Instr.mapUpdate 62 (.map (some K)) (.string ⟨l.toArray⟩) (.bool true)).run Tryz.prog w = .ok () w' ∧ BoM w' K (n + 1) (l :: S) ∧ w.grownBy w' (some K) := by
  obtain ⟨D, h1, h2, h3, h4⟩ := h
  obtain ⟨w', hrun, hm, hg⟩ := h1.update (t := 62) keyS Tryz.underlying62 (by unfold maxLen; omega) (keyS_at l hl) (d := .lit (.bool true)) (ps := []) (val := .bool true) rfl
  refine ⟨w', hrun, ⟨_, hm, hm.isMap, fun x hx => ?_, fun x hx z => ?_⟩, hg⟩
  · rw [List.mem_cons, not_or] at hx
    rw [has_put_other (by intro e; injection e with e; exact hx.1 e), h3 x hx.2]
  · by_cases hxl : x = l
    · subst hxl
      exact atKey_put_same h2 (keyS_lit x) _ _
    · rw [atKey_put_other (by intro e; injection e with e; exact hxl e)]
      exact h4 x ((List.mem_cons.1 hx).resolve_left hxl) z

/-- The key of a label is its name; that of a requirement is the requirement. -/
def labK (x : List UInt8) : Option (List UInt8) := (labP x).map (·.1)
def needK (x : List UInt8) : Option (List UInt8) := (needP x).map fun _ => x
/-- What a key's function hands back. -/
def KeyR (o : Option (List UInt8)) (x : ByteArray) (ok : Bool) : Prop :=
  match o with
  | none => ok = false
  | some a => ok = true ∧ x = ⟨a.toArray⟩ ∧ a.length ≤ 1048576
theorem lab_len {x a : List UInt8} {n : Int} (h : labP x = some (a, n)) : a.length ≤ x.length := by
  unfold labP labF at h
  split at h
  · cases h
  split at h
  · obtain ⟨rfl, _⟩ := Prod.mk.inj (Option.some.inj h)
    exact (cut_len _ _).1
  split at h
  · obtain ⟨rfl, _⟩ := Prod.mk.inj (Option.some.inj h)
    exact (cut_len _ _).1
  · cases h
set_option maxHeartbeats 1000000 in
theorem validKey_any (x : List UInt8) (hx : x.length ≤ 1048576) (w : World) (hT : TabK w) :
    Calls Tryz.prog 22 #[.string ⟨x.toArray⟩] w fun e w' => ∃ (y : ByteArray) (ok : Bool), e = .returned (.tuple #[.string y, .bool ok]) ∧ KeyR (labK x) y ok ∧ Below w.heap.size w w' := by
  have P := Lib.hid (parseLabel_any ⟨x.toArray⟩ (by show x.toArray.size ≤ _; simpa using hx) w hT)
  clear hT
  go_enter Tryz.func22, Tryz.ntmps22
  go_wp2_with fail
  go_fit P.out
  rintro e w2 ⟨y, n, ok, rfl, hR, hb⟩
  try rw [show (⟨x.toArray⟩ : ByteArray).data.toList = x by simp] at hR
  have HR := Lib.hid (show KeyR (labK x) y ok by
    unfold labK
    cases hl : labP x with
    | none => rw [hl] at hR; exact hR
    | some q =>
      obtain ⟨a, b⟩ := q
      rw [hl] at hR
      exact ⟨hR.1, hR.2.1, Nat.le_trans (lab_len hl) hx⟩)
  have B := Lib.hid hb
  clear hR hb
  go_wp2_with fail
  go_ret2
  exact ⟨y, ok, rfl, HR.out, B.out⟩
set_option maxHeartbeats 1000000 in
theorem needKey_any (x : List UInt8) (hx : x.length ≤ 1048576) (w : World) (hT : TabK w) :
    Calls Tryz.prog 26 #[.string ⟨x.toArray⟩] w fun e w' => ∃ (y : ByteArray) (ok : Bool), e = .returned (.tuple #[.string y, .bool ok]) ∧ KeyR (needK x) y ok ∧ Below w.heap.size w w' := by
  have P := Lib.hid (parseNeed_any ⟨x.toArray⟩ (by show x.toArray.size ≤ _; simpa using hx) w hT)
  clear hT
  go_enter Tryz.func26, Tryz.ntmps26
  go_wp2_with fail
  go_fit P.out
  rintro e w2 ⟨y, lo, hi, ok, rfl, hR, hb⟩
  rw [show (⟨x.toArray⟩ : ByteArray).data.toList = x by simp] at hR
  have HR := Lib.hid (show KeyR (needK x) ⟨x.toArray⟩ ok by
    unfold needK
    cases hl : needP x with
    | none => rw [hl] at hR; exact hR
    | some q =>
      obtain ⟨a, b, c⟩ := q
      rw [hl] at hR
      exact ⟨hR.1, rfl, hx⟩)
  have B := Lib.hid hb
  clear hR hb
  go_wp2_with fail
  go_ret2
  exact ⟨⟨x.toArray⟩, ok, rfl, HR.out, B.out.alloc B.out.size _⟩
end Go.Proofs.YtglckcenjnieaaaGreatDoor
