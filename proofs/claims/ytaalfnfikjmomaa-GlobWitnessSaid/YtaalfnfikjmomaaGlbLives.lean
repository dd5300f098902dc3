/- The contract of the condition that each statement of layer 6 asks first: it is met (glob). -/
import Derived.Test.YtaalfnfikjmomaaGlbOg
import Derived.Lib.SmallJoins
namespace Go.Proofs.Ytaalfnfikjmomaa
open Go.RowKit Go.Lib

/-- Whether elements match a string, reckoned. -/
def gmF : Nat → List GE → List UInt8 → Bool
  | 0, _, _ => false
  | _ + 1, [], [] => true
  | _ + 1, [], _ :: _ => false
  | n + 1, e :: l, [] => manyB e && gmF n l []
  | n + 1, e :: l, c :: s => if manyB e then gmF n l (c :: s) || (fitsB e c && gmF n (e :: l) s) else fitsB e c && gmF n l s
theorem gmF_iff : ∀ (n : Nat) (l : List GE) (s : List UInt8), l.length + s.length < n → (gmF n l s = true ↔ GM l s)
  | 0, _, _, h => by omega
  | n + 1, [], [], _ => by rw [gmF]; exact ⟨fun _ => .nil, fun _ => rfl⟩
  | n + 1, [], c :: s, _ => by
    rw [gmF, GM.nil_iff]
    constructor
    · intro h; cases h
    · intro h; cases h
  | n + 1, e :: l, [], h => by
    rw [gmF, Bool.and_eq_true, gmF_iff n l [] (by simp at h ⊢; omega)]
    constructor
    · rintro ⟨h1, h2⟩; exact .skip h1 h2
    · intro g
      cases g with
      | skip h1 h2 => exact ⟨h1, h2⟩
  | n + 1, e :: l, c :: s, h => by
    rw [gmF]
    have i1 := gmF_iff n l (c :: s) (by simp at h ⊢; omega)
    have i2 := gmF_iff n (e :: l) s (by simp at h ⊢; omega)
    have i3 := gmF_iff n l s (by simp at h ⊢; omega)
    by_cases hm : manyB e = true
    · rw [if_pos hm, Bool.or_eq_true, Bool.and_eq_true, i1, i2, GM.many_iff hm (s := c :: s)]
      constructor
      · rintro (g | ⟨h1, h2⟩)
        · exact .inl g
        · exact .inr ⟨c, s, rfl, h1, h2⟩
      · rintro (g | ⟨d, r, e1, h1, h2⟩)
        · exact .inl g
        · injection e1 with e1 e2; subst e1; subst e2; exact .inr ⟨h1, h2⟩
    · have hm' : manyB e = false := by simpa using hm
      rw [if_neg hm, Bool.and_eq_true, i3, GM.one_iff hm' (s := c :: s)]
      constructor
      · rintro ⟨h1, h2⟩; exact ⟨c, s, rfl, h1, h2⟩
      · rintro ⟨d, r, e1, h1, h2⟩
        injection e1 with e1 e2; subst e1; subst e2; exact ⟨h1, h2⟩
def matchC (p s : List UInt8) : Bool := match parseP p with
  | none => false
  | some l => gmF (l.length + s.length + 1) l s
theorem matchP_C (p s : List UInt8) : matchP p s = matchC p s := by
  unfold matchP matchC
  cases parseP p with
  | none => rfl
  | some l => exact gmB_eq (gmF_iff _ l s (Nat.lt_succ_self _)).symm
def anyC (l : List (List UInt8)) (s : List UInt8) : Bool := l.foldl (fun yes x => if matchC (effL x).1 s then !(effL x).2 else yes) false
theorem anyP_C (l : List (List UInt8)) (s : List UInt8) : anyP l s = anyC l s := by
  unfold anyP anyC
  congr 1
  funext yes x
  unfold anyStep
  rw [matchP_C]
theorem e_lit : litP [97, 98, 99] = ([97, 98, 99], true) := by decide +kernel
theorem e_m1 : matchP [114, 101, 108, 101, 97, 115, 101, 47, 42] [114, 101, 108, 101, 97, 115, 101, 47, 49] = true := by rw [matchP_C]; decide +kernel
theorem e_m2 : matchP [114, 101, 108, 101, 97, 115, 101, 47, 42] [114, 101, 108, 101, 97, 115, 101, 47, 49, 47, 97] = false := by rw [matchP_C]; decide +kernel
theorem e_val : validP [91, 99, 45, 97, 93] = 5 := by decide +kernel
theorem e_any : anyP [[42, 42], [33, 100, 111, 99, 47, 42, 42]] [120] = true := by rw [anyP_C]; decide +kernel
theorem e_over : overP [97, 42, 99] [42, 98, 42] = true := by
  have h1 : matchP [97, 42, 99] [97, 98, 99] = true := by rw [matchP_C]; decide +kernel
  have h2 : matchP [42, 98, 42] [97, 98, 99] = true := by rw [matchP_C]; decide +kernel
  unfold matchP at h1 h2
  cases ha : parseP [97, 42, 99] with
  | none => rw [ha] at h1; cases h1
  | some x =>
    cases hb : parseP [42, 98, 42] with
    | none => rw [hb] at h2; cases h2
    | some y =>
      rw [ha] at h1
      rw [hb] at h2
      exact overP_some ha hb ⟨fun _ => ⟨_, gmB_true.1 h1, gmB_true.1 h2⟩, fun _ => rfl⟩
theorem litE (w : World) : Calls Try.prog 17 #[.string ⟨#[97, 98, 99]⟩] w fun e w' => e = .returned (.tuple #[.string ⟨#[97, 98, 99]⟩, .bool true]) ∧ Below w.heap.size w w' := by
  have h := literal_fn_any ⟨#[97, 98, 99]⟩ w
  rwa [show (⟨#[97, 98, 99]⟩ : ByteArray).data.toList = [97, 98, 99] from rfl, e_lit] at h
theorem m1E (w : World) : Calls Try.prog 13 #[.string ⟨#[114, 101, 108, 101, 97, 115, 101, 47, 42]⟩, .string ⟨#[114, 101, 108, 101, 97, 115, 101, 47, 49]⟩] w fun e w' => e = .returned (.bool true) ∧ Below w.heap.size w w' := by
  have h := match_any ⟨#[114, 101, 108, 101, 97, 115, 101, 47, 42]⟩ ⟨#[114, 101, 108, 101, 97, 115, 101, 47, 49]⟩ (by decide) w
  rwa [show (⟨#[114, 101, 108, 101, 97, 115, 101, 47, 42]⟩ : ByteArray).data.toList = [114, 101, 108, 101, 97, 115, 101, 47, 42] from rfl, show (⟨#[114, 101, 108, 101, 97, 115, 101, 47, 49]⟩ : ByteArray).data.toList = [114, 101, 108, 101, 97, 115, 101, 47, 49] from rfl, e_m1] at h
theorem m2E (w : World) : Calls Try.prog 13 #[.string ⟨#[114, 101, 108, 101, 97, 115, 101, 47, 42]⟩, .string ⟨#[114, 101, 108, 101, 97, 115, 101, 47, 49, 47, 97]⟩] w fun e w' => e = .returned (.bool false) ∧ Below w.heap.size w w' := by
  have h := match_any ⟨#[114, 101, 108, 101, 97, 115, 101, 47, 42]⟩ ⟨#[114, 101, 108, 101, 97, 115, 101, 47, 49, 47, 97]⟩ (by decide) w
  rwa [show (⟨#[114, 101, 108, 101, 97, 115, 101, 47, 42]⟩ : ByteArray).data.toList = [114, 101, 108, 101, 97, 115, 101, 47, 42] from rfl, show (⟨#[114, 101, 108, 101, 97, 115, 101, 47, 49, 47, 97]⟩ : ByteArray).data.toList = [114, 101, 108, 101, 97, 115, 101, 47, 49, 47, 97] from rfl, e_m2] at h
theorem valE (w : World) : Calls Try.prog 11 #[.string ⟨#[91, 99, 45, 97, 93]⟩] w fun e w' => e = .returned (.int .i64 5) ∧ Below w.heap.size w w' := by
  have h := valid_any ⟨#[91, 99, 45, 97, 93]⟩ w
  rwa [show (⟨#[91, 99, 45, 97, 93]⟩ : ByteArray).data.toList = [91, 99, 45, 97, 93] from rfl, e_val] at h
theorem anyE (g : Nat) (w : World) (hg : g < w.heap.size) (h0 : w.cell? ⟨g, 0, none⟩ = some (.string ⟨#[42, 42]⟩)) (h1 : w.cell? ⟨g, 1, none⟩ = some (.string ⟨#[33, 100, 111, 99, 47, 42, 42]⟩)) :
    Calls Try.prog 15 #[.slice (some ⟨g, 0, none⟩) 2 2, .string ⟨#[120]⟩] w fun e w' => e = .returned (.bool true) ∧ Below w.heap.size w w' := by
  have h := any_any (some ⟨g, 0, none⟩) 2 [[42, 42], [33, 100, 111, 99, 47, 42, 42]] ⟨#[120]⟩ (by decide) (by decide) w (by
    intro k hk
    match k, hk with
    | 0, _ => exact ⟨g, 0, rfl, hg, h0⟩
    | 1, _ => exact ⟨g, 0, rfl, hg, h1⟩)
  rwa [show (⟨#[120]⟩ : ByteArray).data.toList = [120] from rfl, e_any] at h
theorem overE (w : World) : Calls Try.prog 19 #[.string ⟨#[97, 42, 99]⟩, .string ⟨#[42, 98, 42]⟩] w fun e w' => e = .returned (.bool true) ∧ Below w.heap.size w w' := by
  have h := overlaps_any ⟨#[97, 42, 99]⟩ ⟨#[42, 98, 42]⟩ w
  rwa [show (⟨#[97, 42, 99]⟩ : ByteArray).data.toList = [97, 42, 99] from rfl, show (⟨#[42, 98, 42]⟩ : ByteArray).data.toList = [42, 98, 42] from rfl, e_over] at h
set_option maxHeartbeats 4000000 in
set_option maxRecDepth 100000 in
theorem lives6_any (w : World) :
    Calls Try.prog 10 #[] w fun e w' => e = .returned (.bool true) ∧ Below w.heap.size w w' := by
  go_enter Try.func10, Try.ntmps10
  go_wp2_with fail
  go_fit (litE _)
  rintro e w1 ⟨rfl, hb⟩
  have B1 := Lib.hid hb
  clear hb
  go_wp2_with fail
  go_fit (m1E _)
  rintro e w2 ⟨rfl, hb⟩
  have B2 := Lib.hid (B1.out.trans (hb.mono B1.out.size))
  clear hb
  go_wp2_with fail
  go_fit (m2E _)
  rintro e w3 ⟨rfl, hb⟩
  have B3 := Lib.hid (B2.out.trans (hb.mono B2.out.size))
  clear hb
  go_wp2_with fail
  go_fit (valE _)
  rintro e w4 ⟨rfl, hb⟩
  have B4 := Lib.hid (B3.out.trans (hb.mono B3.out.size))
  clear hb
  have z4 : w.heap.size ≤ w4.heap.size := B4.out.size
  go_wp2_with fail
  go_fit (anyE w4.heap.size _ (by simp) (by simp [go_sem]) (by simp [go_sem]))
  rintro e w5 ⟨rfl, hb⟩
  have B5 := Lib.hid ((B4.out.alloc z4 (Obj.cells #[.string ⟨#[42, 42]⟩, .string ⟨#[33, 100, 111, 99, 47, 42, 42]⟩] 9)).trans (hb.mono (by simp; omega)))
  clear hb z4
  go_wp2_with fail
  go_fit (overE _)
  rintro e w6 ⟨rfl, hb⟩
  have B6 := Lib.hid (B5.out.trans (hb.mono B5.out.size))
  clear hb
  go_wp2_with fail
  go_ret
  exact ⟨rfl, B6.out⟩
end Go.Proofs.Ytaalfnfikjmomaa
