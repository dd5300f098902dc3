/- Contracts of the program's usesOwnFields, compound, notKey, and of ContainsFunc over strings (value). -/
import Derived.Test.YtabopneehhnhfabDoorValA
import Derived.Test.YtabopneehhnhfabDoorNatPH
namespace Go.Proofs.YtabopneehhnhfabDoor
open Go.RowKit Go.Lib

/-- The five tests on fields. -/
def fiveB (t : Bool) (i : Int) (s : ByteArray) (n kn : Nat) : Bool := !t && i == 0 && s.toList.isEmpty && n == 0 && kn == 0
theorem nat_zero (n : Nat) : ((n : Int) == 0) = (n == 0) := by
  by_cases h : n = 0
  · subst h; rfl
  · have : ¬ (n : Int) = 0 := by omega
    rw [beq_eq_false_iff_ne.2 this, beq_eq_false_iff_ne.2 h]

set_option maxHeartbeats 4000000 in
set_option maxRecDepth 100000 in
theorem own0 (t : Bool) (i : Int) (s : ByteArray) (av kv : Option Addr) (n c kn kc : Nat) (w : World) :
    Calls Tryd.prog 70 #[.agg #[.int .i64 0, .bool t, .int .i64 i, .string s, .slice av n c, .slice kv kn kc]] w fun e w' => e = .returned (.bool (fiveB t i s n kn)) ∧ Below w.heap.size w w' := by
  cases t
  all_goals
    go_enter Tryd.func70, Tryd.ntmps70
    go_wp2_with fail
    all_goals
      go_ret
      exact ⟨by simp_all [fiveB, nat_zero], by repeat (first | exact Below.refl _ _ | refine Below.setCell ?_ (by simp <;> omega) _ | refine Below.alloc ?_ (by simp <;> omega) _)⟩
set_option maxHeartbeats 4000000 in
set_option maxRecDepth 100000 in
theorem own1 (t : Bool) (i : Int) (s : ByteArray) (av kv : Option Addr) (n c kn kc : Nat) (w : World) :
    Calls Tryd.prog 70 #[.agg #[.int .i64 1, .bool t, .int .i64 i, .string s, .slice av n c, .slice kv kn kc]] w fun e w' => e = .returned (.bool (fiveB false i s n kn)) ∧ Below w.heap.size w w' := by
  cases t
  all_goals
    go_enter Tryd.func70, Tryd.ntmps70
    go_wp2_with fail
    all_goals
      go_ret
      exact ⟨by simp_all [fiveB, nat_zero], by repeat (first | exact Below.refl _ _ | refine Below.setCell ?_ (by simp <;> omega) _ | refine Below.alloc ?_ (by simp <;> omega) _)⟩
set_option maxHeartbeats 4000000 in
set_option maxRecDepth 100000 in
theorem own2 (t : Bool) (i : Int) (s : ByteArray) (av kv : Option Addr) (n c kn kc : Nat) (w : World) :
    Calls Tryd.prog 70 #[.agg #[.int .i64 2, .bool t, .int .i64 i, .string s, .slice av n c, .slice kv kn kc]] w fun e w' => e = .returned (.bool (fiveB t 0 s n kn)) ∧ Below w.heap.size w w' := by
  cases t
  all_goals
    go_enter Tryd.func70, Tryd.ntmps70
    go_wp2_with fail
    all_goals
      go_ret
      exact ⟨by simp_all [fiveB, nat_zero], by repeat (first | exact Below.refl _ _ | refine Below.setCell ?_ (by simp <;> omega) _ | refine Below.alloc ?_ (by simp <;> omega) _)⟩
set_option maxHeartbeats 4000000 in
set_option maxRecDepth 100000 in
theorem own3 (t : Bool) (i : Int) (s : ByteArray) (av kv : Option Addr) (n c kn kc : Nat) (w : World) :
    Calls Tryd.prog 70 #[.agg #[.int .i64 3, .bool t, .int .i64 i, .string s, .slice av n c, .slice kv kn kc]] w fun e w' => e = .returned (.bool (fiveB t i ⟨#[]⟩ n kn)) ∧ Below w.heap.size w w' := by
  cases t
  all_goals
    go_enter Tryd.func70, Tryd.ntmps70
    go_wp2_with fail
    all_goals
      go_ret
      exact ⟨by simp_all [fiveB, nat_zero], by repeat (first | exact Below.refl _ _ | refine Below.setCell ?_ (by simp <;> omega) _ | refine Below.alloc ?_ (by simp <;> omega) _)⟩
set_option maxHeartbeats 4000000 in
set_option maxRecDepth 100000 in
theorem own4 (t : Bool) (i : Int) (s : ByteArray) (av kv : Option Addr) (n c kn kc : Nat) (w : World) :
    Calls Tryd.prog 70 #[.agg #[.int .i64 4, .bool t, .int .i64 i, .string s, .slice av n c, .slice kv kn kc]] w fun e w' => e = .returned (.bool (fiveB t i s 0 kn)) ∧ Below w.heap.size w w' := by
  cases t
  all_goals
    go_enter Tryd.func70, Tryd.ntmps70
    go_wp2_with fail
    all_goals
      go_ret
      exact ⟨by simp_all [fiveB, nat_zero], by repeat (first | exact Below.refl _ _ | refine Below.setCell ?_ (by simp <;> omega) _ | refine Below.alloc ?_ (by simp <;> omega) _)⟩
set_option maxHeartbeats 4000000 in
set_option maxRecDepth 100000 in
theorem own5 (t : Bool) (i : Int) (s : ByteArray) (av kv : Option Addr) (n c kn kc : Nat) (w : World) :
    Calls Tryd.prog 70 #[.agg #[.int .i64 5, .bool t, .int .i64 i, .string s, .slice av n c, .slice kv kn kc]] w fun e w' => e = .returned (.bool (fiveB t i s 0 0)) ∧ Below w.heap.size w w' := by
  cases t
  all_goals
    go_enter Tryd.func70, Tryd.ntmps70
    go_wp2_with fail
    all_goals
      go_ret
      exact ⟨by simp_all [fiveB], by repeat (first | exact Below.refl _ _ | refine Below.setCell ?_ (by simp <;> omega) _ | refine Below.alloc ?_ (by simp <;> omega) _)⟩

set_option maxHeartbeats 4000000 in
set_option maxRecDepth 100000 in
theorem ownNo (k : Int) (h0 : k < 0 ∨ 5 < k) (t : Bool) (i : Int) (s : ByteArray) (av kv : Option Addr) (n c kn kc : Nat) (w : World) :
    Calls Tryd.prog 70 #[.agg #[.int .i64 k, .bool t, .int .i64 i, .string s, .slice av n c, .slice kv kn kc]] w fun e w' => e = .returned (.bool false) ∧ Below w.heap.size w w' := by
  have e0 : (k == 0) = false := by rw [beq_eq_false_iff_ne]; omega
  have e1 : (k == 1) = false := by rw [beq_eq_false_iff_ne]; omega
  have e2 : (k == 2) = false := by rw [beq_eq_false_iff_ne]; omega
  have e3 : (k == 3) = false := by rw [beq_eq_false_iff_ne]; omega
  have e4 : (k == 4) = false := by rw [beq_eq_false_iff_ne]; omega
  have e5 : (k == 5) = false := by rw [beq_eq_false_iff_ne]; omega
  clear h0
  go_enter Tryd.func70, Tryd.ntmps70
  go_wp2_with fail
  go_ret
  exact ⟨rfl, by repeat (first | exact Below.refl _ _ | refine Below.setCell ?_ (by simp <;> omega) _ | refine Below.alloc ?_ (by simp <;> omega) _)⟩

/-- Has a value one of the six kinds, and sets only fields of its kind? -/
def ownB (k : Int) (t : Bool) (i : Int) (s : ByteArray) (l : List Vl) (ks : List (List UInt8)) : Bool := !(decide (k < 0) || decide (5 < k) || !plainB k t i s l ks)
theorem isE {α : Type} (l : List α) : (l.length == 0) = l.isEmpty := by cases l <;> rfl
theorem own_any (k : Int) (t : Bool) (i : Int) (s : ByteArray) (av kv : Option Addr) (l : List Vl) (ks : List (List UInt8)) (c kc : Nat) (w : World) :
    Calls Tryd.prog 70 #[.agg #[.int .i64 k, .bool t, .int .i64 i, .string s, .slice av l.length c, .slice kv ks.length kc]] w fun e w' => e = .returned (.bool (ownB k t i s l ks)) ∧ Below w.heap.size w w' := by
  by_cases h : k < 0 ∨ 5 < k
  · have : ownB k t i s l ks = false := by unfold ownB; rcases h with h | h <;> simp [h]
    rw [this]
    exact ownNo k h t i s av kv l.length c ks.length kc w
  · have e : ownB k t i s l ks = plainB k t i s l ks := by
      unfold ownB
      rw [decide_eq_false (by omega), decide_eq_false (by omega)]
      simp
    rw [e]
    rcases (show k = 0 ∨ k = 1 ∨ k = 2 ∨ k = 3 ∨ k = 4 ∨ k = 5 by omega) with rfl | rfl | rfl | rfl | rfl | rfl
    · rw [show plainB 0 t i s l ks = fiveB t i s l.length ks.length by simp [plainB, fiveB, isE, Bool.and_assoc]]
      exact own0 t i s av kv l.length c ks.length kc w
    · rw [show plainB 1 t i s l ks = fiveB false i s l.length ks.length by simp [plainB, fiveB, isE, Bool.and_assoc]]
      exact own1 t i s av kv l.length c ks.length kc w
    · rw [show plainB 2 t i s l ks = fiveB t 0 s l.length ks.length by simp [plainB, fiveB, isE, Bool.and_assoc]]
      exact own2 t i s av kv l.length c ks.length kc w
    · rw [show plainB 3 t i s l ks = fiveB t i ⟨#[]⟩ l.length ks.length by simp [plainB, fiveB, isE, Bool.and_assoc]]
      exact own3 t i s av kv l.length c ks.length kc w
    · rw [show plainB 4 t i s l ks = fiveB t i s 0 ks.length by simp [plainB, fiveB, isE, Bool.and_assoc]]
      exact own4 t i s av kv l.length c ks.length kc w
    · rw [show plainB 5 t i s l ks = fiveB t i s 0 0 by simp [plainB, fiveB, Bool.and_assoc]]
      exact own5 t i s av kv l.length c ks.length kc w
end Go.Proofs.YtabopneehhnhfabDoor
