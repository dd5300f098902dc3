/- Contracts of the document's plain and key, of values. -/
import Derived.Test.YtabopneehhnhfabDoorValC
namespace Go.Proofs.YtabopneehhnhfabDoor
open Go.RowKit Go.Lib

def plainN (k : Int) (t : Bool) (i : Int) (s : ByteArray) (n kn : Nat) : Bool := (!t || k == 1) && (i == 0 || k == 2) && (s.toList.isEmpty || k == 3) && (n == 0 || k == 4 || k == 5) && (kn == 0 || k == 5)
theorem plainN_eq (k : Int) (t : Bool) (i : Int) (s : ByteArray) (l : List Vl) (ks : List (List UInt8)) : plainN k t i s l.length ks.length = plainB k t i s l ks := by
  unfold plainN plainB
  rw [isE, isE]

set_option maxHeartbeats 4000000 in
set_option maxRecDepth 100000 in
theorem plain1 (t : Bool) (i : Int) (s : ByteArray) (av kv : Option Addr) (n c kn kc : Nat) (w : World) :
    Calls Tryd.prog 58 #[.agg #[.int .i64 1, .bool t, .int .i64 i, .string s, .slice av n c, .slice kv kn kc]] w fun e w' => e = .returned (.bool (plainN 1 t i s n kn)) ∧ Below w.heap.size w w' := by
  cases t
  all_goals
    go_enter Tryd.func58, Tryd.ntmps58
    go_wp2_with fail
    all_goals
      go_ret
      exact ⟨by first | (simp_all [plainN, nat_zero]; done) | (simp_all [plainN]; omega) | (simp_all [plainN, nat_zero]; omega), by repeat (first | exact Below.refl _ _ | refine Below.setCell ?_ (by simp <;> omega) _ | refine Below.alloc ?_ (by simp <;> omega) _)⟩

set_option maxHeartbeats 4000000 in
set_option maxRecDepth 100000 in
theorem plain2 (t : Bool) (i : Int) (s : ByteArray) (av kv : Option Addr) (n c kn kc : Nat) (w : World) :
    Calls Tryd.prog 58 #[.agg #[.int .i64 2, .bool t, .int .i64 i, .string s, .slice av n c, .slice kv kn kc]] w fun e w' => e = .returned (.bool (plainN 2 t i s n kn)) ∧ Below w.heap.size w w' := by
  cases t
  all_goals
    go_enter Tryd.func58, Tryd.ntmps58
    go_wp2_with fail
    all_goals
      go_ret
      exact ⟨by first | (simp_all [plainN, nat_zero]; done) | (simp_all [plainN]; omega) | (simp_all [plainN, nat_zero]; omega), by repeat (first | exact Below.refl _ _ | refine Below.setCell ?_ (by simp <;> omega) _ | refine Below.alloc ?_ (by simp <;> omega) _)⟩

set_option maxHeartbeats 4000000 in
set_option maxRecDepth 100000 in
theorem plain3 (t : Bool) (i : Int) (s : ByteArray) (av kv : Option Addr) (n c kn kc : Nat) (w : World) :
    Calls Tryd.prog 58 #[.agg #[.int .i64 3, .bool t, .int .i64 i, .string s, .slice av n c, .slice kv kn kc]] w fun e w' => e = .returned (.bool (plainN 3 t i s n kn)) ∧ Below w.heap.size w w' := by
  cases t
  all_goals
    go_enter Tryd.func58, Tryd.ntmps58
    go_wp2_with fail
    all_goals
      go_ret
      exact ⟨by first | (simp_all [plainN, nat_zero]; done) | (simp_all [plainN]; omega) | (simp_all [plainN, nat_zero]; omega), by repeat (first | exact Below.refl _ _ | refine Below.setCell ?_ (by simp <;> omega) _ | refine Below.alloc ?_ (by simp <;> omega) _)⟩

set_option maxHeartbeats 4000000 in
set_option maxRecDepth 100000 in
theorem plain4 (t : Bool) (i : Int) (s : ByteArray) (av kv : Option Addr) (n c kn kc : Nat) (w : World) :
    Calls Tryd.prog 58 #[.agg #[.int .i64 4, .bool t, .int .i64 i, .string s, .slice av n c, .slice kv kn kc]] w fun e w' => e = .returned (.bool (plainN 4 t i s n kn)) ∧ Below w.heap.size w w' := by
  cases t
  all_goals
    go_enter Tryd.func58, Tryd.ntmps58
    go_wp2_with fail
    all_goals
      go_ret
      exact ⟨by first | (simp_all [plainN, nat_zero]; done) | (simp_all [plainN]; omega) | (simp_all [plainN, nat_zero]; omega), by repeat (first | exact Below.refl _ _ | refine Below.setCell ?_ (by simp <;> omega) _ | refine Below.alloc ?_ (by simp <;> omega) _)⟩

set_option maxHeartbeats 4000000 in
set_option maxRecDepth 100000 in
theorem plain5 (t : Bool) (i : Int) (s : ByteArray) (av kv : Option Addr) (n c kn kc : Nat) (w : World) :
    Calls Tryd.prog 58 #[.agg #[.int .i64 5, .bool t, .int .i64 i, .string s, .slice av n c, .slice kv kn kc]] w fun e w' => e = .returned (.bool (plainN 5 t i s n kn)) ∧ Below w.heap.size w w' := by
  cases t
  all_goals
    go_enter Tryd.func58, Tryd.ntmps58
    go_wp2_with fail
    all_goals
      go_ret
      exact ⟨by first | (simp_all [plainN, nat_zero]; done) | (simp_all [plainN]; omega) | (simp_all [plainN, nat_zero]; omega), by repeat (first | exact Below.refl _ _ | refine Below.setCell ?_ (by simp <;> omega) _ | refine Below.alloc ?_ (by simp <;> omega) _)⟩

set_option maxHeartbeats 4000000 in
set_option maxRecDepth 100000 in
theorem plainNo (k : Int) (h1 : k ≠ 1) (h2 : k ≠ 2) (h3 : k ≠ 3) (h4 : k ≠ 4) (h5 : k ≠ 5) (t : Bool) (i : Int) (s : ByteArray) (av kv : Option Addr) (n c kn kc : Nat) (w : World) :
    Calls Tryd.prog 58 #[.agg #[.int .i64 k, .bool t, .int .i64 i, .string s, .slice av n c, .slice kv kn kc]] w fun e w' => e = .returned (.bool (plainN k t i s n kn)) ∧ Below w.heap.size w w' := by
  have e1 : (k == 1) = false := beq_eq_false_iff_ne.2 h1
  have e2 : (k == 2) = false := beq_eq_false_iff_ne.2 h2
  have e3 : (k == 3) = false := beq_eq_false_iff_ne.2 h3
  have e4 : (k == 4) = false := beq_eq_false_iff_ne.2 h4
  have e5 : (k == 5) = false := beq_eq_false_iff_ne.2 h5
  clear h1 h2 h3 h4 h5
  cases t
  all_goals
    go_enter Tryd.func58, Tryd.ntmps58
    go_wp2_with fail
    all_goals
      go_ret
      exact ⟨by first | (simp_all [plainN, nat_zero]; done) | (simp_all [plainN]; omega) | (simp_all [plainN, nat_zero]; omega), by repeat (first | exact Below.refl _ _ | refine Below.setCell ?_ (by simp <;> omega) _ | refine Below.alloc ?_ (by simp <;> omega) _)⟩

theorem plainV_any (k : Int) (t : Bool) (i : Int) (s : ByteArray) (av kv : Option Addr) (l : List Vl) (ks : List (List UInt8)) (c kc : Nat) (w : World) :
    Calls Tryd.prog 58 #[.agg #[.int .i64 k, .bool t, .int .i64 i, .string s, .slice av l.length c, .slice kv ks.length kc]] w fun e w' => e = .returned (.bool (plainB k t i s l ks)) ∧ Below w.heap.size w w' := by
  rw [← plainN_eq]
  by_cases h1 : k = 1
  · subst h1; exact plain1 t i s av kv l.length c ks.length kc w
  by_cases h2 : k = 2
  · subst h2; exact plain2 t i s av kv l.length c ks.length kc w
  by_cases h3 : k = 3
  · subst h3; exact plain3 t i s av kv l.length c ks.length kc w
  by_cases h4 : k = 4
  · subst h4; exact plain4 t i s av kv l.length c ks.length kc w
  by_cases h5 : k = 5
  · subst h5; exact plain5 t i s av kv l.length c ks.length kc w
  exact plainNo k h1 h2 h3 h4 h5 t i s av kv l.length c ks.length kc w
end Go.Proofs.YtabopneehhnhfabDoor
