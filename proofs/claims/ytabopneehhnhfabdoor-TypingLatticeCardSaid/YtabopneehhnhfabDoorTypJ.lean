/- The tables of names and kinds; contracts of the program's text and Show (typing). -/
import Derived.Test.YtabopneehhnhfabDoorTypI
import Derived.Lib.SmallJoins
import Derived.Shelf.Vars
namespace Go.Proofs.YtabopneehhnhfabDoor
open Go.RowKit Go.Lib

def namesA : Array Value := #[.string ⟨#[97, 110, 121]⟩, .string ⟨#[110, 117, 108, 108]⟩, .string ⟨#[98, 111, 111, 108]⟩, .string ⟨#[105, 110, 116]⟩, .string ⟨#[115, 116, 114, 105, 110, 103]⟩, .string ⟨#[108, 105, 115, 116]⟩, .string ⟨#[109, 97, 112]⟩, .string ⟨#[110, 101, 118, 101, 114]⟩]
def kindsA : Array Value := #[.int .i64 1, .int .i64 2, .int .i64 3, .int .i64 4, .int .i64 5, .int .i64 6]
/-- What the listed variables give. -/
def TabT (w : World) : Prop := w.var? Tryd.prog "pipeline/typing.names" = some namesA ∧ w.var? Tryd.prog "pipeline/typing.kindsOf" = some kindsA
theorem TabT.below {w w' : World} (h : TabT w) (hb : Below w.heap.size w w') : TabT w' :=
  ⟨Joins.var_stays (g := 1) (by kernel_rfl) h.1 hb (Nat.le_refl _), Joins.var_stays (g := 0) (by kernel_rfl) h.2 hb (Nat.le_refl _)⟩
theorem TabT.drew {w : World} (h : TabT w) : TabT w.drew := h.below (Below.refl _ _).drew
theorem names_cell {w : World} (h : TabT w) (k : Nat) : w.cell? ⟨1, k, none⟩ = namesA[k]? := World.var?_cell (g := 1) (by kernel_rfl) h.1 k
theorem kinds_cell {w : World} (h : TabT w) (k : Nat) : w.cell? ⟨0, k, none⟩ = kindsA[k]? := World.var?_cell (g := 0) (by kernel_rfl) h.2 k
theorem names_cells {w : World} (h : TabT w) : w.cell? ⟨1, 0, none⟩ = some (.string ⟨#[97, 110, 121]⟩) ∧ w.cell? ⟨1, 1, none⟩ = some (.string ⟨#[110, 117, 108, 108]⟩) ∧ w.cell? ⟨1, 2, none⟩ = some (.string ⟨#[98, 111, 111, 108]⟩) ∧ w.cell? ⟨1, 3, none⟩ = some (.string ⟨#[105, 110, 116]⟩)
    ∧ w.cell? ⟨1, 4, none⟩ = some (.string ⟨#[115, 116, 114, 105, 110, 103]⟩) ∧ w.cell? ⟨1, 5, none⟩ = some (.string ⟨#[108, 105, 115, 116]⟩) ∧ w.cell? ⟨1, 6, none⟩ = some (.string ⟨#[109, 97, 112]⟩) ∧ w.cell? ⟨1, 7, none⟩ = some (.string ⟨#[110, 101, 118, 101, 114]⟩) :=
  ⟨names_cell h 0, names_cell h 1, names_cell h 2, names_cell h 3, names_cell h 4, names_cell h 5, names_cell h 6, names_cell h 7⟩
theorem kinds_cells {w : World} (h : TabT w) : w.cell? ⟨0, 0, none⟩ = some (.int .i64 1) ∧ w.cell? ⟨0, 1, none⟩ = some (.int .i64 2) ∧ w.cell? ⟨0, 2, none⟩ = some (.int .i64 3) ∧ w.cell? ⟨0, 3, none⟩ = some (.int .i64 4) ∧ w.cell? ⟨0, 4, none⟩ = some (.int .i64 5) ∧ w.cell? ⟨0, 5, none⟩ = some (.int .i64 6) :=
  ⟨kinds_cell h 0, kinds_cell h 1, kinds_cell h 2, kinds_cell h 3, kinds_cell h 4, kinds_cell h 5⟩

theorem leaf_no {k : Int} (h : leafK k) : nodeB k = false := by
  have ha' : k = 0 ∨ k = 1 ∨ k = 2 ∨ k = 3 ∨ k = 4 ∨ k = 7 := h
  simp [nodeB]
  omega
theorem node_yes {k : Int} (h : nodeK k) : nodeB k = true := by
  have ha' : k = 5 ∨ k = 6 := h
  simp [nodeB]
  omega
set_option maxHeartbeats 4000000 in
theorem text_leaf (k : Int) (hk : leafK k) (av : Option Addr) (c : Nat) (w : World) (hT : TabT w) :
    Calls Tryd.prog 51 #[.agg #[.int .i64 k, .slice av 0 c]] w fun e w' => e = .returned (.string ⟨(nameL k).toArray⟩) ∧ Below w.heap.size w w' := by
  obtain ⟨c0, c1, c2, c3, c4, c5, c6, c7⟩ := names_cells hT
  have hg := World.block_lt_of_cell? w _ c0
  have Y := Lib.hid (fun w => tyCompound_any k w)
  rw [leaf_no hk] at Y
  clear hT
  rcases hk with rfl | rfl | rfl | rfl | rfl | rfl
  all_goals
    go_enter Tryd.func51, Tryd.ntmps51
    go_wp2_with fail
    go_fit (Y.out _)
    rintro e w1 ⟨rfl, rfl⟩
    go_wp2_with fail
    go_ret
    exact ⟨rfl, (by repeat (first | exact Below.refl _ _ | refine Below.setCell ?_ (by simp <;> omega) _ | refine Below.alloc ?_ (by simp <;> omega) _))⟩
theorem app_str (a b : List UInt8) : (⟨a.toArray⟩ : ByteArray) ++ ⟨b.toArray⟩ = ⟨(a ++ b).toArray⟩ := by
  apply ByteArray.ext
  apply Array.toList_inj.1
  simp
set_option maxHeartbeats 4000000 in
theorem text_any : ∀ (t : Tc) (V : Value) (w : World), t.ok → t.deep ≤ 16 → IsC w V t → TabT w → Calls Tryd.prog 51 #[V] w fun e w' => e = .returned (.string ⟨(textC t).toArray⟩) ∧ Below w.heap.size w w' := by
  intro t
  induction t with
  | leaf k =>
    intro V w ht _ hV hT
    obtain ⟨av, c, rfl, _⟩ := hV
    exact text_leaf k ht av c w hT
  | node k s ih =>
    intro V w ht hd hV hT
    obtain ⟨av, c, rfl, ba, oa, xa, ya, rfl, za, p0, p1, hTA2⟩ := hV
    obtain ⟨c0, c1, c2, c3, c4, c5, c6, c7⟩ := names_cells hT
    have hg := World.block_lt_of_cell? w _ c0
    have Y := Lib.hid (fun w => tyCompound_any k w)
    rw [node_yes ht.1] at Y
    have hd' : s.deep ≤ 16 := Nat.le_trans (Nat.le_succ _) hd
    have IH := Lib.hid (fun w' (h : Below w.heap.size w w') => ih (.agg #[.int .i64 s.kd, .slice xa s.ln ya]) w' ht.2 hd' ⟨xa, ya, rfl, TailC.below h s xa hTA2⟩ (hT.below h))
    have hln := textC_len s
    obtain ⟨x, hx⟩ : ∃ x : ByteArray, x = ⟨(textC s).toArray⟩ := ⟨_, rfl⟩
    have hxz : x.size ≤ 128 := by rw [hx]; show (textC s).length ≤ 128; omega
    rw [← hx] at IH
    have HX := Lib.hid hx
    show Calls Tryd.prog 51 #[.agg #[.int .i64 k, .slice (some ⟨ba, oa, none⟩) 1 c]] w _
    have hk : k = 5 ∨ k = 6 := ht.1
    clear hT ht hTA2 ih hx hln hd hd'
    rcases hk with rfl | rfl
    · have s1 := fun w => run_string_add_sum (P := Tryd.prog) w ⟨#[108, 105, 115, 116]⟩ ⟨#[40]⟩ (by decide)
      have s2 := fun w => run_string_add_sum (P := Tryd.prog) w (⟨#[108, 105, 115, 116]⟩ ++ ⟨#[40]⟩) x (by rw [ByteArray.size_append]; have : (⟨#[108, 105, 115, 116]⟩ : ByteArray).size = 4 := rfl; have : (⟨#[40]⟩ : ByteArray).size = 1 := rfl; omega)
      have s3 := fun w => run_string_add_sum (P := Tryd.prog) w (⟨#[108, 105, 115, 116]⟩ ++ ⟨#[40]⟩ ++ x) ⟨#[41]⟩ (by rw [ByteArray.size_append, ByteArray.size_append]; have : (⟨#[108, 105, 115, 116]⟩ : ByteArray).size = 4 := rfl; have : (⟨#[40]⟩ : ByteArray).size = 1 := rfl; have : (⟨#[41]⟩ : ByteArray).size = 1 := rfl; omega)
      go_enter Tryd.func51, Tryd.ntmps51
      go_wp2_with fail
      go_fit (Y.out _)
      rintro e w1 ⟨rfl, rfl⟩
      go_wp2_with fail
      go_fit (IH.out _ (by repeat (first | exact Below.refl _ _ | refine Below.setCell ?_ (by simp <;> omega) _ | refine Below.alloc ?_ (by simp <;> omega) _)))
      rintro e w2 ⟨rfl, hb2⟩
      have B2 := Lib.hid (Below.trans (show Below w.heap.size w _ from (by repeat (first | exact Below.refl _ _ | refine Below.setCell ?_ (by simp <;> omega) _ | refine Below.alloc ?_ (by simp <;> omega) _))) (hb2.mono (by simp <;> omega)))
      clear hb2
      go_wp2_with fail
      go_ret
      exact ⟨by rw [HX.out, show (⟨#[108, 105, 115, 116]⟩ : ByteArray) = ⟨[108, 105, 115, 116].toArray⟩ from rfl, show (⟨#[40]⟩ : ByteArray) = ⟨[40].toArray⟩ from rfl, show (⟨#[41]⟩ : ByteArray) = ⟨[41].toArray⟩ from rfl, app_str, app_str, app_str, List.append_assoc, List.append_assoc]; rfl, B2.out⟩
    · have s1 := fun w => run_string_add_sum (P := Tryd.prog) w ⟨#[109, 97, 112]⟩ ⟨#[40]⟩ (by decide)
      have s2 := fun w => run_string_add_sum (P := Tryd.prog) w (⟨#[109, 97, 112]⟩ ++ ⟨#[40]⟩) x (by rw [ByteArray.size_append]; have : (⟨#[109, 97, 112]⟩ : ByteArray).size = 3 := rfl; have : (⟨#[40]⟩ : ByteArray).size = 1 := rfl; omega)
      have s3 := fun w => run_string_add_sum (P := Tryd.prog) w (⟨#[109, 97, 112]⟩ ++ ⟨#[40]⟩ ++ x) ⟨#[41]⟩ (by rw [ByteArray.size_append, ByteArray.size_append]; have : (⟨#[109, 97, 112]⟩ : ByteArray).size = 3 := rfl; have : (⟨#[40]⟩ : ByteArray).size = 1 := rfl; have : (⟨#[41]⟩ : ByteArray).size = 1 := rfl; omega)
      go_enter Tryd.func51, Tryd.ntmps51
      go_wp2_with fail
      go_fit (Y.out _)
      rintro e w1 ⟨rfl, rfl⟩
      go_wp2_with fail
      go_fit (IH.out _ (by repeat (first | exact Below.refl _ _ | refine Below.setCell ?_ (by simp <;> omega) _ | refine Below.alloc ?_ (by simp <;> omega) _)))
      rintro e w2 ⟨rfl, hb2⟩
      have B2 := Lib.hid (Below.trans (show Below w.heap.size w _ from (by repeat (first | exact Below.refl _ _ | refine Below.setCell ?_ (by simp <;> omega) _ | refine Below.alloc ?_ (by simp <;> omega) _))) (hb2.mono (by simp <;> omega)))
      clear hb2
      go_wp2_with fail
      go_ret
      exact ⟨by rw [HX.out, show (⟨#[109, 97, 112]⟩ : ByteArray) = ⟨[109, 97, 112].toArray⟩ from rfl, show (⟨#[40]⟩ : ByteArray) = ⟨[40].toArray⟩ from rfl, show (⟨#[41]⟩ : ByteArray) = ⟨[41].toArray⟩ from rfl, app_str, app_str, app_str, List.append_assoc, List.append_assoc]; rfl, B2.out⟩

/-- Show: the text of a valid type, and nothing otherwise. -/
def showT (x : Ty) : List UInt8 := if okB x then textC (tcOf x) else []
set_option maxHeartbeats 1000000 in
theorem Show_any (m : Nat) (V : Value) (x : Ty) (w : World) (hV : IsT m w V x) (hT : TabT w) :
    Calls Tryd.prog 28 #[V] w fun e w' => e = .returned (.string ⟨(showT x).toArray⟩) ∧ Below w.heap.size w w' := by
  have X := Lib.hid (fun w' (h : Below w.heap.size w w') => validT_any m V x w' (hV.below h))
  cases hq : okB x
  · have E := Lib.hid (show showT x = [] by unfold showT; rw [hq]; rfl)
    have hne : (((chkT 16 x : Nat) : Int) != 0) = true := by
      unfold okB at hq
      simp at hq ⊢
      omega
    obtain ⟨k, l, av, c, rfl, rfl, _, _, _⟩ := hV
    generalize chkT 16 (.mk k l) = p at X hne
    clear hq hT
    go_enter Tryd.func28, Tryd.ntmps28
    go_wp2_with fail
    go_fit (X.out _ (by repeat (first | exact Below.refl _ _ | refine Below.setCell ?_ (by simp <;> omega) _ | refine Below.alloc ?_ (by simp <;> omega) _)))
    rintro e w1 ⟨rfl, hb1⟩
    have B1 := Lib.hid (Below.trans (show Below w.heap.size w _ from (by repeat (first | exact Below.refl _ _ | refine Below.setCell ?_ (by simp <;> omega) _ | refine Below.alloc ?_ (by simp <;> omega) _))) (hb1.mono (by simp <;> omega)))
    clear hb1
    go_wp2_with fail
    go_ret
    exact ⟨by rw [E.out]; rfl, B1.out⟩
  · have E := Lib.hid (show showT x = textC (tcOf x) by unfold showT; rw [hq]; rfl)
    have hne : (((chkT 16 x : Nat) : Int) != 0) = false := by
      unfold okB at hq
      simp at hq ⊢
      omega
    have Y := Lib.hid (fun w' (h : Below w.heap.size w w') => text_any (tcOf x) V w' (ok_tc hq).2.1 (ok_tc hq).2.2 ((isC_ok hV hq).below h) (hT.below h))
    obtain ⟨k, l, av, c, rfl, rfl, _, _, _⟩ := hV
    generalize chkT 16 (.mk k l) = p at X hne
    clear hq hT
    go_enter Tryd.func28, Tryd.ntmps28
    go_wp2_with fail
    go_fit (X.out _ (by repeat (first | exact Below.refl _ _ | refine Below.setCell ?_ (by simp <;> omega) _ | refine Below.alloc ?_ (by simp <;> omega) _)))
    rintro e w1 ⟨rfl, hb1⟩
    have TA := (TwoAt.new _ 24 (.int .i64 k) (.slice av l.length c)).below hb1
    have B1 := Lib.hid (Below.trans (show Below w.heap.size w _ from (by repeat (first | exact Below.refl _ _ | refine Below.setCell ?_ (by simp <;> omega) _ | refine Below.alloc ?_ (by simp <;> omega) _))) (hb1.mono (by simp <;> omega)))
    have c0 := TA.cell0
    have c1 := TA.cell1
    clear hb1
    go_wp2_with fail
    go_fit (Y.out _ B1.out)
    rintro e w2 ⟨rfl, hb2⟩
    have B2 := Lib.hid (B1.out.trans (hb2.mono B1.out.size))
    clear hb2
    go_wp2_with fail
    go_ret
    exact ⟨by rw [E.out]; rfl, B2.out⟩
end Go.Proofs.YtabopneehhnhfabDoor
