/- What the walks of typing's laws take from the listed variables; the state that the program's own initialisers leave meets the condition. -/
import Derived.Test.YtabopneehhnhfabDoorTypJ
import Derived.ProofKit
import Derived.OpenShut
import Derived.LaidMore
import Derived.Lay
import Derived.Shelf.Vars
import Derived.HandedShaped
import Derived.Stop.Joined
import Derived.Stop.LaidErr
import Derived.Lib.LaidTab
namespace Go.Proofs.YtabopneehhnhfabDoor
open Go.RowKit Go.Lib Go.ChangeShapes

def laid8 : List (String × DataW Unit) := [("unicode/utf8.acceptRanges", Rows.laid_unicode_utf8_acceptRanges), ("pipeline/typing.names", Rows.laid_pipeline_typing_names), ("pipeline/typing.kindsOf", Rows.laid_pipeline_typing_kindsOf), ("unicode/utf8.first", Rows.laid_unicode_utf8_first)]
set_option maxRecDepth 100000 in
theorem lay8_met (os : Os) (args : Array Value) : laidMetH Tryd.prog laid8 ((World.laidAll Tryd.prog os laid8).forCall (fun _ _ => 0) ⟨#[], args, []⟩).memory := by
  rw [MakeChecks.laidMetH_plain _ _ _ (by kernel_rfl)]
  exact laidMet_laidAll _ (by kernel_rfl) (by kernel_rfl)
theorem eight {l : List Value} (h : l.length = 8) {f : Nat → Value} (hf : ∀ i, i < 8 → (l.drop i).take 1 = [f i]) : l = [f 0, f 1, f 2, f 3, f 4, f 5, f 6, f 7] := by
  match l, h with
  | [a, b, c, d, e, g, i, j], _ =>
    have h0 := hf 0 (by omega)
    have h1 := hf 1 (by omega)
    have h2 := hf 2 (by omega)
    have h3 := hf 3 (by omega)
    have h4 := hf 4 (by omega)
    have h5 := hf 5 (by omega)
    have h6 := hf 6 (by omega)
    have h7 := hf 7 (by omega)
    simp at h0 h1 h2 h3 h4 h5 h6 h7
    rw [h0, h1, h2, h3, h4, h5, h6, h7]
set_option maxRecDepth 100000 in
theorem names_of_trod {w : World} {fuel : Nat} {cs : List Value} {p : List MemPlace}
    (h : DataW.trod (H := Unit) (fun _ => ()) Tryd.prog w 0 (fun _ => true) false fuel 62 cs = some (Rows.laid_pipeline_typing_names, p)) : cs = namesA.toList := by
  obtain ⟨xs, m, _, hx, hl, hxl, hi⟩ := DataW.trod_array Tryd.underlying62 h
  rw [show Tryd.prog.cellsOf 62 = 8 from by kernel_rfl] at hl
  rw [show Tryd.prog.cellsOf 9 = 1 from by kernel_rfl] at hi
  have hxs : xs.map (·.1) = _ := congrArg (fun y : DataW Unit × List MemPlace => match y.1 with | .agg l => l | _ => []) hx.symm
  have key : ∀ i (a : List UInt8), i < 8 → (xs.map (·.1))[i]? = some (.lit (.string a)) → (cs.drop i).take 1 = [.string ⟨a.toArray⟩] := by
    intro i a hi8 hg
    have h1 := hi i hi8
    rw [List.getElem?_map] at hg
    obtain ⟨y, hy, e⟩ := Option.map_eq_some_iff.1 hg
    rw [hy, Nat.mul_one] at h1
    obtain ⟨s, e2, e3, _⟩ := DataW.trod_string Tryd.underlying9 h1
    rw [e3] at e
    injection e with e
    injection e with e
    rw [e2, ← e]
  rw [hxs] at key
  refine (eight hl (f := fun i => match i with | 0 => .string ⟨#[97, 110, 121]⟩ | 1 => .string ⟨#[110, 117, 108, 108]⟩ | 2 => .string ⟨#[98, 111, 111, 108]⟩ | 3 => .string ⟨#[105, 110, 116]⟩ | 4 => .string ⟨#[115, 116, 114, 105, 110, 103]⟩ | 5 => .string ⟨#[108, 105, 115, 116]⟩ | 6 => .string ⟨#[109, 97, 112]⟩ | _ => .string ⟨#[110, 101, 118, 101, 114]⟩) ?_).trans rfl
  intro i hi8
  rcases (show i = 0 ∨ i = 1 ∨ i = 2 ∨ i = 3 ∨ i = 4 ∨ i = 5 ∨ i = 6 ∨ i = 7 by omega) with rfl | rfl | rfl | rfl | rfl | rfl | rfl | rfl
  · exact key 0 _ (by omega) rfl
  · exact key 1 _ (by omega) rfl
  · exact key 2 _ (by omega) rfl
  · exact key 3 _ (by omega) rfl
  · exact key 4 _ (by omega) rfl
  · exact key 5 _ (by omega) rfl
  · exact key 6 _ (by omega) rfl
  · exact key 7 _ (by omega) rfl
set_option maxRecDepth 100000 in
theorem tab8_of {W : World} (h : laidMetH Tryd.prog laid8 W) : TabT W := by
  rw [MakeChecks.laidMetH_plain _ _ _ (by kernel_rfl)] at h
  have h1 := h.tail
  have h2 := h1.tail
  have hk := tabIs_of_head (k := .i64) (zs := [1, 2, 3, 4, 5, 6]) (P := Tryd.prog) (g := 0) (t := 58) (e := 3) (n := 6) (by kernel_rfl) (by kernel_rfl) Tryd.underlying58 Tryd.underlying3 (by kernel_rfl) (by kernel_rfl) h2
  refine ⟨?_, hk⟩
  obtain ⟨ps, ⟨g', t', cs, fuel, p, q, hg', ht', hvar, hd, _, _⟩, _⟩ := h1
  have hg : Tryd.prog.globalNamed "pipeline/typing.names" = some 1 := by kernel_rfl
  obtain rfl := Option.some.inj (hg.symm.trans hg')
  have hty : (Tryd.prog.globals[1]?).map (·.type) = some 62 := by kernel_rfl
  obtain rfl := Option.some.inj (hty.symm.trans ht')
  rw [hvar]
  congr 1
  exact Array.toList_inj.1 (names_of_trod hd)
end Go.Proofs.YtabopneehhnhfabDoor
