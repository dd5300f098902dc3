/- What the walks of duration's laws take from the listed variables; the state that the program's own initialisers leave meets the condition. -/
import Derived.Test.YtaalfnfikjmomaaDoorDurPd
import Derived.ProofKit
import Derived.OpenShut
import Derived.LaidMore
import Derived.Lay
import Derived.Shelf.Vars
import Derived.HandedShaped
import Derived.Stop.Joined
import Derived.Stop.LaidErr
import Derived.Lib.LaidTab
namespace Go.Proofs.YtaalfnfikjmomaaDoor
open Go.RowKit Go.Lib Go.ChangeShapes

def laid5 : List (String × DataW Unit) := [("math/bits.deBruijn32tab", Rows.laid_math_bits_deBruijn32tab), ("math/bits.deBruijn64tab", Rows.laid_math_bits_deBruijn64tab), ("internal/strconv.uint64pow10", Rows.laid_internal_strconv_uint64pow10), ("unicode/utf8.acceptRanges", Rows.laid_unicode_utf8_acceptRanges), ("strconv.ErrRange", Rows.laid_strconv_ErrRange), ("strconv.ErrSyntax", Rows.laid_strconv_ErrSyntax), ("pipeline/duration.units", Rows.laid_pipeline_duration_units), ("unicode/utf8.first", Rows.laid_unicode_utf8_first)]
set_option maxRecDepth 100000 in
theorem lay5_met (os : Os) (args : Array Value) : laidMetH Tryd.prog laid5 ((World.laidAll Tryd.prog os laid5).forCall (fun _ _ => 0) ⟨#[], args, []⟩).memory := by
  rw [MakeChecks.laidMetH_plain _ _ _ (by kernel_rfl)]
  exact laidMet_laidAll _ (by kernel_rfl) (by kernel_rfl)
theorem row_named : ∀ u, Tryd.prog.typeName? 3 u = some "*errors.errorString" → u = 103 := typeName_ptr_named (nm := "errors.errorString") (by kernel_rfl) (by kernel_rfl) (by decide)
set_option maxRecDepth 100000 in
theorem unit_of_trod {w : World} {fuel : Nat} {cs : List Value} {p : List MemPlace} {x : List UInt8} {b c : Int}
    (h : DataW.trod (H := Unit) (fun _ => ()) Tryd.prog w 0 (fun _ => true) false fuel 40 cs = some (.agg [.lit (.string x), .lit (.int .i64 b), .lit (.int .i64 c)], p)) : cs = [.string ⟨x.toArray⟩, .int .i64 b, .int .i64 c] := by
  cases fuel with
  | zero => simp [DataW.trod] at h
  | succ fuel =>
    have hct : Tryd.prog.cellsOf 40 = 3 := by kernel_rfl
    have hcs : Tryd.prog.cellsOf 9 = 1 := by kernel_rfl
    have hci : Tryd.prog.cellsOf 3 = 1 := by kernel_rfl
    simp only [DataW.trod, Tryd.underlying40, hct] at h
    split at h
    · rename_i hl
      obtain ⟨a0, a1, a2, rfl⟩ : ∃ a0 a1 a2, cs = [a0, a1, a2] := by
        match cs, hl with
        | [a0, a1, a2], _ => exact ⟨a0, a1, a2, rfl⟩
      obtain ⟨xs, hm, hx⟩ := Option.map_eq_some_iff.1 h
      obtain ⟨y0, e0, f0⟩ := mapM_at hm 0 _ rfl
      obtain ⟨y1, e1, f1⟩ := mapM_at hm 1 _ rfl
      obtain ⟨y2, e2, f2⟩ := mapM_at hm 2 _ rfl
      simp only [hcs, hci, List.drop_zero, List.drop_succ_cons, List.take_succ_cons, List.take_zero] at f0 f1 f2
      obtain ⟨s0, h0, rfl, _⟩ := DataW.trod_string Tryd.underlying9 f0
      obtain ⟨n1, h1, rfl, _⟩ := DataW.trod_int Tryd.underlying3 f1
      obtain ⟨n2, h2, rfl, _⟩ := DataW.trod_int Tryd.underlying3 f2
      have hxs : xs.map (·.1) = [.lit (.string x), .lit (.int .i64 b), .lit (.int .i64 c)] := by
        have := congrArg Prod.fst hx
        simpa using this
      have g0 := congrArg (·[0]?) hxs
      have g1 := congrArg (·[1]?) hxs
      have g2 := congrArg (·[2]?) hxs
      simp [List.getElem?_map, e0, e1, e2] at g0 g1 g2
      simp only [List.cons.injEq, and_true] at h0 h1 h2
      subst h0 h1 h2 g0 g1 g2
      simp
    · cases h
set_option maxRecDepth 100000 in
theorem flat5 {cs : List Value} (hl : cs.length = 15) {l : List (List Value)} (h : ∀ i, i < 5 → (cs.drop (i * 3)).take 3 = l.getD i []) : cs = l.getD 0 [] ++ (l.getD 1 [] ++ (l.getD 2 [] ++ (l.getD 3 [] ++ l.getD 4 []))) := by
  rw [← h 0 (by omega), ← h 1 (by omega), ← h 2 (by omega), ← h 3 (by omega), ← h 4 (by omega)]
  match cs, hl with
  | [a0, a1, a2, a3, a4, a5, a6, a7, a8, a9, a10, a11, a12, a13, a14], _ => rfl
set_option maxRecDepth 100000 in
theorem units_of_trod {w : World} {fuel : Nat} {cs : List Value} {p : List MemPlace}
    (h : DataW.trod (H := Unit) (fun _ => ()) Tryd.prog w 0 (fun _ => true) false fuel 41 cs = some (Rows.laid_pipeline_duration_units, p)) : cs = unitsA.toList := by
  cases fuel with
  | zero => simp [DataW.trod] at h
  | succ fuel =>
    have hct : Tryd.prog.cellsOf 41 = 15 := by kernel_rfl
    have hcu : Tryd.prog.cellsOf 40 = 3 := by kernel_rfl
    simp only [DataW.trod, Tryd.underlying41, hct, hcu] at h
    split at h
    · rename_i hl
      obtain ⟨xs, hm, hx⟩ := Option.map_eq_some_iff.1 h
      have hxs : xs.map (·.1) = _ := congrArg (fun y : DataW Unit × List MemPlace => match y.1 with | .agg l => l | _ => []) hx
      have key : ∀ i (a : List UInt8) (b c : Int), i < 5 → (xs.map (·.1))[i]? = some (.agg [.lit (.string a), .lit (.int .i64 b), .lit (.int .i64 c)]) → (cs.drop (i * 3)).take 3 = [.string ⟨a.toArray⟩, .int .i64 b, .int .i64 c] := by
        intro i a b c hi hg
        obtain ⟨y, hy, hf⟩ := mapM_at hm i i (by simp [hi])
        rw [List.getElem?_map, hy] at hg
        obtain ⟨d, q⟩ := y
        simp at hg
        subst hg
        exact unit_of_trod hf
      rw [hxs] at key
      refine (flat5 hl (l := [[.string ⟨#[100]⟩, .int .i64 86400000, .int .i64 9223372036854775807], [.string ⟨#[104]⟩, .int .i64 3600000, .int .i64 23], [.string ⟨#[109]⟩, .int .i64 60000, .int .i64 59], [.string ⟨#[115]⟩, .int .i64 1000, .int .i64 59], [.string ⟨#[109, 115]⟩, .int .i64 1, .int .i64 999]]) ?_).trans rfl
      intro i hi
      rcases (show i = 0 ∨ i = 1 ∨ i = 2 ∨ i = 3 ∨ i = 4 by omega) with rfl | rfl | rfl | rfl | rfl
      · exact key 0 _ _ _ (by omega) rfl
      · exact key 1 _ _ _ (by omega) rfl
      · exact key 2 _ _ _ (by omega) rfl
      · exact key 3 _ _ _ (by omega) rfl
      · exact key 4 _ _ _ (by omega) rfl
    · cases h
set_option maxRecDepth 100000 in
theorem tab5_of {W : World} (h : laidMetH Tryd.prog laid5 W) : TabD W := by
  rw [MakeChecks.laidMetH_plain _ _ _ (by kernel_rfl)] at h
  have h2 := h.tail.tail
  have h4 := h2.tail.tail
  have h6 := h4.tail.tail
  have ht := tabIs_of_head (k := .u64) (zs := Lib.pow10Tab) (P := Tryd.prog) (g := 3) (t := 96) (e := 46) (n := 20) (by kernel_rfl) (by kernel_rfl) Tryd.underlying96 Tryd.underlying46 (by kernel_rfl) (by kernel_rfl) h2
  obtain ⟨a4, s4, hv4, _⟩ := laid_sentinel (P := Tryd.prog) (g := 2) (ti := 50) h4 (by kernel_rfl) (by kernel_rfl) Tryd.underlying50 row_named Tryd.underlying103 Tryd.underlying105 rfl rfl Tryd.underlying9 (by kernel_rfl) (by kernel_rfl)
  refine ⟨?_, ht, _, _, hv4⟩
  obtain ⟨ps, ⟨g', t', cs, fuel, p, q, hg', ht', hvar, hd, _, _⟩, _⟩ := h6
  have hg : Tryd.prog.globalNamed "pipeline/duration.units" = some 0 := by kernel_rfl
  obtain rfl := Option.some.inj (hg.symm.trans hg')
  have hty : (Tryd.prog.globals[0]?).map (·.type) = some 41 := by kernel_rfl
  obtain rfl := Option.some.inj (hty.symm.trans ht')
  rw [hvar]
  congr 1
  exact Array.toList_inj.1 (units_of_trod hd)
end Go.Proofs.YtaalfnfikjmomaaDoor
