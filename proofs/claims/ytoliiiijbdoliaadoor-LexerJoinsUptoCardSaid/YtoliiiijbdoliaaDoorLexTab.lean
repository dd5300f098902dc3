/- What the walks of the lexer's laws take from the listed variables and the state's shape; the state that the program's own initialisers leave meets the condition. -/
import Derived.Test.YtoliiiijbdoliaaDoorLexF
import Derived.ProofKit
import Derived.OpenShut
import Derived.LaidMore
import Derived.Lay
import Derived.Shelf.Vars
import Derived.HandedShaped
import Derived.Stop.Joined
import Derived.Stop.LaidErr
import Derived.Lib.LaidTab
namespace Go
open Go.RowKit Go.ChangeShapes
variable {H : Type} {enc : TypeId × Value → H}
/-- As 'returnsInHanded_of_change_and', and the contract is also given the shape of the state. -/
theorem returnsInHanded_of_change_andShaped {a : Assume} {C : Checked} {os : Os} {f : FuncId} {fn : Func} {s : ChangeSpec} {conds : List PathCond} {apart fresh handsOn again : Bool} {X : World → Array Value → Prop}
    (hX : ∀ (w w' : World) (args : Array Value), w.heap = w'.heap → X w args → X w' args)
    (own : ownKnob C.prog.godebug = none) (started : os.Started) (noInit : C.prog.inits.idxOf? f = none) (hfn : C.prog.funcs[f]? = some fn)
    (witness : ∃ (w : World) (tape : Tape) (i : Input), w.os = os ∧ (w.forCall tape i).Shaped C.prog ∧ i.vars = [] ∧ Input.okWide C.prog (w.forCall tape i) .any w.heap.size f i ∧
      ((s.pre enc C.prog fn conds apart (w.forCall tape i).memory i.args ∧ X (w.forCall tape i).memory i.args) ∧ sizedMet enc C.prog fn (OpenSpec.ofChange s) apart (w.forCall tape i).memory i.args) ∧ a.holds C.prog (lone (Frame.enter C.prog f i.args .normal) [] (w.forCall tape i)))
    (contract : ∀ (W : World) (base : Nat) (args : Array Value) (ds gs : List (DataW H)) (before : List MemPlace),
      (∀ (j : Nat) t v, fn.params[j]? = some t → args[j]? = some v → Value.okWide C.prog W .any base t v) →
      DataW.Whole enc C.prog fn.params.toList s.vars apart W args.toList ds gs before →
      conds.all (PathCond.test C.prog ⟨fn.params.toList, ds, s.plain.varTypes C.prog, gs⟩) = true →
      (DataW.weightsEach C.prog (fn.params.toList ++ s.plain.varTypes C.prog) (ds ++ gs)).all (· ≤ reachBytes) = true → X W args → W.ShapedOpen C.prog →
      a.holds C.prog (lone (Frame.enter C.prog f args .normal) [] W) →
      Calls C.prog f args W fun e W' => ∃ v, e = .returned v ∧ s.post enc C.prog fn apart fresh handsOn again W args v W') :
    ReturnsInHanded a C os f .any (fun w args => (s.pre enc C.prog fn conds apart w args ∧ X w args) ∧ sizedMet enc C.prog fn (OpenSpec.ofChange s) apart w args) (s.post enc C.prog fn apart fresh handsOn again) := by
  refine returnsInHanded_of_calls own started noInit witness ?_
  intro w tape i _ hsh _ hok hpre hholds
  obtain ⟨_, _, _, fn', hfn', _, _, _, _, hval⟩ := hok
  have e : fn' = fn := Option.some.inj (hfn'.symm.trans hfn)
  subst e
  obtain ⟨⟨⟨ds, gs, before, hw, hc⟩, hx⟩, hz⟩ := hpre
  have hw' := DataW.Whole.of_heap (w' := w.forCall tape i) (by rfl) hw
  refine (contract (w.forCall tape i) w.heap.size i.args ds gs before hval hw' hc (hz.weights hw) (hX _ _ _ (by rfl) hx) hsh hholds).mono fun e W' ⟨v, he, hp⟩ => ?_
  subst he
  exact ChangeSpec.post_blind hp
end Go
namespace Go.Proofs.YtoliiiijbdoliaaDoor
open Go.RowKit Go.Lib Go.ChangeShapes

def laid9 : List (String × DataW Unit) := [("math/bits.deBruijn32tab", Rows.laid_math_bits_deBruijn32tab), ("math/bits.deBruijn64tab", Rows.laid_math_bits_deBruijn64tab), ("internal/strconv.uint64pow10", Rows.laid_internal_strconv_uint64pow10), ("unicode/utf8.acceptRanges", Rows.laid_unicode_utf8_acceptRanges), ("strconv.ErrRange", Rows.laid_strconv_ErrRange), ("strconv.ErrSyntax", Rows.laid_strconv_ErrSyntax), ("pipeline/lexer.operators", Rows.laid_pipeline_lexer_operators), ("unicode/utf8.first", Rows.laid_unicode_utf8_first)]
set_option maxRecDepth 100000 in
theorem lay9_met (os : Os) (args : Array Value) : laidMetH Tryd.prog laid9 ((World.laidAll Tryd.prog os laid9).forCall (fun _ _ => 0) ⟨#[], args, []⟩).memory := by
  rw [MakeChecks.laidMetH_plain _ _ _ (by kernel_rfl)]
  exact laidMet_laidAll _ (by kernel_rfl) (by kernel_rfl)
theorem row_named : ∀ u, Tryd.prog.typeName? 3 u = some "*errors.errorString" → u = 111 := typeName_ptr_named (nm := "errors.errorString") (by kernel_rfl) (by kernel_rfl) (by decide)
set_option maxRecDepth 100000 in
theorem ops_of_trod {w : World} {fuel : Nat} {cs : List Value} {p : List MemPlace}
    (h : DataW.trod (H := Unit) (fun _ => ()) Tryd.prog w 0 (fun _ => true) false fuel 65 cs = some (Rows.laid_pipeline_lexer_operators, p)) : cs = opsV.toList := by
  obtain ⟨xs, m, _, hx, hl, hxl, hi⟩ := DataW.trod_array Tryd.underlying65 h
  rw [show Tryd.prog.cellsOf 65 = 25 from by kernel_rfl] at hl
  rw [show Tryd.prog.cellsOf 9 = 1 from by kernel_rfl] at hi
  have hxs : xs.map (·.1) = opsB.map (fun a => DataW.lit (.string a)) := congrArg (fun y : DataW Unit × List MemPlace => match y.1 with | .agg l => l | _ => []) hx.symm
  have ev : opsV.toList = opsB.map (fun a => Value.string ⟨a.toArray⟩) := rfl
  have el : opsB.length = 25 := rfl
  rw [ev]
  apply List.ext_getElem?
  intro i
  by_cases hi25 : i < 25
  · have hb : i < opsB.length := by rw [el]; exact hi25
    have h1 := hi i hi25
    have g : (xs.map (·.1))[i]? = some (DataW.lit (.string opsB[i])) := by rw [hxs, List.getElem?_map, List.getElem?_eq_getElem hb]; rfl
    rw [List.getElem?_map] at g
    obtain ⟨y, hy, e⟩ := Option.map_eq_some_iff.1 g
    rw [hy, Nat.mul_one] at h1
    obtain ⟨s, e2, e3, _⟩ := DataW.trod_string Tryd.underlying9 h1
    rw [e3] at e
    injection e with e
    injection e with e
    have h0 : cs[i]? = ((cs.drop i).take 1)[0]? := by simp
    rw [h0, e2, List.getElem?_map, List.getElem?_eq_getElem hb, ← e]
    rfl
  · rw [List.getElem?_eq_none (by omega), List.getElem?_eq_none (by rw [List.length_map, el]; omega)]
set_option maxRecDepth 100000 in
theorem tab9_of {W : World} (h : laidMetH Tryd.prog laid9 W) (hsh : W.ShapedOpen Tryd.prog) : TabL W := by
  rw [MakeChecks.laidMetH_plain _ _ _ (by kernel_rfl)] at h
  have h4 := h.tail.tail.tail.tail
  have h5 := h4.tail
  have h6 := h5.tail
  obtain ⟨a4, s4, hv4, _⟩ := laid_sentinel (P := Tryd.prog) (g := 3) (ti := 41) h4 (by kernel_rfl) (by kernel_rfl) Tryd.underlying41 row_named Tryd.underlying111 Tryd.underlying113 rfl rfl Tryd.underlying9 (by kernel_rfl) (by kernel_rfl)
  obtain ⟨a5, s5, hv5, _⟩ := laid_sentinel (P := Tryd.prog) (g := 2) (ti := 41) h5 (by kernel_rfl) (by kernel_rfl) Tryd.underlying41 row_named Tryd.underlying111 Tryd.underlying113 rfl rfl Tryd.underlying9 (by kernel_rfl) (by kernel_rfl)
  have c5 := World.var?_cell (g := 2) (by kernel_rfl) hv5 0
  have c4 := World.var?_cell (g := 3) (by kernel_rfl) hv4 0
  refine ⟨?_, ⟨_, _, c5⟩, ⟨_, _, c4⟩, cell_of_shapedOpen_int (t := 3) (zero := #[.int .i64 0]) hsh (of_decide_eq_true (by kernel_rfl)) (by kernel_rfl) rfl (by kernel_rfl) (by kernel_rfl) Tryd.underlying3⟩
  obtain ⟨ps, ⟨g', t', cs, fuel, p, q, hg', ht', hvar, hd, _, _⟩, _⟩ := h6
  have hg : Tryd.prog.globalNamed "pipeline/lexer.operators" = some 0 := by kernel_rfl
  obtain rfl := Option.some.inj (hg.symm.trans hg')
  have hty : (Tryd.prog.globals[0]?).map (·.type) = some 65 := by kernel_rfl
  obtain rfl := Option.some.inj (hty.symm.trans ht')
  unfold TabO
  rw [hvar]
  congr 1
  exact Array.toList_inj.1 (ops_of_trod hd)
end Go.Proofs.YtoliiiijbdoliaaDoor
