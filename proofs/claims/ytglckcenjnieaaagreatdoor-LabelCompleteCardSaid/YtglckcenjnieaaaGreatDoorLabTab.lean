/- What the walks of the label's laws take from the listed variables and the state's shape; the state that the program's own initialisers leave meets the condition. -/
import Derived.Test.YtglckcenjnieaaaGreatDoorLaX
import Derived.ProofKit
import Derived.OpenShut
import Derived.LaidMore
import Derived.Lay
import Derived.Shelf.Vars
import Derived.HandedShaped
import Derived.Stop.Joined
import Derived.Stop.LaidErr
import Derived.ChangeArms
import Derived.Lib.LaidTab
namespace Go
open Go.RowKit Go.ChangeShapes
variable {H : Type} {enc : TypeId × Value → H}
/-- As 'returnsInHanded_of_change_and', and the contract is also given the shape of the state. -/
theorem returnsInHanded_of_change_andShaped {a : Assume} {C : Checked} {os : Os} {f : FuncId} {fn : Func} {s : ChangeSpec} {conds : List PathCond} {apart fresh handsOn again : Bool} {X : World → Array Value → Prop}
    (hX : ∀ (w w' : World) (args : Array Value), w.heap = w'.heap → X w args → X w' args)
    (own : ownKnob C.prog.godebug = none) (started : os.Started) (noInit : C.prog.inits.idxOf? f = none) (hfn : C.prog.funcs[f]? = some fn)
    (witness : ∃ (w : World) (tape : Tape) (i : Input), w.os = os ∧ (w.forCall tape i).Shaped C.prog ∧ i.vars = [] ∧ Input.okWide C.prog (w.forCall tape i) .any w.heap.size f i ∧
      ((s.pre enc C.prog fn conds apart (w.forCall tape i).memory i.args ∧ X (w.forCall tape i).memory i.args) ∧ sizedMet enc C.prog fn (OpenSpec.ofChange s) apart (w.forCall tape i).memory i.args) ∧ a.holds C.prog (lone (Frame.enter C.prog f i.args .normal) [] (w.forCall tape i)))
    (contract : ∀ (W : World) (base : Nat) (args : Array Value) (ds gs : List (DataW H)) (before : List MemPlace),
      (∀ (j : Nat) t v, fn.params[j]? = some t → args[j]? = some v → Value.okWide C.prog W .any base t v) →
      DataW.Whole enc C.prog fn.params.toList s.vars apart W args.toList ds gs before →
      conds.all (PathCond.test C.prog ⟨fn.params.toList, ds, s.plain.varTypes C.prog, gs⟩) = true →
      (DataW.weightsEach C.prog (fn.params.toList ++ s.plain.varTypes C.prog) (ds ++ gs)).all (· ≤ reachBytes) = true → X W args → W.ShapedOpen C.prog →
      a.holds C.prog (lone (Frame.enter C.prog f args .normal) [] W) →
      Calls C.prog f args W fun e W' => ∃ v, e = .returned v ∧ s.post enc C.prog fn apart fresh handsOn again W args v W') :
    ReturnsInHanded a C os f .any (fun w args => (s.pre enc C.prog fn conds apart w args ∧ X w args) ∧ sizedMet enc C.prog fn (OpenSpec.ofChange s) apart w args) (s.post enc C.prog fn apart fresh handsOn again) := by
  refine returnsInHanded_of_calls own started noInit witness ?_
  intro w tape i _ hsh _ hok hpre hholds
  obtain ⟨_, _, _, fn', hfn', _, _, _, _, hval⟩ := hok
  have e : fn' = fn := Option.some.inj (hfn'.symm.trans hfn)
  subst e
  obtain ⟨⟨⟨ds, gs, before, hw, hc⟩, hx⟩, hz⟩ := hpre
  have hw' := DataW.Whole.of_heap (w' := w.forCall tape i) (by rfl) hw
  refine (contract (w.forCall tape i) w.heap.size i.args ds gs before hval hw' hc (hz.weights hw) (hX _ _ _ (by rfl) hx) hsh hholds).mono fun e W' ⟨v, he, hp⟩ => ?_
  subst he
  exact ChangeSpec.post_blind hp
end Go
namespace Go.Proofs.YtglckcenjnieaaaGreatDoor
open Go.RowKit Go.Lib Go.ChangeShapes

def laid21 : List (String × DataW Unit) := [("math/bits.deBruijn32tab", Rows.laid_math_bits_deBruijn32tab), ("math/bits.deBruijn64tab", Rows.laid_math_bits_deBruijn64tab), ("internal/strconv.uint64pow10", Rows.laid_internal_strconv_uint64pow10), ("unicode/utf8.acceptRanges", Rows.laid_unicode_utf8_acceptRanges), ("strconv.ErrRange", Rows.laid_strconv_ErrRange), ("strconv.ErrSyntax", Rows.laid_strconv_ErrSyntax), ("pipeline/label.comparisons", Rows.laid_pipeline_label_comparisons), ("unicode/utf8.first", Rows.laid_unicode_utf8_first)]
set_option maxRecDepth 100000 in
theorem lay21_met (os : Os) (args : Array Value) : laidMetH Tryz.prog laid21 ((World.laidAll Tryz.prog os laid21).forCall (fun _ _ => 0) ⟨#[], args, []⟩).memory := by
  rw [MakeChecks.laidMetH_plain _ _ _ (by kernel_rfl)]
  exact laidMet_laidAll _ (by kernel_rfl) (by kernel_rfl)
theorem threeL {α : Type} {l : List α} (h : l.length = 3) : ∃ a b c, l = [a, b, c] := by
  match l, h with
  | [a, b, c], _ => exact ⟨a, b, c, rfl⟩
set_option maxRecDepth 100000 in
theorem comp_of_trod {w : World} {fuel : Nat} {cs : List Value} {y : DataW Unit × List MemPlace} {a : List UInt8} {b c : Bool}
    (h : DataW.trod (H := Unit) (fun _ => ()) Tryz.prog w 0 (fun _ => true) false fuel 73 cs = some y) (hy : y.1 = .agg [.lit (.string a), .lit (.bool b), .lit (.bool c)]) : cs = [.string ⟨a.toArray⟩, .bool b, .bool c] := by
  obtain ⟨xs, n', hn, hx, hcl, hxl, hf⟩ := DataW.trod_struct Tryz.underlying73 h
  rw [show Tryz.prog.cellsOf 73 = 3 from by kernel_rfl] at hcl
  obtain ⟨c0, c1, c2, rfl⟩ := threeL hcl
  obtain ⟨y0, y1, y2, rfl⟩ := threeL hxl
  have q0 : DataW.trod (H := Unit) (fun _ => ()) Tryz.prog w 0 (fun _ => true) false n' 9 (([c0, c1, c2].drop 0).take (Tryz.prog.cellsOf 9)) = some y0 := hf 0 _ rfl
  have q1 : DataW.trod (H := Unit) (fun _ => ()) Tryz.prog w 0 (fun _ => true) false n' 4 (([c0, c1, c2].drop 1).take (Tryz.prog.cellsOf 4)) = some y1 := hf 1 _ rfl
  have q2 : DataW.trod (H := Unit) (fun _ => ()) Tryz.prog w 0 (fun _ => true) false n' 4 (([c0, c1, c2].drop 2).take (Tryz.prog.cellsOf 4)) = some y2 := hf 2 _ rfl
  rw [show Tryz.prog.cellsOf 9 = 1 from by kernel_rfl] at q0
  rw [show Tryz.prog.cellsOf 4 = 1 from by kernel_rfl] at q1 q2
  simp only [List.drop_succ_cons, List.drop_zero, List.take_succ_cons, List.take_zero] at q0 q1 q2
  obtain ⟨s0, e0, rfl, _⟩ := DataW.trod_string Tryz.underlying9 q0
  obtain ⟨b1, e1, rfl⟩ := DataW.trod_bool Tryz.underlying4 q1
  obtain ⟨b2, e2, rfl⟩ := DataW.trod_bool Tryz.underlying4 q2
  rw [hx] at hy
  simp at hy e0 e1 e2
  obtain ⟨rfl, rfl, rfl⟩ := hy
  subst e0 e1 e2
  simp
set_option maxRecDepth 100000 in
theorem comps_of_trod {w : World} {fuel : Nat} {cs : List Value} {p : List MemPlace}
    (h : DataW.trod (H := Unit) (fun _ => ()) Tryz.prog w 0 (fun _ => true) false fuel 74 cs = some (Rows.laid_pipeline_label_comparisons, p)) : cs = compA.toList := by
  obtain ⟨xs, m, _, hx, hl, hxl, hi⟩ := DataW.trod_array Tryz.underlying74 h
  rw [show Tryz.prog.cellsOf 74 = 9 from by kernel_rfl] at hl
  rw [show Tryz.prog.cellsOf 73 = 3 from by kernel_rfl] at hi
  have hxs : xs.map (·.1) = _ := congrArg (fun y : DataW Unit × List MemPlace => match y.1 with | .agg l => l | _ => []) hx.symm
  obtain ⟨y0, y1, y2, rfl⟩ := threeL hxl
  have k0 := comp_of_trod (hi 0 (by omega)) (List.cons.inj hxs).1
  have k1 := comp_of_trod (hi 1 (by omega)) (List.cons.inj (List.cons.inj hxs).2).1
  have k2 := comp_of_trod (hi 2 (by omega)) (List.cons.inj (List.cons.inj (List.cons.inj hxs).2).2).1
  have e : cs = (cs.drop (0 * 3)).take 3 ++ ((cs.drop (1 * 3)).take 3 ++ (cs.drop (2 * 3)).take 3) := by
    match cs, hl with
    | [a0, a1, a2, a3, a4, a5, a6, a7, a8], _ => rfl
  rw [e, k0, k1, k2]
  rfl
theorem row_named : ∀ u, Tryz.prog.typeName? 3 u = some "*errors.errorString" → u = 158 := typeName_ptr_named (nm := "errors.errorString") (by kernel_rfl) (by kernel_rfl) (by decide)
set_option maxRecDepth 100000 in
theorem tab21_of {W : World} (h : laidMetH Tryz.prog laid21 W) (hsh : W.ShapedOpen Tryz.prog) : TabK W := by
  rw [MakeChecks.laidMetH_plain _ _ _ (by kernel_rfl)] at h
  have h2 := h.tail.tail
  have h4 := h2.tail.tail
  have h5 := h4.tail
  have h6 := h5.tail
  have ht := tabIs_of_head (k := .u64) (zs := Lib.pow10Tab) (P := Tryz.prog) (g := 4) (t := 162) (e := 114) (n := 20) (by kernel_rfl) (by kernel_rfl) Tryz.underlying162 Tryz.underlying114 (by kernel_rfl) (by kernel_rfl) h2
  obtain ⟨a4, s4, hv4, _⟩ := laid_sentinel (P := Tryz.prog) (g := 3) (ti := 93) h4 (by kernel_rfl) (by kernel_rfl) Tryz.underlying93 row_named Tryz.underlying158 Tryz.underlying160 rfl rfl Tryz.underlying9 (by kernel_rfl) (by kernel_rfl)
  obtain ⟨a5, s5, hv5, _⟩ := laid_sentinel (P := Tryz.prog) (g := 2) (ti := 93) h5 (by kernel_rfl) (by kernel_rfl) Tryz.underlying93 row_named Tryz.underlying158 Tryz.underlying160 rfl rfl Tryz.underlying9 (by kernel_rfl) (by kernel_rfl)
  refine ⟨⟨ht, ⟨_, _, hv4⟩, ⟨_, _, hv5⟩⟩, cell_of_shapedOpen_int (t := 3) (zero := #[.int .i64 0]) hsh (of_decide_eq_true (by kernel_rfl)) (by kernel_rfl) rfl (by kernel_rfl) (by kernel_rfl) Tryz.underlying3, ?_⟩
  obtain ⟨ps, ⟨g', t', cs, fuel, p, q, hg', ht', hvar, hd, _, _⟩, _⟩ := h6
  have hg : Tryz.prog.globalNamed "pipeline/label.comparisons" = some 0 := by kernel_rfl
  obtain rfl := Option.some.inj (hg.symm.trans hg')
  have hty : (Tryz.prog.globals[0]?).map (·.type) = some 74 := by kernel_rfl
  obtain rfl := Option.some.inj (hty.symm.trans ht')
  rw [hvar]
  congr 1
  exact Array.toList_inj.1 (comps_of_trod hd)
end Go.Proofs.YtglckcenjnieaaaGreatDoor
