/- Contracts of functions of the program, and what they are made of (parser; Pk25). -/
import Derived.Test.YtjehhldboopocaaGreatDoorPk11
import Derived.Test.YtjehhldboopocaaGreatDoorPk22
import Derived.Test.YtjehhldboopocaaGreatDoorPk24
namespace Go.Proofs.YtjehhldboopocaaGreatDoor.Lx
open Go.RowKit Go.Lib
set_option linter.unusedVariables false
/-- source answers S for these cells, wherever nothing that lies in w has turned. -/
def SrcC (w : World) (C : List Value) (S : ByteArray) : Prop := ∀ w', Below w.heap.size w w' → Calls Tryz.prog 35 #[.agg C.toArray] w' fun e w2 => e = .returned (.string S) ∧ Below w'.heap.size w' w2
theorem SrcC.below {w w' : World} {C : List Value} {S : ByteArray} (h : SrcC w C S) (hb : Below w.heap.size w w') : SrcC w' C S := fun w2 h2 => h w2 (hb.trans (h2.mono hb.size))
/-- An arg's source, in brackets where it binds too weakly. -/
def brkT (s : Nat) (least : Int) (S : ByteArray) : ByteArray := if (s : Int) < least then (⟨#[40]⟩ ++ S) ++ ⟨#[41]⟩ else S
set_option maxRecDepth 100000 in
set_option maxHeartbeats 2000000 in
theorem operand_any (m : Nat) (C : List Value) (x : Xp) (S : ByteArray) (least : Int) (w : World) (hx : IsE m w C x) (hS : SrcC w C S) (hl : S.size ≤ 4611686018427387904) :
    Calls Tryz.prog 64 #[.agg C.toArray, .int .i64 least] w fun e w' => e = .returned (.string (brkT (strX x) least S)) ∧ Below w.heap.size w w' := by
  obtain ⟨k, n, vk, vt, vi, vs, vl, vks, vav, vc, vkv, vkc, l, ks, av, c, kv, kc, rfl, rfl, hrest⟩ := hx
  have T := Lib.hid (fun w' => strength_any k n vk vt vi vs vav vkv av kv vl.length vc vks.length vkc l.length c ks.length kc w')
  obtain ⟨nx, hnx⟩ : ∃ nx : ByteArray, nx = ⟨n.toArray⟩ := ⟨_, rfl⟩
  rw [← hnx] at hS T ⊢
  obtain ⟨q, hq⟩ : ∃ q, q = strX (.mk k (.mk vk vt vi vs vl vks) n l ks) := ⟨_, rfl⟩
  have hq2 : strP k vi n = q := hq.symm
  rw [hq2] at T
  rw [← hq]
  have B0 := Lib.hid ((Below.refl w.heap.size w).alloc (Nat.le_refl _) (.cells #[.int .i64 k, .string nx, .int .i64 vk, .bool vt, .int .i64 vi, .string vs, .slice vav vl.length vc, .slice vkv vks.length vkc, .slice av l.length c, .slice kv ks.length kc] 29))
  have HC0 := Lib.hid (CellsAt.new w 29 #[.int .i64 k, .string nx, .int .i64 vk, .bool vt, .int .i64 vi, .string vs, .slice vav vl.length vc, .slice vkv vks.length vkc, .slice av l.length c, .slice kv ks.length kc])
  have HS := Lib.hid hS
  have s1 := fun w => run_string_add_sum (P := Tryz.prog) w ⟨#[40]⟩ S (by show 1 + S.size ≤ _; omega)
  have s2 := fun w => run_string_add_sum (P := Tryz.prog) w (⟨#[40]⟩ ++ S) ⟨#[41]⟩ (by rw [ByteArray.size_append]; show 1 + S.size + 1 ≤ _; omega)
  clear hrest hnx hq hq2 hS hl
  by_cases hlt : (q : Int) < least
  · have E := Lib.hid (show brkT q least S = (⟨#[40]⟩ ++ S) ++ ⟨#[41]⟩ from if_pos hlt)
    go_enter Tryz.func64, Tryz.ntmps64
    go_wp2_with fail
    go_fit (T.out _)
    rintro e w1 ⟨rfl, hb1⟩
    have hC1 := HC0.out.below hb1
    have d0 := hC1.cell (k := 0) (u := .int .i64 k) rfl
    have d1 := hC1.cell (k := 1) (u := .string nx) rfl
    have d2 := hC1.cell (k := 2) (u := .int .i64 vk) rfl
    have d3 := hC1.cell (k := 3) (u := .bool vt) rfl
    have d4 := hC1.cell (k := 4) (u := .int .i64 vi) rfl
    have d5 := hC1.cell (k := 5) (u := .string vs) rfl
    have d6 := hC1.cell (k := 6) (u := .slice vav vl.length vc) rfl
    have d7 := hC1.cell (k := 7) (u := .slice vkv vks.length vkc) rfl
    have d8 := hC1.cell (k := 8) (u := .slice av l.length c) rfl
    have d9 := hC1.cell (k := 9) (u := .slice kv ks.length kc) rfl
    have HB1 := Lib.hid (B0.out.trans (hb1.mono B0.out.size))
    clear hb1 hC1
    go_wp2_with fail
    go_fit (HS.out _ HB1.out)
    rintro e w2 ⟨rfl, hb2⟩
    have HB2 := Lib.hid (HB1.out.trans (hb2.mono HB1.out.size))
    clear hb2
    go_wp2_with fail
    go_ret
    exact ⟨by rw [E.out]; rfl, HB2.out⟩
  · have E := Lib.hid (show brkT q least S = S from if_neg hlt)
    go_enter Tryz.func64, Tryz.ntmps64
    go_wp2_with fail
    go_fit (T.out _)
    rintro e w1 ⟨rfl, hb1⟩
    have hC1 := HC0.out.below hb1
    have d0 := hC1.cell (k := 0) (u := .int .i64 k) rfl
    have d1 := hC1.cell (k := 1) (u := .string nx) rfl
    have d2 := hC1.cell (k := 2) (u := .int .i64 vk) rfl
    have d3 := hC1.cell (k := 3) (u := .bool vt) rfl
    have d4 := hC1.cell (k := 4) (u := .int .i64 vi) rfl
    have d5 := hC1.cell (k := 5) (u := .string vs) rfl
    have d6 := hC1.cell (k := 6) (u := .slice vav vl.length vc) rfl
    have d7 := hC1.cell (k := 7) (u := .slice vkv vks.length vkc) rfl
    have d8 := hC1.cell (k := 8) (u := .slice av l.length c) rfl
    have d9 := hC1.cell (k := 9) (u := .slice kv ks.length kc) rfl
    have HB1 := Lib.hid (B0.out.trans (hb1.mono B0.out.size))
    clear hb1 hC1
    go_wp2_with fail
    go_fit (HS.out _ HB1.out)
    rintro e w2 ⟨rfl, hb2⟩
    have HB2 := Lib.hid (HB1.out.trans (hb2.mono HB1.out.size))
    clear hb2
    go_wp2_with fail
    go_ret
    exact ⟨by rw [E.out]; rfl, HB2.out⟩
end Go.Proofs.YtjehhldboopocaaGreatDoor.Lx
namespace Go.Proofs.YtjehhldboopocaaGreatDoor.Lx
open Go.RowKit Go.Lib
set_option linter.unusedVariables false
/-- How literals are made. -/
def litsP : Lits Vl := ⟨zeroV, fun b => litV 1 b 0 ⟨#[]⟩, fun s => litV 2 false (undec s : Nat) ⟨#[]⟩, fun s => litV 3 false 0 ⟨s.toArray⟩⟩
abbrev pP (toks : List Tm) (f : Nat) (t : NT Vl) (i : Nat) : PR Vl := pG litsP (tsOf toks) f t i
theorem op_nxt (toks : List Tm) (i : Nat) (s : List UInt8) : opTk (tsOf toks) i s = true ↔ nxt toks i = (4, s) := by
  unfold opTk nxt
  rw [decide_eq_true_eq]
  cases h : (tsOf toks)[i]? with
  | none => simp
  | some x => simp
theorem op_nxt_no {toks : List Tm} {i : Nat} {s : List UInt8} (h : ¬ nxt toks i = (4, s)) : opTk (tsOf toks) i s = false := by
  rw [Bool.eq_false_iff]
  exact fun e => h ((op_nxt toks i s).1 e)
theorem bin_nxt (toks : List Tm) (i : Nat) : binAt (tsOf toks) i = if (nxt toks i).1 = 4 then (strB (nxt toks i).2, (nxt toks i).2) else (0, []) := by
  unfold binAt nxt
  cases h : (tsOf toks)[i]? with
  | none => simp
  | some x => obtain ⟨k, s⟩ := x; simp
theorem get_nxt {toks : List Tm} {i : Nat} {k : Int} {s : List UInt8} (h : nxt toks i = (k, s)) (hk : k ≠ 0) : (tsOf toks)[i]? = some (k, s) := by
  unfold nxt at h
  cases e : (tsOf toks)[i]? with
  | none => rw [e] at h; injection h with h1 _; exact absurd h1.symm hk
  | some x => rw [e] at h; exact congrArg some h
section
variable (w0 : World) (ta : Option Addr) (tc : Nat) (toks : List Tm) (Z : Nat → Prop) (R i : Nat) (G : Value) (L : List Xp) (w : World)
/-- What a part of the grammar leaves. -/
def Done : PR Vl → Ending → World → Prop
  | .out, _, _ => True
  | .err a er, e, w' => e = PanE er ∧ (∃ G', Fm R G G' w w') ∧ Below w0.heap.size w0 w' ∧ w'.cell? ⟨R, 1, none⟩ = some (.int .i64 a)
  | .ok x a, e, w' => e = .returned (.tuple #[]) ∧ i < a ∧ Left1 w0 ta tc toks Z R a G L x w w'
/-- What items leave. -/
def DoneI : PR Vl → Ending → World → Prop
  | .out, _, _ => True
  | .err a er, e, w' => e = PanE er ∧ (∃ G', Fm R G G' w w') ∧ Below w0.heap.size w0 w' ∧ w'.cell? ⟨R, 1, none⟩ = some (.int .i64 a)
  | .ok x a, e, w' => e = .returned (.int .i64 (x.ar.length : Nat)) ∧ i < a ∧ ∃ G', RS w0 ta tc toks Z R a G' (L ++ x.ar) w' ∧ Fm R G G' w w'
end
section
variable {w0 : World} {ta : Option Addr} {tc : Nat} {toks : List Tm} {Z : Nat → Prop} {R i : Nat} {G : Value} {L : List Xp} {w : World}
theorem done_err {a er i1 : Nat} {G1 : Value} {L1 : List Xp} {w1 w2 : World} (h : RS w0 ta tc toks Z R a G1 L1 w1) (hf : Fm R G G1 w w1) (hb : Below w1.heap.size w1 w2) : Done w0 ta tc toks Z R i G L w (.err a er) (PanE er) w2 := by
  obtain ⟨na, hc⟩ := h.box
  exact ⟨rfl, ⟨G1, hf.trans (Fm.of_below hb)⟩, h.below.trans (hb.mono h.below.size), (hc.below hb).cell rfl⟩
theorem done_pass {a er i1 : Nat} {Y : Nat → Prop} {G1 : Value} {L1 : List Xp} {w1 w2 : World} {e : Ending} (hf : Fm R G G1 w w1) (h : Done w0 ta tc toks Y R i1 G1 L1 w1 (.err a er) e w2) : Done w0 ta tc toks Z R i G L w (.err a er) e w2 := by
  obtain ⟨h1, ⟨G2, h2⟩, h3, h4⟩ := h
  exact ⟨h1, ⟨G2, hf.trans h2⟩, h3, h4⟩
end
/-- A method of the reader reads a part of the grammar. -/
def PartOk (w0 : World) (ta : Option Addr) (tc : Nat) (toks : List Tm) (R : Nat) (K : FuncId) (args : Array Value) (f : Nat) (t : NT Vl) : Prop :=
  ∀ (Z : Nat → Prop) (i : Nat) (G : Value) (L : List Xp) (w : World), (∀ k, Z k → k < w.heap.size) → RS w0 ta tc toks Z R i G L w → pP toks f t i ≠ .out → Calls Tryz.prog K args w (Done w0 ta tc toks Z R i G L w (pP toks f t i))
theorem bind_out {V : Type} {r : PR V} {k : Ex V → Nat → PR V} (h : r.bind k ≠ .out) : r ≠ .out := fun e => h (by rw [e]; rfl)
theorem lo_Z {Z : Nat → Prop} {w w' : World} (hZ : ∀ k, Z k → k < w.heap.size) (h : w.heap.size ≤ w'.heap.size) : ∀ k, Z k → k < w'.heap.size := fun k hk => Nat.lt_of_lt_of_le (hZ k hk) h
section
variable {w0 : World} {ta : Option Addr} {tc : Nat} {toks : List Tm} {R : Nat}
theorem pP_un (f i : Nat) : pP toks (f + 1) .un i = if opTk (tsOf toks) i [33] = true then (pP toks f .un (i + 1)).bind fun x a => .ok (node litsP 6 [33] [x]) a
      else if opTk (tsOf toks) i [45] = true then (pP toks f .un (i + 1)).bind fun x a => .ok (node litsP 6 [45] [x]) a else pP toks f .chn i := rfl
set_option maxHeartbeats 4000000 in
set_option maxRecDepth 100000 in
theorem unary_of (hE : EnvR w0 ta toks) (f : Nat) (hU : PartOk w0 ta tc toks R 127 #[.pointer (some ⟨R, 0, none⟩)] f .un) (hC : PartOk w0 ta tc toks R 167 #[.pointer (some ⟨R, 0, none⟩)] f .chn) :
    PartOk w0 ta tc toks R 127 #[.pointer (some ⟨R, 0, none⟩)] (f + 1) .un := by
  intro Z i G L w hZ h hne
  obtain ⟨Q, hQ⟩ : ∃ Q, Q = Done w0 ta tc toks Z R i G L w (pP toks (f + 1) .un i) := ⟨_, rfl⟩
  rw [← hQ]
  rw [pP_un] at hQ hne
  have O := opr_any h
  obtain ⟨⟨k, s⟩, hx⟩ : ∃ x, x = nxt toks i := ⟨_, rfl⟩
  rw [← hx] at O
  dsimp only at O
  obtain ⟨s', hs'⟩ : ∃ s', s' = if k = 4 then s else [] := ⟨_, rfl⟩
  rw [← hs'] at O
  have U := Lib.hid (isUnary_any s' w)
  by_cases hu : s' = [33] ∨ s' = [45]
  · have hk4 : k = 4 := by
      apply Classical.byContradiction
      intro hk
      rw [if_neg hk] at hs'
      rcases hu with e | e <;> rw [hs'] at e <;> cases e
    rw [if_pos hk4] at hs'
    subst hs'
    have hub : (decide (s' = [33]) || decide (s' = [45])) = true := by
      rcases hu with e | e <;> rw [e] <;> rfl
    rw [hub] at U
    have hx2 : nxt toks i = (4, s') := by rw [← hx, hk4]
    have hQ2 : Q = Done w0 ta tc toks Z R i G L w ((pP toks f .un (i + 1)).bind fun x a => .ok (node litsP 6 s' [x]) a) := by
      rcases hu with e | e
      · rw [hQ, if_pos ((op_nxt _ _ _).2 (by rw [hx2, e])), e]
      · rw [hQ, if_neg (by rw [op_nxt, hx2, e]; decide), if_pos ((op_nxt _ _ _).2 (by rw [hx2, e])), e]
    have hne2 : pP toks f .un (i + 1) ≠ .out := by
      rcases hu with e | e
      · rw [if_pos ((op_nxt _ _ _).2 (by rw [hx2, e]))] at hne
        exact bind_out hne
      · rw [if_neg (by rw [op_nxt, hx2, e]; decide), if_pos ((op_nxt _ _ _).2 (by rw [hx2, e]))] at hne
        exact bind_out hne
    have hs2 : s'.length ≤ 140737488351232 := by rcases hu with e | e <;> rw [e] <;> simp
    obtain ⟨r, hr⟩ : ∃ r, r = pP toks f .un (i + 1) := ⟨_, rfl⟩
    have O := Lib.hid O
    have D := Lib.hid (read_any hE h (nxt_lt hx2 (by decide)))
    have HU := Lib.hid hU
    have HR := Lib.hid hr
    have HQ := Lib.hid (show Q = Done w0 ta tc toks Z R i G L w (r.bind fun x a => .ok (node litsP 6 s' [x]) a) by rw [hQ2, hr])
    have HNE := Lib.hid hne2
    have HRO := Lib.hid (show r ≠ .out by rw [hr]; exact hne2)
    have HE := Lib.hid hE
    obtain ⟨sx, hsx⟩ : ∃ sx : ByteArray, sx = ⟨s'.toArray⟩ := ⟨_, rfl⟩
    rw [← hsx] at O U
    have HSX := Lib.hid hsx
    clear hx hx2 hQ hQ2 hne hne2 hub hu hk4 hU hC h hE hr hsx
    go_enter Tryz.func127, Tryz.ntmps127
    go_wp2_with fail
    go_fit O.out
    rintro e w1 ⟨rfl, rfl⟩
    go_wp2_with fail
    go_fit U.out
    rintro e w2 ⟨rfl, rfl⟩
    go_wp2_with fail
    go_fit D.out
    rintro e w3 ⟨na, rfl, h1, h2⟩
    have F1 := Lib.hid h2
    have UU := Lib.hid (HU.out Z (i + 1) G L w3 (lo_Z hZ h2.size) h1 HNE.out)
    rw [← HR.out] at UU
    have hz3 := h2.size
    clear h1 h2 HU HNE HR
    go_wp2_with fail
    go_fit UU.out
    clear UU D U O
    cases r with
    | out => exact absurd rfl HRO.out
    | err a er =>
      intro e w4 hd
      have HD := Lib.hid (done_pass (Z := Z) (i := i) (L := L) F1.out hd)
      obtain rfl := hd.1
      clear hd
      go_wp2_with fail
      rw [HQ.out]
      exact ⟨rfl, HD.out⟩
    | ok x a =>
      rintro e w4 ⟨rfl, hlt, G4, h1, h2⟩
      have BB := Lib.hid (build_any (A := [x]) HE.out.few h1 (lo_Z hZ (Nat.le_trans hz3 h2.size)) (by have := h1.hL; rw [List.length_append, List.length_singleton] at this; exact this) 1 rfl 6 s' (by omega) hs2)
      rw [← HSX.out] at BB
      have F2 := Lib.hid (F1.out.trans h2)
      clear h1 h2
      go_wp2_with fail
      go_fit BB.out
      rintro e w5 ⟨g, cap, rfl, h1, h2⟩
      have H1 := Lib.hid h1
      have H2 := Lib.hid (F2.out.trans h2)
      clear h1 h2
      go_wp2_with fail
      go_end0
      rw [HQ.out]
      exact ⟨rfl, by omega, _, H1.out, H2.out⟩
  · have hub : (decide (s' = [33]) || decide (s' = [45])) = false := by
      rw [decide_eq_false (fun e => hu (.inl e)), decide_eq_false (fun e => hu (.inr e))]; rfl
    rw [hub] at U
    have hn1 : ¬ opTk (tsOf toks) i [33] = true := fun e => hu (.inl (by rw [op_nxt, ← hx] at e; injection e with e1 e2; rw [hs', if_pos e1, e2]))
    have hn2 : ¬ opTk (tsOf toks) i [45] = true := fun e => hu (.inr (by rw [op_nxt, ← hx] at e; injection e with e1 e2; rw [hs', if_pos e1, e2]))
    rw [if_neg hn1, if_neg hn2] at hQ hne
    obtain ⟨r, hr⟩ : ∃ r, r = pP toks f .chn i := ⟨_, rfl⟩
    have O := Lib.hid O
    have C := Lib.hid (hC Z i G L w hZ h hne)
    rw [← hr] at C hQ hne
    have HQ := Lib.hid hQ
    have HRO := Lib.hid hne
    clear hx hub hu hn1 hn2 hs' hU hC h hE hr hQ hne hZ
    go_enter Tryz.func127, Tryz.ntmps127
    go_wp2_with fail
    go_fit O.out
    rintro e w1 ⟨rfl, rfl⟩
    go_wp2_with fail
    go_fit U.out
    rintro e w2 ⟨rfl, rfl⟩
    go_wp2_with fail
    go_fit C.out
    clear C U O
    cases r with
    | out => exact absurd rfl HRO.out
    | err a er =>
      intro e w4 hd
      have HD := Lib.hid hd
      obtain rfl := hd.1
      clear hd
      go_wp2_with fail
      rw [HQ.out]
      exact ⟨rfl, HD.out⟩
    | ok x a =>
      intro e w4 hd
      have HD := Lib.hid hd
      obtain rfl := hd.1
      clear hd
      go_wp2_with fail
      go_end0
      rw [HQ.out]
      exact HD.out
theorem pP_cond (f i : Nat) : pP toks (f + 1) .cond i = (pP toks f (.oper 2) i).bind fun c a => if opTk (tsOf toks) a [63] = true then (pP toks f .cond (a + 1)).bind fun x b =>
      if opTk (tsOf toks) b [58] = true then (pP toks f .cond (b + 1)).bind fun y d => .ok (node litsP 8 [] [c, x, y]) d else .err b (miss (tsOf toks) b) else .ok c a := rfl
set_option maxHeartbeats 4000000 in
set_option maxRecDepth 100000 in
theorem condition_of (hE : EnvR w0 ta toks) (f : Nat) (hO : PartOk w0 ta tc toks R 89 #[.pointer (some ⟨R, 0, none⟩), .int .i64 2] f (.oper 2)) (hC : PartOk w0 ta tc toks R 51 #[.pointer (some ⟨R, 0, none⟩)] f .cond) :
    PartOk w0 ta tc toks R 51 #[.pointer (some ⟨R, 0, none⟩)] (f + 1) .cond := by
  intro Z i G L w hZ h hne
  obtain ⟨Q, hQ⟩ : ∃ Q, Q = Done w0 ta tc toks Z R i G L w (pP toks (f + 1) .cond i) := ⟨_, rfl⟩
  rw [← hQ]
  rw [pP_cond] at hQ hne
  have OO := Lib.hid (hO Z i G L w hZ h (bind_out hne))
  obtain ⟨r, hr⟩ : ∃ r, r = pP toks f (.oper 2) i := ⟨_, rfl⟩
  rw [← hr] at OO hQ hne
  have HQ := Lib.hid hQ
  have HNE := Lib.hid hne
  have HE := Lib.hid hE
  have HC := Lib.hid hC
  clear hO hC h hr hQ hne hE
  go_enter Tryz.func51, Tryz.ntmps51
  go_wp2_with fail
  go_fit OO.out
  clear OO
  cases r with
  | out => exact absurd rfl HNE.out
  | err a er =>
    intro e w1 hd
    have HD := Lib.hid hd
    obtain rfl := hd.1
    clear hd
    go_wp2_with fail
    rw [HQ.out]
    exact ⟨rfl, HD.out⟩
  | ok c a =>
    rintro e w1 ⟨rfl, hlt1, G1, h1, f1⟩
    have HQ1 := Lib.hid (show Q = Done w0 ta tc toks Z R i G L w (if opTk (tsOf toks) a [63] = true then (pP toks f .cond (a + 1)).bind fun x b => if opTk (tsOf toks) b [58] = true then (pP toks f .cond (b + 1)).bind fun y d => .ok (node litsP 8 [] [c, x, y]) d else .err b (miss (tsOf toks) b) else .ok c a) from HQ.out)
    have HN1 := Lib.hid (show (if opTk (tsOf toks) a [63] = true then (pP toks f .cond (a + 1)).bind fun x b => if opTk (tsOf toks) b [58] = true then (pP toks f .cond (b + 1)).bind fun y d => .ok (node litsP 8 [] [c, x, y]) d else .err b (miss (tsOf toks) b) else .ok c a) ≠ .out from HNE.out)
    clear HQ HNE
    by_cases hq : nxt toks a = (4, [63])
    · have A1 := Lib.hid (accept_yes HE.out h1 hq)
      have q2 := HQ1.out
      have n2 := HN1.out
      rw [if_pos ((op_nxt _ _ _).2 hq)] at q2 n2
      clear HQ1 HN1
      have HNC := Lib.hid (bind_out n2)
      obtain ⟨r2, hr2⟩ : ∃ r2, r2 = pP toks f .cond (a + 1) := ⟨_, rfl⟩
      rw [← hr2] at q2 n2
      have HR2 := Lib.hid hr2
      have HQ2 := Lib.hid q2
      have HN2 := Lib.hid n2
      have F1 := Lib.hid f1
      have hz1 := f1.size
      clear h1 f1 hr2 hq q2 n2
      go_wp2_with fail
      go_fit A1.out
      rintro e w2 ⟨rfl, h2, f2⟩
      have C1 := Lib.hid (HC.out Z (a + 1) G1 (L ++ [c]) w2 (lo_Z hZ (Nat.le_trans hz1 f2.size)) h2 HNC.out)
      rw [← HR2.out] at C1
      have F2 := Lib.hid (F1.out.trans f2)
      have hz2 := f2.size
      clear h2 f2 HNC HR2 A1 F1
      go_wp2_with fail
      go_fit C1.out
      clear C1
      cases r2 with
      | out => exact absurd rfl HN2.out
      | err b er =>
        intro e w3 hd
        have HD := Lib.hid (done_pass (Z := Z) (i := i) (L := L) F2.out hd)
        obtain rfl := hd.1
        clear hd
        go_wp2_with fail
        rw [HQ2.out]
        exact ⟨rfl, HD.out⟩
      | ok x b =>
        rintro e w3 ⟨rfl, hlt3, G3, h3, f3⟩
        have HQ3 := Lib.hid (show Q = Done w0 ta tc toks Z R i G L w (if opTk (tsOf toks) b [58] = true then (pP toks f .cond (b + 1)).bind fun y d => .ok (node litsP 8 [] [c, x, y]) d else .err b (miss (tsOf toks) b)) from HQ2.out)
        have HN3 := Lib.hid (show (if opTk (tsOf toks) b [58] = true then (pP toks f .cond (b + 1)).bind fun y d => .ok (node litsP 8 [] [c, x, y]) d else .err b (miss (tsOf toks) b)) ≠ .out from HN2.out)
        clear HQ2 HN2
        have F3 := Lib.hid (F2.out.trans f3)
        have hz3 := f3.size
        by_cases hq : nxt toks b = (4, [58])
        · have A1 := Lib.hid (need_yes HE.out h3 hq)
          have q4 := HQ3.out
          have n4 := HN3.out
          rw [if_pos ((op_nxt _ _ _).2 hq)] at q4 n4
          clear HQ3 HN3
          have HNC := Lib.hid (bind_out n4)
          obtain ⟨r3, hr3⟩ : ∃ r3, r3 = pP toks f .cond (b + 1) := ⟨_, rfl⟩
          rw [← hr3] at q4 n4
          have HR3 := Lib.hid hr3
          have HQ4 := Lib.hid q4
          have HN4 := Lib.hid n4
          clear h3 f3 hr3 hq F2 q4 n4
          go_wp2_with fail
          go_fit A1.out
          rintro e w4 ⟨rfl, h4, f4⟩
          have C1 := Lib.hid (HC.out Z (b + 1) G3 (L ++ [c] ++ [x]) w4 (lo_Z hZ (Nat.le_trans hz1 (Nat.le_trans hz2 (Nat.le_trans hz3 f4.size)))) h4 HNC.out)
          rw [← HR3.out] at C1
          have F4 := Lib.hid (F3.out.trans f4)
          have hz4 := f4.size
          clear h4 f4 HNC HR3 A1 F3
          go_wp2_with fail
          go_fit C1.out
          clear C1
          cases r3 with
          | out => exact absurd rfl HN4.out
          | err d er =>
            intro e w5 hd
            have HD := Lib.hid (done_pass (Z := Z) (i := i) (L := L) F4.out hd)
            obtain rfl := hd.1
            clear hd
            go_wp2_with fail
            rw [HQ4.out]
            exact ⟨rfl, HD.out⟩
          | ok y d =>
            rintro e w5 ⟨rfl, hlt5, G5, h5, f5⟩
            have h5' : RS w0 ta tc toks Z R d G5 (L ++ [c, x, y]) w5 := by
              rw [show L ++ [c, x, y] = L ++ [c] ++ [x] ++ [y] by simp]
              exact h5
            have F5 := Lib.hid (F4.out.trans f5)
            have BB := Lib.hid (build_any (A := [c, x, y]) HE.out.few h5' (lo_Z hZ F5.out.size) (by have := h5'.hL; rw [List.length_append] at this; simp at this; omega) 3 rfl 8 [] (by omega) (by simp))
            clear h5 f5 h5' F4
            go_wp2_with fail
            go_fit BB.out
            rintro e w6 ⟨g, cap, rfl, h6, f6⟩
            have H6 := Lib.hid h6
            have F6 := Lib.hid (F5.out.trans f6)
            clear h6 f6
            go_wp2_with fail
            go_end0
            rw [HQ4.out]
            exact ⟨rfl, by omega, _, H6.out, F6.out⟩
        · have A1 := Lib.hid (need_no h3 hq (by decide))
          have q4 := HQ3.out
          rw [op_nxt_no hq, if_neg (by decide)] at q4
          have H3 := Lib.hid h3
          obtain ⟨er, her⟩ : ∃ er, er = miss (tsOf toks) b := ⟨_, rfl⟩
          rw [← her] at A1 q4
          have HQ4 := Lib.hid q4
          clear h3 f3 hq HQ3 HN3 F2 her q4
          go_wp2_with fail
          go_fit A1.out
          rintro e w4 ⟨rfl, hb⟩
          have HD := Lib.hid (done_err (i := i) (L := L) (er := er) (i1 := 0) H3.out F3.out hb)
          clear hb
          go_wp2_with fail
          rw [HQ4.out]
          exact ⟨rfl, HD.out⟩
    · have A1 := Lib.hid (accept_no h1 hq (by decide))
      have q2 := HQ1.out
      rw [op_nxt_no hq, if_neg (by decide)] at q2
      have HQ2 := Lib.hid q2
      have H1 := Lib.hid h1
      have F1 := Lib.hid f1
      clear h1 f1 hq HQ1 HN1 q2
      go_wp2_with fail
      go_fit A1.out
      rintro e w2 ⟨rfl, rfl⟩
      go_wp2_with fail
      first | go_end0 | refine bodyPost_ret (results_none rfl _ _ _) rfl ?_
      rw [HQ2.out]
      exact ⟨rfl, hlt1, _, H1.out, F1.out⟩
end
end Go.Proofs.YtjehhldboopocaaGreatDoor.Lx
namespace Go.Proofs.YtjehhldboopocaaGreatDoor.Lx
open Go.RowKit Go.Lib
set_option linter.unusedVariables false
theorem AllSm.mk {k : Int} {v : Vl} {n : List UInt8} {l : List Xp} {ks : List (List UInt8)} (hn : n.length ≤ 1099511627776) (hl : ∀ y ∈ l, AllSm y) : AllSm (.mk k v n l ks) := fun m => by
  cases m with
  | zero => exact hn
  | succ m => exact ⟨hn, fun y hy => hl y hy m⟩
theorem AllSm.ar {k : Int} {v : Vl} {n : List UInt8} {l : List Xp} {ks : List (List UInt8)} (h : AllSm (.mk k v n l ks)) : ∀ y ∈ l, AllSm y := fun _ hy => h.arg hy
theorem allSm_nil : ∀ y ∈ ([] : List Xp), AllSm y := fun y hy => by cases hy
theorem allSm_one {x : Xp} (h : AllSm x) : ∀ y ∈ [x], AllSm y := fun y hy => by rw [List.mem_singleton.1 hy]; exact h
theorem allSm_two {x z : Xp} (h : AllSm x) (g : AllSm z) : ∀ y ∈ [x, z], AllSm y := fun y hy => by
  rcases List.mem_cons.1 hy with e | e
  · rw [e]; exact h
  · exact allSm_one g y e
theorem allSm_snoc {l : List Xp} {x : Xp} (hl : ∀ y ∈ l, AllSm y) (h : AllSm x) : ∀ y ∈ l ++ [x], AllSm y := fun y hy => by
  rcases List.mem_append.1 hy with e | e
  · exact hl y e
  · exact allSm_one h y e
def GoodR : PR Vl → Prop
  | .ok x _ => AllSm x
  | _ => True
def GoodT : NT Vl → Prop
  | .loop _ _ x => AllSm x
  | .more x => AllSm x
  | .lst _ _ _ acc _ => ∀ y ∈ acc, AllSm y
  | _ => True
theorem GoodR.bind {r : PR Vl} (h : GoodR r) {k : Xp → Nat → PR Vl} (hk : ∀ x a, AllSm x → GoodR (k x a)) : GoodR (r.bind k) := by
  cases r with
  | out => trivial
  | err a e => trivial
  | ok x a => exact hk x a h
theorem goodR_ite {c : Prop} [Decidable c] {a b : PR Vl} (h1 : GoodR a) (h2 : GoodR b) : GoodR (if c then a else b) := by
  split
  · exact h1
  · exact h2
section
variable (P : Lits Vl) {ts : Ts} (hts : ∀ (i : Nat) (k : Int) (s : List UInt8), ts[i]? = some (k, s) → s.length ≤ 1099511627776)
include hts
theorem binAt_len (i : Nat) : (binAt ts i).2.length ≤ 1099511627776 := by
  unfold binAt
  cases h : ts[i]? with
  | none => simp
  | some p =>
    obtain ⟨k, s⟩ := p
    dsimp only
    split
    · exact hts i k s h
    · simp
theorem stepG_sm (g : NT Vl → Nat → PR Vl) (hg : ∀ t i, GoodT t → GoodR (g t i)) : ∀ t i, GoodT t → GoodR (stepG P g ts t i) := by
  intro t i ht
  cases t with
  | cond =>
    refine (hg (.oper 2) i trivial).bind fun c a hc => ?_
    try dsimp only
    split
    · refine (hg .cond (a + 1) trivial).bind fun x b hx => ?_
      try dsimp only
      split
      · refine (hg .cond (b + 1) trivial).bind fun y d hy => AllSm.mk (by simp) fun z hz => ?_
        rcases List.mem_cons.1 hz with e | e
        · rw [e]; exact hc
        · exact allSm_two hx hy z e
      · trivial
    · exact hc
  | oper n => trivial
  | loop n s x => trivial
  | un =>
    simp only [stepG]
    split
    · exact (hg .un (i + 1) trivial).bind fun x a hx => AllSm.mk (by simp) (allSm_one hx)
    · split
      · exact (hg .un (i + 1) trivial).bind fun x a hx => AllSm.mk (by simp) (allSm_one hx)
      · exact hg .chn i trivial
  | chn => exact (hg .atm i trivial).bind fun x a hx => hg (.more x) a hx
  | more x =>
    simp only [stepG]
    split
    · split
      · rename_i k s hs
        split
        · exact hg _ _ (AllSm.mk (hts _ _ _ hs) (allSm_one ht))
        · trivial
      · trivial
    · split
      · refine (hg .cond (i + 1) trivial).bind fun y a hy => ?_
        try dsimp only
        split
        · exact hg _ _ (AllSm.mk (by simp) (allSm_two ht hy))
        · trivial
      · exact ht
  | atm =>
    simp only [stepG]
    split
    · trivial
    · rename_i k s hs
      have hsl := hts _ _ _ hs
      repeat' split
      all_goals first
        | trivial
        | exact AllSm.mk (by simp) allSm_nil
        | exact AllSm.mk hsl allSm_nil
        | (refine (hg (.lst _ _ _ _ _) _ allSm_nil).bind fun x a hx => ?_
           obtain ⟨k', v', n', l', ks'⟩ := x
           exact AllSm.mk (by first | exact hsl | simp) hx.ar)
        | (refine (hg .cond (i + 1) trivial).bind fun x a hx => ?_
           try dsimp only
           split
           · exact hx
           · trivial)
  | lst cl ent first acc keys =>
    have item : ∀ (j : Nat) (ks : List (List UInt8)), GoodR ((g .cond j).bind fun x a =>
        if opTk ts a cl = true then .ok (.mk 0 P.zero [] (acc ++ [x]) ks) (a + 1)
        else if opTk ts a [44] = true then g (.lst cl ent false (acc ++ [x]) ks) (a + 1) else .err a (miss ts a)) := fun j ks => by
      refine (hg .cond j trivial).bind fun x a hx => ?_
      try dsimp only
      split
      · exact AllSm.mk (by simp) (allSm_snoc ht hx)
      · split
        · exact hg (.lst _ _ _ _ _) _ (allSm_snoc ht hx)
        · trivial
    simp only [stepG]
    split
    · exact AllSm.mk (by simp) ht
    · split
      · split
        · split
          · split
            · exact item _ _
            · trivial
          · trivial
        · trivial
      · exact item _ _
theorem pG_sm : ∀ (f : Nat) (t : NT Vl) (i : Nat), GoodT t → GoodR (pG P ts f t i)
  | 0, _, _, _ => trivial
  | f + 1, t, i, ht => by
    have ih := pG_sm f
    have gen := stepG_sm P hts (pG P ts f) ih t i ht
    cases t with
    | oper n => exact (ih .un i trivial).bind fun x a hx => ih (.loop n 7 x) a hx
    | loop n s x =>
      show GoodR (if (binAt ts i).1 < n ∨ s < (if (binAt ts i).1 = 4 then 5 else (binAt ts i).1) then .ok x i
        else (pG P ts f (.oper ((binAt ts i).1 + 1)) (i + 1)).bind fun y a => pG P ts f (.loop n (binAt ts i).1 (node P 7 (binAt ts i).2 [x, y])) a)
      exact goodR_ite ht ((ih (.oper _) _ trivial).bind fun y a hy => ih (.loop _ _ _) a (AllSm.mk (binAt_len hts i) (allSm_two ht hy)))
    | cond => exact gen
    | un => exact gen
    | chn => exact gen
    | more x => exact gen
    | atm => exact gen
    | lst a b c d e => exact gen
end
/-- The error is one of two, and the index none beyond the end. -/
def GoodE (n : Nat) : PR Vl → Prop
  | .out => True
  | .err a e => (e = 4 ∨ e = 5) ∧ a ≤ n
  | .ok _ a => a ≤ n
theorem GoodE.bind {n : Nat} {r : PR Vl} (h : GoodE n r) {k : Xp → Nat → PR Vl} (hk : ∀ x a, a ≤ n → GoodE n (k x a)) : GoodE n (r.bind k) := by
  cases r with
  | out => trivial
  | err a e => exact h
  | ok x a => exact hk x a h
theorem miss_or (ts : Ts) (i : Nat) : miss ts i = 4 ∨ miss ts i = 5 := by
  unfold miss
  split
  · exact .inl rfl
  · exact .inr rfl
theorem opTk_lt {ts : Ts} {i : Nat} {s : List UInt8} (h : opTk ts i s = true) : i < ts.length := by
  unfold opTk at h
  have h := of_decide_eq_true h
  exact (List.getElem?_eq_some_iff.1 h).1
theorem goodE_ite {n : Nat} {c : Prop} [Decidable c] {a b : PR Vl} (h1 : c → GoodE n a) (h2 : ¬ c → GoodE n b) : GoodE n (if c then a else b) := by
  split
  · rename_i h; exact h1 h
  · rename_i h; exact h2 h
def OkN : NT Vl → Prop
  | .oper n => 1 ≤ n
  | .loop n _ _ => 1 ≤ n
  | _ => True
theorem binAt_lt {ts : Ts} {i : Nat} (h : 1 ≤ (binAt ts i).1) : i < ts.length := by
  unfold binAt at h
  cases hs : ts[i]? with
  | none => rw [hs] at h; exact absurd h (by simp)
  | some p => exact (List.getElem?_eq_some_iff.1 hs).1
section
variable (P : Lits Vl) {ts : Ts}
theorem stepG_er (g : NT Vl → Nat → PR Vl) (hg : ∀ t i, i ≤ ts.length → (h : OkN t := by first | exact trivial | exact Nat.le_add_left 1 1) → GoodE ts.length (g t i)) : ∀ t i, i ≤ ts.length → GoodE ts.length (stepG P g ts t i) := by
  intro t i hi
  have E : ∀ a, a ≤ ts.length → GoodE ts.length (.err a (miss ts a)) := fun a ha => ⟨miss_or ts a, ha⟩
  cases t with
  | cond =>
    refine (hg (.oper 2) i hi).bind fun c a ha => goodE_ite (fun h => ?_) (fun _ => ha)
    refine (hg .cond (a + 1) (opTk_lt h)).bind fun x b hb => goodE_ite (fun h => ?_) (fun _ => E b hb)
    exact (hg .cond (b + 1) (opTk_lt h)).bind fun y d hd => hd
  | oper n => trivial
  | loop n s x => trivial
  | un =>
    refine goodE_ite (fun h => (hg .un (i + 1) (opTk_lt h)).bind fun x a ha => ha) fun _ => goodE_ite (fun h => (hg .un (i + 1) (opTk_lt h)).bind fun x a ha => ha) fun _ => hg .chn i hi
  | chn => exact (hg .atm i hi).bind fun x a ha => hg (.more x) a ha
  | more x =>
    simp only [stepG]
    refine goodE_ite (fun h => ?_) fun _ => goodE_ite (fun h => ?_) fun _ => hi
    · have h1 := opTk_lt h
      split
      · rename_i k s hs
        have h2 := (List.getElem?_eq_some_iff.1 hs).1
        exact goodE_ite (fun _ => hg _ _ h2) fun _ => E _ h1
      · exact E _ h1
    · refine (hg .cond (i + 1) (opTk_lt h)).bind fun y a ha => goodE_ite (fun h => hg _ _ (opTk_lt h)) fun _ => E a ha
  | atm =>
    simp only [stepG]
    split
    · exact ⟨.inl rfl, hi⟩
    · rename_i k s hs
      have h1 := (List.getElem?_eq_some_iff.1 hs).1
      have h5 : GoodE ts.length (.err i 5) := ⟨.inr rfl, hi⟩
      refine goodE_ite (fun _ => goodE_ite (fun _ => h1) fun _ => h5) fun _ => goodE_ite (fun _ => goodE_ite (fun _ => h1) fun _ => h5) fun _ =>
        goodE_ite (fun _ => goodE_ite (fun _ => h1) fun _ => goodE_ite (fun _ => h1) fun _ => goodE_ite (fun _ => goodE_ite (fun h => ?_) fun _ => h1) fun _ => h5) fun _ =>
        goodE_ite (fun _ => goodE_ite (fun _ => ?_) fun _ => goodE_ite (fun _ => ?_) fun _ => goodE_ite (fun _ => ?_) fun _ => h5) fun _ => h5
      · exact (hg _ _ (opTk_lt h)).bind fun x a ha => by obtain ⟨k', v', n', l', ks'⟩ := x; exact ha
      · exact (hg .cond (i + 1) h1).bind fun x a ha => goodE_ite (fun h => opTk_lt h) fun _ => E a ha
      · exact (hg _ _ h1).bind fun x a ha => by obtain ⟨k', v', n', l', ks'⟩ := x; exact ha
      · exact (hg _ _ h1).bind fun x a ha => by obtain ⟨k', v', n', l', ks'⟩ := x; exact ha
  | lst cl ent first acc keys =>
    have item : ∀ (j : Nat) (ks : List (List UInt8)), j ≤ ts.length → GoodE ts.length ((g .cond j).bind fun x a =>
        if opTk ts a cl = true then .ok (.mk 0 P.zero [] (acc ++ [x]) ks) (a + 1)
        else if opTk ts a [44] = true then g (.lst cl ent false (acc ++ [x]) ks) (a + 1) else .err a (miss ts a)) := fun j ks hj =>
      (hg .cond j hj).bind fun x a ha => goodE_ite (fun h => opTk_lt h) fun _ => goodE_ite (fun h => hg _ _ (opTk_lt h)) fun _ => E a ha
    simp only [stepG]
    refine goodE_ite (fun h => opTk_lt h.2) fun _ => goodE_ite (fun _ => ?_) fun _ => item _ _ hi
    split
    · rename_i t hs
      have h1 := (List.getElem?_eq_some_iff.1 hs).1
      exact goodE_ite (fun _ => goodE_ite (fun h => item _ _ (opTk_lt h)) fun _ => E _ h1) fun _ => E _ hi
    · exact E _ hi
theorem pG_er : ∀ (f : Nat) (t : NT Vl) (i : Nat), i ≤ ts.length → OkN t → GoodE ts.length (pG P ts f t i)
  | 0, _, _, _, _ => trivial
  | f + 1, t, i, hi, ht => by
    have ih := pG_er f
    have gen := stepG_er P (pG P ts f) (fun t i hi h => ih t i hi h) t i hi
    cases t with
    | oper n => exact (ih .un i hi trivial).bind fun x a ha => ih (.loop n 7 x) a ha ht
    | loop n s x =>
      show GoodE ts.length (if (binAt ts i).1 < n ∨ s < (if (binAt ts i).1 = 4 then 5 else (binAt ts i).1) then .ok x i
        else (pG P ts f (.oper ((binAt ts i).1 + 1)) (i + 1)).bind fun y a => pG P ts f (.loop n (binAt ts i).1 (node P 7 (binAt ts i).2 [x, y])) a)
      refine goodE_ite (fun _ => hi) fun h => ?_
      have hn : 1 ≤ n := ht
      have h1 : i < ts.length := binAt_lt (by have : ¬ (binAt ts i).1 < n := fun e => h (.inl e); omega)
      exact (ih (.oper _) _ h1 (Nat.le_add_left 1 _)).bind fun y a ha => ih (.loop _ _ _) a ha ht
    | cond => exact gen
    | un => exact gen
    | chn => exact gen
    | more x => exact gen
    | atm => exact gen
    | lst a b c d e => exact gen
end
/-- At most m levels lie below. -/
def Dep : Nat → Xp → Prop
  | 0, x => x.ar = []
  | m + 1, x => ∀ y ∈ x.ar, Dep m y
theorem isE_dep {w : World} : ∀ (m : Nat) (C : List Value) (x : Xp), IsE m w C x → Dep m x
  | 0, C, x, h => by
    obtain ⟨k, n, vk, vt, vi, vs, vl, vks, vav, vc, vkv, vkc, l, ks, av, c, kv, kc, rfl, _, _, _, _, _, _, _, _, hl⟩ := h
    exact hl
  | m + 1, C, x, h => by
    obtain ⟨k, n, vk, vt, vi, vs, vl, vks, vav, vc, vkv, vkc, l, ks, av, c, kv, kc, rfl, _, _, _, _, _, _, _, _, hl⟩ := h
    intro y hy
    obtain ⟨j, hj⟩ := List.getElem?_of_mem hy
    obtain ⟨b, off, C', _, _, h3, _⟩ := hl j y hj
    exact isE_dep m C' y h3
theorem flat_congr {α β : Type} {f g : α → List β} : ∀ (l : List α), (∀ y ∈ l, f y = g y) → l.flatMap f = l.flatMap g
  | [], _ => rfl
  | y :: r, h => by rw [List.flatMap_cons, List.flatMap_cons, h y (List.mem_cons_self ..), flat_congr r fun z hz => h z (List.mem_cons_of_mem _ hz)]
theorem pre_dep : ∀ (m n : Nat) (lev : Int) (x : Xp), Dep m x → Dep n x → preE m lev x = preE n lev x
  | 0, 0, _, _, _, _ => rfl
  | 0, n + 1, lev, .mk k v s l ks, h, _ => by
    have h' : l = [] := h
    subst h'
    rfl
  | m + 1, 0, lev, .mk k v s l ks, _, h => by
    have h' : l = [] := h
    subst h'
    rfl
  | m + 1, n + 1, lev, .mk k v s l ks, h, h2 => by
    show (lev, _) :: l.flatMap (preE m (wrap64 (lev + 1))) = (lev, _) :: l.flatMap (preE n (wrap64 (lev + 1)))
    congr 1
    exact flat_congr l fun y hy => pre_dep m n _ y (h y hy) (h2 y hy)
theorem dep_size : ∀ (m : Nat) (x : Xp), SizeOf.sizeOf x ≤ m → Dep m x
  | 0, .mk k v n l ks, h => by simp at h
  | m + 1, .mk k v n l ks, h => fun y hy => by
    have h1 := List.sizeOf_lt_of_mem hy
    refine dep_size m y ?_
    have he := Ex.mk.sizeOf_spec k v n l ks
    have hy' : SizeOf.sizeOf y < SizeOf.sizeOf l := h1
    omega
/-- An expression's nodes with their levels. -/
noncomputable def nodesX (x : Xp) : List (Int × Xp) := preE (SizeOf.sizeOf x) 1 x
theorem pre_nodes {w : World} {m : Nat} {C : List Value} {x : Xp} (h : IsE m w C x) : preE m 1 x = nodesX x := pre_dep m _ 1 x (isE_dep m C x h) (dep_size _ x (Nat.le_refl _))
end Go.Proofs.YtjehhldboopocaaGreatDoor.Lx
