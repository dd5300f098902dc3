/- Contracts of functions of the program, and what they are made of (parser; Pk41). -/
import Derived.Test.YtjehhldboopocaaGreatDoorPk13
import Derived.Test.YtjehhldboopocaaGreatDoorPk19
import Derived.Test.YtjehhldboopocaaGreatDoorPk32
import Derived.Test.YtjehhldboopocaaGreatDoorPk34
namespace Go.Proofs.YtjehhldboopocaaGreatDoor.Lx
open Go.RowKit Go.Lib
set_option linter.unusedVariables false
def brB (s : List UInt8) : Bool := decide (s = [40]) || decide (s = [91]) || decide (s = [41]) || decide (s = [93])
/-- What is open behind a token; none behind an ended line, or where more is closed than was opened. -/
def opK (o : Nat) (t : Int × List UInt8) : Option Nat :=
  if t.1 = 5 then none else if t.1 = 4 ∧ (t.2 = [40] ∨ t.2 = [91]) then some (o + 1) else if t.1 = 4 ∧ (t.2 = [41] ∨ t.2 = [93]) then (if o = 0 then none else some (o - 1)) else some o
def runK : Nat → Ts → Option Nat
  | o, [] => some o
  | o, t :: r => (opK o t).bind fun q => runK q r
theorem runK_app : ∀ (a b : Ts) (o : Nat), runK o (a ++ b) = (runK o a).bind fun q => runK q b
  | [], b, o => rfl
  | t :: a, b, o => by
    show (opK o t).bind (fun q => runK q (a ++ b)) = ((opK o t).bind fun q => runK q a).bind fun q => runK q b
    cases opK o t with
    | none => rfl
    | some q => exact runK_app a b q
theorem opK_plain {o : Nat} {k : Int} {s : List UInt8} (h5 : k ≠ 5) (h : k = 4 → brB s = false) : opK o (k, s) = some o := by
  unfold opK
  rw [if_neg h5]
  by_cases h4 : k = 4
  · have hb := h h4
    unfold brB at hb
    simp only [Bool.or_eq_false_iff, decide_eq_false_iff_not] at hb
    rw [if_neg (fun e => e.2.elim hb.1.1.1 hb.1.1.2), if_neg (fun e => e.2.elim hb.1.2 hb.2)]
  · rw [if_neg (fun e => h4 e.1), if_neg (fun e => h4 e.1)]
section
variable (ts : Ts)
/-- Between the indices as much is closed as is opened, and no line ends. -/
def Bal (i j : Nat) : Prop := i ≤ j ∧ ∀ o, runK o ((ts.drop i).take (j - i)) = some o
variable {ts}
theorem Bal.rfl (i : Nat) : Bal ts i i := ⟨Nat.le_refl i, fun o => by rw [Nat.sub_self, List.take_zero]; exact Eq.refl _⟩
theorem seg_app {i j k : Nat} (h1 : i ≤ j) (h2 : j ≤ k) : (ts.drop i).take (k - i) = (ts.drop i).take (j - i) ++ (ts.drop j).take (k - j) := by
  rw [show k - i = (j - i) + (k - j) by omega, List.take_add, List.drop_drop, show i + (j - i) = j by omega]
theorem Bal.trans {i j k : Nat} (h : Bal ts i j) (g : Bal ts j k) : Bal ts i k :=
  ⟨Nat.le_trans h.1 g.1, fun o => by rw [seg_app h.1 g.1, runK_app, h.2 o]; exact g.2 o⟩
theorem seg_one {i : Nat} {t : Int × List UInt8} (h : ts[i]? = some t) : (ts.drop i).take (i + 1 - i) = [t] := by
  obtain ⟨hi, rfl⟩ := List.getElem?_eq_some_iff.1 h
  rw [show i + 1 - i = 1 by omega, List.drop_eq_getElem_cons hi]
  rfl
theorem Bal.tok {i : Nat} {k : Int} {s : List UInt8} (h : ts[i]? = some (k, s)) (h5 : k ≠ 5) (hb : k = 4 → brB s = false) : Bal ts i (i + 1) :=
  ⟨by omega, fun o => by
    rw [seg_one h]
    show (opK o (k, s)).bind (fun q => some q) = some o
    rw [opK_plain h5 hb]
    exact Eq.refl _⟩
theorem Bal.brk {i a : Nat} {p q : List UInt8} (h : ts[i]? = some (4, p)) (hp : p = [40] ∨ p = [91]) (g : Bal ts (i + 1) a) (e : ts[a]? = some (4, q)) (hq : q = [41] ∨ q = [93]) : Bal ts i (a + 1) :=
  ⟨by have := g.1; omega, fun o => by
    have g1 := g.1
    rw [seg_app (show i ≤ i + 1 by omega) (show i + 1 ≤ a + 1 by omega), seg_app (ts := ts) (show i + 1 ≤ a by omega) (show a ≤ a + 1 by omega), seg_one h, seg_one e, runK_app]
    have h1 : runK o [(4, p)] = some (o + 1) := by
      show (opK o (4, p)).bind (fun q => some q) = some (o + 1)
      unfold opK
      rw [if_neg (show ¬ (4 : Int) = 5 by decide), if_pos ⟨Eq.refl _, hp⟩]
      exact Eq.refl _
    rw [h1]
    show runK (o + 1) _ = some o
    rw [runK_app, g.2 (o + 1)]
    show (opK (o + 1) (4, q)).bind (fun q => some q) = some o
    have hn : ¬ ((4 : Int) = 4 ∧ (q = [40] ∨ q = [91])) := by
      rintro ⟨_, e | e⟩ <;> rcases hq with f | f <;> rw [e] at f <;> exact absurd f (by decide)
    unfold opK
    rw [if_neg (show ¬ (4 : Int) = 5 by decide), if_neg hn, if_pos ⟨Eq.refl _, hq⟩, if_neg (by omega)]
    exact Eq.refl _⟩
theorem opTk_get {i : Nat} {s : List UInt8} (h : opTk ts i s = true) : ts[i]? = some (4, s) := of_decide_eq_true h
theorem Bal.op {i : Nat} {s : List UInt8} (h : opTk ts i s = true) (hb : brB s = false) : Bal ts i (i + 1) := Bal.tok (opTk_get h) (by decide) fun _ => hb
def All (Q : Nat → Prop) (r : PR Vl) : Prop := ∀ x j, r = .ok x j → Q j
theorem All.bind {Q R : Nat → Prop} {r : PR Vl} {k : Xp → Nat → PR Vl} (h : All Q r) (hk : ∀ x j, Q j → All R (k x j)) : All R (r.bind k) := by
  intro y m e
  cases r with
  | out => cases e
  | err a b => cases e
  | ok x j => exact hk x j (h x j (Eq.refl _)) y m e
theorem All.ite {Q : Nat → Prop} {c : Prop} [Decidable c] {a b : PR Vl} (h1 : c → All Q a) (h2 : ¬ c → All Q b) : All Q (if c then a else b) := by
  split
  · exact h1 ‹_›
  · exact h2 ‹_›
theorem All.err {Q : Nat → Prop} {a e : Nat} : All Q (.err a e) := fun x j h => by cases h
theorem All.out {Q : Nat → Prop} : All Q .out := fun x j h => by cases h
theorem All.ok {Q : Nat → Prop} {x : Xp} {j : Nat} (h : Q j) : All Q (.ok x j) := fun y m e => by injection e with e1 e2; subst e2; exact h
/-- What is asked of a part of the grammar that begins at i. -/
def BalQ (ts : Ts) (i : Nat) : NT Vl → Nat → Prop
  | .lst cl _ _ _ _, j => ∃ a, Bal ts i a ∧ ts[a]? = some (4, cl) ∧ j = a + 1
  | _, j => Bal ts i j
theorem stepG_bal (P : Lits Vl) (g : NT Vl → Nat → PR Vl) (hg : ∀ t i, OkN t → All (BalQ ts i t) (g t i)) : ∀ t i, OkN t → All (BalQ ts i t) (stepG P g ts t i) := by
  intro t i ht
  have gc : ∀ i, All (fun j => Bal ts i j) (g .cond i) := fun i => hg .cond i trivial
  have gl : ∀ cl ent fi ac ks i, All (fun j => ∃ a, Bal ts i a ∧ ts[a]? = some (4, cl) ∧ j = a + 1) (g (.lst cl ent fi ac ks) i) := fun cl ent fi ac ks i => hg (.lst cl ent fi ac ks) i trivial
  cases t with
  | cond =>
    refine (show All (fun j => Bal ts i j) (g (.oper 2) i) from hg (.oper 2) i (show 1 ≤ 2 by omega)).bind fun c a ha => ?_
    refine All.ite (fun h => ?_) fun _ => All.ok ha
    refine (gc (a + 1)).bind fun x b hb => ?_
    refine All.ite (fun h2 => ?_) fun _ => All.err
    refine (gc (b + 1)).bind fun y d hd => All.ok ?_
    exact ((((show Bal ts i a from ha).trans (Bal.op h (by decide))).trans hb).trans (Bal.op h2 (by decide))).trans hd
  | oper n => exact All.out
  | loop n s x => exact All.out
  | un =>
    have gu : ∀ i, All (fun j => Bal ts i j) (g .un i) := fun i => hg .un i trivial
    refine All.ite (fun h => ?_) fun _ => All.ite (fun h => ?_) fun _ => hg .chn i trivial
    · exact (gu (i + 1)).bind fun x a ha => All.ok ((Bal.op h (by decide)).trans ha)
    · exact (gu (i + 1)).bind fun x a ha => All.ok ((Bal.op h (by decide)).trans ha)
  | chn =>
    refine (show All (fun j => Bal ts i j) (g .atm i) from hg .atm i trivial).bind fun x a ha => ?_
    exact fun y m e => ha.trans (hg (.more x) a trivial y m e)
  | more x =>
    refine All.ite (fun h => ?_) fun _ => All.ite (fun h => ?_) fun _ => All.ok (Bal.rfl i)
    · cases hs : ts[i + 1]? with
      | none => exact All.err
      | some t =>
        obtain ⟨k, s⟩ := t
        refine All.ite (fun hk => ?_) fun _ => All.err
        have h1 : Bal ts (i + 1) (i + 2) := Bal.tok hs (by rw [hk.1]; decide) (fun e => by rw [hk.1] at e; cases e)
        exact fun y m e => ((Bal.op h (by decide)).trans h1).trans (hg (.more _) (i + 2) trivial y m e)
    · refine (gc (i + 1)).bind fun y a ha => All.ite (fun h2 => ?_) fun _ => All.err
      exact fun z m e => (Bal.brk (opTk_get h) (.inr (Eq.refl _)) ha (opTk_get h2) (.inr (Eq.refl _))).trans (hg (.more _) (a + 1) trivial z m e)
  | atm =>
    cases hs : ts[i]? with
    | none =>
      simp only [stepG, hs]
      exact All.err
    | some t =>
      obtain ⟨k, s⟩ := t
      simp only [stepG, hs]
      have tk : k ≠ 4 → k ≠ 5 → Bal ts i (i + 1) := fun h4 h5 => Bal.tok hs h5 (fun e => absurd e h4)
      refine All.ite (fun h2 => All.ite (fun _ => All.ok (tk (by omega) (by omega))) fun _ => All.err) fun _ => ?_
      refine All.ite (fun h3 => All.ite (fun _ => All.ok (tk (by omega) (by omega))) fun _ => All.err) fun _ => ?_
      refine All.ite (fun h1 => ?_) fun _ => ?_
      · have t1 := tk (by omega) (by omega)
        refine All.ite (fun _ => All.ok t1) fun _ => All.ite (fun _ => All.ok t1) fun _ => All.ite (fun _ => ?_) fun _ => All.err
        refine All.ite (fun h => ?_) fun _ => All.ok t1
        refine (gl _ _ _ _ _ (i + 2)).bind fun x a ha => ?_
        obtain ⟨k', v', n', l', ks'⟩ := x
        obtain ⟨b, hb, he, rfl⟩ := ha
        exact All.ok (t1.trans (Bal.brk (opTk_get h) (.inl (Eq.refl _)) hb he (.inl (Eq.refl _))))
      · refine All.ite (fun h4 => ?_) fun _ => All.err
        subst h4
        refine All.ite (fun h => ?_) fun _ => All.ite (fun h => ?_) fun _ => All.ite (fun h => ?_) fun _ => All.err
        · subst h
          refine (gc (i + 1)).bind fun x a ha => All.ite (fun h2 => All.ok ?_) fun _ => All.err
          exact Bal.brk hs (.inl (Eq.refl _)) ha (opTk_get h2) (.inl (Eq.refl _))
        · subst h
          refine (gl _ _ _ _ _ (i + 1)).bind fun x a ha => ?_
          obtain ⟨k', v', n', l', ks'⟩ := x
          obtain ⟨b, hb, he, rfl⟩ := ha
          exact All.ok (Bal.brk hs (.inr (Eq.refl _)) hb he (.inr (Eq.refl _)))
        · subst h
          refine (gl _ _ _ _ _ (i + 1)).bind fun x a ha => ?_
          obtain ⟨k', v', n', l', ks'⟩ := x
          obtain ⟨b, hb, he, rfl⟩ := ha
          exact All.ok (((Bal.tok hs (by decide) fun _ => by decide).trans hb).trans (Bal.tok he (by decide) fun _ => by decide))
  | lst cl ent first acc keys =>
    have item : ∀ (j : Nat) (ks : List (List UInt8)), Bal ts i j → All (BalQ ts i (.lst cl ent first acc keys)) ((g .cond j).bind fun x a =>
        if opTk ts a cl = true then .ok (.mk 0 P.zero [] (acc ++ [x]) ks) (a + 1)
        else if opTk ts a [44] = true then g (.lst cl ent false (acc ++ [x]) ks) (a + 1) else .err a (miss ts a)) := fun j ks hj => by
      refine (gc j).bind fun x a ha => ?_
      refine All.ite (fun h => All.ok ⟨a, hj.trans ha, opTk_get h, Eq.refl _⟩) fun _ => All.ite (fun h => ?_) fun _ => All.err
      intro y m e
      obtain ⟨b, hb, he, hm⟩ := gl _ _ _ _ _ (a + 1) y m e
      exact ⟨b, ((hj.trans ha).trans (Bal.op h (by decide))).trans hb, he, hm⟩
    simp only [stepG]
    refine All.ite (fun h => All.ok ⟨i, Bal.rfl i, opTk_get h.2, Eq.refl _⟩) fun _ => ?_
    refine All.ite (fun _ => ?_) fun _ => item i keys (Bal.rfl i)
    cases hs : ts[i]? with
    | none => exact All.err
    | some t =>
      obtain ⟨k, s⟩ := t
      refine All.ite (fun hk => ?_) fun _ => All.err
      have hk' : k = 1 ∨ k = 3 := by
        unfold keyT at hk
        simp only [Bool.or_eq_true, Bool.and_eq_true, decide_eq_true_eq] at hk
        rcases hk with h | h
        · exact .inl h.1
        · exact .inr h.1
      refine All.ite (fun h => ?_) fun _ => All.err
      exact item (i + 2) _ ((Bal.tok hs (by omega) (fun e => by omega)).trans (Bal.op h (by decide)))
theorem strB_br {s : List UInt8} (h : 1 ≤ strB s) : brB s = false := by
  cases hb : brB s with
  | false => exact Eq.refl _
  | true =>
    unfold brB at hb
    simp only [Bool.or_eq_true, decide_eq_true_eq] at hb
    rcases hb with ((e | e) | e) | e <;> subst e <;> exact absurd h (by decide)
theorem bin_bal {i : Nat} (h : 1 ≤ (binAt ts i).1) : Bal ts i (i + 1) := by
  unfold binAt at h
  cases hs : ts[i]? with
  | none => rw [hs] at h; exact absurd h (by decide)
  | some t =>
    obtain ⟨k, s⟩ := t
    rw [hs] at h
    dsimp only at h
    by_cases hk : k = 4
    · rw [if_pos hk] at h
      exact Bal.tok hs (by omega) fun _ => strB_br h
    · rw [if_neg hk] at h
      exact absurd h (by decide)
/-- What the program's grammar reads is balanced. -/
theorem pG_bal (P : Lits Vl) : ∀ (f : Nat) (t : NT Vl) (i : Nat), OkN t → All (BalQ ts i t) (pG P ts f t i)
  | 0, _, _, _ => All.out
  | f + 1, t, i, ht => by
    have ih := pG_bal P f
    have gen := stepG_bal P (pG P ts f) (fun t i h => ih t i h) t i ht
    cases t with
    | oper n =>
      refine (show All (fun j => Bal ts i j) (pG P ts f .un i) from ih .un i trivial).bind fun x a ha => ?_
      exact fun y m e => ha.trans (ih (.loop n 7 x) a ht y m e)
    | loop n s x =>
      have hn : 1 ≤ n := ht
      show All (fun j => Bal ts i j) (if (binAt ts i).1 < n ∨ s < (if (binAt ts i).1 = 4 then 5 else (binAt ts i).1) then .ok x i
        else (pG P ts f (.oper ((binAt ts i).1 + 1)) (i + 1)).bind fun y a => pG P ts f (.loop n (binAt ts i).1 (node P 7 (binAt ts i).2 [x, y])) a)
      refine All.ite (fun _ => All.ok (Bal.rfl i)) fun h => ?_
      have hb : Bal ts i (i + 1) := bin_bal (by have : ¬ (binAt ts i).1 < n := fun e => h (.inl e); omega)
      refine (show All (fun j => Bal ts (i + 1) j) (pG P ts f (.oper _) (i + 1)) from ih (.oper _) (i + 1) (Nat.le_add_left 1 _)).bind fun y a ha => ?_
      exact fun z m e => (hb.trans ha).trans (ih (.loop n (binAt ts i).1 (node P 7 (binAt ts i).2 [x, y])) a ht z m e)
    | cond => exact gen
    | un => exact gen
    | chn => exact gen
    | more x => exact gen
    | atm => exact gen
    | lst a b c d e => exact gen
end
/-- Tokens that are balanced are read in parentheses as they are. -/
theorem lexF_deep : ∀ (n : Nat) (l : List UInt8) (a o : Nat) (nl : Bool) (ts : List Tk) (q : Nat), l.length ≤ n → lexF l a o nl = .ok ts → runK o (ts.map kt) = some q → ∀ nl', lexF l a (o + 1) nl' = .ok ts := by
  intro n
  induction n with
  | zero =>
    intro l a o nl ts q hn h _ nl'
    have e : l = [] := List.eq_nil_of_length_eq_zero (by omega)
    subst e
    rw [lexF_nil _ _ _ rfl] at h ⊢
    exact h
  | succ n ih =>
    intro l a o nl ts q hn h hr nl'
    cases hi : ignL false l with
    | nil =>
      rw [lexF_nil _ _ _ hi] at h ⊢
      exact h
    | cons c r =>
      have hl := ign_le hi
      rw [lexF_step _ _ _ hi] at h ⊢
      obtain ⟨b, hb⟩ : ∃ b, b = a + (l.length - (r.length + 1)) := ⟨_, rfl⟩
      rw [← hb] at h ⊢
      unfold stepR at h ⊢
      by_cases hc : c = 10
      · rw [if_pos hc] at h ⊢
        by_cases ho : o = 0 ∧ nl = false
        · rw [if_pos ho] at h
          obtain ⟨q', hq, rfl⟩ := add_ok h
          have : runK o (([(⟨5, [], b⟩ : Tk)] ++ q').map kt) = none := rfl
          rw [this] at hr
          cases hr
        · rw [if_neg ho] at h
          rw [if_neg (fun e => by have := e.1; omega)]
          exact ih r (b + 1) o nl ts q (by omega) h hr nl'
      · rw [if_neg hc] at h ⊢
        by_cases he : (tokA (c :: r)).2.2.2 ≠ 0
        · rw [if_pos he] at h
          cases h
        · rw [if_neg he] at h ⊢
          have t3 := tok_len c r (by omega)
          obtain ⟨q', hq, rfl⟩ := add_ok h
          obtain ⟨k, hk⟩ : ∃ k, k = (tokA (c :: r)).1 := ⟨_, rfl⟩
          obtain ⟨s, hs⟩ : ∃ s, s = (tokA (c :: r)).2.1 := ⟨_, rfl⟩
          rw [← hk, ← hs] at hq hr ⊢
          have hr1 : (opK o (k, s)).bind (fun z => runK z (q'.map kt)) = some q := hr
          have key : ∃ z, opK o (k, s) = some z ∧ opn o k s = z ∧ opn (o + 1) k s = z + 1 := by
            unfold opK at hr1 ⊢
            unfold opn
            dsimp only at hr1 ⊢
            by_cases h5 : k = 5
            · rw [if_pos h5] at hr1; cases hr1
            · rw [if_neg h5] at hr1 ⊢
              by_cases h1 : k = 4 ∧ (s = [40] ∨ s = [91])
              · rw [if_pos h1, if_pos h1, if_pos h1]
                exact ⟨_, rfl, rfl, rfl⟩
              · rw [if_neg h1] at hr1
                rw [if_neg h1, if_neg h1, if_neg h1]
                by_cases h2 : k = 4 ∧ (s = [41] ∨ s = [93])
                · rw [if_pos h2] at hr1
                  rw [if_pos h2, if_pos h2, if_pos h2]
                  by_cases h0 : o = 0
                  · rw [if_pos h0] at hr1; cases hr1
                  · rw [if_neg h0]
                    exact ⟨_, rfl, rfl, by omega⟩
                · rw [if_neg h2, if_neg h2, if_neg h2]
                  exact ⟨_, rfl, rfl, rfl⟩
          obtain ⟨z, z1, z2, z3⟩ := key
          rw [z1] at hr1
          rw [z2] at hq
          rw [z3, ih _ _ z false q' q (by rw [List.length_drop]; simp only [List.length_cons]; omega) hq hr1 false]
          rfl
theorem stO_run : ∀ (ts : List Tk) (o q : Nat), runK o (ts.map kt) = some q → stO (o + 1) ts = q + 1
  | [], o, q, h => by
    injection h with h
    subst h
    rfl
  | t :: r, o, q, h => by
    have h1 : (opK o (kt t)).bind (fun z => runK z (r.map kt)) = some q := h
    cases hz : opK o (kt t) with
    | none => rw [hz] at h1; cases h1
    | some z =>
      rw [hz] at h1
      have := stO_run r z q h1
      show stO (opn (o + 1) t.kind t.text) r = q + 1
      have e : opn (o + 1) t.kind t.text = z + 1 := by
        unfold opK kt at hz
        unfold opn
        dsimp only at hz
        by_cases h5 : t.kind = 5
        · rw [if_pos h5] at hz; cases hz
        · rw [if_neg h5] at hz
          by_cases h1 : t.kind = 4 ∧ (t.text = [40] ∨ t.text = [91])
          · rw [if_pos h1] at hz ⊢
            injection hz with hz
            omega
          · rw [if_neg h1] at hz ⊢
            by_cases h2 : t.kind = 4 ∧ (t.text = [41] ∨ t.text = [93])
            · rw [if_pos h2] at hz ⊢
              by_cases h0 : o = 0
              · rw [if_pos h0] at hz; cases hz
              · rw [if_neg h0] at hz
                injection hz with hz
                omega
            · rw [if_neg h2] at hz ⊢
              injection hz with hz
              omega
      rw [e]
      exact this
/-- Tokens of a source are such as a source can have. -/
theorem wf_inS : ∀ {o : Nat} {nl : Bool} {ts : List Tk}, Wf o nl ts → ∀ t ∈ ts, inS t.kind t.text = true := by
  intro o nl ts h
  induction h with
  | nil => intro t ht; cases ht
  | line t r h5 h0 _ ih =>
    intro u hu
    rcases List.mem_cons.1 hu with e | e
    · rw [e, h5, h0]; decide
    · exact ih u e
  | tok o nl t r hs _ ih =>
    intro u hu
    rcases List.mem_cons.1 hu with e | e
    · rw [e]
      exact (inS_self t.kind t.text t.at_).2 (.inr hs)
    · exact ih u e
theorem seen_id {T : List Tk} (h : ∀ t ∈ T, inS t.kind t.text = true) : tsOf (T.map Tk.tm) = T.map kt := by
  unfold tsOf seen
  rw [List.map_map, List.map_map]
  refine List.map_congr_left fun t ht => ?_
  show (if inS t.kind t.text = true then (t.kind, t.text) else (0, [])) = _
  rw [if_pos (h t ht)]
  rfl
end Go.Proofs.YtjehhldboopocaaGreatDoor.Lx
namespace Go.Proofs.YtjehhldboopocaaGreatDoor.Lx
open Go.RowKit Go.Lib
set_option linter.unusedVariables false
theorem opTk_false {us : Ts} {i : Nat} {s : List UInt8} (h : us[i]? = none) : opTk us i s = false := by unfold opTk; rw [h]; rfl
theorem opTk_true {us : Ts} {i : Nat} {s : List UInt8} (h : us[i]? = some (4, s)) : opTk us i s = true := by unfold opTk; rw [h]; exact decide_eq_true rfl
theorem opTk_ne {us : Ts} {i : Nat} {s t : List UInt8} (h : us[i]? = some (4, s)) (hn : s ≠ t) : opTk us i t = false := by
  unfold opTk
  rw [h]
  exact decide_eq_false fun e => by injection e with e; injection e with _ e; exact hn e
section
variable (P : Lits Vl) {us : Ts} {F a : Nat} {x : Xp}
theorem pG_atm {f i : Nat} : pG P us (f + 1) .atm i = atmF P (pG P us f) us i us[i]? := stepG_atm P _ us i
/-- A condition in parentheses, and nothing behind it. -/
theorem pG_par (h0 : us[0]? = some (4, [40])) (h1 : pG P us F .cond 1 = .ok x a) (h2 : us[a]? = some (4, [41])) (h3 : us[a + 1]? = none) : pG P us (F + 5) .cond 0 = .ok x (a + 1) := by
  have ha : pG P us (F + 1) .atm 0 = .ok x (a + 1) := by
    rw [pG_atm, h0]
    unfold atmF
    dsimp only
    rw [if_neg (by decide), if_neg (by decide), if_neg (by decide), if_pos rfl, if_pos rfl]
    show (pG P us F .cond 1).bind _ = _
    rw [h1]
    show (if opTk us a [41] = true then _ else _) = _
    rw [if_pos (opTk_true h2)]
  have hm : pG P us (F + 1) (.more x) (a + 1) = .ok x (a + 1) := by
    show (if opTk us (a + 1) [46] = true then _ else if opTk us (a + 1) [91] = true then _ else PR.ok x (a + 1)) = _
    rw [opTk_false h3, opTk_false h3]
    rfl
  have hc : pG P us (F + 2) .chn 0 = .ok x (a + 1) := by
    show (pG P us (F + 1) .atm 0).bind (fun x a => pG P us (F + 1) (.more x) a) = _
    rw [ha]
    exact hm
  have hu : pG P us (F + 3) .un 0 = .ok x (a + 1) := by
    show (if opTk us 0 [33] = true then _ else if opTk us 0 [45] = true then _ else pG P us (F + 2) .chn 0) = _
    rw [opTk_ne h0 (by decide), opTk_ne h0 (by decide)]
    exact hc
  have hlp : pG P us (F + 3) (.loop 2 7 x) (a + 1) = .ok x (a + 1) := by
    rw [pG_loop]
    have hb : (binAt us (a + 1)).1 = 0 := by unfold binAt; rw [h3]
    rw [hb, if_pos (.inl (by decide))]
  have ho : pG P us (F + 4) (.oper 2) 0 = .ok x (a + 1) := by
    rw [pG_oper, hu]
    exact hlp
  show (pG P us (F + 4) (.oper 2) 0).bind (fun c a => _) = _
  rw [ho]
  show (if opTk us (a + 1) [63] = true then _ else PR.ok x (a + 1)) = _
  rw [opTk_false h3]
  rfl
end
theorem kt_shift (d : Nat) (T : List Tk) : (T.map (shT d)).map kt = T.map kt := by
  rw [List.map_map]
  rfl
/-- The tokens of a source in parentheses, each in a line of its own. -/
theorem lex_enclosed {l : List UInt8} {T : List Tk} (h : lexF l 0 0 false = .ok T) (hr : runK 0 (T.map kt) = some 0) :
    lexF (40 :: 10 :: (l ++ [10, 41])) 0 0 false = .ok (⟨4, [40], 0⟩ :: (T.map (shT 2) ++ [⟨4, [41], 2 + l.length + 1⟩])) := by
  have h2 := lexF_shift 2 _ l 0 0 false T (Nat.le_refl _) h
  have h3 := lexF_deep _ l (0 + 2) 0 false _ 0 (Nat.le_refl _) h2 (by rw [kt_shift]; exact hr) false
  have hs : StopS [10, 41] := by
    intro c t e
    injection e with e1 e2
    subst e1
    decide
  have h4 := lexF_app hs (fun b => by cases b <;> rfl) _ l (0 + 2) (0 + 1) false _ (Nat.le_refl _) h3
  rw [stO_run (T.map (shT 2)) 0 0 (by rw [kt_shift]; exact hr)] at h4
  have h5 : ∀ A b, lexF [10, 41] A (0 + 1) b = .ok [⟨4, [41], A + 1⟩] := fun A b => by
    rw [lexF_step (c := 10) (r := [41]) _ _ _ (by rfl)]
    unfold stepR
    rw [if_pos rfl, if_neg (fun e => by have := e.1; omega)]
    rw [lexF_step (c := 41) (r := []) _ _ _ (by rfl)]
    unfold stepR
    rw [if_neg (by decide), if_neg (by decide)]
    rw [lexF_nil _ _ _ (by rfl)]
    rfl
  rw [h5] at h4
  have t0 : ∀ r, tokA (40 :: r) = (4, [40], 1, 0) := fun r => by
    show opA (40 :: r) = _
    have ho : opL (40 :: r) = 1 := by
      unfold opL
      cases r <;> simp [sgl, dbl]
    unfold opA
    rw [ho]
    rfl
  rw [lexF_step (c := 40) (r := 10 :: (l ++ [10, 41])) _ _ _ (by rfl)]
  unfold stepR
  rw [if_neg (by decide), t0]
  dsimp only
  rw [if_neg (by decide)]
  show Res.add _ (lexF (10 :: (l ++ [10, 41])) _ (0 + 1) false) = _
  rw [lexF_step (c := 10) (r := l ++ [10, 41]) _ _ _ (by rfl)]
  unfold stepR
  rw [if_pos rfl, if_neg (fun e => by have := e.1; omega)]
  have e2 : (0 + ((40 :: 10 :: (l ++ [10, 41])).length - ((10 :: (l ++ [10, 41])).length + 1)) + 1 + ((10 :: (l ++ [10, 41])).length - ((l ++ [10, 41]).length + 1)) + 1) = 0 + 2 := by
    simp only [List.length_cons]
    omega
  rw [e2, h4]
  have e3 : (0 + ((40 :: 10 :: (l ++ [10, 41])).length - ((10 :: (l ++ [10, 41])).length + 1))) = 0 := by
    simp only [List.length_cons]
    omega
  rw [e3]
  rfl
theorem bal_all {toks : List Tm} {x : Xp} {F : Nat} (h : pG litsP (tsOf toks) F .cond 0 = .ok x toks.length) : runK 0 (tsOf toks) = some 0 := by
  have hb := pG_bal litsP F .cond 0 trivial x toks.length h
  have hb : Bal (tsOf toks) 0 toks.length := hb
  have := hb.2 0
  rw [List.drop_zero, Nat.sub_zero, ← tsOf_len toks, List.take_length] at this
  exact this
theorem enclosed (s s' : ByteArray) (T : List Tk) (x : Xp) (hs : s'.data.toList = 40 :: 10 :: (s.data.toList ++ [10, 41])) (hl : lexF s.data.toList 0 0 false = .ok T) (hp : parseP (T.map Tk.tm) = .ok x T.length) :
    ∃ T' F, lexF s'.data.toList 0 0 false = .ok T' ∧ pP (T'.map Tk.tm) F .cond 0 = .ok x T'.length := by
  obtain ⟨F, hF⟩ : ∃ F, pG litsP (tsOf (T.map Tk.tm)) F .cond 0 = .ok x T.length := ⟨_, hp⟩
  have hr := bal_all (toks := T.map Tk.tm) (x := x) (F := F) (by rw [List.length_map]; exact hF)
  have hid : tsOf (T.map Tk.tm) = T.map kt := seen_id (wf_inS (lexF_wf _ _ _ _ _ _ (Nat.le_refl _) hl))
  rw [hid] at hF hr
  have hl' := lex_enclosed hl hr
  rw [← hs] at hl'
  refine ⟨_, F + 5, hl', ?_⟩
  have hid' := seen_id (wf_inS (lexF_wf _ _ _ _ _ _ (Nat.le_refl _) hl'))
  show pG litsP (tsOf _) (F + 5) .cond 0 = _
  rw [hid']
  have eu : ((⟨4, [40], 0⟩ : Tk) :: (T.map (shT 2) ++ [⟨4, [41], 2 + s.data.toList.length + 1⟩])).map kt = (4, [40]) :: (T.map kt ++ [(4, [41])]) := by
    rw [List.map_cons, List.map_append, kt_shift]
    rfl
  rw [eu]
  obtain ⟨ts, hts⟩ : ∃ ts, ts = T.map kt := ⟨_, rfl⟩
  have htl : ts.length = T.length := by rw [hts, List.length_map]
  rw [← hts] at hF ⊢
  have hin : ∀ i, i < ts.length → ((4, [40]) :: (ts ++ [(4, [41])]) : Ts)[1 + i]? = ts[i]? := fun i hi => by
    rw [Nat.add_comm, List.getElem?_cons_succ, List.getElem?_append_left hi]
  have h41 : ((4, [40]) :: (ts ++ [(4, [41])]) : Ts)[1 + ts.length]? = some (4, [41]) := by
    rw [Nat.add_comm, List.getElem?_cons_succ, List.getElem?_append_right (Nat.le_refl _), Nat.sub_self]
    rfl
  have hst : ∀ t, ((4, [40]) :: (ts ++ [(4, [41])]) : Ts)[1 + ts.length]? = some t → Stops t := fun t e => by
    rw [h41] at e
    injection e with e
    subst e
    intro _
    decide
  have hx := (pG_ext litsP hin hst F .cond 0 trivial x T.length hF).2 (by omega)
  have := pG_par litsP (us := (4, [40]) :: (ts ++ [(4, [41])])) (a := 1 + T.length) rfl hx (by rw [← htl]; exact h41) (by
    rw [List.getElem?_eq_none]
    simp only [List.length_cons, List.length_append, List.length_nil]
    omega)
  rw [this]
  simp only [List.length_cons, List.length_append, List.length_nil, List.length_map]
  congr 1
  omega
end Go.Proofs.YtjehhldboopocaaGreatDoor.Lx
