/- How fields are decoded (octets): the plain function, and how lists of fields lie in memory beside a reader that is written to. -/
import Derived.Test.YtfnjemocekgncaaOpenB
import Derived.Test.YtfnjemocekgncaaFldG
namespace Go.Proofs.Ytfnjemocekgncaa
open Go.RowKit Go.Lib

/-- c fields, each by g: the error, the fields, the bytes that are left. -/
def pList (g : List UInt8 → Nat × Fd × List UInt8) : Nat → List UInt8 → Nat × List Fd × List UInt8
  | 0, l => (0, [], l)
  | c + 1, l => if (g l).1 ≠ 0 then ((g l).1, [], []) else if (pList g c (g l).2.2).1 ≠ 0 then ((pList g c (g l).2.2).1, [], []) else (0, (g l).2.1 :: (pList g c (g l).2.2).2.1, (pList g c (g l).2.2).2.2)
/-- A number of fields and the fields. -/
def pFields (g : List UInt8 → Nat × Fd × List UInt8) (l : List UInt8) : Nat × List Fd × List UInt8 :=
  if (take l).2.2 ≠ 0 then ((take l).2.2, [], []) else pList g (take l).1 (l.drop (take l).2.1)
def zeroF : Fd := .mk 0 0 ⟨#[]⟩ []
/-- A field, of which n levels are left. -/
def pField : Nat → List UInt8 → Nat × Fd × List UInt8
  | 0, _ => (13, zeroF, [])
  | _ + 1, [] => (4, zeroF, [])
  | n + 1, k :: l =>
    if k.toNat = 0 then (if (take l).2.2 ≠ 0 then ((take l).2.2, zeroF, []) else (0, .mk 0 (unzig (take l).1) ⟨#[]⟩ [], l.drop (take l).2.1))
    else if k.toNat = 1 then (if (takeS l).2.2 ≠ 0 then ((takeS l).2.2, zeroF, []) else (0, .mk 1 0 ⟨(takeS l).1.toArray⟩ [], l.drop (takeS l).2.1))
    else if k.toNat = 2 then (if (pFields (pField n) l).1 ≠ 0 then ((pFields (pField n) l).1, zeroF, []) else (0, .mk 2 0 ⟨#[]⟩ (pFields (pField n) l).2.1, (pFields (pField n) l).2.2))
    else (5, zeroF, [])

/-- What stands before, and what is decoded behind it. -/
def cat (acc : List Fd) (t : Nat × List Fd × List UInt8) : Nat × List Fd × List UInt8 := if t.1 ≠ 0 then (t.1, [], []) else (0, acc ++ t.2.1, t.2.2)
theorem cat_nil (g : List UInt8 → Nat × Fd × List UInt8) : ∀ (c : Nat) (l : List UInt8), cat [] (pList g c l) = pList g c l
  | 0, l => rfl
  | c + 1, l => by
    unfold pList
    by_cases h : (g l).1 ≠ 0
    · rw [if_pos h]; unfold cat; rw [if_pos h]
    · rw [if_neg h]
      by_cases h2 : (pList g c (g l).2.2).1 ≠ 0
      · rw [if_pos h2]; unfold cat; rw [if_pos h2]
      · rw [if_neg h2]; simp [cat]
theorem pList_step (g : List UInt8 → Nat × Fd × List UInt8) (acc : List Fd) (c : Nat) (r : List UInt8) (h : (g r).1 = 0) : cat acc (pList g (c + 1) r) = cat (acc ++ [(g r).2.1]) (pList g c (g r).2.2) := by
  rw [pList, if_neg (by simp [h])]
  unfold cat
  by_cases h2 : (pList g c (g r).2.2).1 ≠ 0
  · rw [if_pos h2, if_pos h2, if_pos h2]
  · rw [if_neg h2, if_neg h2, if_neg (by simp)]
    simp
theorem pList_stop (g : List UInt8 → Nat × Fd × List UInt8) (acc : List Fd) (c : Nat) (r : List UInt8) (h : (g r).1 ≠ 0) : cat acc (pList g (c + 1) r) = ((g r).1, [], []) := by
  rw [pList, if_pos h]
  unfold cat
  rw [if_pos h]
theorem pList_done (g : List UInt8 → Nat × Fd × List UInt8) (acc : List Fd) (r : List UInt8) : cat acc (pList g 0 r) = (0, acc, r) := by
  simp [cat, pList]
theorem pList_len (g : List UInt8 → Nat × Fd × List UInt8) (hg : ∀ l, (g l).1 = 0 → (g l).2.2.length < l.length) : ∀ (c : Nat) (l : List UInt8), (pList g c l).2.2.length ≤ l.length
  | 0, l => by simp [pList]
  | c + 1, l => by
    have h2 := pList_len g hg c (g l).2.2
    unfold pList
    split
    · simp
    · rename_i h
      have h1 := hg l (by simpa using h)
      split
      · simp
      · simp; omega
theorem pFields_len (g : List UInt8 → Nat × Fd × List UInt8) (hg : ∀ l, (g l).1 = 0 → (g l).2.2.length < l.length) (l : List UInt8) : (pFields g l).2.2.length ≤ l.length := by
  unfold pFields
  split
  · simp
  · have := pList_len g hg (take l).1 (l.drop (take l).2.1)
    rw [List.length_drop] at this
    omega
theorem pField_len : ∀ (n : Nat) (l : List UInt8), (pField n l).1 = 0 → (pField n l).2.2.length < l.length
  | 0, l => by intro h; simp [pField] at h
  | n + 1, [] => by intro h; simp [pField] at h
  | n + 1, k :: l => by
    have h3 := pFields_len (pField n) (pField_len n) l
    unfold pField
    intro h
    split
    · split
      · simp
      · simp; omega
    · split
      · split
        · simp
        · simp; omega
      · split
        · split
          · simp
          · simp; omega
        · simp

/-- A slice of fields reads as a list of trees of at most m levels, all of it in blocks that S permits. -/
def ReadsS (S : Nat → Prop) : Nat → World → Option Addr → List Fd → Prop
  | 0, _, _, l => l = []
  | m + 1, w, v, l => ∀ j (_ : j < l.length), ∃ b off k i s av c l', l[j]? = some (.mk k i s l') ∧ v = some ⟨b, off, none⟩ ∧ b < w.heap.size ∧ S b ∧
      w.cell? ⟨b, off + j * 4, none⟩ = some (.int .i64 k) ∧ w.cell? ⟨b, off + j * 4 + 1, none⟩ = some (.int .i64 i) ∧
      w.cell? ⟨b, off + j * 4 + 2, none⟩ = some (.string s) ∧ w.cell? ⟨b, off + j * 4 + 3, none⟩ = some (.slice av l'.length c) ∧
      -9223372036854775808 ≤ k ∧ k ≤ 9223372036854775807 ∧ -9223372036854775808 ≤ i ∧ i ≤ 9223372036854775807 ∧ l'.length ≤ 9223372036854775807 ∧ ReadsS S m w av l'
theorem ReadsS.toF {S : Nat → Prop} {w : World} : ∀ (m : Nat) (v : Option Addr) (l : List Fd), ReadsS S m w v l → ReadsF m w v l
  | 0, _, _, h => h
  | m + 1, v, l, h => by
    intro j hj
    obtain ⟨b, off, k, i, s, av, c, l', h0, h1, h2, hS, h3, h4, h5, h6, h7, h8, h9, h10, h11, h12⟩ := h j hj
    exact ⟨b, off, k, i, s, av, c, l', h0, h1, h2, h3, h4, h5, h6, h7, h8, h9, h10, h11, ReadsS.toF m av l' h12⟩
theorem ReadsS.move {S S' : Nat → Prop} {w w' : World} (hz : w.heap.size ≤ w'.heap.size) (hb : ∀ b, b < w.heap.size → S b → S' b ∧ w'.heap[b]? = w.heap[b]?) : ∀ (m : Nat) (v : Option Addr) (l : List Fd), ReadsS S m w v l → ReadsS S' m w' v l
  | 0, _, _, h => h
  | m + 1, v, l, h => by
    intro j hj
    obtain ⟨b, off, k, i, s, av, c, l', h0, h1, h2, hS, h3, h4, h5, h6, h7, h8, h9, h10, h11, h12⟩ := h j hj
    have hc := fun o => World.cell?_of_block (w := w) (w' := w') (a := ⟨b, o, none⟩) (hb b h2 hS).2
    exact ⟨b, off, k, i, s, av, c, l', h0, h1, Nat.lt_of_lt_of_le h2 hz, (hb b h2 hS).1, (hc _).trans h3, (hc _).trans h4, (hc _).trans h5, (hc _).trans h6, h7, h8, h9, h10, h11, ReadsS.move hz hb m av l' h12⟩
theorem ReadsS.nil (S : Nat → Prop) (w : World) (v : Option Addr) : ∀ m : Nat, ReadsS S m w v []
  | 0 => rfl
  | m + 1 => fun j hj => by simp at hj

/-- All but block R is as it was. -/
def But (R : Nat) (w w' : World) : Prop := w.grownBy w' (some R)
theorem But.refl (R : Nat) (w : World) : But R w w := ⟨rfl, rfl, rfl, Nat.le_refl _, fun _ _ _ => rfl⟩
theorem But.trans {R : Nat} {a b c : World} (h : But R a b) (k : But R b c) : But R a c :=
  ⟨k.os.trans h.os, k.tape.trans h.tape, k.output.trans h.output, Nat.le_trans h.size k.size, fun i hi hn => (k.block i (Nat.lt_of_lt_of_le hi h.size) hn).trans (h.block i hi hn)⟩
theorem But.below {R : Nat} {w w' : World} (h : Below w.heap.size w w') : But R w w' := ⟨h.os, h.tape, h.output, h.size, fun k hk _ => h.block k hk⟩
theorem But.alloc (R : Nat) (w : World) (o : Obj) : But R w (w.alloc o) := But.below ((Below.refl _ _).alloc (Nat.le_refl _) o)
theorem But.set (R : Nat) (w : World) (o : Nat) (x : Value) : But R w (w.setCell ⟨R, o, none⟩ x) :=
  ⟨rfl, rfl, rfl, by simp [World.setCell], fun k _ hn => Below.heap_setCell w ⟨R, o, none⟩ x k (by intro h; exact hn (by rw [h]))⟩
theorem But.cell {R : Nat} {w w' : World} (h : But R w w') {b o : Nat} (hb : b < w.heap.size) (hn : b ≠ R) : w'.cell? ⟨b, o, none⟩ = w.cell? ⟨b, o, none⟩ :=
  World.cell?_of_block (w := w) (h.block b hb (by simpa using hn))
theorem But.bytes {R : Nat} {w w' : World} (h : But R w w') {a : Option Addr} {l : List UInt8} (hr : ReadsBytes w a l) (hn : ∀ b off, a = some ⟨b, off, none⟩ → b < R) : ReadsBytes w' a l := by
  intro k hk
  obtain ⟨b, off, e, hlt, hc⟩ := hr k hk
  have := hn b off e
  exact ⟨b, off, e, Nat.lt_of_lt_of_le hlt h.size, (h.cell hlt (by omega)).trans hc⟩

/-- The slice s[k:] of a slice of capacity c: at its end the address stays. -/
def dropA (a : Option Addr) (c k : Nat) : Option Addr := if c = k then a else a.map fun x => x.add k
theorem dropA_zero (a : Option Addr) (c : Nat) : dropA a c 0 = a := by
  unfold dropA
  split
  · rfl
  · cases a with
    | none => rfl
    | some x => simp [Addr.add]
theorem dropA_block {w : World} {a : Option Addr} {l : List UInt8} {c k R : Nat} (hr : ReadsBytes w a l) (h : ∀ b off, a = some ⟨b, off, none⟩ → b < R) (hk : k ≤ l.length) : ∀ b off, dropA a c k = some ⟨b, off, none⟩ → b < R := by
  intro b off e
  by_cases k0 : k = 0
  · subst k0
    rw [dropA_zero] at e
    exact h b off e
  · obtain ⟨b', off', ea, _⟩ := hr 0 (by omega)
    have hb := h b' off' ea
    rw [ea] at e
    unfold dropA at e
    split at e
    · injection e with e; injection e with e1 _ _; omega
    · rw [Option.map_some] at e
      have e2 : (⟨b', off', none⟩ : Addr).add k = ⟨b', off' + k, none⟩ := by
        unfold Addr.add
        split
        · rename_i h; subst h; rfl
        · rfl
      rw [e2] at e
      injection e with e; injection e with e1 _ _; omega
theorem dropA_reads {w : World} {a : Option Addr} {l : List UInt8} {c : Nat} (h : ReadsBytes w a l) (hl : l.length ≤ c) (k : Nat) : ReadsBytes w (dropA a c k) (l.drop k) := by
  intro j hj
  rw [List.length_drop] at hj
  obtain ⟨b, off, e, hlt, hc⟩ := h (k + j) (by omega)
  unfold dropA
  rw [if_neg (by omega), e]
  have e2 : (⟨b, off, none⟩ : Addr).add k = ⟨b, off + k, none⟩ := by
    unfold Addr.add
    split
    · rename_i h; subst h; rfl
    · rfl
  refine ⟨b, off + k, by rw [Option.map_some, e2], hlt, ?_⟩
  rw [Nat.add_assoc, hc]
  simp
set_option maxRecDepth 100000 in
theorem slice_from (a : Option Addr) (len cap k : Nat) (hk : k ≤ len) (w : World) : (Instr.sliceAt 23 (.slice a len cap) (some (.int .i64 (k : Int))) none none).run Try.prog w = .ok (.slice (dropA a cap k) (len - k) (cap - k)) w := by
  rw [run_sliceAt_slice _ _ _ _ _ _ Try.underlying23, run_slice_l _ _ _ _ _ Try.underlying23 .i64 (k : Int) (by omega) (by omega)]
  have hs : (sizeOf (Try.prog.elem 23)).run Try.prog w = .ok 1 w := by kernel_rfl
  rw [hs]
  simp [Result.andThen, sliced, dropA]

/-- The reader: its cell holds a slice that reads as l. -/
def RSt (R : Nat) (w : World) (l : List UInt8) : Prop := ∃ a c, w.cell? ⟨R, 0, none⟩ = some (.slice a l.length c) ∧ w.frozen? ⟨R, 0, none⟩ = false ∧ R < w.heap.size ∧ l.length ≤ c ∧ c ≤ 9223372036854775807 ∧ ReadsBytes w a l ∧ (∀ b off, a = some ⟨b, off, none⟩ → b < R)

/-- An element of a list that was decoded, and its four cells. -/
def Elem (S : Nat → Prop) (m : Nat) (w : World) (f : Fd) (q : List Value) : Prop := ∃ k i s av c l', f = .mk k i s l' ∧ q = [.int .i64 k, .int .i64 i, .string s, .slice av (List.length l') c] ∧
  -9223372036854775808 ≤ k ∧ k ≤ 9223372036854775807 ∧ -9223372036854775808 ≤ i ∧ i ≤ 9223372036854775807 ∧ l'.length ≤ 9223372036854775807 ∧ ReadsS S m w av l'
def Row (S : Nat → Prop) (m : Nat) (w : World) (acc : List Fd) (xs : List Value) : Prop := xs.length = acc.length * 4 ∧ ∀ (j : Nat) f, acc[j]? = some f → Elem S m w f ((xs.drop (j * 4)).take 4)
theorem Row.nil (S : Nat → Prop) (m : Nat) (w : World) : Row S m w [] [] := ⟨rfl, fun j f h => by simp at h⟩
theorem Row.move {S S' : Nat → Prop} {m : Nat} {w w' : World} {acc : List Fd} {xs : List Value} (h : Row S m w acc xs) (hz : w.heap.size ≤ w'.heap.size) (hb : ∀ b, b < w.heap.size → S b → S' b ∧ w'.heap[b]? = w.heap[b]?) : Row S' m w' acc xs :=
  ⟨h.1, fun j f hf => by
    obtain ⟨k, i, s, av, c, l', e1, e2, h1, h2, h3, h4, h5, h6⟩ := h.2 j f hf
    exact ⟨k, i, s, av, c, l', e1, e2, h1, h2, h3, h4, h5, ReadsS.move hz hb m av l' h6⟩⟩
theorem Row.snoc {S : Nat → Prop} {m : Nat} {w : World} {acc : List Fd} {xs q : List Value} {f : Fd} (h : Row S m w acc xs) (hf : Elem S m w f q) : Row S m w (acc ++ [f]) (xs ++ q) := by
  have hq : q.length = 4 := by obtain ⟨_, _, _, _, _, _, _, e, _⟩ := hf; rw [e]; rfl
  refine ⟨by rw [List.length_append, List.length_append, h.1, hq, List.length_singleton]; omega, fun j g hg => ?_⟩
  have hlt := (List.getElem?_eq_some_iff.1 hg).1
  rw [List.length_append, List.length_singleton] at hlt
  by_cases hj : j < acc.length
  · rw [List.getElem?_append_left hj] at hg
    rw [List.drop_append_of_le_length (by rw [h.1]; omega), List.take_append_of_le_length (by rw [List.length_drop, h.1]; omega)]
    exact h.2 j g hg
  · obtain rfl : j = acc.length := by omega
    rw [List.getElem?_append_right (Nat.le_refl _), Nat.sub_self] at hg
    obtain rfl : f = g := by simpa using hg
    rw [← h.1, List.drop_left, List.take_of_length_le (by omega)]
    exact hf
set_option maxRecDepth 100000 in
theorem Row.reads {S S' : Nat → Prop} {m B n : Nat} {w : World} {acc : List Fd} {xs : List Value} {v : Value} (h : Row S m w acc xs) (hS : ∀ b, S b → S' b) (hB : ∀ b, B ≤ b → S' b) (ho : w.ownsRow B 48 4 v n xs) (hn : n = acc.length) :
    ∃ a c, v = .slice a acc.length c ∧ ReadsS S' (m + 1) w a acc := by
  subst hn
  have hh : ∀ j f, acc[j]? = some f → Elem S' m w f ((xs.drop (j * 4)).take 4) := (h.move (Nat.le_refl _) (fun b _ hb => ⟨hS b hb, rfl⟩)).2
  rcases ho.2 with ⟨rfl, h0⟩ | ⟨g, cap, cur, rfl, hg, hgg, hnc, hcm, _⟩
  · have hl : acc = [] := List.eq_nil_of_length_eq_zero h0
    subst hl
    exact ⟨none, 0, rfl, ReadsS.nil _ _ _ _⟩
  · refine ⟨some ⟨g, 0, none⟩, cap, rfl, ?_⟩
    intro j hj
    have hlt := (Array.getElem?_eq_some_iff.1 hgg).1
    obtain ⟨k, i, s, av, c, l', e1, e2, h1, h2, h3, h4, h5, h6⟩ := hh j acc[j] (List.getElem?_eq_getElem hj)
    have hx := h.1
    have hc : ∀ o, o < 4 → w.cell? ⟨g, 0 + (j * 4 + o), none⟩ = ((xs.drop (j * 4)).take 4)[o]? := by
      intro o ho4
      have hlt2 : j * 4 + o < xs.length := by omega
      have h9 := ho.cells rfl (j * 4 + o) xs[j * 4 + o] (List.getElem?_eq_getElem hlt2)
      have e : (⟨g, 0, none⟩ : Addr).add (j * 4 + o) = ⟨g, 0 + (j * 4 + o), none⟩ := by
        unfold Addr.add
        split
        · rename_i h; rw [h]
        · rfl
      rw [e] at h9
      rw [h9, List.getElem?_take_of_lt ho4, List.getElem?_drop, List.getElem?_eq_getElem hlt2]
    rw [e2] at hc
    exact ⟨g, 0, k, i, s, av, c, l', by rw [List.getElem?_eq_getElem hj, e1], rfl, hlt, hB g hg, hc 0 (by omega), hc 1 (by omega), hc 2 (by omega), hc 3 (by omega), h1, h2, h3, h4, h5, h6⟩
end Go.Proofs.Ytfnjemocekgncaa
