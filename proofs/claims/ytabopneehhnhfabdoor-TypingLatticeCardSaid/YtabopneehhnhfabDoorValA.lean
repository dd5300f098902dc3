/- Values of the configuration language as trees, how they lie in memory, and what Valid answers, as a plain function. No function of the program is named. -/
import Derived.Test.YtabopneehhnhfabDoorBaseS
import Derived.Test.YtabopneehhnhfabDoorNatI
namespace Go.Proofs.YtabopneehhnhfabDoor
open Go.RowKit Go.Lib

/-- A value: its kind, its truth, its number, its string, its elements, its keys. -/
inductive Vl where
  | mk (kind : Int) (truth : Bool) (num : Int) (str : ByteArray) (list : List Vl) (keys : List (List UInt8))

/-- A slice of values reads as a list of trees of at most m levels. -/
def ReadsV : Nat → World → Option Addr → List Vl → Prop
  | 0, _, _, l => l = []
  | m + 1, w, v, l => ∀ j (_ : j < l.length), ∃ b off k t i s l' ks av c kv kc, l[j]? = some (.mk k t i s l' ks) ∧ v = some ⟨b, off, none⟩ ∧ b < w.heap.size ∧
      w.cell? ⟨b, off + j * 6, none⟩ = some (.int .i64 k) ∧ w.cell? ⟨b, off + j * 6 + 1, none⟩ = some (.bool t) ∧ w.cell? ⟨b, off + j * 6 + 2, none⟩ = some (.int .i64 i) ∧
      w.cell? ⟨b, off + j * 6 + 3, none⟩ = some (.string s) ∧ w.cell? ⟨b, off + j * 6 + 4, none⟩ = some (.slice av l'.length c) ∧ w.cell? ⟨b, off + j * 6 + 5, none⟩ = some (.slice kv ks.length kc) ∧
      (-9223372036854775808 ≤ k ∧ k ≤ 9223372036854775807) ∧ (-9223372036854775808 ≤ i ∧ i ≤ 9223372036854775807) ∧ s.size ≤ 140737488351232 ∧ l'.length * 88 ≤ 140737488351232 ∧ l'.length ≤ c ∧ c ≤ 9223372036854775807 ∧ ks.length * 16 ≤ 140737488351232 ∧ ks.length ≤ kc ∧ kc ≤ 9223372036854775807 ∧
      (∀ x, x ∈ ks → x.length ≤ 140737488351232) ∧ ReadsStr w kv ks ∧ ReadsV m w av l'

/-- A value, spelled out, reads as a tree of at most m + 1 levels. -/
def IsV (m : Nat) (w : World) (V : Value) (x : Vl) : Prop := ∃ k t i s l ks av c kv kc, x = .mk k t i s l ks ∧ V = .agg #[.int .i64 k, .bool t, .int .i64 i, .string s, .slice av l.length c, .slice kv ks.length kc] ∧
      (-9223372036854775808 ≤ k ∧ k ≤ 9223372036854775807) ∧ (-9223372036854775808 ≤ i ∧ i ≤ 9223372036854775807) ∧ s.size ≤ 140737488351232 ∧ l.length * 88 ≤ 140737488351232 ∧ l.length ≤ c ∧ c ≤ 9223372036854775807 ∧ ks.length * 16 ≤ 140737488351232 ∧ ks.length ≤ kc ∧ kc ≤ 9223372036854775807 ∧
      (∀ x, x ∈ ks → x.length ≤ 140737488351232) ∧ ReadsStr w kv ks ∧ ReadsV m w av l

theorem ReadsV.below {w w' : World} (hb : Below w.heap.size w w') : ∀ (m : Nat) (v : Option Addr) (l : List Vl), ReadsV m w v l → ReadsV m w' v l
  | 0, _, _, h => h
  | m + 1, v, l, h => by
    intro j hj
    obtain ⟨b, off, k, t, i, s, l', ks, av, c, kv, kc, h0, h1, h2, c0, c1, c2, c3, c4, c5, g0, g1, g2, g3, g4, g5, g6, g7, g8, g9, hs, hl⟩ := h j hj
    exact ⟨b, off, k, t, i, s, l', ks, av, c, kv, kc, h0, h1, Nat.lt_of_lt_of_le h2 hb.size, (hb.cell (p := ⟨b, _, none⟩) h2).trans c0, (hb.cell (p := ⟨b, _, none⟩) h2).trans c1,
      (hb.cell (p := ⟨b, _, none⟩) h2).trans c2, (hb.cell (p := ⟨b, _, none⟩) h2).trans c3, (hb.cell (p := ⟨b, _, none⟩) h2).trans c4, (hb.cell (p := ⟨b, _, none⟩) h2).trans c5,
      g0, g1, g2, g3, g4, g5, g6, g7, g8, g9, hs.below hb, ReadsV.below hb m av l' hl⟩
theorem IsV.below {w w' : World} {m : Nat} {V : Value} {x : Vl} (h : IsV m w V x) (hb : Below w.heap.size w w') : IsV m w' V x := by
  obtain ⟨k, t, i, s, l, ks, av, c, kv, kc, e, eV, g0, g1, g2, g3, g4, g5, g6, g7, g8, g9, hs, hl⟩ := h
  exact ⟨k, t, i, s, l, ks, av, c, kv, kc, e, eV, g0, g1, g2, g3, g4, g5, g6, g7, g8, g9, hs.below hb, ReadsV.below hb m av l hl⟩
theorem ReadsV.up {w : World} : ∀ (m : Nat) (v : Option Addr) (l : List Vl), ReadsV m w v l → ReadsV (m + 1) w v l
  | 0, _, _, h => by
    have h' : _ = [] := h
    subst h'
    intro j hj
    simp at hj
  | m + 1, v, l, h => by
    intro j hj
    obtain ⟨b, off, k, t, i, s, l', ks, av, c, kv, kc, h0, h1, h2, c0, c1, c2, c3, c4, c5, g0, g1, g2, g3, g4, g5, g6, g7, g8, g9, hs, hl⟩ := h j hj
    exact ⟨b, off, k, t, i, s, l', ks, av, c, kv, kc, h0, h1, h2, c0, c1, c2, c3, c4, c5, g0, g1, g2, g3, g4, g5, g6, g7, g8, g9, hs, ReadsV.up m av l' hl⟩

/-- The first error of a list. -/
def firstV (g : Vl → Nat) : List Vl → Nat
  | [] => 0
  | x :: r => if g x ≠ 0 then g x else firstV g r
theorem firstV_drop (g : Vl → Nat) (l : List Vl) (j : Nat) (x : Vl) (h : l[j]? = some x) : firstV g (l.drop j) = if g x ≠ 0 then g x else firstV g (l.drop (j + 1)) := by
  obtain ⟨hj, rfl⟩ := List.getElem?_eq_some_iff.1 h
  rw [List.drop_eq_getElem_cons hj]
  rfl

/-- Are the fields that the kind does not use zero or empty? -/
def plainB (k : Int) (t : Bool) (i : Int) (s : ByteArray) (l : List Vl) (ks : List (List UInt8)) : Bool :=
  (!t || k == 1) && (i == 0 || k == 2) && (s.toList.isEmpty || k == 3) && (l.isEmpty || k == 4 || k == 5) && (ks.isEmpty || k == 5)
/-- May a text be a key? -/
def keyB (x : List UInt8) : Bool := decide (1 ≤ x.length) && decide (x.length ≤ 64)
def keysB (l : List Vl) (ks : List (List UInt8)) : Bool := decide (ks.length = l.length) && ks.all keyB && ascB ks
/-- The error of a value without its elements, at a level below which n - 1 further ones may lie. -/
def partE (n : Nat) (k : Int) (t : Bool) (i : Int) (s : ByteArray) (l : List Vl) (ks : List (List UInt8)) : Nat :=
  if n = 0 then 13
  else if (decide (k < 0) || decide (5 < k) || !plainB k t i s l ks) = true then 1
  else if (decide (i < -9007199254740992) || decide (9007199254740992 < i)) = true then 2
  else if (decide (4096 < s.size) || decide (1024 < l.length) || decide (1024 < ks.length)) = true then 3
  else if (k == 5 && !keysB l ks) = true then 1
  else if (decide (4 ≤ k) && l.isEmpty && decide (n = 1)) = true then 13
  else 0
/-- The first error of a value below which n - 1 further levels may lie. -/
def errV : Nat → Vl → Nat
  | 0, _ => 13
  | n + 1, .mk k t i s l ks => if partE (n + 1) k t i s l ks ≠ 0 then partE (n + 1) k t i s l ks else firstV (errV n) l
end Go.Proofs.YtabopneehhnhfabDoor
