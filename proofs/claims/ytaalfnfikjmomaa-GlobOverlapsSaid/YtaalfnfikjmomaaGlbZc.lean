/- The program's rows of elements; contract of the program's parse (glob). -/
import Derived.Test.YtaalfnfikjmomaaGlbZb
import Derived.Test.YtaalfnfikjmomaaGlbI
namespace Go.Proofs.Ytaalfnfikjmomaa
open Go.RowKit Go.Lib
/-- The cells of a row of elements. -/
def elCs (l : List GE) : List Value := l.flatMap elC
theorem elC_len (x : GE) : (elC x).length = 7 := rfl
theorem elCs_snoc (l : List GE) (x : GE) : elCs (l ++ [x]) = elCs l ++ elC x := by unfold elCs; rw [List.flatMap_append]; simp
theorem elCs_len (l : List GE) : (elCs l).length = l.length * 7 := by
  induction l with
  | nil => rfl
  | cons a l ih => rw [show a :: l = [a] ++ l from rfl, elCs, List.flatMap_append, List.length_append]; show 7 + (elCs l).length = _; rw [ih, List.length_append, List.length_singleton]; omega
theorem elCs_at : ∀ (l : List GE) (k : Nat) (h : k < l.length) (j : Nat), j < 7 → (elCs l)[7 * k + j]? = (elC l[k])[j]?
  | [], k, h, _, _ => by simp at h
  | a :: l, 0, _, j, hj => by
    rw [show elCs (a :: l) = elC a ++ elCs l from rfl, List.getElem?_append_left (by rw [elC_len]; omega)]
    simp
  | a :: l, k + 1, h, j, hj => by
    have := elCs_at l k (by simpa using h) j hj
    rw [show elCs (a :: l) = elC a ++ elCs l from rfl, List.getElem?_append_right (by rw [elC_len]; omega), elC_len, show 7 * (k + 1) + j - 7 = 7 * k + j by omega, this]
    simp
theorem elC_cells (x : GE) : ∃ k0 k1 k2 k3 : Nat, setC (accN x) = [.int .u64 (k0 : Nat), .int .u64 (k1 : Nat), .int .u64 (k2 : Nat), .int .u64 (k3 : Nat)] ∧ elC x = [.int .u64 (k0 : Nat), .int .u64 (k1 : Nat), .int .u64 (k2 : Nat), .int .u64 (k3 : Nat), .bool (manyB x), .bool (isLit x), .int .u8 (litN x : Nat)] := ⟨_, _, _, _, rfl, rfl⟩
theorem elC_one (x : GE) : ∀ u ∈ elC x, u.oneCell' = true := by
  obtain ⟨k0, k1, k2, k3, _, h⟩ := elC_cells x
  rw [h]
  intro u hu
  simp at hu
  rcases hu with rfl | rfl | rfl | rfl | rfl | rfl | rfl <;> rfl
/-- A slice of the program's elements reads as a list of the document's. -/
def ReadsP (w : World) (v : Option Addr) (l : List GE) : Prop :=
  ∀ k (h : k < l.length), ∃ b, v = some ⟨b, 0, none⟩ ∧ b < w.heap.size ∧ ∀ j, j < 7 → w.cell? ⟨b, 7 * k + j, none⟩ = (elC l[k])[j]?
theorem ReadsP.below {w w' : World} {v : Option Addr} {l : List GE} (h : ReadsP w v l) (hb : Below w.heap.size w w') : ReadsP w' v l := by
  intro k hk
  obtain ⟨b, e, hlt, h1⟩ := h k hk
  exact ⟨b, e, Nat.lt_of_lt_of_le hlt hb.size, fun j hj => (hb.cell (p := ⟨b, 7 * k + j, none⟩) hlt).trans (h1 j hj)⟩
theorem own_readsP {w : World} {B n : Nat} {v : Value} {l : List GE} (h : w.ownsRow B 50 7 v n (elCs l)) (hn : n = l.length) :
    ∃ a c, v = .slice a l.length c ∧ l.length ≤ c ∧ c ≤ maxLen ∧ ReadsP w a l := by
  rcases h.2 with ⟨rfl, h0⟩ | ⟨g, cap, cur, rfl, hB, hg, hnc, hcm, _⟩
  · have hl : l = [] := List.eq_nil_of_length_eq_zero (by omega)
    subst hl
    exact ⟨none, 0, rfl, by simp, by simp, fun k hk => by simp at hk⟩
  · subst hn
    refine ⟨some ⟨g, 0, none⟩, cap, rfl, hnc, hcm, ?_⟩
    intro k hk
    have hlt := (Array.getElem?_eq_some_iff.1 hg).1
    refine ⟨g, rfl, hlt, fun j hj => ?_⟩
    have he := elCs_at l k hk j hj
    obtain ⟨u, hu⟩ : ∃ u, (elC l[k])[j]? = some u := ⟨_, List.getElem?_eq_getElem (by rw [elC_len l[k]]; exact hj)⟩
    rw [hu] at he ⊢
    have := h.cells (g := g) rfl _ _ he
    rwa [addr_add0] at this
theorem info50 : (Try.prog.info? 50).map (fun i => (i.zero, i.size, i.bytes)) = some (some (.agg #[.int .u64 0, .int .u64 0, .int .u64 0, .int .u64 0, .bool false, .bool false, .int .u8 0]), 7, 40) := by kernel_rfl
/-- What parse gives. -/
def ParsePost (s : List UInt8) (w : World) (e : Ending) (w' : World) : Prop :=
  Below w.heap.size w w' ∧ match parseP s with
  | some L => ∃ (a : Option Addr) (c : Nat), e = .returned (.tuple #[.slice a L.length c, .int .i64 0]) ∧ L.length ≤ c ∧ c ≤ maxLen ∧ L.length ≤ 4096 ∧ ReadsP w' a L
  | none => e = .returned (.tuple #[.slice none 0 0, .int .i64 (validP s : Nat)])
/-- What holds at each round's head: the elements up to index a. -/
def PRel (s t : ByteArray) (w : World) (acc : List GE) (sv : Value) (wr : World) : Prop :=
  t.size ≤ s.size ∧ acc.length ≤ s.size - t.size ∧ wr.ownsRow w.heap.size 50 7 sv acc.length (elCs acc) ∧ Below w.heap.size w wr ∧
    elemsL s.data.toList = (elemsL t.data.toList).map (acc ++ ·)
theorem new_cells {w : World} {cs : List Value} {t : TypeId} : ∀ j u, cs[j]? = some u → (w.alloc (.cells cs.toArray t)).cell? ((⟨w.heap.size, 0, none⟩ : Addr).add j) = some u := by
  intro j u hj
  rw [addr_add0]
  exact (BlkAt.new w t cs.toArray).cell (k := j) (by simpa using hj)
theorem prel_step {s t : ByteArray} {w w' : World} {acc : List GE} {v : Value} {x : GE} {r : List UInt8} {n : Nat} (h1 : t.size ≤ s.size ∧ acc.length ≤ s.size - t.size ∧ elemsL s.data.toList = (elemsL t.data.toList).map (acc ++ ·))
    (hne : t.data.toList ≠ []) (he : elemL t.data.toList = some (x, r)) (hr : r = t.data.toList.drop n) (hl : n + r.length = t.size) (hn : 0 < n) (ho : w'.ownsRow w.heap.size 50 7 v (acc.length + 1) (elCs acc ++ elC x)) (hb : Below w.heap.size w w') :
    PRel s (t.extract n t.size) w (acc ++ [x]) v w' := by
  obtain ⟨a1, a2, a3⟩ := h1
  refine ⟨by rw [ext_size]; omega, by rw [ext_size, List.length_append, List.length_singleton]; omega, by rw [elCs_snoc, List.length_append, List.length_singleton]; exact ho, hb, ?_⟩
  rw [a3, elemsL_some hne he, ext_drop, ← hr]
  cases elemsL r <;> simp
set_option maxHeartbeats 8000000 in
set_option maxRecDepth 100000 in
theorem parse_any (s : ByteArray) (w : World) :
    Calls Try.prog 22 #[.string s] w (ParsePost s.data.toList w) := by
  by_cases hbig : 4096 < s.size
  · have HP := Lib.hid (show parseP s.data.toList = none ∧ validP s.data.toList = 3 by unfold parseP validP; rw [if_pos (by rw [lenB]; exact hbig), if_pos (by rw [lenB]; exact hbig)]; exact ⟨rfl, rfl⟩)
    have h0 : (4096 : Int) < (s.size : Int) := by omega
    clear hbig
    go_enter Try.func22, Try.ntmps22
    go_wp2_with fail
    go_ret2
    refine ⟨Below.refl _ _, ?_⟩
    rw [HP.out.1, HP.out.2]
    rfl
  have hp : parseP s.data.toList = elemsL s.data.toList := by unfold parseP; rw [if_neg (by rw [lenB]; exact hbig)]
  have hvp : elemsL s.data.toList = none → validP s.data.toList = 5 := by intro e; unfold validP; rw [if_neg (by rw [lenB]; exact hbig), e]; rfl
  have HP := Lib.hid (And.intro hp hvp)
  have h0 : (s.size : Int) ≤ 4096 := by omega
  have HS := Lib.hid hbig
  clear hp hvp hbig
  obtain ⟨i0, hi0, hz0, hz1, hzb⟩ := info_parts info50
  go_enter Try.func22, Try.ntmps22
  go_wp2_with (at_make; refine wpList_make_own _ rfl _ _ 34 rfl w.heap.size 50 i0 (.agg #[.int .u64 0, .int .u64 0, .int .u64 0, .int .u64 0, .bool false, .bool false, .int .u8 0]) 7 Try.underlying34 hi0 hz0 hz1 .i64 .i64 (s.size : Int) s.size rfl rfl rfl ?m1 ?m2 ?m3 ?_)
  case m1 => rw [hzb]; omega
  case m2 => unfold maxLen; omega
  case m3 => exact Nat.le_refl _
  intro w1 hown hgr
  have ST := Lib.hid (show PRel s s w [] (.slice (some ⟨w.heap.size, 0, none⟩) 0 s.size) w1 from ⟨Nat.le_refl _, by simp, hown, ⟨hgr.os, hgr.tape, hgr.output, hgr.size, fun k hk => hgr.block k hk (by simp)⟩, by cases elemsL s.data.toList <;> simp⟩)
  clear hown hgr
  go_wp2_with fail
  go_loopw [4, 5] (fun s4 s5 wr => ∃ (t : ByteArray) (acc : List GE), s5 = .string t ∧ PRel s t w acc s4 wr) (fun _ s5 _ => match s5 with | .string u => u.size | _ => 0)
  case atStart => exact ⟨s, [], rfl, ST.out⟩
  case round =>
    obtain ⟨t, acc, rfl, hrel⟩ := hrel
    obtain ⟨sa, sc, rfl⟩ := own_slice hrel.2.2.1
    have HR := Lib.hid hrel
    have B := Lib.hid hrel.2.2.2.1
    by_cases hlt : 0 < t.size
    · obtain ⟨z1, z2⟩ := ne_list t hlt
      have u1 : (0 : Int) < (t.size : Int) := by omega
      have t9 : (t.size : Int) ≤ 4096 := by have := hrel.1; omega
      have hne : t.data.toList ≠ [] := by intro e; have := congrArg List.length e; rw [lenB, List.length_nil] at this; omega
      have F := Lib.hid (fun w => first_any t (by omega) hne w)
      have FP := Lib.hid (fun (w : World) (e : Ending) (w' : World) (h : FirstPost t w e w') => show Below w.heap.size w w' ∧ ((elemL t.data.toList = none ∧ e = .returned (.tuple #[.agg #[.int .u64 0, .int .u64 0, .int .u64 0, .int .u64 0, .bool false, .bool false, .int .u8 0], .int .i64 0, .bool false])) ∨ ∃ (x : GE) (r : List UInt8) (n k0 k1 k2 k3 m : Nat) (b1 b2 : Bool), elemL t.data.toList = some (x, r) ∧ n + r.length = t.size ∧ r = t.data.toList.drop n ∧ 0 < n ∧ elC x = [.int .u64 (k0 : Nat), .int .u64 (k1 : Nat), .int .u64 (k2 : Nat), .int .u64 (k3 : Nat), .bool b1, .bool b2, .int .u8 (m : Nat)] ∧ e = .returned (.tuple #[.agg #[.int .u64 (k0 : Nat), .int .u64 (k1 : Nat), .int .u64 (k2 : Nat), .int .u64 (k3 : Nat), .bool b1, .bool b2, .int .u8 (m : Nat)], .int .i64 n, .bool true])) from by
        obtain ⟨hb, h⟩ := h
        refine ⟨hb, ?_⟩
        cases hq : elemL t.data.toList with
        | none => rw [hq] at h; exact .inl ⟨rfl, h⟩
        | some q =>
          obtain ⟨x, r⟩ := q
          rw [hq] at h
          obtain ⟨n, n1, n2, n3, rfl⟩ := h
          obtain ⟨k0, k1, k2, k3, _, hk⟩ := elC_cells x
          exact .inr ⟨x, r, n, k0, k1, k2, k3, _, _, _, rfl, n1, n2, n3, hk, by rw [hk]⟩)
      have HN := Lib.hid (And.intro hlt hne)
      clear hrel hlt hne
      go_wp2_with fail
      go_fit (F.out _)
      intro e w2 h
      obtain ⟨hb, h⟩ := FP.out _ _ _ h
      have B2 := Lib.hid hb
      rcases h with ⟨he, rfl⟩ | ⟨x, r, n, k0, k1, k2, k3, m, b1, b2, he, n1, n2, n3, ek, rfl⟩
      · have HE := Lib.hid he
        clear he hb
        go_wp2_with fail
        go_ret2
        refine ⟨(B.out.trans (B2.out.mono B.out.size)).alloc (by have := B.out.size; have := B2.out.size; omega) _, ?_⟩
        have hn : elemsL s.data.toList = none := by rw [HR.out.2.2.2.2, elemsL_none HN.out.2 HE.out]; rfl
        rw [HP.out.1, hn, HP.out.2 hn]
        rfl
      · have HE := Lib.hid (And.intro he (And.intro n1 (And.intro n2 (And.intro n3 ek))))
        have HO2 := Lib.hid ((own_keep HR.out.2.2.1 hb).alloc (Obj.cells #[.int .u64 (k0 : Nat), .int .u64 (k1 : Nat), .int .u64 (k2 : Nat), .int .u64 (k3 : Nat), .bool b1, .bool b2, .int .u8 (m : Nat)] 50) |>.alloc (Obj.cells #[.int .u64 (k0 : Nat), .int .u64 (k1 : Nat), .int .u64 (k2 : Nat), .int .u64 (k3 : Nat), .bool b1, .bool b2, .int .u8 (m : Nat)] 50))
        have HBA := Lib.hid (((B.out.trans (hb.mono B.out.size)).alloc (by have := B.out.size; have := hb.size; omega) (Obj.cells #[.int .u64 (k0 : Nat), .int .u64 (k1 : Nat), .int .u64 (k2 : Nat), .int .u64 (k3 : Nat), .bool b1, .bool b2, .int .u8 (m : Nat)] 50)).alloc (by have := B.out.size; have := hb.size; simp; omega) (Obj.cells #[.int .u64 (k0 : Nat), .int .u64 (k1 : Nat), .int .u64 (k2 : Nat), .int .u64 (k3 : Nat), .bool b1, .bool b2, .int .u8 (m : Nat)] 50))
        have hsl : ∃ u, u = t.extract n t.size := ⟨_, rfl⟩
        obtain ⟨u, hu⟩ := hsl
        have hsl := hu.symm
        have HU := Lib.hid hu
        have nl : (n : Int) ≤ (t.size : Int) := by omega
        have ac : acc.length ≤ 4096 := by have := HR.out.2.1; have := HS.out; omega
        have AC := Lib.hid ac
        clear he n2 ek hb hu ac
        go_wp2_with (at_builtin; refine wpList_append_own _ rfl _ _ 34 rfl w.heap.size 50 i0 (.agg #[.int .u64 0, .int .u64 0, .int .u64 0, .int .u64 0, .bool false, .bool false, .int .u8 0]) 7 40 Try.underlying34 hi0 hz0 hz1 hzb rfl (by decide) _ _ _ rfl HO2.out ⟨w2.heap.size + 1, 0, none⟩ 1 1 [.int .u64 (k0 : Nat), .int .u64 (k1 : Nat), .int .u64 (k2 : Nat), .int .u64 (k3 : Nat), .bool b1, .bool b2, .int .u8 (m : Nat)] rfl rfl ?c1 ?c2 ?c3 ?c4 ?c5 ?_)
        case c1 =>
          intro j u hj
          have := new_cells (w := w2.alloc (Obj.cells #[.int .u64 (k0 : Nat), .int .u64 (k1 : Nat), .int .u64 (k2 : Nat), .int .u64 (k3 : Nat), .bool b1, .bool b2, .int .u8 (m : Nat)] 50)) (t := 50) j u hj
          rw [World.size_alloc] at this
          exact this
        case c2 => rw [← HE.out.2.2.2.2]; exact elC_one x
        case c3 => have := AC.out; unfold maxLen; omega
        case c4 => have := AC.out; omega
        case c5 => have := B.out.size; have := B2.out.size; simp; omega
        intro v' w3 hown' hgrow _
        have ST2 := Lib.hid (show PRel s u w (acc ++ [x]) v' w3 from by
          rw [← HE.out.2.2.2.2] at hown'
          rw [HU.out]
          exact prel_step ⟨HR.out.1, HR.out.2.1, HR.out.2.2.2.2⟩ HN.out.2 HE.out.1 HE.out.2.2.1 HE.out.2.1 HE.out.2.2.2.1 hown' (HBA.out.grown hgrow (by have := B.out.size; have := B2.out.size; simp; omega) (fun k hk => (HO2.out.lt k hk).1)))
        clear hown' hgrow
        go_wp2_with fail
        go_roundw
        case rel => exact ⟨u, acc ++ [x], rfl, ST2.out⟩
        case measure =>
          show u.size < t.size
          rw [HU.out, ext_size]
          have := HE.out.2.2.2.1
          have := HN.out.1
          omega
    · have hz : t = ⟨#[]⟩ := by
        apply ByteArray.ext
        apply Array.toList_inj.1
        exact List.eq_nil_of_length_eq_zero (by rw [lenB]; omega)
      subst hz
      have HV := Lib.hid (show parseP s.data.toList = some acc by rw [HP.out.1, hrel.2.2.2.2]; show (elemsL []).map _ = _; rw [elemsL_nil]; simp)
      have HRD := Lib.hid (own_readsP hrel.2.2.1 rfl)
      have AC := Lib.hid (show acc.length ≤ 4096 by have := hrel.2.1; omega)
      clear hrel hlt
      go_wp2_with fail
      go_ret2
      refine ⟨B.out, ?_⟩
      rw [HV.out]
      obtain ⟨a, c, e, h1, h2, h3⟩ := HRD.out
      exact ⟨a, c, by rw [e]; rfl, h1, h2, AC.out, h3⟩
end Go.Proofs.Ytaalfnfikjmomaa
