/- Entries of a map in memory; contract of the program's Vars (value). Contract of the program's validVar (value). What validVars has seen: a map of names; contract of the program's validVars (value). -/
import Derived.Test.YtabopneehhnhfaaGreatDoorVluL
import Derived.Test.YtabopneehhnhfaaGreatDoorVluA
import Derived.Test.YtabopneehhnhfaaGreatDoorValH
import Derived.Deep.AppendLies
import Derived.Deep.RegionLaw
import Derived.Maps.Own
import Derived.Maps.OwnOps
import Derived.Maps.Views
import Derived.Maps.Keyed
import Derived.WalkMore
namespace Go.Proofs.YtabopneehhnhfaaGreatDoor
open Go.RowKit Go.Lib

/-- Nothing of the blocks in S has turned. -/
def FromS (S : Nat → Prop) (w w2 : World) : Prop := w.heap.size ≤ w2.heap.size ∧ ∀ b, S b → b < w.heap.size → w2.heap[b]? = w.heap[b]?
theorem FromS.of_from {n : Nat} {S : Nat → Prop} {w w2 : World} (h : From n w w2) (hS : ∀ b, S b → n ≤ b) : FromS S w w2 := ⟨h.1, fun b h1 h2 => h.2 b (hS b h1) h2⟩
def StbS (S : Nat → Prop) (w : World) (P : World → Prop) : Prop := ∀ w2, FromS S w w2 → P w2
/-- An entry, as its cells tell. -/
def ElR (l : List Vr) (xs : List Value) (P : Option Addr → List (List UInt8) → Option Addr → List Vl → Prop) (j : Nat) : Prop := ∃ n k t i s l' ks av c kv kc, l[j]? = some (n, .mk k t i s l' ks) ∧
  xs[j * 7]? = some (.string ⟨n.toArray⟩) ∧ xs[j * 7 + 1]? = some (.int .i64 k) ∧ xs[j * 7 + 2]? = some (.bool t) ∧ xs[j * 7 + 3]? = some (.int .i64 i) ∧ xs[j * 7 + 4]? = some (.string s) ∧ xs[j * 7 + 5]? = some (.slice av l'.length c) ∧ xs[j * 7 + 6]? = some (.slice kv ks.length kc) ∧
  n.length ≤ 140737488351232 ∧ (-9223372036854775808 ≤ k ∧ k ≤ 9223372036854775807) ∧ (-9223372036854775808 ≤ i ∧ i ≤ 9223372036854775807) ∧ s.size ≤ 140737488351232 ∧ l'.length * 88 ≤ 140737488351232 ∧ l'.length ≤ c ∧ c ≤ 9223372036854775807 ∧ ks.length * 16 ≤ 140737488351232 ∧ ks.length ≤ kc ∧ kc ≤ 9223372036854775807 ∧
  (∀ x, x ∈ ks → x.length ≤ 140737488351232) ∧ P kv ks av l'
theorem ElR.mono {l l2 : List Vr} {xs xs' : List Value} {P Q : Option Addr → List (List UInt8) → Option Addr → List Vl → Prop} {j : Nat} (h : ElR l xs P j) (hl : l2[j]? = l[j]?) (hc : ∀ k, j * 7 ≤ k → k < j * 7 + 7 → xs'[k]? = xs[k]?) (hP : ∀ a b c d, P a b c d → Q a b c d) : ElR l2 xs' Q j := by
  obtain ⟨n, k, t, i, s, l', ks, av, c, kv, kc, e, c0, c1, c2, c3, c4, c5, c6, g, hp⟩ := h
  obtain ⟨g0, g1, g2, g3, g4, g5, g6, g7, g8, g9, g10, hp⟩ := And.intro g hp |>.1 |> fun _ => (⟨g, hp.1, hp.2.1, hp.2.2.1, hp.2.2.2.1, hp.2.2.2.2.1, hp.2.2.2.2.2.1, hp.2.2.2.2.2.2.1, hp.2.2.2.2.2.2.2.1, hp.2.2.2.2.2.2.2.2.1, hp.2.2.2.2.2.2.2.2.2.1, hp.2.2.2.2.2.2.2.2.2.2⟩ : _ ∧ _ ∧ _ ∧ _ ∧ _ ∧ _ ∧ _ ∧ _ ∧ _ ∧ _ ∧ _ ∧ _)
  exact ⟨n, k, t, i, s, l', ks, av, c, kv, kc, hl.trans e, (hc _ (by omega) (by omega)).trans c0, (hc _ (by omega) (by omega)).trans c1, (hc _ (by omega) (by omega)).trans c2, (hc _ (by omega) (by omega)).trans c3, (hc _ (by omega) (by omega)).trans c4, (hc _ (by omega) (by omega)).trans c5, (hc _ (by omega) (by omega)).trans c6, g0, g1, g2, g3, g4, g5, g6, g7, g8, g9, g10, hP _ _ _ _ hp⟩
/-- A slice of entries reads as a list. -/
def ReadsR (m : Nat) (w : World) (v : Option Addr) (l : List Vr) : Prop := ∀ j (_ : j < l.length), ∃ b off n k t i s l' ks av c kv kc, l[j]? = some (n, .mk k t i s l' ks) ∧ v = some ⟨b, off, none⟩ ∧ b < w.heap.size ∧
  w.cell? ⟨b, off + j * 7, none⟩ = some (.string ⟨n.toArray⟩) ∧ w.cell? ⟨b, off + j * 7 + 1, none⟩ = some (.int .i64 k) ∧ w.cell? ⟨b, off + j * 7 + 2, none⟩ = some (.bool t) ∧ w.cell? ⟨b, off + j * 7 + 3, none⟩ = some (.int .i64 i) ∧ w.cell? ⟨b, off + j * 7 + 4, none⟩ = some (.string s) ∧ w.cell? ⟨b, off + j * 7 + 5, none⟩ = some (.slice av l'.length c) ∧ w.cell? ⟨b, off + j * 7 + 6, none⟩ = some (.slice kv ks.length kc) ∧
  n.length ≤ 140737488351232 ∧ (-9223372036854775808 ≤ k ∧ k ≤ 9223372036854775807) ∧ (-9223372036854775808 ≤ i ∧ i ≤ 9223372036854775807) ∧ s.size ≤ 140737488351232 ∧ l'.length * 88 ≤ 140737488351232 ∧ l'.length ≤ c ∧ c ≤ 9223372036854775807 ∧ ks.length * 16 ≤ 140737488351232 ∧ ks.length ≤ kc ∧ kc ≤ 9223372036854775807 ∧
  (∀ x, x ∈ ks → x.length ≤ 140737488351232) ∧ ReadsStr w kv ks ∧ ReadsV m w av l'
theorem ReadsR.below {m : Nat} {w w' : World} {v : Option Addr} {l : List Vr} (h : ReadsR m w v l) (hb : Below w.heap.size w w') : ReadsR m w' v l := by
  intro j hj
  obtain ⟨b, off, n, k, t, i, s, l', ks, av, c, kv, kc, h0, h1, h2, c0, c1, c2, c3, c4, c5, c6, g, g0, g1, g2, g3, g4, g5, g6, g7, g8, g9, hs, hl⟩ := h j hj
  exact ⟨b, off, n, k, t, i, s, l', ks, av, c, kv, kc, h0, h1, Nat.lt_of_lt_of_le h2 hb.size, (hb.cell (p := ⟨b, _, none⟩) h2).trans c0, (hb.cell (p := ⟨b, _, none⟩) h2).trans c1, (hb.cell (p := ⟨b, _, none⟩) h2).trans c2, (hb.cell (p := ⟨b, _, none⟩) h2).trans c3, (hb.cell (p := ⟨b, _, none⟩) h2).trans c4, (hb.cell (p := ⟨b, _, none⟩) h2).trans c5, (hb.cell (p := ⟨b, _, none⟩) h2).trans c6, g, g0, g1, g2, g3, g4, g5, g6, g7, g8, g9, hs.below hb, ReadsV.below hb m av l' hl⟩
/-- An owned row of entries reads as the list. -/
theorem own_readsR {m : Nat} {w : World} {B n : Nat} {v : Value} {l : List Vr} {xs : List Value} (h : w.ownsRow B 55 7 v n xs) (hn : n = l.length) (hr : ∀ j, j < l.length → ElR l xs (fun kv ks av l' => ReadsStr w kv ks ∧ ReadsV m w av l') j) :
    ∃ a c, v = .slice a l.length c ∧ l.length ≤ c ∧ c ≤ 9223372036854775807 ∧ ReadsR m w a l := by
  rcases h.2 with ⟨rfl, h0⟩ | ⟨g, cap, cur, rfl, hB, hg, hnc, hcm, _⟩
  · have hl : l = [] := List.eq_nil_of_length_eq_zero (by omega)
    subst hl
    exact ⟨none, 0, rfl, by simp, by simp, fun k hk => by simp at hk⟩
  · subst hn
    refine ⟨some ⟨g, 0, none⟩, cap, rfl, hnc, hcm, ?_⟩
    intro j hj
    have hlt := (Array.getElem?_eq_some_iff.1 hg).1
    obtain ⟨n, k, t, i, s, l', ks, av, c, kv, kc, e, c0, c1, c2, c3, c4, c5, c6, g0, g1, g2, g3, g4, g5, g6, g7, g8, g9, g10, hp⟩ := hr j hj
    have hc : ∀ q u, xs[q]? = some u → w.cell? ⟨g, 0 + q, none⟩ = some u := fun q u hq => by have := h.cells (g := g) rfl q u hq; rwa [addr_add] at this
    refine ⟨g, 0, n, k, t, i, s, l', ks, av, c, kv, kc, e, rfl, hlt, hc _ _ c0, ?_, ?_, ?_, ?_, ?_, ?_, g0, g1, g2, g3, g4, g5, g6, g7, g8, g9, g10, hp.1, hp.2⟩
    · rw [Nat.add_assoc]; exact hc _ _ c1
    · rw [Nat.add_assoc]; exact hc _ _ c2
    · rw [Nat.add_assoc]; exact hc _ _ c3
    · rw [Nat.add_assoc]; exact hc _ _ c4
    · rw [Nat.add_assoc]; exact hc _ _ c5
    · rw [Nat.add_assoc]; exact hc _ _ c6
theorem infoVar : (Tryz.prog.info? 55).map (fun i => (i.zero, i.size, i.bytes)) = some (some (.agg #[.string ⟨#[]⟩, .int .i64 0, .bool false, .int .i64 0, .string ⟨#[]⟩, .slice none 0 0, .slice none 0 0]), 7, 104) := by kernel_rfl

/-- What Vars answers. -/
def varsE (x : Vl) : Nat := if errV 16 x ≠ 0 then errV 16 x else if x.kind = 5 then 0 else 9
def varsL (x : Vl) : List Vr := if varsE x = 0 then x.keys.zip x.list else []
end Go.Proofs.YtabopneehhnhfaaGreatDoor
namespace Go.Proofs.YtabopneehhnhfaaGreatDoor
open Go.RowKit Go.Lib

/-- An entry lies so. -/
def IsR (m : Nat) (w : World) (V : Value) (p : Vr) : Prop := ∃ n k t i s l ks av c kv kc, p = (n, .mk k t i s l ks) ∧ V = .agg #[.string ⟨n.toArray⟩, .int .i64 k, .bool t, .int .i64 i, .string s, .slice av l.length c, .slice kv ks.length kc] ∧ n.length ≤ 140737488351232 ∧ IsV m w (.agg #[.int .i64 k, .bool t, .int .i64 i, .string s, .slice av l.length c, .slice kv ks.length kc]) (.mk k t i s l ks)
/-- The error of an entry by itself. -/
def errR (p : Vr) : Nat := if keyB p.1 = false then 1 else if errV 16 p.2 ≠ 0 then errV 16 p.2 else errV 15 p.2
theorem errM_cons (seen : List (List UInt8)) (p : Vr) (r : List Vr) : errM seen (p :: r) = if errR p ≠ 0 then errR p else if p.1 ∈ seen then 7 else errM (p.1 :: seen) r := by
  rw [errM]
  unfold errR
  by_cases h1 : keyB p.1 = false
  · rw [if_pos h1, if_pos h1, if_pos (by decide)]
  · rw [if_neg h1, if_neg h1]
    by_cases h2 : errV 16 p.2 ≠ 0
    · rw [if_pos h2, if_pos h2, if_pos h2]
    · rw [if_neg h2, if_neg h2]
set_option maxRecDepth 100000 in
set_option maxHeartbeats 1000000 in
theorem validVar_any (m : Nat) (V : Value) (p : Vr) (w : World) (hV : IsR m w V p) :
    Calls Tryz.prog 68 #[V] w fun e w' => e = .returned (.int .i64 (errR p : Nat)) ∧ Below w.heap.size w w' := by
  obtain ⟨n, k, t, i, s, l, ks, av, c, kv, kc, rfl, rfl, hn, hv⟩ := hV
  have hfit := fits_is hv
  have NK := Lib.hid (fun w' => notKey_any ⟨n.toArray⟩ w')
  have F16 := Lib.hid (fun w' (hb : Below w.heap.size w w') => validV_any m _ (.mk k t i s l ks) w' (hv.below hb))
  have F15 := Lib.hid (fun w' (hb : Below w.heap.size w w') => by have h := validFrom_any m _ (.mk k t i s l ks) 2 w' (hv.below hb); rwa [firstP_pre m _ 2 15 hfit (by omega) (by omega) (by omega)] at h)
  have C0 := CellsAt.new w 55 #[.string ⟨n.toArray⟩, .int .i64 k, .bool t, .int .i64 i, .string s, .slice av l.length c, .slice kv ks.length kc]
  have E := Lib.hid (show errR (n, .mk k t i s l ks) = if keyB n = false then 1 else if errV 16 (.mk k t i s l ks) ≠ 0 then errV 16 (.mk k t i s l ks) else errV 15 (.mk k t i s l ks) from rfl)
  obtain ⟨e16, he16⟩ : ∃ e, e = errV 16 (.mk k t i s l ks) := ⟨_, rfl⟩
  obtain ⟨e15, he15⟩ : ∃ e, e = errV 15 (.mk k t i s l ks) := ⟨_, rfl⟩
  obtain ⟨er, her⟩ : ∃ e, e = errR (n, .mk k t i s l ks) := ⟨_, rfl⟩
  obtain ⟨kb, hkb⟩ : ∃ e, e = keyB n := ⟨_, rfl⟩
  rw [← he16] at F16
  rw [← he15] at F15
  rw [← her, ← he16, ← he15, ← hkb] at E
  rw [← her]
  have NK := Lib.hid (fun w' => by have h := NK.out w'; rwa [show keyB (⟨n.toArray⟩ : ByteArray).data.toList = kb from hkb.symm] at h)
  clear he16 he15 her hkb hfit hv hn
  go_enter Tryz.func68, Tryz.ntmps68
  go_wp2_with fail
  go_fit (NK.out _)
  rintro e w1 ⟨rfl, hb1⟩
  have B1 := Lib.hid (Below.trans (show Below w.heap.size w _ from (by repeat (first | exact Below.refl _ _ | refine Below.alloc ?_ (by simp <;> omega) _))) (hb1.mono (by simp <;> omega)))
  have C1 := C0.below hb1
  have p1 : w1.cell? ⟨w.heap.size, 1, none⟩ = some (.int .i64 k) := C1.cell rfl
  have p2 : w1.cell? ⟨w.heap.size, 2, none⟩ = some (.bool t) := C1.cell rfl
  have p3 : w1.cell? ⟨w.heap.size, 3, none⟩ = some (.int .i64 i) := C1.cell rfl
  have p4 : w1.cell? ⟨w.heap.size, 4, none⟩ = some (.string s) := C1.cell rfl
  have p5 : w1.cell? ⟨w.heap.size, 5, none⟩ = some (.slice av l.length c) := C1.cell rfl
  have p6 : w1.cell? ⟨w.heap.size, 6, none⟩ = some (.slice kv ks.length kc) := C1.cell rfl
  clear hb1 C0 NK
  cases kb with
  | false =>
    clear F16 F15
    go_wp2_with fail
    go_ret
    exact ⟨by rw [E.out]; rfl, B1.out⟩
  | true =>
    go_wp2_with fail
    go_fit (F16.out _ B1.out)
    rintro e w2 ⟨rfl, hb2⟩
    have B2 := Lib.hid (B1.out.trans (hb2.mono B1.out.size))
    have C2 := C1.below hb2
    have q1 : w2.cell? ⟨w.heap.size, 1, none⟩ = some (.int .i64 k) := C2.cell rfl
    have q2 : w2.cell? ⟨w.heap.size, 2, none⟩ = some (.bool t) := C2.cell rfl
    have q3 : w2.cell? ⟨w.heap.size, 3, none⟩ = some (.int .i64 i) := C2.cell rfl
    have q4 : w2.cell? ⟨w.heap.size, 4, none⟩ = some (.string s) := C2.cell rfl
    have q5 : w2.cell? ⟨w.heap.size, 5, none⟩ = some (.slice av l.length c) := C2.cell rfl
    have q6 : w2.cell? ⟨w.heap.size, 6, none⟩ = some (.slice kv ks.length kc) := C2.cell rfl
    clear hb2 B1 C1 p1 p2 p3 p4 p5 p6 F16
    by_cases h0 : e16 = 0
    · subst h0
      have E2 := Lib.hid (show er = e15 by rw [E.out]; rfl)
      clear E
      go_wp2_with fail
      go_fit (F15.out _ B2.out)
      rintro e w3 ⟨rfl, hb3⟩
      have B3 := Lib.hid (B2.out.trans (hb3.mono B2.out.size))
      clear hb3 B2 C2 q1 q2 q3 q4 q5 q6
      go_wp2_with fail
      go_ret
      exact ⟨by rw [E2.out]; rfl, B3.out⟩
    · have E2 := Lib.hid (show er = e16 by rw [E.out, if_neg (by decide), if_pos h0])
      have g : ((e16 : Int) != 0) = true := by rw [bne_iff_ne]; omega
      have g2 : ((e16 : Int) == 0) = false := by rw [beq_eq_false_iff_ne]; omega
      clear E F15 h0
      go_wp2_with fail
      go_ret
      exact ⟨by rw [E2.out]; rfl, B2.out⟩
end Go.Proofs.YtabopneehhnhfaaGreatDoor
namespace Go.Proofs.YtabopneehhnhfaaGreatDoor
open Go.RowKit Go.Lib Go.Maps

theorem law_str : Keyed Tryz.prog 9 := string_keyed Tryz.underlying9
theorem key_str (l : List UInt8) (h : l.length ≤ 140737488351232) : keyOf Tryz.prog 9 (.string ⟨l.toArray⟩) = some (.string l) :=
  (Go.WideMaps.keyOf_string_mk Tryz.underlying9 (by show l.toArray.size ≤ maxLen; unfold maxLen; simp; omega)).trans (by simp)
theorem zero_bool (w : World) : (zeroValue 4).run Tryz.prog w = .ok (.bool false) w := by kernel_rfl
/-- The map holds true at these names. -/
def SeenN (K : Nat) (w : World) (S : List (List UInt8)) : Prop := ∃ (D : DataW Unit) (cnt : Nat), cnt ≤ S.length ∧ w.ownsMap Tryz.prog 9 (plainElem Tryz.prog 4) K cnt D ∧ IsMap D ∧ ∀ l, D.atKey (.string l) (.lit (.bool false)) = .lit (.bool (decide (l ∈ S)))
theorem SeenN.new (w : World) : SeenN w.heap.size (w.alloc (.map #[] 0)) [] := ⟨.map [], 0, Nat.le_refl _, World.ownsMap_made w _ _ _, ⟨_, rfl⟩, fun _ => rfl⟩
theorem SeenN.lt {K : Nat} {w : World} {S : List (List UInt8)} (h : SeenN K w S) : K < w.heap.size := by
  obtain ⟨D, cnt, _, h2, _⟩ := h
  exact h2.lt
theorem SeenN.of_block {K : Nat} {w w' : World} {S : List (List UInt8)} (h : SeenN K w S) (e : w'.heap[K]? = w.heap[K]?) : SeenN K w' S := by
  obtain ⟨D, cnt, h1, ⟨es, clock, hb, F, hs, hD⟩, h3⟩ := h
  exact ⟨D, cnt, h1, ⟨es, clock, e.trans hb, F, hs, hD⟩, h3⟩
theorem SeenN.below {K : Nat} {w w' : World} {S : List (List UInt8)} (h : SeenN K w S) (hb : Below w.heap.size w w') : SeenN K w' S := h.of_block (hb.block K h.lt)
set_option maxRecDepth 100000 in
theorem SeenN.lookup {K : Nat} {w : World} {S : List (List UInt8)} (h : SeenN K w S) (l : List UInt8) (hl : l.length ≤ 140737488351232) :
    (Instr.lookup 86 (.map (some K)) (.string ⟨l.toArray⟩) false).run Tryz.prog w = .ok (.bool (decide (l ∈ S))) w := by
  obtain ⟨D, cnt, h1, h2, h3, h4⟩ := h
  obtain ⟨v, ps, hrun, hv⟩ := h2.lookup law_str Tryz.underlying86 (zero_bool w) (plainElem_bool Tryz.underlying4 false) (key_str l hl)
  rw [h4 l] at hv
  have e : v = .bool (decide (l ∈ S)) := by
    unfold plainElem at hv
    rw [Tryz.underlying4] at hv
    cases v <;> simp only [Option.some.injEq, Prod.mk.injEq, DataW.lit.injEq, Lit.bool.injEq, reduceCtorEq] at hv
    rw [hv.1]
  rw [e] at hrun
  exact hrun
theorem SeenN.put {K : Nat} {w : World} {S : List (List UInt8)} (h : SeenN K w S) (l : List UInt8) (hl : l.length ≤ 140737488351232) (hn : S.length < 4096) :
    ∃ w', (Instr.mapUpdate 86 (.map (some K)) (.string ⟨l.toArray⟩) (.bool true)).run Tryz.prog w = .ok () w' ∧ SeenN K w' (l :: S) ∧ w.grownBy w' (some K) := by
  obtain ⟨D, cnt, h1, h2, h3, h4⟩ := h
  obtain ⟨w', hrun, ho, hg⟩ := h2.update law_str Tryz.underlying86 (by unfold maxLen; omega) (key_str l hl) (plainElem_bool Tryz.underlying4 true)
  refine ⟨w', hrun, ⟨_, cnt + 1, by simp; omega, ho, h3.put _ _, fun x => ?_⟩, hg⟩
  by_cases e : x = l
  · subst e
    rw [atKey_put_same (k := .string x) h3 True.intro _ _]
    simp
  · rw [atKey_put_other (fun e2 => e (by injection e2)), h4 x]
    simp [e]

/-- The error of entries. -/
def errVs (l : List Vr) : Nat := if 1024 < l.length then 3 else errM [] l
theorem errM_drop (S : List (List UInt8)) (l : List Vr) (j : Nat) (p : Vr) (h : l[j]? = some p) : errM S (l.drop j) = if errR p ≠ 0 then errR p else if p.1 ∈ S then 7 else errM (p.1 :: S) (l.drop (j + 1)) := by
  obtain ⟨hlt, e⟩ := List.getElem?_eq_some_iff.1 h
  rw [List.drop_eq_getElem_cons hlt, e, errM_cons]

set_option maxRecDepth 100000 in
set_option maxHeartbeats 1000000 in
theorem validVars_any (m : Nat) (v : Option Addr) (l : List Vr) (c : Nat) (w : World) (hr : ReadsR m w v l) (hlen : l.length ≤ 9223372036854775000) :
    Calls Tryz.prog 43 #[.slice v l.length c] w fun e w' => e = .returned (.int .i64 (errVs l : Nat)) ∧ Below w.heap.size w w' := by
  have HR := Lib.hid hr
  clear hr
  by_cases hlong : 1024 < l.length
  · have E := Lib.hid (show errVs l = 3 from if_pos hlong)
    have g : (1024 : Int) < (l.length : Int) := by omega
    clear hlong
    go_enter Tryz.func43, Tryz.ntmps43
    go_wp2_with fail
    go_ret
    exact ⟨by rw [E.out]; rfl, Below.refl _ _⟩
  · have E := Lib.hid (show errVs l = errM [] l from if_neg hlong)
    have g : ¬ (1024 : Int) < (l.length : Int) := by omega
    obtain ⟨er, her⟩ : ∃ er, er = errVs l := ⟨_, rfl⟩
    rw [← her] at E ⊢
    have hmm := @run_makeMap Tryz.prog
    have S0 := Lib.hid (SeenN.new w)
    have B0 := Lib.hid ((Below.refl w.heap.size w).alloc (Nat.le_refl _) (.map #[] 0))
    clear her
    go_enter Tryz.func43, Tryz.ntmps43
    go_wp2_with fail
    go_loopw [13] (fun s7 wr => ∃ (j : Nat) (S : List (List UInt8)), j ≤ l.length ∧ S.length = j ∧ s7 = .int .i64 (j : Int) ∧ Hid (er = errM S (l.drop j)) ∧ Hid (SeenN w.heap.size wr S) ∧ Hid (Below w.heap.size w wr)) (fun s7 _ => l.length - (RowKit.intOf s7).toNat)
    case atStart => exact ⟨0, [], by omega, rfl, rfl, Lib.hid (by simpa using E.out), S0, B0⟩
    case round =>
      obtain ⟨j, S, hj, hSl, rfl, HE, HS, HB⟩ := hrel
      clear S0 B0 E
      have hSlt := HS.out.lt
      by_cases hlt : j < l.length
      · obtain ⟨b, off, n, k, t, i, s, l1, ks1, av1, c1, kv1, kc1, h0, rfl, h2, e0, e1, e2, e3, e4, e5, e6, gn, r0, r1, r2, r3, r4, r5, r6, r7, r8, r9, hs1, hl1⟩ := HR.out j hlt
        have p0 := (HB.out.cell (p := ⟨b, _, none⟩) h2).trans e0
        have p1 := (HB.out.cell (p := ⟨b, _, none⟩) h2).trans e1
        have p2 := (HB.out.cell (p := ⟨b, _, none⟩) h2).trans e2
        have p3 := (HB.out.cell (p := ⟨b, _, none⟩) h2).trans e3
        have p4 := (HB.out.cell (p := ⟨b, _, none⟩) h2).trans e4
        have p5 := (HB.out.cell (p := ⟨b, _, none⟩) h2).trans e5
        have p6 := (HB.out.cell (p := ⟨b, _, none⟩) h2).trans e6
        have hjI : (j : Int) < (l.length : Int) := by omega
        have hj00 : (0 : Int) ≤ (j : Int) := by omega
        have F := Lib.hid (fun w' (hb : Below w.heap.size w w') => validVar_any m (.agg #[.string ⟨n.toArray⟩, .int .i64 k, .bool t, .int .i64 i, .string s, .slice av1 l1.length c1, .slice kv1 ks1.length kc1]) (n, .mk k t i s l1 ks1) w' ⟨n, k, t, i, s, l1, ks1, av1, c1, kv1, kc1, rfl, rfl, gn, IsV.below ⟨k, t, i, s, l1, ks1, av1, c1, kv1, kc1, rfl, rfl, r0, r1, r2, r3, r4, r5, r6, r7, r8, r9, hs1, hl1⟩ hb⟩)
        have HD := Lib.hid (errM_drop S l j _ h0)
        have HGN := Lib.hid gn
        clear h0 h2 e0 e1 e2 e3 e4 e5 e6 gn r0 r1 r2 r3 r4 r5 r6 r7 r8 r9 hs1 hl1
        obtain ⟨z, hz⟩ : ∃ z, z = errR (n, .mk k t i s l1 ks1) := ⟨_, rfl⟩
        rw [← hz] at F HD
        clear hz
        have C0 := CellsAt.new wr 55 #[.string ⟨n.toArray⟩, .int .i64 k, .bool t, .int .i64 i, .string s, .slice av1 l1.length c1, .slice kv1 ks1.length kc1]
        obtain ⟨nv, hnv⟩ : ∃ nv : ByteArray, nv = ⟨n.toArray⟩ := ⟨_, rfl⟩
        rw [← hnv] at p0 F C0
        have LK := Lib.hid (fun (w' : World) (h : SeenN w.heap.size w' S) => by have h1 := h.lookup n HGN.out; rwa [← hnv] at h1)
        have PT := Lib.hid (fun (w' : World) (h : SeenN w.heap.size w' S) (hS : S.length < 4096) => by have h1 := h.put n HGN.out hS; rwa [← hnv] at h1)
        clear hnv
        have BA := Lib.hid (HB.out.alloc HB.out.size (.cells #[.string nv, .int .i64 k, .bool t, .int .i64 i, .string s, .slice av1 l1.length c1, .slice kv1 ks1.length kc1] 55))
        have SA := Lib.hid (HS.out.of_block (Below.heap_alloc wr (.cells #[.string nv, .int .i64 k, .bool t, .int .i64 i, .string s, .slice av1 l1.length c1, .slice kv1 ks1.length kc1] 55) w.heap.size hSlt))
        by_cases h0 : z = 0
        · subst h0
          have y2 := Lib.hid HD.out
          go_wp2_with fail
          go_fit (F.out _ BA.out)
          rintro e w1 ⟨rfl, hb1⟩
          have C1 := C0.below hb1
          have S1 := SA.out.below hb1
          have B1 := Lib.hid (BA.out.trans (hb1.mono BA.out.size))
          have d0 : w1.cell? ⟨wr.heap.size, 0, none⟩ = some (.string nv) := C1.cell rfl
          have lk := LK.out w1 S1
          by_cases hin : n ∈ S
          · rw [decide_eq_true hin] at lk
            have E7 := Lib.hid (show er = 7 by rw [HE.out, HD.out, if_neg (by decide), if_pos hin])
            clear hin y2 hb1 C0 C1 p0 p1 p2 p3 p4 p5 p6
            have S1 := Lib.hid S1
            go_wp2_with fail
            go_ret
            exact ⟨by rw [E7.out]; rfl, B1.out⟩
          · rw [decide_eq_false hin] at lk
            have E7 := Lib.hid (show er = errM (n :: S) (l.drop (j + 1)) by rw [HE.out, HD.out, if_neg (by decide), if_neg hin])
            obtain ⟨w2, up, hS2, hg2⟩ := PT.out w1 S1 (by omega)
            have B2 := Lib.hid (B1.out.grown hg2 B1.out.size (fun k hk => by injection hk with hk; omega))
            have hS2 := Lib.hid hS2
            clear hin y2 hb1 C0 C1 p0 p1 p2 p3 p4 p5 p6 S1 hg2
            go_wp2_with fail
            refine ⟨⟨j + 1, n :: S, by omega, by simp [hSl], by go_num, E7, hS2, B2⟩, by simp [RowKit.intOf]; omega⟩
        · have E7 := Lib.hid (show er = z by rw [HE.out, HD.out, if_pos h0])
          have g1 : ((z : Int) != 0) = true := by rw [bne_iff_ne]; omega
          have g2 : ((z : Int) == 0) = false := by rw [beq_eq_false_iff_ne]; omega
          go_wp2_with fail
          go_fit (F.out _ BA.out)
          rintro e w1 ⟨rfl, hb1⟩
          have B1 := Lib.hid (BA.out.trans (hb1.mono BA.out.size))
          clear hb1 C0 h0
          go_wp2_with fail
          go_ret
          exact ⟨by rw [E7.out]; rfl, B1.out⟩
      · obtain rfl : j = l.length := by omega
        have E0 := Lib.hid (show er = 0 by rw [HE.out, List.drop_length]; rfl)
        have hjI : ¬ (l.length : Int) < (l.length : Int) := by omega
        go_wp2_with fail
        go_ret
        exact ⟨by rw [E0.out]; rfl, HB.out⟩
end Go.Proofs.YtabopneehhnhfaaGreatDoor
