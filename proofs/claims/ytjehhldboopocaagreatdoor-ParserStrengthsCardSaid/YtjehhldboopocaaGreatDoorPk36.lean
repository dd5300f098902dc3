/- Contracts of functions of the program, and what they are made of (parser; Pk36). -/
import Derived.Test.YtjehhldboopocaaGreatDoorPk09
import Derived.Test.YtjehhldboopocaaGreatDoorPk10
import Derived.Lib.AppendStr
import Derived.Maps.AppendAt
import Derived.OwnWalk
import Derived.Deep.AppendLies
import Derived.Deep.RegionLaw
import Derived.Laws.BitsAllLaws
import Derived.Shelf.Strconv.Itoa1
import Derived.Shelf.LaysM
import Derived.Shelf.Strconv.Itoa2
import Derived.Test.YtjehhldboopocaaGreatDoorProg
namespace Go.Proofs.YtjehhldboopocaaGreatDoor
open Go.RowKit Go.Lib
theorem info8 : (Tryz.prog.info? 5).map (fun i => (i.zero, i.size, i.bytes)) = some (some (.int .u8 0), 1, 1) := by kernel_rfl
/-- No block of other cells than bytes has turned. -/
def KeepT (w w' : World) : Prop := ∀ (k : Nat) (c : Array Value) (t : TypeId) (f : Nat × Nat), w.heap[k]? = some (Obj.cells c t f) → t ≠ 5 → w'.heap[k]? = some (Obj.cells c t f)
theorem KeepT.refl (w : World) : KeepT w w := fun _ _ _ _ h _ => h
theorem KeepT.trans {a b c : World} (h : KeepT a b) (k : KeepT b c) : KeepT a c := fun i x t f h1 h2 => k i x t f (h i x t f h1 h2) h2
theorem KeepT.alloc {a b : World} (h : KeepT a b) (o : Obj) : KeepT a (b.alloc o) := fun i x t f h1 h2 => by
  have h3 := h i x t f h1 h2
  rw [Below.heap_alloc b o i (Array.getElem?_eq_some_iff.1 h3).1]
  exact h3
theorem KeepT.append {a b c : World} (h : KeepT a b) {B n : Nat} {v : Value} {xs : List Value} (ho : b.ownsRow B 5 1 v n xs) (hg : b.grownBy c v.ownBlock) : KeepT a c := fun i x t f h1 h2 => by
  have h3 := h i x t f h1 h2
  rw [hg.block i (Array.getElem?_eq_some_iff.1 h3).1 ?_]
  · exact h3
  · intro hk
    rcases ho.2 with ⟨rfl, _⟩ | ⟨g, cap, cur, rfl, _, hgg, _⟩
    · simp [Value.ownBlock] at hk
    · simp only [Value.ownBlock, Option.some.injEq] at hk
      subst hk
      rw [hgg] at h3
      injection h3 with h4
      injection h4 with _ h5 _
      exact h2 h5.symm

theorem KeepT.drew {a b : World} (h : KeepT a b) : KeepT a b.drew := h
/-- What an append leaves: every block as it was, but that of the slice itself; what comes back lies there, or in a new block. -/
structure Frm (sv v' : Value) (w w' : World) : Prop where
  size : w.heap.size ≤ w'.heap.size
  block : ∀ k, k < w.heap.size → some k ≠ sv.ownBlock → w'.heap[k]? = w.heap[k]?
  lies : v'.ownBlock = sv.ownBlock ∨ ∃ k, v'.ownBlock = some k ∧ w.heap.size ≤ k
theorem Frm.refl (sv : Value) (w : World) : Frm sv sv w w := ⟨Nat.le_refl _, fun _ _ _ => rfl, .inl rfl⟩
theorem Frm.trans {a b c : Value} {u v w : World} (h : Frm a b u v) (k : Frm b c v w) : Frm a c u w := by
  refine ⟨Nat.le_trans h.size k.size, ?_, ?_⟩
  · intro i hi hne
    refine (k.block i (Nat.lt_of_lt_of_le hi h.size) ?_).trans (h.block i hi hne)
    rcases h.lies with e | ⟨j, e, hj⟩
    · rw [e]; exact hne
    · rw [e]
      intro e2
      injection e2 with e2
      omega
  · rcases k.lies with e | ⟨j, e, hj⟩
    · rw [e]; exact h.lies
    · exact .inr ⟨j, e, Nat.le_trans h.size hj⟩
theorem Frm.left {a b : Value} {w0 w w' : World} (hb : Below w0.heap.size w0 w) (h : Frm a b w w') : Frm a b w0 w' :=
  ⟨Nat.le_trans hb.size h.size, fun k hk hne => (h.block k (Nat.lt_of_lt_of_le hk hb.size) hne).trans (hb.block k hk), h.lies.imp id fun ⟨j, e, hj⟩ => ⟨j, e, Nat.le_trans hb.size hj⟩⟩
theorem Frm.right {a b : Value} {w w' w2 : World} (h : Frm a b w w') (hb : Below w'.heap.size w' w2) : Frm a b w w2 :=
  ⟨Nat.le_trans h.size hb.size, fun k hk hne => (hb.block k (Nat.lt_of_lt_of_le hk h.size)).trans (h.block k hk hne), h.lies⟩
theorem Frm.of_grown {a b : Value} {w w' : World} (hg : w.grownBy w' a.ownBlock) (h : b.ownBlock = a.ownBlock ∨ ∃ k, b.ownBlock = some k ∧ w.heap.size ≤ k) : Frm a b w w' := ⟨hg.size, hg.block, h⟩
/-- A block of another type is not the slice's own. -/
theorem own_type_ne {w : World} {B n : Nat} {t : TypeId} {v : Value} {xs : List Value} (h : w.ownsRow B t 1 v n xs) {k : Nat} {c : Array Value} {u : TypeId} {f : Nat × Nat} (hk : w.heap[k]? = some (Obj.cells c u f)) (hu : u ≠ t) : some k ≠ v.ownBlock := by
  rcases h.2 with ⟨rfl, _⟩ | ⟨g, cap, cur, rfl, _, hg, _⟩
  · simp [Value.ownBlock]
  · simp only [Value.ownBlock]
    intro e
    injection e with e
    subst e
    rw [hg] at hk
    injection hk with hk
    injection hk with _ h5 _
    exact hu h5.symm
theorem Frm.keepT {B n : Nat} {sv v' : Value} {xs : List Value} {w w' : World} (h : Frm sv v' w w') (ho : w.ownsRow B 5 1 sv n xs) : KeepT w w' := fun k _ _ _ h1 h2 =>
  (h.block k (Array.getElem?_eq_some_iff.1 h1).1 (own_type_ne ho h1 h2)).trans h1
/-- What comes back owns the cells that were there and, behind them, those of l. -/
def OwnB (B n : Nat) (sv : Value) (xs : List Value) (w : World) (l : List UInt8) (e : Ending) (w' : World) : Prop :=
  ∃ v', e = .returned v' ∧ w'.ownsRow B 5 1 v' (n + l.length) (xs ++ Lib.byteCells l) ∧ Below B w w' ∧ Frm sv v' w w'

/-- Where a string's bytes lie once they are appended. -/
theorem str_lies {P : Program} {w w' : World} (base : Nat) (t u ty e : TypeId) (i : TypeInfo) (ht : P.underlying t = some (.slice e)) (hu : P.underlying u = some .string) (hi : P.info? e = some i) (hz : i.zero = some (.int .u8 0))
    (hsize : i.size = 1) (hby : i.bytes = 1) (v v' : Value) (n : Nat) (xs : List Value) (hown : w.ownsRow base e 1 v n xs) (s : ByteArray) (h63 : n + s.size ≤ maxLen) (hbytes : n + s.size ≤ 140737488355328)
    (hr : (Builtin.append_ #[t, u] ty #[v, .string s]).run P w = .ok v' w') : v'.ownBlock = v.ownBlock ∨ ∃ k, v'.ownBlock = some k ∧ w.heap.size ≤ k := by
  rcases hown.2 with ⟨rfl, rfl⟩ | ⟨g, cap, cur, rfl, hbg, hg, hnc, hcm, hcs, htake⟩
  · have hx : xs = [] := List.eq_nil_of_length_eq_zero (by simpa using hown.1)
    subst hx
    obtain ⟨v2, w2, hr2, h2, _, _⟩ := Lib.run_append_own_string (P := P) w w.heap.size t u ty e i ht hu hi hz hsize hby _ _ _ (World.ownsRow_nil w w.heap.size e 1) s h63 hbytes (Nat.le_refl _)
    rw [hr] at hr2
    injection hr2 with e1 e2
    subst e1
    cases h : v'.ownBlock with
    | none => exact .inl rfl
    | some k => exact .inr ⟨k, rfl, (h2.lt k h).1⟩
  · have hcs' : cur.size = cap := by simpa using hcs
    by_cases hroom : n + s.size ≤ cap
    · have hr2 := Lib.run_append_room_string (P := P) w t u ty e i ht hu hi hsize g n cap cur hg s hroom (by omega)
      rw [hr] at hr2
      injection hr2 with e1 e2
      subst e1
      exact .inl rfl
    · have holds : ∀ j u, xs[j]? = some u → w.cell? ((⟨g, 0, none⟩ : Addr).add j) = some u := hown.cells (g := g) rfl
      have hxl : xs.length = n := by simpa using hown.1
      have hr2 := Lib.run_append_grow_string (P := P) w t u ty e i (.int .u8 0) ht hu hi hz ⟨g, 0, none⟩ n cap xs (by rw [hsize]; simpa using hxl) holds s (by omega) (by unfold maxLen at h63; omega) (by rw [hby]; exact growslice_fits (by omega) (by omega))
      rw [hr] at hr2
      injection hr2 with e1 e2
      subst e1
      exact .inr ⟨_, rfl, Nat.le_refl _⟩
/-- Appending a string's bytes, and where they lie. -/
theorem wpList_str_at {P : Program} (w : World) {ops : Array Oper} {rest : List Oper} {o : Oper} {a : Act} {Q : Exit → Act → World → Prop} (hgd : o.guard = none) (sl x : Operand) (t u : TypeId)
    (ho : o.op = .call { callee := .builtin .append, args := #[sl, x], argTypes := #[t, u] })
    (base : Nat) (e : TypeId) (i : TypeInfo) (ht : P.underlying t = some (.slice e)) (hu : P.underlying u = some .string) (hi : P.info? e = some i) (hz : i.zero = some (.int .u8 0)) (hsize : i.size = 1) (hby : i.bytes = 1)
    (v : Value) (n : Nat) (xs : List Value) (hs : a.eval sl = v) (hown : w.ownsRow base e 1 v n xs) (s : ByteArray) (hx : a.eval x = .string s) (h63 : n + s.size ≤ maxLen) (hbytes : n + s.size ≤ 140737488355328) (hbase : base ≤ w.heap.size)
    (h : ∀ v' w', w'.ownsRow base e 1 v' (n + s.size) (xs ++ Lib.strCells s) → w.grownBy w' v.ownBlock → Frm v v' w w' → wpList P ops Q rest (a.put o.dst v') w') : wpList P ops Q (o :: rest) a w := by
  refine wpList_plain hgd fun K hK => ?_
  obtain ⟨v', w', hr, h2, h3, _⟩ := Lib.run_append_own_string (P := P) w base t u o.type e i ht hu hi hz hsize hby v n xs hown s h63 hbytes hbase
  have h5 := str_lies base t u o.type e i ht hu hi hz hsize hby v v' n xs hown s h63 hbytes hr
  unfold Oper.wp execOp
  simp only [ho, resolve, invoke, builtin, Sem.run_bind, Sem.run_pure, Result.andThen_ok, List.map_toArray, List.map_cons, List.map_nil, hs, hx, hr]
  exact hK _ _ (h v' w' h2 h3 (Frm.of_grown h3 h5))

/-- Appending what a slice holds, and where it lies. -/
theorem wpList_arr_at {P : Program} (w : World) {ops : Array Oper} {rest : List Oper} {o : Oper} {a : Act} {Q : Exit → Act → World → Prop} (hgd : o.guard = none) (s x : Operand) (t : TypeId)
    (ho : o.op = .call { callee := .builtin .append, args := #[s, x], argTypes := #[t, t] })
    (base : Nat) (e : TypeId) (i : TypeInfo) (z : Value) (size bytes : Nat) (ht : P.underlying t = some (.slice e)) (hi : P.info? e = some i) (hz : i.zero = some z)
    (hsize : i.size = size) (hby : i.bytes = bytes) (hzs : z.cells.size = size) (hsz : 0 < size)
    (v : Value) (n : Nat) (xs : List Value) (hs : a.eval s = v) (hown : w.ownsRow base e size v n xs)
    (ad : Addr) (m c : Nat) (news : List Value) (hx : a.eval x = .slice (some ad) m c) (hl : news.length = m * size) (hnews : ∀ j u, news[j]? = some u → w.cell? (ad.add j) = some u) (h1 : ∀ u ∈ news, u.oneCell' = true)
    (h63 : n + m ≤ maxLen) (hbytes : (n + m) * bytes ≤ 140737488355328) (hbase : base ≤ w.heap.size)
    (h : ∀ v' w', w'.ownsRow base e size v' (n + m) (xs ++ news) → w.grownBy w' v.ownBlock → Frm v v' w w' → wpList P ops Q rest (a.put o.dst v') w') :
    wpList P ops Q (o :: rest) a w :=
  wpList_append_own_at w hgd s x t ho base e i z size bytes ht hi hz hsize hby hzs hsz v n xs hs hown ad m c news hx hl hnews h1 h63 hbytes hbase fun v' w' h2 h3 _ h5 =>
    h v' w' h2 h3 (Frm.of_grown h3 (h5.imp id fun e => ⟨_, e, Nat.le_refl _⟩))

def hexS : ByteArray := ⟨#[48, 49, 50, 51, 52, 53, 54, 55, 56, 57, 97, 98, 99, 100, 101, 102]⟩
theorem hexAt : ∀ i : Fin 16, (hexS[i.1]'i.2) = hexD i.1 := by decide
theorem hexAt' (z : Int) (n : Nat) (hn : n < 16) (hz : z = n) (h : z.toNat < (⟨#[48, 49, 50, 51, 52, 53, 54, 55, 56, 57, 97, 98, 99, 100, 101, 102]⟩ : ByteArray).size) : (⟨#[48, 49, 50, 51, 52, 53, 54, 55, 56, 57, 97, 98, 99, 100, 101, 102]⟩ : ByteArray)[z.toNat]'h = hexD n := by
  subst hz
  exact hexAt ⟨n, hn⟩
set_option maxHeartbeats 4000000 in
set_option maxRecDepth 100000 in
theorem appByte_hex (B n : Nat) (c : Nat) (hc : c < 256) (_h1 : c ≠ 34) (_h2 : c ≠ 92) (h3 : c ≠ 10) (h4 : c ≠ 9) (h5 : c < 32 ∨ 126 < c) (sv : Value) (xs : List Value) (w : World) (hown : w.ownsRow B 5 1 sv n xs) (hBw : B ≤ w.heap.size) (hlim : n + 4 ≤ 140737488355328) :
    Calls Tryz.prog 180 #[sv, .int .u8 c] w (OwnB B n sv xs w [92, 120, hexD (c / 16), hexD (c % 16)]) := by
  obtain ⟨i0, hi, hz0, hz1, hz2⟩ := info_parts info8
  have g1 : ((c : Int) == 34) = false := by rw [beq_eq_false_iff_ne]; omega
  have g2 : ((c : Int) == 92) = false := by rw [beq_eq_false_iff_ne]; omega
  have g3 : ((c : Int) == 10) = false := by rw [beq_eq_false_iff_ne]; omega
  have g4 : ((c : Int) == 9) = false := by rw [beq_eq_false_iff_ne]; omega
  have e2 : bits .and .u8 (c : Int) 15 = ((c % 16 : Nat) : Int) := by
    have h := u8_and_nat c 15 hc (by decide)
    rw [show c &&& 15 = c % 16 from Nat.and_two_pow_sub_one_eq_mod c 4] at h
    exact h
  have b1 : (0 : Int) ≤ (c : Int) / 16 ∧ (c : Int) / 16 < 16 := by omega
  have b2 : (0 : Int) ≤ (c : Int) % 16 ∧ (c : Int) % 16 < 16 := by omega
  have x1 := fun h => hexAt' ((c : Int) / 16) (c / 16) (by omega) (by omega) h
  have x2 := fun h => hexAt' ((c : Int) % 16) (c % 16) (by omega) (by omega) h
  by_cases h6 : c < 32
  · have g5 : (c : Int) < 32 := by omega
    clear _h1 _h2 h3 h4 h5 h6
    go_enter Tryz.func180, Tryz.ntmps180
    go_wp2_with fail
    go_region_law (refine step_append_lies _ rfl (.tmp 33) (.tmp 40) 46 rfl B 5 i0 (.int .u8 0) 1 1 Tryz.underlying46 hi hz0 hz1 hz2 rfl (by decide) sv n xs rfl (hown.drew.alloc _) ⟨w.heap.size, 0, none⟩ 4 4 [.int .u8 92, .int .u8 120, .int .u8 (hexD (c / 16)).toNat, .int .u8 (hexD (c % 16)).toNat] rfl rfl (World.news_of_block (heap_alloc_new w.drew _)) (by intro u hu; simp at hu; rcases hu with rfl | rfl | rfl | rfl <;> rfl) (by decide) (by unfold maxLen; omega) (by omega) (by simp; omega) _ rfl ?_; intro g1 cap1 w1 ho1 hg1 hl1 hl2)
    all_goals
      go_wp2_with fail
      go_ret
      exact ⟨_, rfl, ho1, ((Below.refl _ w).alloc hBw _).drew.grown hg1 (by simp; omega) (fun k hk => (hown.lt k hk).1), Frm.left ((Below.refl w.heap.size w).alloc (Nat.le_refl _) _).drew (Frm.of_grown hg1 (hl1.imp (fun h => h.symm) (fun h => ⟨_, rfl, Nat.le_of_eq h.symm⟩)))⟩
  · have g5 : ¬ (c : Int) < 32 := by omega
    have g6 : (126 : Int) < c := by omega
    clear _h1 _h2 h3 h4 h5 h6
    go_enter Tryz.func180, Tryz.ntmps180
    go_wp2_with fail
    go_region_law (refine step_append_lies _ rfl (.tmp 33) (.tmp 40) 46 rfl B 5 i0 (.int .u8 0) 1 1 Tryz.underlying46 hi hz0 hz1 hz2 rfl (by decide) sv n xs rfl (hown.drew.alloc _) ⟨w.heap.size, 0, none⟩ 4 4 [.int .u8 92, .int .u8 120, .int .u8 (hexD (c / 16)).toNat, .int .u8 (hexD (c % 16)).toNat] rfl rfl (World.news_of_block (heap_alloc_new w.drew _)) (by intro u hu; simp at hu; rcases hu with rfl | rfl | rfl | rfl <;> rfl) (by decide) (by unfold maxLen; omega) (by omega) (by simp; omega) _ rfl ?_; intro g1 cap1 w1 ho1 hg1 hl1 hl2)
    all_goals
      go_wp2_with fail
      go_ret
      exact ⟨_, rfl, ho1, ((Below.refl _ w).alloc hBw _).drew.grown hg1 (by simp; omega) (fun k hk => (hown.lt k hk).1), Frm.left ((Below.refl w.heap.size w).alloc (Nat.le_refl _) _).drew (Frm.of_grown hg1 (hl1.imp (fun h => h.symm) (fun h => ⟨_, rfl, Nat.le_of_eq h.symm⟩)))⟩

set_option maxHeartbeats 4000000 in
set_option maxRecDepth 100000 in
theorem appByte_any (B n : Nat) (c : UInt8) (sv : Value) (xs : List Value) (w : World) (hown : w.ownsRow B 5 1 sv n xs) (hBw : B ≤ w.heap.size) (hlim : n + 4 ≤ 140737488355328) :
    Calls Tryz.prog 180 #[sv, .int .u8 c.toNat] w (OwnB B n sv xs w (chrL c)) := by
  obtain ⟨i0, hi, hz0, hz1, hz2⟩ := info_parts info8
  by_cases h1 : c.toNat = 34
  · have E := Lib.hid (show chrL c = [92, 34] by unfold chrL; rw [if_pos h1])
    rw [show (c.toNat : Int) = 34 by omega]
    clear h1
    go_enter Tryz.func180, Tryz.ntmps180
    go_wp2_with (at_builtin; refine wpList_arr_at _ rfl _ _ 46 rfl B 5 i0 (.int .u8 0) 1 1 Tryz.underlying46 hi hz0 hz1 hz2 rfl (by decide) _ _ _ rfl (hown.alloc _) ⟨w.heap.size, 0, none⟩ 2 2 [.int .u8 92, .int .u8 34] rfl rfl (World.news_of_block (heap_alloc_new _ _)) (by intro u hu; simp at hu; (first | (rcases hu with rfl | rfl <;> rfl) | (subst hu; rfl))) (by unfold maxLen; omega) (by omega) (by simp; omega) ?_)
    intro v' w1 ho1 hg1 hat
    go_wp2_with fail
    go_ret
    exact ⟨_, rfl, by rw [E.out]; exact ho1, ((Below.refl _ w).alloc hBw _).grown hg1 (by simp; omega) (fun k hk => (hown.lt k hk).1), Frm.left ((Below.refl w.heap.size w).alloc (Nat.le_refl _) _) hat⟩
  have g1 : ((c.toNat : Int) == 34) = false := by rw [beq_eq_false_iff_ne]; omega
  by_cases h2 : c.toNat = 92
  · have E := Lib.hid (show chrL c = [92, 92] by unfold chrL; rw [if_neg h1, if_pos h2])
    rw [show (c.toNat : Int) = 92 by omega]
    clear h1 h2 g1
    go_enter Tryz.func180, Tryz.ntmps180
    go_wp2_with (at_builtin; refine wpList_arr_at _ rfl _ _ 46 rfl B 5 i0 (.int .u8 0) 1 1 Tryz.underlying46 hi hz0 hz1 hz2 rfl (by decide) _ _ _ rfl (hown.alloc _) ⟨w.heap.size, 0, none⟩ 2 2 [.int .u8 92, .int .u8 92] rfl rfl (World.news_of_block (heap_alloc_new _ _)) (by intro u hu; simp at hu; (first | (rcases hu with rfl | rfl <;> rfl) | (subst hu; rfl))) (by unfold maxLen; omega) (by omega) (by simp; omega) ?_)
    intro v' w1 ho1 hg1 hat
    go_wp2_with fail
    go_ret
    exact ⟨_, rfl, by rw [E.out]; exact ho1, ((Below.refl _ w).alloc hBw _).grown hg1 (by simp; omega) (fun k hk => (hown.lt k hk).1), Frm.left ((Below.refl w.heap.size w).alloc (Nat.le_refl _) _) hat⟩
  have g2 : ((c.toNat : Int) == 92) = false := by rw [beq_eq_false_iff_ne]; omega
  by_cases h3 : c.toNat = 10
  · have E := Lib.hid (show chrL c = [92, 110] by unfold chrL; rw [if_neg h1, if_neg h2, if_pos h3])
    rw [show (c.toNat : Int) = 10 by omega]
    clear h1 h2 h3 g1 g2
    go_enter Tryz.func180, Tryz.ntmps180
    go_wp2_with (at_builtin; refine wpList_str_at _ rfl _ _ 46 9 rfl B 5 i0 Tryz.underlying46 Tryz.underlying9 hi hz0 hz1 hz2 _ _ _ rfl hown ⟨#[92, 110]⟩ rfl (show n + 2 ≤ maxLen by unfold maxLen; omega) (show n + 2 ≤ 140737488355328 by omega) hBw ?_)
    intro v' w1 ho1 hg1 hat
    go_wp2_with fail
    go_ret
    exact ⟨_, rfl, by rw [E.out]; exact ho1, (Below.refl _ w).grown hg1 hBw (fun k hk => (hown.lt k hk).1), hat⟩
  have g3 : ((c.toNat : Int) == 10) = false := by rw [beq_eq_false_iff_ne]; omega
  by_cases h4 : c.toNat = 9
  · have E := Lib.hid (show chrL c = [92, 116] by unfold chrL; rw [if_neg h1, if_neg h2, if_neg h3, if_pos h4])
    rw [show (c.toNat : Int) = 9 by omega]
    clear h1 h2 h3 h4 g1 g2 g3
    go_enter Tryz.func180, Tryz.ntmps180
    go_wp2_with (at_builtin; refine wpList_str_at _ rfl _ _ 46 9 rfl B 5 i0 Tryz.underlying46 Tryz.underlying9 hi hz0 hz1 hz2 _ _ _ rfl hown ⟨#[92, 116]⟩ rfl (show n + 2 ≤ maxLen by unfold maxLen; omega) (show n + 2 ≤ 140737488355328 by omega) hBw ?_)
    intro v' w1 ho1 hg1 hat
    go_wp2_with fail
    go_ret
    exact ⟨_, rfl, by rw [E.out]; exact ho1, (Below.refl _ w).grown hg1 hBw (fun k hk => (hown.lt k hk).1), hat⟩
  have g4 : ((c.toNat : Int) == 9) = false := by rw [beq_eq_false_iff_ne]; omega
  by_cases h5 : 32 ≤ c.toNat ∧ c.toNat ≤ 126
  · have E := Lib.hid (show chrL c = [c] by unfold chrL; rw [if_neg h1, if_neg h2, if_neg h3, if_neg h4, if_pos h5])
    have g5 : ¬ (c.toNat : Int) < 32 := by omega
    have g6 : ¬ (126 : Int) < (c.toNat : Int) := by omega
    clear h1 h2 h3 h4 h5
    go_enter Tryz.func180, Tryz.ntmps180
    go_wp2_with (at_builtin; refine wpList_arr_at _ rfl _ _ 46 rfl B 5 i0 (.int .u8 0) 1 1 Tryz.underlying46 hi hz0 hz1 hz2 rfl (by decide) _ _ _ rfl (hown.alloc _) ⟨w.heap.size, 0, none⟩ 1 1 [.int .u8 c.toNat] rfl rfl (World.news_of_block (heap_alloc_new _ _)) (by intro u hu; simp at hu; subst hu; rfl) (by unfold maxLen; omega) (by omega) (by simp; omega) ?_)
    intro v' w1 ho1 hg1 hat
    go_wp2_with fail
    go_ret
    exact ⟨_, rfl, by rw [E.out]; exact ho1, ((Below.refl _ w).alloc hBw _).grown hg1 (by simp; omega) (fun k hk => (hown.lt k hk).1), Frm.left ((Below.refl w.heap.size w).alloc (Nat.le_refl _) _) hat⟩
  · have e : chrL c = [92, 120, hexD (c.toNat / 16), hexD (c.toNat % 16)] := by unfold chrL; rw [if_neg h1, if_neg h2, if_neg h3, if_neg h4, if_neg h5]
    rw [e]
    exact appByte_hex B n c.toNat c.toNat_lt h1 h2 h3 h4 (by omega) sv xs w hown hBw hlim

theorem byteCells_append (a b : List UInt8) : Lib.byteCells (a ++ b) = Lib.byteCells a ++ Lib.byteCells b := List.map_append
/-- One append behind another. -/
theorem OwnB.own {B n : Nat} {xs : List Value} {w' : World} {a b : List UInt8} {v : Value} (h : w'.ownsRow B 5 1 v (n + a.length + b.length) (xs ++ Lib.byteCells a ++ Lib.byteCells b)) : w'.ownsRow B 5 1 v (n + (a ++ b).length) (xs ++ Lib.byteCells (a ++ b)) := by
  rw [byteCells_append, List.length_append, ← List.append_assoc, ← Nat.add_assoc]
  exact h
end Go.Proofs.YtjehhldboopocaaGreatDoor
namespace Go.Proofs.YtjehhldboopocaaGreatDoor
open Go.RowKit Go.Lib
set_option maxHeartbeats 4000000 in
set_option maxRecDepth 100000 in
theorem appBool_any (B n : Nat) (t : Bool) (sv : Value) (xs : List Value) (w : World) (hown : w.ownsRow B 5 1 sv n xs) (hBw : B ≤ w.heap.size) (hlim : n + 5 ≤ 140737488355328) :
    Calls Tryz.prog 178 #[sv, .bool t] w (OwnB B n sv xs w (if t = true then [116, 114, 117, 101] else [102, 97, 108, 115, 101])) := by
  obtain ⟨i0, hi, hz0, hz1, hz2⟩ := info_parts info8
  cases t
  · go_enter Tryz.func178, Tryz.ntmps178
    go_wp2_with (at_builtin; refine wpList_str_at _ rfl _ _ 46 9 rfl B 5 i0 Tryz.underlying46 Tryz.underlying9 hi hz0 hz1 hz2 _ _ _ rfl hown ⟨#[102, 97, 108, 115, 101]⟩ rfl (show n + 5 ≤ maxLen by unfold maxLen; omega) (show n + 5 ≤ 140737488355328 by omega) hBw ?_)
    intro v' w1 ho1 hg1 hat
    go_wp2_with fail
    go_ret
    exact ⟨_, rfl, ho1, (Below.refl _ w).grown hg1 hBw (fun k hk => (hown.lt k hk).1), hat⟩
  · go_enter Tryz.func178, Tryz.ntmps178
    go_wp2_with (at_builtin; refine wpList_str_at _ rfl _ _ 46 9 rfl B 5 i0 Tryz.underlying46 Tryz.underlying9 hi hz0 hz1 hz2 _ _ _ rfl hown ⟨#[116, 114, 117, 101]⟩ rfl (show n + 4 ≤ maxLen by unfold maxLen; omega) (show n + 4 ≤ 140737488355328 by omega) hBw ?_)
    intro v' w1 ho1 hg1 hat
    go_wp2_with fail
    go_ret
    exact ⟨_, rfl, ho1, (Below.refl _ w).grown hg1 hBw (fun k hk => (hown.lt k hk).1), hat⟩
set_option maxHeartbeats 4000000 in
set_option maxRecDepth 100000 in
theorem appBoolS_any (B n : Nat) (t : Bool) (sv : Value) (xs : List Value) (w : World) (hown : w.ownsRow B 5 1 sv n xs) (hBw : B ≤ w.heap.size) (hlim : n + 5 ≤ 140737488355328) :
    Calls Tryz.prog 141 #[sv, .bool t] w (OwnB B n sv xs w (if t = true then [116, 114, 117, 101] else [102, 97, 108, 115, 101])) := by
  have X := Lib.hid (appBool_any B n t sv xs w hown hBw hlim)
  clear hown
  cases t
  all_goals
    go_enter Tryz.func141, Tryz.ntmps141
    go_wp2_with fail
    go_fit X.out
    rintro e w1 ⟨v, rfl, h1, h2, h3⟩
    have H3 := Lib.hid h3
    have H1 := Lib.hid h1
    have H2 := Lib.hid h2
    clear h1 h2 h3
    go_wp2_with fail
    go_ret
    exact ⟨_, rfl, H1.out, H2.out, H3.out⟩

theorem flat_snoc (s : List UInt8) (j : Nat) (h : j < s.length) : (s.take (j + 1)).flatMap chrL = (s.take j).flatMap chrL ++ chrL s[j] := by
  rw [List.take_succ_eq_append_getElem h, List.flatMap_append]
  simp
theorem str_at (s : ByteArray) (j : Nat) (h : j < s.size) : s.data.toList[j]'(by rw [listS_len]; exact h) = s[j] := rfl
set_option maxHeartbeats 4000000 in
set_option maxRecDepth 100000 in
theorem appStr_any (B n : Nat) (s : ByteArray) (hs : s.size ≤ 140737488351232) (sv : Value) (xs : List Value) (w : World) (hown : w.ownsRow B 5 1 sv n xs) (hBw : B ≤ w.heap.size) (hlim : n + (quoL s.data.toList).length + 4 ≤ 140737488355328) :
    Calls Tryz.prog 143 #[sv, .string s] w (OwnB B n sv xs w (quoL s.data.toList)) := by
  obtain ⟨i0, hi, hz0, hz1, hz2⟩ := info_parts info8
  have hsl := listS_len s
  have hBw' := hBw
  have hq : (quoL s.data.toList).length = (s.data.toList.flatMap chrL).length + 2 := by simp [quoL]
  go_enter Tryz.func143, Tryz.ntmps143
  go_wp2_with (at_builtin; refine wpList_arr_at _ rfl _ _ 46 rfl B 5 i0 (.int .u8 0) 1 1 Tryz.underlying46 hi hz0 hz1 hz2 rfl (by decide) _ _ _ rfl (hown.alloc _) ⟨w.heap.size, 0, none⟩ 1 1 [.int .u8 34] rfl rfl (World.news_of_block (heap_alloc_new _ _)) (by intro u hu; simp at hu; subst hu; rfl) (by unfold maxLen; omega) (by omega) (by simp; omega) ?_)
  intro v1 w1 ho1 hg1 hat
  have B1 : Below B w w1 := ((Below.refl _ w).alloc hBw _).grown hg1 (by simp; omega) (fun k hk => (hown.lt k hk).1)
  have H1 := Lib.hid ho1
  have HB1 := Lib.hid B1
  have HK1 := Lib.hid (Frm.left ((Below.refl w.heap.size w).alloc (Nat.le_refl _) _) hat)
  clear hown ho1 hg1 B1 hat
  go_wp2_with fail
  go_loopw [0, 11] (fun s0 s11 wr => ∃ j : Nat, j ≤ s.size ∧ s11 = .int .i64 (j : Int) ∧ Hid (wr.ownsRow B 5 1 s0 (n + 1 + ((s.data.toList.take j).flatMap chrL).length) (xs ++ [.int .u8 34] ++ Lib.byteCells ((s.data.toList.take j).flatMap chrL))) ∧ Hid (Below B w wr) ∧ Hid (Frm sv s0 w wr)) (fun _ s11 _ => s.size - (RowKit.intOf s11).toNat)
  case atStart => exact ⟨0, by omega, rfl, Lib.hid (by simpa [Lib.byteCells] using H1.out), HB1, HK1⟩
  case round =>
    obtain ⟨j, hj, rfl, HO, HB, HK⟩ := hrel
    clear H1 HB1 HK1
    by_cases hlt : j < s.size
    · have hlt' : j < s.data.toList.length := by omega
      have hsn := flat_snoc s.data.toList j hlt'
      have hle := flat_le chrL s.data.toList j hlt'
      have hc := chrL_len s.data.toList[j]
      have hbw : B ≤ wr.heap.size := Nat.le_trans hBw' HB.out.size
      have F := Lib.hid (appByte_any B _ s.data.toList[j] _ _ wr HO.out hbw (by omega))
      rw [str_at s j hlt] at F hsn
      have HSN := Lib.hid hsn
      have hjI : (0 : Int) ≤ (j : Int) ∧ (j : Int) < (s.size : Int) := by omega
      clear hsn hle hc
      go_wp2_with fail
      go_fit F.out
      rintro e w2 ⟨v2, rfl, h1, h2, h3⟩
      have H1 := Lib.hid h1
      have H2 := Lib.hid (HB.out.trans h2)
      have H3 := Lib.hid (HK.out.trans h3)
      clear h1 h2 h3
      go_wp2_with fail
      refine ⟨⟨j + 1, by omega, by go_num, Lib.hid ?_, H2, H3⟩, by simp [RowKit.intOf]; omega⟩
      rw [HSN.out]
      exact OwnB.own H1.out
    · obtain rfl : j = s.size := by omega
      have hfl : s.data.toList.take s.size = s.data.toList := List.take_of_length_le (by omega)
      have HO2 := HO.out
      rw [hfl] at HO2
      have HO2 := Lib.hid HO2
      have hbw : B ≤ wr.heap.size := Nat.le_trans hBw' HB.out.size
      clear hlt hfl HO
      go_wp2_with (at_builtin; refine wpList_arr_at _ rfl _ _ 46 rfl B 5 i0 (.int .u8 0) 1 1 Tryz.underlying46 hi hz0 hz1 hz2 rfl (by decide) _ _ _ rfl (HO2.out.alloc _) ⟨wr.heap.size, 0, none⟩ 1 1 [.int .u8 34] rfl rfl (World.news_of_block (heap_alloc_new _ _)) (by intro u hu; simp at hu; subst hu; rfl) (by unfold maxLen; omega) (by omega) (by simp; omega) ?_)
      intro v2 w2 ho2 hg2 hat2
      have B2 : Below B w w2 := (HB.out.alloc hbw _).grown hg2 (by simp; omega) (fun k hk => (HO2.out.lt k hk).1)
      have H2 := Lib.hid ho2
      have HB2 := Lib.hid B2
      have HK2 := Lib.hid (HK.out.trans (Frm.left ((Below.refl wr.heap.size wr).alloc (Nat.le_refl _) _) hat2))
      clear ho2 hg2 B2 hat2
      go_wp2_with fail
      go_ret
      refine ⟨_, rfl, ?_, HB2.out, HK2.out⟩
      have h := H2.out
      have e1 : n + (quoL s.data.toList).length = n + 1 + (s.data.toList.flatMap chrL).length + 1 := by omega
      have e2 : xs ++ Lib.byteCells (quoL s.data.toList) = xs ++ [.int .u8 34] ++ Lib.byteCells (s.data.toList.flatMap chrL) ++ [.int .u8 34] := by
        unfold quoL
        rw [show (34 : UInt8) :: (s.data.toList.flatMap chrL ++ [34]) = [34] ++ (s.data.toList.flatMap chrL ++ [34]) from rfl, byteCells_append, byteCells_append]
        simp [Lib.byteCells]
      rw [e1, e2]
      show w2.ownsRow B 5 1 v2 _ _
      rw [List.length_flatMap]
      simpa using h
end Go.Proofs.YtjehhldboopocaaGreatDoor
namespace Go.Proofs
open Go.Shelf
def Tryz.lays283_ren : Go.Shelf.Ren := ⟨fun | 283 => 233 | n => n, fun | 3 => 3 | 9 => 9 | 4 => 4 | n => n, fun | n => n⟩
theorem Tryz.lays283 : Go.Proofs.Lays.n283 Tryz.prog Tryz.lays283_ren := {
  mixed := by kernel_rfl
  f283 := Tryz.func233.trans (congrArg some (by kernel_rfl))
  t3 := Tryz.underlying3
  a3 := Tryz.isAgg3
  z3 := Tryz.sizeOf3
  v3 := Tryz.zeroValue3
  t4 := Tryz.underlying4
  a4 := Tryz.isAgg4
  z4 := Tryz.sizeOf4
  v4 := Tryz.zeroValue4
  t9 := Tryz.underlying9
  a9 := Tryz.isAgg9
  z9 := Tryz.sizeOf9
  v9 := Tryz.zeroValue9 }
open Go.Lib in
theorem Tryz.internal_strconv_small (i : Nat) (h : i < 100) (w : World) :
    Calls Tryz.prog 233 #[.int .i64 i] w fun e w' => e = .returned (.string ⟨(Lib.decDigits i).toArray⟩) ∧ w' = w := Any.internal_strconv_small Tryz.lays283 i h w
def Tryz.laysM284_ren : Go.Shelf.Ren := ⟨fun | 284 => 234 | 129 => 249 | 317 => 248 | 318 => 250 | n => n, fun | 53 => 166 | 3 => 3 | 212 => 210 | 0 => 0 | 4 => 4 | 46 => 165 | 5 => 5 | 9 => 9 | n => n, fun | 17 => 4 | n => n⟩
theorem Tryz.laysM284 : Go.Proofs.LaysM.n284 Tryz.prog Tryz.laysM284_ren := {
  mixed := by kernel_rfl
  f129 := Tryz.func249.trans (congrArg some (by kernel_rfl))
  f284 := Tryz.func234.trans (congrArg some (by kernel_rfl))
  f317 := Tryz.func248.trans (congrArg some (by kernel_rfl))
  f318 := Tryz.func250.trans (congrArg some (by kernel_rfl))
  t0 := Tryz.underlying0
  a0 := Tryz.isAgg0
  z0 := Tryz.sizeOf0
  v0 := Tryz.zeroValue0
  t3 := Tryz.underlying3
  a3 := Tryz.isAgg3
  z3 := Tryz.sizeOf3
  v3 := Tryz.zeroValue3
  t4 := Tryz.underlying4
  a4 := Tryz.isAgg4
  z4 := Tryz.sizeOf4
  v4 := Tryz.zeroValue4
  t5 := Tryz.underlying5
  a5 := Tryz.isAgg5
  z5 := Tryz.sizeOf5
  v5 := Tryz.zeroValue5
  t9 := Tryz.underlying9
  a9 := Tryz.isAgg9
  z9 := Tryz.sizeOf9
  v9 := Tryz.zeroValue9
  t46 := Tryz.underlying165
  a46 := Tryz.isAgg165
  z46 := Tryz.sizeOf165
  v46 := Tryz.zeroValue165
  t53 := Tryz.underlying166
  a53 := Tryz.isAgg166
  z53 := Tryz.sizeOf166
  v53 := Tryz.zeroValue166
  t212 := Tryz.underlying210
  a212 := Tryz.isAgg210
  z212 := Tryz.sizeOf210
  v212 := Tryz.zeroValue210
  g17 := by kernel_rfl
  i0 := by kernel_rfl
  i3 := by kernel_rfl
  i4 := by kernel_rfl
  i5 := by kernel_rfl
  i9 := by kernel_rfl
  i46 := by kernel_rfl
  i53 := by kernel_rfl
  i212 := by kernel_rfl
  m17 := by kernel_rfl }
open Go.Lib in
theorem Tryz.internal_strconv_numDigits (u : Nat) (h1 : 1 ≤ u) (h2 : u < 18446744073709551616) (w : World) (htab : Lib.TabIs Tryz.prog w "internal/strconv.uint64pow10" .u64 Lib.pow10Tab) :
    Calls Tryz.prog 234 #[.int .u64 u] w fun e w' => e = .returned (.int .i64 (Lib.nDigits u)) ∧ w' = w := Any.internal_strconv_numDigits Tryz.laysM284 u h1 h2 w htab
def Tryz.lays285_ren : Go.Shelf.Ren := ⟨fun | 285 => 235 | n => n, fun | 37 => 46 | 53 => 166 | 3 => 3 | 4 => 4 | 51 => 184 | 9 => 9 | 5 => 5 | 0 => 0 | n => n, fun | n => n⟩
theorem Tryz.lays285 : Go.Proofs.Lays.n285 Tryz.prog Tryz.lays285_ren := {
  mixed := by kernel_rfl
  f285 := Tryz.func235.trans (congrArg some (by kernel_rfl))
  t0 := Tryz.underlying0
  a0 := Tryz.isAgg0
  z0 := Tryz.sizeOf0
  v0 := Tryz.zeroValue0
  t3 := Tryz.underlying3
  a3 := Tryz.isAgg3
  z3 := Tryz.sizeOf3
  v3 := Tryz.zeroValue3
  t4 := Tryz.underlying4
  a4 := Tryz.isAgg4
  z4 := Tryz.sizeOf4
  v4 := Tryz.zeroValue4
  t5 := Tryz.underlying5
  a5 := Tryz.isAgg5
  z5 := Tryz.sizeOf5
  v5 := Tryz.zeroValue5
  t9 := Tryz.underlying9
  a9 := Tryz.isAgg9
  z9 := Tryz.sizeOf9
  v9 := Tryz.zeroValue9
  t37 := Tryz.underlying46
  a37 := Tryz.isAgg46
  z37 := Tryz.sizeOf46
  v37 := Tryz.zeroValue46
  t51 := Tryz.underlying184
  a51 := Tryz.isAgg184
  z51 := Tryz.sizeOf184
  v51 := Tryz.zeroValue184
  t53 := Tryz.underlying166
  a53 := Tryz.isAgg166
  z53 := Tryz.sizeOf166
  v53 := Tryz.zeroValue166 }
open Go.RowKit Go.Sort Go.Lib in
theorem Tryz.internal_strconv_formatBase10 (blk off cap : Nat) (u : Nat) (d : Array UInt8) (w : World) (hH : Holds (fun (b : UInt8) => Value.int .u8 (b.toNat : Int)) w blk off d) (hu : u < 10 ^ d.size) (hu64 : u < 18446744073709551616) (hsz : d.size < 4611686018427387904) :
    Calls Tryz.prog 235 #[.slice (some ⟨blk, off, none⟩) d.size cap, .int .u64 u] w fun e w' =>
      e = .returned (.tuple #[]) ∧ ∃ (n v' : Nat) (dk : Array UInt8), w' = (putRow (fun (b : UInt8) => Value.int .u8 (b.toNat : Int)) w blk off dk).drewN n ∧ FmtInv d.size u 0 v' dk := Any.internal_strconv_formatBase10 Tryz.lays285 blk off cap u d w hH hu hu64 hsz
end Go.Proofs
