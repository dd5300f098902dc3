/- A slice of bytes that a conversion of a string laid, or an append: it is the call's own, and bytes are appended to it (digest). -/
import Derived.Test.YtoehpoodfbgdiaaDoorDigPi
import Derived.Test.YtoehpoodfbgdiaaDoorDigD
import Derived.ArgAppend
import Derived.Deep.Upon
import Derived.Lib.ConvBytes
namespace Go.Proofs.YtoehpoodfbgdiaaDoor
open Go.RowKit Go.Lib

/-- The slice value v holds the bytes l in a block of its own at or beyond B, none of whose cells is frozen. -/
def OwnsZ (w : World) (B : Nat) (v : Value) (l : List UInt8) : Prop :=
  ∃ g cap, v = .slice (some ⟨g, 0, none⟩) l.length cap ∧ B ≤ g ∧ g < w.heap.size ∧ l.length ≤ cap ∧ cap ≤ maxLen ∧
    (∀ j (h : j < l.length), w.cell? ⟨g, j, none⟩ = some (.int .u8 l[j].toNat)) ∧ (∀ j, j < cap → (w.cell? ⟨g, j, none⟩).isSome = true ∧ w.frozen? ⟨g, j, none⟩ = false)
theorem OwnsZ.alloc {w : World} {B : Nat} {v : Value} {l : List UInt8} (h : OwnsZ w B v l) (o : Obj) : OwnsZ (w.alloc o) B v l := by
  obtain ⟨g, cap, rfl, hb, hg, hl, hm, hc, hs⟩ := h
  have e := Below.heap_alloc w o g hg
  refine ⟨g, cap, rfl, hb, by simp; omega, hl, hm, fun j hj => ?_, fun j hj => ?_⟩
  · rw [World.cell?_of_block (a := ⟨g, j, none⟩) e]; exact hc j hj
  · rw [World.cell?_of_block (a := ⟨g, j, none⟩) e, World.frozen?_of_block (a := ⟨g, j, none⟩) e]; exact hs j hj
theorem OwnsZ.reads {w : World} {B : Nat} {v : Value} {l : List UInt8} (h : OwnsZ w B v l) : ∃ a c, v = .slice a l.length c ∧ l.length ≤ c ∧ ReadsBytes w a l := by
  obtain ⟨g, cap, rfl, hb, hg, hl, hm, hc, hs⟩ := h
  exact ⟨_, cap, rfl, hl, fun k hk => ⟨g, 0, rfl, hg, by rw [Nat.zero_add]; exact hc k hk⟩⟩
theorem OwnsZ.row {w : World} {B n : Nat} {v : Value} {l : List UInt8} (h : w.ownsRow B 5 1 v n (Lib.byteCells l)) (hn : n = l.length) (h0 : 0 < n) : OwnsZ w B v l := by
  rcases h.2 with ⟨_, h0'⟩ | ⟨g, cap, cur, rfl, hb, hg, hnc, hcm, hcs, _⟩
  · omega
  · subst hn
    refine ⟨g, cap, rfl, hb, (Array.getElem?_eq_some_iff.1 hg).1, hnc, hcm, fun j hj => ?_, fun j hj => ⟨?_, ?_⟩⟩
    · have hc := h.cells rfl j (.int .u8 (l[j]).toNat) (by simp [Lib.byteCells, hj])
      rw [add_off, Nat.zero_add] at hc
      exact hc
    · rw [cell_of_row w g j cur _ _ hg, Array.getElem?_eq_getElem (by omega)]; rfl
    · simp [World.frozen?, hg]

theorem run_append_byte (w : World) (B : Nat) (v : Value) (l : List UInt8) (h : OwnsZ w B v l) (i : TypeInfo) (hi : Tryd.prog.info? 5 = some i) (hz0 : i.zero = some (.int .u8 0)) (hz1 : i.size = 1) (hz2 : i.bytes = 1) (ty : TypeId) (ad : Addr) (c y : Nat) (hy : y < 256) (hcell : w.cell? ad = some (.int .u8 (y : Int))) (hl : l.length < 140737488355328) (hB : B ≤ w.heap.size) :
    ∃ v' w', (Builtin.append_ #[27, 27] ty #[v, .slice (some ad) 1 c]).run Tryd.prog w = .ok v' w' ∧ OwnsZ w' B v' (l ++ [y.toUInt8]) ∧ Below B w w' := by
  obtain ⟨g, cap, rfl, hb, hg, hlc, hm, hc, hs⟩ := h
  have hnews : ∀ j u, [Value.int .u8 (y : Int)][j]? = some u → w.cell? (ad.add j) = some u := by
    intro j u hj
    match j, hj with
    | 0, hj => simp at hj; subst hj; simpa [Addr.add] using hcell
  have hbc : Lib.byteCells (l ++ [y.toUInt8]) = Lib.byteCells l ++ [Value.int .u8 (y : Int)] := by rw [byteCells_one, toUInt8_toNat hy]
  by_cases hroom : l.length + 1 ≤ cap
  · have hrun := run_append_room_cells (P := Tryd.prog) w 27 ty 5 i Tryd.underlying27 hi g 0 l.length cap ad 1 c [Value.int .u8 (y : Int)] (by rw [hz1]; rfl) hnews (by simp [Value.oneCell']) hroom
      (fun j hj => by rw [hz1]; simp at hj; subst hj; simpa using (hs l.length (by omega)).1) (fun j hj => by rw [hz1]; simp at hj; subst hj; simpa using (hs l.length (by omega)).2)
    rw [hz1] at hrun
    refine ⟨_, _, hrun, ⟨g, cap, by rw [List.length_append]; rfl, hb, ?_, by rw [List.length_append]; exact hroom, hm, fun j hj => ?_, fun j hj => ⟨?_, ?_⟩⟩, ?_⟩
    · show g < (w.setCell _ _).heap.size
      rw [World.size_setCell]; exact hg
    · rw [List.length_append] at hj
      by_cases hjl : j < l.length
      · rw [World.cell?_setCells_out g _ _ _ _ (fun _ _ => Or.inl (by show j < 0 + l.length * 1; omega)), List.getElem_append_left hjl]
        exact hc j hjl
      · have hje : j = l.length := by simp at hj; omega
        subst hje
        have := World.cell?_setCells_in g [Value.int .u8 (y : Int)] (0 + l.length * 1) w (fun j hj => by simp at hj; subst hj; simpa using (hs l.length (by omega)).1) 0 (by simp)
        rw [show 0 + l.length * 1 + 0 = l.length by omega] at this
        rw [this]
        simp [toUInt8_toNat hy]
    · by_cases hjl : j = l.length
      · subst hjl
        have := World.cell?_setCells_in g [Value.int .u8 (y : Int)] (0 + l.length * 1) w (fun j hj => by simp at hj; subst hj; simpa using (hs l.length (by omega)).1) 0 (by simp)
        rw [show 0 + l.length * 1 + 0 = l.length by omega] at this
        rw [this]; rfl
      · rw [World.cell?_setCells_out g _ _ _ _ (fun _ _ => by show j < 0 + l.length * 1 ∨ 0 + l.length * 1 + 1 ≤ j; omega)]
        exact (hs j hj).1
    · exact (World.frozen?_setCells g _ _ _ _).trans (hs j hj).2
    · exact (Below.refl B w).setCell (p := ⟨g, 0 + l.length * 1, none⟩) hb _
  · obtain ⟨v', w', hrun, r1, r2⟩ := run_append_arg_grows (P := Tryd.prog) w 27 ty 5 i (.int .u8 0) 1 1 Tryd.underlying27 hi hz0 hz1 hz2 rfl (by decide) ⟨g, 0, none⟩ l.length cap (Lib.byteCells l) (by simp [Lib.byteCells])
      (fun j u hj => by
        unfold Lib.byteCells at hj
        rw [List.getElem?_map] at hj
        cases hlj : l[j]? with
        | none => rw [hlj] at hj; cases hj
        | some x =>
          rw [hlj] at hj
          obtain rfl := Option.some.inj hj
          obtain ⟨hjl, rfl⟩ := List.getElem?_eq_some_iff.1 hlj
          rw [add_off, Nat.zero_add]
          exact hc j hjl)
      ad 1 c [Value.int .u8 (y : Int)] rfl hnews (by omega) (by unfold maxLen; omega) (by omega)
    refine ⟨v', w', hrun, OwnsZ.row (n := l.length + 1) (by rw [hbc]; exact r1.mono hB) (by rw [List.length_append]; rfl) (by omega), ⟨r2.os, r2.tape, r2.output, r2.size, fun k hk => r2.block k (by omega) (by simp)⟩⟩

theorem wpList_append_byte (w : World) {ops : Array Oper} {rest : List Oper} {o : Oper} {a : Act} {Q : Exit → Act → World → Prop} (hgd : o.guard = none) (s x : Operand)
    (ho : o.op = .call { callee := .builtin .append, args := #[s, x], argTypes := #[27, 27] })
    (B : Nat) {v : Value} {l : List UInt8} (hv : a.eval s = v) (h : OwnsZ w B v l) (i : TypeInfo) (hi : Tryd.prog.info? 5 = some i) (hz0 : i.zero = some (.int .u8 0)) (hz1 : i.size = 1) (hz2 : i.bytes = 1)
    (ad : Addr) (c y : Nat) (hx : a.eval x = .slice (some ad) 1 c) (hy : y < 256) (hcell : w.cell? ad = some (.int .u8 (y : Int))) (hl : l.length < 140737488355328) (hB : B ≤ w.heap.size)
    (hK : ∀ v' w', OwnsZ w' B v' (l ++ [y.toUInt8]) → Below B w w' → wpList Tryd.prog ops Q rest (a.put o.dst v') w') : wpList Tryd.prog ops Q (o :: rest) a w := by
  refine wpList_plain hgd fun K hK' => ?_
  obtain ⟨v', w', hrun, r1, r2⟩ := run_append_byte w B v l h i hi hz0 hz1 hz2 o.type ad c y hy hcell hl hB
  unfold Oper.wp
  simp [execOp, ho, resolve, invoke, builtin, hv, hx, hrun, Result.andThen]
  exact hK' _ _ (hK v' w' r1 r2)

/-- What a conversion of a string lays. -/
theorem OwnsZ.conv (w : World) (s : ByteArray) (hs : s.size ≤ maxLen) : OwnsZ (Lib.bytesWorld w 5 s) w.heap.size (.slice (some ⟨w.heap.size, 0, none⟩) s.size (grownCap w s.size 0 5)) s.data.toList := by
  have hge := grownCap_ge w s.size 0 5
  have hcm := grownCap_le_maxLen w s.size 0 5 hs
  have hn := Lib.bytesWorld_at_new w 5 s
  have e : s.data.toList.length = s.size := by rw [Array.length_toList]; rfl
  have hsz : (Lib.bytesCells w 5 s).size = grownCap w s.size 0 5 := by
    have e2 : s.data.size = s.size := rfl
    simp [Lib.bytesCells]; omega
  refine ⟨w.heap.size, _, by rw [e], Nat.le_refl _, by rw [Lib.bytesWorld_size]; omega, by rw [e]; exact hge, hcm, fun j hj => ?_, fun j hj => ⟨?_, ?_⟩⟩
  · rw [Lib.bytesWorld_cell w _ s j (by omega), List.getD_eq_getElem?_getD, List.getElem?_eq_getElem hj]; rfl
  · rw [cell_of_row _ _ j _ _ _ hn, Array.getElem?_eq_getElem (by omega)]; rfl
  · simp [World.frozen?, hn, hsz]; omega
theorem below_conv (w : World) (s : ByteArray) : Below w.heap.size w (Lib.bytesWorld w 5 s) := by
  refine ⟨rfl, rfl, rfl, by rw [Lib.bytesWorld_size]; omega, fun k hk => Lib.bytesWorld_at_old w _ s k hk⟩
end Go.Proofs.YtoehpoodfbgdiaaDoor
