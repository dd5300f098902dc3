/- Contracts of functions of the program, and what they are made of (parser; Pk20). -/
import Derived.Test.YtjehhldboopocaaGreatDoorPk16
import Derived.Test.YtjehhldboopocaaGreatDoorPk17
import Derived.Test.YtjehhldboopocaaGreatDoorPk19
import Derived.Deep.RegionWith
import Derived.Deep.AppendLies
import Derived.Deep.AppendSrc
import Derived.Deep.Upon
namespace Go.Proofs.YtjehhldboopocaaGreatDoor.Lx
open Go.RowKit Go.Lib
set_option linter.unusedVariables false
theorem inS_len {k : Int} {s : List UInt8} (h : inS k s = true) : s.length ≤ 4096 := by
  unfold inS at h
  split at h
  · cases s with
    | nil => simp
    | cons c r =>
      unfold nameB at h
      simp only [Bool.and_eq_true, decide_eq_true_eq] at h
      omega
  split at h
  · unfold intB at h
    simp only [Bool.and_eq_true, decide_eq_true_eq] at h
    omega
  split at h
  · simpa using h
  split at h
  · simp only [Bool.and_eq_true, decide_eq_true_eq] at h
    have : opL s ≤ 2 := by
      unfold opL
      repeat' (first | split | omega)
    omega
  split at h
  · have : s = [] := by simpa using h
    simp [this]
  · cases h
theorem joinM_one (t : Tm) : joinM false [t] = srcT ⟨t.kind, t.text, 0⟩ := by
  unfold joinM joinM sepL srcM srcT
  simp
theorem inS_long {k : Int} {s : List UInt8} (h : 65536 < (srcT ⟨k, s, 0⟩).length) : inS k s = false := by
  rw [Bool.eq_false_iff]
  intro hi
  have h1 := srcT_len ⟨k, s, 0⟩
  have h2 := inS_len hi
  dsimp only at h1
  omega
/-- Do these tokens tell that the token is one of sources? -/
theorem inS_of_err {k : Int} {s : List UInt8} {p er : Nat} (h : lexF (srcT ⟨k, s, 0⟩) 0 0 false = .err p er) : inS k s = false := by
  rw [Bool.eq_false_iff]
  intro hi
  obtain ⟨u, hu, _⟩ := (inS_lex k s 0).1 hi
  rw [h] at hu
  cases hu
theorem inS_of_ok {k : Int} {s : List UInt8} {T : List Tk} (h : lexF (srcT ⟨k, s, 0⟩) 0 0 false = .ok T) : inS k s = true ↔ ∃ u, T = [u] ∧ u.kind = k ∧ u.text = s := by
  rw [inS_lex k s 0, h]
  constructor
  · rintro ⟨u, hu, h1⟩
    injection hu with hu
    exact ⟨u, hu, h1⟩
  · rintro ⟨u, rfl, h1⟩
    exact ⟨u, rfl, h1⟩
set_option maxHeartbeats 4000000 in
set_option maxRecDepth 100000 in
theorem inSources_any (t : Tm) (ht : t.text.length ≤ 1099511627776) (w : World) (hT : TabL w) :
    Calls Tryz.prog 88 #[.agg #[.int .i64 t.kind, .string ⟨t.text.toArray⟩, .int .i64 t.pos]] w fun e w' => e = .returned (.bool (inS t.kind t.text)) ∧ Below w.heap.size w w' := by
  obtain ⟨tx, htx⟩ : ∃ tx : ByteArray, tx = ⟨t.text.toArray⟩ := ⟨_, rfl⟩
  rw [← htx]
  have hsl := srcT_len ⟨t.kind, t.text, 0⟩
  have hj1 := joinM_one t
  obtain ⟨src, hsrc⟩ : ∃ src : ByteArray, src = ⟨(srcT ⟨t.kind, t.text, 0⟩).toArray⟩ := ⟨_, rfl⟩
  have hsd : src.data.toList = srcT ⟨t.kind, t.text, 0⟩ := by rw [hsrc]
  have J := Lib.hid (fun (w1 : World) (a : Option Addr) (hr : ReadsK w1 a [t]) => by
    have h := Join_any a 1 [t] (by simp) (by rw [hj1]; dsimp only at hsl; omega) w1 hr
    rw [hj1, ← hsrc] at h
    exact h)
  have HT := Lib.hid hT
  have B0 := Lib.hid (((Below.refl w.heap.size w).alloc (Nat.le_refl _) (.cells #[.int .i64 t.kind, .string tx, .int .i64 t.pos] 52)).alloc (by simp) (.cells #[.int .i64 t.kind, .string tx, .int .i64 t.pos] 52))
  have R0 := Lib.hid (show ReadsK ((w.alloc (.cells #[.int .i64 t.kind, .string tx, .int .i64 t.pos] 52)).alloc (.cells #[.int .i64 t.kind, .string tx, .int .i64 t.pos] 52)) (some ⟨w.heap.size + 1, 0, none⟩) [t] from by
    intro j hj
    have hj0 : j = 0 := by simp at hj; omega
    subst hj0
    refine ⟨w.heap.size + 1, 0, rfl, by simp, ?_, ?_, ?_⟩ <;> simp [go_sem, htx])
  have C0 := Lib.hid ((CellsAt.new w 52 #[.int .i64 t.kind, .string tx, .int .i64 t.pos]).alloc (.cells #[.int .i64 t.kind, .string tx, .int .i64 t.pos] 52))
  clear hT hj1 hsrc
  rcases tokens_all src with ⟨p, er, ⟨hne, heq⟩, hF, hC⟩ | ⟨T, hsz, hF, hC⟩
  · have hin : inS t.kind t.text = false := by
      by_cases hl : src.size ≤ 65536
      · have h := hF hl
        rw [hsd] at h
        exact inS_of_err h
      · refine inS_long ?_
        rw [← hsd]
        have := lenB src
        omega
    rw [hin]
    have C := Lib.hid hC
    clear hC hF hsd hin hsl htx
    go_enter Tryz.func88, Tryz.ntmps88
    go_wp2_with fail
    go_fit (J.out _ _ R0.out)
    rintro e w1 ⟨rfl, hb⟩
    have B1 := Lib.hid (B0.out.trans (hb.mono B0.out.size))
    clear hb
    go_wp2_with fail
    go_fit (C.out _ (HT.out.below B1.out))
    rintro e w2 ⟨rfl, hb⟩
    have B2 := Lib.hid (B1.out.trans (hb.mono B1.out.size))
    clear hb
    have hd : decide ((0 : Int) = 1) = false := by decide
    go_wp2_with fail
    go_quiet (fail)
    go_wp2_with fail
    go_ret
    exact ⟨rfl, below_drewN B2.out _⟩
  · rw [hsd] at hF
    have hin := inS_of_ok hF
    have C := Lib.hid hC
    clear hC hF hsd hsl
    have HIN := Lib.hid hin
    clear hin
    by_cases h1 : T.length = 1
    · obtain ⟨u, rfl⟩ := List.length_eq_one_iff.1 h1
      have hin : inS t.kind t.text = (decide (u.kind = t.kind) && decide (u.text = t.text)) := by
        rw [Bool.eq_iff_iff, HIN.out]
        constructor
        · rintro ⟨v, hv, h2, h3⟩
          injection hv with hv _
          subst hv
          simp [h2, h3]
        · intro h
          simp only [Bool.and_eq_true, decide_eq_true_eq] at h
          exact ⟨u, rfl, h.1, h.2⟩
      clear HIN h1
      have hd : ((([u] : List Tk).length : Int) == 1) = true := rfl
      obtain ⟨n1, hn1⟩ : ∃ n1 : Nat, n1 = ([u] : List Tk).length := ⟨_, rfl⟩
      have hn0 : (0 : Int) ≤ 0 ∧ (0 : Int) < (n1 : Int) := ⟨by decide, by rw [hn1]; simp⟩
      rw [← hn1] at hd
      obtain ⟨uk, huk⟩ : ∃ uk, uk = u.kind := ⟨_, rfl⟩
      obtain ⟨ux, hux⟩ : ∃ ux : ByteArray, ux = ⟨u.text.toArray⟩ := ⟨_, rfl⟩
      have hux2 : ux.toList = u.text := by rw [ByteArray.toList_eq, hux]
      have htx2 : tx.toList = t.text := by rw [ByteArray.toList_eq, htx]
      have RK := Lib.hid (fun (w2 : World) (a : Option Addr) (h : ReadsK w2 a ([u].map Tk.tm)) => show ∃ b off, a = some ⟨b, off, none⟩ ∧ b < w2.heap.size ∧ w2.cell? ⟨b, off, none⟩ = some (.int .i64 uk) ∧ w2.cell? ⟨b, off + 1, none⟩ = some (.string ux) from by
        obtain ⟨b, off, h1, h2, h3, h4, _⟩ := h 0 (by simp)
        rw [Nat.zero_mul, Nat.add_zero] at h3 h4
        exact ⟨b, off, h1, h2, by rw [huk]; exact h3, by rw [hux]; exact h4⟩)
      rw [hin]
      clear hin hux htx
      by_cases hk : u.kind = t.kind
      · rw [decide_eq_true hk, Bool.true_and]
        have e1 : (uk == t.kind) = true := by rw [huk, hk]; exact beq_self_eq_true _
        obtain ⟨q, hq⟩ : ∃ q, q = (ux.toList == tx.toList) := ⟨_, rfl⟩
        have hq2 : decide (u.text = t.text) = q := by
          rw [hq, hux2, htx2]
          by_cases h : u.text = t.text
          · rw [h]; simp
          · rw [decide_eq_false h]; symm; rw [beq_eq_false_iff_ne]; exact h
        have hq3 := hq.symm
        rw [hq2]
        clear hq hq2 hux2 htx2 hk huk
        go_enter Tryz.func88, Tryz.ntmps88
        go_wp2_with fail
        go_fit (J.out _ _ R0.out)
        rintro e w1 ⟨rfl, hb⟩
        have B1 := Lib.hid (B0.out.trans (hb.mono B0.out.size))
        have C1 := Lib.hid (C0.out.below hb)
        clear hb
        go_wp2_with fail
        go_fit (C.out _ (HT.out.below B1.out))
        rintro e w2 ⟨⟨a, c, rfl, hrk⟩, hb⟩
        have B2 := Lib.hid (B1.out.trans (hb.mono B1.out.size))
        have C2 := C1.out.below hb
        obtain ⟨b, off, rfl, hlt, d0, d1⟩ := RK.out _ _ hrk
        have t0 := C2.cell (k := 0) rfl
        have t1 := C2.cell (k := 1) rfl
        rw [← hn1]
        clear hb hrk C1 C2 RK
        go_wp2_with fail
        go_quiet (fail)
        go_wp2_with fail
        go_ret
        exact ⟨by simp, below_drewN B2.out _⟩
      · rw [decide_eq_false hk, Bool.false_and]
        have e1 : (uk == t.kind) = false := by rw [huk, beq_eq_false_iff_ne]; exact hk
        clear hux2 htx2 hk huk
        go_enter Tryz.func88, Tryz.ntmps88
        go_wp2_with fail
        go_fit (J.out _ _ R0.out)
        rintro e w1 ⟨rfl, hb⟩
        have B1 := Lib.hid (B0.out.trans (hb.mono B0.out.size))
        have C1 := Lib.hid (C0.out.below hb)
        clear hb
        go_wp2_with fail
        go_fit (C.out _ (HT.out.below B1.out))
        rintro e w2 ⟨⟨a, c, rfl, hrk⟩, hb⟩
        have B2 := Lib.hid (B1.out.trans (hb.mono B1.out.size))
        have C2 := C1.out.below hb
        obtain ⟨b, off, rfl, hlt, d0, d1⟩ := RK.out _ _ hrk
        have t0 := C2.cell (k := 0) rfl
        have t1 := C2.cell (k := 1) rfl
        rw [← hn1]
        clear hb hrk C1 C2 RK
        go_wp2_with fail
        go_quiet (fail)
        go_wp2_with fail
        go_ret
        exact ⟨rfl, below_drewN B2.out _⟩
    · have hin : inS t.kind t.text = false := by
        rw [Bool.eq_false_iff]
        intro h
        obtain ⟨u, rfl, _⟩ := HIN.out.1 h
        exact h1 rfl
      rw [hin]
      have hd : ((T.length : Int) == 1) = false := by rw [beq_eq_false_iff_ne]; omega
      clear hin h1 htx
      go_enter Tryz.func88, Tryz.ntmps88
      go_wp2_with fail
      go_fit (J.out _ _ R0.out)
      rintro e w1 ⟨rfl, hb⟩
      have B1 := Lib.hid (B0.out.trans (hb.mono B0.out.size))
      clear hb
      go_wp2_with fail
      go_fit (C.out _ (HT.out.below B1.out))
      rintro e w2 ⟨⟨a, c, rfl, hrk⟩, hb⟩
      have B2 := Lib.hid (B1.out.trans (hb.mono B1.out.size))
      clear hb hrk
      go_wp2_with fail
      go_quiet (fail)
      go_wp2_with fail
      go_ret
      exact ⟨rfl, below_drewN B2.out _⟩
end Go.Proofs.YtjehhldboopocaaGreatDoor.Lx
namespace Go.Proofs.YtjehhldboopocaaGreatDoor.Lx
open Go.RowKit Go.Lib
set_option linter.unusedVariables false
set_option maxRecDepth 100000 in
theorem sliceE_from (g len cap k : Nat) (hk : k ≤ len) (w : World) : (Instr.sliceAt 27 (.slice (some ⟨g, 0, none⟩) len cap) (some (.int .i64 (k : Int))) none none).run Tryz.prog w = .ok (.slice (some ⟨g, if cap = k then 0 else k * 10, none⟩) (len - k) (cap - k)) w := by
  rw [run_sliceAt_slice _ _ _ _ _ _ Tryz.underlying27, run_slice_l _ _ _ _ _ Tryz.underlying27 .i64 (k : Int) (by omega) (by omega)]
  have hs : (sizeOf (Tryz.prog.elem 27)).run Tryz.prog w = .ok 10 w := by kernel_rfl
  rw [hs]
  by_cases h : cap = k
  · simp [Result.andThen, sliced, h]
  · have := addr_add (g := g) (k * 10)
    rw [Nat.zero_add] at this
    simp [Result.andThen, sliced, h, this]
set_option maxRecDepth 100000 in
theorem sliceE_to (g len cap k : Nat) (hk : k ≤ cap) (w : World) : (Instr.sliceAt 27 (.slice (some ⟨g, 0, none⟩) len cap) none (some (.int .i64 (k : Int))) none).run Tryz.prog w = .ok (.slice (some ⟨g, 0, none⟩) k cap) w := by
  rw [run_sliceAt_slice _ _ _ _ _ _ Tryz.underlying27, run_slice_h _ _ _ _ _ Tryz.underlying27 .i64 (k : Int) (by omega) (by omega)]
  have hs : (sizeOf (Tryz.prog.elem 27)).run Tryz.prog w = .ok 10 w := by kernel_rfl
  rw [hs]
  have := addr_add (g := g) 0
  by_cases h : cap = 0
  · simp [Result.andThen, sliced, h]
  · simp [Result.andThen, sliced, h, this]
theorem wpList_append_none {P : Program} {w : World} {ops : Array Oper} {rest : List Oper} {o : Oper} {a : Act} {Q : Exit → Act → World → Prop} (hgd : o.guard = none) (s x : Operand) (t : TypeId)
    (ho : o.op = .call { callee := .builtin .append, args := #[s, x], argTypes := #[t, t] })
    (e : TypeId) (i : TypeInfo) (ht : P.underlying t = some (.slice e)) (hi : P.info? e = some i)
    (b : Option Addr) (n c : Nat) (hle : n ≤ c) (hs : a.eval s = .slice b n c) (ad : Addr) (c' n0 : Nat) (h0 : n0 = 0) (hx : a.eval x = .slice (some ad) n0 c')
    (h : wpList P ops Q rest (a.put o.dst (.slice b n c)) w) : wpList P ops Q (o :: rest) a w := by
  subst h0
  refine wpList_plain hgd fun K hK => ?_
  have hrun := run_append_nothing (P := P) w t t o.type e i ht hi b n c hle (.slice (some ad) 0 c') (Src.ofSlice w ht ad 0 c' [] (by simp) (by simp) (by simp))
  unfold Oper.wp
  simp [execOp, ho, resolve, invoke, builtin, hs, hx, hrun, Result.andThen]
  exact hK _ _ h
theorem wpList_append_nil {P : Program} {w : World} {ops : Array Oper} {rest : List Oper} {o : Oper} {a : Act} {Q : Exit → Act → World → Prop} (hgd : o.guard = none) (s x : Operand) (t : TypeId)
    (ho : o.op = .call { callee := .builtin .append, args := #[s, x], argTypes := #[t, t] })
    (e : TypeId) (i : TypeInfo) (ht : P.underlying t = some (.slice e)) (hi : P.info? e = some i)
    (b : Option Addr) (n c : Nat) (hle : n ≤ c) (hs : a.eval s = .slice b n c) (c' : Nat) (hx : a.eval x = .slice none 0 c')
    (h : wpList P ops Q rest (a.put o.dst (.slice b n c)) w) : wpList P ops Q (o :: rest) a w := by
  refine wpList_plain hgd fun K hK => ?_
  have hrun := run_append_nothing (P := P) w t t o.type e i ht hi b n c hle (.slice none 0 c') (Src.ofNil w ht c')
  unfold Oper.wp
  simp [execOp, ho, resolve, invoke, builtin, hs, hx, hrun, Result.andThen]
  exact hK _ _ h
set_option maxRecDepth 100000 in
theorem sliceE_nil (w : World) : (Instr.sliceAt 27 (.slice none 0 0) (some (.int .i64 0)) none none).run Tryz.prog w = .ok (.slice none 0 0) w ∧ (Instr.sliceAt 27 (.slice none 0 0) none (some (.int .i64 0)) none).run Tryz.prog w = .ok (.slice none 0 0) w := by
  have hs : (sizeOf (Tryz.prog.elem 27)).run Tryz.prog w = .ok 10 w := by kernel_rfl
  constructor
  · rw [run_sliceAt_slice _ _ _ _ _ _ Tryz.underlying27, run_slice_l _ _ _ _ _ Tryz.underlying27 .i64 0 (by omega) (by omega), hs]
    rfl
  · rw [run_sliceAt_slice _ _ _ _ _ _ Tryz.underlying27, run_slice_h _ _ _ _ _ Tryz.underlying27 .i64 0 (by omega) (by omega), hs]
    rfl
theorem zero_cells (B : Nat) (w : World) : ∀ j u, zeroC[j]? = some u → (w.alloc (.cells #[.int .i64 0, .string ⟨#[]⟩, .int .i64 0, .bool false, .int .i64 0, .string ⟨#[]⟩, .slice none 0 0, .slice none 0 0, .slice none 0 0, .slice none 0 0] 29)).cell? ((⟨w.heap.size, 0, none⟩ : Addr).add j) = some u := by
  intro j u hj
  rw [addr_add, Nat.zero_add]
  refine (CellsAt.new w _ _).cell ?_
  rw [← hj]
  show zeroC.toArray[j]? = zeroC[j]?
  rw [List.getElem?_toArray]
theorem zero_ones : ∀ u ∈ zeroC, u.oneCell' = true := by
  intro u hu
  simp only [zeroC, List.mem_cons, List.not_mem_nil, or_false] at hu
  rcases hu with rfl | rfl | rfl | rfl | rfl | rfl | rfl | rfl | rfl | rfl <;> rfl
/-- What build leaves. -/
def BuildPost (w0 : World) (ta : Option Addr) (tc : Nat) (toks : List Tm) (Z : Nat → Prop) (R i : Nat) (G : Value) (L A : List Xp) (k : Int) (n : List UInt8) (w : World) (e : Ending) (w' : World) : Prop :=
  ∃ g cap, e = .returned (.pointer (some ⟨g, L.length * 10, none⟩)) ∧ RS w0 ta tc toks Z R i (.slice (some ⟨g, 0, none⟩) (L.length + 1) cap) (L ++ [.mk k zeroV n A []]) w' ∧ Fm R G (.slice (some ⟨g, 0, none⟩) (L.length + 1) cap) w w'
section
variable {w0 : World} {ta : Option Addr} {tc : Nat} {toks : List Tm}
set_option maxHeartbeats 8000000 in
set_option maxRecDepth 100000 in
/-- build of at least one arg. -/
theorem build_args {Z : Nat → Prop} {R i : Nat} {G : Value} {L A : List Xp} {w : World} (hE : toks.length ≤ 1073741824) (h : RS w0 ta tc toks Z R i G (L ++ A) w) (hZ : ∀ k, Z k → k < w.heap.size) (hA : 0 < A.length) (k : Int) (n : List UInt8) (hk : -9223372036854775808 ≤ k ∧ k ≤ 9223372036854775807) (hn : n.length ≤ 140737488351232) :
    Calls Tryz.prog 92 #[.pointer (some ⟨R, 0, none⟩), .int .i64 k, .string ⟨n.toArray⟩, .int .i64 A.length] w (BuildPost w0 ta tc toks Z R i G L A k n w) := by
  obtain ⟨Es, hown, hels⟩ := h.stk.els
  obtain ⟨Cs, Ds, rfl, hCl⟩ : ∃ Cs Ds, Es = Cs ++ Ds ∧ Cs.length = L.length := ⟨Es.take L.length, Es.drop L.length, (List.take_append_drop _ _).symm, by rw [List.length_take, hels.1, List.length_append]; omega⟩
  have hDl : Ds.length = A.length := (hels.right hCl).1
  have hten : ∀ C, C ∈ Cs → C.length = 10 := fun C hC => hels.ten C (List.mem_append_left _ hC)
  have hten2 : ∀ C, C ∈ Ds → C.length = 10 := fun C hC => hels.ten C (List.mem_append_right _ hC)
  have hfl : Cs.flatten.length = L.length * 10 := by rw [flat10_len Cs hten, hCl]
  have hfl2 : Ds.flatten.length = A.length * 10 := by rw [flat10_len Ds hten2, hDl]
  have hones : ∀ u ∈ Ds.flatten, u.oneCell' = true := (hels.right hCl).ones
  have hLi := h.hL
  have hii := h.hi
  rw [List.length_append] at hLi
  rcases own_shape hown with ⟨_, h0, _⟩ | ⟨g, cap, rfl, hN, hcm, hgR, hglt⟩
  · rw [List.length_append] at h0; omega
  rw [List.length_append] at hN
  obtain ⟨na, hbox⟩ := h.box
  have hRlt := h.Rlt
  rw [List.flatten_append, List.length_append] at hown
  have hcut := own_cut (m := L.length) hown (by omega)
  rw [← hfl, List.take_left] at hcut
  have c5 := hbox.cell (k := 5) rfl
  have f5 := hbox.frozen 5
  have hsrc : ∀ j u, Ds.flatten[j]? = some u → w.cell? ((⟨g, L.length * 10, none⟩ : Addr).add j) = some u := by
    intro j u hj
    have e1 : (⟨g, L.length * 10, none⟩ : Addr).add j = ⟨g, L.length * 10 + j, none⟩ := by
      unfold Addr.add
      split
      · rename_i h; subst h; rfl
      · rfl
    rw [e1]
    refine own_cell hown ?_
    rw [List.getElem?_append_right (by omega), hfl, Nat.add_sub_cancel_left]
    exact hj
  have hgne : g ≠ R := by omega
  obtain ⟨i0, hi, hz0, hz1, hzb⟩ := info_parts infoExp
  have s1 := fun w => sliceE_from g (L.length + A.length) cap L.length (by omega) w
  rw [if_neg (show ¬ cap = L.length by omega), show L.length + A.length - L.length = A.length by omega] at s1
  have s2 := fun w => sliceE_to g (L.length + A.length) cap L.length (by omega) w
  have hsub : ((L.length + A.length : Nat) : Int) - (A.length : Int) = (L.length : Int) := by omega
  obtain ⟨nx, hnx⟩ : ∃ nx : ByteArray, nx = ⟨n.toArray⟩ := ⟨_, rfl⟩
  obtain ⟨nL, hnL⟩ : ∃ nL, nL = L.length := ⟨_, rfl⟩
  obtain ⟨nA, hnA⟩ : ∃ nA, nA = A.length := ⟨_, rfl⟩
  have H := Lib.hid h
  have HELS := Lib.hid hels
  have HCL := Lib.hid hCl
  rw [List.length_append] at c5
  rw [← hnx, ← hnA]
  rw [← hnL] at hcut hsrc hLi hN s1 s2 hsub c5
  rw [← hnA] at hfl2 hA hLi hN s1 s2 hsub c5
  have hlt0 : R + 1 ≤ w.heap.size := hRlt
  have HD := Lib.hid hfl2
  rw [← hnL] at hfl
  have HFL := Lib.hid hfl
  have HO := Lib.hid hones
  have HS := Lib.hid hsrc
  have HC := Lib.hid hcut
  have HB := Lib.hid hbox
  have HNL := Lib.hid hnL
  have HNA := Lib.hid hnA
  have HNX := Lib.hid hnx
  have HK := Lib.hid hk
  have HN := Lib.hid hn
  clear h hels hown hten hten2 hfl hfl2 hones hsrc hcut hbox hnL hnA hnx hCl hDl hk hn
  go_enter Tryz.func92, Tryz.ntmps92
  go_wp2_with (at_builtin; refine wpList_append_own_at _ rfl _ _ 27 rfl w.heap.size 29 i0 (.agg #[.int .i64 0, .string ⟨#[]⟩, .int .i64 0, .bool false, .int .i64 0, .string ⟨#[]⟩, .slice none 0 0, .slice none 0 0, .slice none 0 0, .slice none 0 0]) 10 160 Tryz.underlying27 hi hz0 hz1 hzb rfl (by decide) _ _ _ rfl (World.ownsRow_nil _ _ _ _) ⟨g, nL * 10, none⟩ nA (cap - nL) Ds.flatten rfl HD.out HS.out HO.out ?c1 ?c2 ?c3 ?_)
  case c1 => unfold maxLen; omega
  case c2 => omega
  case c3 => exact Nat.le_refl _
  intro av wA hoA hgA hnA2 hatA
  obtain ⟨ga, capa, rfl⟩ : ∃ ga capa, av = .slice (some ⟨ga, 0, none⟩) nA capa := by
    rcases own_shape hoA with ⟨_, h0, _⟩ | ⟨ga, capa, hav, _⟩
    · omega
    · exact ⟨ga, capa, by simpa using hav⟩

  have hBA : Below w.heap.size w wA := ⟨hgA.os, hgA.tape, hgA.output, hgA.size, fun j hj => hgA.block j hj (by simp [Value.ownBlock])⟩
  have HOA := Lib.hid hoA
  have HBA := Lib.hid hBA
  have hza := hBA.size
  have bA := HB.out.below hBA
  have c5A := bA.cell (k := 5) (u := .slice (some ⟨g, 0, none⟩) (nL + nA) cap) (by rw [HNL.out, HNA.out, ← List.length_append]; rfl)
  have HX := Lib.hid ((Below.refl wA.heap.size wA).alloc (Nat.le_refl _) (.cells #[.int .i64 0, .string ⟨#[]⟩, .int .i64 0, .bool false, .int .i64 0, .string ⟨#[]⟩, .slice none 0 0, .slice none 0 0, .slice none 0 0, .slice none 0 0] 29))
  have HOX := Lib.hid (own_stays HC.out (w' := wA.alloc (.cells #[.int .i64 0, .string ⟨#[]⟩, .int .i64 0, .bool false, .int .i64 0, .string ⟨#[]⟩, .slice none 0 0, .slice none 0 0, .slice none 0 0, .slice none 0 0] 29)) fun q hq => by
    have hq : g = q := by simpa [Value.ownBlock] using hq
    subst hq
    exact (HX.out.block _ (by omega)).trans (HBA.out.block _ (by omega)))
  clear hoA hgA hnA2 hatA hBA c5
  go_wp2_with (at_builtin; refine wpList_append_own_at _ rfl _ _ 27 rfl (R + 1) 29 i0 (.agg #[.int .i64 0, .string ⟨#[]⟩, .int .i64 0, .bool false, .int .i64 0, .string ⟨#[]⟩, .slice none 0 0, .slice none 0 0, .slice none 0 0, .slice none 0 0]) 10 160 Tryz.underlying27 hi hz0 hz1 hzb rfl (by decide) _ _ _ rfl HOX.out ⟨wA.heap.size, 0, none⟩ 1 1 zeroC rfl rfl (zero_cells 0 wA) zero_ones ?c1 ?c2 ?c3 ?_)
  case c1 => unfold maxLen; omega
  case c2 => omega
  case c3 => simp; omega
  intro v6 w6 ho6 hg6 hn6 hat6
  have HO6 := Lib.hid ho6
  have HG6 := Lib.hid hg6
  have HAT := Lib.hid hat6
  rcases own_shape ho6 with ⟨_, h0, _⟩ | ⟨g6, cap6, hv6, hN6, hcm6, hgR6, hglt6⟩
  · omega
  subst hv6
  have hX6 : wA.heap.size < (wA.alloc (.cells #[.int .i64 0, .string ⟨#[]⟩, .int .i64 0, .bool false, .int .i64 0, .string ⟨#[]⟩, .slice none 0 0, .slice none 0 0, .slice none 0 0, .slice none 0 0] 29)).heap.size := by simp
  have h6R : w6.heap[R]? = w.heap[R]? := (hg6.block R (by omega) (by simp [Value.ownBlock]; omega)).trans ((HX.out.block R (by omega)).trans (HBA.out.block R hRlt))
  have B6 := HB.out.of_block h6R
  have r5 := B6.cell (k := 5) (u := .slice (some ⟨g, 0, none⟩) (nL + nA) cap) (by rw [HNL.out, HNA.out, ← List.length_append]; rfl)
  have f56 := B6.frozen 5
  have hg6R : g6 ≠ R := by omega
  have ho7 : (w6.setCell ⟨R, 5, none⟩ (.slice (some ⟨g6, 0, none⟩) (nL + 1) cap6)).ownsRow (R + 1) 29 10 (.slice (some ⟨g6, 0, none⟩) (nL + 1) cap6) (nL + 1) (Cs.flatten ++ zeroC) := ownsRow_setCell_other ho6 (by simp [Value.ownBlock]; omega) _
  have hzl : ∀ q u, zeroC[q]? = some u → (Cs.flatten ++ zeroC)[nL * 10 + q]? = some u := fun q u hq => by
    rw [List.getElem?_append_right (by rw [HFL.out]; omega), HFL.out, Nat.add_sub_cancel_left]
    exact hq
  have e0 : (w6.setCell ⟨R, 5, none⟩ (.slice (some ⟨g6, 0, none⟩) (nL + 1) cap6)).cell? ⟨g6, nL * 10, none⟩ = some (.int .i64 0) := own_cell ho7 (hzl 0 (.int .i64 0) rfl)
  have e1 := own_cell ho7 (hzl 1 (.string ⟨#[]⟩) rfl)
  have e8 := own_cell ho7 (hzl 8 (.slice none 0 0) rfl)
  have fz := own_frozen ho7
  have fz0 := fz (nL * 10)
  have fz1 := fz (nL * 10 + 1)
  have fz8 := fz (nL * 10 + 8)
  have h6b : (0 : Int) ≤ (nL : Int) ∧ (nL : Int) < (nL : Int) + 1 := by omega
  clear ho6 hg6 hn6 hat6 h6R B6 ho7 hzl fz hcm6 hN6 HB HOX c5A bA
  go_wp2_with fail
  go_ret
  obtain rfl := HNL.out
  obtain rfl := HNA.out
  obtain rfl := HNX.out
  obtain ⟨F1, F2⟩ := build_fin H.out hZ (by omega) (by omega) k n HK.out HN.out HELS.out HCL.out HBA.out HOA.out HX.out (G1 := .slice (some ⟨g, 0, none⟩) L.length cap) rfl HG6.out rfl HO6.out (by simpa using HAT.out) _ rfl
  exact ⟨g6, cap6, rfl, F1, F2⟩
set_option maxHeartbeats 8000000 in
set_option maxRecDepth 100000 in
/-- build of no args, on a stack that is there. -/
theorem build_none {Z : Nat → Prop} {R i : Nat} {G : Value} {L : List Xp} {w : World} (hE : toks.length ≤ 1073741824) (h : RS w0 ta tc toks Z R i G L w) (hZ : ∀ k, Z k → k < w.heap.size) (hL1 : L.length + 1 ≤ i) (k : Int) (n : List UInt8) (hk : -9223372036854775808 ≤ k ∧ k ≤ 9223372036854775807) (hn : n.length ≤ 140737488351232) :
    Calls Tryz.prog 92 #[.pointer (some ⟨R, 0, none⟩), .int .i64 k, .string ⟨n.toArray⟩, .int .i64 0] w (BuildPost w0 ta tc toks Z R i G L [] k n w) := by
  obtain ⟨Cs, hown, hels⟩ := h.stk.els
  have hCl := hels.1
  have hten : ∀ C, C ∈ Cs → C.length = 10 := hels.ten
  have hfl : Cs.flatten.length = L.length * 10 := by rw [flat10_len Cs hten, hCl]
  have hii := h.hi
  obtain ⟨na, hbox⟩ := h.box
  have hRlt := h.Rlt
  have f5 := hbox.frozen 5
  have hlt0 : R + 1 ≤ w.heap.size := hRlt
  obtain ⟨i0, hi, hz0, hz1, hzb⟩ := info_parts infoExp
  obtain ⟨nx, hnx⟩ : ∃ nx : ByteArray, nx = ⟨n.toArray⟩ := ⟨_, rfl⟩
  obtain ⟨nL, hnL⟩ : ∃ nL, nL = L.length := ⟨_, rfl⟩
  have H := Lib.hid (show RS w0 ta tc toks Z R i G (L ++ []) w by rw [List.append_nil]; exact h)
  have HELS := Lib.hid (show Els (OkB Z R G) w (Cs ++ []) (L ++ []) by rw [List.append_nil, List.append_nil]; exact hels)
  have HCL := Lib.hid hCl
  have HNL := Lib.hid hnL
  have HNX := Lib.hid hnx
  have HK := Lib.hid hk
  have HN := Lib.hid hn
  have HX := Lib.hid ((Below.refl w.heap.size w).alloc (Nat.le_refl _) (.cells #[.int .i64 0, .string ⟨#[]⟩, .int .i64 0, .bool false, .int .i64 0, .string ⟨#[]⟩, .slice none 0 0, .slice none 0 0, .slice none 0 0, .slice none 0 0] 29))
  have HAV := Lib.hid (show w.ownsRow w.heap.size 29 10 (.slice none 0 0) ([] : List Xp).length ([] : List (List Value)).flatten from World.ownsRow_nil _ _ _ _)
  rw [← hnx]
  rcases own_shape hown with ⟨rfl, h0, _⟩ | ⟨g, cap, rfl, hN, hcm, hgR, hglt⟩
  · have hL0 : L = [] := List.eq_nil_of_length_eq_zero h0
    subst hL0
    have hC0 : Cs = [] := List.eq_nil_of_length_eq_zero hCl
    subst hC0
    have c5 := hbox.cell (k := 5) (u := .slice none 0 0) rfl
    have s1 := fun w => (sliceE_nil w).1
    have s2 := fun w => (sliceE_nil w).2
    have HB := Lib.hid hbox
    clear h hels hown hten hfl hbox hnL hnx hCl hk hn h0
    go_enter Tryz.func92, Tryz.ntmps92
    go_wp2_with (first
      | (at_builtin; refine wpList_append_nil rfl _ _ 27 rfl 29 i0 Tryz.underlying27 hi none 0 0 (Nat.le_refl _) rfl 0 rfl ?_)
      | (at_builtin; refine wpList_append_own_at _ rfl _ _ 27 rfl (R + 1) 29 i0 (.agg #[.int .i64 0, .string ⟨#[]⟩, .int .i64 0, .bool false, .int .i64 0, .string ⟨#[]⟩, .slice none 0 0, .slice none 0 0, .slice none 0 0, .slice none 0 0]) 10 160 Tryz.underlying27 hi hz0 hz1 hzb rfl (by decide) _ _ _ rfl (World.ownsRow_nil _ _ _ _) ⟨w.heap.size, 0, none⟩ 1 1 zeroC rfl rfl (zero_cells 0 w) zero_ones ?c1 ?c2 ?c3 ?_))
    case c1 => unfold maxLen; omega
    case c2 => omega
    case c3 => simp; omega
    intro v6 w6 ho6 hg6 hn6 hat6
    have HO6 := Lib.hid ho6
    have HG6 := Lib.hid hg6
    have HAT := Lib.hid hat6
    rcases own_shape ho6 with ⟨_, h0, _⟩ | ⟨g6, cap6, hv6, hN6, hcm6, hgR6, hglt6⟩
    · omega
    subst hv6
    have hX6 : w.heap.size < (w.alloc (.cells #[.int .i64 0, .string ⟨#[]⟩, .int .i64 0, .bool false, .int .i64 0, .string ⟨#[]⟩, .slice none 0 0, .slice none 0 0, .slice none 0 0, .slice none 0 0] 29)).heap.size := by simp
    have h6R : w6.heap[R]? = w.heap[R]? := (hg6.block R (by omega) (by simp [Value.ownBlock])).trans (HX.out.block R (by omega))
    have B6 := HB.out.of_block h6R
    have r5 := B6.cell (k := 5) (u := .slice none 0 0) rfl
    have f56 := B6.frozen 5
    have hg6R : g6 ≠ R := by omega
    have ho7 : (w6.setCell ⟨R, 5, none⟩ (.slice (some ⟨g6, 0, none⟩) (0 + 1) cap6)).ownsRow (R + 1) 29 10 (.slice (some ⟨g6, 0, none⟩) (0 + 1) cap6) (0 + 1) ([] ++ zeroC) := ownsRow_setCell_other ho6 (by simp [Value.ownBlock]; omega) _
    have e0 : (w6.setCell ⟨R, 5, none⟩ (.slice (some ⟨g6, 0, none⟩) 1 cap6)).cell? ⟨g6, 0, none⟩ = some (.int .i64 0) := own_cell ho7 (j := 0) rfl
    have e1 : (w6.setCell ⟨R, 5, none⟩ (.slice (some ⟨g6, 0, none⟩) 1 cap6)).cell? ⟨g6, 1, none⟩ = some (.string ⟨#[]⟩) := own_cell ho7 (j := 1) rfl
    have e8 : (w6.setCell ⟨R, 5, none⟩ (.slice (some ⟨g6, 0, none⟩) 1 cap6)).cell? ⟨g6, 8, none⟩ = some (.slice none 0 0) := own_cell ho7 (j := 8) rfl
    have fz0 : (w6.setCell ⟨R, 5, none⟩ (.slice (some ⟨g6, 0, none⟩) 1 cap6)).frozen? ⟨g6, 0, none⟩ = false := own_frozen ho7 0
    have fz1 : (w6.setCell ⟨R, 5, none⟩ (.slice (some ⟨g6, 0, none⟩) 1 cap6)).frozen? ⟨g6, 1, none⟩ = false := own_frozen ho7 1
    have fz8 : (w6.setCell ⟨R, 5, none⟩ (.slice (some ⟨g6, 0, none⟩) 1 cap6)).frozen? ⟨g6, 8, none⟩ = false := own_frozen ho7 8
    clear ho6 hg6 hn6 hat6 h6R B6 ho7 hcm6 hN6 HB c5
    go_wp2_with fail
    go_ret
    obtain rfl := HNX.out
    obtain ⟨F1, F2⟩ := build_fin H.out hZ hL1 (by simp) k n HK.out HN.out HELS.out HCL.out (Below.refl _ _) HAV.out HX.out (G1 := .slice none 0 0) rfl HG6.out rfl HO6.out (by simpa using HAT.out) _ rfl
    exact ⟨g6, cap6, rfl, F1, F2⟩
  · have c5 := hbox.cell (k := 5) (u := .slice (some ⟨g, 0, none⟩) nL cap) (by rw [hnL]; rfl)
    have hcut := own_cut (m := L.length) hown (Nat.le_refl _)
    rw [← hfl, List.take_length] at hcut
    have s1 := fun w => sliceE_from g L.length cap L.length (by omega) w
    rw [Nat.sub_self] at s1
    have s2 := fun w => sliceE_to g L.length cap L.length (by omega) w
    rw [← hnL] at hcut s1 s2 hN hfl hL1
    obtain ⟨q, hq⟩ : ∃ q, q = if cap = nL then 0 else nL * 10 := ⟨_, rfl⟩
    rw [← hq] at s1
    have HFL := Lib.hid hfl
    have HC := Lib.hid hcut
    have HB := Lib.hid hbox
    clear h hels hown hten hfl hbox hnL hnx hCl hk hn hcut hq
    have HOX := Lib.hid (own_stays HC.out (w' := w.alloc (.cells #[.int .i64 0, .string ⟨#[]⟩, .int .i64 0, .bool false, .int .i64 0, .string ⟨#[]⟩, .slice none 0 0, .slice none 0 0, .slice none 0 0, .slice none 0 0] 29)) fun q hq => by
      have hq : g = q := by simpa [Value.ownBlock] using hq
      subst hq
      exact HX.out.block _ (by omega))
    go_enter Tryz.func92, Tryz.ntmps92
    go_wp2_with (first
      | (at_builtin; refine wpList_append_none rfl _ _ 27 rfl 29 i0 Tryz.underlying27 hi none 0 0 (Nat.le_refl _) rfl ⟨g, q, none⟩ (cap - nL) 0 rfl rfl ?_)
      | (at_builtin; refine wpList_append_own_at _ rfl _ _ 27 rfl (R + 1) 29 i0 (.agg #[.int .i64 0, .string ⟨#[]⟩, .int .i64 0, .bool false, .int .i64 0, .string ⟨#[]⟩, .slice none 0 0, .slice none 0 0, .slice none 0 0, .slice none 0 0]) 10 160 Tryz.underlying27 hi hz0 hz1 hzb rfl (by decide) _ _ _ rfl HOX.out ⟨w.heap.size, 0, none⟩ 1 1 zeroC rfl rfl (zero_cells 0 w) zero_ones ?c1 ?c2 ?c3 ?_))
    case c1 => unfold maxLen; omega
    case c2 => omega
    case c3 => simp; omega
    intro v6 w6 ho6 hg6 hn6 hat6
    have HO6 := Lib.hid ho6
    have HG6 := Lib.hid hg6
    have HAT := Lib.hid hat6
    rcases own_shape ho6 with ⟨_, h0, _⟩ | ⟨g6, cap6, hv6, hN6, hcm6, hgR6, hglt6⟩
    · omega
    subst hv6
    have hX6 : w.heap.size < (w.alloc (.cells #[.int .i64 0, .string ⟨#[]⟩, .int .i64 0, .bool false, .int .i64 0, .string ⟨#[]⟩, .slice none 0 0, .slice none 0 0, .slice none 0 0, .slice none 0 0] 29)).heap.size := by simp
    have h6R : w6.heap[R]? = w.heap[R]? := (hg6.block R (by omega) (by simp [Value.ownBlock]; omega)).trans (HX.out.block R (by omega))
    have B6 := HB.out.of_block h6R
    have r5 := B6.cell (k := 5) (u := .slice (some ⟨g, 0, none⟩) nL cap) (by rw [HNL.out]; rfl)
    have f56 := B6.frozen 5
    have hg6R : g6 ≠ R := by omega
    have ho7 : (w6.setCell ⟨R, 5, none⟩ (.slice (some ⟨g6, 0, none⟩) (nL + 1) cap6)).ownsRow (R + 1) 29 10 (.slice (some ⟨g6, 0, none⟩) (nL + 1) cap6) (nL + 1) (Cs.flatten ++ zeroC) := ownsRow_setCell_other ho6 (by simp [Value.ownBlock]; omega) _
    have hzl : ∀ q u, zeroC[q]? = some u → (Cs.flatten ++ zeroC)[nL * 10 + q]? = some u := fun q u hq => by
      rw [List.getElem?_append_right (by rw [HFL.out]; omega), HFL.out, Nat.add_sub_cancel_left]
      exact hq
    have e0 : (w6.setCell ⟨R, 5, none⟩ (.slice (some ⟨g6, 0, none⟩) (nL + 1) cap6)).cell? ⟨g6, nL * 10, none⟩ = some (.int .i64 0) := own_cell ho7 (hzl 0 (.int .i64 0) rfl)
    have e1 := own_cell ho7 (hzl 1 (.string ⟨#[]⟩) rfl)
    have e8 := own_cell ho7 (hzl 8 (.slice none 0 0) rfl)
    have fz := own_frozen ho7
    have fz0 := fz (nL * 10)
    have fz1 := fz (nL * 10 + 1)
    have fz8 := fz (nL * 10 + 8)
    have h6b : (0 : Int) ≤ (nL : Int) ∧ (nL : Int) < (nL : Int) + 1 := by omega
    clear ho6 hg6 hn6 hat6 h6R B6 ho7 hzl fz hcm6 hN6 HB HOX c5
    go_wp2_with fail
    go_ret
    obtain rfl := HNL.out
    obtain rfl := HNX.out
    obtain ⟨F1, F2⟩ := build_fin H.out hZ hL1 (by simp) k n HK.out HN.out HELS.out HCL.out (Below.refl _ _) HAV.out HX.out (G1 := .slice (some ⟨g, 0, none⟩) L.length cap) rfl HG6.out rfl HO6.out (by simpa using HAT.out) _ rfl
    exact ⟨g6, cap6, rfl, F1, F2⟩
/-- build. -/
theorem build_any {Z : Nat → Prop} {R i : Nat} {G : Value} {L A : List Xp} {w : World} (hE : toks.length ≤ 1073741824) (h : RS w0 ta tc toks Z R i G (L ++ A) w) (hZ : ∀ k, Z k → k < w.heap.size) (hL1 : L.length + 1 ≤ i) (c : Int) (hc : c = (A.length : Int)) (k : Int) (n : List UInt8) (hk : -9223372036854775808 ≤ k ∧ k ≤ 9223372036854775807) (hn : n.length ≤ 140737488351232) :
    Calls Tryz.prog 92 #[.pointer (some ⟨R, 0, none⟩), .int .i64 k, .string ⟨n.toArray⟩, .int .i64 c] w (BuildPost w0 ta tc toks Z R i G L A k n w) := by
  subst hc
  cases A with
  | nil => rw [List.append_nil] at h; exact build_none hE h hZ hL1 k n hk hn
  | cons x A => exact build_args hE h hZ (by simp) k n hk hn
end
end Go.Proofs.YtjehhldboopocaaGreatDoor.Lx
