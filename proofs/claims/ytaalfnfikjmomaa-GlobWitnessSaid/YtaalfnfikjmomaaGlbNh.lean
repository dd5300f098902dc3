/- Contract of the program's Literal (glob). -/
import Derived.Test.YtaalfnfikjmomaaGlbNg
import Derived.Test.YtaalfnfikjmomaaBaseB
namespace Go.Proofs.Ytaalfnfikjmomaa
open Go.RowKit Go.Lib
/-- The literal prefix of a pattern, and whether it is the whole pattern. -/
def litP (s : List UInt8) : List UInt8 × Bool := match parseP s with
  | none => ([], false)
  | some L => litL L
theorem litL_cons_yes {x : GE} {l : List GE} (h : x.kind = 5) : litL (x :: l) = ((x.items.headD (0, 0)).1 :: (litL l).1, (litL l).2) := by
  rw [litL, if_pos h]
  cases x.items <;> rfl
theorem litL_cons_no {x : GE} {l : List GE} (h : x.kind ≠ 5) : litL (x :: l) = ([], false) := by rw [litL, if_neg h]
theorem isLit_iff {x : GE} : isLit x = true ↔ x.kind = 5 := by unfold isLit; exact beq_iff_eq
theorem litN_at {x : GE} (h : x.kind = 5) : litN x = (x.items.headD (0, 0)).1.toNat := by unfold litN; rw [if_pos h]
/-- What holds at each round's head of Literal. -/
def LRel (w : World) (L : List GE) (i : Nat) (acc : List UInt8) (sv : Value) (wr : World) : Prop :=
  i ≤ L.length ∧ acc.length = i ∧ wr.ownsRow w.heap.size 5 1 sv acc.length (Lib.byteCells acc) ∧ Below w.heap.size w wr ∧ litL L = (acc ++ (litL (L.drop i)).1, (litL (L.drop i)).2)
set_option maxHeartbeats 8000000 in
set_option maxRecDepth 100000 in
theorem literal_fn_any (p : ByteArray) (w : World) :
    Calls Try.prog 17 #[.string p] w fun e w' => e = .returned (.tuple #[.string ⟨(litP p.data.toList).1.toArray⟩, .bool (litP p.data.toList).2]) ∧ Below w.heap.size w w' := by
  have P := Lib.hid (parse_any p w)
  cases he : parseP p.data.toList with
  | none =>
    have HV := Lib.hid (show litP p.data.toList = ([], false) by unfold litP; rw [he])
    have PP := Lib.hid (fun (e : Ending) (w' : World) (h : ParsePost p.data.toList w e w') => show Below w.heap.size w w' ∧ ∃ n : Nat, (n = 3 ∨ n = 5) ∧ e = .returned (.tuple #[.slice none 0 0, .int .i64 n]) from by
      obtain ⟨hb, h⟩ := h
      rw [he] at h
      refine ⟨hb, _, ?_, h⟩
      unfold parseP at he
      unfold validP
      split
      · exact .inl rfl
      · rename_i h0
        rw [if_neg h0] at he
        rw [he]
        exact .inr rfl)
    clear he
    go_enter Try.func17, Try.ntmps17
    go_wp2_with fail
    go_fit P.out
    intro e w1 h
    obtain ⟨hb, n, hn, rfl⟩ := PP.out _ _ h
    have B := Lib.hid hb
    clear h hb
    rcases hn with rfl | rfl
    all_goals
      go_wp2_with fail
      go_ret2
      exact ⟨by rw [HV.out]; rfl, B.out⟩
  | some L =>
    have HV := Lib.hid (show litP p.data.toList = litL L by unfold litP; rw [he])
    have PP := Lib.hid (fun (e : Ending) (w' : World) (h : ParsePost p.data.toList w e w') => show Below w.heap.size w w' ∧ ∃ (a : Option Addr) (c : Nat), e = .returned (.tuple #[.slice a L.length c, .int .i64 0]) ∧ L.length ≤ 4096 ∧ ReadsP w' a L from by
      obtain ⟨hb, h⟩ := h
      rw [he] at h
      obtain ⟨a, c, h1, _, _, h2, h3⟩ := h
      exact ⟨hb, a, c, h1, h2, h3⟩)
    clear he
    obtain ⟨i0, hi0, hz0, hz1, hzb⟩ := info_parts info8
    go_enter Try.func17, Try.ntmps17
    go_wp2_with fail
    go_fit P.out
    intro e w1 h
    obtain ⟨hb, a, c, rfl, hL, hr⟩ := PP.out _ _ h
    have B := Lib.hid hb
    have R := Lib.hid hr
    have HL := Lib.hid hL
    have l0 : (0 : Int) ≤ L.length ∧ (L.length : Int) ≤ 4096 := by omega
    clear h hb hL hr
    go_wp2_with fail
    have ST := Lib.hid (show LRel w1 L 0 [] (.slice none 0 0) w1 from ⟨by omega, rfl, World.ownsRow_nil _ _ _ _, Below.refl _ _, by simp⟩)
    go_loopw [6, 18] (fun s6 s18 wr => ∃ (i : Nat) (acc : List UInt8), s18 = .int .i64 (i : Int) ∧ LRel w1 L i acc s6 wr) (fun _ s18 _ => L.length - (RowKit.intOf s18).toNat)
    case atStart => exact ⟨0, [], rfl, ST.out⟩
    case round =>
      obtain ⟨i, acc, rfl, hrel⟩ := hrel
      have hb1 := hrel.2.2.2.1
      obtain ⟨sa, sc, rfl⟩ := own_slice hrel.2.2.1
      have HR := Lib.hid hrel
      by_cases hlt : i < L.length
      · obtain ⟨b, rfl, hb, hc⟩ := R.out.below hb1 i hlt
        obtain ⟨x, hx⟩ : ∃ x, x = L[i] := ⟨_, rfl⟩
        rw [← hx] at hc
        obtain ⟨k0, k1, k2, k3, hk, hel⟩ := elC_cells x
        rw [hel] at hc
        have c0 : wr.cell? ⟨b, i * 7, none⟩ = some (.int .u64 (k0 : Nat)) := by have := hc 0 (by omega); rwa [Nat.mul_comm] at this
        have c1 : wr.cell? ⟨b, i * 7 + 1, none⟩ = some (.int .u64 (k1 : Nat)) := by have := hc 1 (by omega); rwa [Nat.mul_comm] at this
        have c2 : wr.cell? ⟨b, i * 7 + 2, none⟩ = some (.int .u64 (k2 : Nat)) := by have := hc 2 (by omega); rwa [Nat.mul_comm] at this
        have c3 : wr.cell? ⟨b, i * 7 + 3, none⟩ = some (.int .u64 (k3 : Nat)) := by have := hc 3 (by omega); rwa [Nat.mul_comm] at this
        have c4 : wr.cell? ⟨b, i * 7 + 4, none⟩ = some (.bool (manyB x)) := by have := hc 4 (by omega); rwa [Nat.mul_comm] at this
        have c5 : wr.cell? ⟨b, i * 7 + 5, none⟩ = some (.bool (isLit x)) := by have := hc 5 (by omega); rwa [Nat.mul_comm] at this
        have c6 : wr.cell? ⟨b, i * 7 + 6, none⟩ = some (.int .u8 (litN x : Nat)) := by have := hc 6 (by omega); rwa [Nat.mul_comm] at this
        have i1 : (0 : Int) ≤ i ∧ (i : Int) < (L.length : Int) := by omega
        have HX := Lib.hid (show ∃ h : i < L.length, L[i] = x from ⟨hlt, hx.symm⟩)
        have al : acc.length ≤ 4096 := by have := hrel.2.1; have := HL.out; omega
        have AL := Lib.hid al
        generalize manyB x = mb at c4
        obtain ⟨m, hm⟩ : ∃ m, m = litN x := ⟨_, rfl⟩
        rw [← hm] at c6
        have HM := Lib.hid hm
        clear hc hel hx hk hrel hlt hb hb1 hm al
        cases hli : isLit x
        · rw [hli] at c5
          have HNK := Lib.hid (show x.kind ≠ 5 from fun e => by rw [isLit_iff.2 e] at hli; cases hli)
          obtain ⟨a2, c22, e2, _, _, hrb⟩ := own_reads (HR.out.2.2.1.alloc (Obj.cells #[.int .u64 (k0 : Nat), .int .u64 (k1 : Nat), .int .u64 (k2 : Nat), .int .u64 (k3 : Nat), .bool mb, .bool false, .int .u8 (m : Nat)] 50)) rfl
          injection e2 with e3 _ e4
          subst e3
          have hcv := conv_str sa acc _ hrb sc
          clear hli hrb e4
          go_wp2_with fail
          go_ret2
          refine ⟨?_, (B.out.trans (HR.out.2.2.2.1.mono B.out.size)).alloc (Nat.le_trans B.out.size HR.out.2.2.2.1.size) _⟩
          obtain ⟨h, e⟩ := HX.out
          rw [HV.out, HR.out.2.2.2.2, List.drop_eq_getElem_cons h, e, litL_cons_no HNK.out, List.append_nil]
          rfl
        · rw [hli] at c5
          have HNK := Lib.hid (isLit_iff.1 hli)
          obtain ⟨cc, hcc⟩ : ∃ cc : UInt8, cc = (x.items.headD (0, 0)).1 := ⟨_, rfl⟩
          have hm8 : m = cc.toNat := by rw [HM.out, litN_at HNK.out, hcc]
          have HCC := Lib.hid hcc
          have HO2 := Lib.hid ((HR.out.2.2.1.alloc (Obj.cells #[.int .u64 (k0 : Nat), .int .u64 (k1 : Nat), .int .u64 (k2 : Nat), .int .u64 (k3 : Nat), .bool mb, .bool true, .int .u8 (m : Nat)] 50)).alloc (Obj.cells #[.int .u8 (m : Nat)] 5))
          have HBA := Lib.hid ((HR.out.2.2.2.1.alloc HR.out.2.2.2.1.size (Obj.cells #[.int .u64 (k0 : Nat), .int .u64 (k1 : Nat), .int .u64 (k2 : Nat), .int .u64 (k3 : Nat), .bool mb, .bool true, .int .u8 (m : Nat)] 50)).alloc (by have := HR.out.2.2.2.1.size; simp; omega) (Obj.cells #[.int .u8 (m : Nat)] 5))
          have HM8 := Lib.hid hm8
          clear hli hcc hm8
          go_wp2_with (at_builtin; go_loud (refine wpList_append_own _ rfl _ _ 45 rfl w1.heap.size 5 i0 (.int .u8 0) 1 1 Try.underlying45 hi0 hz0 hz1 hzb rfl (by decide) _ _ _ rfl HO2.out ⟨wr.heap.size + 1, 0, none⟩ 1 1 [Value.int .u8 (m : Nat)] rfl rfl ?c1 ?c2 ?c3 ?c4 ?c5 ?_))
          case c1 => exact new_cells' _ _ (by simp) _ _
          case c2 => intro u hu; simp at hu; subst hu; rfl
          case c3 => have := AL.out; unfold maxLen; omega
          case c4 => have := AL.out; omega
          case c5 => have := HR.out.2.2.2.1.size; simp; omega
          intro v' w3 hown' hgrow _
          have ST2 := Lib.hid (show LRel w1 L (i + 1) (acc ++ [cc]) v' w3 from by
            obtain ⟨h, e⟩ := HX.out
            refine ⟨h, by rw [List.length_append, List.length_singleton, HR.out.2.1], ?_, HBA.out.grown hgrow (by have := HR.out.2.2.2.1.size; simp; omega) (fun k hk => (HO2.out.lt k hk).1), ?_⟩
            · rw [List.length_append, List.length_singleton, byteCells_app]
              rw [HM8.out] at hown'
              exact hown'
            · rw [HR.out.2.2.2.2, List.drop_eq_getElem_cons h, e, litL_cons_yes HNK.out, ← HCC.out]
              simp)
          have HLT := Lib.hid HX.out.1
          clear hown' hgrow
          go_wp2_with fail
          go_roundw
          case rel => exact ⟨i + 1, acc ++ [cc], by go_num, ST2.out⟩
          case measure => have := HLT.out; simp [RowKit.intOf]; omega
      · obtain rfl : i = L.length := by have := hrel.1; omega
        have HE := Lib.hid (show litL L = (acc, true) by rw [hrel.2.2.2.2, List.drop_eq_nil_of_le (Nat.le_refl _)]; show (acc ++ [], true) = _; rw [List.append_nil])
        obtain ⟨a2, c22, e2, _, _, hrb⟩ := own_reads hrel.2.2.1 rfl
        injection e2 with e3 _ e4
        subst e3
        have hcv := conv_str sa acc _ hrb sc
        clear hrel hlt hrb e4 hb1
        go_wp2_with fail
        go_ret2
        exact ⟨by rw [HV.out, HE.out]; rfl, B.out.trans (HR.out.2.2.2.1.mono B.out.size)⟩
end Go.Proofs.Ytaalfnfikjmomaa
