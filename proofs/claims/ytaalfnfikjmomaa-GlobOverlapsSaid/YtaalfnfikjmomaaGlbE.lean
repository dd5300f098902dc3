/- The contract of the document's Elems (glob). -/
import Derived.Test.YtaalfnfikjmomaaGlbD
namespace Go.Proofs.Ytaalfnfikjmomaa
open Go.RowKit Go.Lib

theorem two_new (w : World) (x1 y1 x2 y2 : Value) (t1 t2 : TypeId) : TwoAt ((w.alloc (Obj.cells #[x1, y1] t1)).alloc (Obj.cells #[x2, y2] t2)).drew w.heap.size t1 x1 y1 ∧ TwoAt ((w.alloc (Obj.cells #[x1, y1] t1)).alloc (Obj.cells #[x2, y2] t2)).drew (w.heap.size + 1) t2 x2 y2 ∧
    Below w.heap.size w ((w.alloc (Obj.cells #[x1, y1] t1)).alloc (Obj.cells #[x2, y2] t2)).drew := by
  refine ⟨((TwoAt.new w t1 x1 y1).alloc _).drew, ?_, (((Below.refl _ w).alloc (Nat.le_refl _) _).alloc (by simp) _).drew⟩
  have := TwoAt.new (w.alloc (Obj.cells #[x1, y1] t1)) t2 x2 y2
  rw [show (w.alloc (Obj.cells #[x1, y1] t1)).heap.size = w.heap.size + 1 by simp] at this
  exact this.drew
/-- What Elems gives. -/
def ElemsPost (l : Option (List GE)) (w : World) (e : Ending) (w' : World) : Prop :=
  Below w.heap.size w w' ∧ match l with
  | some L => ∃ (a : Option Addr) (c : Nat), e = .returned (.tuple #[.slice a L.length c, .bool true]) ∧ L.length ≤ c ∧ c ≤ maxLen ∧ L.length ≤ 4096 ∧ ReadsE w' a L
  | none => e = .returned (.tuple #[.slice none 0 0, .bool false])
set_option maxHeartbeats 8000000 in
set_option maxRecDepth 100000 in
theorem refElems_any (s : ByteArray) (w : World) :
    Calls Try.prog 23 #[.string s] w (ElemsPost (parseP s.data.toList) w) := by
  by_cases hbig : 4096 < s.size
  · have HP := Lib.hid (show parseP s.data.toList = none by unfold parseP; rw [if_pos (by rw [lenB]; exact hbig)])
    have h0 : (4096 : Int) < (s.size : Int) := by omega
    clear hbig
    go_enter Try.func23, Try.ntmps23
    go_wp2_with fail
    go_ret2
    rw [HP.out]
    exact ⟨Below.refl _ _, rfl⟩
  have hp : parseP s.data.toList = elemsL s.data.toList := by unfold parseP; rw [if_neg (by rw [lenB]; exact hbig)]
  rw [hp]
  have h0 : (s.size : Int) ≤ 4096 := by omega
  clear hp
  have HR0 := Lib.hid (show ERel s w 0 [] [] (.slice none 0 0) w from ⟨by omega, by simp, World.ownsRow_nil _ _ _ _, RowE.nil _ _, Below.refl _ _, by rw [List.drop_zero]; cases elemsL s.data.toList <;> simp⟩)
  go_enter Try.func23, Try.ntmps23
  go_wp2_with fail
  go_loopw [4, 5] (fun s4 s5 wr => ∃ (a : Nat) (acc : List GE) (xs : List Value), s5 = .int .i64 (a : Int) ∧ ERel s w a acc xs s4 wr) (fun _ s5 _ => s.size - (RowKit.intOf s5).toNat)
  case atStart => exact ⟨0, [], [], rfl, HR0.out⟩
  case round =>
    obtain ⟨a, acc, xs, rfl, hrel⟩ := hrel
    obtain ⟨sa, sc, rfl⟩ := own_slice hrel.2.2.1
    have HR := Lib.hid hrel
    have B := Lib.hid hrel.2.2.2.2.1
    by_cases hlt : a < s.size
    · have h1 : (0 : Int) ≤ a ∧ (a : Int) < (s.size : Int) := by omega
      have hix := index_at s a hlt
      obtain ⟨c, hc⟩ : ∃ c, c = s[a] := ⟨_, rfl⟩
      have HD := Lib.hid (show s.data.toList.drop a = c :: s.data.toList.drop (a + 1) by rw [hc]; exact drop_cons s a hlt)
      have HL := Lib.hid (And.intro hlt hbig)
      rw [← hc] at hix
      have c9 : (0 : Int) ≤ (c.toNat : Int) ∧ (c.toNat : Int) ≤ 255 := by have := c.toNat_lt; omega
      clear hrel hlt hbig hc
      go_wp2_with fail
      go_cut [6, 7, 8] (fun s6 s7 s8 wx => ∃ E I : Nat, s6 = .pointer (some ⟨E, 0, none⟩) ∧ s7 = .int .i64 ((a : Int) + 1) ∧ s8 = .bool true ∧ TwoAt wx E 53 (.int .i64 5) (.slice (some ⟨I, 0, none⟩) 1 1) ∧ TwoAt wx I 54 (.int .u8 c.toNat) (.int .u8 c.toNat) ∧ E ≠ I ∧ wr.heap.size ≤ E ∧ wr.heap.size ≤ I ∧ Below wr.heap.size wr wx)
      case first =>
        have q1 := two_new wr (.int .u8 c.toNat) (.int .u8 c.toNat) (.int .i64 5) (.slice (some ⟨wr.heap.size, 0, none⟩) 1 1) 54 53
        have q2 := two_new wr (.int .i64 5) (.slice (some ⟨wr.heap.size + 1, 0, none⟩) 1 1) (.int .u8 c.toNat) (.int .u8 c.toNat) 53 54
        have Q1 := Lib.hid q1
        have Q2 := Lib.hid q2
        clear q1 q2
        go_region
        all_goals
          go_wp2_with fail
          go_meet
          first
            | exact ⟨wr.heap.size + 1, wr.heap.size, rfl, rfl, rfl, Q1.out.2.1, Q1.out.1, by omega, by omega, by omega, Q1.out.2.2⟩
            | exact ⟨wr.heap.size, wr.heap.size + 1, rfl, rfl, rfl, Q2.out.1, Q2.out.2.1, by omega, by omega, by omega, Q2.out.2.2⟩
      case rest =>
        obtain ⟨E, I, rfl, rfl, rfl, hE, hI, hne, hEw, hIw, hbx⟩ := hcut
        have HE := Lib.hid hE
        have HI := Lib.hid hI
        have HBX := Lib.hid (And.intro hbx (And.intro hne (And.intro hEw hIw)))
        have e0 := hE.cell0
        have e1 := hE.cell1
        have ef0 := hE.frozen 0
        have ef1 := hE.frozen 1
        clear hE hI hne hEw hIw hbx
        go_upto_block 2 with (fail)
        go_cut [7, 8] (fun s7 s8 wx2 => SwRel s a E wr s7 s8 wx2)
        case first =>
          by_cases k1 : c = 42
          · subst k1
            have L := Lib.hid (fun w => refLast_any s (a + 1) w)
            have hh := lastN_head s (a + 1) 42 (by decide)
            obtain ⟨b, hb⟩ : ∃ b, b = lastN s (a + 1) := ⟨_, rfl⟩
            rw [← hb] at L hh
            by_cases k2 : b = 42
            · have b1 : ((b : Int) == 42) = true := by rw [beq_iff_eq]; omega
              have hlen2 : a + 2 ≤ s.size := by
                have := hh.2 k2
                rw [List.head?_drop] at this
                have := (List.getElem?_eq_some_iff.1 this).1
                rw [lenB] at this
                omega
              have HV := Lib.hid (show elemL (s.data.toList.drop a) = some (⟨1, []⟩, s.data.toList.drop (a + 2)) by
                rw [HD.out]
                unfold elemL
                dsimp only
                rw [if_pos rfl, if_pos (hh.2 k2), List.tail_drop])
              clear hh hb k2
              go_wp2_with fail
              go_fit (L.out _)
              rintro e w1 ⟨rfl, rfl⟩
              go_wp2_with fail
              go_meet
              exact ⟨1, none, 0, 0, a + 2, true, by go_num, rfl, (((HE.out.set0 _).set1 _).set0 _).set1 _, (((HBX.out.1.setCell (p := ⟨E, 0, none⟩) HBX.out.2.2.1 _).setCell (p := ⟨E, 1, none⟩) HBX.out.2.2.1 _).setCell (p := ⟨E, 0, none⟩) HBX.out.2.2.1 _).setCell (p := ⟨E, 1, none⟩) HBX.out.2.2.1 _, fun _ => ⟨⟨1, []⟩, rfl, by omega, rfl, ReadsI.nil _ _ _, by omega, by first | omega | (have := HL.out; omega), HV.out⟩, fun h => (nomatch h)⟩
            · have b1 : ((b : Int) == 42) = false := by rw [beq_eq_false_iff_ne]; omega
              have HV := Lib.hid (show elemL (s.data.toList.drop a) = some (⟨2, []⟩, s.data.toList.drop (a + 1)) by
                rw [HD.out]
                unfold elemL
                dsimp only
                rw [if_pos rfl, if_neg (fun e => k2 (hh.1 e))])
              clear hh hb k2
              go_wp2_with fail
              go_fit (L.out _)
              rintro e w1 ⟨rfl, rfl⟩
              go_wp2_with fail
              go_meet
              exact ⟨2, none, 0, 0, a + 1, true, by go_num, rfl, (HE.out.set0 _).set1 _, (HBX.out.1.setCell (p := ⟨E, 0, none⟩) HBX.out.2.2.1 _).setCell (p := ⟨E, 1, none⟩) HBX.out.2.2.1 _, fun _ => ⟨⟨2, []⟩, rfl, by omega, rfl, ReadsI.nil _ _ _, by omega, by first | omega | (have := HL.out; omega), HV.out⟩, fun h => (nomatch h)⟩
          have n42 : ((c.toNat : Int) == 42) = false := by rw [beq_eq_false_iff_ne]; intro e; exact k1 (UInt8.toNat_inj.1 (by show c.toNat = 42; omega))
          by_cases k3 : c = 63
          · subst k3
            have HV := Lib.hid (show elemL (s.data.toList.drop a) = some (⟨3, []⟩, s.data.toList.drop (a + 1)) by
              rw [HD.out]
              unfold elemL
              dsimp only
              rw [if_neg (by decide), if_pos rfl])
            clear k1
            go_wp2_with fail
            go_meet
            exact ⟨3, none, 0, 0, a + 1, true, by go_num, rfl, (HE.out.set0 _).set1 _, (HBX.out.1.setCell (p := ⟨E, 0, none⟩) HBX.out.2.2.1 _).setCell (p := ⟨E, 1, none⟩) HBX.out.2.2.1 _, fun _ => ⟨⟨3, []⟩, rfl, by omega, rfl, ReadsI.nil _ _ _, by omega, by first | omega | (have := HL.out; omega), HV.out⟩, fun h => (nomatch h)⟩
          have n63 : ((c.toNat : Int) == 63) = false := by rw [beq_eq_false_iff_ne]; intro e; exact k3 (UInt8.toNat_inj.1 (by show c.toNat = 63; omega))
          by_cases k4 : c = 91
          · subst k4
            have C := Lib.hid (fun w => refClass_any s (a + 1) (by have := HL.out; omega) (by have := HL.out; omega) w)
            have hel : elemL (s.data.toList.drop a) = match classL (s.data.toList.drop (a + 1)) with | none => none | some (its, r2) => if its = [] then none else some (⟨4, its⟩, r2) := by
              rw [HD.out]
              unfold elemL
              dsimp only
              rw [if_neg (by decide), if_neg (by decide), if_pos rfl]
              cases classL (s.data.toList.drop (a + 1)) <;> rfl
            have HEL := Lib.hid hel
            clear k1 k3 hel
            go_wp2_with fail
            go_fit (C.out _)
            rintro e w2 ⟨hb2, h2⟩
            have E2 := HE.out.below hb2
            have e0 := E2.cell0
            have e1 := E2.cell1
            have ef0 := E2.frozen 0
            have ef1 := E2.frozen 1
            have HE2 := Lib.hid E2
            have HB2 := Lib.hid (HBX.out.1.trans (hb2.mono HBX.out.1.size))
            have HB3 := Lib.hid hb2
            clear hb2 E2
            cases hcl : classL (s.data.toList.drop (a + 1)) with
            | none =>
              rw [hcl] at h2
              obtain ⟨av, ln, ic, n, rfl⟩ := h2
              have HV := Lib.hid (show elemL (s.data.toList.drop a) = none by rw [HEL.out, hcl])
              clear hcl
              go_wp2_with fail
              go_meet
              exact ⟨4, av, ln, ic, n, false, rfl, rfl, (HE2.out.set0 _).set1 _, (HB2.out.setCell (p := ⟨E, 0, none⟩) HBX.out.2.2.1 _).setCell (p := ⟨E, 1, none⟩) HBX.out.2.2.1 _, fun h => (nomatch h), fun _ => HV.out⟩
            | some q =>
              obtain ⟨its, r⟩ := q
              rw [hcl] at h2
              obtain ⟨av, ic, n, rfl, g1, g2, g3, g4, rfl, g5⟩ := h2
              have G5 := Lib.hid g5
              have HG := Lib.hid (And.intro g3 g4)
              by_cases k5 : its = []
              · subst k5
                have HV := Lib.hid (show elemL (s.data.toList.drop a) = none by rw [HEL.out, hcl]; rfl)
                clear hcl g1 g2 g3 g4 g5
                go_wp2_with fail
                go_meet
                exact ⟨4, av, 0, ic, n, false, rfl, rfl, (HE2.out.set0 _).set1 _, (HB2.out.setCell (p := ⟨E, 0, none⟩) HBX.out.2.2.1 _).setCell (p := ⟨E, 1, none⟩) HBX.out.2.2.1 _, fun h => (nomatch h), fun _ => HV.out⟩
              · have HV := Lib.hid (show elemL (s.data.toList.drop a) = some (⟨4, its⟩, s.data.toList.drop n) by rw [HEL.out, hcl]; dsimp only; rw [if_neg k5])
                have dl : decide (0 < its.length) = true := decide_eq_true (List.length_pos_iff.2 k5)
                have HE9 := Lib.hid (show E < wc.heap.size from HE.out.lt)
                clear hcl g1 g2 g3 g4 g5 k5
                go_wp2_with fail
                go_meet
                refine ⟨4, av, its.length, ic, n, true, rfl, by first | rfl | (rw [dl]), (HE2.out.set0 _).set1 _, (HB2.out.setCell (p := ⟨E, 0, none⟩) HBX.out.2.2.1 _).setCell (p := ⟨E, 1, none⟩) HBX.out.2.2.1 _, fun _ => ⟨⟨4, its⟩, rfl, by omega, rfl, ?_, by have := HG.out; omega, HG.out.1, HV.out⟩, fun h => (nomatch h)⟩
                have := HBX.out.1.size
                have := HE9.out
                refine G5.out.move (by simp [World.setCell]) (fun b hb hS => ⟨by omega, ?_⟩)
                rw [Below.heap_setCell _ _ _ _ (by show b ≠ E; omega), Below.heap_setCell _ _ _ _ (by show b ≠ E; omega)]
          have n91 : ((c.toNat : Int) == 91) = false := by rw [beq_eq_false_iff_ne]; intro e; exact k4 (UInt8.toNat_inj.1 (by show c.toNat = 91; omega))
          by_cases k6 : c = 92
          · subst k6
            have L := Lib.hid (fun w => refLast_any s (a + 1) w)
            have hv : elemL (s.data.toList.drop a) = (s.data.toList.drop (a + 1)).head?.map fun d => (⟨5, [(d, d)]⟩, (s.data.toList.drop (a + 1)).tail) := by
              rw [HD.out]
              unfold elemL
              dsimp only
              rw [if_neg (by decide), if_neg (by decide), if_neg (by decide), if_pos rfl]
            have HV := Lib.hid hv
            clear k1 k3 k4 hv
            have hsz : ∀ v, (wc.setCell ⟨E, 1, none⟩ v).heap.size = wc.heap.size := fun v => by simp [World.setCell]
            have HSZ := Lib.hid hsz
            have hEl : E < wc.heap.size := HE.out.lt
            have HE1 := Lib.hid (fun v o => ((HE.out.set1 v).alloc o))
            have HB1 := Lib.hid (fun v o => (HBX.out.1.setCell (p := ⟨E, 1, none⟩) HBX.out.2.2.1 v).alloc (by rw [HSZ.out]; exact HBX.out.1.size) o)
            clear hsz
            by_cases k7 : a + 1 < s.size
            · have d1 : (a : Int) + 1 < (s.size : Int) := by omega
              obtain ⟨d, hd⟩ : ∃ d, d = s[a + 1] := ⟨_, rfl⟩
              have hb : lastN s (a + 1) = d.toNat := by unfold lastN; rw [dif_pos k7, hd]
              rw [hb] at L
              have HV2 := Lib.hid (show elemL (s.data.toList.drop a) = some (⟨5, [(d, d)]⟩, s.data.toList.drop (a + 2)) by
                rw [HV.out, drop_cons s (a + 1) k7, hd]; rfl)
              have HK := Lib.hid k7
              have HN := Lib.hid (show ∀ v, TwoAt ((wc.setCell ⟨E, 1, none⟩ v).alloc (Obj.cells #[.int .u8 d.toNat, .int .u8 d.toNat] 54)) wc.heap.size 54 (.int .u8 d.toNat) (.int .u8 d.toNat) from fun v => by
                have := TwoAt.new (wc.setCell ⟨E, 1, none⟩ v) 54 (.int .u8 d.toNat) (.int .u8 d.toNat)
                rw [HSZ.out] at this
                exact this)
              clear hd hb k7
              go_wp2_with fail
              go_fit (L.out _)
              rintro e w1 ⟨rfl, rfl⟩
              go_wp2_with fail
              go_fit (L.out _)
              rintro e w1 ⟨rfl, rfl⟩
              go_wp2_with fail
              go_meet
              exact ⟨5, some ⟨wc.heap.size, 0, none⟩, 1, 1, a + 2, true, by go_num, rfl, HE1.out _ _, HB1.out _ _, fun _ => ⟨⟨5, [(d, d)]⟩, rfl, by omega, rfl, one_reads (HN.out _) HBX.out.1.size, by omega, by have := HK.out; omega, HV2.out⟩, fun h => (nomatch h)⟩
            · have d1 : ¬ (a : Int) + 1 < (s.size : Int) := by omega
              have HV2 := Lib.hid (show elemL (s.data.toList.drop a) = none by
                rw [HV.out, List.drop_eq_nil_of_le (by rw [lenB]; omega)]; rfl)
              clear k7
              go_wp2_with fail
              go_fit (L.out _)
              rintro e w1 ⟨rfl, rfl⟩
              go_wp2_with fail
              go_fit (L.out _)
              rintro e w1 ⟨rfl, rfl⟩
              go_wp2_with fail
              go_meet
              exact ⟨5, some ⟨wc.heap.size, 0, none⟩, 1, 1, a + 2, false, by go_num, by first | rfl | (rw [decide_eq_false (by omega)]), HE1.out _ _, HB1.out _ _, fun h => (nomatch h), fun _ => HV2.out⟩
          · have n92 : ((c.toNat : Int) == 92) = false := by rw [beq_eq_false_iff_ne]; intro e; exact k6 (UInt8.toNat_inj.1 (by show c.toNat = 92; omega))
            have HV := Lib.hid (show elemL (s.data.toList.drop a) = some (⟨5, [(c, c)]⟩, s.data.toList.drop (a + 1)) by
              rw [HD.out]
              unfold elemL
              dsimp only
              rw [if_neg k1, if_neg k3, if_neg k4, if_neg k6])
            clear k1 k3 k4 k6
            go_wp2_with fail
            go_meet
            exact ⟨5, some ⟨I, 0, none⟩, 1, 1, a + 1, true, by go_num, rfl, HE.out, HBX.out.1, fun _ => ⟨⟨5, [(c, c)]⟩, rfl, by omega, rfl, one_reads HI.out HBX.out.2.2.2, by omega, by have := HL.out; omega, HV.out⟩, fun h => (nomatch h)⟩
        case rest =>
          obtain ⟨k, iv, len, ic, n, ok, rfl, rfl, hE2, hbx2, hyes, hno⟩ := hcut
          have e0 := hE2.cell0
          have e1 := hE2.cell1
          have HB9 := Lib.hid (And.intro hbx2 (And.intro hyes hno))
          cases ok
          · have HV := Lib.hid (show elemsL s.data.toList = none from HR.out.bad HL.out.1 (hno rfl))
            clear hyes hno hE2 hbx2 ef0 ef1
            go_wp2_with fail
            go_ret2
            rw [HV.out]
            exact ⟨B.out.trans (HB9.out.1.mono B.out.size), rfl⟩
          · obtain ⟨x, rfl, hk5, rfl, hri, han, hns, hel⟩ := hyes rfl
            have HX := Lib.hid (And.intro hk5 (And.intro hri (And.intro han (And.intro hns hel))))
            obtain ⟨i0, hi0, hz0, hz1, hzb⟩ := info_parts info53
            have HOA := Lib.hid ((own_keep HR.out.2.2.1 hbx2).alloc (Obj.cells #[.int .i64 (x.kind : Nat), .slice iv x.items.length ic] 53))
            have hacc : acc.length ≤ 4096 := by have := HR.out.2.1; have := HL.out; omega
            have hbase : w.heap.size ≤ wc.heap.size + 1 := by have := B.out.size; have := hbx2.size; omega
            clear hyes hno hE2 hbx2 hk5 hri han hns hel ef0 ef1
            go_wp2_with (at_builtin; refine wpList_append_own_at _ rfl _ _ 37 rfl w.heap.size 53 i0 (.agg #[.int .i64 0, .slice none 0 0]) 2 32 Try.underlying37 hi0 hz0 hz1 hzb rfl (by decide) _ _ _ rfl HOA.out ⟨wc.heap.size, 0, none⟩ 1 1 [.int .i64 (x.kind : Nat), .slice iv x.items.length ic] rfl rfl two_cells ?c2 ?c3 ?c4 ?c5 ?_)
            case c2 => exact ⟨rfl, rfl⟩
            case c3 => unfold maxLen; omega
            case c4 => omega
            intro v6 w6 ho6 hg6 _ hat
            have ST := Lib.hid (HR.out.step HB9.out.1 HX.out.1 HX.out.2.1 HX.out.2.2.1 HX.out.2.2.2.1 HX.out.2.2.2.2 rfl ho6 hg6 (by simpa using hat))
            clear ho6 hg6 hat
            go_wp2_with fail
            go_roundw
            case rel => exact ⟨n, acc ++ [x], _, rfl, ST.out⟩
            case measure => have := HX.out.2.2.1; have := HX.out.2.2.2.1; simp [RowKit.intOf]; omega
    · obtain rfl : a = s.size := by have := hrel.1; omega
      have HV := Lib.hid (show elemsL s.data.toList = some acc from hrel.done)
      obtain ⟨av, ac, hve, g1, g2, g3⟩ := own_readsE hrel.2.2.1 rfl hrel.2.2.2.1
      injection hve with e1 _ e3
      subst e1 e3
      have G := Lib.hid (And.intro g1 (And.intro g2 (And.intro g3 (show acc.length ≤ 4096 by have := hrel.2.1; omega))))
      clear hrel hbig g1 g2 g3 hlt
      go_wp2_with fail
      go_ret2
      rw [HV.out]
      exact ⟨B.out, sa, sc, rfl, G.out.1, G.out.2.1, G.out.2.2.2, G.out.2.2.1⟩
end Go.Proofs.Ytaalfnfikjmomaa
