/- Blanks and a comment at the end change nothing, and tokens stand at their indices. -/
import Derived.Test.YtoliiiijbdoliaaDoorTie
import Derived.Test.YtoliiiijbdoliaaDoorCards
import Derived.Test.YtoliiiijbdoliaaDoorLexTab
import Derived.Test.YtoliiiijbdoliaaDoorLexV
import Derived.Test.YtoliiiijbdoliaaDoorLexY
import Derived.ProofKit
import Derived.OpenShut
import Derived.LaidMore
import Derived.Stop.Joined
import Derived.SevenTiedAt
import Derived.SizedLaws
namespace Go.Proofs.YtoliiiijbdoliaaDoor.lexerEnds
open Go.ChangeShapes Go.WideShapes Go.ChangeAt Go.RowKit
open Go.ChangeMaps (open_string shut_string)
set_option linter.unusedVariables false

theorem own : ownKnob Tryd.prog.godebug = none := by kernel_rfl
theorem laidOut : laidOutB Tryd.prog = true := by kernel_rfl

set_option maxHeartbeats 8000000 in
set_option maxRecDepth 100000 in
theorem walk (s : ByteArray) (n0 : Int) (ha : s.size ≤ 140737488355327) (hn : (Lit.int .u8 n0).wf = true) (w : World) (hT : TabL w) :
    Calls Tryd.prog 6 #[.string s, .int .u8 n0] w fun e w' => e = .returned (.bool true) ∧ Below w.heap.size w w' := by
  have HT := Lib.hid hT
  have hnb : 0 ≤ n0 ∧ n0 ≤ 255 := by simpa [Lit.wf, IntKind.signed, IntKind.min, IntKind.max, IntKind.bits] using hn
  obtain ⟨n, rfl⟩ : ∃ n : Nat, n0 = (n : Int) := ⟨n0.toNat, by omega⟩
  have hn2 : n ≤ 255 := by omega
  clear hT ha hn
  rcases tokens_all s with ⟨p, er, hq, -, TL⟩ | ⟨T, hs, hT1, TL⟩
  · obtain ⟨q1, q2⟩ := hq
    have TL := Lib.hid TL
    go_enter Tryd.func6, Tryd.ntmps6
    go_wp2_with fail
    go_fit (TL.out _ HT.out)
    rintro e w1 ⟨rfl, hb⟩
    have B1 := Lib.hid hb
    clear hb
    go_wp2_with fail
    go_fit (awake_any _ (HT.out.below B1.out))
    rintro e w2 ⟨rfl, hb⟩
    have B2 := Lib.hid (B1.out.trans (hb.mono B1.out.size))
    clear hb
    go_wp2_with fail
    go_ret
    exact ⟨rfl, B2.out⟩
  · have TL := Lib.hid TL
    by_cases hlong : (65236 : Int) < (s.size : Int)
    · clear hT1 hs
      go_enter Tryd.func6, Tryd.ntmps6
      go_wp2_with fail
      go_fit (TL.out _ HT.out)
      rintro e w1 ⟨⟨a1, n1, rfl, hr⟩, hb⟩
      have B1 := Lib.hid hb
      clear hb hr
      go_wp2_with fail
      go_fit (awake_any _ (HT.out.below B1.out))
      rintro e w2 ⟨rfl, hb⟩
      have B2 := Lib.hid (B1.out.trans (hb.mono B1.out.size))
      clear hb
      go_wp2_with fail
      go_ret
      exact ⟨rfl, B2.out⟩
    · have hls : s.data.toList.length = s.size := lenB s
      have hTl : T.length ≤ 65536 := by have := (lexF_size hT1).1; omega
      have SM := Lib.hid (fun a b ca cb w ha hb => sameT_any true T T rfl (AgreeK.rfl _ _) a b ca cb (by omega) w ha hb)
      have hTI : (T.length : Int) ≤ 65536 := by omega
      have HAT := Lib.hid (fun j hj => at_facts hT1 j hj)
      have hend := lexF_ends (s := List.replicate n 32 ++ 35 :: [32, 124, 124, 32, 48, 48, 55]) (stop_tail _ _) (fun b => ign_tail b n _ (by decide)) hT1
      have HE := Lib.hid hend
      have HLS := Lib.hid hls
      have hsI : (s.size : Int) ≤ 65236 := by omega
      clear hT1 hs hend hls
      go_enter Tryd.func6, Tryd.ntmps6
      go_wp2_with fail
      go_fit (TL.out _ HT.out)
      rintro e w1 ⟨⟨a1, n1, rfl, hr⟩, hb⟩
      have B1 := Lib.hid hb
      have R1 := Lib.hid hr
      clear hb hr
      go_wp2_with fail
      go_loop [8, 9] (fun s8 s9 => ∃ (j : Nat) (o : ByteArray), j ≤ n ∧ s9 = .int .i64 (j : Int) ∧ s8 = .string o ∧ Hid (o.data.toList = s.data.toList ++ List.replicate j 32) ∧ o.size ≤ 65236 + j) (fun _ s9 => n - (RowKit.intOf s9).toNat)
      case atStart => exact ⟨0, s, Nat.zero_le _, rfl, rfl, Lib.hid (by simp), by omega⟩
      case round =>
        obtain ⟨j, o, hj, rfl, rfl, HO, ho⟩ := hrel
        by_cases hlt : j < n
        · have s1 := fun w => run_string_add_sum (P := Tryd.prog) w o ⟨#[32]⟩ (by show o.size + 1 ≤ _; omega)
          have HO2 := Lib.hid (show (o ++ ⟨#[32]⟩).data.toList = s.data.toList ++ List.replicate (j + 1) 32 from by
            rw [List.replicate_succ', ← List.append_assoc, ← HO.out]
            simp [ByteArray.data_append])
          have ho2 : (o ++ (⟨#[32]⟩ : ByteArray)).size ≤ 65236 + (j + 1) := by
            rw [← lenB, HO2.out, List.length_append, List.length_replicate, HLS.out]
            omega
          have HO3 := Lib.hid ho2
          have hltI : (j : Int) < (n : Int) := by omega
          clear ho2
          go_wp2_with fail
          exact ⟨⟨j + 1, _, by omega, by go_num, rfl, HO2, HO3.out⟩, by simp [RowKit.intOf]; omega⟩
        · obtain rfl : j = n := by omega
          have s1 := fun w => run_string_add_sum (P := Tryd.prog) w o ⟨#[35, 32, 124, 124, 32, 48, 48, 55]⟩ (by show o.size + 8 ≤ _; omega)
          obtain ⟨z, hz⟩ : ∃ z : ByteArray, z = o ++ ⟨#[35, 32, 124, 124, 32, 48, 48, 55]⟩ := ⟨_, rfl⟩
          have hzd : z.data.toList = s.data.toList ++ (List.replicate j 32 ++ 35 :: [32, 124, 124, 32, 48, 48, 55]) := by
            rw [hz, ← List.append_assoc, ← HO.out]
            simp [ByteArray.data_append]
          have hzs : z.size ≤ 65536 := by
            rw [← lenB, hzd, List.length_append, List.length_append, List.length_replicate, HLS.out]
            simp
            omega
          have hl := HE.out
          rw [← hzd] at hl
          have TZ := Lib.hid (fun w hT => tokens_ok z hzs hl w hT)
          rw [← hz] at s1
          clear hl hzs hzd hz hlt HE
          go_wp2_with fail
          go_fit (TZ.out _ (HT.out.below B1.out))
          rintro e w2 ⟨⟨a2, n2, rfl, hr2⟩, hb⟩
          have B2 := Lib.hid (B1.out.trans (hb.mono B1.out.size))
          have R2 := Lib.hid (R1.out.below hb)
          have M2 := Lib.hid hr2
          clear hb hr2
          go_wp2_with fail
          go_fit (SM.out a1 a2 n1 n2 _ R2.out M2.out)
          rintro e w3 ⟨rfl, hb⟩
          have B3 := Lib.hid (B2.out.trans (hb.mono B2.out.size))
          have R3 := Lib.hid (R2.out.below hb)
          clear hb M2 TZ SM TL R1 R2 s1
          go_wp2_with fail
          go_loopw [13] (fun s13 wr => ∃ i : Nat, i ≤ T.length ∧ s13 = .int .i64 (i : Int) ∧ Hid (Below w3.heap.size w3 wr)) (fun s13 _ => T.length - (RowKit.intOf s13).toNat)
          case atStart => exact ⟨0, Nat.zero_le _, rfl, Lib.hid (Below.refl _ _)⟩
          case round =>
            obtain ⟨i, hi, rfl, HB⟩ := hrel
            by_cases hit : i < T.length
            · obtain ⟨b1, off1, rfl, h2, c0, c1, c2⟩ := R3.out i (by rw [List.length_map]; exact hit)
              have p0 := (HB.out.cell (p := ⟨b1, _, none⟩) h2).trans c0
              have p1 := (HB.out.cell (p := ⟨b1, _, none⟩) h2).trans c1
              have p2 := (HB.out.cell (p := ⟨b1, _, none⟩) h2).trans c2
              rw [List.getElem_map] at p0 p1 p2
              obtain ⟨f1, f2, f3⟩ := HAT.out i hit
              obtain ⟨kd, hkd⟩ : ∃ kd, kd = T[i].kind := ⟨_, rfl⟩
              obtain ⟨tx, htx⟩ : ∃ tx : ByteArray, tx = ⟨(T[i].text).toArray⟩ := ⟨_, rfl⟩
              obtain ⟨ps, hps⟩ : ∃ ps : Nat, ps = T[i].at_ := ⟨_, rfl⟩
              rw [show (T[i].tm).kind = kd from hkd.symm] at p0
              rw [show (⟨(T[i].tm).text.toArray⟩ : ByteArray) = tx from htx.symm] at p1
              rw [show (T[i].tm).pos = (ps : Int) from by rw [hps]; rfl] at p2
              have htl : tx.size = T[i].text.length := by rw [htx]; show (T[i].text).toArray.size = _; simp
              have htd : tx.data.toList = T[i].text := by rw [htx]
              rw [← hkd, ← hps, ← htl] at f3
              rw [← hps] at f1
              rw [HLS.out] at f1 f3
              rw [← htd] at f3
              have hiI : (0 : Int) ≤ (i : Int) ∧ (i : Int) < (T.length : Int) := by omega
              have g1 : ¬ (ps : Int) < 0 := by omega
              have g2 : ¬ (s.size : Int) ≤ (ps : Int) := by omega
              by_cases hi0 : 0 < i
              · have hi0I : (0 : Int) < (i : Int) := by omega
                obtain ⟨b2, o2, e2, h22, d0, d1, d2⟩ := R3.out (i - 1) (by rw [List.length_map]; omega)
                obtain ⟨rfl, rfl⟩ : b1 = b2 ∧ off1 = o2 := by cases e2; exact ⟨rfl, rfl⟩
                have y2 := (HB.out.cell (p := ⟨b1, _, none⟩) h22).trans d2
                rw [List.getElem_map] at y2
                have hlt3 := f2 (i - 1) (by omega) (by omega)
                obtain ⟨pp, hpp⟩ : ∃ pp : Nat, pp = T[i - 1].at_ := ⟨_, rfl⟩
                rw [show (T[i - 1].tm).pos = (pp : Int) from by rw [hpp]; rfl] at y2
                rw [← hpp, ← hps] at hlt3
                have g3 : ¬ (ps : Int) ≤ (pp : Int) := by omega
                have hji : (0 : Int) ≤ (i : Int) - 1 ∧ (i : Int) - 1 < (T.length : Int) := by omega
                have hj1 : (1 : Int) ≤ (i : Int) := by omega
                have hj2 : (i : Int) < (T.length : Int) + 1 := by omega
                have hj3 : (0 : Int) ≤ (i : Int) - 1 := by omega
                have hj4 : (i : Int) - 1 < (T.length : Int) := by omega
                have hjn : ((i : Int) - 1).toNat = i - 1 := by omega
                have hwr : IntKind.i64.wrap ((i : Int) - 1) = (i : Int) - 1 := by rw [IntKind.wrap_i64]; omega
                clear d0 d1 d2 e2 hpp hlt3 c0 c1 c2 f2 hkd htx hps htl htd
                go_wp2_with fail
                go_quiet (fail)
                have HBq := Lib.hid (below_drewN HB.out nq)
                by_cases k3 : kd = 3
                · subst k3
                  clear f3
                  go_wp2_with fail
                  exact ⟨⟨i + 1, by omega, by go_num, HBq⟩, by simp [RowKit.intOf]; omega⟩
                · have g5 : (kd == 3) = false := by rw [beq_eq_false_iff_ne]; exact k3
                  by_cases k5 : kd = 5
                  · subst k5
                    clear f3 k3
                    go_wp2_with fail
                    exact ⟨⟨i + 1, by omega, by go_num, HBq⟩, by simp [RowKit.intOf]; omega⟩
                  · have g6 : (kd == 5) = false := by rw [beq_eq_false_iff_ne]; exact k5
                    obtain ⟨f4, f5⟩ := f3 k3 k5
                    have g7 : ¬ (s.size : Int) < (ps : Int) + (tx.size : Int) := by omega
                    have sl := fun w => rd_mid s (ps : Int) ((ps : Int) + (tx.size : Int)) ps (ps + tx.size) rfl (by omega) (by omega) f4 w
                    rw [show (⟨((s.data.toList.take (ps + tx.size)).drop ps).toArray⟩ : ByteArray) = tx from by
                      rw [List.drop_take, show ps + tx.size - ps = tx.size by omega, f5]] at sl
                    have hte : (!(tx.toList == tx.toList)) = false := by rw [show (tx.toList == tx.toList) = true from beq_self_eq_true _]; rfl
                    have hz1 : (0 : Int) ≤ (ps : Int) ∧ (ps : Int) ≤ 65536 := by omega
                    have hz2 : (0 : Int) ≤ (tx.size : Int) ∧ (tx.size : Int) ≤ 65536 := by omega
                    have wr1 : IntKind.i64.wrap ((ps : Int) + (tx.size : Int)) = (ps : Int) + (tx.size : Int) := by rw [IntKind.wrap_i64]; omega
                    clear f3 f4 f5 k3 k5
                    go_wp2_with fail
                    go_quiet (fail)
                    have HBr := Lib.hid (fun n => below_drewN HB.out n)
                    go_wp2_with fail
                    exact ⟨⟨i + 1, by omega, by go_num, Lib.hid (HBr.out _)⟩, by simp [RowKit.intOf]; omega⟩
              · have hi0I : decide ((0 : Int) < (i : Int)) = false := by simp; omega
                clear c0 c1 c2 f2 hkd htx hps htl htd
                go_wp2_with fail
                have hS0 : wr.drew.cell? ⟨b1, off1 + i * 3 + 2, none⟩ = some (.int .i64 (ps : Int)) ∧ Below w3.heap.size w3 wr.drew := ⟨p2, HB.out.drew⟩
                refine wp_region_held_drew (S := fun w8 => w8.cell? ⟨b1, off1 + i * 3 + 2, none⟩ = some (.int .i64 (ps : Int)) ∧ Below w3.heap.size w3 w8) (by kernel_rfl) hS0 (fun _ => ?_)
                refine wpAnyH_take (i := 0) (oi := { dst := some 58, op := Op.move (Operand.tmp 5), type := 22, pos := "law.go:87", after := #[], guard := none }) (v := .slice (some ⟨b1, off1, none⟩) T.length n1) rfl (by kernel_rfl) (by kernel_rfl) (by kernel_rfl) (fun _ _ _ h => h) (Or.inl ⟨by rfl, ?hy1⟩) hS0 ?rs1
                case hy1 =>
                  intro w8 hSw
                  obtain ⟨sD, -⟩ := id hSw
                  go_simp
                (try simp only [Act.put, List.setIfInBounds_toArray, List.set_cons_zero, List.set_cons_succ])
                refine wpAnyH_take (i := 1) (oi := { dst := some 59, op := Op.move (Operand.tmp 13), type := 3, pos := "law.go:87", after := #[], guard := none }) (v := .int .i64 (i : Int)) rfl (by kernel_rfl) (by kernel_rfl) (by kernel_rfl) (fun _ _ _ h => h) (Or.inl ⟨by rfl, ?hy2⟩) hS0 ?rs2
                case hy2 =>
                  intro w8 hSw
                  obtain ⟨sD, -⟩ := id hSw
                  go_simp
                (try simp only [Act.put, List.setIfInBounds_toArray, List.set_cons_zero, List.set_cons_succ])
                refine wpAnyH_take (i := 2) (oi := { dst := some 60, op := Op.indexAddr 22 (Operand.tmp 58) (Operand.tmp 59), type := 0, pos := "law.go:87", after := #[{ on := 0, ground := Ground.data }, { on := 1, ground := Ground.data }], guard := none }) (v := .pointer (some ⟨b1, off1 + i * 3, none⟩)) rfl (by kernel_rfl) (by kernel_rfl) (by kernel_rfl) (fun _ _ _ h => h) (Or.inl ⟨by rfl, ?hy3⟩) hS0 ?rs3
                case hy3 =>
                  intro w8 hSw
                  obtain ⟨sD, -⟩ := id hSw
                  go_simp
                (try simp only [Act.put, List.setIfInBounds_toArray, List.set_cons_zero, List.set_cons_succ])
                refine wpAnyH_take (i := 3) (oi := { dst := some 61, op := Op.fieldAddr 33 (Operand.tmp 60) 2, type := 0, pos := "law.go:87", after := #[{ on := 2, ground := Ground.data }], guard := none }) (v := .pointer (some ⟨b1, off1 + i * 3 + 2, none⟩)) rfl (by kernel_rfl) (by kernel_rfl) (by kernel_rfl) (fun _ _ _ h => h) (Or.inl ⟨by rfl, ?hy4⟩) hS0 ?rs4
                case hy4 =>
                  intro w8 hSw
                  obtain ⟨sD, -⟩ := id hSw
                  go_simp
                (try simp only [Act.put, List.setIfInBounds_toArray, List.set_cons_zero, List.set_cons_succ])
                refine wpAnyH_take (i := 4) (oi := { dst := some 62, op := Op.load 3 (Operand.tmp 61), type := 3, pos := "law.go:87", after := #[{ on := 3, ground := Ground.data }], guard := none }) (v := .int .i64 (ps : Int)) rfl (by kernel_rfl) (by kernel_rfl) (by kernel_rfl) (fun _ _ _ h => h) (Or.inl ⟨by rfl, ?hy5⟩) hS0 ?rs5
                case hy5 =>
                  intro w8 hSw
                  obtain ⟨sD, -⟩ := id hSw
                  go_simp
                (try simp only [Act.put, List.setIfInBounds_toArray, List.set_cons_zero, List.set_cons_succ])
                refine wpAnyH_take (i := 5) (oi := { dst := some 63, op := Op.binOp BinOp.lss 3 (Operand.tmp 62) (Operand.const (Value.int IntKind.i64 0)) 3, type := 4, pos := "law.go:87", after := #[{ on := 4, ground := Ground.data }], guard := none }) (v := .bool false) rfl (by kernel_rfl) (by kernel_rfl) (by kernel_rfl) (fun _ _ _ h => h) (Or.inl ⟨by rfl, ?hy6⟩) hS0 ?rs6
                case hy6 =>
                  intro w8 hSw
                  obtain ⟨sD, -⟩ := id hSw
                  go_simp
                (try simp only [Act.put, List.setIfInBounds_toArray, List.set_cons_zero, List.set_cons_succ])
                refine wpAnyH_take (i := 6) (oi := { dst := some 64, op := Op.move (Operand.tmp 63), type := 4, pos := "law.go:87", after := #[{ on := 5, ground := Ground.data }], guard := none }) (v := .bool false) rfl (by kernel_rfl) (by kernel_rfl) (by kernel_rfl) (fun _ _ _ h => h) (Or.inl ⟨by rfl, ?hy7⟩) hS0 ?rs7
                case hy7 =>
                  intro w8 hSw
                  obtain ⟨sD, -⟩ := id hSw
                  go_simp
                (try simp only [Act.put, List.setIfInBounds_toArray, List.set_cons_zero, List.set_cons_succ])
                refine wpAnyH_take (i := 7) (oi := { dst := some 65, op := Op.move (Operand.tmp 5), type := 22, pos := "law.go:87", after := #[{ on := 6, ground := Ground.guard }], guard := some (6, false) }) (v := .slice (some ⟨b1, off1, none⟩) T.length n1) rfl (by kernel_rfl) (by kernel_rfl) (by kernel_rfl) (fun _ _ _ h => h) (Or.inl ⟨by rfl, ?hy8⟩) hS0 ?rs8
                case hy8 =>
                  intro w8 hSw
                  obtain ⟨sD, -⟩ := id hSw
                  go_simp
                (try simp only [Act.put, List.setIfInBounds_toArray, List.set_cons_zero, List.set_cons_succ])
                refine wpAnyH_take (i := 8) (oi := { dst := some 66, op := Op.move (Operand.tmp 13), type := 3, pos := "law.go:87", after := #[{ on := 6, ground := Ground.guard }], guard := some (6, false) }) (v := .int .i64 (i : Int)) rfl (by kernel_rfl) (by kernel_rfl) (by kernel_rfl) (fun _ _ _ h => h) (Or.inl ⟨by rfl, ?hy9⟩) hS0 ?rs9
                case hy9 =>
                  intro w8 hSw
                  obtain ⟨sD, -⟩ := id hSw
                  go_simp
                (try simp only [Act.put, List.setIfInBounds_toArray, List.set_cons_zero, List.set_cons_succ])
                refine wpAnyH_take (i := 9) (oi := { dst := some 67, op := Op.indexAddr 22 (Operand.tmp 65) (Operand.tmp 66), type := 0, pos := "law.go:87", after := #[{ on := 7, ground := Ground.data }, { on := 8, ground := Ground.data }, { on := 6, ground := Ground.guard }], guard := some (6, false) }) (v := .pointer (some ⟨b1, off1 + i * 3, none⟩)) rfl (by kernel_rfl) (by kernel_rfl) (by kernel_rfl) (fun _ _ _ h => h) (Or.inl ⟨by rfl, ?hy10⟩) hS0 ?rs10
                case hy10 =>
                  intro w8 hSw
                  obtain ⟨sD, -⟩ := id hSw
                  go_simp
                (try simp only [Act.put, List.setIfInBounds_toArray, List.set_cons_zero, List.set_cons_succ])
                refine wpAnyH_take (i := 10) (oi := { dst := some 68, op := Op.fieldAddr 33 (Operand.tmp 67) 2, type := 0, pos := "law.go:87", after := #[{ on := 9, ground := Ground.data }, { on := 6, ground := Ground.guard }], guard := some (6, false) }) (v := .pointer (some ⟨b1, off1 + i * 3 + 2, none⟩)) rfl (by kernel_rfl) (by kernel_rfl) (by kernel_rfl) (fun _ _ _ h => h) (Or.inl ⟨by rfl, ?hy11⟩) hS0 ?rs11
                case hy11 =>
                  intro w8 hSw
                  obtain ⟨sD, -⟩ := id hSw
                  go_simp
                (try simp only [Act.put, List.setIfInBounds_toArray, List.set_cons_zero, List.set_cons_succ])
                refine wpAnyH_take (i := 11) (oi := { dst := some 69, op := Op.load 3 (Operand.tmp 68), type := 3, pos := "law.go:87", after := #[{ on := 10, ground := Ground.data }, { on := 6, ground := Ground.guard }], guard := some (6, false) }) (v := .int .i64 (ps : Int)) rfl (by kernel_rfl) (by kernel_rfl) (by kernel_rfl) (fun _ _ _ h => h) (Or.inl ⟨by rfl, ?hy12⟩) hS0 ?rs12
                case hy12 =>
                  intro w8 hSw
                  obtain ⟨sD, -⟩ := id hSw
                  go_simp
                (try simp only [Act.put, List.setIfInBounds_toArray, List.set_cons_zero, List.set_cons_succ])
                refine wpAnyH_take (i := 12) (oi := { dst := some 70, op := Op.move (Operand.tmp 0), type := 9, pos := "law.go:87", after := #[{ on := 6, ground := Ground.guard }], guard := some (6, false) }) (v := .string s) rfl (by kernel_rfl) (by kernel_rfl) (by kernel_rfl) (fun _ _ _ h => h) (Or.inl ⟨by rfl, ?hy13⟩) hS0 ?rs13
                case hy13 =>
                  intro w8 hSw
                  obtain ⟨sD, -⟩ := id hSw
                  go_simp
                (try simp only [Act.put, List.setIfInBounds_toArray, List.set_cons_zero, List.set_cons_succ])
                refine wpAnyH_take (i := 13) (oi := { dst := some 71, op := Op.call { callee := Callee.builtin Builtin.len, args := #[Operand.tmp 70], argTypes := #[9] }, type := 3, pos := "law.go:87", after := #[{ on := 12, ground := Ground.data }, { on := 6, ground := Ground.guard }], guard := some (6, false) }) (v := .int .i64 (s.size : Int)) rfl (by kernel_rfl) (by kernel_rfl) (by kernel_rfl) (fun _ _ _ h => h) (Or.inl ⟨by rfl, ?hy14⟩) hS0 ?rs14
                case hy14 =>
                  intro w8 hSw
                  obtain ⟨sD, -⟩ := id hSw
                  go_simp
                (try simp only [Act.put, List.setIfInBounds_toArray, List.set_cons_zero, List.set_cons_succ])
                refine wpAnyH_take (i := 14) (oi := { dst := some 72, op := Op.binOp BinOp.geq 3 (Operand.tmp 69) (Operand.tmp 71) 3, type := 4, pos := "law.go:87", after := #[{ on := 11, ground := Ground.data }, { on := 13, ground := Ground.data }, { on := 6, ground := Ground.guard }], guard := some (6, false) }) (v := .bool false) rfl (by kernel_rfl) (by kernel_rfl) (by kernel_rfl) (fun _ _ _ h => h) (Or.inl ⟨by rfl, ?hy15⟩) hS0 ?rs15
                case hy15 =>
                  intro w8 hSw
                  obtain ⟨sD, -⟩ := id hSw
                  go_simp
                (try simp only [Act.put, List.setIfInBounds_toArray, List.set_cons_zero, List.set_cons_succ])
                refine wpAnyH_take (i := 15) (oi := { dst := some 73, op := Op.pick (Operand.tmp 64) (Operand.const (Value.bool true)) (Operand.tmp 72), type := 4, pos := "law.go:87", after := #[{ on := 6, ground := Ground.data }, { on := 14, ground := Ground.data }], guard := none }) (v := .bool false) rfl (by kernel_rfl) (by kernel_rfl) (by kernel_rfl) (fun _ _ _ h => h) (Or.inl ⟨by rfl, ?hy16⟩) hS0 ?rs16
                case hy16 =>
                  intro w8 hSw
                  obtain ⟨sD, -⟩ := id hSw
                  go_simp
                (try simp only [Act.put, List.setIfInBounds_toArray, List.set_cons_zero, List.set_cons_succ])
                refine wpAnyH_take (i := 16) (oi := { dst := some 74, op := Op.move (Operand.tmp 73), type := 4, pos := "law.go:87", after := #[{ on := 15, ground := Ground.data }, { on := 6, ground := Ground.chain }], guard := none }) (v := .bool false) rfl (by kernel_rfl) (by kernel_rfl) (by kernel_rfl) (fun _ _ _ h => h) (Or.inl ⟨by rfl, ?hy17⟩) hS0 ?rs17
                case hy17 =>
                  intro w8 hSw
                  obtain ⟨sD, -⟩ := id hSw
                  go_simp
                (try simp only [Act.put, List.setIfInBounds_toArray, List.set_cons_zero, List.set_cons_succ])
                refine wpAnyH_take (i := 17) (oi := { dst := some 75, op := Op.move (Operand.tmp 13), type := 3, pos := "law.go:87", after := #[{ on := 16, ground := Ground.guard }], guard := some (16, false) }) (v := .int .i64 (i : Int)) rfl (by kernel_rfl) (by kernel_rfl) (by kernel_rfl) (fun _ _ _ h => h) (Or.inl ⟨by rfl, ?hy18⟩) hS0 ?rs18
                case hy18 =>
                  intro w8 hSw
                  obtain ⟨sD, -⟩ := id hSw
                  go_simp
                (try simp only [Act.put, List.setIfInBounds_toArray, List.set_cons_zero, List.set_cons_succ])
                refine wpAnyH_take (i := 18) (oi := { dst := some 76, op := Op.binOp BinOp.gtr 3 (Operand.tmp 75) (Operand.const (Value.int IntKind.i64 0)) 3, type := 4, pos := "law.go:87", after := #[{ on := 17, ground := Ground.data }, { on := 16, ground := Ground.guard }], guard := some (16, false) }) (v := .bool false) rfl (by kernel_rfl) (by kernel_rfl) (by kernel_rfl) (fun _ _ _ h => h) (Or.inl ⟨by rfl, ?hy19⟩) hS0 ?rs19
                case hy19 =>
                  intro w8 hSw
                  obtain ⟨sD, -⟩ := id hSw
                  go_simp
                (try simp only [Act.put, List.setIfInBounds_toArray, List.set_cons_zero, List.set_cons_succ])
                refine wpAnyH_take (i := 19) (oi := { dst := some 77, op := Op.move (Operand.tmp 76), type := 4, pos := "law.go:87", after := #[{ on := 18, ground := Ground.data }, { on := 16, ground := Ground.chain }, { on := 16, ground := Ground.guard }], guard := some (16, false) }) (v := .bool false) rfl (by kernel_rfl) (by kernel_rfl) (by kernel_rfl) (fun _ _ _ h => h) (Or.inl ⟨by rfl, ?hy20⟩) hS0 ?rs20
                case hy20 =>
                  intro w8 hSw
                  obtain ⟨sD, -⟩ := id hSw
                  go_simp
                (try simp only [Act.put, List.setIfInBounds_toArray, List.set_cons_zero, List.set_cons_succ])
                refine wpAnyH_take (i := 20) (oi := { dst := some 78, op := Op.move (Operand.tmp 5), type := 22, pos := "law.go:87", after := #[{ on := 19, ground := Ground.guard }], guard := some (19, true) }) (v := undef) rfl (by kernel_rfl) (by kernel_rfl) (by kernel_rfl) (fun _ _ _ h => h) (Or.inr ⟨by rfl, rfl⟩) hS0 ?_
                (try simp only [Act.put, List.setIfInBounds_toArray, List.set_cons_zero, List.set_cons_succ])
                refine wpAnyH_take (i := 21) (oi := { dst := some 79, op := Op.move (Operand.tmp 13), type := 3, pos := "law.go:87", after := #[{ on := 19, ground := Ground.guard }], guard := some (19, true) }) (v := undef) rfl (by kernel_rfl) (by kernel_rfl) (by kernel_rfl) (fun _ _ _ h => h) (Or.inr ⟨by rfl, rfl⟩) hS0 ?_
                (try simp only [Act.put, List.setIfInBounds_toArray, List.set_cons_zero, List.set_cons_succ])
                refine wpAnyH_take (i := 22) (oi := { dst := some 80, op := Op.indexAddr 22 (Operand.tmp 78) (Operand.tmp 79), type := 0, pos := "law.go:87", after := #[{ on := 20, ground := Ground.data }, { on := 21, ground := Ground.data }, { on := 19, ground := Ground.guard }], guard := some (19, true) }) (v := undef) rfl (by kernel_rfl) (by kernel_rfl) (by kernel_rfl) (fun _ _ _ h => h) (Or.inr ⟨by rfl, rfl⟩) hS0 ?_
                (try simp only [Act.put, List.setIfInBounds_toArray, List.set_cons_zero, List.set_cons_succ])
                refine wpAnyH_take (i := 23) (oi := { dst := some 81, op := Op.fieldAddr 33 (Operand.tmp 80) 2, type := 0, pos := "law.go:87", after := #[{ on := 22, ground := Ground.data }, { on := 19, ground := Ground.guard }], guard := some (19, true) }) (v := undef) rfl (by kernel_rfl) (by kernel_rfl) (by kernel_rfl) (fun _ _ _ h => h) (Or.inr ⟨by rfl, rfl⟩) hS0 ?_
                (try simp only [Act.put, List.setIfInBounds_toArray, List.set_cons_zero, List.set_cons_succ])
                refine wpAnyH_take (i := 24) (oi := { dst := some 82, op := Op.load 3 (Operand.tmp 81), type := 3, pos := "law.go:87", after := #[{ on := 23, ground := Ground.data }, { on := 19, ground := Ground.guard }], guard := some (19, true) }) (v := undef) rfl (by kernel_rfl) (by kernel_rfl) (by kernel_rfl) (fun _ _ _ h => h) (Or.inr ⟨by rfl, rfl⟩) hS0 ?_
                (try simp only [Act.put, List.setIfInBounds_toArray, List.set_cons_zero, List.set_cons_succ])
                refine wpAnyH_take (i := 25) (oi := { dst := some 83, op := Op.move (Operand.tmp 5), type := 22, pos := "law.go:87", after := #[{ on := 19, ground := Ground.guard }], guard := some (19, true) }) (v := undef) rfl (by kernel_rfl) (by kernel_rfl) (by kernel_rfl) (fun _ _ _ h => h) (Or.inr ⟨by rfl, rfl⟩) hS0 ?_
                (try simp only [Act.put, List.setIfInBounds_toArray, List.set_cons_zero, List.set_cons_succ])
                refine wpAnyH_take (i := 26) (oi := { dst := some 84, op := Op.move (Operand.tmp 13), type := 3, pos := "law.go:87", after := #[{ on := 19, ground := Ground.guard }], guard := some (19, true) }) (v := undef) rfl (by kernel_rfl) (by kernel_rfl) (by kernel_rfl) (fun _ _ _ h => h) (Or.inr ⟨by rfl, rfl⟩) hS0 ?_
                (try simp only [Act.put, List.setIfInBounds_toArray, List.set_cons_zero, List.set_cons_succ])
                refine wpAnyH_take (i := 27) (oi := { dst := some 85, op := Op.binOp BinOp.sub 3 (Operand.tmp 84) (Operand.const (Value.int IntKind.i64 1)) 3, type := 3, pos := "law.go:87", after := #[{ on := 26, ground := Ground.data }, { on := 19, ground := Ground.guard }], guard := some (19, true) }) (v := undef) rfl (by kernel_rfl) (by kernel_rfl) (by kernel_rfl) (fun _ _ _ h => h) (Or.inr ⟨by rfl, rfl⟩) hS0 ?_
                (try simp only [Act.put, List.setIfInBounds_toArray, List.set_cons_zero, List.set_cons_succ])
                refine wpAnyH_take (i := 28) (oi := { dst := some 86, op := Op.indexAddr 22 (Operand.tmp 83) (Operand.tmp 85), type := 0, pos := "law.go:87", after := #[{ on := 25, ground := Ground.data }, { on := 27, ground := Ground.data }, { on := 19, ground := Ground.guard }], guard := some (19, true) }) (v := undef) rfl (by kernel_rfl) (by kernel_rfl) (by kernel_rfl) (fun _ _ _ h => h) (Or.inr ⟨by rfl, rfl⟩) hS0 ?_
                (try simp only [Act.put, List.setIfInBounds_toArray, List.set_cons_zero, List.set_cons_succ])
                refine wpAnyH_take (i := 29) (oi := { dst := some 87, op := Op.fieldAddr 33 (Operand.tmp 86) 2, type := 0, pos := "law.go:87", after := #[{ on := 28, ground := Ground.data }, { on := 19, ground := Ground.guard }], guard := some (19, true) }) (v := undef) rfl (by kernel_rfl) (by kernel_rfl) (by kernel_rfl) (fun _ _ _ h => h) (Or.inr ⟨by rfl, rfl⟩) hS0 ?_
                (try simp only [Act.put, List.setIfInBounds_toArray, List.set_cons_zero, List.set_cons_succ])
                refine wpAnyH_take (i := 30) (oi := { dst := some 88, op := Op.load 3 (Operand.tmp 87), type := 3, pos := "law.go:87", after := #[{ on := 29, ground := Ground.data }, { on := 19, ground := Ground.guard }], guard := some (19, true) }) (v := undef) rfl (by kernel_rfl) (by kernel_rfl) (by kernel_rfl) (fun _ _ _ h => h) (Or.inr ⟨by rfl, rfl⟩) hS0 ?_
                (try simp only [Act.put, List.setIfInBounds_toArray, List.set_cons_zero, List.set_cons_succ])
                refine wpAnyH_take (i := 31) (oi := { dst := some 89, op := Op.binOp BinOp.leq 3 (Operand.tmp 82) (Operand.tmp 88) 3, type := 4, pos := "law.go:87", after := #[{ on := 24, ground := Ground.data }, { on := 30, ground := Ground.data }, { on := 19, ground := Ground.guard }], guard := some (19, true) }) (v := undef) rfl (by kernel_rfl) (by kernel_rfl) (by kernel_rfl) (fun _ _ _ h => h) (Or.inr ⟨by rfl, rfl⟩) hS0 ?_
                (try simp only [Act.put, List.setIfInBounds_toArray, List.set_cons_zero, List.set_cons_succ])
                refine wpAnyH_take (i := 32) (oi := { dst := some 90, op := Op.pick (Operand.tmp 77) (Operand.tmp 89) (Operand.const (Value.bool false)), type := 4, pos := "law.go:87", after := #[{ on := 19, ground := Ground.data }, { on := 31, ground := Ground.data }, { on := 16, ground := Ground.guard }], guard := some (16, false) }) (v := .bool false) rfl (by kernel_rfl) (by kernel_rfl) (by kernel_rfl) (fun _ _ _ h => h) (Or.inl ⟨by rfl, ?hy21⟩) hS0 ?rs21
                case hy21 =>
                  intro w8 hSw
                  obtain ⟨sD, -⟩ := id hSw
                  go_simp
                (try simp only [Act.put, List.setIfInBounds_toArray, List.set_cons_zero, List.set_cons_succ])
                refine wpAnyH_take (i := 33) (oi := { dst := some 91, op := Op.pick (Operand.tmp 74) (Operand.const (Value.bool true)) (Operand.tmp 90), type := 4, pos := "law.go:87", after := #[{ on := 16, ground := Ground.data }, { on := 32, ground := Ground.data }], guard := none }) (v := .bool false) rfl (by kernel_rfl) (by kernel_rfl) (by kernel_rfl) (fun _ _ _ h => h) (Or.inl ⟨by rfl, ?hy22⟩) hS0 ?rs22
                case hy22 =>
                  intro w8 hSw
                  obtain ⟨sD, -⟩ := id hSw
                  go_simp
                (try simp only [Act.put, List.setIfInBounds_toArray, List.set_cons_zero, List.set_cons_succ])
                refine wpAnyH_done (by kernel_rfl) ?_ _
                have HBq := Lib.hid hS0.2
                clear hS0
                by_cases k3 : kd = 3
                · subst k3
                  clear f3
                  go_wp2_with fail
                  exact ⟨⟨i + 1, by omega, by go_num, HBq⟩, by simp [RowKit.intOf]; omega⟩
                · have g5 : (kd == 3) = false := by rw [beq_eq_false_iff_ne]; exact k3
                  by_cases k5 : kd = 5
                  · subst k5
                    clear f3 k3
                    go_wp2_with fail
                    exact ⟨⟨i + 1, by omega, by go_num, HBq⟩, by simp [RowKit.intOf]; omega⟩
                  · have g6 : (kd == 5) = false := by rw [beq_eq_false_iff_ne]; exact k5
                    obtain ⟨f4, f5⟩ := f3 k3 k5
                    have g7 : ¬ (s.size : Int) < (ps : Int) + (tx.size : Int) := by omega
                    have sl := fun w => rd_mid s (ps : Int) ((ps : Int) + (tx.size : Int)) ps (ps + tx.size) rfl (by omega) (by omega) f4 w
                    rw [show (⟨((s.data.toList.take (ps + tx.size)).drop ps).toArray⟩ : ByteArray) = tx from by
                      rw [List.drop_take, show ps + tx.size - ps = tx.size by omega, f5]] at sl
                    have hte : (!(tx.toList == tx.toList)) = false := by rw [show (tx.toList == tx.toList) = true from beq_self_eq_true _]; rfl
                    have hz1 : (0 : Int) ≤ (ps : Int) ∧ (ps : Int) ≤ 65536 := by omega
                    have hz2 : (0 : Int) ≤ (tx.size : Int) ∧ (tx.size : Int) ≤ 65536 := by omega
                    have wr1 : IntKind.i64.wrap ((ps : Int) + (tx.size : Int)) = (ps : Int) + (tx.size : Int) := by rw [IntKind.wrap_i64]; omega
                    clear f3 f4 f5 k3 k5
                    go_wp2_with fail
                    go_quiet (fail)
                    have HBr := Lib.hid (fun n => below_drewN HB.out n)
                    go_wp2_with fail
                    exact ⟨⟨i + 1, by omega, by go_num, Lib.hid (HBr.out _)⟩, by simp [RowKit.intOf]; omega⟩
            · obtain rfl : i = T.length := by omega
              have hiI : ¬ (T.length : Int) < (T.length : Int) := by omega
              have B4 := Lib.hid (B3.out.trans (HB.out.mono B3.out.size))
              clear hit
              go_wp2_with fail
              go_fit (awake_any _ (HT.out.below B4.out))
              rintro e w4 ⟨rfl, hb⟩
              have B5 := Lib.hid (B4.out.trans (hb.mono B4.out.size))
              clear hb
              go_wp2_with fail
              go_ret
              exact ⟨rfl, B5.out⟩

set_option maxRecDepth 100000 in
theorem lifted (os : Os) (started : os.Started) (H : Type) (enc : TypeId × Value → H) :
    ReturnsInHanded {} Tryd.checked os 6 .any (fun w args => (Rows.lexerEndsSpec.pre enc Tryd.prog Tryd.f6 Rows.lexerEndsRow.domain false w args ∧ laidMetH Tryd.prog laid9 w) ∧ sizedMet enc Tryd.prog Tryd.f6 (OpenSpec.ofChange Rows.lexerEndsSpec) false w args) (Rows.lexerEndsSpec.post enc Tryd.prog Tryd.f6 false true false false) := by
  refine returnsInHanded_of_change_andShaped (C := Tryd.checked) (X := fun w _ => laidMetH Tryd.prog laid9 w) (fun _ _ _ hh h => h.of_heap hh) own started (by kernel_rfl) Tryd.func6
    (ChangeSpec.witness_shaped (enc := enc) (C := Tryd.checked) (os := os) (X := fun w _ => laidMetH Tryd.prog laid9 w) false (World.laidAll Tryd.prog os laid9) #[.string ⟨#[]⟩, .int .u8 0] 8 (World.laidAll_os _ _ _) (World.shaped_of_ZipB (by kernel_rfl) (by kernel_rfl)) (by kernel_rfl) (by kernel_rfl) (by kernel_rfl) (lay9_met os _)) ?_
  intro W base args ds gs before hval0 hW hcnd hsz hL hsh _
  have hval : ∀ (j : Nat) t v, Tryd.f6.params[j]? = some t → args[j]? = some v → Value.okWide Tryd.prog W .any base t v := hval0
  have hW' := hW
  obtain ⟨p, q, hA0, hV, rfl, hfz, hnd⟩ := hW
  have hA : DataW.TrodAll enc Tryd.prog W 0 (fun _ => true) true Tryd.f6.params.toList args.toList ds p := hA0
  rw [Tryd.params6] at hA hval hsz
  obtain ⟨v0, vs0, d0, ds0, p0, q0, hargs, rfl, rfl, h0, r0⟩ := trodAll_cons hA
  obtain ⟨v1, vs1, d1, ds1, p1, q1, rfl, rfl, rfl, h1, r1⟩ := trodAll_cons r0
  obtain ⟨rfl, rfl, rfl⟩ := trodAll_nil r1
  obtain rfl : args = #[v0, v1] := by cases args; simp_all
  obtain ⟨rfl, rfl⟩ := trodVars_none hV
  obtain ⟨a0, rfl, rfl, rfl, w0⟩ := open_string Tryd.underlying9 (hval 0 9 v0 rfl rfl) h0
  obtain ⟨a1, rfl, rfl, rfl, w1⟩ := open_int Tryd.underlying5 (hval 1 5 v1 rfl rfl) h1
  have z0 : a0.size ≤ 140737488355327 := by
    have h := sized_string hsz (j := 0) (t := 9) rfl rfl
    rw [Array.length_toList] at h
    exact Nat.le_trans h (by decide)
  clear hA0 hval0
  refine (walk a0 a1 z0 w1 W (tab9_of hL hsh) ).mono fun e W' ⟨he, bel⟩ => ?_
  subst he
  exact ⟨_, rfl, _, _, _, [], _, [], hW', trodAll_mk1 (shut_bool Tryd.underlying4 _), (trodAll_cons_mk (shut_string Tryd.underlying9 w0) (trodAll_cons_mk (shut_int Tryd.underlying5 w1) trodAll_mk0)), rfl, bel.frame _, fun h => by cases h⟩

theorem over : Rows.lexerEndsRow.holds Tryd.pinned (OpenSpec.ofChange Rows.lexerEndsSpec) :=
  OpenClaim.holds_of_wide 6 Tryd.f6 rfl rfl rfl rfl rfl rfl rfl ⟨rfl, rfl, rfl, rfl, rfl⟩ rfl rfl rfl rfl rfl (by kernel_rfl) Tryd.func6 (by kernel_rfl)
    (of_decide_eq_true (by kernel_rfl)) (by unfold Func.isWrapper; first | (rw [if_pos (by decide +kernel)]; kernel_rfl) | (rw [if_neg (by decide +kernel)]; exact ⟨rfl, rfl⟩))
    (fun os started H enc _ => lifted os started H enc)

/-- THE STATEMENT. -/
theorem proved : Rows.LexerEndsCardSaid :=
  Claim7.holds_tied_plain_at .later [] [.data, .data, .data, .data, .sentinel, .sentinel, .data, .pinned] true Rows.lexerEndsCard.stood.harness true
    over (fun _ h => by cases h) (by kernel_rfl) (fun _ h => by cases h) lexerEnds_row_tie rfl ⟨rfl, rfl⟩ (by kernel_rfl) rfl
    (fun f fn hf hfn => by
      obtain rfl : f = 6 := Option.some.inj ((show Tryd.prog.funcNamed "pipeline/pipelinelaw09.LexerEnds" = some 6 by kernel_rfl).symm.trans hf) |>.symm
      obtain rfl : fn = Tryd.f6 := (Option.some.inj (Tryd.func6.symm.trans hfn)).symm
      exact ⟨by kernel_rfl, fun j t ht => by
        rw [Tryd.params6] at ht
        have hm : t ∈ [9, 5] := by simpa using Array.mem_of_getElem? ht
        have hall : ([9, 5].all fun u => !Tryd.prog.wantsStandIn u) = true := by kernel_rfl
        exact (show Tryd.prog.wantsStandIn t = false by simpa using List.all_eq_true.1 hall t hm)⟩)
    (by kernel_rfl)
#print axioms proved
end Go.Proofs.YtoliiiijbdoliaaDoor.lexerEnds
