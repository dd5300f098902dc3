/- Two lines have the tokens of both with one line end between. -/
import Derived.Test.YtoliiiijbdoliaaDoorTie
import Derived.Test.YtoliiiijbdoliaaDoorCards
import Derived.Test.YtoliiiijbdoliaaDoorLexTab
import Derived.Test.YtoliiiijbdoliaaDoorLexV
import Derived.Test.YtoliiiijbdoliaaDoorLexZ
import Derived.ProofKit
import Derived.OpenShut
import Derived.LaidMore
import Derived.Stop.Joined
import Derived.SevenTiedAt
import Derived.SizedLaws
namespace Go.Proofs.YtoliiiijbdoliaaDoor.lexerLines
open Go.ChangeShapes Go.WideShapes Go.ChangeAt Go.RowKit
open Go.ChangeMaps (open_string shut_string)
set_option linter.unusedVariables false

theorem own : ownKnob Tryd.prog.godebug = none := by kernel_rfl
theorem laidOut : laidOutB Tryd.prog = true := by kernel_rfl

set_option maxHeartbeats 8000000 in
set_option maxRecDepth 100000 in
theorem walk (a b : ByteArray) (ha : a.size ≤ 140737488355327) (hb : b.size ≤ 140737488355327) (w : World) (hT : TabL w) :
    Calls Tryd.prog 7 #[.string a, .string b] w fun e w' => e = .returned (.bool true) ∧ Below w.heap.size w w' := by
  have HT := Lib.hid hT
  clear hT
  rcases tokens_all a with ⟨p1, e1, hq1, -, TA⟩ | ⟨T, hsa, hTa, TA⟩
  · have TA := Lib.hid TA
    obtain ⟨q1, q2⟩ := hq1
    rcases tokens_all b with ⟨p2, e2, hq2, -, TB⟩ | ⟨U, hsb, hTb, TB⟩
    · have TB := Lib.hid TB
      clear ha hb hq2
      go_enter Tryd.func7, Tryd.ntmps7
      go_wp2_with fail
      go_fit (TA.out _ HT.out)
      rintro e w1 ⟨rfl, hb⟩
      have B1 := Lib.hid hb
      clear hb
      go_wp2_with fail
      go_fit (TB.out _ (HT.out.below B1.out))
      rintro e w2 ⟨rfl, hb⟩
      have B2 := Lib.hid (B1.out.trans (hb.mono B1.out.size))
      clear hb
      go_wp2_with fail
      go_fit (awake_any _ (HT.out.below B2.out))
      rintro e w3 ⟨rfl, hb⟩
      have B3 := Lib.hid (B2.out.trans (hb.mono B2.out.size))
      clear hb
      go_wp2_with fail
      go_ret
      exact ⟨rfl, B3.out⟩
    · have TB := Lib.hid TB
      clear ha hb hsb hTb
      go_enter Tryd.func7, Tryd.ntmps7
      go_wp2_with fail
      go_fit (TA.out _ HT.out)
      rintro e w1 ⟨rfl, hb⟩
      have B1 := Lib.hid hb
      clear hb
      go_wp2_with fail
      go_fit (TB.out _ (HT.out.below B1.out))
      rintro e w2 ⟨⟨a2, n2, rfl, hr⟩, hb⟩
      have B2 := Lib.hid (B1.out.trans (hb.mono B1.out.size))
      clear hr
      clear hb
      go_wp2_with fail
      go_fit (awake_any _ (HT.out.below B2.out))
      rintro e w3 ⟨rfl, hb⟩
      have B3 := Lib.hid (B2.out.trans (hb.mono B2.out.size))
      clear hb
      go_wp2_with fail
      go_ret
      exact ⟨rfl, B3.out⟩
  · have TA := Lib.hid TA
    rcases tokens_all b with ⟨p2, e2, hq2, -, TB⟩ | ⟨U, hsb, hTb, TB⟩
    · have TB := Lib.hid TB
      obtain ⟨q1, q2⟩ := hq2
      clear ha hb hsa hTa
      go_enter Tryd.func7, Tryd.ntmps7
      go_wp2_with fail
      go_fit (TA.out _ HT.out)
      rintro e w1 ⟨⟨a1, n1, rfl, hr⟩, hb⟩
      have B1 := Lib.hid hb
      clear hr
      clear hb
      go_wp2_with fail
      go_fit (TB.out _ (HT.out.below B1.out))
      rintro e w2 ⟨rfl, hb⟩
      have B2 := Lib.hid (B1.out.trans (hb.mono B1.out.size))
      clear hb
      go_wp2_with fail
      go_fit (awake_any _ (HT.out.below B2.out))
      rintro e w3 ⟨rfl, hb⟩
      have B3 := Lib.hid (B2.out.trans (hb.mono B2.out.size))
      clear hb
      go_wp2_with fail
      go_ret
      exact ⟨rfl, B3.out⟩
    · have TB := Lib.hid TB
      have hwrA : IntKind.i64.wrap ((a.size : Int) + (b.size : Int)) = (a.size : Int) + (b.size : Int) := by rw [IntKind.wrap_i64]; omega
      have hwrB : IntKind.i64.wrap ((a.size : Int) + (b.size : Int) + 1) = (a.size : Int) + (b.size : Int) + 1 := by rw [IntKind.wrap_i64]; omega
      have hla : a.data.toList.length = a.size := lenB a
      have hlb : b.data.toList.length = b.size := lenB b
      have hTl := (lexF_size hTa).1
      have hUl := (lexF_size hTb).1
      have hsaI : (a.size : Int) ≤ 65536 := by omega
      have hsbI : (b.size : Int) ≤ 65536 := by omega
      have hTI : (T.length : Int) ≤ 65536 := by omega
      have hUI : (U.length : Int) ≤ 65536 := by omega
      clear ha hb
      by_cases hbig : (65536 : Int) < (a.size : Int) + (b.size : Int) + 1
      · clear hsa hsb hTa hTb hla hlb hTl hUl
        go_enter Tryd.func7, Tryd.ntmps7
        go_wp2_with fail
        go_fit (TA.out _ HT.out)
        rintro e w1 ⟨⟨a1, n1, rfl, hr⟩, hb⟩
        have B1 := Lib.hid hb
        clear hr
        clear hb
        go_wp2_with fail
        go_fit (TB.out _ (HT.out.below B1.out))
        rintro e w2 ⟨⟨a2, n2, rfl, hr⟩, hb⟩
        have B2 := Lib.hid (B1.out.trans (hb.mono B1.out.size))
        clear hr
        clear hb
        go_wp2_with fail
        go_fit (awake_any _ (HT.out.below B2.out))
        rintro e w3 ⟨rfl, hb⟩
        have B3 := Lib.hid (B2.out.trans (hb.mono B2.out.size))
        clear hb
        go_wp2_with fail
        go_ret
        exact ⟨rfl, B3.out⟩
      · have hb2 : decide ((65536 : Int) < (a.size : Int) + (b.size : Int) + 1) = false := by simp; omega
        have hbn : a.size + b.size + 1 ≤ 65536 := by omega
        clear hbig
        by_cases hT0 : T.length = 0
        · have g0 : ((T.length : Int) == 0) = true := by rw [hT0]; rfl
          clear hsa hsb hTa hTb hla hlb hTl hUl hT0 hbn
          go_enter Tryd.func7, Tryd.ntmps7
          go_wp2_with fail
          go_fit (TA.out _ HT.out)
          rintro e w1 ⟨⟨a1, n1, rfl, hr⟩, hb⟩
          have B1 := Lib.hid hb
          clear hr
          clear hb
          go_wp2_with fail
          go_fit (TB.out _ (HT.out.below B1.out))
          rintro e w2 ⟨⟨a2, n2, rfl, hr⟩, hb⟩
          have B2 := Lib.hid (B1.out.trans (hb.mono B1.out.size))
          clear hr
          clear hb
          go_wp2_with fail
          go_fit (awake_any _ (HT.out.below B2.out))
          rintro e w3 ⟨rfl, hb⟩
          have B3 := Lib.hid (B2.out.trans (hb.mono B2.out.size))
          clear hb
          go_wp2_with fail
          go_ret
          exact ⟨rfl, B3.out⟩
        · have g0 : ((T.length : Int) == 0) = false := by rw [beq_eq_false_iff_ne]; omega
          by_cases hU0 : U.length = 0
          · have g1 : ((U.length : Int) == 0) = true := by rw [hU0]; rfl
            clear hsa hsb hTa hTb hla hlb hTl hUl hT0 hU0 hbn
            go_enter Tryd.func7, Tryd.ntmps7
            go_wp2_with fail
            go_fit (TA.out _ HT.out)
            rintro e w1 ⟨⟨a1, n1, rfl, hr⟩, hb⟩
            have B1 := Lib.hid hb
            clear hr
            clear hb
            go_wp2_with fail
            go_fit (TB.out _ (HT.out.below B1.out))
            rintro e w2 ⟨⟨a2, n2, rfl, hr⟩, hb⟩
            have B2 := Lib.hid (B1.out.trans (hb.mono B1.out.size))
            clear hr
            clear hb
            go_wp2_with fail
            go_fit (awake_any _ (HT.out.below B2.out))
            rintro e w3 ⟨rfl, hb⟩
            have B3 := Lib.hid (B2.out.trans (hb.mono B2.out.size))
            clear hb
            go_wp2_with fail
            go_ret
            exact ⟨rfl, B3.out⟩
          · have g1 : ((U.length : Int) == 0) = false := by rw [beq_eq_false_iff_ne]; omega
            have hT9 : 0 < T.length := by omega
            have hU9 : 0 < U.length := by omega
            have HLN := Lib.hid (@lines_tok a b T U hTa hTb hT9 hU9)
            have HZ := Lib.hid (show T.length ≤ 65536 ∧ U.length ≤ 65536 ∧ 0 < T.length ∧ 0 < U.length ∧ a.size + b.size + 1 ≤ 65536 from by omega)
            have HU1 := Lib.hid (show (0 : Int) < (U.length : Int) by omega)
            clear hT9 hU9
            clear hsa hsb hTa hTb hla hlb hTl hUl hT0 hU0 hbn
            go_enter Tryd.func7, Tryd.ntmps7
            go_wp2_with fail
            go_fit (TA.out _ HT.out)
            rintro e w1 ⟨⟨a1, n1, rfl, hr⟩, hb⟩
            have B1 := Lib.hid hb
            have R1 := Lib.hid hr
            clear hr
            clear hb
            go_wp2_with fail
            go_fit (TB.out _ (HT.out.below B1.out))
            rintro e w2 ⟨⟨a2, n2, rfl, hr⟩, hb⟩
            have B2 := Lib.hid (B1.out.trans (hb.mono B1.out.size))
            have R2 := Lib.hid (R1.out.below hb)
            have M2 := Lib.hid hr
            clear hr
            clear hb
            go_wp2_with fail
            go_loop [11, 12] (fun s11 s12 => ∃ i o : Nat, i ≤ T.length ∧ o ≤ i ∧ s12 = .int .i64 (i : Int) ∧ s11 = .int .i64 (o : Int) ∧ Hid (o = 0 → ∀ k (h : k < T.length), k < i → ¬ BadT T[k])) (fun _ s12 => T.length - (RowKit.intOf s12).toNat)
            case atStart => exact ⟨0, 0, Nat.zero_le _, Nat.le_refl _, rfl, rfl, Lib.hid (fun _ k _ h => absurd h (Nat.not_lt_zero _))⟩
            case round =>
              obtain ⟨i, o, hi, ho, rfl, rfl, HG⟩ := hrel
              have hoI : (0 : Int) ≤ (o : Int) ∧ (o : Int) ≤ 65536 := by omega
              by_cases hit : i < T.length
              · obtain ⟨b1, off1, rfl, h2, p0, p1, -⟩ := R2.out i (by rw [List.length_map]; exact hit)
                rw [List.getElem_map] at p0 p1
                obtain ⟨kd, hkd⟩ : ∃ kd, kd = T[i].kind := ⟨_, rfl⟩
                obtain ⟨tx, htx⟩ : ∃ tx : ByteArray, tx = ⟨(T[i].text).toArray⟩ := ⟨_, rfl⟩
                rw [show (T[i].tm).kind = kd from hkd.symm] at p0
                rw [show (⟨(T[i].tm).text.toArray⟩ : ByteArray) = tx from htx.symm] at p1
                have htd : tx.toList = T[i].text := by rw [Lib.toList_data, htx]
                have hiI : (0 : Int) ≤ (i : Int) ∧ (i : Int) < (T.length : Int) := by omega
                have UP := Lib.hid (show o + 1 = 0 → ∀ k (h : k < T.length), k < i + 1 → ¬ BadT T[k] from fun h => absurd h (Nat.succ_ne_zero _))
                have STAY := Lib.hid (fun (hn : ¬ BadT T[i]) => show o = 0 → ∀ k (h : k < T.length), k < i + 1 → ¬ BadT T[k] from fun h0 k hk hki => by
                  rcases Nat.lt_succ_iff_lt_or_eq.1 hki with h | rfl
                  · exact HG.out h0 k hk h
                  · exact hn)
                by_cases k5 : kd = 5
                · have f1 : (kd == 5) = true := by rw [beq_iff_eq]; exact k5
                  clear hkd htx htd STAY k5
                  go_wp2_with fail
                  exact ⟨⟨i + 1, o + 1, by omega, by omega, by go_num, by go_num, UP⟩, by simp [RowKit.intOf]; omega⟩
                · have f1 : (kd == 5) = false := by rw [beq_eq_false_iff_ne]; exact k5
                  by_cases k4 : kd = 4
                  · have f2 : (kd == 4) = true := by rw [beq_iff_eq]; exact k4
                    cases q1 : (tx.toList == [40])
                    · cases q2 : (tx.toList == [91])
                      · cases q3 : (tx.toList == [41])
                        · cases q4 : (tx.toList == [93])
                          · have S2 := Lib.hid (STAY.out (by
                              rw [htd] at q1 q2 q3 q4
                              rw [beq_eq_false_iff_ne] at q1 q2 q3 q4
                              rintro (h | ⟨_, h | h | h | h⟩)
                              · exact k5 (hkd.trans h)
                              · exact q1 h
                              · exact q2 h
                              · exact q3 h
                              · exact q4 h))
                            clear hkd htx htd STAY k5 k4 UP
                            go_wp2_with fail
                            exact ⟨⟨i + 1, o, by omega, by omega, by go_num, rfl, S2⟩, by simp [RowKit.intOf]; omega⟩
                          · clear hkd htx htd STAY k5 k4
                            go_wp2_with fail
                            exact ⟨⟨i + 1, o + 1, by omega, by omega, by go_num, by go_num, UP⟩, by simp [RowKit.intOf]; omega⟩
                        · clear hkd htx htd STAY k5 k4
                          go_wp2_with fail
                          exact ⟨⟨i + 1, o + 1, by omega, by omega, by go_num, by go_num, UP⟩, by simp [RowKit.intOf]; omega⟩
                      · clear hkd htx htd STAY k5 k4
                        go_wp2_with fail
                        exact ⟨⟨i + 1, o + 1, by omega, by omega, by go_num, by go_num, UP⟩, by simp [RowKit.intOf]; omega⟩
                    · clear hkd htx htd STAY k5 k4
                      go_wp2_with fail
                      exact ⟨⟨i + 1, o + 1, by omega, by omega, by go_num, by go_num, UP⟩, by simp [RowKit.intOf]; omega⟩
                  · have f2 : (kd == 4) = false := by rw [beq_eq_false_iff_ne]; exact k4
                    have S2 := Lib.hid (STAY.out (by
                      rintro (h | ⟨h, _⟩)
                      · exact k5 (hkd.trans h)
                      · exact k4 (hkd.trans h)))
                    clear hkd htx htd STAY k5 k4 UP
                    go_wp2_with fail
                    exact ⟨⟨i + 1, o, by omega, by omega, by go_num, rfl, S2⟩, by simp [RowKit.intOf]; omega⟩
              · obtain rfl : i = T.length := by omega
                have hiI : ¬ (T.length : Int) < (T.length : Int) := by omega
                clear hit
                by_cases ho0 : (0 : Int) < (o : Int)
                · clear HLN HG
                  go_wp2_with fail
                  go_fit (awake_any _ (HT.out.below B2.out))
                  rintro e w3 ⟨rfl, hb⟩
                  have B3 := Lib.hid (B2.out.trans (hb.mono B2.out.size))
                  clear hb
                  go_wp2_with fail
                  go_ret
                  exact ⟨rfl, B3.out⟩
                · obtain rfl : o = 0 := by omega
                  obtain ⟨b2, off2, rfl, h22, p0, p1, p2⟩ := M2.out 0 (by rw [List.length_map]; exact HZ.out.2.2.2.1)
                  rw [List.getElem_map] at p0
                  obtain ⟨kd, hkd⟩ : ∃ kd, kd = (U[0]'HZ.out.2.2.2.1).kind := ⟨_, rfl⟩
                  rw [show ((U[0]'HZ.out.2.2.2.1).tm).kind = kd from hkd.symm] at p0
                  have hU1 := HU1.out
                  have p00 : w2.cell? ⟨b2, off2, none⟩ = some (.int .i64 kd) := by simpa using p0
                  clear p0 p1 p2
                  by_cases k5 : kd = 5
                  · have f1 : (kd == 5) = true := by rw [beq_iff_eq]; exact k5
                    clear HLN HG k5 hkd
                    go_wp2_with fail
                    go_fit (awake_any _ (HT.out.below B2.out))
                    rintro e w3 ⟨rfl, hb⟩
                    have B3 := Lib.hid (B2.out.trans (hb.mono B2.out.size))
                    clear hb
                    go_wp2_with fail
                    go_ret
                    exact ⟨rfl, B3.out⟩
                  · have f1 : (kd == 5) = false := by rw [beq_eq_false_iff_ne]; exact k5
                    have hall := HG.out rfl
                    have hl := HLN.out (fun t ht h => by
                      obtain ⟨k, hk, rfl⟩ := List.getElem_of_mem ht
                      exact hall k hk hk (.inl h)) (fun t ht h => by
                      obtain ⟨k, hk, rfl⟩ := List.getElem_of_mem ht
                      exact hall k hk hk (.inr h)) (fun u hu h => by
                      rw [List.head?_eq_getElem?, List.getElem?_eq_getElem HZ.out.2.2.2.1] at hu
                      injection hu with hu
                      exact k5 (hkd.trans (by rw [hu]; exact h)))
                    obtain ⟨b1, off1, rfl, h11, -⟩ := R2.out 0 (by rw [List.length_map]; exact HZ.out.2.2.1)
                    obtain ⟨z, hz⟩ : ∃ z : ByteArray, z = a ++ ⟨#[10]⟩ ++ b := ⟨_, rfl⟩
                    have hzd : z.data.toList = a.data.toList ++ 10 :: b.data.toList := by rw [hz]; simp [ByteArray.data_append]
                    have hzs : z.size ≤ 65536 := by
                      rw [← lenB, hzd, List.length_append, List.length_cons, lenB, lenB]
                      have := HZ.out
                      omega
                    rw [← hzd] at hl
                    have TZ := Lib.hid (fun w hT => tokens_ok z hzs hl w hT)
                    have hAG := lines_agree T a.size (a.size + 1) U
                    have TZ := TZ.out
                    rw [show a.data.toList.length = a.size from lenB a] at TZ
                    obtain ⟨V, hV⟩ : ∃ V : List Tk, V = T ++ ⟨5, [], a.size⟩ :: U.map (shT (a.size + 1)) := ⟨_, rfl⟩
                    obtain ⟨M, hM⟩ : ∃ M : List Tm, M = T.map Tk.tm ++ [⟨5, [], 0⟩] ++ U.map Tk.tm := ⟨_, rfl⟩
                    obtain ⟨N, hN⟩ : ∃ N, N = T.length + 1 + U.length := ⟨_, rfl⟩
                    have hVL : V.length = N := by rw [hV, hN]; simp; omega
                    have hML : M.length = N := by rw [hM, hN]; simp; omega
                    rw [← hV] at TZ hAG
                    rw [← hM] at hAG
                    rw [hVL] at TZ
                    have TZ := Lib.hid TZ
                    have SV := fun a b ca cb hl w ha hb => rSame_yes false (V.map Tk.tm) M hAG a b ca cb hl w ha hb
                    rw [List.length_map, hVL, hML] at SV
                    have hNb : N ≤ 9223372036854775000 := by have := HZ.out; omega
                    have SV := Lib.hid (fun a b ca cb w ha hb => SV a b ca cb hNb w ha hb)
                    have hMf : M.flatMap tkC = (T.map Tk.tm).flatMap tkC ++ .int .i64 5 :: .string ⟨#[]⟩ :: .int .i64 0 :: (U.map Tk.tm).flatMap tkC := by rw [hM, List.flatMap_append, List.flatMap_append, List.append_assoc]; rfl
                    have ROW := Lib.hid (fun (wx : World) (v : Value) (h : wx.ownsRow w2.heap.size 33 3 v (T.length + 1 + U.length) ((T.map Tk.tm).flatMap tkC ++ .int .i64 5 :: .string ⟨#[]⟩ :: .int .i64 0 :: (U.map Tk.tm).flatMap tkC)) => show ∃ a c, v = .slice a N c ∧ ReadsK wx a M from by
                      have h2 : RowK wx w2.heap.size v M := by
                        unfold RowK
                        rw [hMf, hML, hN]
                        exact h
                      obtain ⟨x, c, e, hr⟩ := h2.reads
                      exact ⟨x, c, by rw [e, hML], hr⟩)
                    have hNI : (N : Int) ≤ 131073 := by have := HZ.out; omega
                    clear hVL hML hV hM hMf hAG hN
                    have s1 := fun w => run_string_add_sum (P := Tryd.prog) w a ⟨#[10]⟩ (by show a.size + 1 ≤ _; omega)
                    have s2 := fun w => run_string_add_sum (P := Tryd.prog) w (a ++ ⟨#[10]⟩) b (by rw [ByteArray.size_append]; show a.size + 1 + b.size ≤ _; omega)
                    rw [← hz] at s2
                    have cv := conv1_e
                    obtain ⟨i0, hi0, hz0, hz1, hzb⟩ := info_parts infoTok
                    have hTn := HZ.out.1
                    have hUn := HZ.out.2.1
                    have O0 := RowK.nil w2 w2.heap.size
                    unfold RowK at O0
                    have e1 : ((T.map Tk.tm).flatMap tkC).length = T.length * 3 := by rw [flat3_len, List.length_map]
                    have e2 : ((U.map Tk.tm).flatMap tkC).length = U.length * 3 := by rw [flat3_len, List.length_map]
                    have RF := reads_flat R2.out
                    have O1 := tkC_one (T.map Tk.tm)
                    have O2 := tkC_one (U.map Tk.tm)
                    clear hzs hzd hz HLN HG hall k5 hkd
                    go_wp2_with (at_builtin; refine wpList_append_own _ rfl _ _ 22 rfl w2.heap.size 33 i0 (.agg #[.int .i64 0, .string ⟨#[]⟩, .int .i64 0]) 3 32 Tryd.underlying22 hi0 hz0 hz1 hzb rfl (by decide) _ _ _ rfl O0 ⟨b1, off1, none⟩ T.length n1 ((T.map Tk.tm).flatMap tkC) rfl e1 RF O1 (by unfold maxLen; simp; omega) (by simp; omega) (Nat.le_refl _) ?_)
                    intro v3 w3 hown3 hg3 _
                    have B3 := Lib.hid ((Below.refl w2.heap.size w2).grown hg3 (Nat.le_refl _) (fun k hk => by cases hk))
                    have O3 := Lib.hid hown3
                    have hz3 : w2.heap.size ≤ w3.heap.size := B3.out.size
                    clear hown3 hg3 RF O0
                    go_wp2_with (at_builtin; refine wpList_append_own _ rfl _ _ 22 rfl w2.heap.size 33 i0 (.agg #[.int .i64 0, .string ⟨#[]⟩, .int .i64 0]) 3 32 Tryd.underlying22 hi0 hz0 hz1 hzb rfl (by decide) _ _ _ rfl (O3.out.alloc _) ⟨w3.heap.size, 0, none⟩ 1 1 [.int .i64 5, .string ⟨#[]⟩, .int .i64 0] rfl rfl ?c1 ?c2 ?c3 ?c4 ?c5 ?_)
                    case c1 => exact World.news_of_block (heap_alloc_new _ _)
                    case c2 => exact (by intro u hu; simp at hu; rcases hu with rfl | rfl | rfl <;> rfl)
                    case c3 => unfold maxLen; omega
                    case c4 => omega
                    case c5 => simp; omega
                    intro v4 w4 hown4 hg4 _
                    have B4 := Lib.hid ((B3.out.alloc hz3 _).grown hg4 (by simp; omega) (fun k hk => (O3.out.lt k hk).1))
                    have O4 := Lib.hid hown4
                    have hz4 : w2.heap.size ≤ w4.heap.size := B4.out.size
                    have RF2 := reads_flat (M2.out.below B4.out)
                    clear hown4 hg4 O3
                    go_wp2_with (at_builtin; refine wpList_append_own _ rfl _ _ 22 rfl w2.heap.size 33 i0 (.agg #[.int .i64 0, .string ⟨#[]⟩, .int .i64 0]) 3 32 Tryd.underlying22 hi0 hz0 hz1 hzb rfl (by decide) _ _ _ rfl O4.out ⟨b2, off2, none⟩ U.length n2 ((U.map Tk.tm).flatMap tkC) rfl e2 ?c1 ?c2 ?c3 ?c4 ?c5 ?_)
                    case c1 => exact RF2
                    case c2 => exact O2
                    case c3 => unfold maxLen; omega
                    case c4 => omega
                    case c5 => exact hz4
                    intro v5 w5 hown5 hg5 _
                    have B5 := Lib.hid (B4.out.grown hg5 hz4 (fun k hk => (O4.out.lt k hk).1))
                    obtain ⟨a5, c5, rfl, R5⟩ := ROW.out w5 v5 hown5
                    have R5 := Lib.hid R5
                    have BW := Lib.hid (B2.out.trans (B5.out.mono B2.out.size))
                    have B6 := Lib.hid (BW.out.alloc BW.out.size (Obj.cells #[.int .u8 10] 5))
                    have R6 := Lib.hid (R5.out.below ((Below.refl w5.heap.size w5).alloc (Nat.le_refl _) (Obj.cells #[.int .u8 10] 5)))
                    clear hown5 hg5 O4 RF2 O1 O2 e1 e2 ROW
                    go_wp2_with fail
                    go_fit (TZ.out _ (HT.out.below B6.out))
                    rintro e w7 ⟨⟨a7, n7, rfl, hr7⟩, hb⟩
                    have B7 := Lib.hid (B6.out.trans (hb.mono B6.out.size))
                    have R7 := Lib.hid (R6.out.below hb)
                    have M7 := Lib.hid hr7
                    clear hb hr7
                    go_wp2_with fail
                    go_fit (SV.out a7 a5 n7 c5 _ M7.out R7.out)
                    rintro e w8 ⟨rfl, hb⟩
                    have B8 := Lib.hid (B7.out.trans (hb.mono B7.out.size))
                    clear hb
                    go_wp2_with fail
                    go_fit (awake_any _ (HT.out.below B8.out))
                    rintro e w9 ⟨rfl, hb⟩
                    have B9 := Lib.hid (B8.out.trans (hb.mono B8.out.size))
                    clear hb
                    go_wp2_with fail
                    go_ret
                    exact ⟨rfl, B9.out⟩

set_option maxRecDepth 100000 in
theorem lifted (os : Os) (started : os.Started) (H : Type) (enc : TypeId × Value → H) :
    ReturnsInHanded {} Tryd.checked os 7 .any (fun w args => (Rows.lexerLinesSpec.pre enc Tryd.prog Tryd.f7 Rows.lexerLinesRow.domain false w args ∧ laidMetH Tryd.prog laid9 w) ∧ sizedMet enc Tryd.prog Tryd.f7 (OpenSpec.ofChange Rows.lexerLinesSpec) false w args) (Rows.lexerLinesSpec.post enc Tryd.prog Tryd.f7 false true false false) := by
  refine returnsInHanded_of_change_andShaped (C := Tryd.checked) (X := fun w _ => laidMetH Tryd.prog laid9 w) (fun _ _ _ hh h => h.of_heap hh) own started (by kernel_rfl) Tryd.func7
    (ChangeSpec.witness_shaped (enc := enc) (C := Tryd.checked) (os := os) (X := fun w _ => laidMetH Tryd.prog laid9 w) false (World.laidAll Tryd.prog os laid9) #[.string ⟨#[]⟩, .string ⟨#[]⟩] 8 (World.laidAll_os _ _ _) (World.shaped_of_ZipB (by kernel_rfl) (by kernel_rfl)) (by kernel_rfl) (by kernel_rfl) (by kernel_rfl) (lay9_met os _)) ?_
  intro W base args ds gs before hval0 hW hcnd hsz hL hsh _
  have hval : ∀ (j : Nat) t v, Tryd.f7.params[j]? = some t → args[j]? = some v → Value.okWide Tryd.prog W .any base t v := hval0
  have hW' := hW
  obtain ⟨p, q, hA0, hV, rfl, hfz, hnd⟩ := hW
  have hA : DataW.TrodAll enc Tryd.prog W 0 (fun _ => true) true Tryd.f7.params.toList args.toList ds p := hA0
  rw [Tryd.params7] at hA hval hsz
  obtain ⟨v0, vs0, d0, ds0, p0, q0, hargs, rfl, rfl, h0, r0⟩ := trodAll_cons hA
  obtain ⟨v1, vs1, d1, ds1, p1, q1, rfl, rfl, rfl, h1, r1⟩ := trodAll_cons r0
  obtain ⟨rfl, rfl, rfl⟩ := trodAll_nil r1
  obtain rfl : args = #[v0, v1] := by cases args; simp_all
  obtain ⟨rfl, rfl⟩ := trodVars_none hV
  obtain ⟨a0, rfl, rfl, rfl, w0⟩ := open_string Tryd.underlying9 (hval 0 9 v0 rfl rfl) h0
  obtain ⟨a1, rfl, rfl, rfl, w1⟩ := open_string Tryd.underlying9 (hval 1 9 v1 rfl rfl) h1
  have z0 : a0.size ≤ 140737488355327 := by
    have h := sized_string hsz (j := 0) (t := 9) rfl rfl
    rw [Array.length_toList] at h
    exact Nat.le_trans h (by decide)
  have z1 : a1.size ≤ 140737488355327 := by
    have h := sized_string hsz (j := 1) (t := 9) rfl rfl
    rw [Array.length_toList] at h
    exact Nat.le_trans h (by decide)
  clear hA0 hval0
  refine (walk a0 a1 z0 z1 W (tab9_of hL hsh) ).mono fun e W' ⟨he, bel⟩ => ?_
  subst he
  exact ⟨_, rfl, _, _, _, [], _, [], hW', trodAll_mk1 (shut_bool Tryd.underlying4 _), (trodAll_cons_mk (shut_string Tryd.underlying9 w0) (trodAll_cons_mk (shut_string Tryd.underlying9 w1) trodAll_mk0)), rfl, bel.frame _, fun h => by cases h⟩

theorem over : Rows.lexerLinesRow.holds Tryd.pinned (OpenSpec.ofChange Rows.lexerLinesSpec) :=
  OpenClaim.holds_of_wide 7 Tryd.f7 rfl rfl rfl rfl rfl rfl rfl ⟨rfl, rfl, rfl, rfl, rfl⟩ rfl rfl rfl rfl rfl (by kernel_rfl) Tryd.func7 (by kernel_rfl)
    (of_decide_eq_true (by kernel_rfl)) (by unfold Func.isWrapper; first | (rw [if_pos (by decide +kernel)]; kernel_rfl) | (rw [if_neg (by decide +kernel)]; exact ⟨rfl, rfl⟩))
    (fun os started H enc _ => lifted os started H enc)

/-- THE STATEMENT. -/
theorem proved : Rows.LexerLinesCardSaid :=
  Claim7.holds_tied_plain_at .later [] [.data, .data, .data, .data, .sentinel, .sentinel, .data, .pinned] true Rows.lexerLinesCard.stood.harness true
    over (fun _ h => by cases h) (by kernel_rfl) (fun _ h => by cases h) lexerLines_row_tie rfl ⟨rfl, rfl⟩ (by kernel_rfl) rfl
    (fun f fn hf hfn => by
      obtain rfl : f = 7 := Option.some.inj ((show Tryd.prog.funcNamed "pipeline/pipelinelaw09.LexerLines" = some 7 by kernel_rfl).symm.trans hf) |>.symm
      obtain rfl : fn = Tryd.f7 := (Option.some.inj (Tryd.func7.symm.trans hfn)).symm
      exact ⟨by kernel_rfl, fun j t ht => by
        rw [Tryd.params7] at ht
        have hm : t ∈ [9, 9] := by simpa using Array.mem_of_getElem? ht
        have hall : ([9, 9].all fun u => !Tryd.prog.wantsStandIn u) = true := by kernel_rfl
        exact (show Tryd.prog.wantsStandIn t = false by simpa using List.all_eq_true.1 hall t hm)⟩)
    (by kernel_rfl)
#print axioms proved
end Go.Proofs.YtoliiiijbdoliaaDoor.lexerLines
