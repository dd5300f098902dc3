/- Contracts of functions of the program, and what they are made of (parser; Pk28). -/
import Derived.Test.YtjehhldboopocaaGreatDoorPk25
namespace Go.Proofs.YtjehhldboopocaaGreatDoor.Lx
open Go.RowKit Go.Lib
set_option linter.unusedVariables false
/-- How many tokens the reader in a box has read. -/
def atOf (w : World) (R : Nat) : Nat := match w.cell? ⟨R, 1, none⟩ with
  | some (.int _ k) => k.toNat
  | _ => 0
theorem bin_text (toks : List Tm) (j : Nat) : binAt (tsOf toks) j = (strB (if (nxt toks j).1 = 4 then (nxt toks j).2 else []), if (nxt toks j).1 = 4 then (nxt toks j).2 else []) := by
  rw [bin_nxt]
  by_cases h : (nxt toks j).1 = 4
  · rw [if_pos h, if_pos h]
  · rw [if_neg h, if_neg h]; rfl
section
variable {w0 : World} {ta : Option Addr} {tc : Nat} {toks : List Tm} {R : Nat}
theorem RS.atOf {Z : Nat → Prop} {i : Nat} {G : Value} {L : List Xp} {w : World} (h : RS w0 ta tc toks Z R i G L w) : atOf w R = i := by
  obtain ⟨na, hc⟩ := h.box
  have := hc.cell (k := 1) (u := .int .i64 i) rfl
  unfold Lx.atOf
  rw [this]
  simp
theorem pP_oper (f n i : Nat) : pP toks (f + 1) (.oper n) i = (pP toks f .un i).bind fun x a => pP toks f (.loop n 7 x) a := rfl
theorem pP_loop (f n s : Nat) (x : Xp) (i : Nat) : pP toks (f + 1) (.loop n s x) i = if (binAt (tsOf toks) i).1 < n ∨ s < fstS (binAt (tsOf toks) i).1 then .ok x i
    else (pP toks f (.oper ((binAt (tsOf toks) i).1 + 1)) (i + 1)).bind fun y a => pP toks f (.loop n (binAt (tsOf toks) i).1 (node litsP 7 (binAt (tsOf toks) i).2 [x, y])) a := rfl
/-- What holds at the head of operation's loop. -/
structure OpI (w0 : World) (ta : Option Addr) (tc : Nat) (toks : List Tm) (Z : Nat → Prop) (R i n f : Nat) (G : Value) (L : List Xp) (w : World) (r : PR Vl) (s : Nat) (x : Xp) (j f' : Nat) (G' : Value) (wr : World) : Prop where
  rs : RS w0 ta tc toks Z R j G' (L ++ [x]) wr
  fm : Fm R G G' w wr
  lt : i < j
  le : f' ≤ f
  st : s ≤ 7
  eq : pP toks f' (.loop n s x) j = r
set_option maxHeartbeats 8000000 in
set_option maxRecDepth 100000 in
theorem operation_of (hE : EnvR w0 ta toks) (f n : Nat) (hn2 : 2 ≤ n) (hn7 : n ≤ 7) (hU : PartOk w0 ta tc toks R 127 #[.pointer (some ⟨R, 0, none⟩)] f .un)
    (hO : ∀ f', f' < f → ∀ m, 2 ≤ m → m ≤ 7 → PartOk w0 ta tc toks R 89 #[.pointer (some ⟨R, 0, none⟩), .int .i64 (m : Nat)] f' (.oper m)) :
    PartOk w0 ta tc toks R 89 #[.pointer (some ⟨R, 0, none⟩), .int .i64 (n : Nat)] (f + 1) (.oper n) := by
  intro Z i G L w hZ h hne
  obtain ⟨Q, hQ⟩ : ∃ Q, Q = Done w0 ta tc toks Z R i G L w (pP toks (f + 1) (.oper n) i) := ⟨_, rfl⟩
  rw [← hQ]
  rw [pP_oper] at hQ hne
  have UU := Lib.hid (hU Z i G L w hZ h (bind_out hne))
  obtain ⟨r, hr⟩ : ∃ r, r = pP toks f .un i := ⟨_, rfl⟩
  rw [← hr] at UU hQ hne
  have HQ := Lib.hid hQ
  have HNE := Lib.hid hne
  have HE := Lib.hid hE
  have HO := Lib.hid hO
  clear hO hU h hr hQ hne hE
  go_enter Tryz.func89, Tryz.ntmps89
  go_wp2_with fail
  go_fit UU.out
  clear UU
  cases r with
  | out => exact absurd rfl HNE.out
  | err a er =>
    intro e w1 hd
    have HD := Lib.hid hd
    obtain rfl := hd.1
    clear hd
    go_wp2_with fail
    rw [HQ.out]
    exact ⟨rfl, HD.out⟩
  | ok x0 a0 =>
    rintro e w1 ⟨rfl, hlt1, G1, h1, f1⟩
    obtain ⟨r, hr⟩ : ∃ r, r = pP toks f (.loop n 7 x0) a0 := ⟨_, rfl⟩
    have HQ1 := Lib.hid (show Q = Done w0 ta tc toks Z R i G L w r by rw [hr]; exact HQ.out)
    have HN1 := Lib.hid (show r ≠ .out by rw [hr]; exact HNE.out)
    have HI := Lib.hid (show OpI w0 ta tc toks Z R i n f G L w r 7 x0 a0 f G1 w1 from ⟨h1, f1, hlt1, Nat.le_refl _, Nat.le_refl _, hr.symm⟩)
    clear HQ HNE h1 f1 hr hlt1
    go_wp2_with fail
    go_loopw [4] (fun s4 wr => ∃ (s : Nat) (x : Xp) (j f' : Nat) (G' : Value), s4 = .int .i64 (s : Int) ∧ Hid (OpI w0 ta tc toks Z R i n f G L w r s x j f' G' wr)) (fun _ wr => toks.length - atOf wr R)
    case atStart => exact ⟨7, x0, a0, f, G1, rfl, HI⟩
    case round =>
      obtain ⟨s, x, j, f', G', rfl, HJ⟩ := hrel
      clear HI
      have hst := HJ.out.st
      obtain ⟨f2, rfl⟩ : ∃ f2, f' = f2 + 1 := by
        cases f' with
        | zero => exact absurd HJ.out.eq.symm HN1.out
        | succ f2 => exact ⟨f2, rfl⟩
      have hle := HJ.out.le
      have heq := HJ.out.eq
      rw [pP_loop, bin_text] at heq
      dsimp only at heq
      have O := opr_any HJ.out.rs
      obtain ⟨t, ht⟩ : ∃ t, t = if (nxt toks j).1 = 4 then (nxt toks j).2 else [] := ⟨_, rfl⟩
      rw [← ht] at heq O
      have S := opStr_any t wr
      have hm6 : strB t ≤ 6 := by
        have := bin_le (tsOf toks) j
        rw [bin_text, ← ht] at this
        exact this
      have ht0 : strB t ≠ 0 → nxt toks j = (4, t) := by
        intro h0
        by_cases h4 : (nxt toks j).1 = 4
        · rw [ht, if_pos h4]
          exact Prod.ext h4 rfl
        · rw [ht, if_neg h4] at h0
          exact absurd rfl h0
      have htl : t.length ≤ 140737488351232 := by
        by_cases h4 : (nxt toks j).1 = 4
        · rw [ht, if_pos h4]
          by_cases hj : j < toks.length
          · rw [nxt_get hj]
            split
            · have := inS_len (by assumption : inS toks[j].kind toks[j].text = true)
              dsimp only
              omega
            · simp
          · rw [nxt_end (by omega)]
            simp
        · rw [ht, if_neg h4]
          simp
      obtain ⟨m, hm⟩ : ∃ m, m = strB t := ⟨_, rfl⟩
      rw [← hm] at heq S hm6 ht0
      have F := Lib.hid (fstStr_any m hm6 wr)
      obtain ⟨tx, htx⟩ : ∃ tx : ByteArray, tx = ⟨t.toArray⟩ := ⟨_, rfl⟩
      rw [← htx] at O S
      have HTX := Lib.hid htx
      have O := Lib.hid O
      have S := Lib.hid S
      have HT0 := Lib.hid ht0
      have HTL := Lib.hid htl
      clear ht htx hm ht0 htl
      by_cases hs1 : m < n
      · rw [if_pos (.inl hs1)] at heq
        have HEQ := Lib.hid heq
        have g1 : (m : Int) < (n : Int) := by omega
        have g2 : decide ((m : Int) < (n : Int)) = true := decide_eq_true g1
        clear heq F
        go_wp2_with fail
        go_fit O.out
        rintro e w2 ⟨rfl, rfl⟩
        go_wp2_with fail
        go_fit S.out
        rintro e w2 ⟨rfl, rfl⟩
        go_wp2_with fail
        first | go_end0 | refine bodyPost_ret (results_none rfl _ _ _) rfl ?_
        rw [HQ1.out, ← HEQ.out]
        exact ⟨rfl, HJ.out.lt, _, HJ.out.rs, HJ.out.fm⟩
      · have g1 : ¬ (m : Int) < (n : Int) := by omega
        have g1' : decide ((m : Int) < (n : Int)) = false := decide_eq_false g1
        by_cases hs2 : s < fstS m
        · rw [if_pos (.inr hs2)] at heq
          have HEQ := Lib.hid heq
          obtain ⟨q, hq⟩ : ∃ q, q = fstS m := ⟨_, rfl⟩
          rw [← hq] at F hs2
          have g2 : decide (s < q) = true := decide_eq_true hs2
          clear heq hq hs2
          go_wp2_with fail
          go_fit O.out
          rintro e w2 ⟨rfl, rfl⟩
          go_wp2_with fail
          go_fit S.out
          rintro e w2 ⟨rfl, rfl⟩
          go_wp2_with fail
          go_fit F.out
          rintro e w2 ⟨rfl, rfl⟩
          go_wp2_with fail
          first | go_end0 | refine bodyPost_ret (results_none rfl _ _ _) rfl ?_
          rw [HQ1.out, ← HEQ.out]
          exact ⟨rfl, HJ.out.lt, _, HJ.out.rs, HJ.out.fm⟩
        · rw [if_neg (by rintro (h | h) <;> omega)] at heq
          obtain ⟨q, hq⟩ : ∃ q, q = fstS m := ⟨_, rfl⟩
          rw [← hq] at F hs2
          have g2 : decide (s < q) = false := decide_eq_false hs2
          have hnx := HT0.out (by omega)
          have D := Lib.hid (read_any HE.out HJ.out.rs (nxt_lt hnx (by decide)))
          have HNC := Lib.hid (bind_out (show (pP toks f2 (.oper (m + 1)) (j + 1)).bind _ ≠ .out by rw [heq]; exact HN1.out))
          obtain ⟨r2, hr2⟩ : ∃ r2, r2 = pP toks f2 (.oper (m + 1)) (j + 1) := ⟨_, rfl⟩
          rw [← hr2] at heq
          have HEQ := Lib.hid heq
          have HR2 := Lib.hid hr2
          clear heq hq hs2 hnx hr2
          go_wp2_with fail
          go_fit O.out
          rintro e w2 ⟨rfl, rfl⟩
          go_wp2_with fail
          go_fit S.out
          rintro e w2 ⟨rfl, rfl⟩
          go_wp2_with fail
          go_fit F.out
          rintro e w2 ⟨rfl, rfl⟩
          go_wp2_with fail
          go_fit D.out
          rintro e w3 ⟨na, rfl, h3, f3⟩
          have HZ := Lib.hid (lo_Z hZ HJ.out.fm.size)
          have OO := HO.out f2 (by omega) (m + 1) (by omega) (by omega) Z (j + 1) G' (L ++ [x]) w3 (lo_Z HZ.out f3.size) h3 HNC.out
          rw [← HR2.out, show ((m + 1 : Nat) : Int) = (m : Int) + 1 by omega] at OO
          have OO := Lib.hid OO
          have F3 := Lib.hid (HJ.out.fm.trans f3)
          clear h3 f3 HNC HR2 O S F D
          go_wp2_with fail
          go_fit OO.out
          clear OO
          cases r2 with
          | out => exact absurd HEQ.out.symm HN1.out
          | err a er =>
            intro e w4 hd
            have HD := Lib.hid (done_pass (Z := Z) (i := i) (L := L) F3.out hd)
            obtain rfl := hd.1
            clear hd
            go_wp2_with fail
            rw [HQ1.out, ← HEQ.out]
            exact ⟨rfl, HD.out⟩
          | ok y a =>
            rintro e w4 ⟨rfl, hlt4, G4, h4, f4⟩
            have h4' : RS w0 ta tc toks Z R a G4 (L ++ [x, y]) w4 := by
              rw [show L ++ [x, y] = L ++ [x] ++ [y] by simp]
              exact h4
            have F4 := Lib.hid (F3.out.trans f4)
            have BB := Lib.hid (build_any (A := [x, y]) HE.out.few h4' (lo_Z hZ F4.out.size) (by have := h4'.hL; rw [List.length_append] at this; simp at this; omega) 2 rfl 7 t (by omega) HTL.out)
            rw [← HTX.out] at BB
            have hlj := HJ.out.lt
            clear h4 f4 h4'
            go_wp2_with fail
            go_fit BB.out
            rintro e w5 ⟨g, cap, rfl, h5, f5⟩
            have HI := Lib.hid (show OpI w0 ta tc toks Z R i n f G L w r m (node litsP 7 t [x, y]) a f2 _ w5 from ⟨h5, F4.out.trans f5, by omega, by omega, by omega, HEQ.out⟩)
            have hat := HI.out.rs.atOf
            have hat0 := HJ.out.rs.atOf
            have hia := HI.out.rs.hi
            clear h5 f5 BB F4 F3
            go_wp2_with fail
            exact ⟨⟨m, _, a, f2, _, rfl, HI⟩, by rw [hat, hat0]; omega⟩
end
end Go.Proofs.YtjehhldboopocaaGreatDoor.Lx
namespace Go.Proofs.YtjehhldboopocaaGreatDoor.Lx
open Go.RowKit Go.Lib
set_option linter.unusedVariables false
theorem nxt_name {toks : List Tm} {i : Nat} {k : Int} {s : List UInt8} (h : nxt toks i = (k, s)) (hk : k ≠ 0) : inS k s = true := by
  by_cases hi : i < toks.length
  · rw [nxt_get hi] at h
    split at h
    · injection h with h1 h2
      subst h1 h2
      assumption
    · injection h with h1 _
      exact absurd h1.symm hk
  · rw [nxt_end (by omega)] at h
    injection h with h1 _
    exact absurd h1.symm hk
theorem nxt_len {toks : List Tm} {i : Nat} : (nxt toks i).2.length ≤ 4096 := by
  by_cases hk : (nxt toks i).1 = 0
  · by_cases hi : i < toks.length
    · rw [nxt_get hi] at hk ⊢
      split at hk
      · rename_i hs
        rw [if_pos hs]
        exact inS_len hs
      · rename_i hs
        rw [if_neg hs]
        simp
    · rw [nxt_end (by omega)]
      simp
  · exact inS_len (nxt_name rfl hk)
section
variable {w0 : World} {ta : Option Addr} {tc : Nat} {toks : List Tm} {R : Nat}
theorem pP_chn (f i : Nat) : pP toks (f + 1) .chn i = (pP toks f .atm i).bind fun x a => pP toks f (.more x) a := rfl
theorem pP_more (f : Nat) (x : Xp) (i : Nat) : pP toks (f + 1) (.more x) i =
      if opTk (tsOf toks) i [46] = true then match (tsOf toks)[i + 1]? with
        | some (k, s) => if k = 1 ∧ nameB s = true ∧ wordB s = false then pP toks f (.more (node litsP 3 s [x])) (i + 2) else .err (i + 1) (miss (tsOf toks) (i + 1))
        | none => .err (i + 1) (miss (tsOf toks) (i + 1))
      else if opTk (tsOf toks) i [91] = true then (pP toks f .cond (i + 1)).bind fun y a => if opTk (tsOf toks) a [93] = true then pP toks f (.more (node litsP 4 [] [x, y])) (a + 1) else .err a (miss (tsOf toks) a)
      else .ok x i := rfl
/-- What holds at the head of chain's loop. -/
structure ChI (w0 : World) (ta : Option Addr) (tc : Nat) (toks : List Tm) (Z : Nat → Prop) (R i f : Nat) (G : Value) (L : List Xp) (w : World) (r : PR Vl) (x : Xp) (j f' : Nat) (G' : Value) (wr : World) : Prop where
  rs : RS w0 ta tc toks Z R j G' (L ++ [x]) wr
  fm : Fm R G G' w wr
  lt : i < j
  le : f' ≤ f
  eq : pP toks f' (.more x) j = r
set_option maxHeartbeats 8000000 in
set_option maxRecDepth 100000 in
theorem chain_of (hE : EnvR w0 ta toks) (f : Nat) (hA : PartOk w0 ta tc toks R 203 #[.pointer (some ⟨R, 0, none⟩)] f .atm)
    (hC : ∀ f', f' < f → PartOk w0 ta tc toks R 51 #[.pointer (some ⟨R, 0, none⟩)] f' .cond) :
    PartOk w0 ta tc toks R 167 #[.pointer (some ⟨R, 0, none⟩)] (f + 1) .chn := by
  intro Z i G L w hZ h hne
  obtain ⟨Q, hQ⟩ : ∃ Q, Q = Done w0 ta tc toks Z R i G L w (pP toks (f + 1) .chn i) := ⟨_, rfl⟩
  rw [← hQ]
  rw [pP_chn] at hQ hne
  have AA := Lib.hid (hA Z i G L w hZ h (bind_out hne))
  obtain ⟨r, hr⟩ : ∃ r, r = pP toks f .atm i := ⟨_, rfl⟩
  rw [← hr] at AA hQ hne
  have HQ := Lib.hid hQ
  have HNE := Lib.hid hne
  have HE := Lib.hid hE
  have HC := Lib.hid hC
  clear hA hC h hr hQ hne hE
  go_enter Tryz.func167, Tryz.ntmps167
  go_wp2_with fail
  go_fit AA.out
  clear AA
  cases r with
  | out => exact absurd rfl HNE.out
  | err a er =>
    intro e w1 hd
    have HD := Lib.hid hd
    obtain rfl := hd.1
    clear hd
    go_wp2_with fail
    rw [HQ.out]
    exact ⟨rfl, HD.out⟩
  | ok x0 a0 =>
    rintro e w1 ⟨rfl, hlt1, G1, h1, f1⟩
    obtain ⟨r, hr⟩ : ∃ r, r = pP toks f (.more x0) a0 := ⟨_, rfl⟩
    have HQ1 := Lib.hid (show Q = Done w0 ta tc toks Z R i G L w r by rw [hr]; exact HQ.out)
    have HN1 := Lib.hid (show r ≠ .out by rw [hr]; exact HNE.out)
    have HI := Lib.hid (show ChI w0 ta tc toks Z R i f G L w r x0 a0 f G1 w1 from ⟨h1, f1, hlt1, Nat.le_refl _, hr.symm⟩)
    clear HQ HNE h1 f1 hr hlt1
    go_wp2_with fail
    go_loopw [] (fun wr => ∃ (x : Xp) (j f' : Nat) (G' : Value), Hid (ChI w0 ta tc toks Z R i f G L w r x j f' G' wr)) (fun wr => toks.length - atOf wr R)
    case atStart => exact ⟨x0, a0, f, G1, HI⟩
    case round =>
      obtain ⟨x, j, f', G', HJ⟩ := hrel
      clear HI
      obtain ⟨f2, rfl⟩ : ∃ f2, f' = f2 + 1 := by
        cases f' with
        | zero => exact absurd HJ.out.eq.symm HN1.out
        | succ f2 => exact ⟨f2, rfl⟩
      have hle := HJ.out.le
      have heq := HJ.out.eq
      rw [pP_more] at heq
      have hlj := HJ.out.lt
      have hat0 := HJ.out.rs.atOf
      have HZ := Lib.hid (lo_Z hZ HJ.out.fm.size)
      by_cases hq : nxt toks j = (4, [46])
      · rw [if_pos ((op_nxt _ _ _).2 hq)] at heq
        have A1 := Lib.hid (accept_yes HE.out HJ.out.rs hq)
        have HEQ := Lib.hid heq
        clear heq hq
        go_wp2_with fail
        go_fit A1.out
        rintro e w2 ⟨rfl, h2, f2'⟩
        have F2 := Lib.hid (HJ.out.fm.trans f2')
        have HZ2 := Lib.hid (lo_Z HZ.out f2'.size)
        by_cases hm : ∃ s, nxt toks (j + 1) = (1, s) ∧ wordB s = false
        · obtain ⟨s, hx, hw⟩ := hm
          have M := Lib.hid (member_yes HE.out h2 hx hw)
          have hnb : nameB s = true := nxt_name hx (by decide)
          have q := HEQ.out
          rw [get_nxt hx (by decide)] at q
          dsimp only at q
          rw [if_pos ⟨rfl, hnb, hw⟩] at q
          have HEQ2 := Lib.hid q
          have hsl := nxt_len (toks := toks) (i := j + 1)
          rw [hx] at hsl
          dsimp only at hsl
          obtain ⟨sx, hsx⟩ : ∃ sx : ByteArray, sx = ⟨s.toArray⟩ := ⟨_, rfl⟩
          rw [← hsx] at M
          have HSX := Lib.hid hsx
          clear q hx hw hnb HEQ h2 f2' hsx A1
          go_wp2_with fail
          go_fit M.out
          rintro e w3 ⟨rfl, h3, f3⟩
          have F3 := Lib.hid (F2.out.trans f3)
          have BB := Lib.hid (build_any (A := [x]) HE.out.few h3 (lo_Z HZ2.out f3.size) (by have := h3.hL; rw [List.length_append, List.length_singleton] at this; exact this) 1 rfl 3 s (by omega) (by omega))
          rw [← HSX.out] at BB
          clear h3 f3 M F2
          go_wp2_with fail
          go_fit BB.out
          rintro e w5 ⟨g, cap, rfl, h5, f5⟩
          have HI := Lib.hid (show ChI w0 ta tc toks Z R i f G L w r (node litsP 3 s [x]) (j + 2) f2 _ w5 from ⟨h5, F3.out.trans f5, by omega, by omega, HEQ2.out⟩)
          have hat := HI.out.rs.atOf
          have hia := HI.out.rs.hi
          clear h5 f5 BB F3
          go_wp2_with fail
          exact ⟨⟨_, _, f2, _, HI⟩, by rw [hat, hat0]; omega⟩
        · have hm2 : ∀ s, nxt toks (j + 1) = (1, s) → wordB s = true := fun s hs => by
            cases hw : wordB s with
            | true => rfl
            | false => exact absurd ⟨s, hs, hw⟩ hm
          have M := Lib.hid (member_no h2 hm2)
          have q := HEQ.out
          have q2 : PR.err (j + 1) (miss (tsOf toks) (j + 1)) = r := by
            rw [← q]
            cases e : (tsOf toks)[j + 1]? with
            | none => rfl
            | some y =>
              obtain ⟨k, s⟩ := y
              dsimp only
              rw [if_neg]
              rintro ⟨rfl, _, hw⟩
              refine hm ⟨s, ?_, hw⟩
              unfold nxt
              rw [e]
              rfl
          have H2 := Lib.hid h2
          obtain ⟨er, her⟩ : ∃ er, er = miss (tsOf toks) (j + 1) := ⟨_, rfl⟩
          rw [← her] at M q2
          have HEQ2 := Lib.hid q2
          clear q q2 hm hm2 HEQ h2 f2' A1 her
          go_wp2_with fail
          go_fit M.out
          rintro e w3 ⟨rfl, hb⟩
          have HD := Lib.hid (done_err (Z := Z) (i := i) (L := L) (er := er) (i1 := 0) H2.out F2.out hb)
          clear hb
          go_wp2_with fail
          rw [HQ1.out, ← HEQ2.out]
          exact ⟨rfl, HD.out⟩
      · rw [op_nxt_no hq, if_neg (by decide)] at heq
        have A0 := Lib.hid (accept_no HJ.out.rs hq (by decide))
        by_cases hq2 : nxt toks j = (4, [91])
        · rw [if_pos ((op_nxt _ _ _).2 hq2)] at heq
          have A1 := Lib.hid (accept_yes HE.out HJ.out.rs hq2)
          have HNC := Lib.hid (bind_out (show (pP toks f2 .cond (j + 1)).bind _ ≠ .out by rw [heq]; exact HN1.out))
          obtain ⟨r2, hr2⟩ : ∃ r2, r2 = pP toks f2 .cond (j + 1) := ⟨_, rfl⟩
          rw [← hr2] at heq
          have HEQ := Lib.hid heq
          have HR2 := Lib.hid hr2
          clear heq hq hq2 hr2
          go_wp2_with fail
          go_fit A0.out
          rintro e w2 ⟨rfl, rfl⟩
          go_wp2_with fail
          go_fit A1.out
          rintro e w2 ⟨rfl, h2, f2'⟩
          have F2 := Lib.hid (HJ.out.fm.trans f2')
          have HZ2 := Lib.hid (lo_Z HZ.out f2'.size)
          have CC := HC.out f2 (by omega) Z (j + 1) G' (L ++ [x]) w2 HZ2.out h2 HNC.out
          rw [← HR2.out] at CC
          have CC := Lib.hid CC
          clear h2 f2' HNC HR2 A0 A1
          go_wp2_with fail
          go_fit CC.out
          clear CC
          cases r2 with
          | out => exact absurd HEQ.out.symm HN1.out
          | err a er =>
            intro e w4 hd
            have HD := Lib.hid (done_pass (Z := Z) (i := i) (L := L) F2.out hd)
            obtain rfl := hd.1
            clear hd
            go_wp2_with fail
            rw [HQ1.out, ← HEQ.out]
            exact ⟨rfl, HD.out⟩
          | ok y a =>
            rintro e w4 ⟨rfl, hlt4, G4, h4, f4⟩
            have q := HEQ.out
            change (if opTk (tsOf toks) a [93] = true then pP toks f2 (.more (node litsP 4 [] [x, y])) (a + 1) else .err a (miss (tsOf toks) a)) = r at q
            have F4 := Lib.hid (F2.out.trans f4)
            by_cases hq : nxt toks a = (4, [93])
            · rw [if_pos ((op_nxt _ _ _).2 hq)] at q
              have N := Lib.hid (need_yes HE.out h4 hq)
              have HEQ2 := Lib.hid q
              clear q hq h4 f4 HEQ F2
              go_wp2_with fail
              go_fit N.out
              rintro e w5 ⟨rfl, h5, f5⟩
              have h5' : RS w0 ta tc toks Z R (a + 1) G4 (L ++ [x, y]) w5 := by
                rw [show L ++ [x, y] = L ++ [x] ++ [y] by simp]
                exact h5
              have F5 := Lib.hid (F4.out.trans f5)
              have BB := Lib.hid (build_any (A := [x, y]) HE.out.few h5' (lo_Z hZ F5.out.size) (by have := h5'.hL; rw [List.length_append] at this; simp at this; omega) 2 rfl 4 [] (by omega) (by simp))
              clear h5 f5 h5' N F4
              go_wp2_with fail
              go_fit BB.out
              rintro e w6 ⟨g, cap, rfl, h6, f6⟩
              have HI := Lib.hid (show ChI w0 ta tc toks Z R i f G L w r (node litsP 4 [] [x, y]) (a + 1) f2 _ w6 from ⟨h6, F5.out.trans f6, by omega, by omega, HEQ2.out⟩)
              have hat := HI.out.rs.atOf
              have hia := HI.out.rs.hi
              clear h6 f6 BB F5
              go_wp2_with fail
              exact ⟨⟨_, _, f2, _, HI⟩, by rw [hat, hat0]; omega⟩
            · rw [op_nxt_no hq, if_neg (by decide)] at q
              have N := Lib.hid (need_no h4 hq (by decide))
              have H4 := Lib.hid h4
              obtain ⟨er, her⟩ : ∃ er, er = miss (tsOf toks) a := ⟨_, rfl⟩
              rw [← her] at N q
              have HEQ2 := Lib.hid q
              clear q hq h4 f4 HEQ F2 her
              go_wp2_with fail
              go_fit N.out
              rintro e w5 ⟨rfl, hb⟩
              have HD := Lib.hid (done_err (Z := Z) (i := i) (L := L) (er := er) (i1 := 0) H4.out F4.out hb)
              clear hb
              go_wp2_with fail
              rw [HQ1.out, ← HEQ2.out]
              exact ⟨rfl, HD.out⟩
        · rw [op_nxt_no hq2, if_neg (by decide)] at heq
          have A1 := Lib.hid (accept_no HJ.out.rs hq2 (by decide))
          have HEQ := Lib.hid heq
          clear heq hq hq2
          go_wp2_with fail
          go_fit A0.out
          rintro e w2 ⟨rfl, rfl⟩
          go_wp2_with fail
          go_fit A1.out
          rintro e w2 ⟨rfl, rfl⟩
          go_wp2_with fail
          first | go_end0 | refine bodyPost_ret (results_none rfl _ _ _) rfl ?_
          rw [HQ1.out, ← HEQ.out]
          exact ⟨rfl, HJ.out.lt, _, HJ.out.rs, HJ.out.fm⟩
end
end Go.Proofs.YtjehhldboopocaaGreatDoor.Lx
namespace Go.Proofs.YtjehhldboopocaaGreatDoor.Lx
open Go.RowKit Go.Lib
set_option linter.unusedVariables false
/-- What is read behind an item. -/
def hdI (toks : List Tm) (f : Nat) (cl : List UInt8) (ent : Bool) (acc : List Xp) (keys : List (List UInt8)) (a : Nat) : PR Vl :=
  if opTk (tsOf toks) a cl = true then .ok (.mk 0 zeroV [] acc keys) (a + 1) else if opTk (tsOf toks) a [44] = true then pP toks f (.lst cl ent false acc keys) (a + 1) else .err a (miss (tsOf toks) a)
section
variable {w0 : World} {ta : Option Addr} {tc : Nat} {toks : List Tm} {R : Nat}
theorem pP_lst (f : Nat) (cl : List UInt8) (first : Bool) (acc : List Xp) (keys : List (List UInt8)) (i : Nat) : pP toks (f + 1) (.lst cl false first acc keys) i =
    if first = true ∧ opTk (tsOf toks) i cl = true then .ok (.mk 0 zeroV [] acc keys) (i + 1) else (pP toks f .cond i).bind fun x a => hdI toks f cl false (acc ++ [x]) keys a := rfl
/-- What holds at the head of items' loop. -/
structure ItI (w0 : World) (ta : Option Addr) (tc : Nat) (toks : List Tm) (Z : Nat → Prop) (R i f : Nat) (cl : List UInt8) (G : Value) (L : List Xp) (w : World) (r : PR Vl) (acc : List Xp) (j f' : Nat) (G' : Value) (wr : World) : Prop where
  rs : RS w0 ta tc toks Z R j G' (L ++ acc) wr
  fm : Fm R G G' w wr
  lt : i ≤ j
  le : f' ≤ f
  eq : (acc = [] ∧ pP toks f' (.lst cl false true [] []) j = r) ∨ (acc ≠ [] ∧ hdI toks f' cl false acc [] j = r)
theorem doneI_err {Z : Nat → Prop} {i a er i1 : Nat} {G G1 : Value} {L L1 : List Xp} {w w1 w2 : World} (h : RS w0 ta tc toks Z R a G1 L1 w1) (hf : Fm R G G1 w w1) (hb : Below w1.heap.size w1 w2) : DoneI w0 ta tc toks Z R i G L w (.err a er) (PanE er) w2 := done_err (i := i) (L := L) (i1 := 0) h hf hb
theorem doneI_pass {Z Y : Nat → Prop} {i a er i1 : Nat} {G G1 : Value} {L L1 : List Xp} {w w1 w2 : World} {e : Ending} (hf : Fm R G G1 w w1) (h : Done w0 ta tc toks Y R i1 G1 L1 w1 (.err a er) e w2) : DoneI w0 ta tc toks Z R i G L w (.err a er) e w2 := done_pass (Z := Z) (i := i) (L := L) hf h
set_option maxHeartbeats 8000000 in
set_option maxRecDepth 100000 in
theorem items_of (hE : EnvR w0 ta toks) (f : Nat) (cl : List UInt8) (hcl : cl ≠ []) (hC : ∀ f', f' < f → PartOk w0 ta tc toks R 51 #[.pointer (some ⟨R, 0, none⟩)] f' .cond)
    (Z : Nat → Prop) (i : Nat) (G : Value) (L : List Xp) (w : World) (hZ : ∀ k, Z k → k < w.heap.size) (h : RS w0 ta tc toks Z R i G L w) (hne : pP toks f (.lst cl false true [] []) i ≠ .out) :
    Calls Tryz.prog 230 #[.pointer (some ⟨R, 0, none⟩), .string ⟨cl.toArray⟩, .func (.func 51) #[.pointer (some ⟨R, 0, none⟩)] #[]] w (DoneI w0 ta tc toks Z R i G L w (pP toks f (.lst cl false true [] []) i)) := by
  obtain ⟨r, hr⟩ : ∃ r, r = pP toks f (.lst cl false true [] []) i := ⟨_, rfl⟩
  rw [← hr] at hne ⊢
  obtain ⟨Q, hQ⟩ : ∃ Q, Q = DoneI w0 ta tc toks Z R i G L w r := ⟨_, rfl⟩
  rw [← hQ]
  have HQ1 := Lib.hid hQ
  have HN1 := Lib.hid hne
  have HE := Lib.hid hE
  have HC := Lib.hid hC
  have HI := Lib.hid (show ItI w0 ta tc toks Z R i f cl G L w r [] i f G w from ⟨by rw [List.append_nil]; exact h, Fm.refl _ _ _, Nat.le_refl _, Nat.le_refl _, .inl ⟨rfl, hr.symm⟩⟩)
  have few := hE.few
  obtain ⟨cx, hcx⟩ : ∃ cx : ByteArray, cx = ⟨cl.toArray⟩ := ⟨_, rfl⟩
  rw [← hcx]
  have HCX := Lib.hid hcx
  clear hQ hne hE hC h hr hcx
  go_enter Tryz.func230, Tryz.ntmps230
  go_wp2_with fail
  go_loopw [7] (fun s7 wr => ∃ (acc : List Xp) (j f' : Nat) (G' : Value), s7 = .int .i64 (acc.length : Nat) ∧ Hid (ItI w0 ta tc toks Z R i f cl G L w r acc j f' G' wr)) (fun _ wr => toks.length - atOf wr R)
  case atStart => exact ⟨[], i, f, G, rfl, HI⟩
  case round =>
    obtain ⟨acc, j, f', G', rfl, HJ⟩ := hrel
    clear HI
    have hle := HJ.out.le
    have hlj := HJ.out.lt
    have hat0 := HJ.out.rs.atOf
    have HZ := Lib.hid (lo_Z hZ HJ.out.fm.size)
    have hac : acc.length ≤ 1073741824 := by
      have h1 := HJ.out.rs.hL
      have h2 := HJ.out.rs.hi
      rw [List.length_append] at h1
      omega
    by_cases hq : nxt toks j = (4, cl)
    · have A1 := accept_yes HE.out HJ.out.rs hq
      rw [← HCX.out] at A1
      have A1 := Lib.hid A1
      have hr2 : r = .ok (.mk 0 zeroV [] acc []) (j + 1) := by
        have ho := (op_nxt _ _ _).2 hq
        rcases HJ.out.eq with ⟨rfl, e⟩ | ⟨_, e⟩
        · cases f' with
          | zero => exact absurd e.symm HN1.out
          | succ f2 =>
            rw [pP_lst, if_pos ⟨rfl, ho⟩] at e
            exact e.symm
        · unfold hdI at e
          rw [if_pos ho] at e
          exact e.symm
      have HEQ := Lib.hid hr2
      clear hr2 hq
      go_wp2_with fail
      go_fit A1.out
      rintro e w2 ⟨rfl, h2, f2'⟩
      have H2 := Lib.hid h2
      have F2 := Lib.hid (HJ.out.fm.trans f2')
      clear h2 f2'
      go_wp2_with fail
      rw [HQ1.out, HEQ.out]
      exact ⟨rfl, by omega, _, H2.out, F2.out⟩
    · have A1 := accept_no HJ.out.rs hq hcl
      rw [← HCX.out] at A1
      have A1 := Lib.hid A1
      have ho := op_nxt_no hq
      by_cases hac0 : acc = []
      · subst hac0
        obtain ⟨f2, rfl⟩ : ∃ f2, f' = f2 + 1 := by
          cases f' with
          | zero => exact absurd (by rcases HJ.out.eq with ⟨_, e⟩ | ⟨e, _⟩; exact e.symm; exact absurd rfl e) HN1.out
          | succ f2 => exact ⟨f2, rfl⟩
        have heq : (pP toks f2 .cond j).bind (fun x a => hdI toks f2 cl false ([] ++ [x]) [] a) = r := by
          rcases HJ.out.eq with ⟨_, e⟩ | ⟨e, _⟩
          · rw [pP_lst, if_neg (by rw [ho]; simp)] at e
            exact e
          · exact absurd rfl e
        have HNC := Lib.hid (bind_out (show (pP toks f2 .cond j).bind _ ≠ .out by rw [heq]; exact HN1.out))
        have CC := HC.out f2 (by omega) Z j G' (L ++ []) wr HZ.out HJ.out.rs HNC.out
        obtain ⟨r2, hr2⟩ : ∃ r2, r2 = pP toks f2 .cond j := ⟨_, rfl⟩
        rw [← hr2] at heq CC
        have CC := Lib.hid CC
        have HEQ := Lib.hid heq
        clear heq hq ho hr2 HNC
        go_wp2_with fail
        go_fit A1.out
        rintro e w2 ⟨rfl, rfl⟩
        go_wp2_with fail
        go_fit CC.out
        clear CC A1
        cases r2 with
        | out => exact absurd HEQ.out.symm HN1.out
        | err a er =>
          intro e w4 hd
          have HD := Lib.hid (doneI_pass (Z := Z) (i := i) (L := L) HJ.out.fm hd)
          obtain rfl := hd.1
          clear hd
          go_wp2_with fail
          rw [HQ1.out, ← HEQ.out]
          exact ⟨rfl, HD.out⟩
        | ok y a =>
          rintro e w4 ⟨rfl, hlt4, G4, h4, f4⟩
          have HI := Lib.hid (show ItI w0 ta tc toks Z R i f cl G L w r [y] a f2 G4 w4 from ⟨by rw [show L ++ [y] = L ++ [] ++ [y] by simp]; exact h4, HJ.out.fm.trans f4, by omega, by omega, .inr ⟨by simp, HEQ.out⟩⟩)
          have hat := HI.out.rs.atOf
          have hia := HI.out.rs.hi
          clear h4 f4
          go_wp2_with fail
          exact ⟨⟨[y], a, f2, G4, rfl, HI⟩, by rw [hat, hat0]; omega⟩
      · have heq : hdI toks f' cl false acc [] j = r := by
          rcases HJ.out.eq with ⟨e, _⟩ | ⟨_, e⟩
          · exact absurd e hac0
          · exact e
        unfold hdI at heq
        rw [ho, if_neg (by decide)] at heq
        have hpos : 0 < acc.length := List.length_pos_iff.2 hac0
        have g0 : (0 : Int) < (acc.length : Int) := by omega
        have HAC := Lib.hid hac0
        obtain ⟨n, hn⟩ : ∃ n, n = acc.length := ⟨_, rfl⟩
        rw [← hn] at g0 hac ⊢
        have HNN := Lib.hid hn
        clear hpos hac0
        by_cases hq2 : nxt toks j = (4, [44])
        · rw [if_pos ((op_nxt _ _ _).2 hq2)] at heq
          have N := Lib.hid (need_yes HE.out HJ.out.rs hq2)
          obtain ⟨f2, rfl⟩ : ∃ f2, f' = f2 + 1 := by
            cases f' with
            | zero => exact absurd heq.symm HN1.out
            | succ f2 => exact ⟨f2, rfl⟩
          rw [pP_lst, if_neg (by simp)] at heq
          have HNC := Lib.hid (bind_out (show (pP toks f2 .cond (j + 1)).bind _ ≠ .out by rw [heq]; exact HN1.out))
          obtain ⟨r2, hr2⟩ : ∃ r2, r2 = pP toks f2 .cond (j + 1) := ⟨_, rfl⟩
          rw [← hr2] at heq
          have HR2 := Lib.hid hr2
          have HEQ := Lib.hid heq
          clear heq hq ho hr2 hq2 hn
          go_wp2_with fail
          go_fit A1.out
          rintro e w2 ⟨rfl, rfl⟩
          go_wp2_with fail
          go_fit N.out
          rintro e w3 ⟨rfl, h3, f3⟩
          have CC := HC.out f2 (by omega) Z (j + 1) G' (L ++ acc) w3 (lo_Z HZ.out f3.size) h3 HNC.out
          rw [← HR2.out] at CC
          have CC := Lib.hid CC
          have F3 := Lib.hid (HJ.out.fm.trans f3)
          clear h3 f3 HNC HR2 N A1
          go_wp2_with fail
          go_fit CC.out
          clear CC
          cases r2 with
          | out => exact absurd HEQ.out.symm HN1.out
          | err a er =>
            intro e w4 hd
            have HD := Lib.hid (doneI_pass (Z := Z) (i := i) (L := L) F3.out hd)
            obtain rfl := hd.1
            clear hd
            go_wp2_with fail
            rw [HQ1.out, ← HEQ.out]
            exact ⟨rfl, HD.out⟩
          | ok y a =>
            rintro e w4 ⟨rfl, hlt4, G4, h4, f4⟩
            have HI := Lib.hid (show ItI w0 ta tc toks Z R i f cl G L w r (acc ++ [y]) a f2 G4 w4 from ⟨by rw [← List.append_assoc]; exact h4, F3.out.trans f4, by omega, by omega, .inr ⟨by simp, HEQ.out⟩⟩)
            have hat := HI.out.rs.atOf
            have hia := HI.out.rs.hi
            clear h4 f4
            go_wp2_with fail
            exact ⟨⟨acc ++ [y], a, f2, G4, by rw [List.length_append, List.length_singleton, ← HNN.out]; go_num, HI⟩, by rw [hat, hat0]; omega⟩
        · rw [op_nxt_no hq2, if_neg (by decide)] at heq
          have N := Lib.hid (need_no HJ.out.rs hq2 (by decide))
          obtain ⟨er, her⟩ : ∃ er, er = miss (tsOf toks) j := ⟨_, rfl⟩
          rw [← her] at N heq
          have HEQ := Lib.hid heq
          clear heq hq hq2 ho her hn
          go_wp2_with fail
          go_fit A1.out
          rintro e w2 ⟨rfl, rfl⟩
          go_wp2_with fail
          go_fit N.out
          rintro e w5 ⟨rfl, hb⟩
          have HD := Lib.hid (doneI_err (Z := Z) (i := i) (L := L) (er := er) (i1 := 0) HJ.out.rs HJ.out.fm hb)
          clear hb
          go_wp2_with fail
          rw [HQ1.out, ← HEQ.out]
          exact ⟨rfl, HD.out⟩
end
end Go.Proofs.YtjehhldboopocaaGreatDoor.Lx
