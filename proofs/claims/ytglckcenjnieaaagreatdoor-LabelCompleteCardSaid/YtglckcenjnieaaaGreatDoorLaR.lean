/- The contract of statesOf (label). -/
import Derived.Test.YtglckcenjnieaaaGreatDoorLaQ
import Derived.Test.YtglckcenjnieaaaGreatDoorLaL
import Derived.Test.YtglckcenjnieaaaGreatDoorLaS
namespace Go.Proofs.YtglckcenjnieaaaGreatDoor
open Go.RowKit Go.Lib Go.Maps

/-- The states of a name, as the labels come. -/
def stL (L : List (List UInt8)) (l : List UInt8) : List Int := L.filterMap fun x => match labP x with
  | none => none
  | some (a, s) => if a = l then some s else none
theorem stL_none {x : List UInt8} (h : labP x = none) (r : List (List UInt8)) (l : List UInt8) : stL (x :: r) l = stL r l := by
  unfold stL
  rw [List.filterMap_cons, h]
theorem stL_some {x a : List UInt8} {s : Int} (h : labP x = some (a, s)) (r : List (List UInt8)) (l : List UInt8) : stL (x :: r) l = (if a = l then [s] else []) ++ stL r l := by
  unfold stL
  rw [List.filterMap_cons, h]
  by_cases hl : a = l
  · simp [hl]
  · simp [hl]
theorem int_one (w : World) (x : Value) (t : TypeId) : ∀ j u, [x][j]? = some u → (w.alloc (.cells #[x] t)).cell? ((⟨w.heap.size, 0, none⟩ : Addr).add j) = some u := by
  intro j u hj
  match j, hj with
  | 0, hj => simp at hj; subst hj; simp [Addr.add, go_sem]
theorem grown_belowL {W w w' : World} {row : Option Nat} (h : Below W.heap.size W w) (hg : w.grownBy w' row) (hr : ∀ k, row = some k → W.heap.size ≤ k) : Below W.heap.size W w' :=
  h.trans ⟨hg.os, hg.tape, hg.output, hg.size, fun k hk => hg.block k (Nat.lt_of_lt_of_le hk h.size) (fun e => by have := hr k e.symm; omega)⟩
set_option maxHeartbeats 4000000 in
set_option maxRecDepth 100000 in
theorem statesOf_any (v : Option Addr) (cap : Nat) (L : List (List UInt8)) (hlen : L.length ≤ 1000) (hx : ∀ x ∈ L, x.length ≤ 1048576) (w : World) (hT : TabK w) (hr : ReadsStr w v L) :
    Calls Tryz.prog 29 #[.slice v L.length cap] w fun e w' => ∃ (K : Nat) (G : Rows'), e = .returned (.map (some K)) ∧ StM (w.heap.size + 1) w' K L.length G (fun l => srt (stL L l)) ∧ w.heap.size ≤ K ∧ Below w.heap.size w w' := by
  have HT := Lib.hid hT
  have HR := Lib.hid hr
  have HX := Lib.hid hx
  have hmm := @run_makeMap Tryz.prog
  clear hT hr hx
  go_enter Tryz.func29, Tryz.ntmps29
  go_wp2_with fail
  obtain ⟨i0, hi, hz0, hz1, hz2⟩ := info_parts info_int
  go_loopw [14] (fun s14 wr => ∃ (j : Nat) (G : Rows') (T : List UInt8 → List Int), s14 = .int .i64 (j : Int) ∧ j ≤ L.length ∧ (∀ l, T l ++ stL (L.drop j) l = stL L l) ∧ (∀ l, (T l).length ≤ j) ∧ StM (w.heap.size + 1) wr w.heap.size j G T ∧ Below w.heap.size w wr) (fun s14 _ => L.length - (RowKit.intOf s14).toNat)
  case atStart => exact ⟨0, fun _ => none, fun _ => [], rfl, Nat.zero_le _, fun l => by rw [List.drop_zero]; rfl, fun l => Nat.le_refl _, StM.new _ w, (Below.refl _ _).alloc (Nat.le_refl _) _⟩
  case round =>
    obtain ⟨j, G, T, rfl, hj, hp, htl, hm, hbel⟩ := hrel
    have z1 := hbel.size
    have HM := Lib.hid hm
    have BE := Lib.hid hbel
    have HP := Lib.hid hp
    have HTL := Lib.hid htl
    have HTM := Lib.hid (show ∀ l, (stL L l).length ≤ 1000 from fun l => Nat.le_trans (List.length_filterMap_le _ _) hlen)
    clear htl
    have hp' := hp
    clear hp
    by_cases hjl : j < L.length
    · obtain ⟨b, off, hv, hlt, hc⟩ := (HR.out.below hbel) j hjl
      subst hv
      have hji : (j : Int) < (L.length : Int) := by omega
      have hxl := HX.out _ (List.getElem_mem hjl)
      have HD := Lib.hid (show L.drop j = L[j] :: L.drop (j + 1) from List.drop_eq_getElem_cons hjl)
      obtain ⟨x, hxe⟩ : ∃ x, x = L[j] := ⟨_, rfl⟩
      rw [← hxe] at hc hxl HD
      have PL := Lib.hid (fun w hT => parseLabel_any ⟨x.toArray⟩ (by show x.toArray.size ≤ _; simpa using hxl) w hT)
      clear hxe hj hbel hm hp'
      go_wp2_with fail
      go_fit (PL.out _ (HT.out.below BE.out))
      rintro e w2 ⟨y, s, ok, rfl, hR, hb⟩
      try rw [show (⟨x.toArray⟩ : ByteArray).data.toList = x by simp] at hR
      have hbel := BE.out.trans (hb.mono z1)
      have HM2 := Lib.hid (HM.out.kept hb)
      have BE2 := Lib.hid hbel
      have z2 := hbel.size
      clear hb hbel hc
      cases hN : labP x with
      | none =>
        rw [hN] at hR
        obtain rfl : ok = false := hR
        have HN := Lib.hid hN
        clear hN
        go_wp2_with fail
        go_roundw
        case rel => exact ⟨j + 1, G, T, by go_num, by omega, fun l => by rw [← HP.out l, HD.out, stL_none HN.out], fun l => Nat.le_succ_of_le (HTL.out l), ⟨HM2.out.map.elim fun D h => ⟨D, h.1.mono (Nat.le_succ _), h.2⟩, HM2.out.none', HM2.out.row, HM2.out.apart⟩, BE2.out⟩
        case measure => simp [RowKit.intOf]; omega
      | some q =>
        obtain ⟨a, s'⟩ := q
        rw [hN] at hR
        obtain ⟨rfl, rfl, rfl⟩ := hR
        have hal := lab_len hN
        have HN := Lib.hid hN
        clear hN
        obtain ⟨hrun, hown, hne⟩ := HM2.out.val a (by omega)
        have HO := Lib.hid (hown.alloc (.cells #[.int .i64 s] 3))
        have hTl := HTL.out a
        have HTA := Lib.hid hTl
        have hKl := HM2.out.lt
        clear hown hne hTl
        generalize hvg : valG G a = vg at hrun HO
        have HVG := Lib.hid hvg
        clear hvg
        go_upto_region 7 with fail
        go_wp2_with (at_builtin; refine wpList_append_own_at _ rfl _ _ 47 rfl (w.heap.size + 1) 3 i0 (.int .i64 0) 1 8 Tryz.underlying47 hi hz0 hz1 hz2 rfl (by decide) _ _ _ rfl HO.out ⟨w2.heap.size, 0, none⟩ 1 1 [.int .i64 s] rfl rfl ?c1 ?c2 ?c3 ?c4 ?c5 ?_)
        case c1 => exact int_one _ _ _
        case c2 => intro x hx; simp at hx; subst hx; rfl
        case c3 => have := HTA.out; unfold maxLen; omega
        case c4 => have := HTA.out; omega
        case c5 => simp; omega
        intro v6 w6 ho6 hg6 _ hat6
        have hba := (Below.refl w2.heap.size w2).alloc (Nat.le_refl _) (.cells #[.int .i64 s] 3)
        rw [← HVG.out] at hg6 hat6
        obtain ⟨w7, G', hrun7, hm7, hg7⟩ := (HM2.out.kept hba).push (by omega) a (by omega) s ho6 hg6 (by rw [World.size_alloc]; exact hat6)
        have hbg := grown_belowL (BE2.out.trans (hba.mono z2)) hg6 (fun k hk => by
          have := (((HM2.out.kept hba).val a (by omega)).2.1.lt k hk).1
          omega)
        have hb7 := grown_belowL hbg hg7 (fun k hk => by injection hk with hk; omega)
        have HM7 := Lib.hid hm7
        have BE7 := Lib.hid hb7
        clear hba ho6 hg6 hat6 hm7 hg7 hbg hb7 hrun
        go_wp2_with fail
        go_roundw
        case rel => exact ⟨j + 1, G', _, by go_num, by omega, fun l => by
          rw [← HP.out l, HD.out, stL_some HN.out]
          unfold updT
          by_cases hl : l = a
          · subst hl
            rw [if_pos rfl, if_pos rfl, List.append_assoc]
          · rw [if_neg hl, if_neg (fun e => hl e.symm), List.nil_append], fun l => by
          unfold updT
          have := HTL.out l
          have := HTA.out
          by_cases hl : l = a
          · rw [if_pos hl, List.length_append, List.length_singleton]; omega
          · rw [if_neg hl]; omega, HM7.out, BE7.out⟩
        case measure => simp [RowKit.intOf]; omega
    · obtain rfl : j = L.length := by omega
      have hT : T = stL L := by
        funext l
        have := hp' l
        rwa [List.drop_eq_nil_of_le (Nat.le_refl _), show stL [] l = [] from rfl, List.append_nil] at this
      subst hT
      obtain ⟨⟨D, hown, hd1, hd2, hd3⟩, _, _, _⟩ := hm
      obtain ⟨wq, hwq⟩ : ∃ wq, wq = wr := ⟨_, rfl⟩
      subst hwq
      clear hj hbel
      go_wp2_with (first | (at_range; refine wpList_range_own _ rfl _ 43 rfl 9 47 keyS Tryz.underlying43 roR w.heap.size L.length D rfl hown ?_; intro w0 hrg0 hg0 hs0))
      have HRG := Lib.hid (RgM.start hd1 hd2 hd3 HM.out hrg0 hg0)
      have BE0 := Lib.hid (grown_belowL BE.out hg0 (fun k hk => by cases hk))
      clear hrg0 hg0 hs0 hown hd1 hd2 hd3
      go_frame
      go_loopw [] (fun wr => ∃ (left : Lit → Bool) (cnt : Nat), RgM (w.heap.size + 1) wr w.heap.size wq.heap.size L.length D G (stL L) left cnt ∧ Below w.heap.size w wr) (fun wr => wr.rangeLeft w.heap.size wq.heap.size)
      case atStart => exact ⟨_, _, HRG.out, BE0.out⟩
      case round =>
        obtain ⟨left, cnt, hrg, hbe⟩ := hrel
        have RG := Lib.hid hrg
        have BR := Lib.hid hbe
        have hrr := hrg.rng
        clear hrg hbe
        go_wp2_with (at_next; refine wpList_next_ranges _ rfl _ rfl 9 keyS roR (fun v : Value => v) (fun v : Value => v) (fun key kl hk => ⟨key, rfl⟩) (fun v y h => ⟨v, rfl⟩) w.heap.size wq.heap.size L.length D left cnt rfl hrr ?_ ?_)
        · intro hc0 hl0
          have HD := Lib.hid (RG.out.done hl0)
          clear hc0 hl0 hrr
          go_wp2_with fail
          go_ret
          exact ⟨w.heap.size, G, rfl, HD.out, Nat.le_refl _, BR.out⟩
        · intro x c kl y1 y2 w1 cnt1 hkey hlk hv hat hrg1 hlt1 hg1 hs1 hen
          obtain ⟨s, rfl, rfl⟩ := keyS_of hkey
          have hGs := RG.out.lefts _ hlk
          obtain ⟨⟨g, m, c2⟩, hG⟩ := Option.isSome_iff_exists.1 hGs
          have hye : y1 = .agg [.lit (.int .u64 g), .lit (.int .u64 m), .lit (.int .u64 c2)] := by
            rw [← RG.out.dat _ g m c2 hG (.lit (.bool false))]
            exact (hat (.lit (.bool false))).symm
          subst hye
          obtain rfl := roR_inv_row hv
          obtain ⟨p1, p2, p3, p4, p5⟩ := RG.out.row _ g m c2 hG
          subst p1
          rw [if_pos hlk] at p3
          have ho := p3.kept hg1 (Or.inr (by simp only [Value.ownBlock]; intro e; injection e with e; exact p5 e))
          have hbw := grown_belowL BR.out hg1 (fun k hk => by injection hk with hk; have := BE.out.size; omega)
          have hml := HTM.out s.data.toList
          have SO := Lib.hid (sort_any g c2 (stL L s.data.toList) (by omega) (w.heap.size + 1) w1 ho)
          have hgg := (ho.lt g rfl).1
          have HLT := Lib.hid hlt1
          have ST := Lib.hid (fun (w2 : World) (h : Srtd w1 w2 g (stL L s.data.toList)) => And.intro (RG.out.step hG hlk hrg1 hg1 h) (grown_belowL hbw h.grown (fun k hk => by injection hk with hk; omega)))
          have RL := Lib.hid hrr.left_eq
          clear hkey hlk hv hat hrg1 hlt1 hg1 hs1 hGs hG p2 p3 p4 p5 ho hbw hml hrr hgg
          go_wp2_with fail
          go_fit SO.out
          rintro e w2 ⟨rfl, hs⟩
          have HS := Lib.hid hs
          clear hs
          go_wp2_with fail
          go_roundw
          case rel => exact ⟨_, _, (ST.out _ HS.out).1, (ST.out _ HS.out).2⟩
          case measure =>
            have := (ST.out _ HS.out).1.rng.left_eq
            have := RL.out
            have := HLT.out
            omega
end Go.Proofs.YtglckcenjnieaaaGreatDoor
