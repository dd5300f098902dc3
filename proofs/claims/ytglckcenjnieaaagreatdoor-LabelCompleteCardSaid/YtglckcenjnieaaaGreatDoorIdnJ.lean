/- The contract of the document's Sorted (ident), and the plain function that it computes. -/
import Derived.Test.YtglckcenjnieaaaGreatDoorIdnG
import Derived.Maps.AppendAt
import Derived.Laws.AppendOwnNone
import Derived.Deep.RegionWith
namespace Go.Proofs.YtglckcenjnieaaaGreatDoor
open Go.RowKit Go.Lib

/-- Where a string belongs among the first p. -/
def posI (x : List UInt8) (out : List (List UInt8)) : Nat → Nat
  | 0 => 0
  | p + 1 => if cmpL x (out.getD p []) < 0 then posI x out p else p + 1
theorem posI_le (x : List UInt8) (out : List (List UInt8)) : ∀ p, posI x out p ≤ p
  | 0 => Nat.le_refl _
  | p + 1 => by
    unfold posI
    split
    · have := posI_le x out p; omega
    · omega
def insS (x : List UInt8) (out : List (List UInt8)) (p : Nat) : List (List UInt8) := if 0 < p ∧ out.getD (p - 1) [] = x then out else out.take p ++ [x] ++ out.drop p
def sortR (L : List (List UInt8)) : List (List UInt8) := L.foldl (fun out x => insS x out (posI x out out.length)) []
theorem insS_mem {x : List UInt8} {out : List (List UInt8)} {p : Nat} {y : List UInt8} (h : y ∈ insS x out p) : y = x ∨ y ∈ out := by
  unfold insS at h
  split at h
  · exact .inr h
  · simp only [List.mem_append, List.mem_singleton] at h
    rcases h with (h | h) | h
    · exact .inr (List.mem_of_mem_take h)
    · exact .inl h
    · exact .inr (List.mem_of_mem_drop h)
theorem insS_len (x : List UInt8) (out : List (List UInt8)) (p : Nat) : (insS x out p).length ≤ out.length + 1 := by
  unfold insS
  split
  · omega
  · simp only [List.length_append, List.length_take, List.length_drop, List.length_singleton]; omega
theorem sortR_snoc (L : List (List UInt8)) (x : List UInt8) : sortR (L ++ [x]) = insS x (sortR L) (posI x (sortR L) (sortR L).length) := by simp [sortR]

theorem own_mono {w : World} {B B' n : Nat} {v : Value} {xs : List Value} (h : w.ownsRow B 9 1 v n xs) (hB : B' ≤ B) : w.ownsRow B' 9 1 v n xs := by
  refine ⟨h.1, ?_⟩
  rcases h.2 with h2 | ⟨g, cap, cur, h2, h3, h4⟩
  · exact .inl h2
  · exact .inr ⟨g, cap, cur, h2, Nat.le_trans hB h3, h4⟩
set_option maxRecDepth 100000 in
theorem slS_to (ad : Addr) (len cap h : Nat) (h0 : h ≤ cap) (_hc : 0 < cap) (w : World) : (Instr.sliceAt 22 (.slice (some ad) len cap) none (some (.int .i64 (h : Int))) none).run Tryz.prog w = .ok (.slice (some ad) h cap) w := by
  rw [run_sliceAt_slice _ _ _ _ _ _ Tryz.underlying22, run_slice_h _ _ _ _ _ Tryz.underlying22 .i64 (h : Int) (by omega) (by omega)]
  have hs : (sizeOf (Tryz.prog.elem 22)).run Tryz.prog w = .ok 1 w := by kernel_rfl
  rw [hs]
  simp [Result.andThen, sliced, Addr.add]
/-- The address of s[k:]. -/
def adS (b off cap k : Nat) : Addr := if cap = k then ⟨b, off, none⟩ else ⟨b, off + k, none⟩
set_option maxRecDepth 100000 in
theorem slS_from (b off len cap k : Nat) (hk : k ≤ len) (w : World) : (Instr.sliceAt 22 (.slice (some ⟨b, off, none⟩) len cap) (some (.int .i64 (k : Int))) none none).run Tryz.prog w = .ok (.slice (some (adS b off cap k)) (len - k) (cap - k)) w := by
  rw [run_sliceAt_slice _ _ _ _ _ _ Tryz.underlying22, run_slice_l _ _ _ _ _ Tryz.underlying22 .i64 (k : Int) (by omega) (by omega)]
  have hs : (sizeOf (Tryz.prog.elem 22)).run Tryz.prog w = .ok 1 w := by kernel_rfl
  rw [hs]
  have e : (⟨b, off, none⟩ : Addr).add k = ⟨b, off + k, none⟩ := by
    unfold Addr.add
    split
    · rename_i h; subst h; rfl
    · rfl
  unfold adS
  by_cases h : cap = k <;> simp [Result.andThen, sliced, h, e]
theorem adS_cells {w : World} {b off cap k : Nat} {l : List (List UInt8)} (h : ReadsStr w (some ⟨b, off, none⟩) l) (hl : l.length ≤ cap) : ∀ j u, ((l.drop k).map strV)[j]? = some u → w.cell? ((adS b off cap k).add j) = some u := by
  intro j u hj
  have hlt : j < ((l.drop k).map strV).length := (List.getElem?_eq_some_iff.1 hj).1
  rw [List.length_map, List.length_drop] at hlt
  have h2 := readsS_cells h (k + j) u (by rw [← hj, List.getElem?_map, List.getElem?_map, List.getElem?_drop])
  have ea : ∀ o, (⟨b, o, none⟩ : Addr).add j = ⟨b, o + j, none⟩ := by
    intro o
    unfold Addr.add
    split
    · rename_i h; subst h; rfl
    · rfl
  have eb : (⟨b, off, none⟩ : Addr).add (k + j) = ⟨b, off + (k + j), none⟩ := by
    unfold Addr.add
    split
    · simp
    · rfl
  unfold adS
  rw [if_neg (by omega), ea, Nat.add_assoc, ← eb]
  exact h2
theorem toS_cells {w : World} {b off k : Nat} {l : List (List UInt8)} (h : ReadsStr w (some ⟨b, off, none⟩) l) : ∀ j u, ((l.take k).map strV)[j]? = some u → w.cell? ((⟨b, off, none⟩ : Addr).add j) = some u := by
  intro j u hj
  have hlt : j < ((l.take k).map strV).length := (List.getElem?_eq_some_iff.1 hj).1
  rw [List.length_map, List.length_take] at hlt
  exact readsS_cells h j u (by rw [← hj, List.getElem?_map, List.getElem?_map, List.getElem?_take_of_lt (by omega)])

set_option maxHeartbeats 4000000 in
set_option maxRecDepth 100000 in
theorem refSorted_any (v : Option Addr) (cap : Nat) (L : List (List UInt8)) (hl : L.length ≤ 1099511627776) (hsz : ∀ x, x ∈ L → x.length ≤ 1099511627776) (w : World) (hr : ReadsStr w v L) :
    Calls Tryz.prog 41 #[.slice v L.length cap] w fun e w' => ∃ u, e = .returned u ∧ w'.ownsRow w.heap.size 9 1 u (sortR L).length ((sortR L).map strV) ∧ Below w.heap.size w w' := by
  obtain ⟨i0, hi, hz0, hz1, hz2⟩ := info_parts infoS
  have HR := Lib.hid hr
  have HSZ := Lib.hid hsz
  clear hr hsz
  go_enter Tryz.func41, Tryz.ntmps41
  go_wp2_with fail
  go_loopw [3, 4, 5, 6] (fun s3 s4 _ _ wr => ∃ (i : Nat) (out : List (List UInt8)), i ≤ L.length ∧ out.length ≤ i ∧ s4 = .int .i64 i ∧ wr.ownsRow w.heap.size 9 1 s3 out.length (out.map strV) ∧ Below w.heap.size w wr ∧
      (out = [] → s3 = .slice none 0 0) ∧ out = sortR (L.take i) ∧ ∀ x, x ∈ out → x.length ≤ 1099511627776) (fun _ s4 _ _ _ => L.length - (RowKit.intOf s4).toNat)
  case atStart => exact ⟨0, [], by omega, by simp, rfl, World.ownsRow_nil _ _ _ _, Below.refl _ _, fun _ => rfl, rfl, fun x hx => by simp at hx⟩
  case round =>
    obtain ⟨i, out, hiL, hoi, rfl, hown, hbel, hnil, hout, hos⟩ := hrel
    have HOW := Lib.hid hown
    have HB := Lib.hid hbel
    have hz := hbel.size
    have HNIL := Lib.hid hnil
    have HOUT := Lib.hid hout
    have HOS := Lib.hid hos
    clear hown hbel hnil hout hos
    by_cases hlt : i < L.length
    · obtain ⟨wo, rfl⟩ : ∃ wo : World, wo = wr := ⟨_, rfl⟩
      obtain ⟨a, c, rfl, hac, hcm, hro⟩ := own_readsS HOW.out rfl
      have HRO := Lib.hid hro
      have hcm2 : c ≤ 9223372036854775807 := by unfold maxLen at hcm; exact hcm
      clear hro hcm
      have hx9 := HSZ.out _ (List.getElem_mem hlt)
      obtain ⟨x, hx⟩ : ∃ x, x = L[i] := ⟨_, rfl⟩
      have HXC := Lib.hid (show ∃ b off, v = some ⟨b, off, none⟩ ∧ b < w.heap.size ∧ w.cell? ⟨b, off + i, none⟩ = some (.string ⟨x.toArray⟩) by rw [hx]; exact HR.out i hlt)
      have HSO := Lib.hid (show sortR (L.take (i + 1)) = insS x out (posI x out out.length) by rw [List.take_succ_eq_append_getElem hlt, sortR_snoc, ← HOUT.out, hx])
      rw [← hx] at hx9
      have i1 : (0 : Int) ≤ (i : Int) ∧ (i : Int) < (L.length : Int) := by omega
      clear hx
      go_upto_block 2 with (fail)
      go_cut [5] (fun s5 wx => ∃ p : Nat, p ≤ out.length ∧ s5 = .int .i64 p ∧ posI x out out.length = p ∧ ∃ n, wx = wo.drewN n)
      case first =>
        go_wp2_with fail
        go_loopw [5] (fun s5 wx => ∃ p : Nat, p ≤ out.length ∧ s5 = .int .i64 p ∧ posI x out out.length = posI x out p ∧ ∃ n, wx = wo.drewN n) (fun s5 _ => (RowKit.intOf s5).toNat)
        case atStart => exact ⟨out.length, by omega, rfl, rfl, 0, rfl⟩
        case round =>
          obtain ⟨p, hp, rfl, hpe, n0, hwr⟩ := hrel
          have HPE := Lib.hid hpe
          have HW := Lib.hid hwr
          clear hpe
          by_cases hp0 : p = 0
          · subst hp0
            clear hwr
            go_wp2_with fail
            go_quiet (fail)
            go_wp2_with fail
            go_meet
            exact ⟨0, by omega, rfl, HPE.out, _, by rw [HW.out, World.drewN_drewN]⟩
          · obtain ⟨q, hq⟩ : ∃ q, p = q + 1 := ⟨p - 1, by omega⟩
            have hqo : q < out.length := by omega
            obtain ⟨b, off, rfl, hb, hc⟩ := HXC.out
            have hc1 := ((below_drewN (HB.out) n0).cell (p := ⟨b, off + i, none⟩) hb).trans hc
            rw [← hwr] at hc1
            have hro2 := HRO.out.drewN n0
            rw [← hwr] at hro2
            obtain ⟨b2, off2, rfl, hb2, hc2⟩ := hro2 q hqo
            have hst : posI x out p = if cmpL x out[q] < 0 then posI x out q else p := by
              rw [hq]
              show (if cmpL x (out.getD q []) < 0 then _ else _) = _
              rw [List.getD_eq_getElem?_getD, List.getElem?_eq_getElem hqo]
              rfl
            have hy9 := HOS.out _ (List.getElem_mem hqo)
            obtain ⟨y, hy⟩ : ∃ y, y = out[q] := ⟨_, rfl⟩
            rw [← hy] at hc2 hst hy9
            have C := fun w => refCompare_any ⟨x.toArray⟩ ⟨y.toArray⟩ (by rw [mkS_size]; exact hx9) (by rw [mkS_size]; exact hy9) w
            rw [show (⟨x.toArray⟩ : ByteArray).data.toList = x from rfl, show (⟨y.toArray⟩ : ByteArray).data.toList = y from rfl] at C
            obtain ⟨sx, hsx⟩ : ∃ s : ByteArray, s = ⟨x.toArray⟩ := ⟨_, rfl⟩
            obtain ⟨sy, hsy⟩ : ∃ s : ByteArray, s = ⟨y.toArray⟩ := ⟨_, rfl⟩
            rw [← hsx] at hc1 C
            rw [← hsy] at hc2 C
            obtain ⟨k, hk⟩ : ∃ k, k = cmpL x y := ⟨_, rfl⟩
            rw [← hk] at C hst
            have C := Lib.hid C
            have HST := Lib.hid hst
            have HQ := Lib.hid hq
            have q1 : (0 : Int) ≤ (q : Int) ∧ (q : Int) < (out.length : Int) := by omega
            have q0 : 0 < p := by omega
            have q2 : IntKind.i64.wrap ((p : Int) - 1) = (q : Int) := by rw [IntWalk.i64_in _ (by omega)]; omega
            have q3 : (p : Int) - 1 = (q : Int) := by omega
            clear hwr hst hy hsx hsy hk hy9 hq hp0 hc hro2 hqo
            go_wp2_with fail
            go_quiet ((go_at_call 25; exact Calls.quiet_of (C.out _)))
            by_cases hc0 : k < 0
            · have HN := Lib.hid (show posI x out out.length = posI x out q by rw [HPE.out, HST.out, if_pos hc0])
              go_wp2_with fail
              exact ⟨⟨q, by omega, rfl, HN.out, _, by rw [HW.out, World.drewN_drewN]⟩, by have := HQ.out; simp [RowKit.intOf]; omega⟩
            · have HN := Lib.hid (show posI x out out.length = p by rw [HPE.out, HST.out, if_neg hc0])
              go_wp2_with fail
              go_meet
              exact ⟨p, by omega, rfl, HN.out, _, by rw [HW.out, World.drewN_drewN]⟩
      case rest =>
        obtain ⟨p, hp, rfl, hpe, n0, hw0⟩ := hcut
        obtain ⟨wx, hwx⟩ : ∃ wx : World, wx = wo.drewN n0 := ⟨_, rfl⟩
        rw [← hwx] at hw0
        have hw1 := hw0.symm
        subst hw1
        clear hw0
        have HPE := Lib.hid hpe
        have HWX := Lib.hid hwx
        clear hpe
        by_cases hp0 : p = 0
        · by_cases hout0 : out = []
          · subst hp0
            subst hout0
            have HIN := Lib.hid (show insS x [] 0 = [x] by unfold insS; rw [if_neg (by omega)]; rfl)
            have hn := HNIL.out rfl
            injection hn with hn1 _ hn2
            subst hn1 hn2
            clear hwx
            go_wp2_with fail
            go_quiet (fail)
            obtain ⟨wy, hwy⟩ : ∃ wy, wy = wx.drewN nq := ⟨_, rfl⟩
            rw [← hwy]
            have BWY := Lib.hid (show Below wo.heap.size wo wy by rw [hwy, HWX.out]; exact below_drewN (below_drewN (Below.refl _ _) _) _)
            have BY := Lib.hid (HB.out.trans (BWY.out.mono hz))
            have hzy2 : w.heap.size ≤ wy.heap.size := BY.out.size
            clear hwy
            have HMD := Lib.hid (World.ownsRow_made (e := 9) (size := 1) wy #[] 0 (Nat.le_refl wy.heap.size) (by decide) rfl)
            have BA := Lib.hid ((Below.refl wy.heap.size wy).alloc (Nat.le_refl _) (Obj.cells #[] 9))
            obtain ⟨b, off, rfl, hb, hc⟩ := HXC.out
            have hc6 := ((BY.out.alloc hzy2 (Obj.cells #[] 9)).cell (p := ⟨b, off + i, none⟩) hb).trans hc
            have hbw : b < wy.heap.size := by omega
            have hc7 := (BY.out.cell (p := ⟨b, off + i, none⟩) hb).trans hc
            have OA := Lib.hid (HMD.out.alloc (Obj.cells #[.string ⟨x.toArray⟩] 9))
            have BAA := Lib.hid (BA.out.alloc (by simp) (Obj.cells #[.string ⟨x.toArray⟩] 9))
            clear hc
            go_wp2_with (first | (at_builtin; refine wpList_append_own_none rfl _ _ 22 rfl wy.heap.size 9 i0 1 Tryz.underlying22 hi _ 0 [] rfl HMD.out rfl ?_) | (at_builtin; refine wpList_append_own _ rfl _ _ 22 rfl wy.heap.size 9 i0 (.string ⟨#[]⟩) 1 16 Tryz.underlying22 hi hz0 hz1 hz2 rfl (by decide) _ 0 _ rfl OA.out ⟨wy.heap.size + 1, 0, none⟩ 1 1 [strV x] rfl rfl ?e1 ?e2 ?e3 ?e4 ?e5 ?_))
            case e1 =>
              intro j u hj
              match j, hj with
              | 0, hj => simp at hj; subst hj; simp [Addr.add, strV, go_sem]
            case e2 => intro u hu; simp at hu; subst hu; rfl
            case e3 => unfold maxLen; omega
            case e4 => omega
            case e5 => simp <;> omega
            intro v7 w7 ho7 hg7 _
            have B7 := Lib.hid (BAA.out.grown hg7 (by simp; omega) (fun k hk => (OA.out.lt k hk).1))
            have O7 := Lib.hid ho7
            clear ho7 hg7
            go_wp2_with (at_builtin; refine wpList_append_own_none rfl _ _ 22 rfl wy.heap.size 9 i0 1 Tryz.underlying22 hi _ _ _ rfl O7.out rfl ?_)
            have O8 := Lib.hid (show w7.ownsRow w.heap.size 9 1 v7 (insS x [] 0).length ((insS x [] 0).map strV) by
              rw [HIN.out]
              exact own_mono O7.out hzy2)
            have hne8 : insS x [] 0 ≠ [] := by rw [HIN.out]; simp
            go_wp2_with fail
            exact ⟨⟨i + 1, insS x [] 0, by omega, by have := insS_len x [] 0; simp at this; omega, by go_num, O8.out, BY.out.trans (B7.out.mono hzy2), fun h => absurd h hne8, by rw [HSO.out, HPE.out], fun y hy => by
              rcases insS_mem hy with h | h
              · subst h; exact hx9
              · exact HOS.out y h⟩, by simp [RowKit.intOf]; omega⟩
          · have hpos : 0 < out.length := by cases out with | nil => exact absurd rfl hout0 | cons _ _ => simp
            obtain ⟨b2, off2, rfl, _, _⟩ := HRO.out 0 hpos
            obtain ⟨b, off, rfl, hb, hc⟩ := HXC.out
            have HC := Lib.hid hc
            have HIN := Lib.hid (show insS x out p = out.take p ++ [x] ++ out.drop p by unfold insS; rw [if_neg (by omega)])
            have hnp : ¬ 0 < p := by omega
            clear hwx hc hp0 hout0
            go_wp2_with fail
            go_quiet (fail)
            obtain ⟨wy, hwy⟩ : ∃ wy, wy = wx.drewN nq := ⟨_, rfl⟩
            rw [← hwy]
            have BWY := Lib.hid (show Below wo.heap.size wo wy by rw [hwy, HWX.out]; exact below_drewN (below_drewN (Below.refl _ _) _) _)
            have hzy : wo.heap.size ≤ wy.heap.size := BWY.out.size
            have BY := Lib.hid (HB.out.trans (BWY.out.mono hz))
            have hzy2 : w.heap.size ≤ wy.heap.size := BY.out.size
            clear hwy
            have hl1 := fun w => slS_to ⟨b2, off2, none⟩ out.length c p (by omega) (by omega) w
            have hl2 := fun w => slS_from b2 off2 out.length c p hp w
            have HMD := Lib.hid (World.ownsRow_made (e := 9) (size := 1) wy #[] 0 (Nat.le_refl wy.heap.size) (by decide) rfl)
            have BA := Lib.hid ((Below.refl wy.heap.size wy).alloc (Nat.le_refl _) (Obj.cells #[] 9))
            have RA1 := Lib.hid ((HRO.out.below BWY.out).below BA.out)
            have htl : (out.take p).length = p := by rw [List.length_take]; omega
            go_wp2_with (at_builtin; refine wpList_append_own _ rfl _ _ 22 rfl wy.heap.size 9 i0 (.string ⟨#[]⟩) 1 16 Tryz.underlying22 hi hz0 hz1 hz2 rfl (by decide) _ 0 [] rfl HMD.out ⟨b2, off2, none⟩ p c ((out.take p).map strV) rfl ?a0z ?a1z ?a2z ?a3z ?a4z ?a5z ?_)
            case a0z => rw [List.length_map, htl, Nat.mul_one]
            case a1z => exact toS_cells RA1.out
            case a2z => exact mapS_one _
            case a3z => unfold maxLen; omega
            case a4z => omega
            case a5z => simp
            intro v6 w6 ho6 hg6 _
            have B6 := Lib.hid (BA.out.grown hg6 (by simp) (fun k hk => (HMD.out.lt k hk).1))
            have hz6 : wy.heap.size ≤ w6.heap.size := B6.out.size
            have O6 := Lib.hid (show w6.ownsRow wy.heap.size 9 1 v6 p ((out.take p).map strV) by rw [List.map_take]; exact ho6)
            clear ho6 hg6
            have hc6 := ((BY.out.trans (B6.out.mono hzy2)).cell (p := ⟨b, off + i, none⟩) hb).trans HC.out
            have hbw : b < w6.heap.size := by omega
            have OA := Lib.hid (O6.out.alloc (Obj.cells #[.string ⟨x.toArray⟩] 9))
            have BAA := Lib.hid (B6.out.alloc hz6 (Obj.cells #[.string ⟨x.toArray⟩] 9))
            go_wp2_with (at_builtin; refine wpList_append_own _ rfl _ _ 22 rfl wy.heap.size 9 i0 (.string ⟨#[]⟩) 1 16 Tryz.underlying22 hi hz0 hz1 hz2 rfl (by decide) _ p _ rfl OA.out ⟨w6.heap.size, 0, none⟩ 1 1 [strV x] rfl ?b0z ?b1z ?b2z ?b3z ?b4z ?b5z ?_)
            case b0z => rfl
            case b1z =>
              intro j u hj
              match j, hj with
              | 0, hj => simp at hj; subst hj; simp [Addr.add, strV]
            case b2z => intro u hu; simp at hu; subst hu; rfl
            case b3z => unfold maxLen; omega
            case b4z => omega
            case b5z => simp; omega
            intro v7 w7 ho7 hg7 _
            have B7 := Lib.hid (BAA.out.grown hg7 (by simp; omega) (fun k hk => (OA.out.lt k hk).1))
            have hz7 : wy.heap.size ≤ w7.heap.size := B7.out.size
            have O7 := Lib.hid ho7
            have RA7 := Lib.hid ((HRO.out.below BWY.out).below B7.out)
            clear ho7 hg7
            go_wp2_with (at_builtin; refine wpList_append_own _ rfl _ _ 22 rfl wy.heap.size 9 i0 (.string ⟨#[]⟩) 1 16 Tryz.underlying22 hi hz0 hz1 hz2 rfl (by decide) _ _ _ rfl O7.out (adS b2 off2 c p) (out.length - p) (c - p) ((out.drop p).map strV) rfl ?c0z ?c1z ?c2z ?c3z ?c4z ?c5z ?_)
            case c0z => rw [List.length_map, List.length_drop, Nat.mul_one]
            case c1z => exact adS_cells RA7.out hac
            case c2z => exact mapS_one _
            case c3z => unfold maxLen; omega
            case c4z => omega
            case c5z => omega
            intro v8 w8 ho8 hg8 hnil8
            have B8 := Lib.hid (B7.out.grown hg8 hz7 (fun k hk => (O7.out.lt k hk).1))
            have O8 := Lib.hid (show w8.ownsRow w.heap.size 9 1 v8 (insS x out p).length ((insS x out p).map strV) by
              rw [HIN.out, List.map_append, List.map_append, List.length_append, List.length_append, htl, List.length_drop, List.map_take, List.map_drop, List.append_assoc]
              exact own_mono ho8 hzy2)
            have hne8 : insS x out p ≠ [] := by rw [HIN.out]; simp
            clear ho8 hg8 hnil8
            go_wp2_with fail
            exact ⟨⟨i + 1, insS x out p, by omega, by have := insS_len x out p; omega, by go_num, O8.out, BY.out.trans (B8.out.mono hzy2), fun h => absurd h hne8, by rw [HSO.out, HPE.out], fun y hy => by
              rcases insS_mem hy with h | h
              · subst h; exact hx9
              · exact HOS.out y h⟩, by simp [RowKit.intOf]; omega⟩
        · obtain ⟨q, hq⟩ : ∃ q, p = q + 1 := ⟨p - 1, by omega⟩
          have hqo : q < out.length := by omega
          have hpos : 0 < out.length := by omega
          obtain ⟨b, off, hve, hb, hc⟩ := HXC.out
          have hc1 := ((below_drewN (HB.out) n0).cell (p := ⟨b, off + i, none⟩) hb).trans hc
          rw [← hwx] at hc1
          have hro2 := HRO.out.drewN n0
          rw [← hwx] at hro2
          obtain ⟨b2, off2, rfl, hb2, hc2⟩ := hro2 q hqo
          have hgd : out.getD (p - 1) [] = out[q] := by
            rw [hq, Nat.add_sub_cancel, List.getD_eq_getElem?_getD, List.getElem?_eq_getElem hqo]; rfl
          obtain ⟨y, hy⟩ : ∃ y, y = out[q] := ⟨_, rfl⟩
          rw [← hy] at hc2 hgd
          obtain ⟨sx, hsx⟩ : ∃ s : ByteArray, s = ⟨x.toArray⟩ := ⟨_, rfl⟩
          obtain ⟨sy, hsy⟩ : ∃ s : ByteArray, s = ⟨y.toArray⟩ := ⟨_, rfl⟩
          rw [← hsx] at hc1
          rw [← hsy] at hc2
          have q1 : (0 : Int) ≤ (q : Int) ∧ (q : Int) < (out.length : Int) := by omega
          have q0 : 0 < p := by omega
          have q2 : IntKind.i64.wrap ((p : Int) - 1) = (q : Int) := by rw [IntWalk.i64_in _ (by omega)]; omega
          have q3 : (p : Int) - 1 = (q : Int) := by omega
          by_cases hyx : y = x
          · have HIN := Lib.hid (show insS x out p = out by unfold insS; rw [if_pos ⟨q0, by rw [hgd, hyx]⟩])
            have u1 : (sy.toList == sx.toList) = true := by rw [hsx, hsy, hyx]; simp
            clear hwx hy hsx hsy hq hp0 hc hro2 hqo hgd hyx
            subst hve
            go_wp2_with fail
            go_quiet (fail)
            clear q2 q3
            go_wp2_with fail
            exact ⟨⟨i + 1, out, by omega, by omega, by go_num, ownS_below HOW.out (by rw [HWX.out]; exact below_drewN (below_drewN (Below.refl _ _) _) _), by rw [HWX.out]; exact below_drewN (below_drewN HB.out _) _, HNIL.out, by rw [HSO.out, HPE.out, HIN.out], HOS.out⟩, by simp [RowKit.intOf]; omega⟩
          · have HIN := Lib.hid (show insS x out p = out.take p ++ [x] ++ out.drop p by unfold insS; rw [if_neg (by intro h; exact hyx (by rw [← hgd]; exact h.2))])
            have u1 : (sy.toList == sx.toList) = false := by
              rw [beq_eq_false_iff_ne, ByteArray.toList_eq, ByteArray.toList_eq]
              intro e
              rw [hsx, hsy] at e
              exact hyx e
            have HC := Lib.hid hc
            clear hwx hy hsx hsy hq hp0 hro2 hqo hgd hyx hc
            subst hve
            go_wp2_with fail
            go_quiet (fail)
            clear q2 q3 hb2 hc1 hc2 u1 q1
            obtain ⟨wy, hwy⟩ : ∃ wy, wy = wx.drewN nq := ⟨_, rfl⟩
            rw [← hwy]
            have BWY := Lib.hid (show Below wo.heap.size wo wy by rw [hwy, HWX.out]; exact below_drewN (below_drewN (Below.refl _ _) _) _)
            have hzy : wo.heap.size ≤ wy.heap.size := BWY.out.size
            have BY := Lib.hid (HB.out.trans (BWY.out.mono hz))
            have hzy2 : w.heap.size ≤ wy.heap.size := BY.out.size
            clear hwy
            have hl1 := fun w => slS_to ⟨b2, off2, none⟩ out.length c p (by omega) (by omega) w
            have hl2 := fun w => slS_from b2 off2 out.length c p hp w
            have HMD := Lib.hid (World.ownsRow_made (e := 9) (size := 1) wy #[] 0 (Nat.le_refl wy.heap.size) (by decide) rfl)
            have BA := Lib.hid ((Below.refl wy.heap.size wy).alloc (Nat.le_refl _) (Obj.cells #[] 9))
            have RA1 := Lib.hid ((HRO.out.below BWY.out).below BA.out)
            have htl : (out.take p).length = p := by rw [List.length_take]; omega
            go_wp2_with (at_builtin; refine wpList_append_own _ rfl _ _ 22 rfl wy.heap.size 9 i0 (.string ⟨#[]⟩) 1 16 Tryz.underlying22 hi hz0 hz1 hz2 rfl (by decide) _ 0 [] rfl HMD.out ⟨b2, off2, none⟩ p c ((out.take p).map strV) rfl ?a0y ?a1y ?a2y ?a3y ?a4y ?a5y ?_)
            case a0y => rw [List.length_map, htl, Nat.mul_one]
            case a1y => exact toS_cells RA1.out
            case a2y => exact mapS_one _
            case a3y => unfold maxLen; omega
            case a4y => omega
            case a5y => simp
            intro v6 w6 ho6 hg6 _
            have B6 := Lib.hid (BA.out.grown hg6 (by simp) (fun k hk => (HMD.out.lt k hk).1))
            have hz6 : wy.heap.size ≤ w6.heap.size := B6.out.size
            have O6 := Lib.hid (show w6.ownsRow wy.heap.size 9 1 v6 p ((out.take p).map strV) by rw [List.map_take]; exact ho6)
            clear ho6 hg6
            have hc6 := ((BY.out.trans (B6.out.mono hzy2)).cell (p := ⟨b, off + i, none⟩) hb).trans HC.out
            have hbw : b < w6.heap.size := by omega
            have OA := Lib.hid (O6.out.alloc (Obj.cells #[.string ⟨x.toArray⟩] 9))
            have BAA := Lib.hid (B6.out.alloc hz6 (Obj.cells #[.string ⟨x.toArray⟩] 9))
            go_wp2_with (at_builtin; refine wpList_append_own _ rfl _ _ 22 rfl wy.heap.size 9 i0 (.string ⟨#[]⟩) 1 16 Tryz.underlying22 hi hz0 hz1 hz2 rfl (by decide) _ p _ rfl OA.out ⟨w6.heap.size, 0, none⟩ 1 1 [strV x] rfl ?b0y ?b1y ?b2y ?b3y ?b4y ?b5y ?_)
            case b0y => rfl
            case b1y =>
              intro j u hj
              match j, hj with
              | 0, hj => simp at hj; subst hj; simp [Addr.add, strV]
            case b2y => intro u hu; simp at hu; subst hu; rfl
            case b3y => unfold maxLen; omega
            case b4y => omega
            case b5y => simp; omega
            intro v7 w7 ho7 hg7 _
            have B7 := Lib.hid (BAA.out.grown hg7 (by simp; omega) (fun k hk => (OA.out.lt k hk).1))
            have hz7 : wy.heap.size ≤ w7.heap.size := B7.out.size
            have O7 := Lib.hid ho7
            have RA7 := Lib.hid ((HRO.out.below BWY.out).below B7.out)
            clear ho7 hg7
            go_wp2_with (at_builtin; refine wpList_append_own _ rfl _ _ 22 rfl wy.heap.size 9 i0 (.string ⟨#[]⟩) 1 16 Tryz.underlying22 hi hz0 hz1 hz2 rfl (by decide) _ _ _ rfl O7.out (adS b2 off2 c p) (out.length - p) (c - p) ((out.drop p).map strV) rfl ?c0y ?c1y ?c2y ?c3y ?c4y ?c5y ?_)
            case c0y => rw [List.length_map, List.length_drop, Nat.mul_one]
            case c1y => exact adS_cells RA7.out hac
            case c2y => exact mapS_one _
            case c3y => unfold maxLen; omega
            case c4y => omega
            case c5y => omega
            intro v8 w8 ho8 hg8 hnil8
            have B8 := Lib.hid (B7.out.grown hg8 hz7 (fun k hk => (O7.out.lt k hk).1))
            have O8 := Lib.hid (show w8.ownsRow w.heap.size 9 1 v8 (insS x out p).length ((insS x out p).map strV) by
              rw [HIN.out, List.map_append, List.map_append, List.length_append, List.length_append, htl, List.length_drop, List.map_take, List.map_drop, List.append_assoc]
              exact own_mono ho8 hzy2)
            have hne8 : insS x out p ≠ [] := by rw [HIN.out]; simp
            clear ho8 hg8 hnil8
            go_wp2_with fail
            exact ⟨⟨i + 1, insS x out p, by omega, by have := insS_len x out p; omega, by go_num, O8.out, BY.out.trans (B8.out.mono hzy2), fun h => absurd h hne8, by rw [HSO.out, HPE.out], fun y hy => by
              rcases insS_mem hy with h | h
              · subst h; exact hx9
              · exact HOS.out y h⟩, by simp [RowKit.intOf]; omega⟩
    · obtain rfl : i = L.length := by omega
      go_wp2_with fail
      go_ret
      exact ⟨_, rfl, by have := HOUT.out; rw [List.take_length] at this; rw [← this]; exact HOW.out, HB.out⟩
end Go.Proofs.YtglckcenjnieaaaGreatDoor
