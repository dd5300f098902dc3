/- Contract of the program's overlaps (glob). -/
import Derived.Test.YtaalfnfikjmomaaGlbOf
import Derived.WalkMore
namespace Go.Proofs.Ytaalfnfikjmomaa
open Go.RowKit Go.Lib Go.Maps
/-- What holds at the head of each outer round, with the number that falls. -/
def ORel (d0 : Bool) (M N : List MSt) (w : World) (n ea eb k : Nat) (s7 s9 : Value) (W : World) : Prop :=
  ∃ (Wl : List (Nat × Nat)) (F : Nat → Option Nat) (S : Nat → Nat → Bool), s7 = .bool d0 ∧ k = 2 * unseen M.length N.length S + Wl.length ∧ Wl.length + unseen M.length N.length S ≤ M.length * N.length + 1 ∧ OMem w W n ea eb s9 Wl F S ∧ Srch M N none [] Wl S
theorem omem_start (w : World) (n ea eb : Nat) : OMem w ((((w.alloc (Obj.cells #[.int .i64 0, .int .i64 0] 81)).alloc (Obj.cells #[.int .i64 (ea : Nat), .int .i64 (eb : Nat)] 81)).alloc (Obj.map #[] 0)).alloc (Obj.cells #[.int .i64 0, .int .i64 0] 81)) n ea eb (.slice (some ⟨w.heap.size + 1 + 1 + 1, 0, none⟩) 1 1) [(0, 0)] (fun _ => none) (fun _ _ => false) := by
  have b2 := (BlkAt.new (w.alloc (Obj.cells #[.int .i64 0, .int .i64 0] 81)) 81 #[.int .i64 (ea : Nat), .int .i64 (eb : Nat)])
  simp only [World.size_alloc] at b2
  have mp := World.ownsMap_made ((w.alloc (Obj.cells #[.int .i64 0, .int .i64 0] 81)).alloc (Obj.cells #[.int .i64 (ea : Nat), .int .i64 (eb : Nat)] 81)) Try.prog 3 (slR n)
  simp only [World.size_alloc] at mp
  have rw' := World.ownsRow_lit (base := w.heap.size + 3) (e := 81) (size := 2) (((w.alloc (Obj.cells #[.int .i64 0, .int .i64 0] 81)).alloc (Obj.cells #[.int .i64 (ea : Nat), .int .i64 (eb : Nat)] 81)).alloc (Obj.map #[] 0)) #[.int .i64 0, .int .i64 0] 1 (by simp) (by decide) rfl
  simp only [World.size_alloc] at rw'
  refine ⟨?_, rw', ⟨⟨_, 0, Nat.zero_le _, mp.alloc _, ⟨_, rfl⟩, fun _ _ => rfl⟩, fun _ _ _ h => (nomatch h), fun _ _ _ _ => rfl, fun _ _ _ _ _ h => (nomatch h)⟩, fun _ _ _ h => (nomatch h), ?_⟩
  · exact (b2.of_block (Below.heap_alloc _ _ _ (by simp))).of_block (Below.heap_alloc _ _ _ (by simp))
  · exact ((((Below.refl w.heap.size w).alloc (Nat.le_refl _) _).alloc (by simp) _).alloc (by simp; omega) _).alloc (by simp; omega) _
theorem sum_const (n : Nat) : ∀ l : List Nat, (l.map fun _ => n).sum = l.length * n
  | [] => by simp
  | a :: l => by rw [List.map_cons, List.sum_cons, sum_const n l, List.length_cons, Nat.succ_mul]; omega
theorem unseen_le (m n : Nat) (S : Nat → Nat → Bool) : unseen m n S ≤ m * n := by
  unfold unseen
  refine Nat.le_trans List.countP_le_length ?_
  unfold allP
  rw [List.length_flatMap]
  have : ((List.range m).map fun a => ((List.range n).map fun b => (a, b)).length) = (List.range m).map fun _ => n := by
    apply List.map_congr_left
    intro a _
    simp
  rw [this, sum_const, List.length_range]
  exact Nat.le_refl _
theorem eql_nil (w : World) : (binOp .eql 71 (.slice none 0 0) (.slice none 0 0)).run Try.prog w = .ok (.bool true) w := Lib.run_eql_slice_nil _ _ _ _ _ _ _ _ Try.underlying71
theorem eql_some (w : World) (g n m : Nat) : (binOp .eql 71 (.slice (some ⟨g, 0, none⟩) n m) (.slice none 0 0)).run Try.prog w = .ok (.bool false) w := Lib.run_eql_slice_nil _ _ _ _ _ _ _ _ Try.underlying71
/-- What holds at the head of each inner round. -/
def IRel (d0 : Bool) (M N : List MSt) (w : World) (n ea eb kk : Nat) (p : Nat × Nat) (vf : Option Addr) (j : Nat) (s7 s9 : Value) (W : World) : Prop :=
  ∃ (Wl : List (Nat × Nat)) (F : Nat → Option Nat) (S : Nat → Nat → Bool), s7 = .bool d0 ∧ j ≤ (succL M N p).length ∧ OMem w W n ea eb s9 Wl F S ∧ Srch M N (some p) ((succL M N p).take j) Wl S ∧ ReadsPr W vf (succL M N p) ∧
    (∀ b, vf = some ⟨b, 0, none⟩ → s9.ownBlock ≠ some b ∧ (∀ a g, a ≤ 4097 → F a = some g → g ≠ b) ∧ b ≠ w.heap.size + 2 ∧ b < W.heap.size) ∧ 2 * unseen M.length N.length S + Wl.length + 1 ≤ kk ∧ Wl.length + unseen M.length N.length S ≤ M.length * N.length + 1
theorem own_some {w : World} {B n size : Nat} {t : TypeId} {a : Option Addr} {l c : Nat} {xs : List Value} (h : w.ownsRow B t size (.slice a l c) (n + 1) xs) : ∃ g, a = some ⟨g, 0, none⟩ ∧ B ≤ g ∧ n + 1 ≤ c ∧ c ≤ maxLen := by
  rcases h.2 with ⟨_, h0⟩ | ⟨g, cap, cur, e, hB, hg, hnc, hcm, _⟩
  · cases h0
  · injection e with e1 e2 e3
    exact ⟨g, e1, hB, by omega, by omega⟩
/-- What holds once the set of states for a pair is there. -/
def CutP (w : World) (n ea eb : Nat) (sv : Value) (Wl : List (Nat × Nat)) (S : Nat → Nat → Bool) (qa qb nb bf : Nat) (l : List (Nat × Nat)) (wx : World) : Prop :=
  ∃ (gq : Nat) (F : Nat → Option Nat), F qa = some gq ∧ OMem w wx n ea eb sv Wl F S ∧ BlkAt wx nb 81 #[.int .i64 (qa : Nat), .int .i64 (qb : Nat)] ∧ ReadsPr wx (some ⟨bf, 0, none⟩) l ∧
    sv.ownBlock ≠ some bf ∧ (∀ a g, a ≤ 4097 → F a = some g → g ≠ bf) ∧ bf ≠ w.heap.size + 2 ∧ bf < wx.heap.size ∧ nb ≠ gq ∧ w.heap.size + 3 ≤ gq
set_option maxRecDepth 100000 in
theorem cut_put {w W1 w2 : World} {n ea eb : Nat} {sv : Value} {Wl : List (Nat × Nat)} {F : Nat → Option Nat} {S : Nat → Nat → Bool} {qa qb nb bf gq : Nat} {l : List (Nat × Nat)}
    (hM : OMem w W1 n ea eb sv Wl F S) (hnb : BlkAt W1 nb 81 #[.int .i64 (qa : Nat), .int .i64 (qb : Nat)]) (hrf : ReadsPr W1 (some ⟨bf, 0, none⟩) l) (b1 : sv.ownBlock ≠ some bf) (b2 : ∀ a g, a ≤ 4097 → F a = some g → g ≠ bf) (b3 : bf ≠ w.heap.size + 2) (b4 : bf < W1.heap.size)
    (hnbK : nb ≠ w.heap.size + 2) (hqa : qa ≤ 4097) (hF : F qa = none) (h1 : W1.heap.size ≤ gq) (h2 : StAt w2 gq n (fun _ => false)) (h3 : Below W1.heap.size W1 w2) :
    ∃ w5, (Instr.mapUpdate 82 (.map (some (w.heap.size + 1 + 1))) (.int .i64 (qa : Nat)) (.slice (some ⟨gq, 0, none⟩) n n)).run Try.prog w2 = .ok () w5 ∧ CutP w n ea eb sv Wl S qa qb nb bf l w5 := by
  have hK : w.heap.size + 2 < W1.heap.size := by
    obtain ⟨D, cnt, _, hmm, _⟩ := hM.seen.1
    exact hmm.lt
  have M2 := hM.below h3
  have z := h3.size
  have hlt := hnb.lt
  obtain ⟨w5, hrun, hs5, hg5⟩ := M2.seen.put hqa hF h2 (by omega) (by omega) (fun a' g' ha hf => by
    have e1 := (hM.seen.2.1 a' g' ha hf).1.lt
    have e2 := (hM.seen.2.1 a' g' ha hf).2
    omega)
  have hsv : sv.ownBlock ≠ some gq := fun e => by have := (hM.row.lt _ e).2; omega
  refine ⟨w5, hrun, gq, _, if_pos rfl, M2.put hs5 rfl hsv hg5, (hnb.below h3).of_block (hg5.block _ (by omega) (fun e => by injection e with e; omega)), ?_, b1, fun a g ha hf => ?_, b3, ?_, by omega, by omega⟩
  · refine (hrf.of_block z (fun b hb => ?_)).of_block hg5.size (fun b hb => ?_)
    · injection hb with hb; injection hb with hb; subst hb; exact h3.block _ b4
    · injection hb with hb; injection hb with hb; subst hb; exact hg5.block _ (by omega) (fun e => by injection e with e; omega)
  · change (if a = qa then some gq else F a) = some g at hf
    by_cases e : a = qa
    · rw [if_pos e] at hf; injection hf with hf; omega
    · rw [if_neg e] at hf; exact b2 a g ha hf
  · have := hg5.size; omega
set_option maxHeartbeats 16000000 in
set_option maxRecDepth 100000 in
theorem overlaps_m_any (a1 a2 : Option Addr) (c1 c2 : Nat) (M N : List MSt) (hM : M.length ≤ 4097) (hN : N.length ≤ 4097) (mM : Mach M) (mN : Mach N) (w : World) (hr : ReadsM w a1 M) (hr2 : ReadsM w a2 N) :
    Calls Try.prog 29 #[.slice a1 M.length c1, .slice a2 N.length c2] w fun e w' => (∃ b : Bool, e = .returned (.bool b) ∧ (b = true ↔ RT M N (0, 0) (M.length - 1, N.length - 1))) ∧ Below w.heap.size w w' := by
  have R1 := Lib.hid hr
  have R2 := Lib.hid hr2
  have l1 := List.length_pos_iff.2 mM.ne
  have l2 := List.length_pos_iff.2 mN.ne
  have MM := Lib.hid (And.intro mM mN)
  have HL := Lib.hid (And.intro hM (And.intro hN (And.intro l1 l2)))
  obtain ⟨ea, hea⟩ : ∃ ea, ea = M.length - 1 := ⟨_, rfl⟩
  obtain ⟨eb, heb⟩ : ∃ eb, eb = N.length - 1 := ⟨_, rfl⟩
  have e1 : (M.length : Int) - 1 = (ea : Int) := by omega
  have e2 : (N.length : Int) - 1 = (eb : Int) := by omega
  have m0 : (1 : Int) ≤ M.length ∧ (M.length : Int) ≤ 4097 ∧ (1 : Int) ≤ N.length ∧ (N.length : Int) ≤ 4097 := by omega
  have HE := Lib.hid (And.intro hea heb)
  clear hr hr2 hea heb mM mN hM hN l1 l2
  obtain ⟨i0, hi0, hz0, hz1, hzb⟩ := info_parts info81
  have hmm := @run_makeMap Try.prog
  go_enter Try.func29, Try.ntmps29
  go_wp2_with fail
  go_step3
  go_upto_region 2 with (fail)
  go_cut [7] (fun s7 wx => s7 = .bool (decide ((0, 0) = (ea, eb))) ∧ wx = (w.alloc (Obj.cells #[.int .i64 0, .int .i64 0] 81)).alloc (Obj.cells #[.int .i64 (ea : Nat), .int .i64 (eb : Nat)] 81))
  case first =>
    by_cases h1 : ea = 0
    · subst h1
      by_cases h2 : eb = 0
      · subst h2
        go_wp2_with fail
        go_meet
        exact ⟨rfl, rfl⟩
      · have h3 : decide (((0 : Nat), (0 : Nat)) = (0, eb)) = false := decide_eq_false (fun e => h2 (by injection e with _ e; exact e.symm))
        have h4 : ¬ ((0 : Int) = (eb : Int)) := by omega
        have h5 : ((0 : Int) == (eb : Int)) = false := by rw [beq_eq_false_iff_ne]; exact h4
        have H3 := Lib.hid h3
        clear h3
        go_wp2_with fail
        go_meet
        exact ⟨by rw [H3.out], rfl⟩
    · have h3 : decide (((0 : Nat), (0 : Nat)) = (ea, eb)) = false := decide_eq_false (fun e => h1 (by injection e with e _; exact e.symm))
      have h4 : ¬ ((0 : Int) = (ea : Int)) := by omega
      have h5 : ((0 : Int) == (ea : Int)) = false := by rw [beq_eq_false_iff_ne]; exact h4
      have H3 := Lib.hid h3
      clear h3
      go_wp2_with fail
      go_meet
      exact ⟨by rw [H3.out], rfl⟩
  case rest =>
    obtain ⟨rfl, rfl⟩ := hcut
    have HD9 := Lib.hid (show ∃ d0, d0 = decide ((0, 0) = (ea, eb)) from ⟨_, rfl⟩)
    obtain ⟨d0, hd0⟩ := HD9.out
    rw [← hd0]
    have HD := Lib.hid hd0
    clear hd0 HD9
    go_wp2_with fail
    go_step3
    go_wp2_with fail
    have HNQ := Lib.hid (show ∃ n, n = (N.length + 63) / 64 from ⟨_, rfl⟩)
    obtain ⟨n, hn⟩ := HNQ.out
    have HN := Lib.hid hn
    have ST := Lib.hid (omem_start w n ea eb)
    generalize ((((w.alloc (Obj.cells #[.int .i64 0, .int .i64 0] 81)).alloc (Obj.cells #[.int .i64 (ea : Nat), .int .i64 (eb : Nat)] 81)).alloc (Obj.map #[] 0)).alloc (Obj.cells #[.int .i64 0, .int .i64 0] 81)) = W0 at ST ⊢
    clear hn HNQ
    go_loopw [7, 9] (fun s7 s9 wr => ∃ k, ORel d0 M N w n ea eb k s7 s9 wr) (fun s7 s9 wr => lst (fun k => ORel d0 M N w n ea eb k s7 s9 wr))
    case atStart => exact ⟨_, [(0, 0)], _, _, rfl, rfl, by have := unseen_le M.length N.length (fun _ _ => false); simp; omega, ST.out, srch_start MM.out.1 MM.out.2⟩
    case round =>
      obtain ⟨hk, hmin⟩ := lst_spec hrel
      clear hmin
      have hk2 := hk
      have HKK := Lib.hid (show ∃ kk, kk = lst (fun k => ORel d0 M N w n ea eb k u7 u9 wr) from ⟨_, rfl⟩)
      obtain ⟨kk, hkk⟩ := HKK.out
      rw [← hkk] at hk
      have HK := Lib.hid hkk
      obtain ⟨Wl, F, S, rfl, ek, hlen, hmem, hsr⟩ := hk
      clear hk2 hkk HKK hrel
      obtain ⟨sa, sc, rfl⟩ := own_slice hmem.row
      rcases List.eq_nil_or_concat Wl with rfl | ⟨Wp, p, rfl⟩
      · have HO := Lib.hid (And.intro (srch_over hsr) hmem.base)
        clear hsr hmem ek hlen
        go_wp2_with fail
        rw [Exit.noGoto_ret]
        go_ret
        refine ⟨⟨_, rfl, ?_⟩, HO.out.2⟩
        rw [HO.out.1, HD.out, decide_eq_true_iff, HE.out.1, HE.out.2]
      · rw [List.concat_eq_append] at ek hlen hmem hsr ⊢
        have hrow := hmem.row
        rw [List.length_append, List.length_singleton] at ek hlen hrow hmem ⊢
        obtain ⟨g, rfl, hgB, hgc, hgm⟩ := own_some hrow
        have hat := prC_at (Wp ++ [p]) Wp.length (by simp)
        rw [List.getElem_concat_length rfl] at hat
        have x0 := hrow.cellAt (Wp.length * 2) (by omega)
        have x1 := hrow.cellAt (Wp.length * 2 + 1) (by omega)
        rw [Nat.mul_comm Wp.length 2, hat.1, Nat.mul_comm 2 Wp.length] at x0
        rw [Nat.mul_comm Wp.length 2, hat.2, Nat.mul_comm 2 Wp.length] at x1
        obtain ⟨sp, hp1, hp2, hprt⟩ := srch_pop hsr
        have LEN := Lib.hid (And.intro ek hlen)
        have hm2 : OMem w wr n ea eb (.slice (some ⟨g, 0, none⟩) Wp.length sc) Wp F S := hmem.pop
        have W6B := Lib.hid ((Below.refl wr.heap.size wr).alloc (Nat.le_refl _) (Obj.cells #[.int .i64 (p.1 : Nat), .int .i64 (p.2 : Nat)] 81))
        have M6 := Lib.hid (hm2.below W6B.out)
        have FO := Lib.hid (following_any a1 a2 c1 c2 M N p HL.out.1 HL.out.2.1 hp1 hp2 (wr.alloc (Obj.cells #[.int .i64 (p.1 : Nat), .int .i64 (p.2 : Nat)] 81)) (R1.out.below M6.out.base) (R2.out.below M6.out.base))
        have SP := Lib.hid (And.intro sp (And.intro hprt (And.intro hp1 hp2)))
        obtain ⟨n1, hn1⟩ : ∃ n1, n1 = Wp.length := ⟨_, rfl⟩
        rw [← hn1] at x0 x1 ⊢
        have HN1 := Lib.hid hn1
        have n0 : (0 : Int) ≤ n1 ∧ (n1 : Int) + 1 ≤ (sc : Int) := by omega
        have n2 : (n1 : Int) ≤ (sc : Int) := by omega
        have n9 : (n1 : Int) ≤ 16785410 := by
          have h1 := Nat.mul_le_mul HL.out.1 HL.out.2.1
          have h2 := LEN.out.2
          have h3 := HN1.out
          omega
        have HGM := Lib.hid (And.intro hgB hgm)
        clear hrow hat hmem hsr ek hlen hm2 sp hp1 hp2 hprt hn1 hgB hgc hgm
        go_wp2_with fail
        go_fit FO.out
        rintro e w2 ⟨v, rfl, hown, hb⟩
        obtain ⟨vf, vc, rfl, _, _, hrf, hbf⟩ := own_readsPr hown rfl
        obtain ⟨m, hm⟩ : ∃ m, m = (succL M N p).length := ⟨_, rfl⟩
        have HM := Lib.hid hm
        rw [← hm]
        have I0 := Lib.hid (show IRel d0 M N w n ea eb kk p vf 0 (.bool d0) (.slice (some ⟨g, 0, none⟩) n1 sc) w2 from by
          refine ⟨Wp, F, S, rfl, Nat.zero_le _, ?_, by rw [List.take_zero]; exact SP.out.1, hrf, fun b hbb => ?_, by have := LEN.out.1; omega, by have := LEN.out.2; omega⟩
          · have := M6.out.below hb
            rw [← HN1.out] at this
            exact this
          · have z := hbf b hbb
            have z6 := W6B.out.size
            have lt := hrf
            have r6 := M6.out
            refine ⟨fun e => ?_, fun a gg ha hf e => ?_, ?_, ?_⟩
            · have := (r6.row.lt _ e).2
              omega
            · have := (r6.seen.2.1 a gg ha hf).1.lt
              omega
            · have := r6.base.size
              have := r6.fin.lt
              simp at z
              have := M6.out.fin.lt
              have hk0 := r6.seen.1
              obtain ⟨D, cnt, _, hmm, _⟩ := hk0
              have := hmm.lt
              simp at this
              omega
            · rcases hown.2 with ⟨e, _⟩ | ⟨g', cap', cur', e, _, hg', _⟩
              · injection e with e; rw [e] at hbb; cases hbb
              · injection e with e _ _
                rw [e] at hbb
                injection hbb with hbb
                injection hbb with hbb
                subst hbb
                exact (Array.getElem?_eq_some_iff.1 hg').1)
        have m9 : (m : Int) ≤ 3 := by
          rw [hm, succL_at SP.out.2.2.1 SP.out.2.2.2]
          unfold succS
          rw [List.length_append, List.length_append]
          split <;> split <;> split <;> simp
        clear hown hb hrf hbf hm M6 FO x0 x1
        go_wp2_with fail
        obtain ⟨wo, rfl⟩ : ∃ wo : World, wo = wr := ⟨_, rfl⟩
        go_loopw [7, 9, 46] (fun s7 s9 s46 wx => ∃ j : Nat, s46 = .int .i64 (j : Int) ∧ IRel d0 M N w n ea eb kk p vf j s7 s9 wx) (fun _ _ s46 _ => m - (RowKit.intOf s46).toNat)
        case atStart => exact ⟨0, rfl, I0.out⟩
        case round =>
          obtain ⟨j, rfl, Wl, F, S, rfl, hj, hmem, hsr, hrf, hbf, hk1, hk2⟩ := hrel
          rw [← HM.out] at hj
          obtain ⟨s9a, s9c, rfl⟩ := own_slice hmem.row
          have KK := Lib.hid (And.intro hk1 hk2)
          have MEM := Lib.hid hmem
          have SR := Lib.hid hsr
          have RF := Lib.hid hrf
          have BF := Lib.hid hbf
          by_cases hlt : j < m
          · have hjl : j < (succL M N p).length := by rw [← HM.out]; exact hlt
            obtain ⟨bf, rfl, hbl, y0, y1⟩ := hrf j hjl
            obtain ⟨qa, qb, hq⟩ : ∃ qa qb, (qa, qb) = (succL M N p)[j] := ⟨_, _, rfl⟩
            rw [← hq, Nat.mul_comm] at y0 y1
            simp only at y0 y1
            have HQ := Lib.hid (show ∃ h : j < (succL M N p).length, (succL M N p)[j] = (qa, qb) from ⟨hjl, hq.symm⟩)
            have HJ := Lib.hid hlt
            have hqm : (qa, qb) ∈ succL M N p := by rw [hq]; exact List.getElem_mem hjl
            have hql := succ_lt MM.out.1 MM.out.2 SP.out.2.2.1 SP.out.2.2.2 hqm
            simp only at hql
            have HQM := Lib.hid (And.intro hqm hql)
            have j0 : (0 : Int) ≤ j ∧ (j : Int) < (m : Int) := by omega
            have qa0 : (0 : Int) ≤ qa ∧ (qa : Int) ≤ 4097 := by have := HL.out; omega
            have qb0 : (0 : Int) ≤ qb ∧ (qb : Int) ≤ 4097 := by have := HL.out; omega
            have b1 := (hmem.fin.of_block (Below.heap_alloc wr (Obj.cells #[.int .i64 (qa : Nat), .int .i64 (qb : Nat)] 81) _ hmem.fin.lt))
            have f0 := b1.cell (k := 0) rfl
            have f1 := b1.cell (k := 1) rfl
            clear hjl hq hqm hql hbl b1 hj hmem hsr hrf hbf hk1 hk2 hlt
            go_upto_region 11 with (fail)
            go_cut [52] (fun s52 wx => s52 = .bool (decide ((qa, qb) = (ea, eb))) ∧ wx = wr.alloc (Obj.cells #[.int .i64 (qa : Nat), .int .i64 (qb : Nat)] 81))
            case first =>
              clear qa0 qb0
              by_cases h1 : qa = ea
              · subst h1
                by_cases h2 : qb = eb
                · subst h2
                  have H3 := Lib.hid (show decide ((qa, qb) = (qa, qb)) = true from decide_eq_true rfl)
                  go_wp2_with fail
                  go_meet
                  exact ⟨by rw [H3.out], rfl⟩
                · have H3 := Lib.hid (show decide ((qa, qb) = (qa, eb)) = false from decide_eq_false (fun e => h2 (by injection e)))
                  have h5 : ((qb : Int) == (eb : Int)) = false := by rw [beq_eq_false_iff_ne]; omega
                  have h6 : ¬ (qb : Int) = (eb : Int) := by omega
                  clear h2
                  go_wp2_with fail
                  go_meet
                  exact ⟨by rw [H3.out], rfl⟩
              · have H3 := Lib.hid (show decide ((qa, qb) = (ea, eb)) = false from decide_eq_false (fun e => h1 (by injection e)))
                have h5 : ((qa : Int) == (ea : Int)) = false := by rw [beq_eq_false_iff_ne]; omega
                have h6 : ¬ (qa : Int) = (ea : Int) := by omega
                clear h1
                go_wp2_with fail
                go_meet
                exact ⟨by rw [H3.out], rfl⟩
            case rest =>
              obtain ⟨rfl, rfl⟩ := hcut
              by_cases hqe : (qa, qb) = (ea, eb)
              · rw [decide_eq_true hqe]
                have HF := Lib.hid (show RT M N (0, 0) (M.length - 1, N.length - 1) from by
                  have := SP.out.2.1.snoc HQM.out.1
                  rw [hqe, HE.out.1, HE.out.2] at this
                  exact this)
                have HB := Lib.hid (MEM.out.base.alloc MEM.out.base.size (Obj.cells #[.int .i64 (qa : Nat), .int .i64 (qb : Nat)] 81))
                clear hqe f0 f1 y0 y1
                go_wp2_with fail
                rw [Exit.noGoto_ret]
                go_ret
                exact ⟨⟨true, rfl, fun _ => HF.out, fun _ => rfl⟩, HB.out⟩
              · rw [decide_eq_false hqe]
                have HQE := Lib.hid hqe
                clear hqe f0 f1 y0 y1
                have M1 := Lib.hid (MEM.out.below ((Below.refl wr.heap.size wr).alloc (Nat.le_refl _) (Obj.cells #[.int .i64 (qa : Nat), .int .i64 (qb : Nat)] 81)))
                have RF1 := Lib.hid (RF.out.of_block (w' := wr.alloc (Obj.cells #[.int .i64 (qa : Nat), .int .i64 (qb : Nat)] 81)) (by simp) (fun b hbb => Below.heap_alloc _ _ _ ((BF.out b hbb).2.2.2)))
                have NB := Lib.hid (BlkAt.new wr 81 #[.int .i64 (qa : Nat), .int .i64 (qb : Nat)])
                have QA := Lib.hid (show qa ≤ 4097 ∧ qb ≤ 4097 by omega)
                obtain ⟨v, hrun, hv⟩ := M1.out.seen.lookup qa QA.out.1
                have HV := Lib.hid hv
                clear hv
                go_upto_region 13 with (fail)
                go_cut [57] (fun s57 wx => s57 = .bool (F qa).isNone ∧ wx = wr.alloc (Obj.cells #[.int .i64 (qa : Nat), .int .i64 (qb : Nat)] 81))
                case first =>
                  have hv := HV.out
                  cases hF : F qa with
                  | none =>
                    rw [hF] at hv
                    subst hv
                    have hr2 : (Instr.lookup 82 (.map (some (w.heap.size + 1 + 1))) (.int .i64 (qa : Nat)) false).run Try.prog (wr.alloc (Obj.cells #[.int .i64 (qa : Nat), .int .i64 (qb : Nat)] 81)) = .ok (.slice none 0 0) (wr.alloc (Obj.cells #[.int .i64 (qa : Nat), .int .i64 (qb : Nat)] 81)) := hrun
                    have HF9 := Lib.hid hF
                    have q1 := eql_nil
                    have q2 := eql_some
                    clear hF hrun HV
                    go_wp2_with fail
                    go_meet
                    exact ⟨by rw [HF9.out]; rfl, rfl⟩
                  | some gq =>
                    rw [hF] at hv
                    subst hv
                    have hr2 : (Instr.lookup 82 (.map (some (w.heap.size + 1 + 1))) (.int .i64 (qa : Nat)) false).run Try.prog (wr.alloc (Obj.cells #[.int .i64 (qa : Nat), .int .i64 (qb : Nat)] 81)) = .ok (.slice (some ⟨gq, 0, none⟩) n n) (wr.alloc (Obj.cells #[.int .i64 (qa : Nat), .int .i64 (qb : Nat)] 81)) := hrun
                    have HF9 := Lib.hid hF
                    have q1 := eql_nil
                    have q2 := eql_some
                    clear hF hrun HV
                    go_wp2_with fail
                    go_meet
                    exact ⟨by rw [HF9.out]; rfl, rfl⟩
                case rest =>
                  obtain ⟨rfl, rfl⟩ := hcut
                  clear hrun HV
                  go_upto_if 57 with (fail)
                  go_cut [] (fun wx => CutP w n ea eb (.slice s9a Wl.length s9c) Wl S qa qb wr.heap.size bf (succL M N p) wx)
                  case first =>
                    have BF2 := Lib.hid (show Value.ownBlock (.slice s9a Wl.length s9c) ≠ some bf ∧ (∀ a g, a ≤ 4097 → F a = some g → g ≠ bf) ∧ bf ≠ w.heap.size + 2 ∧ bf < (wr.alloc (Obj.cells #[.int .i64 (qa : Nat), .int .i64 (qb : Nat)] 81)).heap.size from by
                      obtain ⟨x1, x2, x3, x4⟩ := BF.out bf rfl
                      exact ⟨x1, x2, x3, by simp; omega⟩)
                    have NBK := Lib.hid (show w.heap.size + 3 ≤ wr.heap.size from by
                      obtain ⟨D, cnt, _, hmm, _⟩ := MEM.out.seen.1
                      exact hmm.lt)
                    cases hF : F qa with
                    | some gq =>
                      have HF9 := Lib.hid hF
                      clear hF
                      go_wp2_with fail
                      go_meet
                      refine ⟨gq, F, HF9.out, M1.out, NB.out, RF1.out, BF2.out.1, BF2.out.2.1, BF2.out.2.2.1, BF2.out.2.2.2, ?_, (MEM.out.seen.2.1 qa gq QA.out.1 HF9.out).2⟩
                      have := (MEM.out.seen.2.1 qa gq QA.out.1 HF9.out).1.lt
                      omega
                    | none =>
                      have HF9 := Lib.hid hF
                      have NS := Lib.hid (fun w => noStates_any N.length c2 a2 HL.out.2.1 w)
                      have PUT := Lib.hid (fun (w2 : World) (gq : Nat) (h1 : (wr.alloc (Obj.cells #[.int .i64 (qa : Nat), .int .i64 (qb : Nat)] 81)).drew.heap.size ≤ gq) (h2 : StAt w2 gq n (fun _ => false)) (h3 : Below (wr.alloc (Obj.cells #[.int .i64 (qa : Nat), .int .i64 (qb : Nat)] 81)).drew.heap.size (wr.alloc (Obj.cells #[.int .i64 (qa : Nat), .int .i64 (qb : Nat)] 81)).drew w2) =>
                        And.intro (cut_put M1.out NB.out RF1.out BF2.out.1 BF2.out.2.1 BF2.out.2.2.1 BF2.out.2.2.2 (by have := NBK.out; omega) QA.out.1 HF9.out h1 h2 ((Below.refl _ _).drew.trans h3)) (show w2.cell? ⟨wr.heap.size, 0, none⟩ = some (.int .i64 (qa : Nat)) from (NB.out.drew.below h3).cell rfl))
                      rw [← HN.out] at NS
                      clear hF
                      go_wp2_with fail
                      go_region_with (go_at_call 34; go_fit (NS.out _); rintro e w2 ⟨gq, hgq, rfl, hst, hb2⟩; obtain ⟨⟨w5, hup, hcp⟩, hc0⟩ := PUT.out w2 gq hgq hst hb2; go_wp2_with fail)
                      all_goals
                        go_wp2_with fail
                        go_meet
                        exact hcp
                  case rest =>
                    obtain ⟨gq, F2, hF2, m2, nb2, rf2, b1, b2, b3, b4, b5, b6⟩ := hcut
                    have c0 := nb2.cell (k := 0) rfl
                    have c1 := nb2.cell (k := 1) rfl
                    obtain ⟨v, hrun, hv⟩ := m2.seen.lookup qa QA.out.1
                    rw [hF2] at hv
                    subst hv
                    have hr2 : (Instr.lookup 82 (.map (some (w.heap.size + 1 + 1))) (.int .i64 (qa : Nat)) false).run Try.prog wc = .ok (.slice (some ⟨gq, 0, none⟩) n n) wc := hrun
                    have SH := Lib.hid (sthas_any (S qa) gq n n qb (by have := HN.out; have := HQM.out.2.2; omega) (by have := HN.out; have := HL.out; omega) wc (m2.seen.2.1 qa gq QA.out.1 hF2).1)
                    have SA := Lib.hid (stadd_any (S qa) gq n n qb w.heap.size (by have := HN.out; have := HQM.out.2.2; omega) (by have := HN.out; have := HL.out; omega) (by omega) wc (m2.seen.2.1 qa gq QA.out.1 hF2).1)
                    have CP := Lib.hid (And.intro hF2 (And.intro m2 (And.intro nb2 (And.intro rf2 (And.intro b1 (And.intro b2 (And.intro b3 (And.intro b4 (And.intro b5 b6)))))))))
                    have HTK := Lib.hid (show (succL M N p).take (j + 1) = (succL M N p).take j ++ [(qa, qb)] from by
                      obtain ⟨h, e⟩ := HQ.out
                      rw [List.take_succ_eq_append_getElem h, e])
                    have HNE := Lib.hid (show (qa, qb) ≠ (M.length - 1, N.length - 1) from fun e => HQE.out (by rw [e, HE.out.1, HE.out.2]))
                    clear hF2 m2 nb2 rf2 b1 b2 b3 b4 b5 b6 hrun
                    go_wp2_with fail
                    go_fit SH.out
                    rintro e w4 ⟨rfl, rfl⟩
                    cases hs : S qa qb
                    · have HS9 := Lib.hid hs
                      clear hs
                      go_wp2_with fail
                      go_fit SA.out
                      rintro e w5 ⟨rfl, h1, h2, h3⟩
                      have G5 := Lib.hid (show wc.grownBy w5 (some gq) from ⟨h2.os, h2.tape, h2.output, h2.size, fun k _ hne => h3 k (fun e => hne (by rw [e]))⟩)
                      have M5 := Lib.hid (CP.out.2.1.add QA.out.1 CP.out.1 h1 G5.out)
                      have nb5 := CP.out.2.2.1.of_block (h3 _ CP.out.2.2.2.2.2.2.2.2.1)
                      have c0 := nb5.cell (k := 0) rfl
                      have c1 := nb5.cell (k := 1) rfl
                      have RF5 := Lib.hid (CP.out.2.2.2.1.of_block h2.size (fun b hb => by injection hb with hb; injection hb with hb; subst hb; exact h3 _ (fun e => CP.out.2.2.2.2.2.1 qa gq QA.out.1 CP.out.1 e.symm)))
                      have HO := Lib.hid (M5.out.row.alloc (Obj.cells #[.int .i64 (qa : Nat), .int .i64 (qb : Nat)] 81))
                      have UL := Lib.hid (unseen_lt HQM.out.2.1 HQM.out.2.2 HS9.out)
                      have WL := Lib.hid (show Wl.length ≤ 16785410 from by
                        have h1 := Nat.mul_le_mul HL.out.1 HL.out.2.1
                        have h2 := KK.out.2
                        omega)
                      have SZ := Lib.hid h2.size
                      clear h1 h2 h3 nb5
                      go_wp2_with (at_builtin; refine wpList_append_own_at _ rfl _ _ 83 rfl (w.heap.size + 3) 81 i0 (.agg #[.int .i64 0, .int .i64 0]) 2 16 Try.underlying83 hi0 hz0 hz1 hzb rfl (by decide) _ _ _ rfl HO.out ⟨w5.heap.size, 0, none⟩ 1 1 [.int .i64 (qa : Nat), .int .i64 (qb : Nat)] rfl rfl ?c1 ?c2 ?c3 ?c4 ?c5 ?_)
                      case c1 => exact new_cells' _ _ rfl _ _
                      case c2 => intro u hu; simp at hu; rcases hu with rfl | rfl <;> rfl
                      case c3 => have := WL.out; unfold maxLen; omega
                      case c4 => have := WL.out; omega
                      case c5 =>
                        obtain ⟨D, cnt, _, hmm, _⟩ := M5.out.seen.1
                        have := hmm.lt
                        simp
                        omega
                      intro v6 w6 ho6 hg6 _ hat
                      have NX := Lib.hid (show IRel d0 M N w n ea eb kk p (some ⟨bf, 0, none⟩) (j + 1) (.bool d0) v6 w6 from by
                        obtain ⟨x1, x2, x3, x4, x5, x6, x7, x8, x9, x10⟩ := CP.out
                        have hat' : v6.ownBlock = Value.ownBlock (.slice s9a Wl.length s9c) ∨ v6.ownBlock = some (w5.alloc (Obj.cells #[.int .i64 (qa : Nat), .int .i64 (qb : Nat)] 81)).heap.size := by rw [World.size_alloc]; exact hat
                        have hz5 := SZ.out
                        refine ⟨Wl ++ [(qa, qb)], F2, updS S qa qb, rfl, by have := HQ.out; obtain ⟨h, _⟩ := this; exact h, M5.out.push rfl ho6 hg6 hat', ?_, ?_, fun b hb => ?_, ?_, ?_⟩
                        · rw [HTK.out]
                          exact srch_new SR.out HQM.out.2.1 HQM.out.2.2 (SP.out.2.1.snoc HQM.out.1) HNE.out
                        · refine (RF5.out.of_block (w' := w5.alloc (Obj.cells #[.int .i64 (qa : Nat), .int .i64 (qb : Nat)] 81)) (by simp) (fun b hb => Below.heap_alloc _ _ _ (by injection hb with hb; injection hb with hb; omega))).of_block hg6.size (fun b hb => hg6.block _ (by injection hb with hb; injection hb with hb; simp; omega) (fun e => by injection hb with hb; injection hb with hb; subst hb; exact x5 e.symm))
                        · injection hb with hb; injection hb with hb; subst hb
                          refine ⟨?_, x6, x7, by have := hg6.size; simp at this; omega⟩
                          rcases hat' with e | e
                          · rw [e]; exact x5
                          · rw [e]; intro e2; injection e2 with e2; simp at e2; omega
                        · have := UL.out; have := KK.out.1; rw [List.length_append, List.length_singleton]; omega
                        · have := UL.out; have := KK.out.2; rw [List.length_append, List.length_singleton]; omega)
                      clear ho6 hg6 hat
                      go_wp2_with fail
                      go_roundw
                      case rel => exact ⟨j + 1, by go_num, NX.out⟩
                      case measure => have := HJ.out; simp [RowKit.intOf]; omega
                    · have HS9 := Lib.hid hs
                      clear hs
                      have NX := Lib.hid (show IRel d0 M N w n ea eb kk p (some ⟨bf, 0, none⟩) (j + 1) (.bool d0) (.slice s9a Wl.length s9c) wc from by
                        obtain ⟨x1, x2, x3, x4, x5, x6, x7, x8, x9, x10⟩ := CP.out
                        refine ⟨Wl, F2, S, rfl, by have := HQ.out; obtain ⟨h, _⟩ := this; exact h, x2, ?_, x4, fun b hb => ?_, KK.out.1, KK.out.2⟩
                        · rw [HTK.out]
                          exact srch_old SR.out HS9.out HNE.out
                        · injection hb with hb; injection hb with hb; subst hb
                          exact ⟨x5, x6, x7, x8⟩)
                      go_wp2_with fail
                      go_roundw
                      case rel => exact ⟨j + 1, by go_num, NX.out⟩
                      case measure => have := HJ.out; simp [RowKit.intOf]; omega
          · obtain rfl : j = m := by omega
            have hsr2 : Srch M N (some p) (succL M N p) Wl S := by
              have e : (succL M N p).take j = succL M N p := List.take_of_length_le (by have := HM.out; omega)
              rw [e] at hsr
              exact hsr
            have hor : ORel d0 M N w n ea eb (2 * unseen M.length N.length S + Wl.length) (.bool d0) (.slice s9a Wl.length s9c) wr := ⟨Wl, F, S, rfl, rfl, hk2, hmem, srch_end hsr2⟩
            have NX := Lib.hid hor
            have LT := Lib.hid (show 2 * unseen M.length N.length S + Wl.length < kk by omega)
            have EN := Lib.hid (show n1 + 1 = (Wp.concat p).length by rw [HN1.out]; simp)
            clear hj hmem hsr hrf hbf hk1 hk2 hlt hsr2 hor
            go_wp2_with fail
            go_roundw
            case rel => exact ⟨_, NX.out⟩
            case measure =>
              rw [EN.out, ← HK.out]
              exact Nat.lt_of_le_of_lt ((lst_spec ⟨_, NX.out⟩).2 _ NX.out) LT.out
end Go.Proofs.Ytaalfnfikjmomaa
