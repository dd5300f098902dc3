/- The contract of Order (fairness). -/
import Derived.Test.YtmjikddceegloaaGreatDoorFrM
import Derived.Test.YtmjikddceegloaaGreatDoorFrQ
import Derived.Deep.AppendLies
namespace Go.Proofs.YtmjikddceegloaaGreatDoor
open Go.RowKit Go.Lib
set_option linter.unusedSimpArgs false

theorem ReadsH.kept {W W' : World} {a : Option Addr} {l : List Sha} (h : ReadsH W a l) (hs : W.heap.size ≤ W'.heap.size) (hk : ∀ b off x, a = some ⟨b, off, x⟩ → b < W.heap.size → W'.heap[b]? = W.heap[b]?) : ReadsH W' a l := by
  intro j hj
  obtain ⟨b, off, h1, h2, c0, c1, c2⟩ := h j hj
  have e := hk b off none h1 h2
  have k : ∀ q, W'.cell? ⟨b, q, none⟩ = W.cell? ⟨b, q, none⟩ := fun q => by simp only [World.cell?, e]
  exact ⟨b, off, h1, Nat.lt_of_lt_of_le h2 hs, (k _).trans c0, (k _).trans c1, (k _).trans c2⟩
/-- What Order answers. -/
def OrdR (L : List Sha) (N : List (List UInt8)) : Prop := (¬ ValidS L ∧ N = []) ∨ (ValidS L ∧ ∃ L' : List Sha, L'.Perm L ∧ L'.Pairwise (fun a b => 0 ≤ befC b a) ∧ N = L'.map (·.prj))
def OrdPost (L : List Sha) (w : World) (e : Ending) (w' : World) : Prop := ∃ (a : Option Addr) (c : Nat) (N : List (List UInt8)), e = .returned (.slice a N.length c) ∧ OrdR L N ∧ ReadsStr w' a N ∧ Below w.heap.size w w'
set_option maxRecDepth 100000 in
set_option maxHeartbeats 4000000 in
theorem order_any (v : Option Addr) (cap : Nat) (L : List Sha) (hlen : L.length ≤ 1000000) (hx : ∀ x ∈ L, x.prj.length ≤ 1000000) (w : World) (hr : ReadsH w v L) :
    Calls Tryz.prog 19 #[.slice v L.length cap] w (OrdPost L w) := by
  obtain ⟨i0, hi, hz0, hz1, hz2⟩ := info_parts infoS
  have HR := Lib.hid hr
  have VA := Lib.hid (fun b hb => valid_any v cap L b hb hlen hx w hr)
  clear hx hr
  by_cases hV : ValidS L
  · have VA1 := Lib.hid (VA.out true ⟨fun _ => hV, fun _ => rfl⟩)
    have HV := Lib.hid hV
    have HRT := Lib.hid (show ∀ s ∈ L, rightS s = true from fun s hs => by
      obtain ⟨i, hi, rfl⟩ := List.getElem_of_mem hs
      exact (hV.ok i hi).1)
    have h64 := hV.len
    clear VA hV
    go_enter Tryz.func19, Tryz.ntmps19
    go_wp2_with fail
    go_fit VA1.out
    rintro e w1 ⟨rfl, hb⟩
    have B1 := Lib.hid hb
    clear hb
    have s1 := B1.out.size
    go_wp2_with (at_make; refine wpList_make_own _ rfl _ _ 32 rfl w.heap.size 9 i0 (.string ⟨#[]⟩) 1 Tryz.underlying32 hi hz0 hz1 .i64 .i64 (L.length : Int) L.length rfl rfl rfl ?m1 ?m2 ?m3 ?_)
    case m1 => rw [hz2]; omega
    case m2 => unfold maxLen; omega
    case m3 => exact s1
    intro w2 hown hgr
    have B2 := Lib.hid (B1.out.grown hgr s1 (fun k hk => by cases hk))
    have HO := Lib.hid hown
    have s2 := B2.out.size
    generalize (some ⟨w1.heap.size, 0, none⟩ : Option Addr) = pa at *
    clear hown hgr
    have V := Lib.hid (fun (w : World) => (callsIn_wide (n := 3)).1 (values_in Fence.wide 3 trivial rfl v L.length cap w))
    have B3 := Lib.hid (B2.out.alloc s2 (.cells #[.slice v L.length cap] 22))
    have SF := Lib.hid (sortedFunc_any w2.heap.size cap v L HRT.out hlen (w2.alloc (.cells #[.slice v L.length cap] 22)) (by simp) (by
      have h := Boxed.new w2 22 (.slice v L.length cap)
      exact h.cell) (HR.out.below B3.out).low)
    go_wp2_with fail
    go_fit (V.out _)
    rintro e w3 ⟨rfl, rfl⟩
    go_wp2_with fail
    go_fit SF.out
    rintro e w4 ⟨a, cp, L', rfl, hp, hs, hrd, hb4, hga⟩
    have B4 := Lib.hid (B3.out.trans (hb4.mono B3.out.size))
    have HP := Lib.hid (And.intro hp hs)
    have HL := Lib.hid hrd
    have hL' : L'.length = L.length := hp.length_eq
    have HO4 := Lib.hid (ownH_stays (HO.out.alloc (.cells #[.slice v L.length cap] 22)) (fun g hg => hb4.block g (World.ownsRow.lt (HO.out.alloc (.cells #[.slice v L.length cap] 22)) g hg).2))
    have HN := Lib.hid (show OrdR L (L'.map (·.prj)) from .inr ⟨HV.out, L', hp, hs.imp (fun h => by omega), rfl⟩)
    have HGA := Lib.hid (show ∀ g off x, a = some ⟨g, off, x⟩ → (Value.slice pa 0 L.length).ownBlock ≠ some g from fun g off x h e => by
      have h1 := hga g off x h
      have h2 := (World.ownsRow.lt HO.out g e).2
      simp at h1
      omega)
    clear hp hs hrd hb4 HO V SF HP hga
    go_wp2_with fail
    go_loopw [4, 18] (fun s4 s18 wr => ∃ j : Nat, j ≤ L'.length ∧ s18 = .int .i64 (j : Int) ∧ Hid (wr.ownsRow w.heap.size 9 1 s4 j ((L'.take j).map (fun x => strV x.prj))) ∧ Hid (∀ g off x, a = some ⟨g, off, x⟩ → s4.ownBlock ≠ some g) ∧ Hid (ReadsH wr a L') ∧ Hid (Below w.heap.size w wr)) (fun _ s18 _ => L'.length - (RowKit.intOf s18).toNat)
    case atStart => exact ⟨0, by omega, rfl, HO4, HGA, HL, B4⟩
    case round =>
      obtain ⟨j, hj, rfl, HO, HG, HL, HB⟩ := hrel
      by_cases hlt : j < L'.length
      · obtain ⟨b, off, rfl, hbl, c0, c1, c2⟩ := HL.out j hlt
        have hjI : (j : Int) < (L'.length : Int) := by omega
        have hj0 : (0 : Int) ≤ (j : Int) := by omega
        have hsz := HB.out.size
        obtain ⟨sx, hsx⟩ : ∃ s : ByteArray, s = ⟨L'[j].prj.toArray⟩ := ⟨_, rfl⟩
        rw [← hsx] at c0
        have HT := Lib.hid (show (L'.take (j + 1)).map (fun x => strV x.prj) = (L'.take j).map (fun x => strV x.prj) ++ [.string sx] by rw [← List.take_append_getElem hlt, List.map_append, hsx]; rfl)
        generalize L'[j].wgt = g at *
        generalize L'[j].srv = v1 at *
        clear hsx
        obtain ⟨t0, t1, t2⟩ := (ThH.new wr (.string sx) (.int .i64 g) (.int .i64 v1)).facts
        go_wp2_with (at_builtin; refine wpList_append_own_at _ rfl _ _ 32 rfl w.heap.size 9 i0 (.string ⟨#[]⟩) 1 16 Tryz.underlying32 hi hz0 hz1 hz2 rfl (by decide) _ _ _ rfl ((HO.out.alloc _).alloc _) ⟨wr.heap.size + 1, 0, none⟩ 1 1 [.string sx] rfl rfl ?n1 ?n2 ?n3 ?n4 ?n5 ?_)
        case n1 => exact World.news_of_block (by rw [show wr.heap.size + 1 = (wr.alloc (.cells #[.string sx, .int .i64 g, .int .i64 v1] 41)).heap.size by simp]; exact heap_alloc_new _ _)
        case n2 => intro u hu; simp at hu; subst hu; rfl
        case n3 => unfold maxLen; omega
        case n4 => omega
        case n5 => simp; omega
        intro v' w5 hown hgr _ hat
        have B5 := Lib.hid (((HB.out.alloc hsz (.cells #[.string sx, .int .i64 g, .int .i64 v1] 41)).alloc (by simp; omega) (.cells #[.string sx] 9)).grown hgr (by simp; omega) (fun k hk => (World.ownsRow.lt HO.out k hk).1))
        have hs5 := hgr.size
        simp at hs5
        have hbl2 := hbl
        have HL5 := Lib.hid (show ReadsH w5 (some ⟨b, off, none⟩) L' from HL.out.kept (by omega) (fun b' off' x e hb' => by
          have hne := HG.out b' off' x e
          refine (hgr.block b' (by simp; omega) (fun h => hne h.symm)).trans ?_
          exact ((Below.refl (wr.heap.size) wr).alloc (Nat.le_refl _) _ |>.alloc (by simp) _).block b' hb'))
        have HO5 := Lib.hid (show w5.ownsRow w.heap.size 9 1 v' (j + 1) ((L'.take (j + 1)).map (fun x => strV x.prj)) by
          rw [HT.out]
          simpa using hown)
        have HG5 := Lib.hid (show ∀ g' off' x, (some ⟨b, off, none⟩ : Option Addr) = some ⟨g', off', x⟩ → v'.ownBlock ≠ some g' from fun g' off' x e h => by
          have hne := HG.out g' off' x e
          rcases hat with hat | hat
          · exact hne (hat.symm.trans h)
          · rw [hat] at h
            cases e
            injection h with h
            omega)
        clear hown hgr hat HO HG HL HT
        go_wp2_with fail
        exact ⟨⟨j + 1, by omega, by go_num, HO5, HG5, HL5, B5⟩, by simp [RowKit.intOf]; omega⟩
      · obtain rfl : j = L'.length := by omega
        have ho : wr.ownsRow w.heap.size 9 1 u4 L'.length ((L'.map (·.prj)).map strV) := by
          have h := HO.out
          rw [List.take_length] at h
          rw [List.map_map]
          exact h
        obtain ⟨an, cn, rfl, _, _, hrd⟩ := own_readsS ho (by rw [List.length_map])
        have HRD := Lib.hid hrd
        clear ho hrd HO
        rw [List.length_map] at *
        go_wp2_with fail
        go_ret
        exact ⟨an, cn, L'.map (·.prj), by rw [List.length_map]; rfl, HN.out, HRD.out, HB.out⟩
  · have VA0 := Lib.hid (VA.out false ⟨fun h => (by cases h), fun h => absurd h hV⟩)
    have HN := Lib.hid (show OrdR L [] from .inl ⟨hV, rfl⟩)
    clear VA hV
    go_enter Tryz.func19, Tryz.ntmps19
    go_wp2_with fail
    go_fit VA0.out
    rintro e w1 ⟨rfl, hb⟩
    have B1 := Lib.hid hb
    clear hb
    go_wp2_with fail
    go_ret
    exact ⟨none, 0, [], rfl, HN.out, fun j hj => by simp at hj, B1.out⟩
end Go.Proofs.YtmjikddceegloaaGreatDoor
