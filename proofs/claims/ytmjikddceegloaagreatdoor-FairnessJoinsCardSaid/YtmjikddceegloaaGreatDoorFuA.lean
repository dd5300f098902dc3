/- The contract of slices.Insert in the middle of a row of shares (fairness). The contract of slices.MinFunc over shares by their ratios (fairness). What Add answers, in numbers and lists alone (fairness). The contract of Add (fairness). -/
import Derived.Test.YtmjikddceegloaaGreatDoorFrH
import Derived.Shelf.Spec.SlicesInsertGrow
import Derived.Test.YtmjikddceegloaaGreatDoorFrF
import Derived.Test.YtmjikddceegloaaGreatDoorNumD
import Derived.Test.YtmjikddceegloaaGreatDoorFrV
namespace Go.Proofs.YtmjikddceegloaaGreatDoor
open Go.RowKit Go.Lib
set_option linter.unusedSimpArgs false
set_option linter.unusedVariables false

/-- copy at elements of k cells, into a row that is known whole. -/
theorem run_copy_rowK (P : Program) (k : Nat) (w : World) (dT sT ty elem : TypeId) (g o dLen dCap : Nat) (a : Addr) (sLen sCap : Nat) (cur : Array Value) (t : TypeId) (cs : List Value)
    (hu : P.underlying dT = some (.slice elem)) (hs : (P.info? elem).map (·.size) = some k)
    (hg : w.heap[g]? = some (.cells cur t (0, 0))) (hn : cs.length = Nat.min sLen dLen * k)
    (hsrc : ∀ j v, cs[j]? = some v → w.cell? (a.add j) = some v) (hfit : o + cs.length ≤ cur.size) (h1 : ∀ v ∈ cs, v.oneCell' = true) :
    (Builtin.copy_ #[dT, sT] ty #[.slice (some ⟨g, o, none⟩) dLen dCap, .slice (some a) sLen sCap]).run P w =
      .ok (goInt (Nat.min sLen dLen)) (w.setRow g (cur.toList.take o ++ cs ++ cur.toList.drop (o + cs.length)).toArray) := by
  have hl := run_loadCells_list (P := P) w a cs hsrc
  have hst := run_storeCells_at P g o t cs 0 cur w hg (by simpa using hfit) h1
  cases hq : P.info? elem with
  | none => simp [hq] at hs
  | some i =>
    have hi : i.size = k := by simpa [hq] using hs
    simp [Builtin.copy_, run_underlying hu, Builtin.lenOf, Builtin.firstCells, sizeOf, typeInfo, hq, hi, ← hn, hl, hst]
/-- A row in which what follows has moved and a piece was laid. -/
theorem ins_list {α : Type} (A C R V : List α) (hV : V.length ≤ R.length) :
    let c0 := A ++ C ++ R
    let c1 := c0.take (A.length + V.length) ++ C ++ c0.drop (A.length + V.length + C.length)
    let c2 := c1.take A.length ++ V ++ c1.drop (A.length + V.length)
    c2.length = c0.length ∧ c2.take (A.length + V.length + C.length) = A ++ (V ++ C) ∧ c1.length = c0.length := by
  intro c0 c1 c2
  have l0 : c0.length = A.length + C.length + R.length := by simp [c0]; omega
  have lt : (c0.take (A.length + V.length)).length = A.length + V.length := by rw [List.length_take]; omega
  have e1 : c1.take A.length = A := by
    show (c0.take (A.length + V.length) ++ C ++ _).take A.length = A
    rw [List.append_assoc, List.take_append_of_le_length (by omega), List.take_take, Nat.min_eq_left (by omega)]
    show (A ++ C ++ R).take A.length = A
    rw [List.append_assoc, List.take_left']
    rfl
  have e2 : c1.drop (A.length + V.length) = C ++ c0.drop (A.length + V.length + C.length) := by
    show (c0.take (A.length + V.length) ++ C ++ _).drop (A.length + V.length) = _
    rw [List.append_assoc, List.drop_left' lt]
  have e3 : c2 = A ++ (V ++ C) ++ c0.drop (A.length + V.length + C.length) := by
    show c1.take A.length ++ V ++ c1.drop (A.length + V.length) = _
    rw [e1, e2]
    simp
  refine ⟨?_, ?_, ?_⟩
  · rw [e3, List.length_append, List.length_drop, l0]
    simp
    omega
  · rw [e3, List.take_left']
    simp
    omega
  · show (c0.take (A.length + V.length) ++ C ++ _).length = _
    rw [List.length_append, List.length_append, lt, List.length_drop, l0]
    omega
theorem addr_at (b o j : Nat) : (⟨b, o, none⟩ : Addr).add j = ⟨b, o + j, none⟩ := by
  unfold Addr.add
  split
  · rename_i h; subst h; rfl
  · rfl
theorem thH_cellsA {w : World} {b : Nat} {x y z : Value} (h : ThH w b x y z) : ∀ j u, [x, y, z][j]? = some u → w.cell? ((⟨b, 0, none⟩ : Addr).add j) = some u := by
  intro j u hj
  have hc : ∀ k, w.cell? ⟨b, k, none⟩ = [x, y, z][k]? := by
    intro k
    simp only [World.cell?, h.blk]
    simp
  rw [addr_at, Nat.zero_add, hc]
  exact hj
theorem below_row {B g : Nat} {w0 w : World} (hb : Below B w0 w) (hBg : B ≤ g) (cs : Array Value) : Below B w0 (w.setRow g cs) :=
  hb.trans ⟨rfl, rfl, rfl, by simp [World.setRow], fun k hk => setRow_other w g k cs (by omega)⟩
theorem flat_take : ∀ (L : List Sha) (i : Nat), (L.flatMap shC).take (i * 3) = (L.take i).flatMap shC
  | L, 0 => by simp
  | [], i + 1 => by simp
  | t :: L, i + 1 => by
    rw [List.flatMap_cons, List.take_succ_cons, List.flatMap_cons, show (i + 1) * 3 = (shC t).length + i * 3 by simp [shC]; omega, List.take_append, List.take_of_length_le (by omega), Nat.add_sub_cancel_left, flat_take L i]
theorem flat_drop : ∀ (L : List Sha) (i : Nat), (L.flatMap shC).drop (i * 3) = (L.drop i).flatMap shC
  | L, 0 => by simp
  | [], i + 1 => by simp
  | t :: L, i + 1 => by
    rw [List.flatMap_cons, List.drop_succ_cons, show (i + 1) * 3 = (shC t).length + i * 3 by simp [shC]; omega, List.drop_append, List.drop_eq_nil_of_le (by omega), List.nil_append, Nat.add_sub_cancel_left, flat_drop L i]
theorem flat_ins (L : List Sha) (s : Sha) (i : Nat) : (L.take i ++ s :: L.drop i).flatMap shC = (L.flatMap shC).take (i * 3) ++ (shC s ++ (L.flatMap shC).drop (i * 3)) := by
  rw [List.flatMap_append, List.flatMap_cons, flat_take, flat_drop]
theorem len_ins (L : List Sha) (s : Sha) (i : Nat) (h : i ≤ L.length) : (L.take i ++ s :: L.drop i).length = L.length + 1 := by
  rw [List.length_append, List.length_take, List.length_cons, List.length_drop]
  omega
set_option maxRecDepth 100000 in
set_option maxHeartbeats 4000000 in
/-- There is room. -/
theorem insRoom_any (g cap : Nat) (cur : Array Value) (L : List Sha) (s : Sha) (B pb i : Nat) (hi : i < L.length) (hl : L.length ≤ 1000000) (w : World) (hB : B ≤ g) (hpb : pb ≠ g)
    (hg : w.heap[g]? = some (.cells cur 41 (0, 0))) (hc : L.length + 1 ≤ cap) (hm : cap ≤ maxLen) (hs : cur.size = cap * 3) (ht : cur.toList.take (L.length * 3) = L.flatMap shC)
    (hp : ThH w pb (.string ⟨s.prj.toArray⟩) (.int .i64 s.wgt) (.int .i64 s.srv)) :
    Calls Tryz.prog 31 #[.slice (some ⟨g, 0, none⟩) L.length cap, .int .i64 (i : Int), .slice (some ⟨pb, 0, none⟩) 1 1] w fun e w' => ∃ v', e = .returned v' ∧ RowH w' B v' (L.take i ++ s :: L.drop i) ∧ Below B w w' := by
  obtain ⟨i0, hi0, hz0, hz1, hz2⟩ := info_parts infoH
  obtain ⟨A, hA⟩ : ∃ A, A = (L.flatMap shC).take (i * 3) := ⟨_, rfl⟩
  obtain ⟨C, hC⟩ : ∃ C, C = (L.flatMap shC).drop (i * 3) := ⟨_, rfl⟩
  obtain ⟨R, hR⟩ : ∃ R, R = cur.toList.drop (L.length * 3) := ⟨_, rfl⟩
  obtain ⟨V, hV⟩ : ∃ V, V = shC s := ⟨_, rfl⟩
  have hfl := flatH_len L
  have lA : A.length = i * 3 := by rw [hA, List.length_take]; omega
  have lC : C.length = (L.length - i) * 3 := by rw [hC, List.length_drop]; omega
  have lV : V.length = 3 := by rw [hV]; rfl
  have hmx : maxLen = 9223372036854775807 := rfl
  have lR : 3 ≤ R.length := by rw [hR, List.length_drop, Array.length_toList]; omega
  have e0 : cur.toList = A ++ C ++ R := by rw [hA, hC, hR, List.take_append_drop, ← ht, List.take_append_drop]
  obtain ⟨q1, q2, q3⟩ := ins_list A C R V (by omega)
  simp only [← e0] at q1 q2 q3
  obtain ⟨D1, hD1⟩ : ∃ D1, D1 = cur.toList.take (A.length + V.length) ++ C ++ cur.toList.drop (A.length + V.length + C.length) := ⟨_, rfl⟩
  obtain ⟨D2, hD2⟩ : ∃ D2, D2 = D1.take A.length ++ V ++ D1.drop (A.length + V.length) := ⟨_, rfl⟩
  rw [← hD1] at q1 q2 q3
  rw [← hD2] at q1 q2
  have hCs : ∀ j v, C[j]? = some v → w.cell? ⟨g, i * 3 + j, none⟩ = some v := by
    intro j v hj
    have hlt := (List.getElem?_eq_some_iff.1 hj).1
    have h1 : cur.toList[i * 3 + j]? = some v := by
      rw [e0, List.append_assoc, List.getElem?_append_right (by omega), List.getElem?_append_left (by omega), ← hj]
      congr 1
      omega
    rw [Array.getElem?_toList] at h1
    simp [World.cell?, hg, h1]
  have h1C : ∀ u ∈ C, u.oneCell' = true := fun u hu => shC_one L u (List.mem_of_mem_drop (by rw [← hC]; exact hu))
  have h1V : ∀ u ∈ V, u.oneCell' = true := fun u hu => shC_one [s] u (by simpa [hV] using hu)
  have hVs : ∀ j v, V[j]? = some v → w.cell? ((⟨pb, 0, none⟩ : Addr).add j) = some v := by
    rw [hV]
    exact thH_cellsA hp
  have hsz : (Tryz.prog.info? 41).map (·.size) = some 3 := by rw [hi0]; simp [hz1]
  have hsize : ∀ w, (Go.sizeOf 41).run Tryz.prog w = .ok 3 w := fun w => by simp [sizeOf, typeInfo, hi0, hz1]
  have hsa : w.shape? pb = some (41, 3) := by simp [World.shape?, hp.blk]
  have hsb : w.shape? g = some (41, cap * 3) := by simp [World.shape?, hg, hs]
  have hfa := hp.froz.1
  have hfe : w.frozen? { block := pb, off := 3 } = false := by simp [World.frozen?, hp.blk]
  have hov : ∀ o lb cb, (callFunc 57 #[.slice (some ⟨pb, 0, none⟩) 1 1, .slice (some ⟨g, o, none⟩) lb cb]).run Tryz.prog w = .ok (.value (.bool false)) w := fun o lb cb => by
    rw [run_callFunc_extern Tryz.func57 (by kernel_rfl) (by kernel_rfl) (by kernel_rfl) (e := Extern.SlicesOverlaps.overlaps #[22, 22] #[4]) (by kernel_rfl),
      Lib.run_overlaps_apart w 22 4 41 Tryz.underlying22 3 hsize ⟨pb, 0, none⟩ ⟨g, o, none⟩ 1 1 lb cb hpb _ _ _ _ hsa hsb (by omega) hfa hfe]
    rfl
  have hmin : Nat.min (L.length + 1 - i) (L.length - i) = L.length - i := Nat.min_eq_right (by omega)
  have hcp1 : ∀ ty dc sc, (Builtin.copy_ #[22, 22] ty #[.slice (some ⟨g, (i + 1) * 3, none⟩) (L.length - i) dc, .slice (some ⟨g, i * 3, none⟩) (L.length + 1 - i) sc]).run Tryz.prog w.drew = .ok (goInt ((L.length - i : Nat) : Int)) (w.drew.setRow g D1.toArray) := fun ty dc sc => by
    have h := run_copy_rowK Tryz.prog 3 w.drew 22 22 ty 41 g ((i + 1) * 3) (L.length - i) dc ⟨g, i * 3, none⟩ (L.length + 1 - i) sc cur 41 C Tryz.underlying22 hsz hg (by rw [hmin, lC]) (fun j v hj => by rw [addr_at]; exact hCs j v hj) (by omega) h1C
    rw [hmin] at h
    rw [h, hD1, lA, lV, show i * 3 + 3 = (i + 1) * 3 by omega]
  obtain ⟨W1, hW1⟩ : ∃ W1, W1 = w.drew.setRow g D1.toArray := ⟨_, rfl⟩
  rw [← hW1] at hcp1
  have hg1 : W1.heap[g]? = some (.cells D1.toArray 41 (0, 0)) := by rw [hW1]; exact setRow_heap w.drew g cur _ _ _ hg
  have hmin2 : Nat.min 1 (L.length + 1 - i) = 1 := Nat.min_eq_left (by omega)
  have hcp2 : ∀ ty dc, (Builtin.copy_ #[22, 22] ty #[.slice (some ⟨g, i * 3, none⟩) (L.length + 1 - i) dc, .slice (some ⟨pb, 0, none⟩) 1 1]).run Tryz.prog W1 = .ok (goInt 1) (W1.setRow g D2.toArray) := fun ty dc => by
    have h := run_copy_rowK Tryz.prog 3 W1 22 22 ty 41 g (i * 3) (L.length + 1 - i) dc ⟨pb, 0, none⟩ 1 1 D1.toArray 41 V Tryz.underlying22 hsz hg1 (by rw [hmin2, lV]) (fun j v hj => by
      have hlt : pb < w.drew.heap.size := hp.lt
      have hb : W1.heap[pb]? = w.heap[pb]? := by rw [hW1]; exact setRow_other w.drew g pb _ hpb
      have hx := hVs j v hj
      rw [addr_at] at hx ⊢
      rw [World.cell?_of_block (a := ⟨pb, 0 + j, none⟩) hb]
      exact hx) (by have e1 : D1.toArray.size = D1.length := List.size_toArray ..; have e2 : cur.toList.length = cur.size := Array.length_toList ..; omega) h1V
    rw [hmin2] at h
    rw [h, hD2, lA, lV]
    rfl
  have mixed : Tryz.prog.follows Departure.mixedOrders = true := by kernel_rfl
  have hw1 : IntKind.i64.wrap ((i : Int) + 1) = (i : Int) + 1 := by rw [IntKind.wrap_i64]; omega
  have hb1 : (0 : Int) ≤ (i : Int) + 1 := by omega
  have htn : ((i : Int) + 1).toNat = i + 1 := by omega
  have hb2 : ¬ (cap = i + 1) := by omega
  have hb3 : (i : Int) + 1 ≤ (L.length : Int) + 1 := by omega
  have hb4 : ¬ (cap = i) := by omega
  have hb5 : (i : Int) ≤ (L.length : Int) + 1 := by omega
  have HF := Lib.hid (show D2.take ((L.length + 1) * 3) = (L.take i ++ s :: L.drop i).flatMap shC by rw [flat_ins, ← hA, ← hC, ← hV, ← q2, lA, lV, lC]; congr 1; omega)
  have HL := Lib.hid (show D2.length = cap * 3 by rw [q1, Array.length_toList, hs])
  have HW1 := Lib.hid hW1
  have HG1 := Lib.hid hg1
  clear hp hVs hCs hA hC hR hV hfl lA lC lV lR e0 q1 q2 q3 hD1 hD2 hW1 hg1 h1C h1V hmin hmin2 ht hs hg hsize hsa hsb hfa hfe
  go_enter Tryz.func31, Tryz.ntmps31
  go_wp2_with (simp only [hov])
  go_region_law_o (refine step_copy_runI rfl _ _ 22 22 rfl _ _ (by simp [Act.eval, Act.put]) (by simp [Act.eval, Act.put]) (hcp1 _ _ _) ?_)
  go_wp2_with (at_builtin; refine wpList_copy_runI _ rfl _ _ 22 22 rfl _ _ rfl rfl (hcp2 _ _) ?_)
  go_ret
  refine ⟨_, rfl, ?_, ?_⟩
  · unfold RowH
    rw [len_ins L s i (by omega)]
    refine ⟨by rw [flatH_len, len_ins L s i (by omega)], .inr ⟨g, cap, D2.toArray, rfl, hB, setRow_heap W1 g _ _ _ _ HG1.out, hc, hm, ?_, ?_⟩⟩
    · rw [List.size_toArray, HL.out]
    · exact HF.out
  · refine below_row ?_ hB _
    rw [HW1.out]
    exact below_row (Below.refl B w).drew hB _
/-- A new row in which a piece was laid, and what follows it. -/
theorem ins_new {α : Type} (A C Z V : List α) (hV : V.length + C.length ≤ Z.length) :
    let c0 := A ++ Z
    let c1 := c0.take A.length ++ V ++ c0.drop (A.length + V.length)
    let c2 := c1.take (A.length + V.length) ++ C ++ c1.drop (A.length + V.length + C.length)
    c2.length = c0.length ∧ c2.take (A.length + V.length + C.length) = A ++ (V ++ C) ∧ c1.length = c0.length := by
  intro c0 c1 c2
  have l0 : c0.length = A.length + Z.length := by simp [c0]
  have e1 : c1 = A ++ V ++ c0.drop (A.length + V.length) := by
    show (A ++ Z).take A.length ++ V ++ _ = _
    rw [List.take_left']
    rfl
  have l1 : c1.length = c0.length := by
    rw [e1]
    simp
    omega
  have e2 : c1.take (A.length + V.length) = A ++ V := by
    rw [e1, List.take_left']
    simp
  have e3 : c2 = A ++ V ++ C ++ c1.drop (A.length + V.length + C.length) := by
    show c1.take (A.length + V.length) ++ C ++ _ = _
    rw [e2]
  refine ⟨?_, ?_, l1⟩
  · rw [e3]
    simp
    omega
  · rw [e3, List.take_left']
    · simp
    · simp
      omega
set_option maxRecDepth 100000 in
set_option maxHeartbeats 4000000 in
/-- There is no room. -/
theorem insGrow_any (g : Nat) (L : List Sha) (s : Sha) (B pb i : Nat) (hi : i < L.length) (hl : L.length ≤ 1000000) (w : World) (hB : B ≤ w.heap.size) (hgw : g < w.heap.size)
    (hr : ReadsH w (some ⟨g, 0, none⟩) L)
    (hp : ThH w pb (.string ⟨s.prj.toArray⟩) (.int .i64 s.wgt) (.int .i64 s.srv)) :
    Calls Tryz.prog 31 #[.slice (some ⟨g, 0, none⟩) L.length L.length, .int .i64 (i : Int), .slice (some ⟨pb, 0, none⟩) 1 1] w fun e w' => ∃ v', e = .returned v' ∧ RowH w' B v' (L.take i ++ s :: L.drop i) ∧ Below B w w' := by
  obtain ⟨i0, hi0, hz0, hz1, hz2⟩ := info_parts infoH
  obtain ⟨A, hA⟩ : ∃ A, A = (L.flatMap shC).take (i * 3) := ⟨_, rfl⟩
  obtain ⟨C, hC⟩ : ∃ C, C = (L.flatMap shC).drop (i * 3) := ⟨_, rfl⟩
  obtain ⟨V, hV⟩ : ∃ V, V = shC s := ⟨_, rfl⟩
  have hfl := flatH_len L
  have lA : A.length = i * 3 := by rw [hA, List.length_take]; omega
  have lC : C.length = (L.length - i) * 3 := by rw [hC, List.length_drop]; omega
  have lV : V.length = 3 := by rw [hV]; rfl
  have hmx : maxLen = 9223372036854775807 := rfl
  have hFs : ∀ j v, (L.flatMap shC)[j]? = some v → w.cell? ⟨g, j, none⟩ = some v := fun j v hj => by
    have := readsH_cells hr j v hj
    rwa [addr_at, Nat.zero_add] at this
  have hCs : ∀ j v, C[j]? = some v → w.cell? ⟨g, i * 3 + j, none⟩ = some v := by
    intro j v hj
    rw [hC, List.getElem?_drop] at hj
    exact hFs _ v hj
  have h1C : ∀ u ∈ C, u.oneCell' = true := fun u hu => shC_one L u (List.mem_of_mem_drop (by rw [← hC]; exact hu))
  have h1V : ∀ u ∈ V, u.oneCell' = true := fun u hu => shC_one [s] u (by simpa [hV] using hu)
  have hVs : ∀ j v, V[j]? = some v → w.cell? ((⟨pb, 0, none⟩ : Addr).add j) = some v := by
    rw [hV]
    exact thH_cellsA hp
  have hpw : pb < w.heap.size := hp.lt
  have hsz : (Tryz.prog.info? 41).map (·.size) = some 3 := by rw [hi0]; simp [hz1]
  have hold : (Builtin.firstCells i0.size i (.slice (some ⟨g, 0, none⟩) i L.length)).run Tryz.prog w.drew = .ok A.toArray w.drew := by
    rw [hz1]
    exact run_firstCells_some w.drew 3 i ⟨g, 0, none⟩ i L.length A lA (fun j v hj => by
      rw [addr_at, Nat.zero_add]
      rw [hA, List.getElem?_take] at hj
      split at hj
      · exact hFs j v hj
      · cases hj)
  have hik : i + (L.length + 1 - i) = L.length + 1 := by omega
  have hkk : (L.length : Int) + 1 - (i : Int) = ((L.length + 1 - i : Nat) : Int) := by omega
  obtain ⟨G, hG⟩ : ∃ G, G = grownCap w (L.length + 1) L.length 41 := ⟨_, rfl⟩
  obtain ⟨Z, hZ⟩ : ∃ Z : Array Value, Z = Builtin.zeroCells (Value.agg #[Value.string ⟨#[]⟩, Value.int .i64 0, Value.int .i64 0]).cells (L.length + 1 - i) ++ Builtin.zeroCells (Value.agg #[Value.string ⟨#[]⟩, Value.int .i64 0, Value.int .i64 0]).cells (G - (L.length + 1)) := ⟨_, rfl⟩
  have hGn : L.length + 1 ≤ G := by rw [hG]; exact grownCap_ge w _ _ _
  have lZ : Z.size = (G - i) * 3 := by
    rw [hZ]
    simp [Builtin.zeroCells, Value.cells]
    omega
  obtain ⟨ROW, hROW⟩ : ∃ ROW : Array Value, ROW = A.toArray ++ Z := ⟨_, rfl⟩
  have eROW : ROW.toList = A ++ Z.toList := by rw [hROW]; simp
  have lROW : ROW.size = G * 3 := by rw [← Array.length_toList, eROW, List.length_append, lA, Array.length_toList, lZ]; omega
  have hrz : ∀ ty, (Builtin.append_ #[22, 3] ty #[.slice (some ⟨g, 0, none⟩) i L.length, .int .i64 ((L.length : Int) + 1 - (i : Int))]).run Tryz.prog w =
      .ok (.slice (some ⟨w.heap.size, 0, none⟩) (L.length + 1) G) (w.drew.alloc (.cells ROW 41)) := fun ty => by
    have h := Lib.run_append_grow_zeros w 22 3 ty 41 i0 _ .i64 .i64 Tryz.underlying22 Tryz.underlying3 hi0 hz0 (some ⟨g, 0, none⟩) i L.length A hold (L.length + 1 - i) (by omega) (by omega) (by omega) (by omega) (by rw [hz2]; omega) (by rw [hz2, hik]; exact growslice_fits (by omega) (by omega))
    rw [hik, ← hG] at h
    rw [hkk, h, hROW, hZ, Array.append_assoc]
  obtain ⟨q1, q2, q3⟩ := ins_new A C Z.toList V (by have e1 : Z.toList.length = Z.size := Array.length_toList ..; omega)
  simp only [← eROW] at q1 q2 q3
  obtain ⟨D1, hD1⟩ : ∃ D1, D1 = ROW.toList.take A.length ++ V ++ ROW.toList.drop (A.length + V.length) := ⟨_, rfl⟩
  obtain ⟨D2, hD2⟩ : ∃ D2, D2 = D1.take (A.length + V.length) ++ C ++ D1.drop (A.length + V.length + C.length) := ⟨_, rfl⟩
  rw [← hD1] at q1 q2 q3
  rw [← hD2] at q1 q2
  obtain ⟨W1, hW1⟩ : ∃ W1, W1 = w.drew.alloc (.cells ROW 41) := ⟨_, rfl⟩
  rw [← hW1] at hrz
  have hg1 : W1.heap[w.heap.size]? = some (.cells ROW 41 (0, 0)) := by rw [hW1]; exact heap_alloc_new w.drew _
  have hO : ∀ k, k < w.heap.size → W1.heap[k]? = w.heap[k]? := fun k hk => by rw [hW1]; exact Below.heap_alloc w.drew _ k hk
  have hmin2 : Nat.min 1 (L.length + 1 - i) = 1 := Nat.min_eq_left (by omega)
  have hcpA : ∀ (W : World), W.heap = W1.heap → ∀ ty dc, (Builtin.copy_ #[22, 22] ty #[.slice (some ⟨w.heap.size, i * 3, none⟩) (L.length + 1 - i) dc, .slice (some ⟨pb, 0, none⟩) 1 1]).run Tryz.prog W = .ok (goInt 1) (W.setRow w.heap.size D1.toArray) := fun W hW ty dc => by
    have h := run_copy_rowK Tryz.prog 3 W 22 22 ty 41 w.heap.size (i * 3) (L.length + 1 - i) dc ⟨pb, 0, none⟩ 1 1 ROW 41 V Tryz.underlying22 hsz (by rw [hW]; exact hg1) (by rw [hmin2, lV]) (fun j v hj => by
      have hx := hVs j v hj
      rw [addr_at] at hx ⊢
      rw [World.cell?_of_block (a := ⟨pb, 0 + j, none⟩) (w := w) (by rw [hW]; exact hO pb hpw)]
      exact hx) (by omega) h1V
    rw [hmin2] at h
    rw [h, hD1, lA, lV]
    rfl
  have hmin : Nat.min (L.length - i) (L.length - i) = L.length - i := Nat.min_self _
  have hcpB : ∀ (W : World), W.heap = (W1.setRow w.heap.size D1.toArray).heap → ∀ ty dc sc, (Builtin.copy_ #[22, 22] ty #[.slice (some ⟨w.heap.size, (i + 1) * 3, none⟩) (L.length - i) dc, .slice (some ⟨g, i * 3, none⟩) (L.length - i) sc]).run Tryz.prog W = .ok (goInt ((L.length - i : Nat) : Int)) (W.setRow w.heap.size D2.toArray) := fun W hW ty dc sc => by
    have h := run_copy_rowK Tryz.prog 3 W 22 22 ty 41 w.heap.size ((i + 1) * 3) (L.length - i) dc ⟨g, i * 3, none⟩ (L.length - i) sc D1.toArray 41 C Tryz.underlying22 hsz (by rw [hW]; exact setRow_heap W1 _ _ _ _ _ hg1) (by rw [hmin, lC]) (fun j v hj => by
      rw [addr_at, World.cell?_of_block (a := ⟨g, i * 3 + j, none⟩) (w := w) (by rw [hW]; exact (setRow_other W1 _ g _ (by omega)).trans (hO g hgw))]
      exact hCs j v hj) (by have e1 : D1.toArray.size = D1.length := List.size_toArray ..; have e2 : ROW.toList.length = ROW.size := Array.length_toList ..; omega) h1C
    rw [hmin] at h
    rw [h, hD2, lA, lV, show i * 3 + 3 = (i + 1) * 3 by omega]
  have hG63 : G ≤ 9223372036854775807 := by
    have := grownCap_le_maxLen w (L.length + 1) L.length 41 (by unfold maxLen; omega)
    rw [← hG] at this
    unfold maxLen at this
    omega
  have mixed : Tryz.prog.follows Departure.mixedOrders = true := by kernel_rfl
  have hw1 : IntKind.i64.wrap ((i : Int) + 1) = (i : Int) + 1 := by rw [IntKind.wrap_i64]; omega
  have hb1 : (0 : Int) ≤ (i : Int) + 1 := by omega
  have htn : ((i : Int) + 1).toNat = i + 1 := by omega
  have hGi : ¬ (G = i) := by omega
  have hGim : ¬ (G = i + 1) := by omega
  have hci : ¬ (L.length = i) := by omega
  have hin : i ≤ L.length := by omega
  have hb3 : (i : Int) ≤ (L.length : Int) := by omega
  have hE : (w.alloc (.cells ROW 41)).drew.heap = W1.heap := by rw [hW1]; rfl
  have HF := Lib.hid (show D2.take ((L.length + 1) * 3) = (L.take i ++ s :: L.drop i).flatMap shC by rw [flat_ins, ← hA, ← hC, ← hV, ← q2, lA, lV, lC]; congr 1; omega)
  have HL := Lib.hid (show D2.length = G * 3 by rw [q1, Array.length_toList, lROW])
  have HW1 := Lib.hid hW1
  have HG1 := Lib.hid hg1
  clear hp hVs hCs hA hC hV hfl lA lC lV q1 q2 q3 hD1 hD2 hg1 h1C h1V hmin hmin2 hO hFs hr hold hik hkk hG hZ hROW eROW lROW lZ hW1
  go_enter Tryz.func31, Tryz.ntmps31
  go_wp2_with (first
    | (at_builtin; refine Lib.wpList_append_run _ rfl _ _ _ _ rfl _ _ rfl rfl _ _ (hrz _) ?_)
    | (at_builtin; refine wpList_copy_runI _ rfl _ _ 22 22 rfl _ _ rfl rfl (hcpA _ rfl _ _) ?_)
    | (at_builtin; refine wpList_copy_runI _ rfl _ _ 22 22 rfl _ _ rfl rfl (hcpB _ rfl _ _ _) ?_))
  go_region_law_o (refine step_copy_runI rfl _ _ 22 22 rfl (.slice (some ⟨w.heap.size, (i + 1) * 3, none⟩) (L.length - i) (G - (i + 1))) (.slice (some ⟨g, i * 3, none⟩) (L.length - i) (L.length - i)) (by simp [Act.eval, Act.put]) (by simp [Act.eval, Act.put]) (hcpB (W1.setRow w.heap.size D1.toArray).drew rfl 3 (G - (i + 1)) (L.length - i)) ?_)
  go_wp2_with fail
  go_ret
  refine ⟨_, rfl, ?_, ?_⟩
  · unfold RowH
    rw [len_ins L s i (by omega)]
    refine ⟨by rw [flatH_len, len_ins L s i (by omega)], .inr ⟨w.heap.size, G, D2.toArray, rfl, hB, setRow_heap _ _ _ _ _ _ (setRow_heap W1 _ _ _ _ _ HG1.out), hGn, hG63, ?_, ?_⟩⟩
    · rw [List.size_toArray, HL.out]
    · exact HF.out
  · refine below_row (below_row ?_ hB _).drew hB _
    rw [HW1.out]
    exact (Below.refl B w).drew.alloc hB _
/-- Insert at a place ahead of the end. -/
theorem insMid_any (u : Value) (L : List Sha) (s : Sha) (B pb i : Nat) (hi : i < L.length) (hl : L.length ≤ 1000000) (w : World) (hB : B ≤ w.heap.size) (hrow : RowH w B u L) (hne : ∀ g, u.ownBlock = some g → pb ≠ g) (hp : ThH w pb (.string ⟨s.prj.toArray⟩) (.int .i64 s.wgt) (.int .i64 s.srv)) :
    Calls Tryz.prog 31 #[u, .int .i64 (i : Int), .slice (some ⟨pb, 0, none⟩) 1 1] w fun e w' => ∃ v', e = .returned v' ∧ RowH w' B v' (L.take i ++ s :: L.drop i) ∧ Below B w w' := by
  have hrd := hrow.reads
  have hrow' : w.ownsRow B 41 3 u L.length (L.flatMap shC) := hrow
  rcases hrow'.2 with ⟨rfl, h0⟩ | ⟨q, cap, cur, rfl, hg, hh, h3, h4, h5, h6⟩
  · omega
  · by_cases hc : L.length + 1 ≤ cap
    · exact insRoom_any q cap cur L s B pb i hi hl w hg (hne q rfl) hh hc h4 h5 h6 hp
    · obtain rfl : cap = L.length := by omega
      obtain ⟨a, c, e, _, hr⟩ := hrd
      cases e
      exact insGrow_any q L s B pb i hi hl w hB (Array.getElem?_eq_some_iff.1 hh).1 hr hp
end Go.Proofs.YtmjikddceegloaaGreatDoor
namespace Go.Proofs.YtmjikddceegloaaGreatDoor
open Go.RowKit Go.Lib
set_option linter.unusedSimpArgs false
set_option linter.unusedVariables false

/-- The first share with the least ratio. -/
def minF (m : Sha) : List Sha → Sha
  | [] => m
  | y :: r => minF (if cmpR y m < 0 then y else m) r
theorem minF_step (m : Sha) (L : List Sha) (i : Nat) (h : i < L.length) : minF m (L.drop i) = minF (if cmpR L[i] m < 0 then L[i] else m) (L.drop (i + 1)) := by
  rw [List.drop_eq_getElem_cons h]
  rfl
theorem setCell_blkA {w : World} {b : Nat} {cs : Array Value} {t : TypeId} (k : Nat) (h : w.heap[b]? = some (.cells cs t (0, 0))) (v : Value) : (w.setCell ⟨b, k, none⟩ v).heap[b]? = some (.cells (cs.setIfInBounds k v) t (0, 0)) := by
  obtain ⟨hlt, hk⟩ := Array.getElem?_eq_some_iff.1 h
  show (w.heap.modify b _)[b]? = _
  rw [Array.getElem?_eq_getElem (by rw [Array.size_modify]; exact hlt), Array.getElem_modify_self, hk]
  rfl
theorem ThH.storeA {w : World} {b : Nat} {x y z : Value} (h : ThH w b x y z) (x' y' z' : Value) : ThH (((w.setCell ⟨b, 0, none⟩ x').setCell ⟨b, 1, none⟩ y').setCell ⟨b, 2, none⟩ z') b x' y' z' := ⟨setCell_blkA 2 (setCell_blkA 1 (setCell_blkA 0 h.blk x') y') z'⟩
theorem setCell_far {w : World} {b q : Nat} (k : Nat) (v : Value) (h : q ≠ b) : (w.setCell ⟨b, k, none⟩ v).heap[q]? = w.heap[q]? := by
  show (w.heap.modify b _)[q]? = _
  rw [Array.getElem?_modify, if_neg (fun e => h e.symm)]
theorem ThH.far {w : World} {b q k : Nat} {x y z v : Value} (h : ThH w q x y z) (hne : q ≠ b) : ThH (w.setCell ⟨b, k, none⟩ v) q x y z := ⟨(setCell_far k v hne).trans h.blk⟩
theorem results_cellA {fn : Func} {p : Tmp} {ty : TypeId} (h : fn.results = #[.cell p ty]) (tmps : Array Value) (P : Program) (w : World) :
    (results fn tmps).run P w = ((asAddr (tmps.getD p undef)).run P w).andThen fun a w₁ => (loadVar ty a).run P w₁ := by
  simp only [results, h]
  simp [Sem.run_bind]
/-- What a comparison in MinFunc stands on. -/
structure MinH (w0 w1 : World) (p q b off : Nat) (sy : ByteArray) (gy vy : Int) (sm : ByteArray) (gm vm : Int) : Prop where
  zero : ThH w1 p (.string ⟨#[]⟩) (.int .i64 0) (.int .i64 0)
  th : ThH w1 q (.string sm) (.int .i64 gm) (.int .i64 vm)
  lt : b < w1.heap.size
  c0 : w1.cell? ⟨b, off, none⟩ = some (.string sy)
  c1 : w1.cell? ⟨b, off + 1, none⟩ = some (.int .i64 gy)
  c2 : w1.cell? ⟨b, off + 2, none⟩ = some (.int .i64 vy)
  bel : Below w0.heap.size w0 w1
abbrev MinP (w0 w1 : World) (p q b off : Nat) (sy : ByteArray) (gy vy : Int) (sm : ByteArray) (gm vm : Int) : Prop :=
  (w1.cell? ⟨b, off, none⟩ = some (.string sy) ∧ w1.cell? ⟨b, off + 1, none⟩ = some (.int .i64 gy) ∧ w1.cell? ⟨b, off + 2, none⟩ = some (.int .i64 vy)) ∧
  (w1.cell? ⟨q, 0, none⟩ = some (.string sm) ∧ w1.cell? ⟨q, 1, none⟩ = some (.int .i64 gm) ∧ w1.cell? ⟨q, 2, none⟩ = some (.int .i64 vm)) ∧
  (w1.frozen? ⟨q, 0, none⟩ = false ∧ w1.frozen? ⟨q, 1, none⟩ = false ∧ w1.frozen? ⟨q, 2, none⟩ = false) ∧ MinH w0 w1 p q b off sy gy vy sm gm vm
theorem MinH.s {w0 w1 : World} {p q b off : Nat} {sy : ByteArray} {gy vy : Int} {sm : ByteArray} {gm vm : Int} (h : MinH w0 w1 p q b off sy gy vy sm gm vm) : MinP w0 w1 p q b off sy gy vy sm gm vm :=
  ⟨⟨h.c0, h.c1, h.c2⟩, h.th.facts, h.th.froz, h⟩
theorem MinH.t {w0 w1 w2 : World} {p q b off : Nat} {sy : ByteArray} {gy vy : Int} {sm : ByteArray} {gm vm : Int} (h : MinP w0 w1 p q b off sy gy vy sm gm vm) (hb : BelowD w1 w2) : MinP w0 w2 p q b off sy gy vy sm gm vm := by
  have h := h.2.2.2
  have hl := h.lt
  exact MinH.s ⟨h.zero.below hb.1, h.th.below hb.1, Nat.lt_of_lt_of_le h.lt hb.1.size, (hb.1.cell (p := ⟨b, _, none⟩) hl).trans h.c0, (hb.1.cell (p := ⟨b, _, none⟩) hl).trans h.c1, (hb.1.cell (p := ⟨b, _, none⟩) hl).trans h.c2, h.bel.trans (hb.1.mono h.bel.size)⟩
theorem MinH.z {w0 w1 : World} {p q b off : Nat} {sy : ByteArray} {gy vy : Int} {sm : ByteArray} {gm vm : Int} (h : MinP w0 w1 p q b off sy gy vy sm gm vm) : MinH w0 w1 p q b off sy gy vy sm gm vm := h.2.2.2
set_option maxRecDepth 100000 in
set_option maxHeartbeats 4000000 in
theorem minH_any (v : Option Addr) (cap : Nat) (L : List Sha) (h0 : 0 < L.length) (hl : L.length ≤ 1000000) (hN : ∀ s ∈ L, NumS s) (w : World) (hr : ReadsH w v L) :
    Calls Tryz.prog 28 #[.slice v L.length cap, .func (Fn.func 29) #[] #[]] w fun e w' => e = .returned (shV (minF L[0] (L.drop 1))) ∧ Below w.heap.size w w' := by
  obtain ⟨b, off, rfl, hbl, c0, c1, c2⟩ := hr 0 h0
  have HN := Lib.hid hN
  have HR := Lib.hid hr
  obtain ⟨M, hM⟩ : ∃ M, M = minF L[0] (L.drop 1) := ⟨_, rfl⟩
  have HM := Lib.hid hM
  have N0 := Lib.hid (hN L[0] (List.getElem_mem ..))
  rw [← hM]
  obtain ⟨m0, hm0⟩ : ∃ m, m = L[0] := ⟨_, rfl⟩
  rw [← hm0] at c0 c1 c2 hM N0
  have HM := Lib.hid hM
  clear hM hm0 hr hN
  rw [Nat.zero_mul, Nat.add_zero] at c0 c1 c2
  obtain ⟨sx, hsx⟩ : ∃ t : ByteArray, t = ⟨m0.prj.toArray⟩ := ⟨_, rfl⟩
  rw [← hsx] at c0
  have HSX := Lib.hid hsx
  clear hsx
  have HB := Lib.hid (((Below.refl w.heap.size w).alloc (Nat.le_refl _) (.cells #[.string ⟨#[]⟩, .int .i64 0, .int .i64 0] 41)).alloc (by simp) (.cells #[.string sx, .int .i64 m0.wgt, .int .i64 m0.srv] 41))
  have T0 := (ThH.new w (.string ⟨#[]⟩) (.int .i64 0) (.int .i64 0)).alloc (.cells #[.string sx, .int .i64 m0.wgt, .int .i64 m0.srv] 41)
  have T1 := ThH.new (w.alloc (.cells #[.string ⟨#[]⟩, .int .i64 0, .int .i64 0] 41)) (.string sx) (.int .i64 m0.wgt) (.int .i64 m0.srv)
  rw [World.size_alloc] at T1
  go_enter Tryz.func28, Tryz.ntmps28
  go_wp2_with fail
  obtain ⟨W1, hW1⟩ : ∃ W1, W1 = (w.alloc (.cells #[.string ⟨#[]⟩, .int .i64 0, .int .i64 0] 41)).alloc (.cells #[.string sx, .int .i64 m0.wgt, .int .i64 m0.srv] 41) := ⟨_, rfl⟩
  rw [← hW1] at HB T0 T1 ⊢
  rw [HSX.out] at T1
  have T0 := Lib.hid T0
  have T1 := Lib.hid T1
  clear hW1
  obtain ⟨p, hp⟩ : ∃ p, p = w.heap.size := ⟨_, rfl⟩
  rw [← hp] at T0 T1 ⊢
  have hpw : w.heap.size ≤ p := by omega
  have hqw : w.heap.size ≤ p + 1 := by omega
  clear hp c0 c1 c2
  go_loopw [6] (fun s6 wr => ∃ (i : Nat) (m : Sha), s6 = .int .i64 (i : Int) ∧ 1 ≤ i ∧ i ≤ L.length ∧ Hid (NumS m ∧ minF m (L.drop i) = M) ∧ Hid (ThH wr p (.string ⟨#[]⟩) (.int .i64 0) (.int .i64 0)) ∧ Hid (ThH wr (p + 1) (.string ⟨m.prj.toArray⟩) (.int .i64 m.wgt) (.int .i64 m.srv)) ∧ Hid (Below w.heap.size w wr)) (fun s6 _ => L.length - (RowKit.intOf s6).toNat)
  case atStart => exact ⟨1, m0, rfl, by omega, by omega, Lib.hid ⟨N0.out, HM.out.symm⟩, T0, T1, HB⟩
  case round =>
    obtain ⟨i, m, rfl, h1i, hil, HI, Z, T, B⟩ := hrel
    by_cases hlt : i < L.length
    · have hltI : (i : Int) < (L.length : Int) := by omega
      have hi0 : (0 : Int) ≤ (i : Int) := by omega
      obtain ⟨b', off', e, hbl', d0, d1, d2⟩ := (HR.out.below B.out) i hlt
      obtain ⟨y, hy⟩ : ∃ y, y = L[i] := ⟨_, rfl⟩
      rw [← hy] at d0 d1 d2
      have hNy : NumS y := by rw [hy]; exact HN.out _ (List.getElem_mem ..)
      have HS := Lib.hid (show minF (if cmpR y m < 0 then y else m) (L.drop (i + 1)) = M by rw [hy, ← minF_step, HI.out.2])
      have HNy := Lib.hid hNy
      clear hy hNy
      have RT := fun sy sm w => ratios_any y m sy sm HNy.out HI.out.1 w
      have RT := Lib.hid RT
      obtain ⟨sy, hsy⟩ : ∃ t : ByteArray, t = ⟨y.prj.toArray⟩ := ⟨_, rfl⟩
      obtain ⟨sm, hsm⟩ : ∃ t : ByteArray, t = ⟨m.prj.toArray⟩ := ⟨_, rfl⟩
      rw [← hsy] at d0
      rw [← hsm] at T
      cases e
      have hs0 := MinH.s (w0 := wr) (MinH.mk Z.out T.out hbl' d0 d1 d2 (Below.refl _ _))
      have HSY := Lib.hid hsy
      have HSM := Lib.hid hsm
      clear hsy hsm d0 d1 d2
      have hqb : p + 1 ≠ p := by omega
      have hw1 : IntKind.i64.wrap ((i : Int) + 1) = (i : Int) + 1 := by rw [IntKind.wrap_i64]; omega
      by_cases hc : cmpR y m < 0
      · rw [if_pos hc] at HS
        generalize cmpR y m = cv at *
        go_upto_region 7 with fail
        have hs1 := MinH.t hs0 (BelowD.refl wr).drew
        go_region_held3 (fun w' => MinP wr w' p (p + 1) b (off + i * 3) sy y.wgt y.srv sm m.wgt m.srv) (first | exact hs1 | assumption | exact MinH.t (by assumption) (by assumption)) (first | (go_at_call 29; go_fit (RT.out _ _ _); rintro e w5 ⟨rfl, hb5⟩) | fail)
        all_goals
          go_wp2_with fail
          refine ⟨⟨i + 1, y, by go_num, by omega, by omega, Lib.hid ⟨HNy.out, HS.out⟩, ?_, ?_, ?_⟩, by simp [RowKit.intOf]; omega⟩
          · exact Lib.hid (((((MinH.z (by assumption)).zero.far (fun e => hqb e.symm)).far (fun e => hqb e.symm)).far (fun e => hqb e.symm)))
          · rw [← HSY.out]
            exact Lib.hid ((MinH.z (by assumption)).th.storeA _ _ _)
          · exact Lib.hid ((((B.out.trans ((MinH.z (by assumption)).bel.mono B.out.size)).setCell hqw _).setCell hqw _).setCell hqw _)
      · rw [if_neg hc] at HS
        generalize cmpR y m = cv at *
        go_upto_region 7 with fail
        have hs1 := MinH.t hs0 (BelowD.refl wr).drew
        go_region_held3 (fun w' => MinP wr w' p (p + 1) b (off + i * 3) sy y.wgt y.srv sm m.wgt m.srv) (first | exact hs1 | assumption | exact MinH.t (by assumption) (by assumption)) (first | (go_at_call 29; go_fit (RT.out _ _ _); rintro e w5 ⟨rfl, hb5⟩) | fail)
        all_goals
          go_wp2_with fail
          refine ⟨⟨i + 1, m, by go_num, by omega, by omega, Lib.hid ⟨HI.out.1, HS.out⟩, ?_, ?_, ?_⟩, by simp [RowKit.intOf]; omega⟩
          · exact Lib.hid (MinH.z (by assumption)).zero
          · rw [← HSM.out]
            exact Lib.hid (MinH.z (by assumption)).th
          · exact Lib.hid (B.out.trans ((MinH.z (by assumption)).bel.mono B.out.size))
    · obtain rfl : i = L.length := by omega
      have hEM : m = M := by have := HI.out.2; rwa [List.drop_of_length_le (Nat.le_refl _)] at this
      subst hEM
      have hltI : ¬ (L.length : Int) < (L.length : Int) := by omega
      obtain ⟨t0, t1, t2⟩ := T.out.facts
      obtain ⟨z0, z1, z2⟩ := Z.out.facts
      obtain ⟨f0, f1, f2⟩ := Z.out.froz
      have T3 := Z.out.storeA (.string ⟨m.prj.toArray⟩) (.int .i64 m.wgt) (.int .i64 m.srv)
      obtain ⟨y0, y1, y2⟩ := T3.facts
      obtain ⟨sm, hsm⟩ : ∃ t : ByteArray, t = ⟨m.prj.toArray⟩ := ⟨_, rfl⟩
      rw [← hsm] at t0 y0
      have HS3 := Lib.hid hsm
      clear T3 hsm
      go_wp2_with fail
      refine bodyPost_ret (v := .agg #[.string sm, .int .i64 m.wgt, .int .i64 m.srv]) ?_ rfl ⟨by rw [HS3.out]; rfl, ?_⟩
      · rw [results_cellA rfl]
        go_simp
      · exact ((B.out.setCell hpw _).setCell hpw _).setCell hpw _
end Go.Proofs.YtmjikddceegloaaGreatDoor
namespace Go.Proofs.YtmjikddceegloaaGreatDoor
open Go.RowKit Go.Lib
set_option linter.unusedSimpArgs false

/-- The smallest number of which the ratio for a weight is not below that of a share. -/
def upR (s : Sha) (m : Int) : Int := (s.srv * m + s.wgt - 1) / s.wgt
/-- The smallest number with which a project begins. -/
def leastL (L : List Sha) (m : Int) : Int :=
  match L with
  | [] => 0
  | x :: r => upR (minF x r) m
theorem ceil_neg (z g : Int) (hg : 0 < g) : (-z) / g = -((z + g - 1) / g) := by
  have h1 := Int.mul_ediv_add_emod (z + g - 1) g
  have h2 := Int.emod_nonneg (z + g - 1) (show g ≠ 0 by omega)
  have h3 := Int.emod_lt_of_pos (z + g - 1) hg
  generalize (z + g - 1) / g = q at *
  generalize (z + g - 1) % g = r at *
  have e : -z = (g - 1 - r) + -q * g := by
    rw [Int.neg_mul, Int.mul_comm q g]
    omega
  rw [e, Int.add_mul_ediv_right _ _ (by omega), Int.ediv_eq_zero_of_lt (by omega) (by omega)]
  omega
theorem upR_bounds (s : Sha) (m : Int) (hg : 1 ≤ s.wgt) (hm : 1 ≤ m ∧ m ≤ 1000) (hs : 0 ≤ s.srv ∧ s.srv ≤ 1125899906842624) : 0 ≤ upR s m ∧ upR s m ≤ 1152921504606846976 := by
  have hb : 0 ≤ s.srv * m := Int.mul_nonneg hs.1 (by omega)
  have hb2 : s.srv * m ≤ 1125899906842624 * 1000 := Int.mul_le_mul hs.2 hm.2 (by omega) (by omega)
  unfold upR
  constructor
  · exact Int.ediv_nonneg (by omega) (by omega)
  · refine Int.le_trans (b := s.srv * m) ?_ (by omega)
    generalize s.srv * m = z at *
    by_cases hz : z = 0
    · subst hz
      rw [Int.ediv_eq_zero_of_lt (by omega) (by omega)]
      omega
    · refine Int.ediv_le_of_le_mul (by omega) ?_
      have : z * 1 + s.wgt - 1 ≤ z * s.wgt := by
        have h1 : 0 ≤ (z - 1) * (s.wgt - 1) := Int.mul_nonneg (by omega) (by omega)
        rw [Int.sub_mul, Int.mul_sub, Int.mul_one, Int.one_mul] at h1
        omega
      omega
theorem scQ_up (s : Sha) (m : Int) (hg : 1 ≤ s.wgt ∧ s.wgt ≤ 1000) (hm : 1 ≤ m ∧ m ≤ 1000) (hs : 0 ≤ s.srv ∧ s.srv ≤ 1125899906842624) : scQ (-s.srv) m s.wgt = -(upR s m) := by
  have hb := upR_bounds s m hg.1 hm hs
  have hd : ((s.wgt.natAbs : Nat) : Int) = s.wgt := by omega
  unfold scQ scZ flQ
  rw [if_neg (show ¬ s.wgt = 0 by omega), if_neg (show ¬ s.wgt < 0 by omega), hd, Int.neg_mul, ceil_neg _ _ (by omega)]
  unfold upR at hb ⊢
  rw [if_pos (by omega)]
theorem minF_mem (m : Sha) (L : List Sha) : minF m L = m ∨ minF m L ∈ L := by
  induction L generalizing m with
  | nil => exact .inl rfl
  | cons y r ih =>
    unfold minF
    rcases ih (if cmpR y m < 0 then y else m) with h | h
    · rw [h]
      split
      · exact .inr (List.mem_cons_self ..)
      · exact .inl rfl
    · exact .inr (List.mem_cons_of_mem _ h)
theorem minF_in (L : List Sha) (h : 0 < L.length) : minF L[0] (L.drop 1) ∈ L := by
  cases L with
  | nil => simp at h
  | cons x r =>
    simp only [List.getElem_cons_zero, List.drop_succ_cons, List.drop_zero]
    rcases minF_mem x r with e | e
    · rw [e]; exact List.mem_cons_self ..
    · exact List.mem_cons_of_mem _ e
theorem leastL_eq (L : List Sha) (m : Int) (h : 0 < L.length) : leastL L m = upR (minF L[0] (L.drop 1)) m := by
  cases L with
  | nil => simp at h
  | cons x r => rfl
/-- What Add answers where the project has a share. -/
def addHas (L : List Sha) (k : Nat) (p : List UInt8) (m q : Int) : List Sha × Int := if 1125899906842624 < q then (L, 15) else (L.set k ⟨p, m, q⟩, 0)
/-- What Add answers where it has none. -/
def addNew (L : List Sha) (i : Nat) (p : List UInt8) (m : Int) : List Sha × Int :=
  if L.length = 64 then (L, 21) else if 1125899906842624 < leastL L m then (L, 15) else (L.take i ++ ⟨p, m, leastL L m⟩ :: L.drop i, 0)
/-- What Add answers. -/
inductive AddR (L : List Sha) (p : List UInt8) (m : Int) : List Sha × Int → Prop
  | bad : ¬ ValidS L → AddR L p m (L, 1)
  | name : ValidS L → nameB p = false → AddR L p m (L, 10)
  | weight : ValidS L → nameB p = true → ¬ (1 ≤ m ∧ m ≤ 1000) → AddR L p m (L, 2)
  | has (k : Nat) (h : k < L.length) : ValidS L → nameB p = true → (1 ≤ m ∧ m ≤ 1000) → L[k].prj = p → AddR L p m (addHas L k p m (upR L[k] m))
  | new (i : Nat) : ValidS L → nameB p = true → (1 ≤ m ∧ m ≤ 1000) → PosAt L p i → (∀ k (h : k < L.length), L[k].prj ≠ p) → AddR L p m (addNew L i p m)
theorem PosAt.one {L : List Sha} {p : List UInt8} {i j : Nat} (h : PosAt L p i) (k : PosAt L p j) : i = j := by
  have a := h.le
  have b := k.le
  rcases Nat.lt_trichotomy i j with e | e | e
  · have := k.low i (by omega) e
    have := h.high i (by omega) (Nat.le_refl _)
    omega
  · exact e
  · have := h.low j (by omega) e
    have := k.high j (by omega) (Nat.le_refl _)
    omega
theorem AddR.one {L : List Sha} {p : List UInt8} {m : Int} {R R' : List Sha × Int} (h : AddR L p m R) (h' : AddR L p m R') : R = R' := by
  cases h with
  | bad h1 => cases h' with
    | bad _ => rfl
    | name g _ => exact absurd g h1
    | weight g _ _ => exact absurd g h1
    | has _ _ g _ _ _ => exact absurd g h1
    | new _ g _ _ _ _ => exact absurd g h1
  | name h1 h2 => cases h' with
    | bad g => exact absurd h1 g
    | name _ _ => rfl
    | weight _ g _ => rw [h2] at g; cases g
    | has _ _ _ g _ _ => rw [h2] at g; cases g
    | new _ _ g _ _ _ => rw [h2] at g; cases g
  | weight h1 h2 h3 => cases h' with
    | bad g => exact absurd h1 g
    | name _ g => rw [h2] at g; cases g
    | weight _ _ _ => rfl
    | has _ _ _ _ g _ => exact absurd g h3
    | new _ _ _ g _ _ => exact absurd g h3
  | has k hk h1 h2 h3 h4 => cases h' with
    | bad g => exact absurd h1 g
    | name _ g => rw [h2] at g; cases g
    | weight _ _ g => exact absurd h3 g
    | has k' hk' _ _ _ g =>
      obtain rfl := h1.inj hk hk' (h4.trans g.symm)
      rfl
    | new _ _ _ _ _ g => exact absurd h4 (g k hk)
  | new i h1 h2 h3 h4 h5 => cases h' with
    | bad g => exact absurd h1 g
    | name _ g => rw [h2] at g; cases g
    | weight _ _ g => exact absurd h3 g
    | has k hk _ _ _ g => exact absurd g (h5 k hk)
    | new j _ _ _ g _ =>
      obtain rfl := h4.one g
      rfl
theorem addHas_len (L : List Sha) (k : Nat) (p : List UInt8) (m q : Int) : (addHas L k p m q).1.length = L.length := by
  unfold addHas
  split
  · rfl
  · exact List.length_set
theorem addNew_len (L : List Sha) (i : Nat) (p : List UInt8) (m : Int) (hi : i ≤ L.length) : (addNew L i p m).1.length ≤ L.length + 1 := by
  unfold addNew
  split
  · exact Nat.le_succ _
  · split
    · exact Nat.le_succ _
    · show (L.take i ++ _ :: L.drop i).length ≤ _
      rw [len_ins _ _ _ hi]
      exact Nat.le_refl _
theorem AddR.len {L : List Sha} {p : List UInt8} {m : Int} {R : List Sha × Int} (h : AddR L p m R) : R.1.length ≤ L.length + 1 := by
  cases h with
  | bad _ => exact Nat.le_succ _
  | name _ _ => exact Nat.le_succ _
  | weight _ _ _ => exact Nat.le_succ _
  | has k _ _ _ _ _ => rw [addHas_len]; exact Nat.le_succ _
  | new i _ _ _ g _ => exact addNew_len L i p m g.le
/-- Where no project is found, none is there. -/
theorem FindR.no {L : List Sha} {p : List UInt8} {k : Nat} (hV : ValidS L) (h : FindR L p k false) : ∀ t (ht : t < L.length), L[t].prj ≠ p := by
  intro t ht e
  obtain ⟨h1, h2⟩ := h
  by_cases htk : t < k
  · have := h1.low t ht htk
    rw [e, cmp_self] at this
    omega
  · by_cases hkt : t = k
    · subst hkt
      exact absurd (h2.2 ⟨ht, e⟩) (by decide)
    · have hkl : k < L.length := by omega
      have h2 := h1.high k hkl (Nat.le_refl _)
      have h3 := hV.lt (show k < t by omega) ht
      rw [e] at h3
      omega
end Go.Proofs.YtmjikddceegloaaGreatDoor
namespace Go.Proofs.YtmjikddceegloaaGreatDoor
open Go.RowKit Go.Lib
set_option linter.unusedSimpArgs false
set_option linter.unusedVariables false

def AddPostR (L : List Sha) (p : List UInt8) (m : Int) (w : World) (e : Ending) (w' : World) : Prop := ∃ (a : Option Addr) (c : Nat) (R : List Sha × Int), e = .returned (.tuple #[.slice a R.1.length c, .int .i64 R.2]) ∧ AddR L p m R ∧ ReadsH w' a R.1 ∧ Below w.heap.size w w'
/-- Insert anywhere. -/
theorem insAny_any (u : Value) (L : List Sha) (s : Sha) (B pb i : Nat) (hi : i ≤ L.length) (hl : L.length ≤ 1000000) (w : World) (hB : B ≤ w.heap.size) (hrow : RowH w B u L) (hne : ∀ g, u.ownBlock = some g → pb ≠ g) (hp : ThH w pb (.string ⟨s.prj.toArray⟩) (.int .i64 s.wgt) (.int .i64 s.srv)) :
    Calls Tryz.prog 31 #[u, .int .i64 (i : Int), .slice (some ⟨pb, 0, none⟩) 1 1] w fun e w' => ∃ v', e = .returned v' ∧ RowH w' B v' (L.take i ++ s :: L.drop i) ∧ Below B w w' := by
  by_cases h : i < L.length
  · exact insMid_any u L s B pb i h hl w hB hrow hne hp
  · obtain rfl : i = L.length := by omega
    have := insertEnd_any u L s B pb hl w hB hrow hp
    rwa [List.take_length, List.drop_length]
set_option maxHeartbeats 4000000 in
set_option maxRecDepth 100000 in
theorem addBad_any (v : Option Addr) (cap : Nat) (L : List Sha) (p : ByteArray) (m : Int) (hp : p.size ≤ 1000000) (hlen : L.length ≤ 1000000) (hx : ∀ x ∈ L, x.prj.length ≤ 1000000) (hV : ¬ ValidS L) (w : World) (hr : ReadsH w v L) :
    Calls Tryz.prog 11 #[.slice v L.length cap, .string p, .int .i64 m] w (AddPostR L p.data.toList m w) := by
  have HR := Lib.hid hr
  have VA := Lib.hid (valid_any v cap L false ⟨fun h => (by cases h), fun h => absurd h hV⟩ hlen hx w hr)
  have HN := Lib.hid (show AddR L p.data.toList m (L, 1) from .bad hV)
  clear hr hV hx
  go_enter Tryz.func11, Tryz.ntmps11
  go_wp2_with fail
  go_fit VA.out
  rintro e w1 ⟨rfl, hb⟩
  have B1 := Lib.hid hb
  clear hb
  go_wp2_with fail
  go_ret2
  exact ⟨v, cap, (L, 1), rfl, HN.out, HR.out.below B1.out, B1.out⟩
set_option maxHeartbeats 4000000 in
set_option maxRecDepth 100000 in
theorem addName_any (v : Option Addr) (cap : Nat) (L : List Sha) (p : ByteArray) (m : Int) (hp : p.size ≤ 1000000) (hlen : L.length ≤ 1000000) (hx : ∀ x ∈ L, x.prj.length ≤ 1000000) (hV : ValidS L) (hn : nameB p.data.toList = false) (w : World) (hr : ReadsH w v L) :
    Calls Tryz.prog 11 #[.slice v L.length cap, .string p, .int .i64 m] w (AddPostR L p.data.toList m w) := by
  have HR := Lib.hid hr
  have VA := Lib.hid (valid_any v cap L true ⟨fun _ => hV, fun _ => rfl⟩ hlen hx w hr)
  have NM := fun w => idName_any p (by omega) w
  rw [hn] at NM
  have NM := Lib.hid NM
  have HN := Lib.hid (show AddR L p.data.toList m (L, 10) from .name hV hn)
  clear hr hV hx hn
  go_enter Tryz.func11, Tryz.ntmps11
  go_wp2_with fail
  go_fit VA.out
  rintro e w1 ⟨rfl, hb⟩
  have B1 := Lib.hid hb
  clear hb
  go_wp2_with fail
  go_fit (NM.out _)
  rintro e w2 ⟨rfl, hb⟩
  have B2 := Lib.hid (B1.out.trans (hb.mono B1.out.size))
  clear hb
  go_wp2_with fail
  go_ret2
  exact ⟨v, cap, (L, 10), rfl, HN.out, HR.out.below B2.out, B2.out⟩
set_option maxHeartbeats 4000000 in
set_option maxRecDepth 100000 in
theorem addWeight_any (v : Option Addr) (cap : Nat) (L : List Sha) (p : ByteArray) (m : Int) (hp : p.size ≤ 1000000) (hlen : L.length ≤ 1000000) (hx : ∀ x ∈ L, x.prj.length ≤ 1000000) (hV : ValidS L) (hn : nameB p.data.toList = true) (hm : ¬ (1 ≤ m ∧ m ≤ 1000)) (w : World) (hr : ReadsH w v L) :
    Calls Tryz.prog 11 #[.slice v L.length cap, .string p, .int .i64 m] w (AddPostR L p.data.toList m w) := by
  have HR := Lib.hid hr
  have VA := Lib.hid (valid_any v cap L true ⟨fun _ => hV, fun _ => rfl⟩ hlen hx w hr)
  have NM := fun w => idName_any p (by omega) w
  rw [hn] at NM
  have NM := Lib.hid NM
  have WG := fun w => wgt_any m w
  rw [decide_eq_false hm] at WG
  have WG := Lib.hid WG
  have HN := Lib.hid (show AddR L p.data.toList m (L, 2) from .weight hV hn hm)
  clear hr hV hx hn hm
  go_enter Tryz.func11, Tryz.ntmps11
  go_wp2_with fail
  go_fit VA.out
  rintro e w1 ⟨rfl, hb⟩
  have B1 := Lib.hid hb
  clear hb
  go_wp2_with fail
  go_fit (NM.out _)
  rintro e w2 ⟨rfl, hb⟩
  have B2 := Lib.hid (B1.out.trans (hb.mono B1.out.size))
  clear hb
  go_wp2_with fail
  go_fit (WG.out _)
  rintro e w3 ⟨rfl, rfl⟩
  go_wp2_with fail
  go_ret2
  exact ⟨v, cap, (L, 2), rfl, HN.out, HR.out.below B2.out, B2.out⟩
set_option maxHeartbeats 4000000 in
set_option maxRecDepth 100000 in
theorem addHas_any (v : Option Addr) (cap : Nat) (L : List Sha) (p : ByteArray) (m : Int) (hp : p.size ≤ 1000000) (hlen : L.length ≤ 1000000) (hx : ∀ x ∈ L, x.prj.length ≤ 1000000) (hV : ValidS L) (hn : nameB p.data.toList = true) (hm : 1 ≤ m ∧ m ≤ 1000) (k0 : Nat) (hk0 : k0 < L.length) (hkp0 : L[k0].prj = p.data.toList) (w : World) (hr : ReadsH w v L) :
    Calls Tryz.prog 11 #[.slice v L.length cap, .string p, .int .i64 m] w (AddPostR L p.data.toList m w) := by
  have HR := Lib.hid hr
  have VA := Lib.hid (valid_any v cap L true ⟨fun _ => hV, fun _ => rfl⟩ hlen hx w hr)
  have NM := fun w => idName_any p (by omega) w
  rw [hn] at NM
  have NM := Lib.hid NM
  have WG := fun w => wgt_any m w
  rw [decide_eq_true hm] at WG
  have WG := Lib.hid WG
  have HM := Lib.hid hm
  have FI := Lib.hid (fun w' (hb : Below w.heap.size w w') => find_any v cap L hV p hp w' (hr.below hb))
  have HV := Lib.hid hV
  have HNM := Lib.hid hn
  have HPB := Lib.hid (show (⟨p.data.toList.toArray⟩ : ByteArray) = p from str_back p)
  have HK := Lib.hid (show ∀ k bb, FindR L p.data.toList k bb → k = k0 ∧ bb = true from fun k bb hf => by
    cases bb
    · exact absurd hkp0 (hf.no hV k0 hk0)
    · obtain ⟨h, e⟩ := hf.2.1 rfl
      exact ⟨hV.inj h hk0 (e.trans hkp0.symm), rfl⟩)
  obtain ⟨q, hq⟩ : ∃ q, q = upR L[k0] m := ⟨_, rfl⟩
  obtain ⟨r1, r2, r3⟩ := hV.right hk0
  have hqb := upR_bounds L[k0] m r2.1 hm r3
  have AL := fun w' => alike_any L[k0] m q r3 (by unfold I64; omega) (by unfold I64; omega) (by rw [hq]; exact scQ_up _ _ r2 hm r3) (by rw [hq]; exact hqb) w'
  rw [← hq] at hqb
  have HN := Lib.hid (show AddR L p.data.toList m (addHas L k0 p.data.toList m q) by rw [hq]; exact .has k0 hk0 hV hn hm hkp0)
  have WI := fun w' (hb : Below w.heap.size w w') => with_any v L cap k0 ⟨p.data.toList, m, q⟩ hk0 hlen w' (hr.below hb)
  unfold shV at WI AL
  dsimp only at WI
  rw [HPB.out] at WI
  obtain ⟨bk, off, rfl, hbl, c0, c1, c2⟩ := hr k0 hk0
  have HC := Lib.hid (show ∀ w', Below w.heap.size w w' → w'.cell? ⟨bk, off + k0 * 3, none⟩ = some (.string ⟨L[k0].prj.toArray⟩) ∧ w'.cell? ⟨bk, off + k0 * 3 + 1, none⟩ = some (.int .i64 L[k0].wgt) ∧ w'.cell? ⟨bk, off + k0 * 3 + 2, none⟩ = some (.int .i64 L[k0].srv) from fun w' hb => ⟨(hb.cell (p := ⟨bk, _, none⟩) hbl).trans c0, (hb.cell (p := ⟨bk, _, none⟩) hbl).trans c1, (hb.cell (p := ⟨bk, _, none⟩) hbl).trans c2⟩)
  obtain ⟨sx, hsx⟩ : ∃ s : ByteArray, s = ⟨L[k0].prj.toArray⟩ := ⟨_, rfl⟩
  rw [← hsx] at HC AL
  generalize L[k0].srv = sv at *
  generalize L[k0].wgt = sg at *
  have AL := Lib.hid AL
  have WI := Lib.hid WI
  have hkI : (k0 : Int) < (L.length : Int) := by omega
  have hkz : (0 : Int) ≤ (k0 : Int) := by omega
  clear hr hV hx hn hm hkp0 r1 r2 r3 hq c0 c1 c2 hsx
  go_enter Tryz.func11, Tryz.ntmps11
  go_wp2_with fail
  go_fit VA.out
  rintro e w1 ⟨rfl, hb⟩
  have B1 := Lib.hid hb
  clear hb
  go_wp2_with fail
  go_fit (NM.out _)
  rintro e w2 ⟨rfl, hb⟩
  have B2 := Lib.hid (B1.out.trans (hb.mono B1.out.size))
  clear hb
  go_wp2_with fail
  go_fit (WG.out _)
  rintro e w3 ⟨rfl, rfl⟩
  go_wp2_with fail
  go_fit (FI.out _ B2.out)
  rintro e w3 ⟨k, bb, rfl, hf, hb⟩
  have B3 := Lib.hid (B2.out.trans (hb.mono B2.out.size))
  clear hb
  obtain ⟨rfl, rfl⟩ := HK.out k bb hf
  clear hf
  have TA := ThH.new w3 (.string p) (.int .i64 m) (.int .i64 0)
  have BA := B3.out.alloc B3.out.size (.cells #[.string p, .int .i64 m, .int .i64 0] 41)
  obtain ⟨c0, c1, c2⟩ := HC.out _ BA
  go_wp2_with fail
  go_fit (AL.out _)
  rintro e w5 ⟨rfl, hb⟩
  have B5 := BA.trans (hb.mono BA.size)
  have T5 := TA.below hb
  clear hb BA TA c0 c1 c2
  obtain ⟨y0, y1, y2⟩ := T5.facts
  obtain ⟨f0, f1, f2⟩ := T5.froz
  have s3 := B3.out.size
  have BI := Lib.hid (B5.setCell (p := ⟨w3.heap.size, 2, none⟩) s3 (.int .i64 q))
  have TI : ThH (w5.setCell ⟨w3.heap.size, 2, none⟩ (.int .i64 q)) w3.heap.size (.string p) (.int .i64 m) (.int .i64 q) := ⟨setCell_blk 2 T5.blk (.int .i64 q)⟩
  obtain ⟨x0, x1, x2⟩ := TI.facts
  clear TI T5 B5
  by_cases hqm : 1125899906842624 < q
  · have HN2 := Lib.hid (show AddR L p.data.toList m (L, 15) by have := HN.out; unfold addHas at this; rwa [if_pos hqm] at this)
    go_wp2_with fail
    go_ret2
    exact ⟨some ⟨bk, off, none⟩, cap, (L, 15), rfl, HN2.out, HR.out.below BI.out, BI.out⟩
  · have HN2 := Lib.hid (show AddR L p.data.toList m (L.set k ⟨p.data.toList, m, q⟩, 0) by have := HN.out; unfold addHas at this; rwa [if_neg hqm] at this)
    have HLS := Lib.hid (show (L.set k ⟨p.data.toList, m, q⟩).length = L.length from List.length_set)
    generalize L.set k _ = R at *
    go_wp2_with fail
    go_fit (WI.out _ BI.out)
    rintro e w6 ⟨v', rfl, hrow, hb⟩
    have B6 := Lib.hid (BI.out.trans (hb.mono BI.out.size))
    obtain ⟨a', c', rfl, _, hrd⟩ := hrow.reads
    have RD := Lib.hid hrd
    clear hrow hb hrd
    go_wp2_with fail
    go_ret2
    exact ⟨a', c', (R, 0), rfl, HN2.out, RD.out, B6.out⟩
set_option maxHeartbeats 4000000 in
set_option maxRecDepth 100000 in
theorem addFull_any (v : Option Addr) (cap : Nat) (L : List Sha) (p : ByteArray) (m : Int) (hp : p.size ≤ 1000000) (hlen : L.length ≤ 1000000) (hx : ∀ x ∈ L, x.prj.length ≤ 1000000) (hV : ValidS L) (hn : nameB p.data.toList = true) (hm : 1 ≤ m ∧ m ≤ 1000) (hno : ∀ k (h : k < L.length), L[k].prj ≠ p.data.toList) (hf : L.length = 64) (w : World) (hr : ReadsH w v L) :
    Calls Tryz.prog 11 #[.slice v L.length cap, .string p, .int .i64 m] w (AddPostR L p.data.toList m w) := by
  have HR := Lib.hid hr
  have VA := Lib.hid (valid_any v cap L true ⟨fun _ => hV, fun _ => rfl⟩ hlen hx w hr)
  have NM := fun w => idName_any p (by omega) w
  rw [hn] at NM
  have NM := Lib.hid NM
  have WG := fun w => wgt_any m w
  rw [decide_eq_true hm] at WG
  have WG := Lib.hid WG
  have HM := Lib.hid hm
  have FI := Lib.hid (fun w' (hb : Below w.heap.size w w') => find_any v cap L hV p hp w' (hr.below hb))
  have HV := Lib.hid hV
  have HNM := Lib.hid hn
  have HPB := Lib.hid (show (⟨p.data.toList.toArray⟩ : ByteArray) = p from str_back p)
  have HK := Lib.hid (show ∀ k bb, FindR L p.data.toList k bb → bb = false ∧ k ≤ L.length ∧ AddR L p.data.toList m (addNew L k p.data.toList m) from fun k bb hf => by
    cases bb
    · exact ⟨rfl, hf.1.le, .new k hV hn hm hf.1 hno⟩
    · obtain ⟨h, e⟩ := hf.2.1 rfl
      exact absurd e (hno k h))
  have hfI : (L.length : Int) = 64 := by omega
  have HF := Lib.hid hf
  clear hr hV hx hn hm hno hf
  go_enter Tryz.func11, Tryz.ntmps11
  go_wp2_with fail
  go_fit VA.out
  rintro e w1 ⟨rfl, hb⟩
  have B1 := Lib.hid hb
  clear hb
  go_wp2_with fail
  go_fit (NM.out _)
  rintro e w2 ⟨rfl, hb⟩
  have B2 := Lib.hid (B1.out.trans (hb.mono B1.out.size))
  clear hb
  go_wp2_with fail
  go_fit (WG.out _)
  rintro e w3 ⟨rfl, rfl⟩
  go_wp2_with fail
  go_fit (FI.out _ B2.out)
  rintro e w3 ⟨k, bb, rfl, hf, hb⟩
  have B3 := Lib.hid (B2.out.trans (hb.mono B2.out.size))
  clear hb
  obtain ⟨rfl, hkl, hna⟩ := HK.out k bb hf
  have HNA := Lib.hid hna
  clear hf hna
  have HN := Lib.hid (show AddR L p.data.toList m (L, 21) by have := HNA.out; unfold addNew at this; rwa [if_pos HF.out] at this)
  go_wp2_with fail
  go_ret2
  exact ⟨v, cap, (L, 21), rfl, HN.out, HR.out.below B3.out, B3.out⟩
set_option maxHeartbeats 4000000 in
set_option maxRecDepth 100000 in
theorem addNil2_any (v : Option Addr) (cap : Nat) (L : List Sha) (p : ByteArray) (m : Int) (hp : p.size ≤ 1000000) (hlen : L.length ≤ 1000000) (hx : ∀ x ∈ L, x.prj.length ≤ 1000000) (hV : ValidS L) (hn : nameB p.data.toList = true) (hm : 1 ≤ m ∧ m ≤ 1000) (hno : ∀ k (h : k < L.length), L[k].prj ≠ p.data.toList) (hL : L.length = 0) (w : World) (hr : ReadsH w v L) :
    Calls Tryz.prog 11 #[.slice v L.length cap, .string p, .int .i64 m] w (AddPostR L p.data.toList m w) := by
  obtain rfl := List.eq_nil_of_length_eq_zero hL
  have HR := Lib.hid hr
  have VA := Lib.hid (valid_any v cap [] true ⟨fun _ => hV, fun _ => rfl⟩ hlen hx w hr)
  have NM := fun w => idName_any p (by omega) w
  rw [hn] at NM
  have NM := Lib.hid NM
  have WG := fun w => wgt_any m w
  rw [decide_eq_true hm] at WG
  have WG := Lib.hid WG
  have HM := Lib.hid hm
  have FI := Lib.hid (fun w' (hb : Below w.heap.size w w') => find_any v cap [] hV p hp w' (hr.below hb))
  have HV := Lib.hid hV
  have HNM := Lib.hid hn
  have HPB := Lib.hid (show (⟨p.data.toList.toArray⟩ : ByteArray) = p from str_back p)
  have HK := Lib.hid (show ∀ k bb, FindR [] p.data.toList k bb → bb = false ∧ k ≤ ([] : List Sha).length ∧ AddR [] p.data.toList m (addNew [] k p.data.toList m) from fun k bb hf => by
    cases bb
    · exact ⟨rfl, hf.1.le, .new k hV hn hm hf.1 hno⟩
    · obtain ⟨h, e⟩ := hf.2.1 rfl
      exact absurd e (hno k h))
  have CL := Lib.hid (fun w' (hb : Below w.heap.size w w') => cloneH_any v [] cap hlen w' (hr.below hb))
  have IE := fun k hk u B pb w' => insAny_any u [] ⟨p.data.toList, m, 0⟩ B pb k hk hlen w'
  dsimp only at IE
  rw [HPB.out] at IE
  have IE0 := Lib.hid IE
  clear IE
  have HLL := Lib.hid (show leastL [] m = 0 from rfl)
  clear hr hV hx hn hm hno
  go_enter Tryz.func11, Tryz.ntmps11
  go_wp2_with fail
  go_fit VA.out
  rintro e w1 ⟨rfl, hb⟩
  have B1 := Lib.hid hb
  clear hb
  go_wp2_with fail
  go_fit (NM.out _)
  rintro e w2 ⟨rfl, hb⟩
  have B2 := Lib.hid (B1.out.trans (hb.mono B1.out.size))
  clear hb
  go_wp2_with fail
  go_fit (WG.out _)
  rintro e w3 ⟨rfl, rfl⟩
  go_wp2_with fail
  go_fit (FI.out _ B2.out)
  rintro e w3 ⟨k, bb, rfl, hf, hb⟩
  have B3 := Lib.hid (B2.out.trans (hb.mono B2.out.size))
  clear hb
  obtain ⟨rfl, hkl, hna⟩ := HK.out k bb hf
  have HNA := Lib.hid hna
  clear hf hna
  have HN2 := Lib.hid (show AddR [] p.data.toList m (([] : List Sha).take k ++ ⟨p.data.toList, m, 0⟩ :: ([] : List Sha).drop k, 0) by have := HNA.out; unfold addNew at this; rwa [HLL.out, if_neg (by decide), if_neg (by omega)] at this)
  have IE := Lib.hid (IE0.out k hkl)
  go_wp2_with fail
  have BI := B3.out.alloc B3.out.size (.cells #[.string p, .int .i64 m, .int .i64 0] 41)
  have TI := ThH.new w3 (.string p) (.int .i64 m) (.int .i64 0)
  obtain ⟨W, hW⟩ : ∃ W, W = w3.alloc (.cells #[.string p, .int .i64 m, .int .i64 0] 41) := ⟨_, rfl⟩
  obtain ⟨pb, hpb⟩ : ∃ pb, pb = w3.heap.size := ⟨_, rfl⟩
  rw [← hW] at BI TI ⊢
  rw [← hpb] at TI ⊢
  clear hW hpb
  have BI := Lib.hid BI
  have TI := Lib.hid TI
  have hwI := BI.out.size
  have BD := Lib.hid (BI.out.drew)
  have BD2 := Lib.hid (BD.out.alloc (by simpa using hwI) (.cells #[.string p, .int .i64 m, .int .i64 0] 41))
  have TD := Lib.hid (TI.out.below (Below.refl W.heap.size W).drew)
  have TD2 := Lib.hid (TD.out.alloc (.cells #[.string p, .int .i64 m, .int .i64 0] 41))
  have TN := Lib.hid (ThH.new W.drew (.string p) (.int .i64 m) (.int .i64 0))
  obtain ⟨t0, t1, t2⟩ := TD.out.facts
  have hwd : w.heap.size ≤ W.drew.heap.size := hwI
  have hwd2 : w.heap.size ≤ (W.drew.alloc (.cells #[.string p, .int .i64 m, .int .i64 0] 41)).heap.size := by rw [World.size_alloc]; exact Nat.le_succ_of_le hwI
  have hl6 : ∀ {w6 : World}, Below W.drew.heap.size W.drew w6 → W.heap.size ≤ w6.heap.size := fun h => h.size
  have hl6' : ∀ {w6 : World}, Below (W.drew.alloc (.cells #[.string p, .int .i64 m, .int .i64 0] 41)).heap.size (W.drew.alloc (.cells #[.string p, .int .i64 m, .int .i64 0] 41)) w6 → W.heap.size ≤ w6.heap.size := fun h => by
    have h' := h.size
    rw [World.size_alloc] at h'
    have : W.drew.heap.size = W.heap.size := rfl
    omega
  have hneA : ∀ {w6 : World} {B : Nat} {u6 : Value} {L6 : List Sha}, RowH w6 B u6 L6 → ∀ g, u6.ownBlock = some g → w6.heap.size ≠ g := fun h g hg e => by
    have := (World.ownsRow.lt h g hg).2
    omega
  have hneB : ∀ {w6 : World} {u6 : Value} {L6 : List Sha}, RowH w6 (W.drew.alloc (.cells #[.string p, .int .i64 m, .int .i64 0] 41)).heap.size u6 L6 → ∀ g, u6.ownBlock = some g → W.drew.heap.size ≠ g := fun h g hg e => by
    have := (World.ownsRow.lt h g hg).1
    rw [World.size_alloc] at this
    omega
  go_region_with (first
    | (go_at_call 32; first
      | (go_fit (CL.out _ BD.out); rintro e w6 ⟨u6, rfl, hrow6, hb6⟩; have T6 := TD.out.below hb6; obtain ⟨s0, s1, s2⟩ := T6.facts)
      | (go_fit (CL.out _ BD2.out); rintro e w6 ⟨u6, rfl, hrow6, hb6⟩))
    | (go_at_call 31; first
      | (go_fit (IE.out _ W.heap.size _ _ (by rw [World.size_alloc]; exact Nat.le_succ_of_le (hl6 hb6)) ((RowH.up hrow6 (Nat.le_refl _)).lay _) (hneA hrow6) (ThH.new w6 _ _ _)); rintro e w7 ⟨u7, rfl, hrow7, hb7⟩; have B7 := Lib.hid (((BD.out.trans (hb6.mono hwd)).alloc (Nat.le_trans hwI (hl6 hb6)) (.cells #[.string p, .int .i64 m, .int .i64 0] 41)).trans (hb7.mono hwI)))
      | (go_fit (IE.out _ W.heap.size _ _ (hl6' hb6) (RowH.up hrow6 (by show W.heap.size ≤ (W.alloc _).heap.size; rw [World.size_alloc]; exact Nat.le_succ _)) (hneB hrow6) (TN.out.below hb6)); rintro e w7 ⟨u7, rfl, hrow7, hb7⟩; have B7 := Lib.hid ((BD2.out.trans (hb6.mono hwd2)).trans (hb7.mono hwI)))))
  all_goals
    obtain ⟨a7, c7, rfl, _, hrd7⟩ := hrow7.reads
    have HRD := Lib.hid hrd7
    clear hrow6 hb6 hrow7 hb7 hrd7 t0 t1 t2
    generalize ([] : List Sha).take k ++ ⟨p.data.toList, m, 0⟩ :: ([] : List Sha).drop k = R at *
    go_wp2_with fail
    go_ret2
    exact ⟨a7, c7, (R, 0), rfl, HN2.out, HRD.out, B7.out⟩
set_option maxHeartbeats 4000000 in
set_option maxRecDepth 100000 in
theorem addSome_any (v : Option Addr) (cap : Nat) (L : List Sha) (p : ByteArray) (m : Int) (hp : p.size ≤ 1000000) (hlen : L.length ≤ 1000000) (hx : ∀ x ∈ L, x.prj.length ≤ 1000000) (hV : ValidS L) (hn : nameB p.data.toList = true) (hm : 1 ≤ m ∧ m ≤ 1000) (hno : ∀ k (h : k < L.length), L[k].prj ≠ p.data.toList) (hL : 0 < L.length) (hL64 : ¬ L.length = 64) (w : World) (hr : ReadsH w v L) :
    Calls Tryz.prog 11 #[.slice v L.length cap, .string p, .int .i64 m] w (AddPostR L p.data.toList m w) := by
  have HR := Lib.hid hr
  have VA := Lib.hid (valid_any v cap L true ⟨fun _ => hV, fun _ => rfl⟩ hlen hx w hr)
  have NM := fun w => idName_any p (by omega) w
  rw [hn] at NM
  have NM := Lib.hid NM
  have WG := fun w => wgt_any m w
  rw [decide_eq_true hm] at WG
  have WG := Lib.hid WG
  have HM := Lib.hid hm
  have FI := Lib.hid (fun w' (hb : Below w.heap.size w w') => find_any v cap L hV p hp w' (hr.below hb))
  have HV := Lib.hid hV
  have HNM := Lib.hid hn
  have HPB := Lib.hid (show (⟨p.data.toList.toArray⟩ : ByteArray) = p from str_back p)
  have HK := Lib.hid (show ∀ k bb, FindR L p.data.toList k bb → bb = false ∧ k ≤ L.length ∧ AddR L p.data.toList m (addNew L k p.data.toList m) from fun k bb hf => by
    cases bb
    · exact ⟨rfl, hf.1.le, .new k hV hn hm hf.1 hno⟩
    · obtain ⟨h, e⟩ := hf.2.1 rfl
      exact absurd e (hno k h))
  obtain ⟨z, hz⟩ : ∃ z, z = minF L[0] (L.drop 1) := ⟨_, rfl⟩
  have hzm : z ∈ L := by rw [hz]; exact minF_in L hL
  have hzr : (1 ≤ z.wgt ∧ z.wgt ≤ 1000) ∧ (0 ≤ z.srv ∧ z.srv ≤ 1125899906842624) := by
    obtain ⟨i, hi, e⟩ := List.getElem_of_mem hzm
    have := (hV.right hi).2
    rwa [e] at this
  have hNS : ∀ s ∈ L, NumS s := fun s hs => by
    obtain ⟨i, hi, e⟩ := List.getElem_of_mem hs
    have := (hV.right hi).2
    rw [e] at this
    unfold NumS I64
    omega
  obtain ⟨q, hq⟩ : ∃ q, q = upR z m := ⟨_, rfl⟩
  have hqb := upR_bounds z m hzr.1.1 hm hzr.2
  have AL := fun w' => alike_any z m q hzr.2 (by unfold I64; omega) (by unfold I64; omega) (by rw [hq]; exact scQ_up _ _ hzr.1 hm hzr.2) (by rw [hq]; exact hqb) w'
  rw [← hq] at hqb
  have HLL := Lib.hid (show leastL L m = q by rw [leastL_eq L m hL, ← hz, hq])
  have MN := fun w' (hb : Below w.heap.size w w') => minH_any v cap L hL hlen hNS w' (hr.below hb)
  rw [← hz] at MN
  unfold shV at MN AL
  obtain ⟨sx, hsx⟩ : ∃ s : ByteArray, s = ⟨z.prj.toArray⟩ := ⟨_, rfl⟩
  rw [← hsx] at MN AL
  generalize z.srv = sv at *
  generalize z.wgt = sg at *
  have MN := Lib.hid MN
  have AL := Lib.hid AL
  have CL := Lib.hid (fun w' (hb : Below w.heap.size w w') => cloneH_any v L cap hlen w' (hr.below hb))
  have IE := fun k hk u B pb w' => insAny_any u L ⟨p.data.toList, m, q⟩ B pb k hk hlen w'
  dsimp only at IE
  rw [HPB.out] at IE
  have IE0 := Lib.hid IE
  clear IE
  have hLI : (0 : Int) < (L.length : Int) := by omega
  have hL64I : ¬ (L.length : Int) = 64 := by omega
  clear hr hV hx hn hm hno hzm hzr hNS hq hz hsx
  go_enter Tryz.func11, Tryz.ntmps11
  go_wp2_with fail
  go_fit VA.out
  rintro e w1 ⟨rfl, hb⟩
  have B1 := Lib.hid hb
  clear hb
  go_wp2_with fail
  go_fit (NM.out _)
  rintro e w2 ⟨rfl, hb⟩
  have B2 := Lib.hid (B1.out.trans (hb.mono B1.out.size))
  clear hb
  go_wp2_with fail
  go_fit (WG.out _)
  rintro e w3 ⟨rfl, rfl⟩
  go_wp2_with fail
  go_fit (FI.out _ B2.out)
  rintro e w3 ⟨k, bb, rfl, hf, hb⟩
  have B3 := Lib.hid (B2.out.trans (hb.mono B2.out.size))
  clear hb
  obtain ⟨rfl, hkl, hna⟩ := HK.out k bb hf
  have HNA := Lib.hid hna
  clear hf hna
  have IE := Lib.hid (IE0.out k hkl)
  go_wp2_with fail
  have BA := B3.out.alloc B3.out.size (.cells #[.string p, .int .i64 m, .int .i64 0] 41)
  have TA := ThH.new w3 (.string p) (.int .i64 m) (.int .i64 0)
  go_fit (MN.out _ BA)
  rintro e w4 ⟨rfl, hb⟩
  have B4 := Lib.hid (BA.trans (hb.mono BA.size))
  have T4 := TA.below hb
  clear hb BA TA
  go_wp2_with fail
  go_fit (AL.out _)
  rintro e w5 ⟨rfl, hb⟩
  have B5 := B4.out.trans (hb.mono B4.out.size)
  have T5 := T4.below hb
  clear hb T4
  obtain ⟨y0, y1, y2⟩ := T5.facts
  obtain ⟨f0, f1, f2⟩ := T5.froz
  have s3 := B3.out.size
  have BI := B5.setCell (p := ⟨w3.heap.size, 2, none⟩) s3 (.int .i64 q)
  have TI : ThH (w5.setCell ⟨w3.heap.size, 2, none⟩ (.int .i64 q)) w3.heap.size (.string p) (.int .i64 m) (.int .i64 q) := ⟨setCell_blk 2 T5.blk (.int .i64 q)⟩
  obtain ⟨x0, x1, x2⟩ := TI.facts
  by_cases hqm : 1125899906842624 < q
  · have HN2 := Lib.hid (show AddR L p.data.toList m (L, 15) by have := HNA.out; unfold addNew at this; rwa [HLL.out, if_neg hL64, if_pos hqm] at this)
    go_wp2_with fail
    go_ret2
    exact ⟨v, cap, (L, 15), rfl, HN2.out, HR.out.below BI, BI⟩
  have HN2 := Lib.hid (show AddR L p.data.toList m (L.take k ++ ⟨p.data.toList, m, q⟩ :: L.drop k, 0) by have := HNA.out; unfold addNew at this; rwa [HLL.out, if_neg hL64, if_neg hqm] at this)
  go_wp2_with fail
  clear x0 x1 x2 y0 y1 y2 f0 f1 f2 T5 B5 s3
  obtain ⟨W, hW⟩ : ∃ W, W = w5.setCell ⟨w3.heap.size, 2, none⟩ (.int .i64 q) := ⟨_, rfl⟩
  obtain ⟨pb, hpb⟩ : ∃ pb, pb = w3.heap.size := ⟨_, rfl⟩
  rw [← hW] at BI TI ⊢
  rw [← hpb] at TI ⊢
  clear hW hpb
  have BI := Lib.hid BI
  have TI := Lib.hid TI
  have hwI := BI.out.size
  have BD := Lib.hid (BI.out.drew)
  have BD2 := Lib.hid (BD.out.alloc (by simpa using hwI) (.cells #[.string p, .int .i64 m, .int .i64 q] 41))
  have TD := Lib.hid (TI.out.below (Below.refl W.heap.size W).drew)
  have TD2 := Lib.hid (TD.out.alloc (.cells #[.string p, .int .i64 m, .int .i64 q] 41))
  have TN := Lib.hid (ThH.new W.drew (.string p) (.int .i64 m) (.int .i64 q))
  obtain ⟨t0, t1, t2⟩ := TD.out.facts
  have hwd : w.heap.size ≤ W.drew.heap.size := hwI
  have hwd2 : w.heap.size ≤ (W.drew.alloc (.cells #[.string p, .int .i64 m, .int .i64 q] 41)).heap.size := by rw [World.size_alloc]; exact Nat.le_succ_of_le hwI
  have hl6 : ∀ {w6 : World}, Below W.drew.heap.size W.drew w6 → W.heap.size ≤ w6.heap.size := fun h => h.size
  have hl6' : ∀ {w6 : World}, Below (W.drew.alloc (.cells #[.string p, .int .i64 m, .int .i64 q] 41)).heap.size (W.drew.alloc (.cells #[.string p, .int .i64 m, .int .i64 q] 41)) w6 → W.heap.size ≤ w6.heap.size := fun h => by
    have h' := h.size
    rw [World.size_alloc] at h'
    have : W.drew.heap.size = W.heap.size := rfl
    omega
  have hneA : ∀ {w6 : World} {B : Nat} {u6 : Value} {L6 : List Sha}, RowH w6 B u6 L6 → ∀ g, u6.ownBlock = some g → w6.heap.size ≠ g := fun h g hg e => by
    have := (World.ownsRow.lt h g hg).2
    omega
  have hneB : ∀ {w6 : World} {u6 : Value} {L6 : List Sha}, RowH w6 (W.drew.alloc (.cells #[.string p, .int .i64 m, .int .i64 q] 41)).heap.size u6 L6 → ∀ g, u6.ownBlock = some g → W.drew.heap.size ≠ g := fun h g hg e => by
    have := (World.ownsRow.lt h g hg).1
    rw [World.size_alloc] at this
    omega
  go_region_with (first
    | (go_at_call 32; first
      | (go_fit (CL.out _ BD.out); rintro e w6 ⟨u6, rfl, hrow6, hb6⟩; have T6 := TD.out.below hb6; obtain ⟨s0, s1, s2⟩ := T6.facts)
      | (go_fit (CL.out _ BD2.out); rintro e w6 ⟨u6, rfl, hrow6, hb6⟩))
    | (go_at_call 31; first
      | (go_fit (IE.out _ W.heap.size _ _ (by rw [World.size_alloc]; exact Nat.le_succ_of_le (hl6 hb6)) ((RowH.up hrow6 (Nat.le_refl _)).lay _) (hneA hrow6) (ThH.new w6 _ _ _)); rintro e w7 ⟨u7, rfl, hrow7, hb7⟩; have B7 := Lib.hid (((BD.out.trans (hb6.mono hwd)).alloc (Nat.le_trans hwI (hl6 hb6)) (.cells #[.string p, .int .i64 m, .int .i64 q] 41)).trans (hb7.mono hwI)))
      | (go_fit (IE.out _ W.heap.size _ _ (hl6' hb6) (RowH.up hrow6 (by show W.heap.size ≤ (W.alloc _).heap.size; rw [World.size_alloc]; exact Nat.le_succ _)) (hneB hrow6) (TN.out.below hb6)); rintro e w7 ⟨u7, rfl, hrow7, hb7⟩; have B7 := Lib.hid ((BD2.out.trans (hb6.mono hwd2)).trans (hb7.mono hwI)))))
  all_goals
    obtain ⟨a7, c7, rfl, _, hrd7⟩ := hrow7.reads
    have HRD := Lib.hid hrd7
    clear hrow6 hb6 hrow7 hb7 hrd7 t0 t1 t2
    generalize L.take k ++ ⟨p.data.toList, m, q⟩ :: L.drop k = R at *
    go_wp2_with fail
    go_ret2
    exact ⟨a7, c7, (R, 0), rfl, HN2.out, HRD.out, B7.out⟩
/-- Add of any shares. -/
theorem add_any (v : Option Addr) (cap : Nat) (L : List Sha) (p : ByteArray) (m : Int) (hp : p.size ≤ 1000000) (hlen : L.length ≤ 1000000) (hx : ∀ x ∈ L, x.prj.length ≤ 1000000) (w : World) (hr : ReadsH w v L) :
    Calls Tryz.prog 11 #[.slice v L.length cap, .string p, .int .i64 m] w (AddPostR L p.data.toList m w) := by
  by_cases hV : ValidS L
  · cases hn : nameB p.data.toList
    · exact addName_any v cap L p m hp hlen hx hV hn w hr
    · by_cases hm : 1 ≤ m ∧ m ≤ 1000
      · by_cases hk : ∃ k, ∃ h : k < L.length, L[k].prj = p.data.toList
        · obtain ⟨k, h, e⟩ := hk
          exact addHas_any v cap L p m hp hlen hx hV hn hm k h e w hr
        · have hno : ∀ k (h : k < L.length), L[k].prj ≠ p.data.toList := fun k h e => hk ⟨k, h, e⟩
          by_cases h64 : L.length = 64
          · exact addFull_any v cap L p m hp hlen hx hV hn hm hno h64 w hr
          · by_cases h0 : L.length = 0
            · exact addNil2_any v cap L p m hp hlen hx hV hn hm hno h0 w hr
            · exact addSome_any v cap L p m hp hlen hx hV hn hm hno (by omega) h64 w hr
      · exact addWeight_any v cap L p m hp hlen hx hV hn hm w hr
  · exact addBad_any v cap L p m hp hlen hx hV w hr
end Go.Proofs.YtmjikddceegloaaGreatDoor
