/- Contracts of functions of the program, and what they are made of (parser; Pk32). -/
import Derived.Test.YtjehhldboopocaaGreatDoorPk10
import Derived.Test.YtjehhldboopocaaGreatDoorPk25
import Derived.Test.YtjehhldboopocaaGreatDoorPk27
import Derived.Test.YtjehhldboopocaaGreatDoorPk31
namespace Go.Proofs.YtjehhldboopocaaGreatDoor.Lx
open Go.RowKit Go.Lib
set_option linter.unusedVariables false
/-- A node without an error, whatever its level. -/
def NodeOk (x : Xp) : Prop := wellB x.kd x.vl x.nm x.ar.length x.ky = true ∧ Go.Proofs.YtjehhldboopocaaGreatDoor.errV 16 x.vl = 0 ∧ x.ar.length ≤ 1024
/-- So are x and all nodes m levels down. -/
def Gd : Nat → Xp → Prop
  | 0, x => NodeOk x
  | m + 1, x => NodeOk x ∧ ∀ y ∈ x.ar, Gd m y
theorem nodeE_ok {lev : Int} {x : Xp} (h : nodeE lev x = 0) : NodeOk x := by
  unfold nodeE nodeN at h
  by_cases h1 : 16 < lev
  · rw [if_pos h1] at h; cases h
  · rw [if_neg h1] at h
    by_cases h2 : wellB x.kd x.vl x.nm x.ar.length x.ky = false
    · rw [if_pos h2] at h; cases h
    · rw [if_neg h2] at h
      by_cases h3 : Go.Proofs.YtjehhldboopocaaGreatDoor.errV 16 x.vl ≠ 0
      · rw [if_pos h3] at h; exact absurd h h3
      · rw [if_neg h3] at h
        by_cases h4 : 1024 < x.ar.length
        · rw [if_pos h4] at h; cases h
        · exact ⟨by simpa using h2, Decidable.not_not.1 h3, by omega⟩
theorem firstN_app : ∀ (l r : List (Int × Xp)), firstN (l ++ r) = 0 → firstN l = 0 ∧ firstN r = 0
  | [], r, h => ⟨rfl, h⟩
  | p :: l, r, h => by
    rw [List.cons_append] at h
    unfold firstN at h
    by_cases hp : nodeE p.1 p.2 = 0
    · rw [if_pos hp] at h
      have h2 := firstN_app l r h
      refine ⟨?_, h2.2⟩
      unfold firstN
      rw [if_pos hp]
      exact h2.1
    · rw [if_neg hp] at h
      exact absurd h hp
theorem firstN_flat {f : Xp → List (Int × Xp)} : ∀ (l : List Xp), firstN (l.flatMap f) = 0 → ∀ y ∈ l, firstN (f y) = 0
  | [], _, _, hy => by cases hy
  | a :: l, h, y, hy => by
    rw [List.flatMap_cons] at h
    have h := firstN_app _ _ h
    rcases List.mem_cons.1 hy with e | e
    · rw [e]; exact h.1
    · exact firstN_flat l h.2 y e
theorem gd_pre : ∀ (m : Nat) (lev : Int) (x : Xp), firstN (preE m lev x) = 0 → Gd m x
  | 0, lev, x, h => by
    unfold preE firstN at h
    by_cases hp : nodeE lev x = 0
    · exact nodeE_ok hp
    · rw [if_neg hp] at h
      exact absurd h hp
  | m + 1, lev, .mk k v n l ks, h => by
    unfold preE firstN at h
    by_cases hp : nodeE lev (.mk k v n l ks) = 0
    · rw [if_pos hp] at h
      exact ⟨nodeE_ok hp, fun y hy => gd_pre m _ y (firstN_flat l h y hy)⟩
    · rw [if_neg hp] at h
      exact absurd h hp
/-- A valid expression has at most 4096 nodes, and none has an error. -/
theorem validX_gd {w : World} {m : Nat} {C : List Value} {x : Xp} (h : IsE m w C x) (h0 : validX x = 0) : (nodesX x).length ≤ 4096 ∧ Gd m x := by
  unfold validX at h0
  by_cases h1 : 4096 < (nodesX x).length
  · rw [if_pos h1] at h0; cases h0
  · rw [if_neg h1, ← pre_nodes h] at h0
    exact ⟨by omega, gd_pre m 1 x h0⟩
end Go.Proofs.YtjehhldboopocaaGreatDoor.Lx
namespace Go.Proofs.YtjehhldboopocaaGreatDoor.Lx
open Go.RowKit Go.Lib
set_option linter.unusedVariables false
/-- At most m levels lie below a value. -/
def DepV : Nat → Vl → Prop
  | 0, x => x.list = []
  | m + 1, x => ∀ y ∈ x.list, DepV m y
theorem isV_dep {w : World} : ∀ (m : Nat) (V : Value) (x : Vl), IsV m w V x → DepV m x
  | 0, V, x, h => by
    obtain ⟨k, t, i, s, l, ks, av, c, kv, kc, rfl, _, _, _, _, _, _, _, _, _, _, _, _, hl⟩ := h
    exact hl
  | m + 1, V, x, h => by
    obtain ⟨k, t, i, s, l, ks, av, c, kv, kc, rfl, _, _, _, _, _, _, _, _, _, _, _, _, hl⟩ := h
    intro y hy
    obtain ⟨j, hj, rfl⟩ := List.mem_iff_getElem.1 hy
    obtain ⟨b, off, k1, t1, i1, s1, l1, ks1, av1, c1, kv1, kc1, h0, rfl, h2, e0, e1, e2, e3, e4, e5, q0, q1, q2, q3, q4, q5, q6, q7, q8, q9, hs1, hl1⟩ := hl j hj
    have he : l[j] = .mk k1 t1 i1 s1 l1 ks1 := Option.some.inj ((List.getElem?_eq_getElem hj).symm.trans h0)
    have hd := isV_dep m _ _ ⟨k1, t1, i1, s1, l1, ks1, av1, c1, kv1, kc1, rfl, rfl, q0, q1, q2, q3, q4, q5, q6, q7, q8, q9, hs1, hl1⟩
    rw [← he] at hd
    exact hd
theorem itemsL_congr {f g : Vl → List UInt8} (mp : Bool) (l : List Vl) (ks : List (List UInt8)) (n : Nat) (h : ∀ y ∈ l, f y = g y) : Go.Proofs.YtjehhldboopocaaGreatDoor.itemsL f mp l ks n = Go.Proofs.YtjehhldboopocaaGreatDoor.itemsL g mp l ks n := by
  have he : Go.Proofs.YtjehhldboopocaaGreatDoor.eltL f mp l ks = Go.Proofs.YtjehhldboopocaaGreatDoor.eltL g mp l ks := by
    funext j
    unfold Go.Proofs.YtjehhldboopocaaGreatDoor.eltL
    cases hj : l[j]? with
    | none => rfl
    | some x => simp only [h x (List.mem_of_getElem? hj)]
  unfold Go.Proofs.YtjehhldboopocaaGreatDoor.itemsL
  rw [he]
theorem hdL_congr {f g : Vl → List UInt8} (x : Vl) (h : ∀ y ∈ x.list, f y = g y) : Go.Proofs.YtjehhldboopocaaGreatDoor.hdL f x = Go.Proofs.YtjehhldboopocaaGreatDoor.hdL g x := by
  unfold Go.Proofs.YtjehhldboopocaaGreatDoor.hdL
  rw [itemsL_congr false _ _ _ h, itemsL_congr true _ _ _ h]
theorem litV_dep : ∀ (m n : Nat) (x : Vl), DepV m x → DepV n x → Go.Proofs.YtjehhldboopocaaGreatDoor.litV m x = Go.Proofs.YtjehhldboopocaaGreatDoor.litV n x
  | 0, 0, _, _, _ => rfl
  | 0, n + 1, x, h, _ => hdL_congr x fun y hy => by
    have h' : x.list = [] := h
    rw [h'] at hy
    cases hy
  | m + 1, 0, x, _, h => hdL_congr x fun y hy => by
    have h' : x.list = [] := h
    rw [h'] at hy
    cases hy
  | m + 1, n + 1, x, h, h2 => hdL_congr x fun y hy => litV_dep m n y (h y hy) (h2 y hy)
theorem depV_size : ∀ (m : Nat) (x : Vl), SizeOf.sizeOf x ≤ m → DepV m x
  | 0, .mk k t i s l ks, h => by simp at h
  | m + 1, .mk k t i s l ks, h => fun y hy => by
    have h1 := List.sizeOf_lt_of_mem hy
    refine depV_size m y ?_
    have he := Vl.mk.sizeOf_spec k t i s l ks
    have hy' : SizeOf.sizeOf y < SizeOf.sizeOf l := h1
    omega
/-- The literal of a value, whatever its levels. -/
noncomputable def litX (x : Vl) : List UInt8 := Go.Proofs.YtjehhldboopocaaGreatDoor.litV (SizeOf.sizeOf x) x
theorem lit_litX {w : World} {m : Nat} {V : Value} {x : Vl} (h : IsV m w V x) : Go.Proofs.YtjehhldboopocaaGreatDoor.litV m x = litX x := litV_dep m _ x (isV_dep m V x h) (depV_size _ x (Nat.le_refl _))

/-- An arg's source, in brackets where it binds too weakly; an arg's source; the args' sources in a row; entries. -/
def opdT (T : Xp → ByteArray) (l : List Xp) (i : Nat) (least : Int) : ByteArray := match l[i]? with | none => ⟨#[]⟩ | some y => brkT (strX y) least (T y)
def argT (T : Xp → ByteArray) (l : List Xp) (i : Nat) : ByteArray := match l[i]? with | none => ⟨#[]⟩ | some y => T y
def lstT (T : Xp → ByteArray) (l : List Xp) : ByteArray := ⟨(Lib.join (l.map fun y => (T y).data.toList) [44, 32]).toArray⟩
def mapT (T : Xp → ByteArray) (ks : List (List UInt8)) (l : List Xp) : ByteArray := ⟨(Lib.join ((List.zipWith (entT T) ks l).map (·.data.toList)) [44, 32]).toArray⟩
/-- The source of an expression; T: of its args. -/
noncomputable def srcG (T : Xp → ByteArray) : Xp → ByteArray
  | .mk k v n l ks =>
    if k = 1 then ⟨(litX v).toArray⟩
    else if k = 2 then ⟨n.toArray⟩
    else if k = 3 then (opdT T l 0 8 ++ ⟨#[46]⟩) ++ ⟨n.toArray⟩
    else if k = 4 then ((opdT T l 0 8 ++ ⟨#[91]⟩) ++ argT T l 1) ++ ⟨#[93]⟩
    else if k = 5 then ((⟨n.toArray⟩ ++ ⟨#[40]⟩) ++ lstT T l) ++ ⟨#[41]⟩
    else if k = 6 then ⟨n.toArray⟩ ++ opdT T l 0 7
    else if k = 7 then (((opdT T l 0 (fstS (strB n) : Nat) ++ ⟨#[32]⟩) ++ ⟨n.toArray⟩) ++ ⟨#[32]⟩) ++ opdT T l 1 ((strB n : Int) + 1)
    else if k = 8 then (((opdT T l 0 2 ++ ⟨#[32, 63, 32]⟩) ++ argT T l 1) ++ ⟨#[32, 58, 32]⟩) ++ argT T l 2
    else if k = 9 then (⟨#[91]⟩ ++ lstT T l) ++ ⟨#[93]⟩
    else (⟨#[123]⟩ ++ mapT T ks l) ++ ⟨#[125]⟩
noncomputable def srcE : Nat → Xp → ByteArray
  | 0 => srcG fun _ => ⟨#[]⟩
  | m + 1 => srcG (srcE m)
theorem opdT_congr {T U : Xp → ByteArray} (l : List Xp) (i : Nat) (least : Int) (h : ∀ y ∈ l, T y = U y) : opdT T l i least = opdT U l i least := by
  unfold opdT
  cases hj : l[i]? with
  | none => rfl
  | some x => simp only [h x (List.mem_of_getElem? hj)]
theorem argT_congr {T U : Xp → ByteArray} (l : List Xp) (i : Nat) (h : ∀ y ∈ l, T y = U y) : argT T l i = argT U l i := by
  unfold argT
  cases hj : l[i]? with
  | none => rfl
  | some x => simp only [h x (List.mem_of_getElem? hj)]
theorem lstT_congr {T U : Xp → ByteArray} (l : List Xp) (h : ∀ y ∈ l, T y = U y) : lstT T l = lstT U l := by
  unfold lstT
  rw [List.map_congr_left fun y hy => by rw [h y hy]]
theorem zip_congr {T U : Xp → ByteArray} : ∀ (ks : List (List UInt8)) (l : List Xp), (∀ y ∈ l, T y = U y) → List.zipWith (entT T) ks l = List.zipWith (entT U) ks l
  | [], _, _ => rfl
  | _ :: _, [], _ => rfl
  | k :: ks, y :: l, h => by
    rw [List.zipWith_cons_cons, List.zipWith_cons_cons, zip_congr ks l fun z hz => h z (List.mem_cons_of_mem _ hz)]
    unfold entT
    rw [h y (List.mem_cons_self ..)]
theorem mapT_congr {T U : Xp → ByteArray} (ks : List (List UInt8)) (l : List Xp) (h : ∀ y ∈ l, T y = U y) : mapT T ks l = mapT U ks l := by
  unfold mapT
  rw [zip_congr ks l h]
theorem srcG_congr {T U : Xp → ByteArray} : ∀ (x : Xp), (∀ y ∈ x.ar, T y = U y) → srcG T x = srcG U x
  | .mk k v n l ks, h => by
    have h : ∀ y ∈ l, T y = U y := h
    unfold srcG
    simp only [fun i a => opdT_congr l i a h, fun i => argT_congr l i h, lstT_congr l h, mapT_congr ks l h]
theorem srcE_dep : ∀ (m n : Nat) (x : Xp), Dep m x → Dep n x → srcE m x = srcE n x
  | 0, 0, _, _, _ => rfl
  | 0, n + 1, x, h, _ => srcG_congr x fun y hy => by
    have h' : x.ar = [] := h
    rw [h'] at hy
    cases hy
  | m + 1, 0, x, _, h => srcG_congr x fun y hy => by
    have h' : x.ar = [] := h
    rw [h'] at hy
    cases hy
  | m + 1, n + 1, x, h, h2 => srcG_congr x fun y hy => srcE_dep m n y (h y hy) (h2 y hy)
/-- An expression's source. -/
noncomputable def srcX (x : Xp) : ByteArray := srcE (SizeOf.sizeOf x) x
theorem src_dep {m : Nat} {x : Xp} (h : Dep m x) : srcE m x = srcX x := srcE_dep m _ x h (dep_size _ x (Nat.le_refl _))
theorem mem_join_le {xs : List (List UInt8)} {x sep : List UInt8} (h : x ∈ xs) : x.length ≤ (Lib.join xs sep).length := by
  cases xs with
  | nil => cases h
  | cons a r =>
    rw [Lib.join_length]
    have : ∀ (l : List (List UInt8)), x ∈ l → x.length ≤ Lib.lens l := fun l => by
      induction l with
      | nil => intro h; cases h
      | cons b t ih =>
        intro h
        rw [show Lib.lens (b :: t) = b.length + Lib.lens t by simp [Lib.lens]]
        rcases List.mem_cons.1 h with e | e
        · rw [e]; omega
        · have := ih e; omega
    have := this _ h
    omega
theorem brkT_le (s : Nat) (least : Int) (S : ByteArray) : S.size ≤ (brkT s least S).size ∧ (brkT s least S).size ≤ S.size + 2 := by
  unfold brkT
  split
  · rw [ByteArray.size_append, ByteArray.size_append]
    show S.size ≤ 1 + S.size + 1 ∧ 1 + S.size + 1 ≤ S.size + 2
    omega
  · omega
theorem lstT_size (T : Xp → ByteArray) (l : List Xp) : (lstT T l).size = (Lib.join (l.map fun y => (T y).data.toList) [44, 32]).length := by show (List.toArray _).size = _; rw [List.size_toArray]
theorem mapT_size (T : Xp → ByteArray) (ks : List (List UInt8)) (l : List Xp) : (mapT T ks l).size = (Lib.join ((List.zipWith (entT T) ks l).map (·.data.toList)) [44, 32]).length := by show (List.toArray _).size = _; rw [List.size_toArray]
theorem lstT_mem {T : Xp → ByteArray} {l : List Xp} {y : Xp} (h : y ∈ l) : (T y).size ≤ (lstT T l).size := by
  have := mem_join_le (sep := [44, 32]) (List.mem_map.2 ⟨y, h, rfl⟩ : (T y).data.toList ∈ l.map fun y => (T y).data.toList)
  rw [lstT_size]
  exact this
theorem mapT_mem {T : Xp → ByteArray} {ks : List (List UInt8)} {l : List Xp} {y : Xp} (hk : ks.length = l.length) (h : y ∈ l) : (T y).size ≤ (mapT T ks l).size := by
  obtain ⟨j, hj, rfl⟩ := List.mem_iff_getElem.1 h
  have hjk : j < ks.length := by omega
  have he : entT T ks[j] l[j] ∈ List.zipWith (entT T) ks l := List.mem_iff_getElem?.2 ⟨j, by rw [List.getElem?_zipWith, List.getElem?_eq_getElem hjk, List.getElem?_eq_getElem hj]⟩
  have := mem_join_le (sep := [44, 32]) (List.mem_map.2 ⟨_, he, rfl⟩ : (entT T ks[j] l[j]).data.toList ∈ (List.zipWith (entT T) ks l).map (·.data.toList))
  rw [mapT_size]
  have h2 : (T l[j]).size ≤ (entT T ks[j] l[j]).size := by
    unfold entT
    rw [ByteArray.size_append]
    omega
  have h3 : (entT T ks[j] l[j]).data.toList.length = (entT T ks[j] l[j]).size := rfl
  omega
end Go.Proofs.YtjehhldboopocaaGreatDoor.Lx
namespace Go.Proofs.YtjehhldboopocaaGreatDoor.Lx
open Go.RowKit Go.Lib
set_option linter.unusedVariables false
/-- A token that continues nothing. -/
def Stops (t : Int × List UInt8) : Prop := t.1 = 4 → strB t.2 = 0 ∧ t.2 ≠ [46] ∧ t.2 ≠ [91] ∧ t.2 ≠ [63] ∧ t.2 ≠ [40] ∧ t.2 ≠ [33] ∧ t.2 ≠ [45]
def Quiet (s : List UInt8) : Prop := s = [46] ∨ s = [91] ∨ s = [63] ∨ s = [40] ∨ s = [33] ∨ s = [45]
/-- What a answers up to the index n, b answers p further on; and a answers i or more. -/
def RelP {V : Type} (p n i : Nat) (a b : PR V) : Prop := ∀ x j, a = .ok x j → i ≤ j ∧ (j ≤ n → b = .ok x (p + j))
section
variable {V : Type} {p n i k : Nat} {a b : PR V}
theorem RelP.weak (h : RelP p n i a b) (hi : k ≤ i) : RelP p n k a b := fun x j e => ⟨Nat.le_trans hi (h x j e).1, (h x j e).2⟩
theorem RelP.err {q e : Nat} : RelP p n i (.err q e : PR V) b := fun x j h => by cases h
theorem RelP.out : RelP p n i (.out : PR V) b := fun x j h => by cases h
theorem RelP.okk {x : Ex V} {j : Nat} (h : i ≤ j) : RelP p n i (.ok x j) (.ok x (p + j)) := fun y m e => by
  injection e with e1 e2
  subst e1 e2
  exact ⟨h, fun _ => rfl⟩
theorem RelP.bind {k l : Ex V → Nat → PR V} (h : RelP p n i a b) (hk : ∀ x j, i ≤ j → RelP p n j (k x j) (l x (p + j))) : RelP p n i (a.bind k) (b.bind l) := by
  intro y m e
  cases a with
  | out => cases e
  | err q r => cases e
  | ok x j =>
    have h1 := h x j rfl
    have h2 := hk x j h1.1 y m e
    exact ⟨Nat.le_trans h1.1 h2.1, fun hm => by rw [h1.2 (Nat.le_trans h2.1 hm)]; exact h2.2 hm⟩
theorem RelP.past (h : RelP p n i a b) {c : PR V} (hn : n < i) : RelP p n i a c := fun x j e => ⟨(h x j e).1, fun hj => absurd hj (by have := (h x j e).1; omega)⟩
end
section
variable (P : Lits Vl) {ts us : Ts} {p n : Nat}
theorem opTk_in (hin : ∀ i, i < n → us[p + i]? = ts[i]?) {i : Nat} (hi : i < n) (s : List UInt8) : opTk us (p + i) s = opTk ts i s := by unfold opTk; rw [hin i hi]
theorem rel_e (hin : ∀ i, i < n → us[p + i]? = ts[i]?) {a : Nat} {s : List UInt8} {X X' Y Y' : PR Vl} (h1 : RelP p n (a + 1) X X') (h2 : RelP p n (a + 1) Y Y') : RelP p n (a + 1) (if opTk ts a s = true then X else Y) (if opTk us (p + a) s = true then X' else Y') := by
  by_cases ha : a < n
  · rw [opTk_in hin ha]
    split
    · exact h1
    · exact h2
  · by_cases h : opTk ts a s = true
    · rw [if_pos h]
      exact h1.past (by omega)
    · rw [if_neg h]
      exact h2.past (by omega)
theorem rel_look (hin : ∀ i, i < n → us[p + i]? = ts[i]?) {a : Nat} {F F' : Option (Int × List UInt8) → PR Vl} (h : ∀ o, RelP p n (a + 1) (F o) (F' o)) : RelP p n (a + 1) (F ts[a]?) (F' us[p + a]?) := by
  by_cases ha : a < n
  · rw [hin a ha]
    exact h _
  · exact (h _).past (by omega)
theorem opTk_end (hend : ∀ t, us[p + n]? = some t → Stops t) {s : List UInt8} (hs : Quiet s) : opTk us (p + n) s = false := by
  unfold opTk
  refine decide_eq_false fun e => ?_
  have h := hend _ e rfl
  simp only [] at h
  rcases hs with rfl | rfl | rfl | rfl | rfl | rfl
  · exact h.2.1 rfl
  · exact h.2.2.1 rfl
  · exact h.2.2.2.1 rfl
  · exact h.2.2.2.2.1 rfl
  · exact h.2.2.2.2.2.1 rfl
  · exact h.2.2.2.2.2.2 rfl
theorem rel_q (hin : ∀ i, i < n → us[p + i]? = ts[i]?) (hend : ∀ t, us[p + n]? = some t → Stops t) {a : Nat} {s : List UInt8} (hs : Quiet s) {X X' Y Y' : PR Vl} (h1 : RelP p n (a + 1) X X') (h2 : RelP p n a Y Y') : RelP p n a (if opTk ts a s = true then X else Y) (if opTk us (p + a) s = true then X' else Y') := by
  by_cases ha : a < n
  · rw [opTk_in hin ha]
    split
    · exact h1.weak (by omega)
    · exact h2
  · by_cases h : opTk ts a s = true
    · rw [if_pos h]
      exact (h1.past (by omega)).weak (by omega)
    · rw [if_neg h]
      rcases Nat.lt_or_ge n a with hn | hn
      · exact h2.past hn
      · obtain rfl : a = n := by omega
        rw [opTk_end hend hs]
        exact h2
/-- What an atom is read as, given its first token. -/
def atmF (P : Lits Vl) (g : NT Vl → Nat → PR Vl) (ts : Ts) (i : Nat) (o : Option (Int × List UInt8)) : PR Vl := match o with
      | none => .err i 4
      | some (k, s) =>
        if k = 2 then (if intB s = true then .ok (.mk 1 (P.num s) [] [] []) (i + 1) else .err i 5)
        else if k = 3 then (if s.length ≤ 4096 then .ok (.mk 1 (P.str s) [] [] []) (i + 1) else .err i 5)
        else if k = 1 then
          (if s = nulS then .ok (.mk 1 P.zero [] [] []) (i + 1)
          else if s = truS ∨ s = falS then .ok (.mk 1 (P.boo (decide (s = truS))) [] [] []) (i + 1)
          else if nameB s = true then (if opTk ts (i + 1) [40] = true then (g (.lst [41] false true [] []) (i + 2)).bind fun x a => match x with
              | .mk _ _ _ l _ => .ok (node P 5 s l) a
            else .ok (node P 2 s []) (i + 1))
          else .err i 5)
        else if k = 4 then
          (if s = [40] then (g .cond (i + 1)).bind fun x a => if opTk ts a [41] = true then .ok x (a + 1) else .err a (miss ts a)
          else if s = [91] then (g (.lst [93] false true [] []) (i + 1)).bind fun x a => match x with
              | .mk _ _ _ l _ => .ok (node P 9 [] l) a
          else if s = [123] then (g (.lst [125] true true [] []) (i + 1)).bind fun x a => match x with
              | .mk _ _ _ l ks => .ok (.mk 10 P.zero [] l ks) a
          else .err i 5)
        else .err i 5
theorem stepG_atm (P : Lits Vl) (g : NT Vl → Nat → PR Vl) (ts : Ts) (i : Nat) : stepG P g ts .atm i = atmF P g ts i ts[i]? := by
  cases h : ts[i]? with
  | none => simp only [stepG, atmF, h]
  | some t =>
    obtain ⟨k, s⟩ := t
    simp only [stepG, atmF, h]
    congr
    all_goals
      funext x a
      obtain ⟨k', v', n', l', ks'⟩ := x
      rfl
def pgN : NT Vl → Nat
  | .loop _ _ _ => 0
  | .more _ => 0
  | _ => 1
theorem stepG_ext (hin : ∀ i, i < n → us[p + i]? = ts[i]?) (hend : ∀ t, us[p + n]? = some t → Stops t) (g h : NT Vl → Nat → PR Vl) (hgh : ∀ t i, OkN t → RelP p n (i + pgN t) (g t i) (h t (p + i))) : ∀ t i, RelP p n (i + pgN t) (stepG P g ts t i) (stepG P h us t (p + i)) := by
  intro t i
  have Q1 : Quiet [46] := .inl rfl
  have Q2 : Quiet [91] := .inr (.inl rfl)
  have Q3 : Quiet [63] := .inr (.inr (.inl rfl))
  have Q4 : Quiet [40] := .inr (.inr (.inr (.inl rfl)))
  have Q5 : Quiet [33] := .inr (.inr (.inr (.inr (.inl rfl))))
  have Q6 : Quiet [45] := .inr (.inr (.inr (.inr (.inr rfl))))
  have gc : ∀ i, RelP p n (i + 1) (g .cond i) (h .cond (p + i)) := fun i => hgh .cond i trivial
  cases t with
  | cond =>
    refine (hgh (.oper 2) i (show 1 ≤ 2 by omega)).bind fun c a ha => ?_
    refine rel_q hin hend Q3 ?_ (RelP.okk (Nat.le_refl _))
    refine RelP.weak ((gc (a + 1)).bind fun x b hb => ?_) (by omega)
    refine RelP.weak (rel_e hin (RelP.weak ((gc (b + 1)).bind fun y d hd => RelP.okk (Nat.le_refl _)) (show b + 1 ≤ b + 1 + 1 by omega)) RelP.err) (by omega)
  | oper m => exact RelP.out
  | loop m s x => exact RelP.out
  | un =>
    have c1 : RelP p n (i + 1) (g .chn i) (h .chn (p + i)) := hgh .chn i trivial
    have u1 : RelP p n (i + 1 + 1) (g .un (i + 1)) (h .un (p + (i + 1))) := hgh .un (i + 1) trivial
    refine rel_e hin ?_ (rel_e hin ?_ c1)
    · exact RelP.weak (u1.bind fun x a ha => RelP.okk (Nat.le_refl _)) (by omega)
    · exact RelP.weak (u1.bind fun x a ha => RelP.okk (Nat.le_refl _)) (by omega)
  | chn => exact (hgh .atm i trivial).bind fun x a ha => hgh (.more x) a trivial
  | more x =>
    show RelP p n i _ _
    refine rel_q hin hend Q1 ?_ (rel_q hin hend Q2 ?_ (RelP.okk (Nat.le_refl _)))
    · refine RelP.weak (rel_look (a := i + 1) hin (F := fun o => match o with
        | some (k, s) => if k = 1 ∧ nameB s = true ∧ wordB s = false then g (.more (node P 3 s [x])) (i + 2) else .err (i + 1) (miss ts (i + 1))
        | none => .err (i + 1) (miss ts (i + 1))) (F' := fun o => match o with
        | some (k, s) => if k = 1 ∧ nameB s = true ∧ wordB s = false then h (.more (node P 3 s [x])) (p + i + 2) else .err (p + i + 1) (miss us (p + i + 1))
        | none => .err (p + i + 1) (miss us (p + i + 1))) fun o => ?_) (by omega)
      cases o with
      | none => exact RelP.err
      | some t =>
        obtain ⟨k, s⟩ := t
        dsimp only
        split
        · exact hgh (.more _) (i + 2) trivial
        · exact RelP.err
    · refine RelP.weak ((gc (i + 1)).bind fun y a ha => ?_) (by omega)
      exact RelP.weak (rel_e hin (RelP.weak (hgh (.more _) (a + 1) trivial) (by show a + 1 ≤ a + 1 + 0; omega)) RelP.err) (by omega)
  | atm =>
    show RelP p n (i + 1) _ _
    rw [stepG_atm, stepG_atm]
    refine rel_look (a := i) hin (F := atmF P g ts i) (F' := atmF P h us (p + i)) fun o => ?_
    cases o with
    | none => exact RelP.err
    | some t =>
      obtain ⟨k, s⟩ := t
      simp only [atmF]
      split
      · split
        · exact RelP.okk (j := i + 1) (Nat.le_refl _)
        · exact RelP.err
      · split
        · split
          · exact RelP.okk (j := i + 1) (Nat.le_refl _)
          · exact RelP.err
        · split
          · split
            · exact RelP.okk (j := i + 1) (Nat.le_refl _)
            · split
              · exact RelP.okk (j := i + 1) (Nat.le_refl _)
              · split
                · refine rel_q (a := i + 1) hin hend Q4 ?_ (RelP.okk (j := i + 1) (Nat.le_refl _))
                  refine RelP.weak ((hgh (.lst [41] false true [] []) (i + 2) trivial).bind fun x a ha => ?_) (show i + 1 + 1 ≤ i + 2 + 1 by omega)
                  obtain ⟨k', v', n', l', ks'⟩ := x
                  exact RelP.okk (Nat.le_refl _)
                · exact RelP.err
          · split
            · split
              · refine RelP.weak ((gc (i + 1)).bind fun x a ha => ?_) (by omega)
                exact RelP.weak (rel_e hin (RelP.okk (j := a + 1) (Nat.le_refl _)) RelP.err) (by omega)
              · split
                · refine RelP.weak ((hgh (.lst [93] false true [] []) (i + 1) trivial).bind fun x a ha => ?_) (show i + 1 ≤ i + 1 + 1 by omega)
                  obtain ⟨k', v', n', l', ks'⟩ := x
                  exact RelP.okk (Nat.le_refl _)
                · split
                  · refine RelP.weak ((hgh (.lst [125] true true [] []) (i + 1) trivial).bind fun x a ha => ?_) (show i + 1 ≤ i + 1 + 1 by omega)
                    obtain ⟨k', v', n', l', ks'⟩ := x
                    exact RelP.okk (Nat.le_refl _)
                  · exact RelP.err
            · exact RelP.err
  | lst cl ent first acc keys =>
    have item : ∀ (j : Nat) (ks : List (List UInt8)), RelP p n (j + 1) ((g .cond j).bind fun x a =>
        if opTk ts a cl = true then .ok (.mk 0 P.zero [] (acc ++ [x]) ks) (a + 1)
        else if opTk ts a [44] = true then g (.lst cl ent false (acc ++ [x]) ks) (a + 1) else .err a (miss ts a))
        ((h .cond (p + j)).bind fun x a =>
        if opTk us a cl = true then .ok (.mk 0 P.zero [] (acc ++ [x]) ks) (a + 1)
        else if opTk us a [44] = true then h (.lst cl ent false (acc ++ [x]) ks) (a + 1) else .err a (miss us a)) := fun j ks => by
      refine (gc j).bind fun x a ha => ?_
      exact RelP.weak (rel_e hin (RelP.okk (j := a + 1) (Nat.le_refl _)) (rel_e hin (RelP.weak (hgh (.lst cl ent false (acc ++ [x]) ks) (a + 1) trivial) (show a + 1 ≤ a + 1 + 1 by omega)) RelP.err)) (by omega)
    have rest : RelP p n (i + 1)
        (if ent = true then match ts[i]? with
          | some t => if keyT t = true then (if opTk ts (i + 1) [58] = true then ((g .cond (i + 2)).bind fun x a =>
        if opTk ts a cl = true then .ok (.mk 0 P.zero [] (acc ++ [x]) (keys ++ [t.2])) (a + 1)
        else if opTk ts a [44] = true then g (.lst cl ent false (acc ++ [x]) (keys ++ [t.2])) (a + 1) else .err a (miss ts a)) else .err (i + 1) (miss ts (i + 1))) else .err i (miss ts i)
          | none => .err i (miss ts i)
        else (g .cond i).bind fun x a =>
        if opTk ts a cl = true then .ok (.mk 0 P.zero [] (acc ++ [x]) keys) (a + 1)
        else if opTk ts a [44] = true then g (.lst cl ent false (acc ++ [x]) keys) (a + 1) else .err a (miss ts a))
        (if ent = true then match us[p + i]? with
          | some t => if keyT t = true then (if opTk us (p + i + 1) [58] = true then ((h .cond (p + i + 2)).bind fun x a =>
        if opTk us a cl = true then .ok (.mk 0 P.zero [] (acc ++ [x]) (keys ++ [t.2])) (a + 1)
        else if opTk us a [44] = true then h (.lst cl ent false (acc ++ [x]) (keys ++ [t.2])) (a + 1) else .err a (miss us a)) else .err (p + i + 1) (miss us (p + i + 1))) else .err (p + i) (miss us (p + i))
          | none => .err (p + i) (miss us (p + i))
        else (h .cond (p + i)).bind fun x a =>
        if opTk us a cl = true then .ok (.mk 0 P.zero [] (acc ++ [x]) keys) (a + 1)
        else if opTk us a [44] = true then h (.lst cl ent false (acc ++ [x]) keys) (a + 1) else .err a (miss us a)) := by
      by_cases he : ent = true
      · rw [if_pos he, if_pos he]
        refine rel_look (a := i) hin (F := fun o => match o with
          | some t => if keyT t = true then (if opTk ts (i + 1) [58] = true then ((g .cond (i + 2)).bind fun x a =>
        if opTk ts a cl = true then .ok (.mk 0 P.zero [] (acc ++ [x]) (keys ++ [t.2])) (a + 1)
        else if opTk ts a [44] = true then g (.lst cl ent false (acc ++ [x]) (keys ++ [t.2])) (a + 1) else .err a (miss ts a)) else .err (i + 1) (miss ts (i + 1))) else .err i (miss ts i)
          | none => .err i (miss ts i)) (F' := fun o => match o with
          | some t => if keyT t = true then (if opTk us (p + i + 1) [58] = true then ((h .cond (p + i + 2)).bind fun x a =>
        if opTk us a cl = true then .ok (.mk 0 P.zero [] (acc ++ [x]) (keys ++ [t.2])) (a + 1)
        else if opTk us a [44] = true then h (.lst cl ent false (acc ++ [x]) (keys ++ [t.2])) (a + 1) else .err a (miss us a)) else .err (p + i + 1) (miss us (p + i + 1))) else .err (p + i) (miss us (p + i))
          | none => .err (p + i) (miss us (p + i))) fun o => ?_
        cases o with
        | none => exact RelP.err
        | some t =>
          dsimp only
          split
          · exact RelP.weak (rel_e (a := i + 1) hin (RelP.weak (item (i + 2) _) (by omega)) RelP.err) (by omega)
          · exact RelP.err
      · rw [if_neg he, if_neg he]
        exact item i keys
    show RelP p n (i + 1) _ _
    simp only [stepG]
    by_cases hi : i < n
    · rw [opTk_in hin hi]
      by_cases hc : first = true ∧ opTk ts i cl = true
      · rw [if_pos hc, if_pos hc]
        exact RelP.okk (j := i + 1) (Nat.le_refl _)
      · rw [if_neg hc, if_neg hc]
        exact rest
    · by_cases hc : first = true ∧ opTk ts i cl = true
      · rw [if_pos hc]
        exact (RelP.okk (p := p) (j := i + 1) (Nat.le_refl _)).past (by omega)
      · rw [if_neg hc]
        exact rest.past (by omega)
theorem binAt_in (hin : ∀ i, i < n → us[p + i]? = ts[i]?) {i : Nat} (hi : i < n) : binAt us (p + i) = binAt ts i := by unfold binAt; rw [hin i hi]
theorem binAt_end (hend : ∀ t, us[p + n]? = some t → Stops t) : (binAt us (p + n)).1 = 0 := by
  unfold binAt
  cases h : us[p + n]? with
  | none => rfl
  | some t =>
    obtain ⟨k, s⟩ := t
    dsimp only
    split
    · rename_i hk
      exact (hend _ h hk).1
    · rfl
/-- What is read of the first n tokens is read of them p further on, if nothing behind them continues it. -/
theorem pG_ext (hin : ∀ i, i < n → us[p + i]? = ts[i]?) (hend : ∀ t, us[p + n]? = some t → Stops t) : ∀ (f : Nat) (t : NT Vl) (i : Nat), OkN t → RelP p n (i + pgN t) (pG P ts f t i) (pG P us f t (p + i))
  | 0, _, _, _ => RelP.out
  | f + 1, t, i, ht => by
    have ih := pG_ext hin hend f
    have gen := stepG_ext P hin hend (pG P ts f) (pG P us f) (fun t i h => ih t i h) t i
    cases t with
    | oper m => exact (ih .un i trivial).bind fun x a ha => ih (.loop m 7 x) a ht
    | loop m s x =>
      have hm : 1 ≤ m := ht
      show RelP p n i (if (binAt ts i).1 < m ∨ s < (if (binAt ts i).1 = 4 then 5 else (binAt ts i).1) then .ok x i
        else (pG P ts f (.oper ((binAt ts i).1 + 1)) (i + 1)).bind fun y a => pG P ts f (.loop m (binAt ts i).1 (node P 7 (binAt ts i).2 [x, y])) a)
        (if (binAt us (p + i)).1 < m ∨ s < (if (binAt us (p + i)).1 = 4 then 5 else (binAt us (p + i)).1) then .ok x (p + i)
        else (pG P us f (.oper ((binAt us (p + i)).1 + 1)) (p + i + 1)).bind fun y a => pG P us f (.loop m (binAt us (p + i)).1 (node P 7 (binAt us (p + i)).2 [x, y])) a)
      have go : RelP p n (i + 2) ((pG P ts f (.oper ((binAt ts i).1 + 1)) (i + 1)).bind fun y a => pG P ts f (.loop m (binAt ts i).1 (node P 7 (binAt ts i).2 [x, y])) a)
          ((pG P us f (.oper ((binAt ts i).1 + 1)) (p + i + 1)).bind fun y a => pG P us f (.loop m (binAt ts i).1 (node P 7 (binAt ts i).2 [x, y])) a) :=
        (ih (.oper _) (i + 1) (Nat.le_add_left 1 _)).bind fun y a ha => ih (.loop _ _ _) a ht
      by_cases hi : i < n
      · rw [binAt_in hin hi]
        by_cases hb : (binAt ts i).1 < m ∨ s < (if (binAt ts i).1 = 4 then 5 else (binAt ts i).1)
        · rw [if_pos hb, if_pos hb]
          exact RelP.okk (Nat.le_refl _)
        · rw [if_neg hb, if_neg hb]
          exact go.weak (by omega)
      · by_cases hb : (binAt ts i).1 < m ∨ s < (if (binAt ts i).1 = 4 then 5 else (binAt ts i).1)
        · rw [if_pos hb]
          rcases Nat.lt_or_ge n i with hn | hn
          · exact (RelP.okk (p := p) (j := i) (Nat.le_refl _)).past hn
          · obtain rfl : i = n := by omega
            have h0 := binAt_end hend
            rw [if_pos (.inl (by omega))]
            exact RelP.okk (Nat.le_refl _)
        · rw [if_neg hb]
          exact (go.past (by omega)).weak (by omega)
    | cond => exact gen
    | un => exact gen
    | chn => exact gen
    | more x => exact gen
    | atm => exact gen
    | lst c d e q r => exact gen
end
end Go.Proofs.YtjehhldboopocaaGreatDoor.Lx
