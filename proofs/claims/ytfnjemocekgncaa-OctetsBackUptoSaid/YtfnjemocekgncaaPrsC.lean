/- The contract of the reader's field (octets), and both for every number of levels. -/
import Derived.Test.YtfnjemocekgncaaPrsB
namespace Go.Proofs.Ytfnjemocekgncaa
open Go.RowKit Go.Lib

set_option maxHeartbeats 4000000 in
set_option maxRecDepth 100000 in
theorem field_deep (R : Nat) (l : List UInt8) (w : World) : Calls Try.prog 39 #[.pointer (some ⟨R, 0, none⟩), .int .i64 129] w (FieldPost R 0 w (pField 0 l)) := by
  go_enter Try.func39, Try.ntmps39
  go_wp2_with fail
  exact bodyPost_ret (v := .tuple #[.agg #[.int .i64 0, .int .i64 0, .string ⟨#[]⟩, .slice none 0 0], .int .i64 13]) (by simp [results, Try.results39, go_sem]) rfl ⟨0, 0, ⟨#[]⟩, none, 0, [], rfl, by repeat (first | exact But.refl _ _ | refine But.trans ?_ (But.set _ _ _ _) | refine But.trans ?_ (But.alloc _ _ _)), fun h => by simp [pField] at h⟩

set_option maxHeartbeats 4000000 in
set_option maxRecDepth 100000 in
theorem field_int (n R : Nat) (hn : n < 128) (k : UInt8) (l : List UInt8) (w : World) (hl : l.length ≤ 1099511627776) (hr : RSt R w (k :: l)) (hk : k.toNat = 0) :
    Calls Try.prog 39 #[.pointer (some ⟨R, 0, none⟩), .int .i64 (128 - (n : Int))] w (FieldPost R (n + 1) w (pField (n + 1) (k :: l))) := by
  have u0 : decide ((128 : Int) < 128 - (n : Int)) = false := by simp; omega
  obtain ⟨a, c, hc, hf, hR, h1, h2, h3, h4⟩ := hr
  obtain ⟨b, off, rfl, hlt, hc0⟩ := h3 0 (by simp)
  rw [List.length_cons] at hc h1
  have hc0 : w.cell? ⟨b, off, none⟩ = some (.int .u8 0) := by simpa [hk] using hc0
  have hbR := h4 b off rfl
  have hsl : ∀ w, (Instr.sliceAt 23 (.slice (some ⟨b, off, none⟩) (l.length + 1) c) (some (.int .i64 1)) none none).run Try.prog w = .ok (.slice (dropA (some ⟨b, off, none⟩) c 1) l.length (c - 1)) w := fun w => slice_from (some ⟨b, off, none⟩) (l.length + 1) c 1 (by omega) w
  have hd := dropA_reads h3 (c := c) h1 1
  have hdb := dropA_block (c := c) (k := 1) h3 h4 (by simp)
  obtain ⟨da, hda⟩ : ∃ da, da = dropA (some ⟨b, off, none⟩) c 1 := ⟨_, rfl⟩
  rw [← hda] at hd hdb hsl
  have HD := Lib.hid (show ReadsBytes w da l from hd)
  have HDB := Lib.hid hdb
  clear h3 h4 hd hdb hda
  obtain ⟨x0, x1, x2⟩ := take_facts l
  have hT := TakeInt_any da (c - 1) l (by omega)
  have hP : pField (n + 1) (k :: l) = (if (take l).2.2 ≠ 0 then ((take l).2.2, zeroF, []) else (0, .mk 0 (unzig (take l).1) ⟨#[]⟩ [], l.drop (take l).2.1)) := by rw [pField, if_pos hk]
  rw [hP]
  have hz : -9223372036854775808 ≤ unzig (take l).1 ∧ unzig (take l).1 ≤ 9223372036854775807 := by unfold unzig; split <;> omega
  obtain ⟨z, hzz⟩ : ∃ z, z = unzig (take l).1 := ⟨_, rfl⟩
  rw [← hzz] at hT hz ⊢
  obtain ⟨k2, hk2⟩ : ∃ k2, k2 = (take l).2.1 := ⟨_, rfl⟩
  obtain ⟨e2, he2⟩ : ∃ e2, e2 = (take l).2.2 := ⟨_, rfl⟩
  rw [← hk2] at hT x2 ⊢
  rw [← he2] at hT ⊢
  have HT := Lib.hid hT
  have hsl2 := fun w => slice_from da l.length (c - 1) k2 x2 w
  have k20 : (0 : Int) ≤ k2 ∧ (k2 : Int) ≤ l.length := by omega
  clear hT hP hzz hk2 he2 x0 x1 hk
  by_cases he : e2 = 0
  · subst he
    rw [if_neg (by omega)]
    go_enter Try.func39, Try.ntmps39
    go_wp2_with fail
    go_fit (HT.out _ (by refine But.bytes (R := R) (w := w) (by repeat (first | exact But.refl _ _ | refine But.trans ?_ (But.set _ _ _ _) | refine But.trans ?_ (But.alloc _ _ _))) HD.out HDB.out))
    rintro e w1 ⟨rfl, rfl⟩
    go_wp2_with fail
    refine bodyPost_ret (v := .tuple #[.agg #[.int .i64 0, .int .i64 z, .string ⟨#[]⟩, .slice none 0 0], .int .i64 0]) (by simp [results, Try.results39, go_sem]) rfl ⟨0, z, ⟨#[]⟩, none, 0, [], rfl, by repeat (first | exact But.refl _ _ | refine But.trans ?_ (But.set _ _ _ _) | refine But.trans ?_ (But.alloc _ _ _)), fun _ => ⟨rfl, by omega, by omega, hz.1, hz.2, by simp, ReadsS.nil _ _ _ _, ?_⟩⟩
    exact ⟨dropA da (c - 1) k2, c - 1 - k2, by rw [List.length_drop]; go_simp, by go_simp, by simp [World.setCell]; omega, by rw [List.length_drop]; omega, by omega, (But.bytes (R := R) (w := w) (by repeat (first | exact But.refl _ _ | refine But.trans ?_ (But.set _ _ _ _) | refine But.trans ?_ (But.alloc _ _ _))) (dropA_reads HD.out (by omega) k2) (dropA_block HD.out HDB.out (by omega))), dropA_block HD.out HDB.out (by omega)⟩
  · have u1 : ((e2 : Int) != 0) = true := by rw [bne_iff_ne]; omega
    have HE := Lib.hid he
    rw [if_pos he]
    clear he
    go_enter Try.func39, Try.ntmps39
    go_wp2_with fail
    go_fit (HT.out _ (by refine But.bytes (R := R) (w := w) (by repeat (first | exact But.refl _ _ | refine But.trans ?_ (But.set _ _ _ _) | refine But.trans ?_ (But.alloc _ _ _))) HD.out HDB.out))
    rintro e w1 ⟨rfl, rfl⟩
    go_wp2_with fail
    exact bodyPost_ret (v := .tuple #[.agg #[.int .i64 0, .int .i64 0, .string ⟨#[]⟩, .slice none 0 0], .int .i64 e2]) (by simp [results, Try.results39, go_sem]) rfl ⟨0, 0, ⟨#[]⟩, none, 0, [], rfl, by repeat (first | exact But.refl _ _ | refine But.trans ?_ (But.set _ _ _ _) | refine But.trans ?_ (But.alloc _ _ _)), fun h => absurd h HE.out⟩
theorem takeS_facts (l : List UInt8) : (takeS l).2.1 ≤ l.length := by
  obtain ⟨_, _, h⟩ := take_facts l
  unfold takeS
  split
  · simp
  · split
    · simp
    · simp; omega

set_option maxHeartbeats 4000000 in
set_option maxRecDepth 100000 in
theorem field_str (n R : Nat) (hn : n < 128) (k : UInt8) (l : List UInt8) (w : World) (hl : l.length ≤ 1099511627776) (hr : RSt R w (k :: l)) (hk : k.toNat = 1) :
    Calls Try.prog 39 #[.pointer (some ⟨R, 0, none⟩), .int .i64 (128 - (n : Int))] w (FieldPost R (n + 1) w (pField (n + 1) (k :: l))) := by
  have u0 : decide ((128 : Int) < 128 - (n : Int)) = false := by simp; omega
  obtain ⟨a, c, hc, hf, hR, h1, h2, h3, h4⟩ := hr
  obtain ⟨b, off, rfl, hlt, hc0⟩ := h3 0 (by simp)
  rw [List.length_cons] at hc h1
  have hc0 : w.cell? ⟨b, off, none⟩ = some (.int .u8 1) := by simpa [hk] using hc0
  have hbR := h4 b off rfl
  have hsl : ∀ w, (Instr.sliceAt 23 (.slice (some ⟨b, off, none⟩) (l.length + 1) c) (some (.int .i64 1)) none none).run Try.prog w = .ok (.slice (dropA (some ⟨b, off, none⟩) c 1) l.length (c - 1)) w := fun w => slice_from (some ⟨b, off, none⟩) (l.length + 1) c 1 (by omega) w
  have hd := dropA_reads h3 (c := c) h1 1
  have hdb := dropA_block (c := c) (k := 1) h3 h4 (by simp)
  obtain ⟨da, hda⟩ : ∃ da, da = dropA (some ⟨b, off, none⟩) c 1 := ⟨_, rfl⟩
  rw [← hda] at hd hdb hsl
  have HD := Lib.hid (show ReadsBytes w da l from hd)
  have HDB := Lib.hid hdb
  clear h3 h4 hd hdb hda
  have x2 := takeS_facts l
  have hT := TakeString_any da (c - 1) l (by omega) (by omega)
  have hP : pField (n + 1) (k :: l) = (if (takeS l).2.2 ≠ 0 then ((takeS l).2.2, zeroF, []) else (0, .mk 1 0 ⟨(takeS l).1.toArray⟩ [], l.drop (takeS l).2.1)) := by rw [pField, if_neg (by omega), if_pos hk]
  rw [hP]
  obtain ⟨z, hzz⟩ : ∃ z : ByteArray, z = ⟨(takeS l).1.toArray⟩ := ⟨_, rfl⟩
  rw [← hzz] at hT ⊢
  obtain ⟨k2, hk2⟩ : ∃ k2, k2 = (takeS l).2.1 := ⟨_, rfl⟩
  obtain ⟨e2, he2⟩ : ∃ e2, e2 = (takeS l).2.2 := ⟨_, rfl⟩
  rw [← hk2] at hT x2 ⊢
  rw [← he2] at hT ⊢
  have HT := Lib.hid hT
  have hsl2 := fun w => slice_from da l.length (c - 1) k2 x2 w
  have k20 : (0 : Int) ≤ k2 ∧ (k2 : Int) ≤ l.length := by omega
  clear hT hP hzz hk2 he2 hk
  by_cases he : e2 = 0
  · subst he
    rw [if_neg (by omega)]
    go_enter Try.func39, Try.ntmps39
    go_wp2_with fail
    go_fit (HT.out _ (by refine But.bytes (R := R) (w := w) (by repeat (first | exact But.refl _ _ | refine But.trans ?_ (But.set _ _ _ _) | refine But.trans ?_ (But.alloc _ _ _))) HD.out HDB.out))
    rintro e w1 ⟨rfl, rfl⟩
    go_wp2_with fail
    refine bodyPost_ret (v := .tuple #[.agg #[.int .i64 1, .int .i64 0, .string z, .slice none 0 0], .int .i64 0]) (by simp [results, Try.results39, go_sem]) rfl ⟨1, 0, z, none, 0, [], rfl, by repeat (first | exact But.refl _ _ | refine But.trans ?_ (But.set _ _ _ _) | refine But.trans ?_ (But.alloc _ _ _)), fun _ => ⟨rfl, by omega, by omega, by omega, by omega, by simp, ReadsS.nil _ _ _ _, ?_⟩⟩
    exact ⟨dropA da (c - 1) k2, c - 1 - k2, by rw [List.length_drop]; go_simp, by go_simp, by simp [World.setCell]; omega, by rw [List.length_drop]; omega, by omega, (But.bytes (R := R) (w := w) (by repeat (first | exact But.refl _ _ | refine But.trans ?_ (But.set _ _ _ _) | refine But.trans ?_ (But.alloc _ _ _))) (dropA_reads HD.out (by omega) k2) (dropA_block HD.out HDB.out (by omega))), dropA_block HD.out HDB.out (by omega)⟩
  · have u1 : ((e2 : Int) != 0) = true := by rw [bne_iff_ne]; omega
    have HE := Lib.hid he
    rw [if_pos he]
    clear he
    go_enter Try.func39, Try.ntmps39
    go_wp2_with fail
    go_fit (HT.out _ (by refine But.bytes (R := R) (w := w) (by repeat (first | exact But.refl _ _ | refine But.trans ?_ (But.set _ _ _ _) | refine But.trans ?_ (But.alloc _ _ _))) HD.out HDB.out))
    rintro e w1 ⟨rfl, rfl⟩
    go_wp2_with fail
    exact bodyPost_ret (v := .tuple #[.agg #[.int .i64 0, .int .i64 0, .string ⟨#[]⟩, .slice none 0 0], .int .i64 e2]) (by simp [results, Try.results39, go_sem]) rfl ⟨0, 0, ⟨#[]⟩, none, 0, [], rfl, by repeat (first | exact But.refl _ _ | refine But.trans ?_ (But.set _ _ _ _) | refine But.trans ?_ (But.alloc _ _ _)), fun h => absurd h HE.out⟩
set_option maxHeartbeats 4000000 in
set_option maxRecDepth 100000 in
theorem field_bad (n R : Nat) (hn : n < 128) (k : UInt8) (l : List UInt8) (w : World) (hl : l.length ≤ 1099511627776) (hr : RSt R w (k :: l)) (hk : 2 < k.toNat) :
    Calls Try.prog 39 #[.pointer (some ⟨R, 0, none⟩), .int .i64 (128 - (n : Int))] w (FieldPost R (n + 1) w (pField (n + 1) (k :: l))) := by
  have u0 : decide ((128 : Int) < 128 - (n : Int)) = false := by simp; omega
  obtain ⟨a, c, hc, hf, hR, h1, h2, h3, h4⟩ := hr
  obtain ⟨b, off, rfl, hlt, hc0⟩ := h3 0 (by simp)
  rw [List.length_cons] at hc h1
  have hc0 : w.cell? ⟨b, off, none⟩ = some (.int .u8 (k.toNat : Nat)) := by simpa using hc0
  have hbR := h4 b off rfl
  have hsl : ∀ w, (Instr.sliceAt 23 (.slice (some ⟨b, off, none⟩) (l.length + 1) c) (some (.int .i64 1)) none none).run Try.prog w = .ok (.slice (dropA (some ⟨b, off, none⟩) c 1) l.length (c - 1)) w := fun w => slice_from (some ⟨b, off, none⟩) (l.length + 1) c 1 (by omega) w
  have hd := dropA_reads h3 (c := c) h1 1
  have hdb := dropA_block (c := c) (k := 1) h3 h4 (by simp)
  obtain ⟨da, hda⟩ : ∃ da, da = dropA (some ⟨b, off, none⟩) c 1 := ⟨_, rfl⟩
  rw [← hda] at hd hdb hsl
  have HD := Lib.hid (show ReadsBytes w da l from hd)
  have HDB := Lib.hid hdb
  clear h3 h4 hd hdb hda
  have hP : pField (n + 1) (k :: l) = (5, zeroF, []) := by rw [pField, if_neg (by omega), if_neg (by omega), if_neg (by omega)]
  rw [hP]
  obtain ⟨q, hq⟩ : ∃ q, q = k.toNat := ⟨_, rfl⟩
  have hq9 : k.toNat < 256 := k.toNat_lt
  rw [← hq] at hc0 hk hq9
  have v0 : ((q : Int) == 0) = false := by rw [beq_eq_false_iff_ne]; omega
  have v1 : ((q : Int) == 1) = false := by rw [beq_eq_false_iff_ne]; omega
  have v2 : ((q : Int) == 2) = false := by rw [beq_eq_false_iff_ne]; omega
  clear hP hq
  go_enter Try.func39, Try.ntmps39
  go_wp2_with fail
  exact bodyPost_ret (v := .tuple #[.agg #[.int .i64 0, .int .i64 0, .string ⟨#[]⟩, .slice none 0 0], .int .i64 5]) (by simp [results, Try.results39, go_sem]) rfl ⟨0, 0, ⟨#[]⟩, none, 0, [], rfl, by repeat (first | exact But.refl _ _ | refine But.trans ?_ (But.set _ _ _ _) | refine But.trans ?_ (But.alloc _ _ _)), fun h => by simp at h⟩

set_option maxHeartbeats 4000000 in
set_option maxRecDepth 100000 in
theorem field_empty (n R : Nat) (hn : n < 128) (w : World) (hr : RSt R w []) :
    Calls Try.prog 39 #[.pointer (some ⟨R, 0, none⟩), .int .i64 (128 - (n : Int))] w (FieldPost R (n + 1) w (pField (n + 1) [])) := by
  have u0 : decide ((128 : Int) < 128 - (n : Int)) = false := by simp; omega
  obtain ⟨a, c, hc, hf, hR, h1, h2, h3, h4⟩ := hr
  rw [List.length_nil] at hc
  clear h3 h4
  go_enter Try.func39, Try.ntmps39
  go_wp2_with fail
  exact bodyPost_ret (v := .tuple #[.agg #[.int .i64 0, .int .i64 0, .string ⟨#[]⟩, .slice none 0 0], .int .i64 4]) (by simp [results, Try.results39, go_sem]) rfl ⟨0, 0, ⟨#[]⟩, none, 0, [], rfl, by repeat (first | exact But.refl _ _ | refine But.trans ?_ (But.set _ _ _ _) | refine But.trans ?_ (But.alloc _ _ _)), fun h => by simp [pField] at h⟩

end Go.Proofs.Ytfnjemocekgncaa
