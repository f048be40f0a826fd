/- Walks: a match's text; the document's find and part. -/
import Derived.Test.YtfohknpjlkjbbaaGreatDoorP2
namespace Go.Proofs.YtfohknpjlkjbbaaGreatDoor
open Go Go.RowKit Tg Pk

theorem ptxt1 (n v : ByteArray) : ptxt (1, n, v) = n ++ ⟨#[61]⟩ ++ v := by unfold ptxt; simp
theorem ptxt2 (n v : ByteArray) : ptxt (2, n, v) = n ++ ⟨#[33, 61]⟩ ++ v := by unfold ptxt; simp
theorem ptxt3 (n v : ByteArray) : ptxt (3, n, v) = n ++ ⟨#[61]⟩ ++ v ++ ⟨#[42]⟩ := by unfold ptxt; simp
theorem ptxt4 (k : Int) (n v : ByteArray) (h1 : ¬ k = 1) (h2 : ¬ k = 2) (h3 : ¬ k = 3) : ptxt (k, n, v) = n := by unfold ptxt; simp [h1, h2, h3]
theorem kinds3 (k : Int) : k = 1 ∨ k = 2 ∨ k = 3 ∨ (¬ k = 1 ∧ ¬ k = 2 ∧ ¬ k = 3) := by omega

set_option maxHeartbeats 1000000 in
theorem textOf_any (m : Match) (W : World) (h1 : m.2.1.size ≤ 100000) (h2 : m.2.2.size ≤ 100000) :
    Calls Tryz.prog 63 #[.agg #[.int .i64 m.1, .string m.2.1, .string m.2.2]] W fun e w' => e = .returned (.string (ptxt m)) ∧ Below W.heap.size W w' := by
  obtain ⟨k, n, v⟩ := m
  dsimp only at *
  rcases kinds3 k with rfl | rfl | rfl | ⟨k1, k2, k3⟩
  · rw [ptxt1]
    go_enter Tryz.func63, Tryz.ntmps63
    go_wp2_with fail
    go_ret
    exact ⟨rfl, aBelow _ _⟩
  · rw [ptxt2]
    go_enter Tryz.func63, Tryz.ntmps63
    go_wp2_with fail
    go_ret
    exact ⟨rfl, aBelow _ _⟩
  · rw [ptxt3]
    go_enter Tryz.func63, Tryz.ntmps63
    go_wp2_with fail
    go_ret
    exact ⟨rfl, aBelow _ _⟩
  · rw [ptxt4 k n v k1 k2 k3]
    go_enter Tryz.func63, Tryz.ntmps63
    go_wp2_with fail
    go_ret
    exact ⟨rfl, aBelow _ _⟩

theorem occ_room {L sep : List UInt8} {k : Nat} (h : Lib.occAt L sep k = true) (hs : sep ≠ []) : k + sep.length ≤ L.length := by
  unfold Lib.occAt at h
  rw [List.isPrefixOf_iff_prefix] at h
  have h1 := h.length_le
  rw [List.length_drop] at h1
  have : 0 < sep.length := List.length_pos_iff.2 hs
  omega
theorem index_at {L sep : List UInt8} {k : Nat} (hs : sep ≠ []) (h : ∀ j, j < k → Lib.occAt L sep j = false) (h1 : Lib.occAt L sep k = true) : Lib.index L sep = (k : Int) := by
  have hr := occ_room h1 hs
  rcases Lib.index_spec L sep with ⟨_, g⟩ | ⟨i, g1, g2, g3, g4⟩
  · rw [g k (by omega)] at h1
    cases h1
  · rcases Nat.lt_trichotomy i k with hl | hl | hl
    · rw [h i hl] at g3; cases g3
    · rw [g1, hl]
    · rw [g4 k hl] at h1; cases h1
theorem index_no {L sep : List UInt8} {k : Nat} (hs : sep ≠ []) (h : ∀ j, j < k → Lib.occAt L sep j = false) (h1 : L.length < k + sep.length) : Lib.index L sep = -1 := by
  rcases Lib.index_spec L sep with ⟨g, _⟩ | ⟨i, g1, g2, g3, g4⟩
  · exact g
  · have := occ_room g3 hs
    rw [h i (by omega)] at g3
    cases g3
theorem ext_lst (s : ByteArray) (f k : Nat) : (s.extract f k).data.toList = (s.data.toList.drop f).take (k - f) := by
  rw [ByteArray.data_extract, Array.toList_extract, List.extract_eq_take_drop]
theorem occ_ext (s sep : ByteArray) (k : Nat) : ((s.extract k (k + sep.size)).toList == sep.toList) = Lib.occAt s.data.toList sep.data.toList k := by
  rw [ByteArray.toList_eq, ByteArray.toList_eq, ext_lst, show k + sep.size - k = sep.data.toList.length from by rw [← size_list]; omega]
  unfold Lib.occAt
  rw [Bool.eq_iff_iff, beq_iff_eq, List.isPrefixOf_iff_prefix]
  constructor
  · intro h
    exact ⟨_, by rw [← h]; exact List.take_append_drop _ _⟩
  · rintro ⟨t, ht⟩
    rw [← ht]
    simp
theorem ret_int {a b : Int} (h : a = b) : Ending.returned (.int .i64 a) = .returned (.int .i64 b) := by rw [h]

set_option maxHeartbeats 1000000 in
theorem refFindAt_any (s sep : ByteArray) (w : World) (hs : s.size ≤ 1000000) (hp : 0 < sep.size) (hp2 : sep.size ≤ 1000000) :
    Calls Tryz.prog 91 #[.string s, .string sep] w fun e w' => e = .returned (.int .i64 (Lib.index s.data.toList sep.data.toList)) ∧ w' = w := by
  have hne : sep.data.toList ≠ [] := by
    intro e
    have := size_list sep
    rw [e] at this
    simp only [List.length_nil] at this
    omega
  obtain ⟨I, HI⟩ : ∃ I, Hid (Lib.index s.data.toList sep.data.toList = I) := ⟨_, rfl⟩
  rw [HI.out]
  have hsl := size_list s
  have hpl := size_list sep
  go_enter Tryz.func91, Tryz.ntmps91
  go_wp2
  go_loop [5] (fun i => ∃ (k : Nat), k ≤ s.size + 1 ∧ i = .int .i64 k ∧ Hid (∀ j, j < k → Lib.occAt s.data.toList sep.data.toList j = false)) (fun i => s.size + 1 - (intOf i).toNat)
  case atStart => exact ⟨0, Nat.zero_le _, rfl, fun j hj => absurd hj (Nat.not_lt_zero j)⟩
  case round =>
    obtain ⟨k, hk, rfl, HT⟩ := hrel
    by_cases hlt : k + sep.size ≤ s.size
    · have i1 : (k : Int) + (sep.size : Int) ≤ (s.size : Int) := by omega
      have i2 : (0 : Int) ≤ (k : Int) := by omega
      have i3 : (k : Int) ≤ (k : Int) + (sep.size : Int) := by omega
      have i4 : ((k : Int) + (sep.size : Int)).toNat = k + sep.size := by omega
      have HQ := Lib.hid (occ_ext s sep k)
      cases ho : Lib.occAt s.data.toList sep.data.toList k
      · have HT2 : Hid (∀ j, j < k + 1 → Lib.occAt s.data.toList sep.data.toList j = false) := by
          intro j hj
          rcases Nat.lt_or_ge j k with g | g
          · exact HT.out j g
          · have : j = k := by omega
            subst this
            exact ho
        have q := HQ.out.trans ho
        clear HT HQ ho hsl hpl hne
        go_wp2_with fail
        exact ⟨⟨k + 1, by omega, by go_num, HT2⟩, by simp [intOf]; omega⟩
      · have HR : Hid (I = (k : Int)) := (HI.out).symm.trans (index_at hne HT.out ho)
        have q := HQ.out.trans ho
        clear HT HQ ho HI hsl hpl hne
        go_wp2_with fail
        go_ret
        exact ⟨ret_int (HR.out).symm, rfl⟩
    · have HR : Hid (I = -1) := (HI.out).symm.trans (index_no hne HT.out (by omega))
      have i1 : ¬ (k : Int) + (sep.size : Int) ≤ (s.size : Int) := by omega
      clear HT HI hne hsl hpl
      go_wp2_with fail
      go_ret
      exact ⟨ret_int (HR.out).symm, rfl⟩
end Go.Proofs.YtfohknpjlkjbbaaGreatDoor
