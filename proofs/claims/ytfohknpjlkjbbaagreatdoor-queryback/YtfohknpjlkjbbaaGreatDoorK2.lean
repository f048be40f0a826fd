/- Carried over from earlier layers: walks and lemmas of tags, series and matches. -/
import Derived.Test.YtfohknpjlkjbbaaGreatDoorG3
import Derived.Test.YtfohknpjlkjbbaaGreatDoorM4
import Derived.Test.YtfohknpjlkjbbaaGreatDoorP8
namespace Go.Proofs.YtfohknpjlkjbbaaGreatDoor
open Go Go.RowKit Tg Pk Ky
/-- The value v is the series k: its name, and a slice that holds its tags. -/
def KRow (w : World) (v : Value) (k : Key) : Prop := ∃ t, v = .agg #[.string k.1, t] ∧ TRow w t k.2
theorem KRow.on {w w1 : World} {v : Value} {k : Key} (h : KRow w v k) (n : Below w.heap.size w w1) : KRow w1 v k := by
  obtain ⟨t, hv, ht⟩ := h
  exact ⟨t, hv, ht.on n⟩
theorem cut_at {L : List UInt8} {k : Nat} (h : (123 : UInt8) ∉ L.take k) (hk : k < L.length) (h1 : L[k] = 123) : cutC 123 L = some (L.take k, L.drop (k + 1)) := by
  have e : L = L.take k ++ 123 :: L.drop (k + 1) := by
    rw [← h1, ← List.drop_eq_getElem_cons hk, List.take_append_drop]
  have := cutC_app 123 (L.take k) (L.drop (k + 1)) h
  rw [← e] at this
  exact this
theorem kcut_end {L : List UInt8} (h : (123 : UInt8) ∉ L) : kcut L = some (L, []) := by
  unfold kcut
  rw [cutC_none 123 L h]
theorem drop_last {L : List UInt8} {k : Nat} (hk : k + 1 < L.length) : L.drop (k + 1) = (L.drop (k + 1)).take (L.length - 1 - (k + 1)) ++ [L[L.length - 1]] := by
  have e : (L.drop (k + 1)).drop (L.length - 1 - (k + 1)) = [L[L.length - 1]] := by
    rw [List.drop_drop, show k + 1 + (L.length - 1 - (k + 1)) = L.length - 1 by omega, List.drop_eq_getElem_cons (by omega), List.drop_of_length_le (by omega)]
  rw [← e, List.take_append_drop]
theorem suffix_last {L : List UInt8} {k : Nat} (_ : k < L.length) (h2 : L[L.length - 1] ≠ 125) : Lib.hasSuffix (L.drop (k + 1)) [125] = false := by
  cases hs : Lib.hasSuffix (L.drop (k + 1)) [125]
  · rfl
  · exfalso
    unfold Lib.hasSuffix at hs
    rw [List.isSuffixOf_iff_suffix] at hs
    obtain ⟨x, hx⟩ := hs
    have hl : (L.drop (k + 1)).length = x.length + 1 := by rw [← hx]; simp
    rw [List.length_drop] at hl
    have e := drop_last (L := L) (k := k) (by omega)
    rw [← hx] at e
    have := (List.append_inj' e rfl).2
    simp at this
    exact h2 this.symm
theorem kcut_bad {L : List UInt8} {k : Nat} (h : (123 : UInt8) ∉ L.take k) (hk : k < L.length) (h1 : L[k] = 123) (h2 : L[L.length - 1] ≠ 125) : kcut L = none := by
  unfold kcut
  rw [cut_at h hk h1]
  simp only [suffix_last hk h2]
  rfl
theorem kcut_empty {L : List UInt8} {k : Nat} (h : (123 : UInt8) ∉ L.take k) (hk : k < L.length) (h1 : L[k] = 123) (h3 : k + 1 = L.length - 1) : kcut L = none := by
  unfold kcut
  rw [cut_at h hk h1]
  have e := drop_last (L := L) (k := k) (by omega)
  simp only [h3, Nat.sub_self, List.take_zero, List.nil_append] at e
  have ht : (Lib.trimSuffix (L.drop (L.length - 1)) [125]).isEmpty = true ∨ Lib.hasSuffix (L.drop (L.length - 1)) [125] = false := by
    rw [e]
    cases hs : Lib.hasSuffix [L[L.length - 1]] [125]
    · right; rfl
    · left
      unfold Lib.trimSuffix
      rw [hs]
      simp
  rw [h3]
  rcases ht with ht | ht
  · simp only [ht]
    simp
  · simp only [ht]
    simp
theorem kcut_some {L : List UInt8} {k : Nat} (h : (123 : UInt8) ∉ L.take k) (hk : k < L.length) (h1 : L[k] = 123) (h2 : L[L.length - 1] = 125) (h3 : k + 1 ≠ L.length - 1) :
    kcut L = some (L.take k, (L.drop (k + 1)).take (L.length - 1 - (k + 1))) ∧ k + 1 ≤ L.length - 1 := by
  have hk2 : k + 1 < L.length := by
    rcases Nat.lt_or_ge (k + 1) L.length with g | g
    · exact g
    · exfalso
      have e : k = L.length - 1 := by omega
      subst e
      rw [h1] at h2
      exact absurd h2 (by decide)
  refine ⟨?_, by omega⟩
  unfold kcut
  rw [cut_at h hk h1]
  have e := drop_last hk2
  rw [h2] at e
  obtain ⟨a1, a2⟩ := suffix_app ((L.drop (k + 1)).take (L.length - 1 - (k + 1)))
  rw [← e] at a1 a2
  have hne : ((L.drop (k + 1)).take (L.length - 1 - (k + 1))).isEmpty = false := by
    rw [List.isEmpty_eq_false_iff]
    intro hn
    have := congrArg List.length hn
    rw [List.length_take, List.length_drop] at this
    simp at this
    omega
  simp only [a1, a2, hne]
  simp
def kcutB (s : ByteArray) : ByteArray × ByteArray × Bool := match kcut s.data.toList with | none => (⟨#[]⟩, ⟨#[]⟩, false) | some p => (bb p.1, bb p.2, true)
theorem ba_ext {a b : ByteArray} (h : a.data.toList = b.data.toList) : a = b := by
  apply ByteArray.ext
  have := congrArg List.toArray h
  simpa using this
theorem size_l (s : ByteArray) : s.data.toList.length = s.size := by rw [Array.length_toList]; rfl
theorem take_next (s : ByteArray) (k : Nat) (hk : k < s.size) : s.data.toList.take (k + 1) = s.data.toList.take k ++ [s[k]] := by
  rw [List.take_succ_eq_append_getElem (by rw [size_l]; exact hk)]
  rfl
set_option maxHeartbeats 400000 in
theorem refCut_any (s : ByteArray) (w : World) (hs : s.size ≤ 1000000) :
    Calls Tryz.prog 44 #[.string s] w fun e w' => e = .returned (.tuple #[.string (kcutB s).1, .string (kcutB s).2.1, .bool (kcutB s).2.2]) ∧ Below w.heap.size w w' := by
  obtain ⟨C, HC⟩ : ∃ C, Hid (kcutB s = C) := ⟨_, rfl⟩
  rw [HC.out]
  have hsl := size_l s
  go_enter Tryz.func44, Tryz.ntmps44
  go_wp2
  go_loop [5] (fun i => ∃ (k : Nat), k ≤ s.size ∧ i = .int .i64 k ∧ Hid ((123 : UInt8) ∉ s.data.toList.take k)) (fun i => s.size - (intOf i).toNat)
  case atStart => exact ⟨0, Nat.zero_le _, rfl, by show (123 : UInt8) ∉ _; simp⟩
  case round =>
    obtain ⟨k, hk, rfl, HT⟩ := hrel
    by_cases hlt : k < s.size
    · have i1 : (k : Int) < (s.size : Int) := by omega
      have i2 : (0 : Int) ≤ (k : Int) := by omega
      by_cases hc : s[k] = 123
      · have hq : (((s[k]).toNat : Int) == 123) = true := by rw [hc]; rfl
        have hz : s.size - 1 < s.size := by omega
        have j1 : ((s.size : Int) - 1) = ((s.size - 1 : Nat) : Int) := by omega
        have kl : k < s.data.toList.length := by omega
        have E1 : s.data.toList[k] = 123 := hc
        have hl : s.data.toList.length - 1 = s.size - 1 := by omega
        by_cases h5 : s[s.size - 1] = 125
        · have hq5 : (((s[s.size - 1]).toNat : Int) == 125) = true := by rw [h5]; rfl
          have E2 : s.data.toList[s.data.toList.length - 1] = 125 := by simp only [hl]; exact h5
          by_cases h6 : k + 1 = s.size - 1
          · have HR : Hid (C = (⟨#[]⟩, ⟨#[]⟩, false)) := by
              show C = _
              rw [← HC.out]
              unfold kcutB
              rw [kcut_empty HT.out kl E1 (by omega)]
            have q6 : ((k : Int) + 1 == (s.size : Int) - 1) = true := by simp; omega
            clear HT HC E1 E2
            go_wp2_with fail
            go_ret3
            exact ⟨by rw [HR.out]; rfl, Below.refl _ _⟩
          · obtain ⟨E3, E4⟩ := kcut_some HT.out kl E1 E2 (by omega)
            have HR : Hid (C = (s.extract 0 k, s.extract (k + 1) (s.size - 1), true)) := by
              show C = _
              rw [← HC.out]
              unfold kcutB
              rw [E3]
              refine Prod.ext ?_ (Prod.ext ?_ rfl)
              · apply ba_ext
                rw [bb_list, ext_lst]
                simp
              · apply ba_ext
                rw [bb_list, ext_lst]
                show _ = _
                rw [hl]
            have q6 : ((k : Int) + 1 == (s.size : Int) - 1) = false := by simp; omega
            have j2 : (k : Int) + 1 ≤ (s.size : Int) - 1 := by omega
            have j3 : (0 : Int) ≤ (k : Int) + 1 := by omega
            clear HT HC E1 E2 E3
            go_wp2_with fail
            go_quiet (fail)
            go_wp2_with fail
            go_ret3
            exact ⟨by rw [HR.out]; rfl, ⟨rfl, rfl, rfl, Nat.le_refl _, fun _ _ => rfl⟩⟩
        · have hq5 : (((s[s.size - 1]).toNat : Int) == 125) = false := byteNe (n := 125) (by omega) h5
          have HR : Hid (C = (⟨#[]⟩, ⟨#[]⟩, false)) := by
            show C = _
            rw [← HC.out]
            unfold kcutB
            rw [kcut_bad HT.out kl E1 (by simp only [hl]; exact h5)]
          clear HT HC E1
          go_wp2_with fail
          go_ret3
          exact ⟨by rw [HR.out]; rfl, Below.refl _ _⟩
      · have hq : (((s[k]).toNat : Int) == 123) = false := byteNe (n := 123) (by omega) hc
        have HT2 : Hid ((123 : UInt8) ∉ s.data.toList.take (k + 1)) := by
          show (123 : UInt8) ∉ _
          rw [take_next s k hlt]
          have := HT.out
          intro hm
          rcases List.mem_append.1 hm with hm | hm
          · exact this hm
          · rw [List.mem_singleton] at hm
            exact hc hm.symm
        clear HT hc
        go_wp2_with fail
        exact ⟨⟨k + 1, by omega, by go_num, HT2⟩, by simp [intOf]; omega⟩
    · have HR : Hid (C = (s, ⟨#[]⟩, true)) := by
        show C = _
        rw [← HC.out]
        unfold kcutB
        have h1 := HT.out
        rw [List.take_of_length_le (by omega)] at h1
        rw [kcut_end h1]
        refine Prod.ext ?_ rfl
        apply ba_ext
        rw [bb_list]
      have hks : ((k : Int) == (s.size : Int)) = true := by simp; omega
      clear HT HC
      go_wp2_with fail
      go_ret3
      exact ⟨by rw [HR.out]; rfl, Below.refl _ _⟩
end Go.Proofs.YtfohknpjlkjbbaaGreatDoor
