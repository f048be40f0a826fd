/- Walks: the document's kinds of bytes, names and values. -/
import Derived.Test.YtfohknpjlkjbbaaGreatDoorW1
namespace Go.Proofs.YtfohknpjlkjbbaaGreatDoor
open Go Go.RowKit

set_option maxHeartbeats 400000 in
theorem refSmall_any (c : UInt8) (w : World) :
    Calls Tryz.prog 60 #[.int .u8 (c.toNat : Int)] w fun e w' => e = .returned (.bool (Word.small c)) ∧ w' = w := by
  obtain ⟨n, hn⟩ : ∃ n : Int, n = (c.toNat : Int) := ⟨_, rfl⟩
  rw [← hn]
  by_cases h1 : 97 ≤ n
  · by_cases h2 : n ≤ 122
    · have hv : Word.small c = true := by simp [Word.small]; omega
      rw [hv]
      clear hv hn
      go_enter Tryz.func60, Tryz.ntmps60
      go_wp2
      go_ret
      exact ⟨rfl, rfl⟩
    · have hv : Word.small c = false := by simp [Word.small]; omega
      rw [hv]
      clear hv hn
      go_enter Tryz.func60, Tryz.ntmps60
      go_wp2
      go_ret
      exact ⟨rfl, rfl⟩
  · have hv : Word.small c = false := by simp [Word.small]; omega
    rw [hv]
    clear hv hn
    go_enter Tryz.func60, Tryz.ntmps60
    go_wp2
    go_ret
    exact ⟨rfl, rfl⟩

set_option maxHeartbeats 400000 in
theorem refDigit_any (c : UInt8) (w : World) :
    Calls Tryz.prog 61 #[.int .u8 (c.toNat : Int)] w fun e w' => e = .returned (.bool (Word.digit c)) ∧ w' = w := by
  obtain ⟨n, hn⟩ : ∃ n : Int, n = (c.toNat : Int) := ⟨_, rfl⟩
  rw [← hn]
  by_cases h1 : 48 ≤ n
  · by_cases h2 : n ≤ 57
    · have hv : Word.digit c = true := by simp [Word.digit]; omega
      rw [hv]
      clear hv hn
      go_enter Tryz.func61, Tryz.ntmps61
      go_wp2
      go_ret
      exact ⟨rfl, rfl⟩
    · have hv : Word.digit c = false := by simp [Word.digit]; omega
      rw [hv]
      clear hv hn
      go_enter Tryz.func61, Tryz.ntmps61
      go_wp2
      go_ret
      exact ⟨rfl, rfl⟩
  · have hv : Word.digit c = false := by simp [Word.digit]; omega
    rw [hv]
    clear hv hn
    go_enter Tryz.func61, Tryz.ntmps61
    go_wp2
    go_ret
    exact ⟨rfl, rfl⟩

theorem inName_eq (c : UInt8) (n : Int) (hn : n = (c.toNat : Int)) : Word.inName c = (Word.small c || Word.digit c || n == 95) := by
  unfold Word.inName
  congr 1
  rw [hn]
  by_cases h : c.toNat = 95
  · rw [h]; rfl
  · rw [decide_eq_false h]; symm; simp; omega
theorem inValue_eq (c : UInt8) (n : Int) (hn : n = (c.toNat : Int)) : Word.inValue c = (Word.small c || Word.digit c || n == 95 || n == 45 || n == 46) := by
  unfold Word.inValue
  rw [inName_eq c n hn, hn]
  by_cases h : c.toNat = 45
  · rw [h]; rfl
  · rw [decide_eq_false h, show (((c.toNat : Int) == 45) = false) from by simp; omega]
    congr 1
    by_cases h' : c.toNat = 46
    · rw [h']; rfl
    · rw [decide_eq_false h']; symm; simp; omega

set_option maxHeartbeats 800000 in
theorem refValue_any (s : ByteArray) (w : World) (hs : s.size ≤ 9223372036854775807) :
    Calls Tryz.prog 82 #[.string s] w fun e w' => e = .returned (.bool (Word.value s.data.toList)) ∧ w' = w := by
  have hz := size_list s
  by_cases h1 : s.size < 1
  · have hv : Word.value s.data.toList = false := by simp only [Word.value, Word.fits, ← hz]; simp; omega
    rw [hv]
    clear hv hz
    go_enter Tryz.func82, Tryz.ntmps82
    go_wp2
    go_ret
    exact ⟨rfl, rfl⟩
  · by_cases h2 : 12 < s.size
    · have hv : Word.value s.data.toList = false := by simp only [Word.value, Word.fits, ← hz]; simp; omega
      rw [hv]
      clear hv hz
      go_enter Tryz.func82, Tryz.ntmps82
      go_wp2
      go_ret
      exact ⟨rfl, rfl⟩
    · have hf : Word.fits s.data.toList = true := by simp only [Word.fits, ← hz]; simp; omega
      have hv : Word.value s.data.toList = s.data.toList.all Word.inValue := by unfold Word.value; rw [hf]; rfl
      rw [hv]
      clear hv
      obtain ⟨A, HA⟩ : ∃ A, Hid (s.data.toList.all Word.inValue = A) := ⟨_, rfl⟩
      rw [HA.out]
      clear hf hz
      go_enter Tryz.func82, Tryz.ntmps82
      go_wp2
      go_loop [3] (fun i => ∃ k : Nat, k ≤ s.size ∧ i = .int .i64 k ∧ Hid ((s.data.toList.take k).all Word.inValue = true)) (fun i => s.size - (intOf i).toNat)
      case atStart => exact ⟨0, Nat.zero_le _, rfl, rfl⟩
      case round =>
        obtain ⟨k, hk, rfl, HD⟩ := hrel
        by_cases hlt : k < s.size
        · have hts := take_snoc s k hlt
          have HS : Hid ((s.data.toList.take (k + 1)).all Word.inValue = ((s.data.toList.take k).all Word.inValue && Word.inValue s[k])) := by rw [hts]; exact all_snoc _ _ _
          clear hts
          have HF : Hid (Word.inValue s[k] = false → A = false) := by
            intro h
            have h1 := HS.out
            rw [HD.out, h] at h1
            show A = false
            rw [← HA.out]
            exact all_take h1
          have HT : Hid (Word.inValue s[k] = true → (s.data.toList.take (k + 1)).all Word.inValue = true) := by
            intro h
            rw [HS.out, HD.out, h]; rfl
          have HE := Lib.hid (inValue_eq s[k] _ rfl)
          clear HS HD
          have c1 := refSmall_any s[k] w
          have c2 := refDigit_any s[k] w
          have hE : Hid (Word.inValue s[k] = (Word.small s[k] || Word.digit s[k] || ((s[k]).toNat : Int) == 95 || ((s[k]).toNat : Int) == 45 || ((s[k]).toNat : Int) == 46)) := HE.out
          cases ha : Word.small s[k] <;> rw [ha] at c1
          · cases hb : Word.digit s[k] <;> rw [hb] at c2
            · have C1 := Lib.hid c1
              have C2 := Lib.hid c2
              have HB := Lib.hid (And.intro ha hb)
              clear c1 c2 ha hb HE
              go_wp2_with (first
                | (go_at_call 60; refine (C1.out).mono ?_; rintro e w' ⟨rfl, rfl⟩)
                | (go_at_call 61; refine (C2.out).mono ?_; rintro e w' ⟨rfl, rfl⟩))
              all_goals first
                | (have HN : Word.inValue s[k] = true := by
                     rw [hE.out, HB.out.1, HB.out.2]
                     simp only [Bool.false_or, Bool.or_eq_true, beq_iff_eq]
                     try simp only [bne_iff_ne, bne_eq_false_iff_eq, ne_eq] at *
                     omega
                   exact ⟨⟨k + 1, by omega, by go_num, HT.out HN⟩, by simp [intOf]; omega⟩)
                | (have HN : Word.inValue s[k] = false := by
                     rw [hE.out, HB.out.1, HB.out.2]
                     simp only [Bool.false_or, Bool.or_eq_false_iff, beq_eq_false_iff_ne, ne_eq]
                     try simp only [bne_iff_ne, ne_eq] at *
                     omega
                   go_ret
                   exact ⟨ret_bool (HF.out HN).symm, rfl⟩)
            · have C1 := Lib.hid c1
              have C2 := Lib.hid c2
              have HN : Hid (Word.inValue s[k] = true) := by show _ = _; rw [hE.out, ha, hb]; simp
              clear c1 c2 ha hb HE hE
              go_wp2_with (first
                | (go_at_call 60; refine (C1.out).mono ?_; rintro e w' ⟨rfl, rfl⟩)
                | (go_at_call 61; refine (C2.out).mono ?_; rintro e w' ⟨rfl, rfl⟩))
              exact ⟨⟨k + 1, by omega, by go_num, HT.out HN.out⟩, by simp [intOf]; omega⟩
          · have C1 := Lib.hid c1
            have HN : Hid (Word.inValue s[k] = true) := by show _ = _; rw [hE.out, ha]; simp
            clear c1 c2 ha HE hE
            go_wp2_with (go_at_call 60; refine (C1.out).mono ?_; rintro e w' ⟨rfl, rfl⟩)
            exact ⟨⟨k + 1, by omega, by go_num, HT.out HN.out⟩, by simp [intOf]; omega⟩
        · have HT : Hid (A = true) := by
            have h1 := HD.out
            rw [List.take_of_length_le (by rw [← size_list]; omega)] at h1
            show A = true
            rw [← HA.out]
            exact h1
          go_wp2
          go_ret
          exact ⟨ret_bool (HT.out).symm, rfl⟩


set_option maxHeartbeats 800000 in
theorem refName_any (s : ByteArray) (w : World) (hs : s.size ≤ 9223372036854775807) :
    Calls Tryz.prog 28 #[.string s] w fun e w' => e = .returned (.bool (Word.name s.data.toList)) ∧ w' = w := by
  have hz := size_list s
  by_cases h1 : s.size < 1
  · have hv : Word.name s.data.toList = false := by simp only [Word.name, Word.fits, ← hz]; simp; omega
    rw [hv]
    clear hv hz
    go_enter Tryz.func28, Tryz.ntmps28
    go_wp2
    go_ret
    exact ⟨rfl, rfl⟩
  · by_cases h2 : 12 < s.size
    · have hv : Word.name s.data.toList = false := by simp only [Word.name, Word.fits, ← hz]; simp; omega
      rw [hv]
      clear hv hz
      go_enter Tryz.func28, Tryz.ntmps28
      go_wp2
      go_ret
      exact ⟨rfl, rfl⟩
    · have hf : Word.fits s.data.toList = true := by simp only [Word.fits, ← hz]; simp; omega
      have hpos : 0 < s.size := by omega
      have H3 := refSmall_any s[0] w
      have hv : Word.name s.data.toList = (Word.small s[0] && s.data.toList.all Word.inName) := by
        unfold Word.name
        rw [hf]
        obtain ⟨r, hr⟩ := head_list s hpos
        rw [hr]
        rfl
      rw [hv]
      clear hv
      generalize Word.small s[0] = c at H3 ⊢
      have HH := Lib.hid H3
      clear H3
      cases c
      · rw [Bool.false_and]
        clear hf hz
        go_enter Tryz.func28, Tryz.ntmps28
        go_wp2_with (go_at_call 60; refine (HH.out).mono ?_; rintro e w' ⟨rfl, hw⟩; have hw := hw.symm; subst hw)
        go_ret
        exact ⟨rfl, rfl⟩
      rw [Bool.true_and]
      obtain ⟨A, HA⟩ : ∃ A, Hid (s.data.toList.all Word.inName = A) := ⟨_, rfl⟩
      rw [HA.out]
      clear hf hz
      go_enter Tryz.func28, Tryz.ntmps28
      go_wp2_with (first
        | (go_at_call 60; refine (HH.out).mono ?_; rintro e w' ⟨rfl, hw⟩; have hw := hw.symm; subst hw))
      go_loop [3] (fun i => ∃ k : Nat, k ≤ s.size ∧ i = .int .i64 k ∧ Hid ((s.data.toList.take k).all Word.inName = true)) (fun i => s.size - (intOf i).toNat)
      case atStart => exact ⟨0, Nat.zero_le _, rfl, rfl⟩
      case round =>
        obtain ⟨k, hk, rfl, HD⟩ := hrel
        by_cases hlt : k < s.size
        · have hts := take_snoc s k hlt
          have HS : Hid ((s.data.toList.take (k + 1)).all Word.inName = ((s.data.toList.take k).all Word.inName && Word.inName s[k])) := by rw [hts]; exact all_snoc _ _ _
          clear hts
          have HF : Hid (Word.inName s[k] = false → A = false) := by
            intro h
            have h1 := HS.out
            rw [HD.out, h] at h1
            show A = false
            rw [← HA.out]
            exact all_take h1
          have HT : Hid (Word.inName s[k] = true → (s.data.toList.take (k + 1)).all Word.inName = true) := by
            intro h
            rw [HS.out, HD.out, h]; rfl
          have HE := Lib.hid (inName_eq s[k] _ rfl)
          clear HS HD
          have c1 := refSmall_any s[k] w
          have c2 := refDigit_any s[k] w
          have hE : Hid (Word.inName s[k] = (Word.small s[k] || Word.digit s[k] || ((s[k]).toNat : Int) == 95)) := HE.out
          cases ha : Word.small s[k] <;> rw [ha] at c1
          · cases hb : Word.digit s[k] <;> rw [hb] at c2
            · have C1 := Lib.hid c1
              have C2 := Lib.hid c2
              have HB := Lib.hid (And.intro ha hb)
              clear c1 c2 ha hb HE
              go_wp2_with (first
                | (go_at_call 60; refine (C1.out).mono ?_; rintro e w' ⟨rfl, rfl⟩)
                | (go_at_call 61; refine (C2.out).mono ?_; rintro e w' ⟨rfl, rfl⟩))
              all_goals first
                | (have HN : Word.inName s[k] = true := by
                     rw [hE.out, HB.out.1, HB.out.2]
                     simp only [Bool.false_or, beq_iff_eq]
                     try simp only [bne_iff_ne, bne_eq_false_iff_eq, ne_eq] at *
                     omega
                   exact ⟨⟨k + 1, by omega, by go_num, HT.out HN⟩, by simp [intOf]; omega⟩)
                | (have HN : Word.inName s[k] = false := by
                     rw [hE.out, HB.out.1, HB.out.2]
                     simp only [Bool.false_or, beq_eq_false_iff_ne, ne_eq]
                     try simp only [bne_iff_ne, ne_eq] at *
                     omega
                   go_ret
                   exact ⟨ret_bool (HF.out HN).symm, rfl⟩)
            · have C1 := Lib.hid c1
              have C2 := Lib.hid c2
              have HN : Hid (Word.inName s[k] = true) := by show _ = _; rw [hE.out, ha, hb]; simp
              clear c1 c2 ha hb HE hE
              go_wp2_with (first
                | (go_at_call 60; refine (C1.out).mono ?_; rintro e w' ⟨rfl, rfl⟩)
                | (go_at_call 61; refine (C2.out).mono ?_; rintro e w' ⟨rfl, rfl⟩))
              exact ⟨⟨k + 1, by omega, by go_num, HT.out HN.out⟩, by simp [intOf]; omega⟩
          · have C1 := Lib.hid c1
            have HN : Hid (Word.inName s[k] = true) := by show _ = _; rw [hE.out, ha]; simp
            clear c1 c2 ha HE hE
            go_wp2_with (go_at_call 60; refine (C1.out).mono ?_; rintro e w' ⟨rfl, rfl⟩)
            exact ⟨⟨k + 1, by omega, by go_num, HT.out HN.out⟩, by simp [intOf]; omega⟩
        · have HT : Hid (A = true) := by
            have h1 := HD.out
            rw [List.take_of_length_le (by rw [← size_list]; omega)] at h1
            show A = true
            rw [← HA.out]
            exact h1
          go_wp2
          go_ret
          exact ⟨ret_bool (HT.out).symm, rfl⟩

end Go.Proofs.YtfohknpjlkjbbaaGreatDoor
