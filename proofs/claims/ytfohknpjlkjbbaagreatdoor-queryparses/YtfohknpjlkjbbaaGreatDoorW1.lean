/- Walks: the program's kinds of bytes, names and values. -/
import Derived.Test.YtfohknpjlkjbbaaGreatDoorM
import Derived.Test.YtfohknpjlkjbbaaGreatDoorChecked
import Derived.WalkKit
import Derived.WalkSpells
import Derived.WalkLawsBesides
import Derived.Outline
import Derived.Lib.Hide
import Derived.Shelf.Abstract
namespace Go.Proofs.YtfohknpjlkjbbaaGreatDoor
open Go Go.RowKit

theorem ret_bool {a b : Bool} (h : a = b) : Ending.returned (.bool a) = .returned (.bool b) := by rw [h]
theorem ret_str {a b : ByteArray} (h : a = b) : Ending.returned (.string a) = .returned (.string b) := by rw [h]
theorem take_snoc (s : ByteArray) (k : Nat) (h : k < s.size) : s.data.toList.take (k + 1) = s.data.toList.take k ++ [s[k]] := by
  rw [List.take_succ_eq_append_getElem (by simpa using h)]; rfl
theorem size_list (s : ByteArray) : s.size = s.data.toList.length := by rw [Array.length_toList]; rfl

set_option maxHeartbeats 400000 in
theorem small_any (c : UInt8) (w : World) :
    Calls Tryz.prog 55 #[.int .u8 (c.toNat : Int)] w fun e w' => e = .returned (.bool (Word.small c)) ∧ w' = w := by
  obtain ⟨n, hn⟩ : ∃ n : Int, n = (c.toNat : Int) := ⟨_, rfl⟩
  rw [← hn]
  by_cases h1 : 97 ≤ n
  · by_cases h2 : n ≤ 122
    · have hv : Word.small c = true := by simp [Word.small]; omega
      rw [hv]
      clear hv hn
      go_enter Tryz.func55, Tryz.ntmps55
      go_wp2
      go_ret
      exact ⟨rfl, rfl⟩
    · have hv : Word.small c = false := by simp [Word.small]; omega
      rw [hv]
      clear hv hn
      go_enter Tryz.func55, Tryz.ntmps55
      go_wp2
      go_ret
      exact ⟨rfl, rfl⟩
  · have hv : Word.small c = false := by simp [Word.small]; omega
    rw [hv]
    clear hv hn
    go_enter Tryz.func55, Tryz.ntmps55
    go_wp2
    go_ret
    exact ⟨rfl, rfl⟩

set_option maxHeartbeats 400000 in
theorem digit_any (c : UInt8) (w : World) :
    Calls Tryz.prog 80 #[.int .u8 (c.toNat : Int)] w fun e w' => e = .returned (.bool (Word.digit c)) ∧ w' = w := by
  obtain ⟨n, hn⟩ : ∃ n : Int, n = (c.toNat : Int) := ⟨_, rfl⟩
  rw [← hn]
  by_cases h1 : 48 ≤ n
  · by_cases h2 : n ≤ 57
    · have hv : Word.digit c = true := by simp [Word.digit]; omega
      rw [hv]
      clear hv hn
      go_enter Tryz.func80, Tryz.ntmps80
      go_wp2
      go_ret
      exact ⟨rfl, rfl⟩
    · have hv : Word.digit c = false := by simp [Word.digit]; omega
      rw [hv]
      clear hv hn
      go_enter Tryz.func80, Tryz.ntmps80
      go_wp2
      go_ret
      exact ⟨rfl, rfl⟩
  · have hv : Word.digit c = false := by simp [Word.digit]; omega
    rw [hv]
    clear hv hn
    go_enter Tryz.func80, Tryz.ntmps80
    go_wp2
    go_ret
    exact ⟨rfl, rfl⟩

set_option maxHeartbeats 400000 in
theorem inName_any (c : UInt8) (w : World) :
    Calls Tryz.prog 57 #[.int .u8 (c.toNat : Int)] w fun e w' => e = .returned (.bool (Word.inName c)) ∧ w' = w := by
  have H1 := small_any c w
  have H2 := digit_any c w
  obtain ⟨n, hn⟩ : ∃ n : Int, n = (c.toNat : Int) := ⟨_, rfl⟩
  rw [← hn] at H1 H2 ⊢
  have hv : Word.inName c = (Word.small c || Word.digit c || decide (n = 95)) := by
    unfold Word.inName
    congr 1
    simp
    omega
  rw [hv]
  clear hv hn
  generalize Word.small c = a at H1 ⊢
  generalize Word.digit c = b at H2 ⊢
  have H1 := Lib.hid H1
  have H2 := Lib.hid H2
  cases a
  · cases b
    · by_cases h : n = 95
      · subst h
        go_enter Tryz.func57, Tryz.ntmps57
        go_wp2_with (first
          | (go_at_call 55; refine (H1.out).mono ?_; rintro e w' ⟨rfl, rfl⟩)
          | (go_at_call 80; refine (H2.out).mono ?_; rintro e w' ⟨rfl, rfl⟩))
        go_ret
        exact ⟨rfl, rfl⟩
      · have hn : (n == 95) = false := by simp [h]
        rw [show decide (n = 95) = false from decide_eq_false h]
        go_enter Tryz.func57, Tryz.ntmps57
        go_wp2_with (first
          | (go_at_call 55; refine (H1.out).mono ?_; rintro e w' ⟨rfl, rfl⟩)
          | (go_at_call 80; refine (H2.out).mono ?_; rintro e w' ⟨rfl, rfl⟩))
        go_ret
        exact ⟨by simp, rfl⟩
    · go_enter Tryz.func57, Tryz.ntmps57
      go_wp2_with (first
        | (go_at_call 55; refine (H1.out).mono ?_; rintro e w' ⟨rfl, rfl⟩)
        | (go_at_call 80; refine (H2.out).mono ?_; rintro e w' ⟨rfl, rfl⟩))
      go_ret
      exact ⟨rfl, rfl⟩
  · go_enter Tryz.func57, Tryz.ntmps57
    go_wp2_with (first
      | (go_at_call 55; refine (H1.out).mono ?_; rintro e w' ⟨rfl, rfl⟩)
      | (go_at_call 80; refine (H2.out).mono ?_; rintro e w' ⟨rfl, rfl⟩))
    go_ret
    exact ⟨rfl, rfl⟩

set_option maxHeartbeats 400000 in
theorem inValue_any (c : UInt8) (w : World) :
    Calls Tryz.prog 106 #[.int .u8 (c.toNat : Int)] w fun e w' => e = .returned (.bool (Word.inValue c)) ∧ w' = w := by
  have H1 := inName_any c w
  obtain ⟨n, hn⟩ : ∃ n : Int, n = (c.toNat : Int) := ⟨_, rfl⟩
  rw [← hn] at H1 ⊢
  have hv : Word.inValue c = (Word.inName c || decide (n = 45) || decide (n = 46)) := by
    unfold Word.inValue
    congr 1
    · congr 1
      simp
      omega
    · simp
      omega
  rw [hv]
  clear hv hn
  generalize Word.inName c = a at H1 ⊢
  have H1 := Lib.hid H1
  cases a
  · by_cases h : n = 45
    · subst h
      go_enter Tryz.func106, Tryz.ntmps106
      go_wp2_with (go_at_call 57; refine (H1.out).mono ?_; rintro e w' ⟨rfl, rfl⟩)
      go_ret
      exact ⟨rfl, rfl⟩
    · by_cases h' : n = 46
      · subst h'
        go_enter Tryz.func106, Tryz.ntmps106
        go_wp2_with (go_at_call 57; refine (H1.out).mono ?_; rintro e w' ⟨rfl, rfl⟩)
        go_ret
        exact ⟨rfl, rfl⟩
      · have hn : (n == 45) = false := by simp [h]
        have hn' : (n == 46) = false := by simp [h']
        rw [show decide (n = 45) = false from decide_eq_false h, show decide (n = 46) = false from decide_eq_false h']
        go_enter Tryz.func106, Tryz.ntmps106
        go_wp2_with (go_at_call 57; refine (H1.out).mono ?_; rintro e w' ⟨rfl, rfl⟩)
        go_ret
        exact ⟨by simp, rfl⟩
  · go_enter Tryz.func106, Tryz.ntmps106
    go_wp2_with (go_at_call 57; refine (H1.out).mono ?_; rintro e w' ⟨rfl, rfl⟩)
    go_ret
    exact ⟨rfl, rfl⟩

set_option maxHeartbeats 400000 in
theorem fits_any (s : ByteArray) (w : World) :
    Calls Tryz.prog 54 #[.string s] w fun e w' => e = .returned (.bool (Word.fits s.data.toList)) ∧ w' = w := by
  have hz := size_list s
  by_cases h1 : 1 ≤ s.size
  · by_cases h2 : s.size ≤ 12
    · have hv : Word.fits s.data.toList = true := by simp only [Word.fits, ← hz]; simp; omega
      rw [hv]
      clear hv hz
      go_enter Tryz.func54, Tryz.ntmps54
      go_wp2
      go_ret
      exact ⟨ret_bool (by simp; omega), rfl⟩
    · have hv : Word.fits s.data.toList = false := by simp only [Word.fits, ← hz]; simp; omega
      rw [hv]
      clear hv hz
      go_enter Tryz.func54, Tryz.ntmps54
      go_wp2
      go_ret
      exact ⟨ret_bool (by simp; omega), rfl⟩
  · have hv : Word.fits s.data.toList = false := by simp only [Word.fits, ← hz]; simp; omega
    rw [hv]
    clear hv hz
    go_enter Tryz.func54, Tryz.ntmps54
    go_wp2
    go_ret
    exact ⟨rfl, rfl⟩

theorem all_snoc (p : UInt8 → Bool) (l : List UInt8) (c : UInt8) : (l ++ [c]).all p = (l.all p && p c) := by simp
theorem all_take {p : UInt8 → Bool} {l : List UInt8} {k : Nat} (h : (l.take k).all p = false) : l.all p = false := by
  cases hd : l.all p with
  | false => rfl
  | true =>
    have : (l.take k).all p = true := by
      rw [List.all_eq_true] at hd ⊢
      exact fun x hx => hd x (List.mem_of_mem_take hx)
    rw [this] at h
    cases h

set_option maxHeartbeats 400000 in
theorem every_any (s : ByteArray) (g : Nat) (p : UInt8 → Bool) (w : World) (hs : s.size ≤ 9223372036854775807) (eg : ∀ args w, (callFunc g args).run Tryz.prog w = .ok (.enter g args) w)
    (hp : ∀ c w, Calls Tryz.prog g #[.int .u8 ((c : UInt8).toNat : Int)] w fun e w' => e = .returned (.bool (p c)) ∧ w' = w) :
    Calls Tryz.prog 56 #[.string s, .func (.func g) #[] #[]] w fun e w' => e = .returned (.bool (s.data.toList.all p)) ∧ w' = w := by
  have HP := Lib.hid hp
  clear hp
  obtain ⟨A, HA⟩ : ∃ A, Hid (s.data.toList.all p = A) := ⟨_, rfl⟩
  rw [HA.out]
  go_enter Tryz.func56, Tryz.ntmps56
  go_wp2
  go_loop [8] (fun i => ∃ k : Nat, k ≤ s.size ∧ i = .int .i64 k ∧ Hid ((s.data.toList.take k).all p = true)) (fun i => s.size - (intOf i).toNat)
  case atStart => exact ⟨0, Nat.zero_le _, rfl, rfl⟩
  case round =>
    obtain ⟨k, hk, rfl, HD⟩ := hrel
    by_cases hlt : k < s.size
    · have hts := take_snoc s k hlt
      have HS : Hid ((s.data.toList.take (k + 1)).all p = ((s.data.toList.take k).all p && p s[k])) := by rw [hts]; exact all_snoc _ _ _
      clear hts
      have hc := HP.out s[k] w
      cases hb : p s[k] <;> rw [hb] at hc
      · have HN : Hid (A = false) := by
          show A = false
          rw [← HA.out]
          have h1 := HS.out
          rw [HD.out, hb] at h1
          exact all_take h1
        have HC := Lib.hid hc
        clear hc hb
        go_wp2_with (go_at_fn g; refine (HC.out).mono ?_; rintro e w' ⟨rfl, rfl⟩)
        go_ret
        exact ⟨ret_bool (HN.out).symm, rfl⟩
      · have HN : Hid ((s.data.toList.take (k + 1)).all p = true) := by
          have h1 := HS.out
          rw [HD.out, hb] at h1
          exact h1
        have HC := Lib.hid hc
        clear hc hb
        go_wp2_with (go_at_fn g; refine (HC.out).mono ?_; rintro e w' ⟨rfl, rfl⟩)
        exact ⟨⟨k + 1, by omega, by go_num, HN⟩, by simp [intOf]; omega⟩
    · have HT : Hid (A = true) := by
        show A = true
        rw [← HA.out]
        have h1 := HD.out
        rw [List.take_of_length_le (by rw [← size_list]; omega)] at h1
        exact h1
      go_wp2
      go_ret
      exact ⟨ret_bool (HT.out).symm, rfl⟩

theorem enters23 : ∀ args w, (callFunc 57 args).run Tryz.prog w = .ok (.enter 57 args) w := enters_of Tryz.func57 (by kernel_rfl) rfl
theorem enters26 : ∀ args w, (callFunc 106 args).run Tryz.prog w = .ok (.enter 106 args) w := enters_of Tryz.func106 (by kernel_rfl) rfl

theorem head_list (s : ByteArray) (h : 0 < s.size) : ∃ r, s.data.toList = s[0] :: r := by
  have hl : 0 < s.data.toList.length := by rw [← size_list]; exact h
  refine ⟨s.data.toList.tail, ?_⟩
  cases hd : s.data.toList with
  | nil => rw [hd] at hl; cases hl
  | cons c r =>
    have e : s[0] = s.data.toList[0] := rfl
    have e2 : s.data.toList[0]? = some c := by rw [hd]; rfl
    rw [List.getElem?_eq_getElem hl] at e2
    rw [e, Option.some.inj e2]
    rfl

set_option maxHeartbeats 400000 in
theorem value_any (s : ByteArray) (w : World) (hs : s.size ≤ 9223372036854775807) :
    Calls Tryz.prog 98 #[.string s] w fun e w' => e = .returned (.bool (Word.value s.data.toList)) ∧ w' = w := by
  have H1 := fits_any s w
  have H2 := every_any s 106 Word.inValue w hs enters26 inValue_any
  have hv : Word.value s.data.toList = (Word.fits s.data.toList && s.data.toList.all Word.inValue) := rfl
  rw [hv]
  clear hv
  generalize Word.fits s.data.toList = a at H1 ⊢
  generalize s.data.toList.all Word.inValue = b at H2 ⊢
  have H1 := Lib.hid H1
  have H2 := Lib.hid H2
  cases a
  · go_enter Tryz.func98, Tryz.ntmps98
    go_wp2_with (first
      | (go_at_call 54; refine (H1.out).mono ?_; rintro e w' ⟨rfl, rfl⟩)
      | (go_at_call 56; refine (H2.out).mono ?_; rintro e w' ⟨rfl, rfl⟩))
    go_ret
    exact ⟨rfl, rfl⟩
  · go_enter Tryz.func98, Tryz.ntmps98
    go_wp2_with (first
      | (go_at_call 54; refine (H1.out).mono ?_; rintro e w' ⟨rfl, rfl⟩)
      | (go_at_call 56; refine (H2.out).mono ?_; rintro e w' ⟨rfl, rfl⟩))
    go_ret
    exact ⟨rfl, rfl⟩

set_option maxHeartbeats 400000 in
theorem name_any (s : ByteArray) (w : World) (hs : s.size ≤ 9223372036854775807) :
    Calls Tryz.prog 25 #[.string s] w fun e w' => e = .returned (.bool (Word.name s.data.toList)) ∧ w' = w := by
  have H1 := fits_any s w
  have H2 := every_any s 57 Word.inName w hs enters23 inName_any
  rcases Nat.eq_zero_or_pos s.size with h0 | hpos
  · have hf : Word.fits s.data.toList = false := by simp only [Word.fits, ← size_list]; simp; omega
    have hv : Word.name s.data.toList = false := by unfold Word.name; rw [hf]; rfl
    rw [hf] at H1
    rw [hv]
    clear hf hv H2
    have H1 := Lib.hid H1
    go_enter Tryz.func25, Tryz.ntmps25
    go_wp2_with (go_at_call 54; refine (H1.out).mono ?_; rintro e w' ⟨rfl, rfl⟩)
    go_ret
    exact ⟨rfl, rfl⟩
  · have H3 := small_any s[0] w
    have hv : Word.name s.data.toList = (Word.fits s.data.toList && Word.small s[0] && s.data.toList.all Word.inName) := by
      obtain ⟨r, hr⟩ := head_list s hpos
      rw [hr]
      rfl
    rw [hv]
    clear hv
    generalize Word.fits s.data.toList = a at H1 ⊢
    generalize s.data.toList.all Word.inName = b at H2 ⊢
    generalize Word.small s[0] = c at H3 ⊢
    have H1 := Lib.hid H1
    have H2 := Lib.hid H2
    have H3 := Lib.hid H3
    cases a
    · go_enter Tryz.func25, Tryz.ntmps25
      go_wp2_with (go_at_call 54; refine (H1.out).mono ?_; rintro e w' ⟨rfl, rfl⟩)
      go_ret
      exact ⟨rfl, rfl⟩
    · cases c
      · go_enter Tryz.func25, Tryz.ntmps25
        go_wp2_with (first
          | (go_at_call 54; refine (H1.out).mono ?_; rintro e w' ⟨rfl, rfl⟩)
          | (go_at_call 55; refine (H3.out).mono ?_; rintro e w' ⟨rfl, rfl⟩))
        go_ret
        exact ⟨rfl, rfl⟩
      · go_enter Tryz.func25, Tryz.ntmps25
        go_wp2_with (first
          | (go_at_call 54; refine (H1.out).mono ?_; rintro e w' ⟨rfl, rfl⟩)
          | (go_at_call 55; refine (H3.out).mono ?_; rintro e w' ⟨rfl, rfl⟩)
          | (go_at_call 56; refine (H2.out).mono ?_; rintro e w' ⟨rfl, rfl⟩))
        go_ret
        exact ⟨rfl, rfl⟩

set_option maxHeartbeats 400000 in
theorem empty_any (s : ByteArray) (w : World) :
    Calls Tryz.prog 68 #[.string s] w fun e w' => e = .returned (.bool s.data.toList.isEmpty) ∧ w' = w := by
  have HA : ∀ b, s.data.toList.isEmpty = b → Hid (s.data.toList.isEmpty = b) := fun b h => h
  cases hb : s.data.toList.isEmpty
  · have h := Lib.hid hb
    clear hb HA
    go_enter Tryz.func68, Tryz.ntmps68
    go_wp2
    go_ret
    exact ⟨ret_bool (by rw [ByteArray.toList_eq]; exact h.out), rfl⟩
  · have h := Lib.hid hb
    clear hb HA
    go_enter Tryz.func68, Tryz.ntmps68
    go_wp2
    go_ret
    exact ⟨ret_bool (by rw [ByteArray.toList_eq]; exact h.out), rfl⟩
end Go.Proofs.YtfohknpjlkjbbaaGreatDoor
