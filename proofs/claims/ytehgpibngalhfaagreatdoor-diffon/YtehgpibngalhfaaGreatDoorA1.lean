/- Carried over from earlier layers: walks and lemmas. -/
import Derived.Test.YtehgpibngalhfaaGreatDoorM3
import Derived.Test.YtehgpibngalhfaaGreatDoorM4
import Derived.Test.YtehgpibngalhfaaGreatDoorM5
import Derived.Test.YtehgpibngalhfaaGreatDoorChecked
import Derived.WalkKit
import Derived.WalkSpells
import Derived.WalkLawsBesides
import Derived.Outline
import Derived.Lib.Hide
import Derived.Shelf.Abstract
import Derived.BigQuiet
import Derived.Deep.RegionHeld3
namespace Go.Proofs.YtehgpibngalhfaaGreatDoor
open Go Go.RowKit
theorem ret_bool {a b : Bool} (h : a = b) : Ending.returned (.bool a) = .returned (.bool b) := by rw [h]
theorem ret_str {a b : ByteArray} (h : a = b) : Ending.returned (.string a) = .returned (.string b) := by rw [h]
theorem take_snoc (s : ByteArray) (k : Nat) (h : k < s.size) : s.data.toList.take (k + 1) = s.data.toList.take k ++ [s[k]] := by
  rw [List.take_succ_eq_append_getElem (by simpa using h)]; rfl
theorem size_list (s : ByteArray) : s.size = s.data.toList.length := by rw [Array.length_toList]; rfl
set_option maxRecDepth 100000 in
set_option maxHeartbeats 400000 in
theorem small_any (c : UInt8) (w : World) :
    Calls Tryz.prog 134 #[.int .u8 (c.toNat : Int)] w fun e w' => e = .returned (.bool (Word.small c)) ∧ w' = w := by
  obtain ⟨n, hn⟩ : ∃ n : Int, n = (c.toNat : Int) := ⟨_, rfl⟩
  rw [← hn]
  by_cases h1 : 97 ≤ n
  · by_cases h2 : n ≤ 122
    · have hv : Word.small c = true := by simp [Word.small]; omega
      rw [hv]
      clear hv hn
      go_enter Tryz.func134, Tryz.ntmps134
      go_wp2
      go_ret
      exact ⟨rfl, rfl⟩
    · have hv : Word.small c = false := by simp [Word.small]; omega
      rw [hv]
      clear hv hn
      go_enter Tryz.func134, Tryz.ntmps134
      go_wp2
      go_ret
      exact ⟨rfl, rfl⟩
  · have hv : Word.small c = false := by simp [Word.small]; omega
    rw [hv]
    clear hv hn
    go_enter Tryz.func134, Tryz.ntmps134
    go_wp2
    go_ret
    exact ⟨rfl, rfl⟩
set_option maxRecDepth 100000 in
set_option maxHeartbeats 400000 in
theorem digit_any (c : UInt8) (w : World) :
    Calls Tryz.prog 155 #[.int .u8 (c.toNat : Int)] w fun e w' => e = .returned (.bool (Word.digit c)) ∧ w' = w := by
  obtain ⟨n, hn⟩ : ∃ n : Int, n = (c.toNat : Int) := ⟨_, rfl⟩
  rw [← hn]
  by_cases h1 : 48 ≤ n
  · by_cases h2 : n ≤ 57
    · have hv : Word.digit c = true := by simp [Word.digit]; omega
      rw [hv]
      clear hv hn
      go_enter Tryz.func155, Tryz.ntmps155
      go_wp2
      go_ret
      exact ⟨rfl, rfl⟩
    · have hv : Word.digit c = false := by simp [Word.digit]; omega
      rw [hv]
      clear hv hn
      go_enter Tryz.func155, Tryz.ntmps155
      go_wp2
      go_ret
      exact ⟨rfl, rfl⟩
  · have hv : Word.digit c = false := by simp [Word.digit]; omega
    rw [hv]
    clear hv hn
    go_enter Tryz.func155, Tryz.ntmps155
    go_wp2
    go_ret
    exact ⟨rfl, rfl⟩
set_option maxRecDepth 100000 in
set_option maxHeartbeats 400000 in
theorem inName_any (c : UInt8) (w : World) :
    Calls Tryz.prog 136 #[.int .u8 (c.toNat : Int)] w fun e w' => e = .returned (.bool (Word.inName c)) ∧ w' = w := by
  have H1 := small_any c w
  have H2 := digit_any c w
  obtain ⟨n, hn⟩ : ∃ n : Int, n = (c.toNat : Int) := ⟨_, rfl⟩
  rw [← hn] at H1 H2 ⊢
  have hv : Word.inName c = (Word.small c || Word.digit c || decide (n = 95)) := by
    unfold Word.inName
    congr 1
    simp
    omega
  rw [hv]
  clear hv hn
  generalize Word.small c = a at H1 ⊢
  generalize Word.digit c = b at H2 ⊢
  have H1 := Lib.hid H1
  have H2 := Lib.hid H2
  cases a
  · cases b
    · by_cases h : n = 95
      · subst h
        go_enter Tryz.func136, Tryz.ntmps136
        go_wp2_with (first
          | (go_at_call 134; refine (H1.out).mono ?_; rintro e w' ⟨rfl, rfl⟩)
          | (go_at_call 155; refine (H2.out).mono ?_; rintro e w' ⟨rfl, rfl⟩))
        go_ret
        exact ⟨rfl, rfl⟩
      · have hn : (n == 95) = false := by simp [h]
        rw [show decide (n = 95) = false from decide_eq_false h]
        go_enter Tryz.func136, Tryz.ntmps136
        go_wp2_with (first
          | (go_at_call 134; refine (H1.out).mono ?_; rintro e w' ⟨rfl, rfl⟩)
          | (go_at_call 155; refine (H2.out).mono ?_; rintro e w' ⟨rfl, rfl⟩))
        go_ret
        exact ⟨by simp, rfl⟩
    · go_enter Tryz.func136, Tryz.ntmps136
      go_wp2_with (first
        | (go_at_call 134; refine (H1.out).mono ?_; rintro e w' ⟨rfl, rfl⟩)
        | (go_at_call 155; refine (H2.out).mono ?_; rintro e w' ⟨rfl, rfl⟩))
      go_ret
      exact ⟨rfl, rfl⟩
  · go_enter Tryz.func136, Tryz.ntmps136
    go_wp2_with (first
      | (go_at_call 134; refine (H1.out).mono ?_; rintro e w' ⟨rfl, rfl⟩)
      | (go_at_call 155; refine (H2.out).mono ?_; rintro e w' ⟨rfl, rfl⟩))
    go_ret
    exact ⟨rfl, rfl⟩
set_option maxRecDepth 100000 in
set_option maxHeartbeats 400000 in
theorem inValue_any (c : UInt8) (w : World) :
    Calls Tryz.prog 137 #[.int .u8 (c.toNat : Int)] w fun e w' => e = .returned (.bool (Word.inValue c)) ∧ w' = w := by
  have H1 := inName_any c w
  obtain ⟨n, hn⟩ : ∃ n : Int, n = (c.toNat : Int) := ⟨_, rfl⟩
  rw [← hn] at H1 ⊢
  have hv : Word.inValue c = (Word.inName c || decide (n = 45) || decide (n = 46)) := by
    unfold Word.inValue
    congr 1
    · congr 1
      simp
      omega
    · simp
      omega
  rw [hv]
  clear hv hn
  generalize Word.inName c = a at H1 ⊢
  have H1 := Lib.hid H1
  cases a
  · by_cases h : n = 45
    · subst h
      go_enter Tryz.func137, Tryz.ntmps137
      go_wp2_with (go_at_call 136; refine (H1.out).mono ?_; rintro e w' ⟨rfl, rfl⟩)
      go_ret
      exact ⟨rfl, rfl⟩
    · by_cases h' : n = 46
      · subst h'
        go_enter Tryz.func137, Tryz.ntmps137
        go_wp2_with (go_at_call 136; refine (H1.out).mono ?_; rintro e w' ⟨rfl, rfl⟩)
        go_ret
        exact ⟨rfl, rfl⟩
      · have hn : (n == 45) = false := by simp [h]
        have hn' : (n == 46) = false := by simp [h']
        rw [show decide (n = 45) = false from decide_eq_false h, show decide (n = 46) = false from decide_eq_false h']
        go_enter Tryz.func137, Tryz.ntmps137
        go_wp2_with (go_at_call 136; refine (H1.out).mono ?_; rintro e w' ⟨rfl, rfl⟩)
        go_ret
        exact ⟨by simp, rfl⟩
  · go_enter Tryz.func137, Tryz.ntmps137
    go_wp2_with (go_at_call 136; refine (H1.out).mono ?_; rintro e w' ⟨rfl, rfl⟩)
    go_ret
    exact ⟨rfl, rfl⟩
set_option maxRecDepth 100000 in
set_option maxHeartbeats 400000 in
theorem fits_any (s : ByteArray) (w : World) :
    Calls Tryz.prog 133 #[.string s] w fun e w' => e = .returned (.bool (Word.fits s.data.toList)) ∧ w' = w := by
  have hz := size_list s
  by_cases h1 : 1 ≤ s.size
  · by_cases h2 : s.size ≤ 12
    · have hv : Word.fits s.data.toList = true := by simp only [Word.fits, ← hz]; simp; omega
      rw [hv]
      clear hv hz
      go_enter Tryz.func133, Tryz.ntmps133
      go_wp2
      go_ret
      exact ⟨ret_bool (by simp; omega), rfl⟩
    · have hv : Word.fits s.data.toList = false := by simp only [Word.fits, ← hz]; simp; omega
      rw [hv]
      clear hv hz
      go_enter Tryz.func133, Tryz.ntmps133
      go_wp2
      go_ret
      exact ⟨ret_bool (by simp; omega), rfl⟩
  · have hv : Word.fits s.data.toList = false := by simp only [Word.fits, ← hz]; simp; omega
    rw [hv]
    clear hv hz
    go_enter Tryz.func133, Tryz.ntmps133
    go_wp2
    go_ret
    exact ⟨rfl, rfl⟩
theorem all_snoc (p : UInt8 → Bool) (l : List UInt8) (c : UInt8) : (l ++ [c]).all p = (l.all p && p c) := by simp
theorem all_take {p : UInt8 → Bool} {l : List UInt8} {k : Nat} (h : (l.take k).all p = false) : l.all p = false := by
  cases hd : l.all p with
  | false => rfl
  | true =>
    have : (l.take k).all p = true := by
      rw [List.all_eq_true] at hd ⊢
      exact fun x hx => hd x (List.mem_of_mem_take hx)
    rw [this] at h
    cases h
set_option maxRecDepth 100000 in
set_option maxHeartbeats 400000 in
theorem every_any (s : ByteArray) (g : Nat) (p : UInt8 → Bool) (w : World) (hs : s.size ≤ 9223372036854775807) (eg : ∀ args w, (callFunc g args).run Tryz.prog w = .ok (.enter g args) w)
    (hp : ∀ c w, Calls Tryz.prog g #[.int .u8 ((c : UInt8).toNat : Int)] w fun e w' => e = .returned (.bool (p c)) ∧ w' = w) :
    Calls Tryz.prog 135 #[.string s, .func (.func g) #[] #[]] w fun e w' => e = .returned (.bool (s.data.toList.all p)) ∧ w' = w := by
  have HP := Lib.hid hp
  clear hp
  obtain ⟨A, HA⟩ : ∃ A, Hid (s.data.toList.all p = A) := ⟨_, rfl⟩
  rw [HA.out]
  go_enter Tryz.func135, Tryz.ntmps135
  go_wp2
  go_loop [8] (fun i => ∃ k : Nat, k ≤ s.size ∧ i = .int .i64 k ∧ Hid ((s.data.toList.take k).all p = true)) (fun i => s.size - (intOf i).toNat)
  case atStart => exact ⟨0, Nat.zero_le _, rfl, rfl⟩
  case round =>
    obtain ⟨k, hk, rfl, HD⟩ := hrel
    by_cases hlt : k < s.size
    · have hts := take_snoc s k hlt
      have HS : Hid ((s.data.toList.take (k + 1)).all p = ((s.data.toList.take k).all p && p s[k])) := by rw [hts]; exact all_snoc _ _ _
      clear hts
      have hc := HP.out s[k] w
      cases hb : p s[k] <;> rw [hb] at hc
      · have HN : Hid (A = false) := by
          show A = false
          rw [← HA.out]
          have h1 := HS.out
          rw [HD.out, hb] at h1
          exact all_take h1
        have HC := Lib.hid hc
        clear hc hb
        go_wp2_with (go_at_fn g; refine (HC.out).mono ?_; rintro e w' ⟨rfl, rfl⟩)
        go_ret
        exact ⟨ret_bool (HN.out).symm, rfl⟩
      · have HN : Hid ((s.data.toList.take (k + 1)).all p = true) := by
          have h1 := HS.out
          rw [HD.out, hb] at h1
          exact h1
        have HC := Lib.hid hc
        clear hc hb
        go_wp2_with (go_at_fn g; refine (HC.out).mono ?_; rintro e w' ⟨rfl, rfl⟩)
        exact ⟨⟨k + 1, by omega, by go_num, HN⟩, by simp [intOf]; omega⟩
    · have HT : Hid (A = true) := by
        show A = true
        rw [← HA.out]
        have h1 := HD.out
        rw [List.take_of_length_le (by rw [← size_list]; omega)] at h1
        exact h1
      go_wp2
      go_ret
      exact ⟨ret_bool (HT.out).symm, rfl⟩
set_option maxRecDepth 100000 in
theorem enters23 : ∀ args w, (callFunc 136 args).run Tryz.prog w = .ok (.enter 136 args) w := enters_of Tryz.func136 (by kernel_rfl) rfl
set_option maxRecDepth 100000 in
theorem enters26 : ∀ args w, (callFunc 137 args).run Tryz.prog w = .ok (.enter 137 args) w := enters_of Tryz.func137 (by kernel_rfl) rfl
theorem head_list (s : ByteArray) (h : 0 < s.size) : ∃ r, s.data.toList = s[0] :: r := by
  have hl : 0 < s.data.toList.length := by rw [← size_list]; exact h
  refine ⟨s.data.toList.tail, ?_⟩
  cases hd : s.data.toList with
  | nil => rw [hd] at hl; cases hl
  | cons c r =>
    have e : s[0] = s.data.toList[0] := rfl
    have e2 : s.data.toList[0]? = some c := by rw [hd]; rfl
    rw [List.getElem?_eq_getElem hl] at e2
    rw [e, Option.some.inj e2]
    rfl
set_option maxRecDepth 100000 in
set_option maxHeartbeats 400000 in
theorem value_any (s : ByteArray) (w : World) (hs : s.size ≤ 9223372036854775807) :
    Calls Tryz.prog 117 #[.string s] w fun e w' => e = .returned (.bool (Word.value s.data.toList)) ∧ w' = w := by
  have H1 := fits_any s w
  have H2 := every_any s 137 Word.inValue w hs enters26 inValue_any
  have hv : Word.value s.data.toList = (Word.fits s.data.toList && s.data.toList.all Word.inValue) := rfl
  rw [hv]
  clear hv
  generalize Word.fits s.data.toList = a at H1 ⊢
  generalize s.data.toList.all Word.inValue = b at H2 ⊢
  have H1 := Lib.hid H1
  have H2 := Lib.hid H2
  cases a
  · go_enter Tryz.func117, Tryz.ntmps117
    go_wp2_with (first
      | (go_at_call 133; refine (H1.out).mono ?_; rintro e w' ⟨rfl, rfl⟩)
      | (go_at_call 135; refine (H2.out).mono ?_; rintro e w' ⟨rfl, rfl⟩))
    go_ret
    exact ⟨rfl, rfl⟩
  · go_enter Tryz.func117, Tryz.ntmps117
    go_wp2_with (first
      | (go_at_call 133; refine (H1.out).mono ?_; rintro e w' ⟨rfl, rfl⟩)
      | (go_at_call 135; refine (H2.out).mono ?_; rintro e w' ⟨rfl, rfl⟩))
    go_ret
    exact ⟨rfl, rfl⟩
set_option maxRecDepth 100000 in
set_option maxHeartbeats 400000 in
theorem name_any (s : ByteArray) (w : World) (hs : s.size ≤ 9223372036854775807) :
    Calls Tryz.prog 116 #[.string s] w fun e w' => e = .returned (.bool (Word.name s.data.toList)) ∧ w' = w := by
  have H1 := fits_any s w
  have H2 := every_any s 136 Word.inName w hs enters23 inName_any
  rcases Nat.eq_zero_or_pos s.size with h0 | hpos
  · have hf : Word.fits s.data.toList = false := by simp only [Word.fits, ← size_list]; simp; omega
    have hv : Word.name s.data.toList = false := by unfold Word.name; rw [hf]; rfl
    rw [hf] at H1
    rw [hv]
    clear hf hv H2
    have H1 := Lib.hid H1
    go_enter Tryz.func116, Tryz.ntmps116
    go_wp2_with (go_at_call 133; refine (H1.out).mono ?_; rintro e w' ⟨rfl, rfl⟩)
    go_ret
    exact ⟨rfl, rfl⟩
  · have H3 := small_any s[0] w
    have hv : Word.name s.data.toList = (Word.fits s.data.toList && Word.small s[0] && s.data.toList.all Word.inName) := by
      obtain ⟨r, hr⟩ := head_list s hpos
      rw [hr]
      rfl
    rw [hv]
    clear hv
    generalize Word.fits s.data.toList = a at H1 ⊢
    generalize s.data.toList.all Word.inName = b at H2 ⊢
    generalize Word.small s[0] = c at H3 ⊢
    have H1 := Lib.hid H1
    have H2 := Lib.hid H2
    have H3 := Lib.hid H3
    cases a
    · go_enter Tryz.func116, Tryz.ntmps116
      go_wp2_with (go_at_call 133; refine (H1.out).mono ?_; rintro e w' ⟨rfl, rfl⟩)
      go_ret
      exact ⟨rfl, rfl⟩
    · cases c
      · go_enter Tryz.func116, Tryz.ntmps116
        go_wp2_with (first
          | (go_at_call 133; refine (H1.out).mono ?_; rintro e w' ⟨rfl, rfl⟩)
          | (go_at_call 134; refine (H3.out).mono ?_; rintro e w' ⟨rfl, rfl⟩))
        go_ret
        exact ⟨rfl, rfl⟩
      · go_enter Tryz.func116, Tryz.ntmps116
        go_wp2_with (first
          | (go_at_call 133; refine (H1.out).mono ?_; rintro e w' ⟨rfl, rfl⟩)
          | (go_at_call 134; refine (H3.out).mono ?_; rintro e w' ⟨rfl, rfl⟩)
          | (go_at_call 135; refine (H2.out).mono ?_; rintro e w' ⟨rfl, rfl⟩))
        go_ret
        exact ⟨rfl, rfl⟩
end Go.Proofs.YtehgpibngalhfaaGreatDoor
namespace Go.Proofs.YtehgpibngalhfaaGreatDoor
open Go Go.RowKit
set_option maxRecDepth 100000 in
set_option maxHeartbeats 400000 in
theorem refSmall_any (c : UInt8) (w : World) :
    Calls Tryz.prog 131 #[.int .u8 (c.toNat : Int)] w fun e w' => e = .returned (.bool (Word.small c)) ∧ w' = w := by
  obtain ⟨n, hn⟩ : ∃ n : Int, n = (c.toNat : Int) := ⟨_, rfl⟩
  rw [← hn]
  by_cases h1 : 97 ≤ n
  · by_cases h2 : n ≤ 122
    · have hv : Word.small c = true := by simp [Word.small]; omega
      rw [hv]
      clear hv hn
      go_enter Tryz.func131, Tryz.ntmps131
      go_wp2
      go_ret
      exact ⟨rfl, rfl⟩
    · have hv : Word.small c = false := by simp [Word.small]; omega
      rw [hv]
      clear hv hn
      go_enter Tryz.func131, Tryz.ntmps131
      go_wp2
      go_ret
      exact ⟨rfl, rfl⟩
  · have hv : Word.small c = false := by simp [Word.small]; omega
    rw [hv]
    clear hv hn
    go_enter Tryz.func131, Tryz.ntmps131
    go_wp2
    go_ret
    exact ⟨rfl, rfl⟩
set_option maxRecDepth 100000 in
set_option maxHeartbeats 400000 in
theorem refDigit_any (c : UInt8) (w : World) :
    Calls Tryz.prog 132 #[.int .u8 (c.toNat : Int)] w fun e w' => e = .returned (.bool (Word.digit c)) ∧ w' = w := by
  obtain ⟨n, hn⟩ : ∃ n : Int, n = (c.toNat : Int) := ⟨_, rfl⟩
  rw [← hn]
  by_cases h1 : 48 ≤ n
  · by_cases h2 : n ≤ 57
    · have hv : Word.digit c = true := by simp [Word.digit]; omega
      rw [hv]
      clear hv hn
      go_enter Tryz.func132, Tryz.ntmps132
      go_wp2
      go_ret
      exact ⟨rfl, rfl⟩
    · have hv : Word.digit c = false := by simp [Word.digit]; omega
      rw [hv]
      clear hv hn
      go_enter Tryz.func132, Tryz.ntmps132
      go_wp2
      go_ret
      exact ⟨rfl, rfl⟩
  · have hv : Word.digit c = false := by simp [Word.digit]; omega
    rw [hv]
    clear hv hn
    go_enter Tryz.func132, Tryz.ntmps132
    go_wp2
    go_ret
    exact ⟨rfl, rfl⟩
theorem inName_eq (c : UInt8) (n : Int) (hn : n = (c.toNat : Int)) : Word.inName c = (Word.small c || Word.digit c || n == 95) := by
  unfold Word.inName
  congr 1
  rw [hn]
  by_cases h : c.toNat = 95
  · rw [h]; rfl
  · rw [decide_eq_false h]; symm; simp; omega
theorem inValue_eq (c : UInt8) (n : Int) (hn : n = (c.toNat : Int)) : Word.inValue c = (Word.small c || Word.digit c || n == 95 || n == 45 || n == 46) := by
  unfold Word.inValue
  rw [inName_eq c n hn, hn]
  by_cases h : c.toNat = 45
  · rw [h]; rfl
  · rw [decide_eq_false h, show (((c.toNat : Int) == 45) = false) from by simp; omega]
    congr 1
    by_cases h' : c.toNat = 46
    · rw [h']; rfl
    · rw [decide_eq_false h']; symm; simp; omega
set_option maxRecDepth 100000 in
set_option maxHeartbeats 800000 in
theorem refValue_any (s : ByteArray) (w : World) (hs : s.size ≤ 9223372036854775807) :
    Calls Tryz.prog 115 #[.string s] w fun e w' => e = .returned (.bool (Word.value s.data.toList)) ∧ w' = w := by
  have hz := size_list s
  by_cases h1 : s.size < 1
  · have hv : Word.value s.data.toList = false := by simp only [Word.value, Word.fits, ← hz]; simp; omega
    rw [hv]
    clear hv hz
    go_enter Tryz.func115, Tryz.ntmps115
    go_wp2
    go_ret
    exact ⟨rfl, rfl⟩
  · by_cases h2 : 12 < s.size
    · have hv : Word.value s.data.toList = false := by simp only [Word.value, Word.fits, ← hz]; simp; omega
      rw [hv]
      clear hv hz
      go_enter Tryz.func115, Tryz.ntmps115
      go_wp2
      go_ret
      exact ⟨rfl, rfl⟩
    · have hf : Word.fits s.data.toList = true := by simp only [Word.fits, ← hz]; simp; omega
      have hv : Word.value s.data.toList = s.data.toList.all Word.inValue := by unfold Word.value; rw [hf]; rfl
      rw [hv]
      clear hv
      obtain ⟨A, HA⟩ : ∃ A, Hid (s.data.toList.all Word.inValue = A) := ⟨_, rfl⟩
      rw [HA.out]
      clear hf hz
      go_enter Tryz.func115, Tryz.ntmps115
      go_wp2
      go_loop [3] (fun i => ∃ k : Nat, k ≤ s.size ∧ i = .int .i64 k ∧ Hid ((s.data.toList.take k).all Word.inValue = true)) (fun i => s.size - (intOf i).toNat)
      case atStart => exact ⟨0, Nat.zero_le _, rfl, rfl⟩
      case round =>
        obtain ⟨k, hk, rfl, HD⟩ := hrel
        by_cases hlt : k < s.size
        · have hts := take_snoc s k hlt
          have HS : Hid ((s.data.toList.take (k + 1)).all Word.inValue = ((s.data.toList.take k).all Word.inValue && Word.inValue s[k])) := by rw [hts]; exact all_snoc _ _ _
          clear hts
          have HF : Hid (Word.inValue s[k] = false → A = false) := by
            intro h
            have h1 := HS.out
            rw [HD.out, h] at h1
            show A = false
            rw [← HA.out]
            exact all_take h1
          have HT : Hid (Word.inValue s[k] = true → (s.data.toList.take (k + 1)).all Word.inValue = true) := by
            intro h
            rw [HS.out, HD.out, h]; rfl
          have HE := Lib.hid (inValue_eq s[k] _ rfl)
          clear HS HD
          have c1 := refSmall_any s[k] w
          have c2 := refDigit_any s[k] w
          have hE : Hid (Word.inValue s[k] = (Word.small s[k] || Word.digit s[k] || ((s[k]).toNat : Int) == 95 || ((s[k]).toNat : Int) == 45 || ((s[k]).toNat : Int) == 46)) := HE.out
          cases ha : Word.small s[k] <;> rw [ha] at c1
          · cases hb : Word.digit s[k] <;> rw [hb] at c2
            · have C1 := Lib.hid c1
              have C2 := Lib.hid c2
              have HB := Lib.hid (And.intro ha hb)
              clear c1 c2 ha hb HE
              go_wp2_with (first
                | (go_at_call 131; refine (C1.out).mono ?_; rintro e w' ⟨rfl, rfl⟩)
                | (go_at_call 132; refine (C2.out).mono ?_; rintro e w' ⟨rfl, rfl⟩))
              all_goals first
                | (have HN : Word.inValue s[k] = true := by
                     rw [hE.out, HB.out.1, HB.out.2]
                     simp only [Bool.false_or, Bool.or_eq_true, beq_iff_eq]
                     try simp only [bne_iff_ne, bne_eq_false_iff_eq, ne_eq] at *
                     omega
                   exact ⟨⟨k + 1, by omega, by go_num, HT.out HN⟩, by simp [intOf]; omega⟩)
                | (have HN : Word.inValue s[k] = false := by
                     rw [hE.out, HB.out.1, HB.out.2]
                     simp only [Bool.false_or, Bool.or_eq_false_iff, beq_eq_false_iff_ne, ne_eq]
                     try simp only [bne_iff_ne, ne_eq] at *
                     omega
                   go_ret
                   exact ⟨ret_bool (HF.out HN).symm, rfl⟩)
            · have C1 := Lib.hid c1
              have C2 := Lib.hid c2
              have HN : Hid (Word.inValue s[k] = true) := by show _ = _; rw [hE.out, ha, hb]; simp
              clear c1 c2 ha hb HE hE
              go_wp2_with (first
                | (go_at_call 131; refine (C1.out).mono ?_; rintro e w' ⟨rfl, rfl⟩)
                | (go_at_call 132; refine (C2.out).mono ?_; rintro e w' ⟨rfl, rfl⟩))
              exact ⟨⟨k + 1, by omega, by go_num, HT.out HN.out⟩, by simp [intOf]; omega⟩
          · have C1 := Lib.hid c1
            have HN : Hid (Word.inValue s[k] = true) := by show _ = _; rw [hE.out, ha]; simp
            clear c1 c2 ha HE hE
            go_wp2_with (go_at_call 131; refine (C1.out).mono ?_; rintro e w' ⟨rfl, rfl⟩)
            exact ⟨⟨k + 1, by omega, by go_num, HT.out HN.out⟩, by simp [intOf]; omega⟩
        · have HT : Hid (A = true) := by
            have h1 := HD.out
            rw [List.take_of_length_le (by rw [← size_list]; omega)] at h1
            show A = true
            rw [← HA.out]
            exact h1
          go_wp2
          go_ret
          exact ⟨ret_bool (HT.out).symm, rfl⟩
set_option maxRecDepth 100000 in
set_option maxHeartbeats 800000 in
theorem refName_any (s : ByteArray) (w : World) (hs : s.size ≤ 9223372036854775807) :
    Calls Tryz.prog 114 #[.string s] w fun e w' => e = .returned (.bool (Word.name s.data.toList)) ∧ w' = w := by
  have hz := size_list s
  by_cases h1 : s.size < 1
  · have hv : Word.name s.data.toList = false := by simp only [Word.name, Word.fits, ← hz]; simp; omega
    rw [hv]
    clear hv hz
    go_enter Tryz.func114, Tryz.ntmps114
    go_wp2
    go_ret
    exact ⟨rfl, rfl⟩
  · by_cases h2 : 12 < s.size
    · have hv : Word.name s.data.toList = false := by simp only [Word.name, Word.fits, ← hz]; simp; omega
      rw [hv]
      clear hv hz
      go_enter Tryz.func114, Tryz.ntmps114
      go_wp2
      go_ret
      exact ⟨rfl, rfl⟩
    · have hf : Word.fits s.data.toList = true := by simp only [Word.fits, ← hz]; simp; omega
      have hpos : 0 < s.size := by omega
      have H3 := refSmall_any s[0] w
      have hv : Word.name s.data.toList = (Word.small s[0] && s.data.toList.all Word.inName) := by
        unfold Word.name
        rw [hf]
        obtain ⟨r, hr⟩ := head_list s hpos
        rw [hr]
        rfl
      rw [hv]
      clear hv
      generalize Word.small s[0] = c at H3 ⊢
      have HH := Lib.hid H3
      clear H3
      cases c
      · rw [Bool.false_and]
        clear hf hz
        go_enter Tryz.func114, Tryz.ntmps114
        go_wp2_with (go_at_call 131; refine (HH.out).mono ?_; rintro e w' ⟨rfl, hw⟩; have hw := hw.symm; subst hw)
        go_ret
        exact ⟨rfl, rfl⟩
      rw [Bool.true_and]
      obtain ⟨A, HA⟩ : ∃ A, Hid (s.data.toList.all Word.inName = A) := ⟨_, rfl⟩
      rw [HA.out]
      clear hf hz
      go_enter Tryz.func114, Tryz.ntmps114
      go_wp2_with (first
        | (go_at_call 131; refine (HH.out).mono ?_; rintro e w' ⟨rfl, hw⟩; have hw := hw.symm; subst hw))
      go_loop [3] (fun i => ∃ k : Nat, k ≤ s.size ∧ i = .int .i64 k ∧ Hid ((s.data.toList.take k).all Word.inName = true)) (fun i => s.size - (intOf i).toNat)
      case atStart => exact ⟨0, Nat.zero_le _, rfl, rfl⟩
      case round =>
        obtain ⟨k, hk, rfl, HD⟩ := hrel
        by_cases hlt : k < s.size
        · have hts := take_snoc s k hlt
          have HS : Hid ((s.data.toList.take (k + 1)).all Word.inName = ((s.data.toList.take k).all Word.inName && Word.inName s[k])) := by rw [hts]; exact all_snoc _ _ _
          clear hts
          have HF : Hid (Word.inName s[k] = false → A = false) := by
            intro h
            have h1 := HS.out
            rw [HD.out, h] at h1
            show A = false
            rw [← HA.out]
            exact all_take h1
          have HT : Hid (Word.inName s[k] = true → (s.data.toList.take (k + 1)).all Word.inName = true) := by
            intro h
            rw [HS.out, HD.out, h]; rfl
          have HE := Lib.hid (inName_eq s[k] _ rfl)
          clear HS HD
          have c1 := refSmall_any s[k] w
          have c2 := refDigit_any s[k] w
          have hE : Hid (Word.inName s[k] = (Word.small s[k] || Word.digit s[k] || ((s[k]).toNat : Int) == 95)) := HE.out
          cases ha : Word.small s[k] <;> rw [ha] at c1
          · cases hb : Word.digit s[k] <;> rw [hb] at c2
            · have C1 := Lib.hid c1
              have C2 := Lib.hid c2
              have HB := Lib.hid (And.intro ha hb)
              clear c1 c2 ha hb HE
              go_wp2_with (first
                | (go_at_call 131; refine (C1.out).mono ?_; rintro e w' ⟨rfl, rfl⟩)
                | (go_at_call 132; refine (C2.out).mono ?_; rintro e w' ⟨rfl, rfl⟩))
              all_goals first
                | (have HN : Word.inName s[k] = true := by
                     rw [hE.out, HB.out.1, HB.out.2]
                     simp only [Bool.false_or, beq_iff_eq]
                     try simp only [bne_iff_ne, bne_eq_false_iff_eq, ne_eq] at *
                     omega
                   exact ⟨⟨k + 1, by omega, by go_num, HT.out HN⟩, by simp [intOf]; omega⟩)
                | (have HN : Word.inName s[k] = false := by
                     rw [hE.out, HB.out.1, HB.out.2]
                     simp only [Bool.false_or, beq_eq_false_iff_ne, ne_eq]
                     try simp only [bne_iff_ne, ne_eq] at *
                     omega
                   go_ret
                   exact ⟨ret_bool (HF.out HN).symm, rfl⟩)
            · have C1 := Lib.hid c1
              have C2 := Lib.hid c2
              have HN : Hid (Word.inName s[k] = true) := by show _ = _; rw [hE.out, ha, hb]; simp
              clear c1 c2 ha hb HE hE
              go_wp2_with (first
                | (go_at_call 131; refine (C1.out).mono ?_; rintro e w' ⟨rfl, rfl⟩)
                | (go_at_call 132; refine (C2.out).mono ?_; rintro e w' ⟨rfl, rfl⟩))
              exact ⟨⟨k + 1, by omega, by go_num, HT.out HN.out⟩, by simp [intOf]; omega⟩
          · have C1 := Lib.hid c1
            have HN : Hid (Word.inName s[k] = true) := by show _ = _; rw [hE.out, ha]; simp
            clear c1 c2 ha HE hE
            go_wp2_with (go_at_call 131; refine (C1.out).mono ?_; rintro e w' ⟨rfl, rfl⟩)
            exact ⟨⟨k + 1, by omega, by go_num, HT.out HN.out⟩, by simp [intOf]; omega⟩
        · have HT : Hid (A = true) := by
            have h1 := HD.out
            rw [List.take_of_length_le (by rw [← size_list]; omega)] at h1
            show A = true
            rw [← HA.out]
            exact h1
          go_wp2
          go_ret
          exact ⟨ret_bool (HT.out).symm, rfl⟩
end Go.Proofs.YtehgpibngalhfaaGreatDoor
namespace Go.Proofs.YtehgpibngalhfaaGreatDoor
open Go Go.RowKit Tg
/-- The tags l lie in block b from offset o on. -/
def TLies (w : World) (b o : Nat) (l : List Tag) : Prop :=
  ∀ i (h : i < l.length), w.cell? ⟨b, o + i * 2, none⟩ = some (.string (l[i]).1) ∧ w.cell? ⟨b, o + i * 2 + 1, none⟩ = some (.string (l[i]).2)
theorem TLies.on {w w1 : World} {b o : Nat} {l : List Tag} (h : TLies w b o l) (hb : b < w.heap.size) (n : Below w.heap.size w w1) : TLies w1 b o l := by
  intro i hi
  rw [n.cell (p := ⟨b, o + i * 2, none⟩) hb, n.cell (p := ⟨b, o + i * 2 + 1, none⟩) hb]
  exact h i hi
/-- What stands behind the slice's address a. -/
def TAt (w : World) (a : Option Addr) (l : List Tag) : Prop := l ≠ [] → ∃ b o, a = some ⟨b, o, none⟩ ∧ b < w.heap.size ∧ TLies w b o l
theorem TAt.on {w w1 : World} {a : Option Addr} {l : List Tag} (h : TAt w a l) (n : Below w.heap.size w w1) : TAt w1 a l := by
  intro hne
  obtain ⟨b, o, ha, hb, hL⟩ := h hne
  exact ⟨b, o, ha, Nat.lt_of_lt_of_le hb n.size, hL.on hb n⟩
/-- The value v is a slice that holds the tags l. -/
def TRow (w : World) (v : Value) (l : List Tag) : Prop := ∃ a c, v = .slice a l.length c ∧ l.length ≤ c ∧ TAt w a l
theorem TRow.on {w w1 : World} {v : Value} {l : List Tag} (h : TRow w v l) (n : Below w.heap.size w w1) : TRow w1 v l := by
  obtain ⟨a, c, hv, hc, hl⟩ := h
  exact ⟨a, c, hv, hc, hl.on n⟩
theorem TRow.nil (w : World) : TRow w (.slice none 0 0) [] := ⟨none, 0, rfl, Nat.le_refl _, fun h => absurd rfl h⟩
theorem ne_of_lt {α : Type} {l : List α} {k : Nat} (h : k < l.length) : l ≠ [] := fun e => by subst e; simp at h
theorem beq_ba (x y : ByteArray) : (x.toList == y.toList) = eqB x y := by rw [ByteArray.toList_eq, ByteArray.toList_eq]; rfl
theorem find_hit {l : List Tag} {n : ByteArray} {k : Nat} (h : ∀ j (hj : j < l.length), j < k → (eqB (l[j]).1 n) = false) (hk : k < l.length) (he : (eqB (l[k]).1 n) = true) : find l n = ((l[k]).2, true) := by
  unfold find
  have : l.find? (fun t => eqB t.1 n) = some l[k] := by
    rw [List.find?_eq_some_iff_getElem]
    exact ⟨he, k, hk, rfl, fun j hj => by have := h j (by omega) hj; simp [this]⟩
  rw [this]
theorem find_miss {l : List Tag} {n : ByteArray} (h : ∀ j (hj : j < l.length), (eqB (l[j]).1 n) = false) : find l n = (⟨#[]⟩, false) := by
  unfold find
  have : l.find? (fun t => eqB t.1 n) = none := by
    rw [List.find?_eq_none]
    intro x hx
    obtain ⟨j, hj, rfl⟩ := List.mem_iff_getElem.1 hx
    rw [h j hj]
    simp
  rw [this]
theorem none_next {l : List Tag} {n : ByteArray} {k : Nat} (h : ∀ j (hj : j < l.length), j < k → (eqB (l[j]).1 n) = false) (hk : k < l.length) (he : (eqB (l[k]).1 n) = false) : ∀ j (hj : j < l.length), j < k + 1 → (eqB (l[j]).1 n) = false := by
  intro j hj hjk
  rcases Nat.lt_or_ge j k with g | g
  · exact h j hj g
  · have : j = k := by omega
    subst this
    exact he
end Go.Proofs.YtehgpibngalhfaaGreatDoor
namespace Go.Proofs.YtehgpibngalhfaaGreatDoor
open Go Go.RowKit Tg Pk
/-- The matches l lie in block b from offset o on. -/
def MLies (w : World) (b o : Nat) (l : List Match) : Prop :=
  ∀ i (h : i < l.length), w.cell? ⟨b, o + i * 3, none⟩ = some (.int .i64 (l[i]).1) ∧ w.cell? ⟨b, o + i * 3 + 1, none⟩ = some (.string (l[i]).2.1) ∧ w.cell? ⟨b, o + i * 3 + 2, none⟩ = some (.string (l[i]).2.2)
theorem MLies.on {w w1 : World} {b o : Nat} {l : List Match} (h : MLies w b o l) (hb : b < w.heap.size) (n : Below w.heap.size w w1) : MLies w1 b o l := by
  intro i hi
  rw [n.cell (p := ⟨b, o + i * 3, none⟩) hb, n.cell (p := ⟨b, o + i * 3 + 1, none⟩) hb, n.cell (p := ⟨b, o + i * 3 + 2, none⟩) hb]
  exact h i hi
/-- What stands behind the slice's address a. -/
def MAt (w : World) (a : Option Addr) (l : List Match) : Prop := l ≠ [] → ∃ b o, a = some ⟨b, o, none⟩ ∧ b < w.heap.size ∧ MLies w b o l
theorem MAt.on {w w1 : World} {a : Option Addr} {l : List Match} (h : MAt w a l) (n : Below w.heap.size w w1) : MAt w1 a l := by
  intro hne
  obtain ⟨b, o, ha, hb, hL⟩ := h hne
  exact ⟨b, o, ha, Nat.lt_of_lt_of_le hb n.size, hL.on hb n⟩
/-- The value v is a slice that holds the matches l. -/
def MRow (w : World) (v : Value) (l : List Match) : Prop := ∃ a c, v = .slice a l.length c ∧ l.length ≤ c ∧ MAt w a l
theorem MRow.on {w w1 : World} {v : Value} {l : List Match} (h : MRow w v l) (n : Below w.heap.size w w1) : MRow w1 v l := by
  obtain ⟨a, c, hv, hc, hl⟩ := h
  exact ⟨a, c, hv, hc, hl.on n⟩
theorem MRow.nil (w : World) : MRow w (.slice none 0 0) [] := ⟨none, 0, rfl, Nat.le_refl _, fun h => absurd rfl h⟩
def greatM (l : List Match) : Bool := decide (20 < l.length) || l.any fun t => decide (100 < t.2.1.size) || decide (100 < t.2.2.size)
end Go.Proofs.YtehgpibngalhfaaGreatDoor
namespace Go.Proofs.YtehgpibngalhfaaGreatDoor
open Go Go.RowKit Tg Pk
theorem empty_in (v : ByteArray) (h : v.data.toList.isEmpty = true) : (v.toList == ([] : List UInt8)) = true ∧ v.toList.isEmpty = true ∧ v.toList = [] := by
  rw [ByteArray.toList_eq]
  rw [List.isEmpty_iff] at h
  rw [h]
  exact ⟨rfl, rfl, rfl⟩
theorem empty_not (v : ByteArray) (h : v.data.toList.isEmpty = false) : (v.toList == ([] : List UInt8)) = false ∧ v.toList.isEmpty = false := by
  rw [ByteArray.toList_eq]
  cases hx : v.data.toList with
  | nil => rw [hx] at h; cases h
  | cons a r => exact ⟨rfl, rfl⟩
theorem keepC {W w2 : World} {b off : Nat} {x : Option Value} (hb : Below W.heap.size W w2) (h : W.cell? ⟨b, off, none⟩ = x) (hB : b < W.heap.size) : w2.cell? ⟨b, off, none⟩ = x := by rw [hb.cell (p := ⟨b, off, none⟩) hB]; exact h
theorem belowA {W w2 : World} {o : Obj} (hb : Below (W.alloc o).heap.size (W.alloc o) w2) : Below W.heap.size W w2 := ((Below.refl _ _).alloc (Nat.le_refl _) _).trans (hb.mono (by simp))
theorem belowA2 {W w2 : World} {o1 o2 : Obj} (hb : Below ((W.alloc o1).alloc o2).heap.size ((W.alloc o1).alloc o2) w2) : Below W.heap.size W w2 := belowA (belowA hb)
theorem aBelow (W : World) (o : Obj) : Below W.heap.size W (W.alloc o) := (Below.refl _ _).alloc (Nat.le_refl _) _
theorem aBelow2 (W : World) (o1 o2 : Obj) : Below W.heap.size W ((W.alloc o1).alloc o2) := belowA (aBelow _ _)
theorem newC {W w2 : World} {c : Array Value} {t : TypeId} {i : Nat} (hb : Below (W.alloc (.cells c t)).heap.size (W.alloc (.cells c t)) w2) : w2.cell? ⟨W.heap.size, i, none⟩ = c[i]? :=
  keepC hb (by simp) (by simp)
theorem pval1 (v : List UInt8) : pval 1 v = Word.value v := by unfold pval; simp
theorem pval2 (v : List UInt8) : pval 2 v = Word.value v := by unfold pval; simp
theorem pval3 (v : List UInt8) : pval 3 v = (v.isEmpty || Word.value v) := by unfold pval; simp
theorem pval4 (v : List UInt8) : pval 4 v = v.isEmpty := by unfold pval; simp
theorem pval5 (k : Int) (v : List UInt8) (h1 : ¬ k = 1) (h2 : ¬ k = 2) (h3 : ¬ k = 3) (h4 : ¬ k = 4) : pval k v = false := by unfold pval; simp [h1, h2, h3, h4]
theorem kinds (k : Int) : k = 1 ∨ k = 2 ∨ k = 3 ∨ k = 4 ∨ (¬ k = 1 ∧ ¬ k = 2 ∧ ¬ k = 3 ∧ ¬ k = 4) := by omega
theorem allM_next {l : List Match} {k : Nat} (hk : k < l.length) (h : (l.take k).all pmay = true) : (l.take (k + 1)).all pmay = pmay l[k] := by
  rw [List.take_succ_eq_append_getElem hk, List.all_append, h]
  simp
theorem allM_not {l : List Match} {k : Nat} (hk : k < l.length) (h : pmay l[k] = false) : l.all pmay = false := by
  cases ha : l.all pmay
  · rfl
  · rw [List.all_eq_true.1 ha _ (List.getElem_mem hk)] at h
    cases h
end Go.Proofs.YtehgpibngalhfaaGreatDoor
namespace Go.Proofs.YtehgpibngalhfaaGreatDoor
open Go Go.RowKit Tg Pk
theorem occ_room {L sep : List UInt8} {k : Nat} (h : Lib.occAt L sep k = true) (hs : sep ≠ []) : k + sep.length ≤ L.length := by
  unfold Lib.occAt at h
  rw [List.isPrefixOf_iff_prefix] at h
  have h1 := h.length_le
  rw [List.length_drop] at h1
  have : 0 < sep.length := List.length_pos_iff.2 hs
  omega
theorem index_at {L sep : List UInt8} {k : Nat} (hs : sep ≠ []) (h : ∀ j, j < k → Lib.occAt L sep j = false) (h1 : Lib.occAt L sep k = true) : Lib.index L sep = (k : Int) := by
  have hr := occ_room h1 hs
  rcases Lib.index_spec L sep with ⟨_, g⟩ | ⟨i, g1, g2, g3, g4⟩
  · rw [g k (by omega)] at h1
    cases h1
  · rcases Nat.lt_trichotomy i k with hl | hl | hl
    · rw [h i hl] at g3; cases g3
    · rw [g1, hl]
    · rw [g4 k hl] at h1; cases h1
theorem index_no {L sep : List UInt8} {k : Nat} (hs : sep ≠ []) (h : ∀ j, j < k → Lib.occAt L sep j = false) (h1 : L.length < k + sep.length) : Lib.index L sep = -1 := by
  rcases Lib.index_spec L sep with ⟨g, _⟩ | ⟨i, g1, g2, g3, g4⟩
  · exact g
  · have := occ_room g3 hs
    rw [h i (by omega)] at g3
    cases g3
theorem ext_lst (s : ByteArray) (f k : Nat) : (s.extract f k).data.toList = (s.data.toList.drop f).take (k - f) := by
  rw [ByteArray.data_extract, Array.toList_extract, List.extract_eq_take_drop]
theorem occ_ext (s sep : ByteArray) (k : Nat) : ((s.extract k (k + sep.size)).toList == sep.toList) = Lib.occAt s.data.toList sep.data.toList k := by
  rw [ByteArray.toList_eq, ByteArray.toList_eq, ext_lst, show k + sep.size - k = sep.data.toList.length from by rw [← size_list]; omega]
  unfold Lib.occAt
  rw [Bool.eq_iff_iff, beq_iff_eq, List.isPrefixOf_iff_prefix]
  constructor
  · intro h
    exact ⟨_, by rw [← h]; exact List.take_append_drop _ _⟩
  · rintro ⟨t, ht⟩
    rw [← ht]
    simp
theorem ret_int {a b : Int} (h : a = b) : Ending.returned (.int .i64 a) = .returned (.int .i64 b) := by rw [h]
end Go.Proofs.YtehgpibngalhfaaGreatDoor
namespace Go.Proofs.YtehgpibngalhfaaGreatDoor
open Go Go.RowKit Tg Pk
/-- The strings l lie in block b from offset o on. -/
def Lies (w : World) (b o : Nat) (l : List ByteArray) : Prop := ∀ (j : Nat) x, l[j]? = some x → w.cell? ⟨b, o + j, none⟩ = some (.string x)
theorem Lies.on {w w1 : World} {b o : Nat} {l : List ByteArray} (h : Lies w b o l) (hb : b < w.heap.size) (n : Below w.heap.size w w1) : Lies w1 b o l := by
  intro j x hx
  rw [n.cell (p := ⟨b, o + j, none⟩) hb]
  exact h j x hx
theorem Lies.alloc {w : World} {b o : Nat} {l : List ByteArray} (h : Lies w b o l) (hb : b < w.heap.size) (ob : Obj) : Lies (w.alloc ob) b o l := h.on hb ((Below.refl _ _).alloc (Nat.le_refl _) _)
/-- The value v is a slice that holds the texts l. -/
def Row (w : World) (v : Value) (l : List ByteArray) : Prop := ∃ a c, v = .slice a l.length c ∧ l.length ≤ c ∧ (l ≠ [] → ∃ b o, a = some ⟨b, o, none⟩ ∧ b < w.heap.size ∧ Lies w b o l)
theorem Row.on {w w1 : World} {v : Value} {l : List ByteArray} (h : Row w v l) (n : Below w.heap.size w w1) : Row w1 v l := by
  obtain ⟨a, c, hv, hc, hl⟩ := h
  refine ⟨a, c, hv, hc, fun hne => ?_⟩
  obtain ⟨b, o, ha, hb, hL⟩ := hl hne
  exact ⟨b, o, ha, Nat.lt_of_lt_of_le hb n.size, hL.on hb n⟩
theorem Lies.at {w : World} {b o : Nat} {l : List ByteArray} (h : Lies w b o l) (k : Nat) (hk : k < l.length) : w.cell? ⟨b, o + k, none⟩ = some (.string l[k]) := h k _ (List.getElem?_eq_getElem hk)
theorem below_drewN {base : Nat} {w wr : World} (h : Below base w wr) (q : Nat) : Below base w (wr.drewN q) := ⟨h.os, h.tape, h.output, h.size, h.block⟩
end Go.Proofs.YtehgpibngalhfaaGreatDoor
