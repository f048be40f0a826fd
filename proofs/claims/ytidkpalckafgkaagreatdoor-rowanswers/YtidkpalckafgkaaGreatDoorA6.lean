/- Carried over from earlier layers: walks and lemmas. -/
import Derived.Test.YtidkpalckafgkaaGreatDoorA4
import Derived.Test.YtidkpalckafgkaaGreatDoorA5
namespace Go.Proofs.YtidkpalckafgkaaGreatDoor
open Go Go.RowKit Tg Ky
open Pk
/-- The value v is the series k: its name, and a slice that holds its tags. -/
def KRow (w : World) (v : Value) (k : Key) : Prop := ∃ t, v = .agg #[.string k.1, t] ∧ TRow w t k.2
theorem KRow.on {w w1 : World} {v : Value} {k : Key} (h : KRow w v k) (n : Below w.heap.size w w1) : KRow w1 v k := by
  obtain ⟨t, hv, ht⟩ := h
  exact ⟨t, hv, ht.on n⟩
end Go.Proofs.YtidkpalckafgkaaGreatDoor
namespace Go.Proofs.YtidkpalckafgkaaGreatDoor
open Go Go.RowKit Tg Pk Ky
theorem cut_at {L : List UInt8} {k : Nat} (h : (123 : UInt8) ∉ L.take k) (hk : k < L.length) (h1 : L[k] = 123) : cutC 123 L = some (L.take k, L.drop (k + 1)) := by
  have e : L = L.take k ++ 123 :: L.drop (k + 1) := by
    rw [← h1, ← List.drop_eq_getElem_cons hk, List.take_append_drop]
  have := cutC_app 123 (L.take k) (L.drop (k + 1)) h
  rw [← e] at this
  exact this
theorem kcut_end {L : List UInt8} (h : (123 : UInt8) ∉ L) : kcut L = some (L, []) := by
  unfold kcut
  rw [cutC_none 123 L h]
theorem drop_last {L : List UInt8} {k : Nat} (hk : k + 1 < L.length) : L.drop (k + 1) = (L.drop (k + 1)).take (L.length - 1 - (k + 1)) ++ [L[L.length - 1]] := by
  have e : (L.drop (k + 1)).drop (L.length - 1 - (k + 1)) = [L[L.length - 1]] := by
    rw [List.drop_drop, show k + 1 + (L.length - 1 - (k + 1)) = L.length - 1 by omega, List.drop_eq_getElem_cons (by omega), List.drop_of_length_le (by omega)]
  rw [← e, List.take_append_drop]
theorem suffix_last {L : List UInt8} {k : Nat} (_ : k < L.length) (h2 : L[L.length - 1] ≠ 125) : Lib.hasSuffix (L.drop (k + 1)) [125] = false := by
  cases hs : Lib.hasSuffix (L.drop (k + 1)) [125]
  · rfl
  · exfalso
    unfold Lib.hasSuffix at hs
    rw [List.isSuffixOf_iff_suffix] at hs
    obtain ⟨x, hx⟩ := hs
    have hl : (L.drop (k + 1)).length = x.length + 1 := by rw [← hx]; simp
    rw [List.length_drop] at hl
    have e := drop_last (L := L) (k := k) (by omega)
    rw [← hx] at e
    have := (List.append_inj' e rfl).2
    simp at this
    exact h2 this.symm
theorem kcut_bad {L : List UInt8} {k : Nat} (h : (123 : UInt8) ∉ L.take k) (hk : k < L.length) (h1 : L[k] = 123) (h2 : L[L.length - 1] ≠ 125) : kcut L = none := by
  unfold kcut
  rw [cut_at h hk h1]
  simp only [suffix_last hk h2]
  rfl
theorem kcut_empty {L : List UInt8} {k : Nat} (h : (123 : UInt8) ∉ L.take k) (hk : k < L.length) (h1 : L[k] = 123) (h3 : k + 1 = L.length - 1) : kcut L = none := by
  unfold kcut
  rw [cut_at h hk h1]
  have e := drop_last (L := L) (k := k) (by omega)
  simp only [h3, Nat.sub_self, List.take_zero, List.nil_append] at e
  have ht : (Lib.trimSuffix (L.drop (L.length - 1)) [125]).isEmpty = true ∨ Lib.hasSuffix (L.drop (L.length - 1)) [125] = false := by
    rw [e]
    cases hs : Lib.hasSuffix [L[L.length - 1]] [125]
    · right; rfl
    · left
      unfold Lib.trimSuffix
      rw [hs]
      simp
  rw [h3]
  rcases ht with ht | ht
  · simp only [ht]
    simp
  · simp only [ht]
    simp
theorem kcut_some {L : List UInt8} {k : Nat} (h : (123 : UInt8) ∉ L.take k) (hk : k < L.length) (h1 : L[k] = 123) (h2 : L[L.length - 1] = 125) (h3 : k + 1 ≠ L.length - 1) :
    kcut L = some (L.take k, (L.drop (k + 1)).take (L.length - 1 - (k + 1))) ∧ k + 1 ≤ L.length - 1 := by
  have hk2 : k + 1 < L.length := by
    rcases Nat.lt_or_ge (k + 1) L.length with g | g
    · exact g
    · exfalso
      have e : k = L.length - 1 := by omega
      subst e
      rw [h1] at h2
      exact absurd h2 (by decide)
  refine ⟨?_, by omega⟩
  unfold kcut
  rw [cut_at h hk h1]
  have e := drop_last hk2
  rw [h2] at e
  obtain ⟨a1, a2⟩ := suffix_app ((L.drop (k + 1)).take (L.length - 1 - (k + 1)))
  rw [← e] at a1 a2
  have hne : ((L.drop (k + 1)).take (L.length - 1 - (k + 1))).isEmpty = false := by
    rw [List.isEmpty_eq_false_iff]
    intro hn
    have := congrArg List.length hn
    rw [List.length_take, List.length_drop] at this
    simp at this
    omega
  simp only [a1, a2, hne]
  simp
def kcutB (s : ByteArray) : ByteArray × ByteArray × Bool := match kcut s.data.toList with | none => (⟨#[]⟩, ⟨#[]⟩, false) | some p => (bb p.1, bb p.2, true)
theorem ba_ext {a b : ByteArray} (h : a.data.toList = b.data.toList) : a = b := by
  apply ByteArray.ext
  have := congrArg List.toArray h
  simpa using this
theorem size_l (s : ByteArray) : s.data.toList.length = s.size := by rw [Array.length_toList]; rfl
theorem take_next (s : ByteArray) (k : Nat) (hk : k < s.size) : s.data.toList.take (k + 1) = s.data.toList.take k ++ [s[k]] := by
  rw [List.take_succ_eq_append_getElem (by rw [size_l]; exact hk)]
  rfl
set_option maxRecDepth 100000 in
set_option maxHeartbeats 400000 in
theorem refCut_any (s : ByteArray) (w : World) (hs : s.size ≤ 1000000) :
    Calls Tryz.prog 59 #[.string s] w fun e w' => e = .returned (.tuple #[.string (kcutB s).1, .string (kcutB s).2.1, .bool (kcutB s).2.2]) ∧ Below w.heap.size w w' := by
  obtain ⟨C, HC⟩ : ∃ C, Hid (kcutB s = C) := ⟨_, rfl⟩
  rw [HC.out]
  have hsl := size_l s
  go_enter Tryz.func59, Tryz.ntmps59
  go_wp2
  go_loop [5] (fun i => ∃ (k : Nat), k ≤ s.size ∧ i = .int .i64 k ∧ Hid ((123 : UInt8) ∉ s.data.toList.take k)) (fun i => s.size - (intOf i).toNat)
  case atStart => exact ⟨0, Nat.zero_le _, rfl, by show (123 : UInt8) ∉ _; simp⟩
  case round =>
    obtain ⟨k, hk, rfl, HT⟩ := hrel
    by_cases hlt : k < s.size
    · have i1 : (k : Int) < (s.size : Int) := by omega
      have i2 : (0 : Int) ≤ (k : Int) := by omega
      by_cases hc : s[k] = 123
      · have hq : (((s[k]).toNat : Int) == 123) = true := by rw [hc]; rfl
        have hz : s.size - 1 < s.size := by omega
        have j1 : ((s.size : Int) - 1) = ((s.size - 1 : Nat) : Int) := by omega
        have kl : k < s.data.toList.length := by omega
        have E1 : s.data.toList[k] = 123 := hc
        have hl : s.data.toList.length - 1 = s.size - 1 := by omega
        by_cases h5 : s[s.size - 1] = 125
        · have hq5 : (((s[s.size - 1]).toNat : Int) == 125) = true := by rw [h5]; rfl
          have E2 : s.data.toList[s.data.toList.length - 1] = 125 := by simp only [hl]; exact h5
          by_cases h6 : k + 1 = s.size - 1
          · have HR : Hid (C = (⟨#[]⟩, ⟨#[]⟩, false)) := by
              show C = _
              rw [← HC.out]
              unfold kcutB
              rw [kcut_empty HT.out kl E1 (by omega)]
            have q6 : ((k : Int) + 1 == (s.size : Int) - 1) = true := by simp; omega
            clear HT HC E1 E2
            go_wp2_with fail
            go_ret3
            exact ⟨by rw [HR.out]; rfl, Below.refl _ _⟩
          · obtain ⟨E3, E4⟩ := kcut_some HT.out kl E1 E2 (by omega)
            have HR : Hid (C = (s.extract 0 k, s.extract (k + 1) (s.size - 1), true)) := by
              show C = _
              rw [← HC.out]
              unfold kcutB
              rw [E3]
              refine Prod.ext ?_ (Prod.ext ?_ rfl)
              · apply ba_ext
                rw [bb_list, ext_lst]
                simp
              · apply ba_ext
                rw [bb_list, ext_lst]
                show _ = _
                rw [hl]
            have q6 : ((k : Int) + 1 == (s.size : Int) - 1) = false := by simp; omega
            have j2 : (k : Int) + 1 ≤ (s.size : Int) - 1 := by omega
            have j3 : (0 : Int) ≤ (k : Int) + 1 := by omega
            clear HT HC E1 E2 E3
            go_wp2_with fail
            go_quiet (fail)
            go_wp2_with fail
            go_ret3
            exact ⟨by rw [HR.out]; rfl, ⟨rfl, rfl, rfl, Nat.le_refl _, fun _ _ => rfl⟩⟩
        · have hq5 : (((s[s.size - 1]).toNat : Int) == 125) = false := byteNe (n := 125) (by omega) h5
          have HR : Hid (C = (⟨#[]⟩, ⟨#[]⟩, false)) := by
            show C = _
            rw [← HC.out]
            unfold kcutB
            rw [kcut_bad HT.out kl E1 (by simp only [hl]; exact h5)]
          clear HT HC E1
          go_wp2_with fail
          go_ret3
          exact ⟨by rw [HR.out]; rfl, Below.refl _ _⟩
      · have hq : (((s[k]).toNat : Int) == 123) = false := byteNe (n := 123) (by omega) hc
        have HT2 : Hid ((123 : UInt8) ∉ s.data.toList.take (k + 1)) := by
          show (123 : UInt8) ∉ _
          rw [take_next s k hlt]
          have := HT.out
          intro hm
          rcases List.mem_append.1 hm with hm | hm
          · exact this hm
          · rw [List.mem_singleton] at hm
            exact hc hm.symm
        clear HT hc
        go_wp2_with fail
        exact ⟨⟨k + 1, by omega, by go_num, HT2⟩, by simp [intOf]; omega⟩
    · have HR : Hid (C = (s, ⟨#[]⟩, true)) := by
        show C = _
        rw [← HC.out]
        unfold kcutB
        have h1 := HT.out
        rw [List.take_of_length_le (by omega)] at h1
        rw [kcut_end h1]
        refine Prod.ext ?_ rfl
        apply ba_ext
        rw [bb_list]
      have hks : ((k : Int) == (s.size : Int)) = true := by simp; omega
      clear HT HC
      go_wp2_with fail
      go_ret3
      exact ⟨by rw [HR.out]; rfl, Below.refl _ _⟩
end Go.Proofs.YtidkpalckafgkaaGreatDoor
namespace Go.Proofs.YtidkpalckafgkaaGreatDoor
open Go Go.RowKit Tg Pk Ky
theorem box_far {w : World} {b0 b o : Nat} {l : List Tag} (hL : TLies w b o l) (hne : l ≠ []) (hc : ∀ i, w.cell? ⟨b0, i, none⟩ = (#[Value.string ⟨#[]⟩, Value.slice none 0 0] : Array Value)[i]?) : b0 ≠ b := by
  rintro rfl
  have h0 : 0 < l.length := List.length_pos_iff.2 hne
  obtain ⟨_, h2⟩ := hL 0 h0
  rw [hc] at h2
  have e : o + 0 * 2 + 1 = o + 1 := by omega
  rw [e] at h2
  match o, h2 with
  | 0, h2 => simp at h2
  | _ + 1, h2 => simp at h2
theorem row_set {w : World} {b0 : Nat} {v : Value} {l : List Tag} (h : TRow w v l) (hc : ∀ i, w.cell? ⟨b0, i, none⟩ = (#[Value.string ⟨#[]⟩, Value.slice none 0 0] : Array Value)[i]?) (x y : Value) : TRow ((w.setCell ⟨b0, 0, none⟩ x).setCell ⟨b0, 1, none⟩ y) v l := by
  obtain ⟨a, c, hv, hcp, hat⟩ := h
  refine ⟨a, c, hv, hcp, fun hne => ?_⟩
  obtain ⟨b, o, ha, hb, hL⟩ := hat hne
  have hf := box_far hL hne hc
  refine ⟨b, o, ha, by simpa using hb, fun i hi => ?_⟩
  rw [World.cell?_setCell_far _ _ _ _ hf, World.cell?_setCell_far _ _ _ _ hf, World.cell?_setCell_far _ _ _ _ hf, World.cell?_setCell_far _ _ _ _ hf]
  exact hL i hi
set_option maxRecDepth 100000 in
theorem none_row (w : World) : KRow w (.agg #[.string ⟨#[]⟩, .slice none 0 0]) none0 := ⟨_, rfl, TRow.nil w⟩
theorem kmk_no {n : ByteArray} {p : List Tag × Int} (h : Word.name n.data.toList = false) : kmk n p = (none0, 2) := by unfold kmk; rw [h]; rfl
theorem kmk_er {n : ByteArray} {p : List Tag × Int} (h : Word.name n.data.toList = true) (h2 : ¬ p.2 = 0) : kmk n p = (none0, p.2) := by unfold kmk; rw [if_pos h, if_neg h2]
theorem kmk_is {n : ByteArray} {p : List Tag × Int} (h : Word.name n.data.toList = true) (h2 : p.2 = 0) : kmk n p = ((n, p.1), 0) := by unfold kmk; rw [if_pos h, if_pos h2]
set_option maxRecDepth 100000 in
set_option maxHeartbeats 400000 in
theorem refKparse_no (s n i : ByteArray) (w : World)
    (HK : ∀ W, Calls Tryz.prog 59 #[.string s] W fun e w' => e = .returned (.tuple #[.string n, .string i, .bool false]) ∧ Below W.heap.size W w') :
    Calls Tryz.prog 51 #[.string s] w fun e w' => (∃ kv, e = .returned (.tuple #[kv, .int .i64 2]) ∧ KRow w' kv none0) ∧ Below w.heap.size w w' := by
  have HK := Lib.hid HK
  go_enter Tryz.func51, Tryz.ntmps51
  go_wp2_with fail
  refine (HK.out _).mono ?_
  rintro e w2 ⟨rfl, n2⟩
  have c0 := newC (i := 0) n2
  have c1 := newC (i := 1) n2
  have f0 := keepF (b := w.heap.size) (off := 0) (x := false) n2 (by simp [go_sem]) (by simp)
  have f1 := keepF (b := w.heap.size) (off := 1) (x := false) n2 (by simp [go_sem]) (by simp)
  have d2 := belowA n2
  simp at c0 c1
  clear n2 HK
  go_wp2_with fail
  exact bodyPost_ret (v := .tuple #[.agg #[.string ⟨#[]⟩, .slice none 0 0], .int .i64 2]) (by simp [results, Tryz.results51, go_sem, c0, c1]) rfl ⟨⟨_, rfl, none_row _⟩, (d2.setCell (Nat.le_refl _) _).setCell (Nat.le_refl _) _⟩
set_option maxRecDepth 100000 in
set_option maxHeartbeats 400000 in
theorem refKparse_go (s n i : ByteArray) (w : World) (hi : i.size ≤ 900) (hz : n.size ≤ 281474976710656)
    (HK : ∀ W, Calls Tryz.prog 59 #[.string s] W fun e w' => e = .returned (.tuple #[.string n, .string i, .bool true]) ∧ Below W.heap.size W w') :
    Calls Tryz.prog 51 #[.string s] w fun e w' => (∃ kv, e = .returned (.tuple #[kv, .int .i64 (kmk n (parse i.data.toList)).2]) ∧ KRow w' kv (kmk n (parse i.data.toList)).1) ∧ Below w.heap.size w w' := by
  have HK := Lib.hid HK
  have H1 := fun W => refName_any n W (by omega)
  have H2 := fun w1 => refParse_any i w1 hi
  cases hp : Word.name n.data.toList
  · rw [show kmk n (parse i.data.toList) = (none0, 2) from kmk_no hp]
    rw [hp] at H1
    have H1 := Lib.hid H1
    clear H2 hz hp
    go_enter Tryz.func51, Tryz.ntmps51
    go_wp2_with fail
    refine (HK.out _).mono ?_
    rintro e w2 ⟨rfl, n2⟩
    have c0 := newC (i := 0) n2
    have c1 := newC (i := 1) n2
    have f0 := keepF (b := w.heap.size) (off := 0) (x := false) n2 (by simp [go_sem]) (by simp)
    have f1 := keepF (b := w.heap.size) (off := 1) (x := false) n2 (by simp [go_sem]) (by simp)
    have d2 := belowA n2
    simp at c0 c1
    clear n2 HK
    go_wp2_with (first
      | (go_at_call 60; refine (H1.out _).mono ?_; rintro e w' ⟨rfl, hw⟩; have hw := hw.symm; subst hw))
    exact bodyPost_ret (v := .tuple #[.agg #[.string ⟨#[]⟩, .slice none 0 0], .int .i64 2]) (by simp [results, Tryz.results51, go_sem, c0, c1]) rfl ⟨⟨_, rfl, none_row _⟩, (d2.setCell (Nat.le_refl _) _).setCell (Nat.le_refl _) _⟩
  · rw [hp] at H1
    have HM := fun (h2 : (parse i.data.toList).2 = 0) => kmk_is (n := n) (p := parse i.data.toList) hp h2
    have HE := fun (h2 : ¬ (parse i.data.toList).2 = 0) => kmk_er (n := n) (p := parse i.data.toList) hp h2
    have H1 := Lib.hid H1
    have H2 := Lib.hid H2
    clear hz hp
    generalize parse i.data.toList = C at *
    by_cases hC : C.2 = 0
    · rw [HM hC]
      have hq : (C.2 == 0) = true := by simp [hC]
      clear HM HE
      go_enter Tryz.func51, Tryz.ntmps51
      go_wp2_with fail
      refine (HK.out _).mono ?_
      rintro e w1 ⟨rfl, n1⟩
      go_wp2_with (first
        | (go_at_call 60; refine (H1.out _).mono ?_; rintro e w' ⟨rfl, hw⟩; have hw := hw.symm; subst hw))
      refine (H2.out _).mono ?_
      rintro e w2 ⟨⟨v2, rfl, hr2⟩, n2⟩
      have n2 := n1.trans (n2.mono n1.size)
      have hc := fun i => newC (i := i) n2
      have c0 := hc 0
      have c1 := hc 1
      have f0 := keepF (b := w.heap.size) (off := 0) (x := false) n2 (by simp [go_sem]) (by simp)
      have f1 := keepF (b := w.heap.size) (off := 1) (x := false) n2 (by simp [go_sem]) (by simp)
      have d2 := belowA n2
      simp at c0 c1
      obtain ⟨a2, cp2, rfl, hcp2, hat2⟩ := hr2
      have hr2 : TRow w2 (.slice a2 C.1.length cp2) C.1 := ⟨a2, cp2, rfl, hcp2, hat2⟩
      have hr3 := row_set hr2 hc (.string n) (.slice a2 C.1.length cp2)
      have HR := Lib.hid hr3
      clear hat2 hr2 hr3 n1 n2 H1 H2 hc
      go_wp2_with fail
      exact bodyPost_ret (v := .tuple #[.agg #[.string n, .slice a2 C.1.length cp2], .int .i64 0]) (by simp [results, Tryz.results51, go_sem, c0, c1]) rfl ⟨⟨_, rfl, ⟨_, rfl, HR.out⟩⟩, (d2.setCell (Nat.le_refl _) _).setCell (Nat.le_refl _) _⟩
    · rw [HE hC]
      have hq : (C.2 == 0) = false := by simp [hC]
      clear HM HE
      go_enter Tryz.func51, Tryz.ntmps51
      go_wp2_with fail
      refine (HK.out _).mono ?_
      rintro e w1 ⟨rfl, n1⟩
      go_wp2_with (first
        | (go_at_call 60; refine (H1.out _).mono ?_; rintro e w' ⟨rfl, hw⟩; have hw := hw.symm; subst hw))
      refine (H2.out _).mono ?_
      rintro e w2 ⟨⟨v2, rfl, hr2⟩, n2⟩
      have n2 := n1.trans (n2.mono n1.size)
      have c0 := newC (i := 0) n2
      have c1 := newC (i := 1) n2
      have f0 := keepF (b := w.heap.size) (off := 0) (x := false) n2 (by simp [go_sem]) (by simp)
      have f1 := keepF (b := w.heap.size) (off := 1) (x := false) n2 (by simp [go_sem]) (by simp)
      have d2 := belowA n2
      simp at c0 c1
      clear n1 n2 H1 H2 hr2
      go_wp2_with fail
      exact bodyPost_ret (v := .tuple #[.agg #[.string ⟨#[]⟩, .slice none 0 0], .int .i64 C.2]) (by simp [results, Tryz.results51, go_sem, c0, c1]) rfl ⟨⟨_, rfl, none_row _⟩, (d2.setCell (Nat.le_refl _) _).setCell (Nat.le_refl _) _⟩
theorem refKparse_any (s : ByteArray) (w : World) (hs : s.size ≤ 900) :
    Calls Tryz.prog 51 #[.string s] w fun e w' => (∃ kv, e = .returned (.tuple #[kv, .int .i64 (kparse s.data.toList).2]) ∧ KRow w' kv (kparse s.data.toList).1) ∧ Below w.heap.size w w' := by
  have hsl := size_l s
  have HK := fun W => refCut_any s W (by omega)
  cases hc : kcut s.data.toList with
  | none =>
    have hb : kcutB s = (⟨#[]⟩, ⟨#[]⟩, false) := by unfold kcutB; rw [hc]
    have hp : kparse s.data.toList = (none0, 2) := by unfold kparse; rw [hc]
    rw [hb] at HK
    rw [hp]
    exact refKparse_no s _ _ w HK
  | some p =>
    have hb : kcutB s = (bb p.1, bb p.2, true) := by unfold kcutB; rw [hc]
    obtain ⟨l1, l2⟩ := kcut_len hc
    have hp : kparse s.data.toList = kmk (bb p.1) (parse (bb p.2).data.toList) := by unfold kparse; rw [hc, bb_list]; rfl
    rw [hb] at HK
    rw [hp]
    exact refKparse_go s _ _ w (by rw [← size_l, bb_list]; omega) (by rw [← size_l, bb_list]; omega) HK
theorem KRow.open {w : World} {v : Value} {k : Key} (h : KRow w v k) : ∃ a c, v = .agg #[.string k.1, .slice a k.2.length c] ∧ TRow w (.slice a k.2.length c) k.2 := by
  obtain ⟨t, rfl, a, c, rfl, hc, hat⟩ := h
  exact ⟨a, c, rfl, a, c, rfl, hc, hat⟩
set_option maxRecDepth 100000 in
theorem KRow.shut {w : World} {a : Option Addr} {c : Nat} {k : Key} (h : TRow w (.slice a k.2.length c) k.2) : KRow w (.agg #[.string k.1, .slice a k.2.length c]) k := ⟨_, rfl, h⟩
end Go.Proofs.YtidkpalckafgkaaGreatDoor
namespace Go.Proofs.YtidkpalckafgkaaGreatDoor
open Go Go.RowKit Tg Ky
open Pk
/-- A box of two cells, and that nothing older has turned. -/
theorem held2_on {ab : Nat} {x y : Value} {w W w3 : World}
    (h : W.cell? ⟨ab, 0, none⟩ = some x ∧ W.cell? ⟨ab, 1, none⟩ = some y ∧ Below ab w W) (n : Below W.heap.size W w3) :
    w3.cell? ⟨ab, 0, none⟩ = some x ∧ w3.cell? ⟨ab, 1, none⟩ = some y ∧ Below ab w w3 := by
  obtain ⟨h0, h1, h2⟩ := h
  have z0 := World.block_lt_of_cell? _ _ h0
  exact ⟨keepC n h0 z0, keepC n h1 z0, h2.trans (n.mono (Nat.le_of_lt z0))⟩
theorem held2_b {ab : Nat} {x y : Value} {w W : World} (h : W.cell? ⟨ab, 0, none⟩ = some x ∧ W.cell? ⟨ab, 1, none⟩ = some y ∧ Below ab w W) : Below ab w W := h.2.2
def ktextB (k : Key) : ByteArray := if k.2 = [] then k.1 else k.1 ++ ⟨#[123]⟩ ++ textB k.2 ++ ⟨#[125]⟩
set_option maxRecDepth 100000 in
set_option maxHeartbeats 400000 in
theorem ktext_any (v : Value) (k : Key) (w : World) (h : KRow w v k) (hn : k.2.length ≤ 1000) (hs : ∀ x ∈ k.2, x.1.size ≤ 100000 ∧ x.2.size ≤ 100000) (hz : k.1.size ≤ 100000) (hj : (textB k.2).size ≤ 100000000) :
    Calls Tryz.prog 128 #[v] w fun e w' => e = .returned (.string (ktextB k)) ∧ Below w.heap.size w w' := by
  obtain ⟨t, rfl, r⟩ := h
  have H2 := fun w1 (n1 : Below w.heap.size w w1) => text_any t k.2 w1 (r.on n1) hn hs (by omega)
  obtain ⟨a, c, rfl, hc, _⟩ := r
  by_cases h0 : k.2 = []
  · rw [show ktextB k = k.1 from if_pos h0]
    have hl : k.2.length = 0 := by rw [h0]; rfl
    rw [hl]
    clear H2 hs hj h0 hl hc hn
    go_enter Tryz.func128, Tryz.ntmps128
    go_wp2_with fail
    go_ret
    exact ⟨rfl, aBelow _ _⟩
  · rw [show ktextB k = k.1 ++ ⟨#[123]⟩ ++ textB k.2 ++ ⟨#[125]⟩ from if_neg h0]
    have hl : 0 < k.2.length := List.length_pos_iff.2 h0
    have i1 : ¬ k.2.length = 0 := by omega
    have H2 := Lib.hid H2
    generalize textB k.2 = T at *
    generalize k.2.length = ln at *
    generalize k.1 = nm at *
    have u1 : ¬ 9223372036854775807 < nm.size + 1 := by omega
    have u2 : ¬ 9223372036854775807 < nm.size + 1 + T.size := by omega
    have u3 : ¬ 9223372036854775807 < nm.size + 1 + T.size + 1 := by omega
    clear hs h0
    go_enter Tryz.func128, Tryz.ntmps128
    go_wp2_with fail
    have c0 : ((w.alloc (.cells #[.string nm, .slice a ln c] 78)).drew).cell? ⟨w.heap.size, 0, none⟩ = some (.string nm) := by simp [go_sem]
    have c1 : ((w.alloc (.cells #[.string nm, .slice a ln c] 78)).drew).cell? ⟨w.heap.size, 1, none⟩ = some (.slice a ln c) := by simp [go_sem]
    have d1 : Below w.heap.size w ((w.alloc (.cells #[.string nm, .slice a ln c] 78)).drew) := (aBelow _ _).drew
    have hS := And.intro c0 (And.intro c1 d1)
    generalize (w.alloc (.cells #[.string nm, .slice a ln c] 78)) = W1 at *
    generalize hg : w.heap.size = ab at *
    have HG := Lib.hid hg
    clear hg c0 c1 d1
    go_region_held3 (fun w' => w'.cell? ⟨ab, 0, none⟩ = some (.string nm) ∧ w'.cell? ⟨ab, 1, none⟩ = some (.slice a ln c) ∧ Below ab w w') (first | assumption)
      (first
        | (go_at_call 68; refine (H2.out _ (held2_b (by assumption))).mono ?_; rintro e w3 ⟨rfl, n3⟩; have hS3 := held2_on (by assumption) n3; clear n3)
        | fail)
    all_goals
      have d4 : Below w.heap.size w w3 := by rw [HG.out]; exact hS3.2.2
      clear hS3 hS
      go_wp2
      go_ret
      exact ⟨rfl, d4⟩
set_option maxRecDepth 100000 in
set_option maxHeartbeats 400000 in
theorem refKtext_any (v : Value) (k : Key) (w : World) (h : KRow w v k) (hn : k.2.length ≤ 1000) (hs : ∀ x ∈ k.2, x.1.size ≤ 100000 ∧ x.2.size ≤ 100000) (hz : k.1.size ≤ 100000) (hj : (textB k.2).size ≤ 100000000) :
    Calls Tryz.prog 52 #[v] w fun e w' => e = .returned (.string (ktextB k)) ∧ Below w.heap.size w w' := by
  obtain ⟨t, rfl, r⟩ := h
  have H2 := fun w1 (n1 : Below w.heap.size w w1) => refText_any t k.2 w1 (r.on n1) hn hs (by omega)
  obtain ⟨a, c, rfl, hc, _⟩ := r
  by_cases h0 : k.2 = []
  · rw [show ktextB k = k.1 from if_pos h0]
    have hl : k.2.length = 0 := by rw [h0]; rfl
    rw [hl]
    clear H2 hs hj h0 hl hc hn
    go_enter Tryz.func52, Tryz.ntmps52
    go_wp2_with fail
    go_ret
    exact ⟨rfl, aBelow _ _⟩
  · rw [show ktextB k = k.1 ++ ⟨#[123]⟩ ++ textB k.2 ++ ⟨#[125]⟩ from if_neg h0]
    have hl : 0 < k.2.length := List.length_pos_iff.2 h0
    have i1 : ¬ k.2.length = 0 := by omega
    have H2 := Lib.hid H2
    generalize textB k.2 = T at *
    generalize k.2.length = ln at *
    generalize k.1 = nm at *
    have u1 : ¬ 9223372036854775807 < nm.size + 1 := by omega
    have u2 : ¬ 9223372036854775807 < nm.size + 1 + T.size := by omega
    have u3 : ¬ 9223372036854775807 < nm.size + 1 + T.size + 1 := by omega
    clear hs h0
    go_enter Tryz.func52, Tryz.ntmps52
    go_wp2_with fail
    have c0 : ((w.alloc (.cells #[.string nm, .slice a ln c] 78)).drew).cell? ⟨w.heap.size, 0, none⟩ = some (.string nm) := by simp [go_sem]
    have c1 : ((w.alloc (.cells #[.string nm, .slice a ln c] 78)).drew).cell? ⟨w.heap.size, 1, none⟩ = some (.slice a ln c) := by simp [go_sem]
    have d1 : Below w.heap.size w ((w.alloc (.cells #[.string nm, .slice a ln c] 78)).drew) := (aBelow _ _).drew
    have hS := And.intro c0 (And.intro c1 d1)
    generalize (w.alloc (.cells #[.string nm, .slice a ln c] 78)) = W1 at *
    generalize hg : w.heap.size = ab at *
    have HG := Lib.hid hg
    clear hg c0 c1 d1
    go_region_held3 (fun w' => w'.cell? ⟨ab, 0, none⟩ = some (.string nm) ∧ w'.cell? ⟨ab, 1, none⟩ = some (.slice a ln c) ∧ Below ab w w') (first | assumption)
      (first
        | (go_at_call 70; refine (H2.out _ (held2_b (by assumption))).mono ?_; rintro e w3 ⟨rfl, n3⟩; have hS3 := held2_on (by assumption) n3; clear n3)
        | fail)
    all_goals
      have d4 : Below w.heap.size w w3 := by rw [HG.out]; exact hS3.2.2
      clear hS3 hS
      go_wp2
      go_ret
      exact ⟨rfl, d4⟩
end Go.Proofs.YtidkpalckafgkaaGreatDoor
namespace Go.Proofs.YtidkpalckafgkaaGreatDoor
open Go Go.RowKit Tg Ky
open Pk
theorem drewN_below (W : World) (q : Nat) : Below W.heap.size W (W.drewN q) := ⟨rfl, rfl, rfl, Nat.le_refl _, fun _ _ => rfl⟩
theorem belowQ {W w2 : World} {q : Nat} (h : Below (W.drewN q).heap.size (W.drewN q) w2) : Below W.heap.size W w2 := (drewN_below W q).trans h
set_option maxRecDepth 100000 in
set_option maxHeartbeats 400000 in
theorem kparse_go (s n r i : ByteArray) (op cl : Bool) (w : World) (hE : Env w) (hi : i.size ≤ 900) (hz : n.size ≤ 281474976710656)
    (HK : ∀ W, Env W → Calls Tryz.prog 104 #[.string s, .string ⟨#[123]⟩] W fun e w' => e = .returned (.tuple #[.string n, .string r, .bool op]) ∧ ∃ q, w' = W.drewN q)
    (HF : ∀ W, Calls Tryz.prog 116 #[.string r, .string ⟨#[125]⟩] W fun e w' => e = .returned (.tuple #[.string i, .bool cl]) ∧ w' = W)
    (hop : op = false ∨ (op = true ∧ cl = true ∧ (i.toList == []) = false)) :
    Calls Tryz.prog 127 #[.string s] w fun e w' => (∃ kv, e = .returned (.tuple #[kv, .int .i64 (kmk n (parse i.data.toList)).2]) ∧ KRow w' kv (kmk n (parse i.data.toList)).1) ∧ Below w.heap.size w w' := by
  have HK := Lib.hid HK
  have HF := Lib.hid HF
  have H1 := fun W => name_any n W (by omega)
  have H2 := fun w1 (n1 : Below w.heap.size w w1) => parse_any i w1 (hE.go n1) hi
  cases hp : Word.name n.data.toList
  · rw [show kmk n (parse i.data.toList) = (none0, 2) from kmk_no hp]
    rw [hp] at H1
    have H1 := Lib.hid H1
    clear H2 hz hp
    rcases hop with rfl | ⟨rfl, rfl, hne⟩
    all_goals
      go_enter Tryz.func127, Tryz.ntmps127
      go_wp2_with fail
      refine (HK.out _ (hE.alloc _)).mono ?_
      rintro e w1 ⟨rfl, q, rfl⟩
      go_wp2_with (first
        | (go_at_call 116; refine (HF.out _).mono ?_; rintro e w' ⟨rfl, hw⟩; have hw := hw.symm; subst hw)
        | (go_at_call 81; refine (H1.out _).mono ?_; rintro e w' ⟨rfl, hw⟩; have hw := hw.symm; subst hw))
      exact bodyPost_ret (v := .tuple #[.agg #[.string ⟨#[]⟩, .slice none 0 0], .int .i64 2]) (by simp [results, Tryz.results127, go_sem]) rfl ⟨⟨_, rfl, none_row _⟩, (((aBelow _ _).trans ((drewN_below _ _).mono (by simp))).setCell (Nat.le_refl _) _).setCell (Nat.le_refl _) _⟩
  · rw [hp] at H1
    have HM := fun (h2 : (parse i.data.toList).2 = 0) => kmk_is (n := n) (p := parse i.data.toList) hp h2
    have HE := fun (h2 : ¬ (parse i.data.toList).2 = 0) => kmk_er (n := n) (p := parse i.data.toList) hp h2
    have H1 := Lib.hid H1
    have H2 := Lib.hid H2
    clear hz hp
    generalize parse i.data.toList = C at *
    by_cases hC : C.2 = 0
    · rw [HM hC]
      have hq : (C.2 == 0) = true := by simp [hC]
      clear HM HE
      rcases hop with rfl | ⟨rfl, rfl, hne⟩
      all_goals
        go_enter Tryz.func127, Tryz.ntmps127
        go_wp2_with fail
        refine (HK.out _ (hE.alloc _)).mono ?_
        rintro e w1 ⟨rfl, q, rfl⟩
        go_wp2_with (first
          | (go_at_call 116; refine (HF.out _).mono ?_; rintro e w' ⟨rfl, hw⟩; have hw := hw.symm; subst hw)
          | (go_at_call 81; refine (H1.out _).mono ?_; rintro e w' ⟨rfl, hw⟩; have hw := hw.symm; subst hw))
        refine (H2.out _ ((aBelow _ _).trans ((drewN_below _ _).mono (by simp)))).mono ?_
        rintro e w2 ⟨⟨v2, rfl, hr2⟩, n2⟩
        have n2 := belowQ n2
        have hc := fun i => newC (i := i) n2
        have c0 := hc 0
        have c1 := hc 1
        have f0 := keepF (b := w.heap.size) (off := 0) (x := false) n2 (by simp [go_sem]) (by simp)
        have f1 := keepF (b := w.heap.size) (off := 1) (x := false) n2 (by simp [go_sem]) (by simp)
        have d2 := belowA n2
        have z2 : w.heap.size < w2.heap.size := by have := n2.size; simp at this; omega
        simp at c0 c1
        obtain ⟨a2, cp2, rfl, hcp2, hat2⟩ := hr2
        have hr2 : TRow w2 (.slice a2 C.1.length cp2) C.1 := ⟨a2, cp2, rfl, hcp2, hat2⟩
        have hr3 := row_set hr2 hc (.string n) (.slice a2 C.1.length cp2)
        have HR := Lib.hid hr3
        clear hat2 hr2 hr3 n2 H1 H2 hc
        go_wp2_with fail
        exact bodyPost_ret (v := .tuple #[.agg #[.string n, .slice a2 C.1.length cp2], .int .i64 0]) (by simp [results, Tryz.results127, go_sem, c0, c1]) rfl ⟨⟨_, rfl, ⟨_, rfl, HR.out⟩⟩, (d2.setCell (Nat.le_refl _) _).setCell (Nat.le_refl _) _⟩
    · rw [HE hC]
      have hq : (C.2 == 0) = false := by simp [hC]
      clear HM HE
      rcases hop with rfl | ⟨rfl, rfl, hne⟩
      all_goals
        go_enter Tryz.func127, Tryz.ntmps127
        go_wp2_with fail
        refine (HK.out _ (hE.alloc _)).mono ?_
        rintro e w1 ⟨rfl, q, rfl⟩
        go_wp2_with (first
          | (go_at_call 116; refine (HF.out _).mono ?_; rintro e w' ⟨rfl, hw⟩; have hw := hw.symm; subst hw)
          | (go_at_call 81; refine (H1.out _).mono ?_; rintro e w' ⟨rfl, hw⟩; have hw := hw.symm; subst hw))
        refine (H2.out _ ((aBelow _ _).trans ((drewN_below _ _).mono (by simp)))).mono ?_
        rintro e w2 ⟨⟨v2, rfl, hr2⟩, n2⟩
        have n2 := belowQ n2
        have c0 := newC (i := 0) n2
        have c1 := newC (i := 1) n2
        have f0 := keepF (b := w.heap.size) (off := 0) (x := false) n2 (by simp [go_sem]) (by simp)
        have f1 := keepF (b := w.heap.size) (off := 1) (x := false) n2 (by simp [go_sem]) (by simp)
        have d2 := belowA n2
        have z2 : w.heap.size < w2.heap.size := by have := n2.size; simp at this; omega
        simp at c0 c1
        clear n2 H1 H2 hr2
        go_wp2_with fail
        exact bodyPost_ret (v := .tuple #[.agg #[.string ⟨#[]⟩, .slice none 0 0], .int .i64 C.2]) (by simp [results, Tryz.results127, go_sem, c0, c1]) rfl ⟨⟨_, rfl, none_row _⟩, (d2.setCell (Nat.le_refl _) _).setCell (Nat.le_refl _) _⟩
set_option maxRecDepth 100000 in
set_option maxHeartbeats 400000 in
theorem kparse_no (s n r i : ByteArray) (cl : Bool) (w : World) (hE : Env w)
    (HK : ∀ W, Env W → Calls Tryz.prog 104 #[.string s, .string ⟨#[123]⟩] W fun e w' => e = .returned (.tuple #[.string n, .string r, .bool true]) ∧ ∃ q, w' = W.drewN q)
    (HF : ∀ W, Calls Tryz.prog 116 #[.string r, .string ⟨#[125]⟩] W fun e w' => e = .returned (.tuple #[.string i, .bool cl]) ∧ w' = W)
    (hop : cl = false ∨ (cl = true ∧ (i.toList == []) = true)) :
    Calls Tryz.prog 127 #[.string s] w fun e w' => (∃ kv, e = .returned (.tuple #[kv, .int .i64 2]) ∧ KRow w' kv none0) ∧ Below w.heap.size w w' := by
  have HK := Lib.hid HK
  have HF := Lib.hid HF
  rcases hop with rfl | ⟨rfl, hne⟩
  all_goals
    go_enter Tryz.func127, Tryz.ntmps127
    go_wp2_with fail
    refine (HK.out _ (hE.alloc _)).mono ?_
    rintro e w1 ⟨rfl, q, rfl⟩
    go_wp2_with (first
      | (go_at_call 116; refine (HF.out _).mono ?_; rintro e w' ⟨rfl, hw⟩; have hw := hw.symm; subst hw))
    exact bodyPost_ret (v := .tuple #[.agg #[.string ⟨#[]⟩, .slice none 0 0], .int .i64 2]) (by simp [results, Tryz.results127, go_sem]) rfl ⟨⟨_, rfl, none_row _⟩, (((aBelow _ _).trans ((drewN_below _ _).mono (by simp))).setCell (Nat.le_refl _) _).setCell (Nat.le_refl _) _⟩
end Go.Proofs.YtidkpalckafgkaaGreatDoor
namespace Go.Proofs.YtidkpalckafgkaaGreatDoor
open Go Go.RowKit Tg Ky
open Pk
theorem kparse_any (s : ByteArray) (w : World) (hE : Env w) (hs : s.size ≤ 900) :
    Calls Tryz.prog 127 #[.string s] w fun e w' => (∃ kv, e = .returned (.tuple #[kv, .int .i64 (kparse s.data.toList).2]) ∧ KRow w' kv (kparse s.data.toList).1) ∧ Below w.heap.size w w' := by
  have hsl := size_l s
  have HK : ∀ W, Env W → Calls Tryz.prog 104 #[.string s, .string ⟨#[123]⟩] W fun e w' => e = .returned (.tuple #[.string ⟨(Lib.cut s.data.toList [123]).1.toArray⟩, .string ⟨(Lib.cut s.data.toList [123]).2.1.toArray⟩, .bool (Lib.cut s.data.toList [123]).2.2]) ∧ ∃ q, w' = W.drewN q := by
    rintro W ⟨m, hm⟩
    exact Tryz.strings_Cut s ⟨#[123]⟩ m W (by omega) hm
  rw [cutC_eq] at HK
  cases hc : cutC 123 s.data.toList with
  | none =>
    rw [hc] at HK
    have hk : kcut s.data.toList = some (s.data.toList, []) := by unfold kcut; rw [hc]
    have hp : kparse s.data.toList = kmk ⟨s.data.toList.toArray⟩ (parse (⟨([] : List UInt8).toArray⟩ : ByteArray).data.toList) := by unfold kparse; rw [hk]
    rw [hp]
    refine kparse_go s ⟨s.data.toList.toArray⟩ ⟨([] : List UInt8).toArray⟩ ⟨([] : List UInt8).toArray⟩ false false w hE (by decide) (by rw [ba_of]; omega) HK ?_ (Or.inl rfl)
    intro W
    exact Tryz.strings_CutSuffix ⟨([] : List UInt8).toArray⟩ ⟨#[125]⟩ W (by decide)
  | some p =>
    rw [hc] at HK
    have hL := cutC_some 123 _ _ hc
    have hl : s.data.toList.length = p.1.length + (p.2.length + 1) := by rw [hL]; simp
    have z1 : (⟨p.1.toArray⟩ : ByteArray).size ≤ 900 := by
      rw [← size_l]; show p.1.toArray.toList.length ≤ 900; simp; omega
    have z2 : (⟨p.2.toArray⟩ : ByteArray).size ≤ 900 := by
      rw [← size_l]; show p.2.toArray.toList.length ≤ 900; simp; omega
    have ht : (Lib.trimSuffix p.2 [125]).length ≤ p.2.length := by
      unfold Lib.trimSuffix
      split
      · simp
      · exact Nat.le_refl _
    have z3 : (⟨(Lib.trimSuffix p.2 [125]).toArray⟩ : ByteArray).size ≤ 900 := by
      rw [← size_l]; show (Lib.trimSuffix p.2 [125]).toArray.toList.length ≤ 900; simp; omega
    have HF : ∀ W, Calls Tryz.prog 116 #[.string ⟨p.2.toArray⟩, .string ⟨#[125]⟩] W fun e w' => e = .returned (.tuple #[.string ⟨(Lib.trimSuffix p.2 [125]).toArray⟩, .bool (Lib.hasSuffix p.2 [125])]) ∧ w' = W := by
      intro W
      have h := Tryz.strings_CutSuffix ⟨p.2.toArray⟩ ⟨#[125]⟩ W (by omega)
      rw [show (⟨p.2.toArray⟩ : ByteArray).data.toList = p.2 by simp, show (⟨#[125]⟩ : ByteArray).data.toList = [125] from rfl] at h
      exact h
    have hbe : ∀ l : List UInt8, ((⟨l.toArray⟩ : ByteArray).toList == []) = l.isEmpty := by
      intro l
      rw [ByteArray.toList_eq]
      show (l.toArray.toList == []) = _
      rw [List.toList_toArray]
      cases l <;> rfl
    cases hs5 : Lib.hasSuffix p.2 [125]
    · have hk : kcut s.data.toList = none := by unfold kcut; rw [hc]; simp [hs5]
      have hp : kparse s.data.toList = (none0, 2) := by unfold kparse; rw [hk]
      rw [hp]
      rw [hs5] at HF
      exact kparse_no s _ _ _ false w hE HK HF (Or.inl rfl)
    · rw [hs5] at HF
      cases he : (Lib.trimSuffix p.2 [125]).isEmpty
      · have hk : kcut s.data.toList = some (p.1, Lib.trimSuffix p.2 [125]) := by unfold kcut; rw [hc]; simp only [hs5, he]; rfl
        have hp : kparse s.data.toList = kmk ⟨p.1.toArray⟩ (parse (⟨(Lib.trimSuffix p.2 [125]).toArray⟩ : ByteArray).data.toList) := by unfold kparse; rw [hk]
        rw [hp]
        exact kparse_go s _ _ _ true true w hE z3 (by omega) HK HF (Or.inr ⟨rfl, rfl, by rw [hbe, he]⟩)
      · have hk : kcut s.data.toList = none := by unfold kcut; rw [hc]; simp only [hs5, he]; rfl
        have hp : kparse s.data.toList = (none0, 2) := by unfold kparse; rw [hk]
        rw [hp]
        exact kparse_no s _ _ _ true w hE HK HF (Or.inr ⟨rfl, by rw [hbe, he]⟩)
end Go.Proofs.YtidkpalckafgkaaGreatDoor
