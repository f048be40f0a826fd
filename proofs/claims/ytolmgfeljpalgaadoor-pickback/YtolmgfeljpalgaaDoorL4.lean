/- Walks: the law PickBack. -/
import Derived.Test.YtolmgfeljpalgaaDoorL2
namespace Go.Proofs.YtolmgfeljpalgaaDoor
open Go Go.RowKit Tg Pk

theorem pright_small {l : List Match} (h : pright l = true) : l.length ≤ 4 ∧ (∀ x ∈ l, x.2.1.size ≤ 12 ∧ x.2.2.size ≤ 12) ∧ (ptextB l).size ≤ 900 := by
  simp only [pright, Bool.and_eq_true, decide_eq_true_eq] at h
  have hv : ∀ y : ByteArray, Word.value y.data.toList = true → y.size ≤ 12 := by
    intro y hy
    simp only [Word.value, Word.fits, Bool.and_eq_true, decide_eq_true_eq] at hy
    rw [size_list]
    exact hy.1.2
  have h2 : ∀ x ∈ l, x.2.1.size ≤ 12 ∧ x.2.2.size ≤ 12 := by
    intro x hx
    have hm := List.all_eq_true.1 h.2 x hx
    obtain ⟨k, n, v⟩ := x
    simp only [pmay, Bool.and_eq_true, nm, vl] at hm
    refine ⟨hv n (Word.name_value _ hm.1), ?_⟩
    have h3 := hm.2
    have he : v.data.toList.isEmpty = true → v.size ≤ 12 := by
      intro e
      rw [List.isEmpty_iff] at e
      rw [size_list, e]
      simp
    rcases kinds k with rfl | rfl | rfl | rfl | ⟨k1, k2, k3, k4⟩
    · rw [pval1] at h3; exact hv v h3
    · rw [pval2] at h3; exact hv v h3
    · rw [pval3, Bool.or_eq_true] at h3
      rcases h3 with h3 | h3
      · exact he h3
      · exact hv v h3
    · rw [pval4] at h3; exact he h3
    · rw [pval5 k _ k1 k2 k3 k4] at h3; cases h3
  refine ⟨h.1, h2, ?_⟩
  have := ptext_size l 26 (fun t ht => by have := h2 t ht; omega)
  omega
theorem pparse_textB {l : List Match} (h : pright l = true) : pparse (ptextB l).data.toList = (l, 0) := by rw [ptextB_list]; exact pparse_text h
theorem ptextB_ok {s : ByteArray} (h : (pparse s.data.toList).2 = 0) : ptextB (pparse s.data.toList).1 = s := bb_inj (by rw [ptextB_list]; exact (pparse_ok h).2)

set_option maxHeartbeats 1000000 in
theorem back_skip (v : Value) (l : List Match) (s : ByteArray) (w : World) (hE : Env w) (h : MRow w v l) (hl : ∀ x ∈ l, x.2.1.size ≤ 281474976710656 ∧ x.2.2.size ≤ 281474976710656) (hs : s.size ≤ 281474976710656)
    (hg : greatM l = true ∨ (greatM l = false ∧ 500 < s.size)) :
    Calls Tryd.prog 6 #[v, .string s] w fun e w' => e = .returned (.bool true) ∧ Below w.heap.size w w' := by
  rcases hg with hg | ⟨hg, h2⟩
  all_goals
    go_enter Tryd.func6, Tryd.ntmps6
    go_wp2_with fail
    refine (alive_any _ hE).mono ?_
    rintro e w1 ⟨rfl, d1⟩
    have hr1 := h.on d1
    go_wp2_with fail
    refine (greatM_any _ l w1 hr1 hl).mono ?_
    rintro e w2 ⟨rfl, hw⟩
    have hw := hw.symm
    subst hw
    rw [hg]
    go_wp2_with fail
    go_ret
    exact ⟨rfl, d1⟩

set_option maxHeartbeats 1000000 in
theorem back_main (v : Value) (l : List Match) (s : ByteArray) (w : World) (hE : Env w) (h : MRow w v l) (hg : greatM l = false) (hs : ¬ 500 < s.size) :
    Calls Tryd.prog 6 #[v, .string s] w fun e w' => e = .returned (.bool true) ∧ Below w.heap.size w w' := by
  obtain ⟨g1, g2⟩ := greatM_not hg
  obtain ⟨g3, g4⟩ := smallM_of g2 (by omega)
  have gt := greatM_text hg
  have hsl : s.size ≤ 900 := by omega
  have HOk := Lib.hid (fun (h : (pparse s.data.toList).2 = 0) => And.intro (pparse_ok h).1 (ptextB_ok h))
  have HEr := Lib.hid (pparse_err (s := s.data.toList))
  have HP1 : Hid (pright l = true → pparse (ptextB l).data.toList = (l, 0) ∧ (ptextB l).size ≤ 900) := fun h => ⟨pparse_textB h, (pright_small h).2.2⟩
  clear g2
  go_enter Tryd.func6, Tryd.ntmps6
  go_wp2_with fail
  refine (alive_any _ hE).mono ?_
  rintro e w1 ⟨rfl, d1⟩
  have hr := h.on d1
  have hE1 := hE.go d1
  clear h hE
  go_wp2_with fail
  refine (greatM_any _ l w1 hr g3).mono ?_
  rintro e w2 ⟨rfl, hw⟩
  have hw := hw.symm
  subst hw
  rw [hg]
  go_wp2_with fail
  refine (refRightM_any _ l w1 hr (by omega) g3).mono ?_
  rintro e w3 ⟨rfl, n3⟩
  have hr3 := hr.on n3
  have hE3 := hE1.go n3
  have d3 := d1.trans (n3.mono d1.size)
  clear n3 hr hE1 d1
  cases hR : pright l
  · as_aux_lemma =>
      clear HP1 hr3
      go_wp2_with fail
      refine (parseM_any s w3 hE3 hsl).mono ?_
      rintro e wa ⟨⟨_, rfl, ra⟩, na⟩
      have da := d3.trans (na.mono d3.size)
      clear na d3
      generalize pparse s.data.toList = C at *
      obtain ⟨M, er⟩ := C
      by_cases hC : er = 0
      · subst hC
        obtain ⟨hRm, hTm⟩ := HOk.out rfl
        dsimp only at *
        obtain ⟨q1, q2, q3⟩ := pright_small hRm
        obtain ⟨q5, q6⟩ := smallM_of q2 (by omega)
        have HTm := Lib.hid hTm
        have qT := beq_self_ba s
        clear HOk HEr q2 hTm
        go_wp2_with fail
        refine (refRightM_any _ M _ ra (by omega) q5).mono ?_
        rw [hRm]
        rintro e wb ⟨rfl, nb⟩
        have rb := ra.on nb
        have db := da.trans (nb.mono da.size)
        clear nb da ra
        go_wp2_with fail
        refine (textM_any _ M _ rb (by omega) q6 (by omega)).mono ?_
        rw [HTm.out]
        rintro e wc ⟨rfl, nc⟩
        have dc := db.trans (nc.mono db.size)
        clear nc db
        go_wp2_with fail
        go_ret
        exact ⟨rfl, dc⟩
      · have hnil : M = [] := HEr.out hC
        subst hnil
        have he2 : (er == 0) = false := by simp [hC]
        obtain ⟨a, c, rfl, _, _⟩ := ra
        dsimp only
        clear HOk HEr
        go_wp2_with fail
        go_ret
        exact ⟨rfl, da⟩
  · as_aux_lemma =>
      obtain ⟨HP4, HP5⟩ := HP1.out hR
      have HP4 := Lib.hid HP4
      clear HP1
      go_wp2_with fail
      refine (textM_any _ l w3 hr3 (by omega) g4 (by omega)).mono ?_
      rintro e w4 ⟨rfl, n4⟩
      have hr4 := hr3.on n4
      have hE4 := hE3.go n4
      have d4 := d3.trans (n4.mono d3.size)
      clear n4 d3 hE3 hr3
      go_wp2_with fail
      refine (parseM_any _ w4 hE4 HP5).mono ?_
      rw [HP4.out]
      rintro e w5 ⟨⟨_, rfl, r5⟩, n5⟩
      have hr5 := hr4.on n5
      have hE5 := hE4.go n5
      have d5 := d4.trans (n5.mono d4.size)
      clear n5 d4 hE4 hr4 HP4 HP5
      go_wp2_with fail
      refine (refSame_any _ _ l l _ r5 hr5 (by omega)).mono ?_
      rw [decide_eq_true rfl]
      rintro e w6 ⟨rfl, n6⟩
      have hE6 := hE5.go n6
      have d6 := d5.trans (n6.mono d5.size)
      clear n6 d5 hE5 r5 hr5
      go_wp2_with fail
      refine (parseM_any s w6 hE6 hsl).mono ?_
      rintro e wa ⟨⟨_, rfl, ra⟩, na⟩
      have da := d6.trans (na.mono d6.size)
      clear na d6
      generalize pparse s.data.toList = C at *
      obtain ⟨M, er⟩ := C
      by_cases hC : er = 0
      · subst hC
        obtain ⟨hRm, hTm⟩ := HOk.out rfl
        dsimp only at *
        obtain ⟨q1, q2, q3⟩ := pright_small hRm
        obtain ⟨q5, q6⟩ := smallM_of q2 (by omega)
        have HTm := Lib.hid hTm
        have qT := beq_self_ba s
        clear HOk HEr q2 hTm
        go_wp2_with fail
        refine (refRightM_any _ M _ ra (by omega) q5).mono ?_
        rw [hRm]
        rintro e wb ⟨rfl, nb⟩
        have rb := ra.on nb
        have db := da.trans (nb.mono da.size)
        clear nb da ra
        go_wp2_with fail
        refine (textM_any _ M _ rb (by omega) q6 (by omega)).mono ?_
        rw [HTm.out]
        rintro e wc ⟨rfl, nc⟩
        have dc := db.trans (nc.mono db.size)
        clear nc db
        go_wp2_with fail
        go_ret
        exact ⟨rfl, dc⟩
      · have hnil : M = [] := HEr.out hC
        subst hnil
        have he2 : (er == 0) = false := by simp [hC]
        obtain ⟨a, c, rfl, _, _⟩ := ra
        dsimp only
        clear HOk HEr
        go_wp2_with fail
        go_ret
        exact ⟨rfl, da⟩

theorem back_walk (v : Value) (l : List Match) (s : ByteArray) (w : World) (hE : Env w) (h : MRow w v l) (hl : ∀ x ∈ l, x.2.1.size ≤ 281474976710656 ∧ x.2.2.size ≤ 281474976710656) (hs : s.size ≤ 281474976710656) :
    Calls Tryd.prog 6 #[v, .string s] w fun e w' => e = .returned (.bool true) ∧ Below w.heap.size w w' := by
  cases hg : greatM l
  · by_cases h2 : 500 < s.size
    · exact back_skip v l s w hE h hl hs (.inr ⟨hg, h2⟩)
    · exact back_main v l s w hE h hg h2
  · exact back_skip v l s w hE h hl hs (.inl hg)
end Go.Proofs.YtolmgfeljpalgaaDoor
