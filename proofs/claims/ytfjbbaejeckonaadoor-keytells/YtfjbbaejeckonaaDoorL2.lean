/- Walks: the law KeyBack. -/
import Derived.Test.YtfjbbaejeckonaaDoorL1
namespace Go.Proofs.YtfjbbaejeckonaaDoor
open Go Go.RowKit Tg Ky

theorem great_not {l : List Tag} (h : greatT l = false) : l.length ≤ 20 ∧ ∀ x ∈ l, x.1.size ≤ 100 ∧ x.2.size ≤ 100 := by
  simp only [greatT, Bool.or_eq_false_iff, decide_eq_false_iff_not] at h
  refine ⟨by omega, fun x hx => ?_⟩
  have h2 := h.2
  rw [List.any_eq_false] at h2
  have := h2 x hx
  simp at this
  omega
theorem small_of {l : List Tag} {B : Nat} (h : ∀ x ∈ l, x.1.size ≤ B ∧ x.2.size ≤ B) (hB : B ≤ 100000) : (∀ x ∈ l, x.1.size ≤ 281474976710656 ∧ x.2.size ≤ 281474976710656) ∧ ∀ x ∈ l, x.1.size ≤ 100000 ∧ x.2.size ≤ 100000 :=
  ⟨fun x hx => by have := h x hx; omega, fun x hx => by have := h x hx; omega⟩
theorem great_text {l : List Tag} (h : greatT l = false) : (textB l).size ≤ 4040 := by
  obtain ⟨h1, h2⟩ := great_not h
  have := text_size l 201 (fun t ht => by have := h2 t ht; omega)
  omega
theorem ktextB_list (k : Key) : (ktextB k).data.toList = ktextL (kn k) k.2 := by
  unfold ktextB ktextL kn
  by_cases h : k.2 = []
  · rw [if_pos h, if_pos h]
  · rw [if_neg h, if_neg h, ByteArray.data_append, ByteArray.data_append, ByteArray.data_append]
    simp [textB_list]
theorem ktextB_size (k : Key) : (ktextB k).size ≤ k.1.size + (textB k.2).size + 2 := by
  unfold ktextB
  split
  · omega
  · rw [ByteArray.size_append, ByteArray.size_append, ByteArray.size_append]
    have e1 : (⟨#[123]⟩ : ByteArray).size = 1 := rfl
    have e2 : (⟨#[125]⟩ : ByteArray).size = 1 := rfl
    omega
theorem kright_small {k : Key} (h : kright k = true) : k.1.size ≤ 12 ∧ k.2.length ≤ 4 ∧ (∀ t ∈ k.2, t.1.size ≤ 12 ∧ t.2.size ≤ 12) ∧ (textB k.2).size ≤ 104 ∧ (ktextB k).size ≤ 900 := by
  simp only [kright, Bool.and_eq_true] at h
  obtain ⟨h1, h2⟩ := right_small h.2
  have h3 := Word.name_value _ h.1
  simp only [Word.value, Word.fits, Bool.and_eq_true, decide_eq_true_eq] at h3
  have h4 : k.1.size ≤ 12 := by rw [size_list]; exact h3.1.2
  have h5 := text_size k.2 25 (fun t ht => by have := h2 t ht; omega)
  have h6 := ktextB_size k
  exact ⟨h4, h1, h2, by omega, by omega⟩
theorem kparse_textB {k : Key} (h : kright k = true) : kparse (ktextB k).data.toList = (k, 0) := by rw [ktextB_list]; exact kparse_text h

set_option maxHeartbeats 1000000 in
theorem back_skip (a : Option Addr) (c : Nat) (k : Key) (s : ByteArray) (w : World) (hE : Env w) (h : TRow w (.slice a k.2.length c) k.2) (hl : ∀ x ∈ k.2, x.1.size ≤ 281474976710656 ∧ x.2.size ≤ 281474976710656) (hz : k.1.size ≤ 281474976710656) (hs : s.size ≤ 281474976710656)
    (hg : greatT k.2 = true ∨ (greatT k.2 = false ∧ 200 < k.1.size) ∨ (greatT k.2 = false ∧ ¬ 200 < k.1.size ∧ 500 < s.size)) :
    Calls Tryd.prog 5 #[.agg #[.string k.1, .slice a k.2.length c], .string s] w fun e w' => e = .returned (.bool true) ∧ Below w.heap.size w w' := by
  rcases hg with hg | ⟨hg, h2⟩ | ⟨hg, h2, h3⟩
  all_goals
    go_enter Tryd.func5, Tryd.ntmps5
    go_wp2_with fail
    refine (alive_any _ (hE.alloc _)).mono ?_
    rintro e w1 ⟨rfl, n1⟩
    have c0 := newC (i := 0) n1
    have c1 := newC (i := 1) n1
    simp at c0 c1
    have d1 := belowA n1
    have hr1 := h.on d1
    clear n1
    go_wp2_with fail
    refine (great_any _ k.2 w1 hr1 hl).mono ?_
    rintro e w2 ⟨rfl, hw⟩
    have hw := hw.symm
    subst hw
    rw [hg]
    go_wp2_with fail
    go_ret
    exact ⟨rfl, d1⟩

set_option maxRecDepth 100000 in
set_option maxHeartbeats 1000000 in
theorem back_main (a : Option Addr) (c : Nat) (k : Key) (s : ByteArray) (w : World) (hE : Env w) (h : TRow w (.slice a k.2.length c) k.2) (hg : greatT k.2 = false) (hz : ¬ 200 < k.1.size) (hs : ¬ 500 < s.size) :
    Calls Tryd.prog 5 #[.agg #[.string k.1, .slice a k.2.length c], .string s] w fun e w' => e = .returned (.bool true) ∧ Below w.heap.size w w' := by
  obtain ⟨g1, g2⟩ := great_not hg
  obtain ⟨g3, g4⟩ := small_of g2 (by omega)
  have gt := great_text hg
  have hsl : s.size ≤ 900 := by omega
  have HOk := Lib.hid (kparse_ok (s := s.data.toList))
  have HEr := Lib.hid (kparse_err (s := s.data.toList))
  have HP2 : Hid (kright (kparse s.data.toList).1 = true → kparse (ktextB (kparse s.data.toList).1).data.toList = ((kparse s.data.toList).1, 0)) := fun h => kparse_textB h
  have HP1 : Hid (kright k = true → kparse (ktextB k).data.toList = (k, 0) ∧ (ktextB k).size ≤ 900) := fun h => ⟨kparse_textB h, (kright_small h).2.2.2.2⟩
  clear g2
  go_enter Tryd.func5, Tryd.ntmps5
  go_wp2_with fail
  refine (alive_any _ (hE.alloc _)).mono ?_
  rintro e w1 ⟨rfl, n1⟩
  have c0 := newC (i := 0) n1
  have c1 := newC (i := 1) n1
  simp at c0 c1
  have z1 : w.heap.size < w1.heap.size := by have := n1.size; simp at this; omega
  have d1 := belowA n1
  have hr1 := h.on d1
  have hE1 := hE.go d1
  clear n1 h hE
  go_wp2_with fail
  refine (great_any _ k.2 w1 hr1 g3).mono ?_
  rintro e w2 ⟨rfl, hw⟩
  have hw := hw.symm
  subst hw
  rw [hg]
  go_wp2_with fail
  refine (refKright_any _ k w1 (KRow.shut hr1) (by omega) g3 (by omega)).mono ?_
  rintro e w3 ⟨rfl, n3⟩
  have c0 := keepC n3 c0 z1
  have c1 := keepC n3 c1 z1
  have hr3 := hr1.on n3
  have hE3 := hE1.go n3
  have d3 := d1.trans (n3.mono d1.size)
  have z3 := Nat.lt_of_lt_of_le z1 n3.size
  clear n3 hr1 hE1 d1 z1
  cases hR : kright k
  · as_aux_lemma =>
      clear HP1 c0 c1 hr3 z3
      go_wp2_with fail
      refine (kparse_any s w3 hE3 hsl).mono ?_
      rintro e wa ⟨⟨_, rfl, hka⟩, na⟩
      obtain ⟨ada, cpa, rfl, ra⟩ := hka.open
      have hEa := (hE3).go na
      have da := d3.trans (na.mono d3.size)
      clear na d3 hka
      generalize kparse s.data.toList = C at *
      by_cases hC : C.2 = 0
      · obtain ⟨M, e⟩ := C
        have hC' : e = 0 := hC
        subst hC'
        have hRm := HOk.out rfl
        have HP3 := Lib.hid (HP2.out hRm)
        obtain ⟨q0, q1, q2, q3, q4⟩ := kright_small hRm
        obtain ⟨q5, q6⟩ := small_of q2 (by omega)
        dsimp only at *
        clear HP2 HOk HEr hC q2
        go_wp2_with fail
        refine (ktext_any _ M _ (KRow.shut (ra.on (aBelow _ _))) (by omega) q6 (by omega) (by omega)).mono ?_
        rintro e wb ⟨rfl, nb⟩
        have c0 := newC (i := 0) nb
        have c1 := newC (i := 1) nb
        simp at c0 c1
        have zb : wa.heap.size < wb.heap.size := by have := nb.size; simp at this; omega
        have hEb := hEa.go (belowA nb)
        have rb := ra.on (belowA nb)
        have db := da.trans ((belowA nb).mono da.size)
        clear nb da ra hEa
        go_wp2_with fail
        refine (kparse_any _ wb hEb q4).mono ?_
        rw [HP3.out]
        rintro e wc ⟨⟨_, rfl, hkc⟩, nc⟩
        obtain ⟨adc, cpc, rfl, rc⟩ := hkc.open
        have c0 := keepC nc c0 zb
        have c1 := keepC nc c1 zb
        have zc : wa.heap.size < wc.heap.size := Nat.lt_of_lt_of_le zb nc.size
        have rb := rb.on nc
        have dc := db.trans (nc.mono db.size)
        clear nc db hkc hEb HP3
        have k0 := fun o => keepC (aBelow wc o) c0 zc
        have k1 := fun o => keepC (aBelow wc o) c1 zc
        go_wp2_with fail
        refine (refKright_any _ M _ (KRow.shut (rb.on (aBelow _ _))) (by omega) q5 (by omega)).mono ?_
        rw [hRm]
        rintro e wd ⟨rfl, nd⟩
        have g0 := newC (i := 0) nd
        have g1 := newC (i := 1) nd
        simp at g0 g1
        have c0 := keepC (belowA nd) c0 zc
        have c1 := keepC (belowA nd) c1 zc
        have rb := rb.on (belowA nd)
        have rc := rc.on (belowA nd)
        have dd := dc.trans ((belowA nd).mono dc.size)
        clear nd dc k0 k1
        go_wp2_with fail
        refine (refKsame_any _ _ M M _ (KRow.shut rc) (KRow.shut rb) (by omega)).mono ?_
        rw [eqK_self]
        rintro e we ⟨rfl, ne⟩
        have de := dd.trans (ne.mono dd.size)
        go_wp2_with fail
        go_ret
        exact ⟨rfl, de⟩
      · have hnil := HEr.out hC
        obtain ⟨M, e⟩ := C
        have hM : M = none0 := hnil
        subst hM
        have he : ¬ e = 0 := hC
        have he2 : (e == 0) = false := by simp [he]
        have n1 : none0.1 = ⟨#[]⟩ := rfl
        have n2 : none0.2.length = 0 := rfl
        dsimp only
        rw [n1, n2]
        clear HP2 HOk HEr hC hnil n1 n2 ra
        go_wp2_with fail
        go_ret
        exact ⟨rfl, da.alloc da.size _⟩
  · as_aux_lemma =>
      obtain ⟨HP4, HP5⟩ := HP1.out hR
      have HP4 := Lib.hid HP4
      clear HP1
      go_wp2_with fail
      refine (ktext_any _ k w3 (KRow.shut hr3) (by omega) g4 (by omega) (by omega)).mono ?_
      rintro e w4 ⟨rfl, n4⟩
      have c0 := keepC n4 c0 z3
      have c1 := keepC n4 c1 z3
      have hr4 := hr3.on n4
      have hE4 := hE3.go n4
      have d4 := d3.trans (n4.mono d3.size)
      have z4 := Nat.lt_of_lt_of_le z3 n4.size
      clear n4 d3 hE3 hr3 z3
      go_wp2_with fail
      refine (kparse_any _ w4 hE4 HP5).mono ?_
      rw [HP4.out]
      rintro e w5 ⟨⟨_, rfl, hk5⟩, n5⟩
      obtain ⟨ad5, cp5, rfl, r5⟩ := hk5.open
      have c0 := keepC n5 c0 z4
      have c1 := keepC n5 c1 z4
      have hr5 := hr4.on n5
      have hE5 := hE4.go n5
      have d5 := d4.trans (n5.mono d4.size)
      have z5 := Nat.lt_of_lt_of_le z4 n5.size
      clear n5 d4 hE4 hr4 z4 hk5 HP4 HP5
      have k0 := fun o => keepC (aBelow w5 o) c0 z5
      have k1 := fun o => keepC (aBelow w5 o) c1 z5
      go_wp2_with fail
      refine (refKsame_any _ _ k k _ (KRow.shut (r5.on (aBelow _ _))) (KRow.shut (hr5.on (aBelow _ _))) (by omega)).mono ?_
      rw [eqK_self]
      rintro e w6 ⟨rfl, n6⟩
      have hE6 := hE5.go (belowA n6)
      have d6 := d5.trans ((belowA n6).mono d5.size)
      clear n6 d5 hE5 r5 hr5 k0 k1 c0 c1 z5
      go_wp2_with fail
      refine (kparse_any s w6 hE6 hsl).mono ?_
      rintro e wa ⟨⟨_, rfl, hka⟩, na⟩
      obtain ⟨ada, cpa, rfl, ra⟩ := hka.open
      have hEa := (hE6).go na
      have da := d6.trans (na.mono d6.size)
      clear na d6 hka
      generalize kparse s.data.toList = C at *
      by_cases hC : C.2 = 0
      · obtain ⟨M, e⟩ := C
        have hC' : e = 0 := hC
        subst hC'
        have hRm := HOk.out rfl
        have HP3 := Lib.hid (HP2.out hRm)
        obtain ⟨q0, q1, q2, q3, q4⟩ := kright_small hRm
        obtain ⟨q5, q6⟩ := small_of q2 (by omega)
        dsimp only at *
        clear HP2 HOk HEr hC q2
        go_wp2_with fail
        refine (ktext_any _ M _ (KRow.shut (ra.on (aBelow _ _))) (by omega) q6 (by omega) (by omega)).mono ?_
        rintro e wb ⟨rfl, nb⟩
        have c0 := newC (i := 0) nb
        have c1 := newC (i := 1) nb
        simp at c0 c1
        have zb : wa.heap.size < wb.heap.size := by have := nb.size; simp at this; omega
        have hEb := hEa.go (belowA nb)
        have rb := ra.on (belowA nb)
        have db := da.trans ((belowA nb).mono da.size)
        clear nb da ra hEa
        go_wp2_with fail
        refine (kparse_any _ wb hEb q4).mono ?_
        rw [HP3.out]
        rintro e wc ⟨⟨_, rfl, hkc⟩, nc⟩
        obtain ⟨adc, cpc, rfl, rc⟩ := hkc.open
        have c0 := keepC nc c0 zb
        have c1 := keepC nc c1 zb
        have zc : wa.heap.size < wc.heap.size := Nat.lt_of_lt_of_le zb nc.size
        have rb := rb.on nc
        have dc := db.trans (nc.mono db.size)
        clear nc db hkc hEb HP3
        have k0 := fun o => keepC (aBelow wc o) c0 zc
        have k1 := fun o => keepC (aBelow wc o) c1 zc
        go_wp2_with fail
        refine (refKright_any _ M _ (KRow.shut (rb.on (aBelow _ _))) (by omega) q5 (by omega)).mono ?_
        rw [hRm]
        rintro e wd ⟨rfl, nd⟩
        have g0 := newC (i := 0) nd
        have g1 := newC (i := 1) nd
        simp at g0 g1
        have c0 := keepC (belowA nd) c0 zc
        have c1 := keepC (belowA nd) c1 zc
        have rb := rb.on (belowA nd)
        have rc := rc.on (belowA nd)
        have dd := dc.trans ((belowA nd).mono dc.size)
        clear nd dc k0 k1
        go_wp2_with fail
        refine (refKsame_any _ _ M M _ (KRow.shut rc) (KRow.shut rb) (by omega)).mono ?_
        rw [eqK_self]
        rintro e we ⟨rfl, ne⟩
        have de := dd.trans (ne.mono dd.size)
        go_wp2_with fail
        go_ret
        exact ⟨rfl, de⟩
      · have hnil := HEr.out hC
        obtain ⟨M, e⟩ := C
        have hM : M = none0 := hnil
        subst hM
        have he : ¬ e = 0 := hC
        have he2 : (e == 0) = false := by simp [he]
        have n1 : none0.1 = ⟨#[]⟩ := rfl
        have n2 : none0.2.length = 0 := rfl
        dsimp only
        rw [n1, n2]
        clear HP2 HOk HEr hC hnil n1 n2 ra
        go_wp2_with fail
        go_ret
        exact ⟨rfl, da.alloc da.size _⟩

theorem back_walk (a : Option Addr) (c : Nat) (k : Key) (s : ByteArray) (w : World) (hE : Env w) (h : TRow w (.slice a k.2.length c) k.2) (hl : ∀ x ∈ k.2, x.1.size ≤ 281474976710656 ∧ x.2.size ≤ 281474976710656) (hz : k.1.size ≤ 281474976710656) (hs : s.size ≤ 281474976710656) :
    Calls Tryd.prog 5 #[.agg #[.string k.1, .slice a k.2.length c], .string s] w fun e w' => e = .returned (.bool true) ∧ Below w.heap.size w w' := by
  cases hg : greatT k.2
  · by_cases h2 : 200 < k.1.size
    · exact back_skip a c k s w hE h hl hz hs (Or.inr (Or.inl ⟨hg, h2⟩))
    · by_cases h3 : 500 < s.size
      · exact back_skip a c k s w hE h hl hz hs (Or.inr (Or.inr ⟨hg, h2, h3⟩))
      · exact back_main a c k s w hE h hg h2 h3
  · exact back_skip a c k s w hE h hl hz hs (Or.inl hg)
end Go.Proofs.YtfjbbaejeckonaaDoor
