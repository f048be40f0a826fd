/- Walks: the laws TagParses and TagBack. -/
import Derived.Test.YtjeimgngnbgopaaDoorTA
namespace Go.Proofs.YtjeimgngnbgopaaDoor
open Go Go.RowKit Go.Sort Tg

set_option maxHeartbeats 1000000 in
theorem parses_walk (s : ByteArray) (w : World) (hE : Env w) (hs : s.size ≤ 281474976710656) :
    Calls Tryd.prog 4 #[.string s] w fun e w' => e = .returned (.bool true) ∧ Below w.heap.size w w' := by
  by_cases hl : 500 < s.size
  · go_enter Tryd.func4, Tryd.ntmps4
    go_wp2_with (go_at_call 7; refine (alive_any w hE).mono ?_; rintro e w1 ⟨rfl, d1⟩)
    go_ret
    exact ⟨rfl, d1⟩
  · have hple := parse_le s.data.toList
    go_enter Tryd.func4, Tryd.ntmps4
    go_wp2_with fail
    refine (alive_any w hE).mono ?_
    rintro e w1 ⟨rfl, d1⟩
    have hE1 := hE.go d1
    go_wp2_with fail
    refine (parse_any s w1 hE1 (by omega)).mono ?_
    rintro e w2 ⟨⟨v2, rfl, hr2⟩, n2⟩
    have d2 := d1.trans (n2.mono d1.size)
    clear n2 d1 hE1
    go_wp2_with fail
    refine (refParse_any s w2 (by omega)).mono ?_
    rintro e w3 ⟨⟨v3, rfl, hr3⟩, n3⟩
    have d3 := d2.trans (n3.mono d2.size)
    have hr2 := hr2.on n3
    clear n3 d2
    generalize parse s.data.toList = C at *
    go_wp2_with fail
    refine (same_any v2 v3 C.1 _ hr2 hr3 (by omega)).mono ?_
    rintro e w4 ⟨rfl, n4⟩
    have d4 := d3.trans (n4.mono d3.size)
    go_wp2_with fail
    go_ret
    exact ⟨rfl, d4⟩

theorem great_not {l : List Tag} (h : greatT l = false) : l.length ≤ 20 ∧ ∀ x ∈ l, x.1.size ≤ 100 ∧ x.2.size ≤ 100 := by
  simp only [greatT, Bool.or_eq_false_iff, decide_eq_false_iff_not] at h
  refine ⟨by omega, fun x hx => ?_⟩
  have h2 := h.2
  rw [List.any_eq_false] at h2
  have := h2 x hx
  simp at this
  omega

set_option maxHeartbeats 1000000 in
theorem back_great (v : Value) (l : List Tag) (s : ByteArray) (w : World) (hE : Env w) (h : TRow w v l) (hl : ∀ x ∈ l, x.1.size ≤ 281474976710656 ∧ x.2.size ≤ 281474976710656) (hg : greatT l = true) :
    Calls Tryd.prog 5 #[v, .string s] w fun e w' => e = .returned (.bool true) ∧ Below w.heap.size w w' := by
  go_enter Tryd.func5, Tryd.ntmps5
  go_wp2_with fail
  refine (alive_any w hE).mono ?_
  rintro e w1 ⟨rfl, d1⟩
  go_wp2_with fail
  refine (great_any v l w1 (h.on d1) hl).mono ?_
  rintro e w2 ⟨rfl, rfl⟩
  rw [hg]
  go_wp2_with fail
  go_ret
  exact ⟨rfl, d1⟩

set_option maxHeartbeats 1000000 in
theorem back_long (v : Value) (l : List Tag) (s : ByteArray) (w : World) (hE : Env w) (h : TRow w v l) (hl : ∀ x ∈ l, x.1.size ≤ 281474976710656 ∧ x.2.size ≤ 281474976710656) (hg : greatT l = false) (hs : s.size ≤ 281474976710656) (hs2 : 500 < s.size) :
    Calls Tryd.prog 5 #[v, .string s] w fun e w' => e = .returned (.bool true) ∧ Below w.heap.size w w' := by
  go_enter Tryd.func5, Tryd.ntmps5
  go_wp2_with fail
  refine (alive_any w hE).mono ?_
  rintro e w1 ⟨rfl, d1⟩
  go_wp2_with fail
  refine (great_any v l w1 (h.on d1) hl).mono ?_
  rintro e w2 ⟨rfl, rfl⟩
  rw [hg]
  go_wp2_with fail
  go_ret
  exact ⟨rfl, d1⟩

theorem small_of {l : List Tag} {B : Nat} (h : ∀ x ∈ l, x.1.size ≤ B ∧ x.2.size ≤ B) (hB : B ≤ 100000) : (∀ x ∈ l, x.1.size ≤ 281474976710656 ∧ x.2.size ≤ 281474976710656) ∧ ∀ x ∈ l, x.1.size ≤ 100000 ∧ x.2.size ≤ 100000 :=
  ⟨fun x hx => by have := h x hx; omega, fun x hx => by have := h x hx; omega⟩

set_option maxRecDepth 100000 in
set_option maxHeartbeats 1000000 in
theorem back_walk (v : Value) (l : List Tag) (s : ByteArray) (w : World) (hE : Env w) (h : TRow w v l) (hl : ∀ x ∈ l, x.1.size ≤ 281474976710656 ∧ x.2.size ≤ 281474976710656) (hg : greatT l = false) (hs : ¬ 500 < s.size) :
    Calls Tryd.prog 5 #[v, .string s] w fun e w' => e = .returned (.bool true) ∧ Below w.heap.size w w' := by
  obtain ⟨g1, g2⟩ := great_not hg
  obtain ⟨g3, g4⟩ := small_of g2 (by omega)
  have hple := parse_le s.data.toList
  have HOk := Lib.hid (parse_ok (s := s.data.toList))
  have HEr := Lib.hid (parse_err (s := s.data.toList))
  have HP1 : Hid (right l = true → parse (textB l).data.toList = (l, 0)) := fun h => by rw [textB_list]; exact parse_text h
  have HP2 : Hid (right (parse s.data.toList).1 = true → parse (textB (parse s.data.toList).1).data.toList = ((parse s.data.toList).1, 0)) := fun h => by rw [textB_list]; exact parse_text h
  -- what stands behind the first half
  have second : ∀ w1, Below w.heap.size w w1 → Env w1 → True := fun _ _ _ => trivial
  clear second
  go_enter Tryd.func5, Tryd.ntmps5
  go_wp2_with fail
  refine (alive_any w hE).mono ?_
  rintro e w1 ⟨rfl, d1⟩
  go_wp2_with fail
  refine (great_any v l w1 (h.on d1) hl).mono ?_
  rintro e w1 ⟨rfl, rfl⟩
  rw [hg]
  have hr1 := h.on d1
  have hE1 := hE.go d1
  go_wp2_with fail
  refine (refRight_any v l w1 hr1 (by omega) g3).mono ?_
  rintro e w2 ⟨rfl, n2⟩
  have hr2 := hr1.on n2
  have hE2 := hE1.go n2
  have d2 := d1.trans (n2.mono d1.size)
  clear n2 hr1 hE1 d1
  cases hR : right l
  · as_aux_lemma =>
      clear HP1
      go_wp2_with fail
      refine (parse_any s w2 hE2 (by omega)).mono ?_
      rintro e w3 ⟨⟨v3, rfl, hr3⟩, n3⟩
      have hE3 := hE2.go n3
      have d3 := d2.trans (n3.mono d2.size)
      clear n3 d2 hE2
      generalize parse s.data.toList = C at *
      by_cases hC : C.2 = 0
      · obtain ⟨M, e⟩ := C
        have hC' : e = 0 := hC
        subst hC'
        have hRm := HOk.out rfl
        have HP3 := Lib.hid (HP2.out hRm)
        obtain ⟨q1, q2⟩ := right_small hRm
        obtain ⟨q3, q4⟩ := small_of q2 (by omega)
        have hts := right_text hRm
        dsimp only at *
        clear HP2 HOk HEr hC
        go_wp2_with fail
        refine (text_any v3 M w3 hr3 (by omega) q4 (by omega)).mono ?_
        rintro e w4 ⟨rfl, n4⟩
        have hr4 := hr3.on n4
        have hE4 := hE3.go n4
        have d4 := d3.trans (n4.mono d3.size)
        clear n4 d3 hE3 hr3
        go_wp2_with fail
        refine (parse_any _ w4 hE4 hts).mono ?_
        rw [HP3.out]
        rintro e w5 ⟨⟨v5, rfl, hr5⟩, n5⟩
        have hr4 := hr4.on n5
        have d5 := d4.trans (n5.mono d4.size)
        clear n5 d4 hE4
        go_wp2_with fail
        refine (right_any v3 M w5 hr4 (by omega) q3).mono ?_
        rw [hRm]
        rintro e w6 ⟨rfl, n6⟩
        have hr4 := hr4.on n6
        have hr5 := hr5.on n6
        have d6 := d5.trans (n6.mono d5.size)
        clear n6 d5
        go_wp2_with fail
        refine (same_any v5 v3 M w6 hr5 hr4 (by omega)).mono ?_
        rintro e w7 ⟨rfl, n7⟩
        have d7 := d6.trans (n7.mono d6.size)
        go_wp2_with fail
        go_ret
        exact ⟨rfl, d7⟩
      · have hnil := HEr.out hC
        obtain ⟨M, e⟩ := C
        have hM : M = [] := hnil
        subst hM
        have he : ¬ e = 0 := hC
        have he2 : (e == 0) = false := by simp [he]
        obtain ⟨a3, c3, hv3, _, _⟩ := hr3
        have hv3' : v3 = .slice a3 0 c3 := hv3
        subst hv3'
        dsimp only at *
        clear HP2 HOk HEr hC hnil hv3
        go_wp2_with fail
        go_ret
        exact ⟨rfl, d3⟩
  · as_aux_lemma =>
      have HP4 := Lib.hid (HP1.out hR)
      have hts := right_text hR
      clear HP1
      go_wp2_with fail
      refine (text_any v l w2 hr2 (by omega) g4 (by omega)).mono ?_
      rintro e w3 ⟨rfl, n3⟩
      have hr3 := hr2.on n3
      have hE3 := hE2.go n3
      have d3 := d2.trans (n3.mono d2.size)
      clear n3 d2 hE2 hr2
      go_wp2_with fail
      refine (parse_any _ w3 hE3 hts).mono ?_
      rw [HP4.out]
      rintro e w4 ⟨⟨v4, rfl, hr4⟩, n4⟩
      have hr3 := hr3.on n4
      have hE4 := hE3.go n4
      have d4 := d3.trans (n4.mono d3.size)
      clear n4 d3 hE3
      go_wp2_with fail
      refine (same_any v4 v l w4 hr4 hr3 (by omega)).mono ?_
      rintro e w5 ⟨rfl, n5⟩
      have hE5 := hE4.go n5
      have d5 := d4.trans (n5.mono d4.size)
      clear n5 d4 hE4 hr3 hr4
      go_wp2_with fail
      refine (parse_any s w5 hE5 (by omega)).mono ?_
      rintro e w6 ⟨⟨v6, rfl, hr6⟩, n6⟩
      have hE6 := hE5.go n6
      have d6 := d5.trans (n6.mono d5.size)
      clear n6 d5 hE5
      generalize parse s.data.toList = C at *
      by_cases hC : C.2 = 0
      · obtain ⟨M, e⟩ := C
        have hC' : e = 0 := hC
        subst hC'
        have hRm := HOk.out rfl
        have HP3 := Lib.hid (HP2.out hRm)
        obtain ⟨q1, q2⟩ := right_small hRm
        obtain ⟨q3, q4⟩ := small_of q2 (by omega)
        have hts2 := right_text hRm
        dsimp only at *
        clear HP2 HOk HEr hC
        go_wp2_with fail
        refine (text_any v6 M w6 hr6 (by omega) q4 (by omega)).mono ?_
        rintro e w7 ⟨rfl, n7⟩
        have hr7 := hr6.on n7
        have hE7 := hE6.go n7
        have d7 := d6.trans (n7.mono d6.size)
        clear n7 d6 hE6 hr6
        go_wp2_with fail
        refine (parse_any _ w7 hE7 hts2).mono ?_
        rw [HP3.out]
        rintro e w8 ⟨⟨v8, rfl, hr8⟩, n8⟩
        have hr7 := hr7.on n8
        have d8 := d7.trans (n8.mono d7.size)
        clear n8 d7 hE7
        go_wp2_with fail
        refine (right_any v6 M w8 hr7 (by omega) q3).mono ?_
        rw [hRm]
        rintro e w9 ⟨rfl, n9⟩
        have hr7 := hr7.on n9
        have hr8 := hr8.on n9
        have d9 := d8.trans (n9.mono d8.size)
        clear n9 d8
        go_wp2_with fail
        refine (same_any v8 v6 M w9 hr8 hr7 (by omega)).mono ?_
        rintro e w10 ⟨rfl, n10⟩
        have d10 := d9.trans (n10.mono d9.size)
        go_wp2_with fail
        go_ret
        exact ⟨rfl, d10⟩
      · have hnil := HEr.out hC
        obtain ⟨M, e⟩ := C
        have hM : M = [] := hnil
        subst hM
        have he : ¬ e = 0 := hC
        have he2 : (e == 0) = false := by simp [he]
        obtain ⟨a6, c6, hv6, _, _⟩ := hr6
        have hv6' : v6 = .slice a6 0 c6 := hv6
        subst hv6'
        dsimp only at *
        clear HP2 HOk HEr hC hnil hv6
        go_wp2_with fail
        go_ret
        exact ⟨rfl, d6⟩
end Go.Proofs.YtjeimgngnbgopaaDoor
