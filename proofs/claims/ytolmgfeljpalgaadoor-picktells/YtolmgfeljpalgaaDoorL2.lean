/- Walks: the law PickTells. -/
import Derived.Test.YtolmgfeljpalgaaDoorPB
namespace Go.Proofs.YtolmgfeljpalgaaDoor
open Go Go.RowKit Tg Pk

theorem greatM_not {l : List Match} (h : greatM l = false) : l.length ≤ 20 ∧ ∀ x ∈ l, x.2.1.size ≤ 100 ∧ x.2.2.size ≤ 100 := by
  simp only [greatM, Bool.or_eq_false_iff, decide_eq_false_iff_not] at h
  refine ⟨by omega, fun x hx => ?_⟩
  have h2 := h.2
  rw [List.any_eq_false] at h2
  have := h2 x hx
  simp at this
  omega
theorem smallM_of {l : List Match} {B : Nat} (h : ∀ x ∈ l, x.2.1.size ≤ B ∧ x.2.2.size ≤ B) (hB : B ≤ 100000) : (∀ x ∈ l, x.2.1.size ≤ 281474976710656 ∧ x.2.2.size ≤ 281474976710656) ∧ ∀ x ∈ l, x.2.1.size ≤ 100000 ∧ x.2.2.size ≤ 100000 :=
  ⟨fun x hx => by have := h x hx; omega, fun x hx => by have := h x hx; omega⟩
theorem greatM_text {l : List Match} (h : greatM l = false) : (ptextB l).size ≤ 4060 := by
  obtain ⟨h1, h2⟩ := greatM_not h
  have := ptext_size l 202 (fun t ht => by have := h2 t ht; omega)
  omega

set_option maxHeartbeats 1000000 in
theorem tells_skip (v u : Value) (l m : List Match) (w : World) (hE : Env w) (h : MRow w v l) (h' : MRow w u m) (hl : ∀ x ∈ l, x.2.1.size ≤ 281474976710656 ∧ x.2.2.size ≤ 281474976710656) (hm : ∀ x ∈ m, x.2.1.size ≤ 281474976710656 ∧ x.2.2.size ≤ 281474976710656)
    (hg : greatM l = true ∨ (greatM l = false ∧ greatM m = true)) :
    Calls Tryd.prog 3 #[v, u] w fun e w' => e = .returned (.bool true) ∧ Below w.heap.size w w' := by
  rcases hg with hg | ⟨hg, hg'⟩
  · go_enter Tryd.func3, Tryd.ntmps3
    go_wp2_with fail
    refine (alive_any _ hE).mono ?_
    rintro e w1 ⟨rfl, d1⟩
    have hr1 := h.on d1
    go_wp2_with fail
    refine (greatM_any _ l w1 hr1 hl).mono ?_
    rintro e w2 ⟨rfl, hw⟩
    have hw := hw.symm
    subst hw
    rw [hg]
    go_wp2_with fail
    go_ret
    exact ⟨rfl, d1⟩
  · go_enter Tryd.func3, Tryd.ntmps3
    go_wp2_with fail
    refine (alive_any _ hE).mono ?_
    rintro e w1 ⟨rfl, d1⟩
    have hr1 := h.on d1
    have hm1 := h'.on d1
    go_wp2_with fail
    refine (greatM_any _ l w1 hr1 hl).mono ?_
    rintro e w2 ⟨rfl, hw⟩
    have hw := hw.symm
    subst hw
    rw [hg]
    go_wp2_with fail
    refine (greatM_any _ m w1 hm1 hm).mono ?_
    rintro e w2 ⟨rfl, hw⟩
    have hw := hw.symm
    subst hw
    rw [hg']
    go_wp2_with fail
    go_ret
    exact ⟨rfl, d1⟩

set_option maxHeartbeats 1000000 in
theorem tells_main (v u : Value) (l m : List Match) (w : World) (hE : Env w) (h : MRow w v l) (h' : MRow w u m) (hg : greatM l = false) (hg' : greatM m = false) :
    Calls Tryd.prog 3 #[v, u] w fun e w' => e = .returned (.bool true) ∧ Below w.heap.size w w' := by
  obtain ⟨g1, g2⟩ := greatM_not hg
  obtain ⟨g3, g4⟩ := smallM_of g2 (by omega)
  obtain ⟨p1, p2⟩ := greatM_not hg'
  obtain ⟨p3, _⟩ := smallM_of p2 (by omega)
  have gt := greatM_text hg
  clear g2 p2
  have qR : (pright l == pright l) = true := by simp
  have qE : (decide (l = m) == decide (l = m)) = true := by simp
  have qT := beq_self_ba (ptextB l)
  go_enter Tryd.func3, Tryd.ntmps3
  go_wp2_with fail
  refine (alive_any _ hE).mono ?_
  rintro e w1 ⟨rfl, d1⟩
  have hv := h.on d1
  have hu := h'.on d1
  clear h h' hE
  go_wp2_with fail
  refine (greatM_any _ l w1 hv g3).mono ?_
  rintro e w2 ⟨rfl, hw⟩
  have hw := hw.symm
  subst hw
  rw [hg]
  go_wp2_with fail
  refine (greatM_any _ m w1 hu p3).mono ?_
  rintro e w2 ⟨rfl, hw⟩
  have hw := hw.symm
  subst hw
  rw [hg']
  go_wp2_with fail
  refine (rightM_any _ l _ hv (by omega) g3).mono ?_
  rintro e w2 ⟨rfl, n2⟩
  have hv := hv.on n2
  have hu := hu.on n2
  have d2 := d1.trans (n2.mono d1.size)
  clear n2 d1
  go_wp2_with fail
  refine (refRightM_any _ l _ hv (by omega) g3).mono ?_
  rintro e w3 ⟨rfl, n3⟩
  have hv := hv.on n3
  have hu := hu.on n3
  have d3 := d2.trans (n3.mono d2.size)
  clear n3 d2
  go_wp2_with fail
  refine (textM_any _ l _ hv (by omega) g4 (by omega)).mono ?_
  rintro e w4 ⟨rfl, n4⟩
  have hv := hv.on n4
  have hu := hu.on n4
  have d4 := d3.trans (n4.mono d3.size)
  clear n4 d3
  go_wp2_with fail
  refine (refTextM_any _ l _ hv (by omega) g4 (by omega)).mono ?_
  rintro e w5 ⟨rfl, n5⟩
  have hv := hv.on n5
  have hu := hu.on n5
  have d5 := d4.trans (n5.mono d4.size)
  clear n5 d4
  go_wp2_with fail
  refine (same_any _ _ l m _ hv hu (by omega)).mono ?_
  rintro e w6 ⟨rfl, n6⟩
  have hv := hv.on n6
  have hu := hu.on n6
  have d6 := d5.trans (n6.mono d5.size)
  clear n6 d5
  go_wp2_with fail
  refine (refSame_any _ _ l m _ hv hu (by omega)).mono ?_
  rintro e w7 ⟨rfl, n7⟩
  have hv := hv.on n7
  have hu := hu.on n7
  have d7 := d6.trans (n7.mono d6.size)
  clear n7 d6
  go_wp2_with fail
  go_ret
  exact ⟨rfl, d7⟩

theorem tells_walk (v u : Value) (l m : List Match) (w : World) (hE : Env w) (h : MRow w v l) (h' : MRow w u m) (hl : ∀ x ∈ l, x.2.1.size ≤ 281474976710656 ∧ x.2.2.size ≤ 281474976710656) (hm : ∀ x ∈ m, x.2.1.size ≤ 281474976710656 ∧ x.2.2.size ≤ 281474976710656) :
    Calls Tryd.prog 3 #[v, u] w fun e w' => e = .returned (.bool true) ∧ Below w.heap.size w w' := by
  cases hg : greatM l
  · cases hg' : greatM m
    · exact tells_main v u l m w hE h h' hg hg'
    · exact tells_skip v u l m w hE h h' hl hm (.inr ⟨hg, hg'⟩)
  · exact tells_skip v u l m w hE h h' hl hm (.inl hg)
end Go.Proofs.YtolmgfeljpalgaaDoor
