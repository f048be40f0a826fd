/- Walks: the law KeyApart. -/
import Derived.Test.YtfjbbaejeckonaaDoorL2
import Derived.Deep.RegionHeld3
namespace Go.Proofs.YtfjbbaejeckonaaDoor
open Go Go.RowKit Tg Ky

theorem keq_text {k m : Key} (hk : kright k = true) (hm : kright m = true) : ((ktextB k).toList == (ktextB m).toList) = eqK k m := by
  rw [beq_ba, Bool.eq_iff_iff, eqB_true, eqK_true]
  constructor
  · intro h
    apply ktext_inj hk hm
    rw [← ktextB_list, ← ktextB_list, h]
  · rintro rfl
    rfl
/-- Two boxes of two cells, and that nothing older has turned. -/
theorem held4_on {ab bb : Nat} {x y u v : Value} {w W w3 : World}
    (h : W.cell? ⟨ab, 0, none⟩ = some x ∧ W.cell? ⟨ab, 1, none⟩ = some y ∧ W.cell? ⟨bb, 0, none⟩ = some u ∧ W.cell? ⟨bb, 1, none⟩ = some v ∧ Below ab w W) (n : Below W.heap.size W w3) :
    w3.cell? ⟨ab, 0, none⟩ = some x ∧ w3.cell? ⟨ab, 1, none⟩ = some y ∧ w3.cell? ⟨bb, 0, none⟩ = some u ∧ w3.cell? ⟨bb, 1, none⟩ = some v ∧ Below ab w w3 := by
  obtain ⟨h0, h1, h2, h3, h4⟩ := h
  have z0 := World.block_lt_of_cell? _ _ h0
  have z2 := World.block_lt_of_cell? _ _ h2
  exact ⟨keepC n h0 z0, keepC n h1 z0, keepC n h2 z2, keepC n h3 z2, h4.trans (n.mono (Nat.le_of_lt z0))⟩
theorem held4_b {ab bb : Nat} {x y u v : Value} {w W : World} (h : W.cell? ⟨ab, 0, none⟩ = some x ∧ W.cell? ⟨ab, 1, none⟩ = some y ∧ W.cell? ⟨bb, 0, none⟩ = some u ∧ W.cell? ⟨bb, 1, none⟩ = some v ∧ Below ab w W) : Below ab w W := h.2.2.2.2

set_option maxHeartbeats 1000000 in
theorem apart_skip (a b : Option Addr) (c f : Nat) (k m : Key) (w : World) (hE : Env w) (h : TRow w (.slice a k.2.length c) k.2) (h' : TRow w (.slice b m.2.length f) m.2)
    (hl : ∀ x ∈ k.2, x.1.size ≤ 281474976710656 ∧ x.2.size ≤ 281474976710656) (hl' : ∀ x ∈ m.2, x.1.size ≤ 281474976710656 ∧ x.2.size ≤ 281474976710656)
    (hg : greatT k.2 = true ∨ (greatT k.2 = false ∧ greatT m.2 = true)) :
    Calls Tryd.prog 6 #[.agg #[.string k.1, .slice a k.2.length c], .agg #[.string m.1, .slice b m.2.length f]] w fun e w' => e = .returned (.bool true) ∧ Below w.heap.size w w' := by
  rcases hg with hg | ⟨hg, hg2⟩
  · go_enter Tryd.func6, Tryd.ntmps6
    go_wp2_with fail
    refine (alive_any _ ((hE.alloc _).alloc _)).mono ?_
    rintro e w1 ⟨rfl, n1⟩
    have a0 := newC (i := 0) (belowA n1)
    have a1 := newC (i := 1) (belowA n1)
    simp at a0 a1
    have d1 := belowA2 n1
    have hr1 := h.on d1
    clear n1
    go_wp2_with fail
    refine (great_any _ k.2 w1 hr1 hl).mono ?_
    rintro e w2 ⟨rfl, hw⟩
    have hw := hw.symm
    subst hw
    rw [hg]
    go_wp2_with fail
    go_ret
    exact ⟨rfl, d1⟩
  · go_enter Tryd.func6, Tryd.ntmps6
    go_wp2_with fail
    refine (alive_any _ ((hE.alloc _).alloc _)).mono ?_
    rintro e w1 ⟨rfl, n1⟩
    have a0 := newC (i := 0) (belowA n1)
    have a1 := newC (i := 1) (belowA n1)
    have b0 := newC (i := 0) n1
    have b1 := newC (i := 1) n1
    simp at a0 a1 b0 b1
    have d1 := belowA2 n1
    have hr1 := h.on d1
    have hr2 := h'.on d1
    clear n1
    go_wp2_with fail
    refine (great_any _ k.2 w1 hr1 hl).mono ?_
    rintro e w2 ⟨rfl, hw⟩
    have hw := hw.symm
    subst hw
    rw [hg]
    go_wp2_with fail
    refine (great_any _ m.2 w1 hr2 hl').mono ?_
    rintro e w2 ⟨rfl, hw⟩
    have hw := hw.symm
    subst hw
    rw [hg2]
    go_wp2_with fail
    go_ret
    exact ⟨rfl, d1⟩

set_option maxRecDepth 100000 in
set_option maxHeartbeats 1000000 in
theorem apart_main (a b : Option Addr) (c f : Nat) (k m : Key) (w : World) (hE : Env w) (h : TRow w (.slice a k.2.length c) k.2) (h' : TRow w (.slice b m.2.length f) m.2)
    (hz : k.1.size ≤ 281474976710656) (hz' : m.1.size ≤ 281474976710656) (hg : greatT k.2 = false) (hg' : greatT m.2 = false) :
    Calls Tryd.prog 6 #[.agg #[.string k.1, .slice a k.2.length c], .agg #[.string m.1, .slice b m.2.length f]] w fun e w' => e = .returned (.bool true) ∧ Below w.heap.size w w' := by
  obtain ⟨g1, g2⟩ := great_not hg
  obtain ⟨g3, g4⟩ := small_of g2 (by omega)
  obtain ⟨p1, p2⟩ := great_not hg'
  obtain ⟨p3, p4⟩ := small_of p2 (by omega)
  have gt := great_text hg
  have pt := great_text hg'
  clear g2 p2
  go_enter Tryd.func6, Tryd.ntmps6
  go_wp2_with fail
  refine (alive_any _ ((hE.alloc _).alloc _)).mono ?_
  rintro e w1 ⟨rfl, n1⟩
  have a0 := newC (i := 0) (belowA n1)
  have a1 := newC (i := 1) (belowA n1)
  have b0 := newC (i := 0) n1
  have b1 := newC (i := 1) n1
  simp at a0 a1 b0 b1
  have d1 := belowA2 n1
  have z1 : w.heap.size + 1 < w1.heap.size := by have := n1.size; simp at this; omega
  clear n1 hE
  go_wp2_with fail
  refine (great_any _ k.2 w1 (h.on d1) g3).mono ?_
  rintro e w2 ⟨rfl, hw⟩
  have hw := hw.symm
  subst hw
  rw [hg]
  go_wp2_with fail
  refine (great_any _ m.2 w1 (h'.on d1) p3).mono ?_
  rintro e w2 ⟨rfl, hw⟩
  have hw := hw.symm
  subst hw
  rw [hg']
  go_wp2_with fail
  refine (refKright_any _ k w1 (KRow.shut (h.on d1)) (by omega) g3 hz).mono ?_
  rintro e w2 ⟨rfl, n2⟩
  have a0 := keepC n2 a0 (by omega)
  have a1 := keepC n2 a1 (by omega)
  have b0 := keepC n2 b0 z1
  have b1 := keepC n2 b1 z1
  have d2 := d1.trans (n2.mono d1.size)
  have z2 := Nat.lt_of_lt_of_le z1 n2.size
  clear n2 d1 z1
  cases hR : kright k
  · as_aux_lemma =>
      go_wp2_with fail
      go_ret
      exact ⟨rfl, d2⟩
  · go_wp2_with fail
    refine (refKright_any _ m w2 (KRow.shut (h'.on d2)) (by omega) p3 hz').mono ?_
    rintro e w3 ⟨rfl, n3⟩
    have a0 := keepC n3 a0 (by omega)
    have a1 := keepC n3 a1 (by omega)
    have b0 := keepC n3 b0 z2
    have b1 := keepC n3 b1 z2
    have d3 := d2.trans (n3.mono d2.size)
    clear n3 d2 z2
    cases hR' : kright m
    · as_aux_lemma =>
        go_wp2_with fail
        go_ret
        exact ⟨rfl, d3⟩
    · obtain ⟨q0, _, _, _, _⟩ := kright_small hR
      obtain ⟨r0, _, _, _, _⟩ := kright_small hR'
      have H1 := Lib.hid fun w1 (n1 : Below w.heap.size w w1) => ktext_any _ k w1 (KRow.shut (h.on n1)) (by omega) g4 (by omega) (by omega)
      have H2 := Lib.hid fun w1 (n1 : Below w.heap.size w w1) => ktext_any _ m w1 (KRow.shut (h'.on n1)) (by omega) p4 (by omega) (by omega)
      have H3 := Lib.hid fun w1 (n1 : Below w.heap.size w w1) => refKsame_any _ _ k m w1 (KRow.shut (h.on n1)) (KRow.shut (h'.on n1)) (by omega)
      have H4 := Lib.hid fun w1 (n1 : Below w.heap.size w w1) => ksame_any _ _ k m w1 (KRow.shut (h.on n1)) (KRow.shut (h'.on n1)) (by omega)
      have hq := keq_text hR hR'
      clear hR hR' q0 r0 hz hz' gt pt g1 g3 g4 p1 p3 p4 hg hg' h h'
      generalize ktextB k = T1 at *
      generalize ktextB m = T2 at *
      generalize eqK k m = E at *
      generalize k.2.length = lk at *
      generalize m.2.length = lm at *
      generalize k.1 = nk at *
      generalize m.1 = nm at *
      go_wp2_with fail
      have hS : w3.drew.cell? ⟨w.heap.size, 0, none⟩ = some (.string nk) ∧ w3.drew.cell? ⟨w.heap.size, 1, none⟩ = some (.slice a lk c) ∧ w3.drew.cell? ⟨w.heap.size + 1, 0, none⟩ = some (.string nm) ∧ w3.drew.cell? ⟨w.heap.size + 1, 1, none⟩ = some (.slice b lm f) ∧ Below w.heap.size w w3.drew := ⟨a0, a1, b0, b1, d3.drew⟩
      generalize w.heap.size + 1 = bb at *
      generalize hg : w.heap.size = ab at *
      have HG := Lib.hid hg
      clear hg a0 a1 b0 b1 d3
      cases E
      all_goals
        go_region_held3 (fun w' => w'.cell? ⟨ab, 0, none⟩ = some (.string nk) ∧ w'.cell? ⟨ab, 1, none⟩ = some (.slice a lk c) ∧ w'.cell? ⟨bb, 0, none⟩ = some (.string nm) ∧ w'.cell? ⟨bb, 1, none⟩ = some (.slice b lm f) ∧ Below ab w w') (first | assumption)
          (first
            | (go_at_call_of 15 (Value.string nk); refine (H1.out _ (held4_b (by assumption))).mono ?_; rintro e w4 ⟨rfl, n4⟩; have hS4 := held4_on (by assumption) n4; clear n4)
            | (go_at_call_of 15 (Value.string nm); refine (H2.out _ (held4_b (by assumption))).mono ?_; rintro e w4 ⟨rfl, n4⟩; have hS4 := held4_on (by assumption) n4; clear n4)
            | (go_at_call 17; refine (H4.out _ (held4_b (by assumption))).mono ?_; rintro e w4 ⟨rfl, n4⟩; have hS4 := held4_on (by assumption) n4; clear n4)
            | (go_at_call 12; refine (H3.out _ (held4_b (by assumption))).mono ?_; rintro e w4 ⟨rfl, n4⟩; have hS4 := held4_on (by assumption) n4; clear n4)
            | fail)
        all_goals
          have d4 : Below w.heap.size w w4 := by rw [HG.out]; exact held4_b hS4
          clear hS4 hS
          go_wp2
          go_ret
          exact ⟨rfl, d4⟩

theorem apart_walk (a b : Option Addr) (c f : Nat) (k m : Key) (w : World) (hE : Env w) (h : TRow w (.slice a k.2.length c) k.2) (h' : TRow w (.slice b m.2.length f) m.2)
    (hl : ∀ x ∈ k.2, x.1.size ≤ 281474976710656 ∧ x.2.size ≤ 281474976710656) (hl' : ∀ x ∈ m.2, x.1.size ≤ 281474976710656 ∧ x.2.size ≤ 281474976710656)
    (hz : k.1.size ≤ 281474976710656) (hz' : m.1.size ≤ 281474976710656) :
    Calls Tryd.prog 6 #[.agg #[.string k.1, .slice a k.2.length c], .agg #[.string m.1, .slice b m.2.length f]] w fun e w' => e = .returned (.bool true) ∧ Below w.heap.size w w' := by
  cases hg : greatT k.2
  · cases hg' : greatT m.2
    · exact apart_main a b c f k m w hE h h' hz hz' hg hg'
    · exact apart_skip a b c f k m w hE h h' hl hl' (Or.inr ⟨hg, hg'⟩)
  · exact apart_skip a b c f k m w hE h h' hl hl' (Or.inl hg)
end Go.Proofs.YtfjbbaejeckonaaDoor
