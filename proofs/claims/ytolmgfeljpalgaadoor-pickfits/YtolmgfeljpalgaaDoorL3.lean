/- Walks: the law PickFits. -/
import Derived.Test.YtolmgfeljpalgaaDoorL2
namespace Go.Proofs.YtolmgfeljpalgaaDoor
open Go Go.RowKit Tg Pk

theorem greatT_not {l : List Tag} (h : greatT l = false) : l.length ≤ 20 ∧ ∀ x ∈ l, x.1.size ≤ 100 ∧ x.2.size ≤ 100 := by
  simp only [greatT, Bool.or_eq_false_iff, decide_eq_false_iff_not] at h
  refine ⟨by omega, fun x hx => ?_⟩
  have h2 := h.2
  rw [List.any_eq_false] at h2
  have := h2 x hx
  simp at this
  omega
theorem newsM {w : World} {ad : Addr} {c : Nat} {l : List Match} (h : MRow w (.slice (some ad) l.length c) l) : ∀ j u, (flatM l)[j]? = some u → (w.alloc (Obj.cells #[] 39)).cell? (ad.add j) = some u := by
  intro j u hu
  obtain ⟨a, c', he, _, hl⟩ := h
  cases he
  have hne : l ≠ [] := fun e => by subst e; simp [flatM] at hu
  obtain ⟨b, o, ha, hb, hL⟩ := hl hne
  cases ha
  rw [addr_add, World.cell?_alloc_lt _ _ _ (show (⟨b, o + j, none⟩ : Addr).block < w.heap.size from hb)]
  exact flatM_cells hL j u hu

set_option maxHeartbeats 1000000 in
theorem fits_skip (tv v : Value) (t : List Tag) (l : List Match) (w : World) (hE : Env w) (ht : TRow w tv t) (h : MRow w v l) (hz : ∀ x ∈ t, x.1.size ≤ 281474976710656 ∧ x.2.size ≤ 281474976710656) (hl : ∀ x ∈ l, x.2.1.size ≤ 281474976710656 ∧ x.2.2.size ≤ 281474976710656)
    (hg : greatT t = true ∨ (greatT t = false ∧ greatM l = true)) :
    Calls Tryd.prog 4 #[tv, v] w fun e w' => e = .returned (.bool true) ∧ Below w.heap.size w w' := by
  rcases hg with hg | ⟨hg, hg'⟩
  · go_enter Tryd.func4, Tryd.ntmps4
    go_wp2_with fail
    refine (alive_any _ hE).mono ?_
    rintro e w1 ⟨rfl, d1⟩
    have hr1 := ht.on d1
    go_wp2_with fail
    refine (great_any _ t w1 hr1 hz).mono ?_
    rintro e w2 ⟨rfl, hw⟩
    have hw := hw.symm
    subst hw
    rw [hg]
    go_wp2_with fail
    go_ret
    exact ⟨rfl, d1⟩
  · go_enter Tryd.func4, Tryd.ntmps4
    go_wp2_with fail
    refine (alive_any _ hE).mono ?_
    rintro e w1 ⟨rfl, d1⟩
    have hr1 := ht.on d1
    have hm1 := h.on d1
    go_wp2_with fail
    refine (great_any _ t w1 hr1 hz).mono ?_
    rintro e w2 ⟨rfl, hw⟩
    have hw := hw.symm
    subst hw
    rw [hg]
    go_wp2_with fail
    refine (greatM_any _ l w1 hm1 hl).mono ?_
    rintro e w2 ⟨rfl, hw⟩
    have hw := hw.symm
    subst hw
    rw [hg']
    go_wp2_with fail
    go_ret
    exact ⟨rfl, d1⟩

set_option maxHeartbeats 1000000 in
theorem fits_some (tv : Value) (ad : Addr) (c : Nat) (t : List Tag) (l : List Match) (w : World) (hE : Env w) (ht : TRow w tv t) (h : MRow w (.slice (some ad) l.length c) l) (hg : greatT t = false) (hg' : greatM l = false) :
    Calls Tryd.prog 4 #[tv, .slice (some ad) l.length c] w fun e w' => e = .returned (.bool true) ∧ Below w.heap.size w w' := by
  obtain ⟨g1, g2⟩ := greatM_not hg'
  obtain ⟨g3, g4⟩ := smallM_of g2 (by omega)
  obtain ⟨p1, p2⟩ := greatT_not hg
  have p3 : ∀ x ∈ t, x.1.size ≤ 281474976710656 ∧ x.2.size ≤ 281474976710656 := fun x hx => by have := p2 x hx; omega
  clear g2 p2 g4
  have q : (pfits t l == pfits t l) = true := by simp
  obtain ⟨i0, hi, hz0, hz1, hz2⟩ := info39
  have HI := Lib.hid (And.intro hi (And.intro hz0 (And.intro hz1 hz2)))
  clear hi hz0 hz1 hz2
  go_enter Tryd.func4, Tryd.ntmps4
  go_wp2_with fail
  refine (alive_any _ hE).mono ?_
  rintro e w1 ⟨rfl, d1⟩
  have hv := h.on d1
  have ht := ht.on d1
  clear h hE
  go_wp2_with fail
  refine (great_any _ t w1 ht p3).mono ?_
  rintro e w2 ⟨rfl, hw⟩
  have hw := hw.symm
  subst hw
  rw [hg]
  go_wp2_with fail
  refine (greatM_any _ l w1 hv g3).mono ?_
  rintro e w2 ⟨rfl, hw⟩
  have hw := hw.symm
  subst hw
  rw [hg']
  have HV := Lib.hid (newsM hv)
  go_wp2_with (first | (at_builtin; refine wpList_append_own _ rfl _ _ 22 rfl w1.heap.size 39 i0 (.agg #[.int .i64 0, .string ⟨#[]⟩, .string ⟨#[]⟩]) 3 40 Tryd.underlying22 HI.out.1 HI.out.2.1 HI.out.2.2.1 HI.out.2.2.2 rfl (by decide) _ _ _ rfl (World.ownsRow_made w1 #[] 0 (Nat.le_refl _) (Nat.zero_le _) (by simp)) ad l.length c (flatM l) rfl (flatM_len l) HV.out (flatM_one l) (by unfold maxLen; omega) (by omega) (by simp) ?_; intro v2 w2 hown hgrow hnil))
  have n2 : Below w1.heap.size w1 w2 := ((Below.refl _ _).alloc (Nat.le_refl _) _).grown hgrow (by simp) (fun k hk => by cases hk; exact Nat.le_refl _)
  have hO : OwnM w2 w1.heap.size v2 l := by simpa using hown
  have ho := ownM_row hO
  clear hown hgrow hnil hO HV HI
  have hv := hv.on n2
  have ht := ht.on n2
  have d2 := d1.trans (n2.mono d1.size)
  clear n2 d1
  refine (fitsM_any _ _ t l _ ht ho (by omega) (by omega)).mono ?_
  rintro e w3 ⟨rfl, n3⟩
  have hv := hv.on n3
  have ho := ho.on n3
  have ht := ht.on n3
  have d3 := d2.trans (n3.mono d2.size)
  clear n3 d2
  go_wp2_with fail
  refine (refFitsM_any _ _ t l _ ht hv (by omega) (by omega) p3 g3).mono ?_
  rintro e w4 ⟨rfl, n4⟩
  have hv := hv.on n4
  have ho := ho.on n4
  have ht := ht.on n4
  have d4 := d3.trans (n4.mono d3.size)
  clear n4 d3
  go_wp2_with fail
  refine (refSame_any _ _ l l _ ho hv (by omega)).mono ?_
  rw [decide_eq_true rfl]
  rintro e w5 ⟨rfl, n5⟩
  have hv := hv.on n5
  have ho := ho.on n5
  have ht := ht.on n5
  have d5 := d4.trans (n5.mono d4.size)
  clear n5 d4
  go_wp2_with fail
  go_ret
  exact ⟨rfl, d5⟩

set_option maxHeartbeats 1000000 in
theorem fits_none (tv : Value) (c : Nat) (t : List Tag) (l : List Match) (w : World) (hE : Env w) (ht : TRow w tv t) (h : MRow w (.slice none 0 c) l) (hl0 : l = []) (hg : greatT t = false) (hg' : greatM l = false) :
    Calls Tryd.prog 4 #[tv, .slice none 0 c] w fun e w' => e = .returned (.bool true) ∧ Below w.heap.size w w' := by
  obtain ⟨g1, g2⟩ := greatM_not hg'
  obtain ⟨g3, g4⟩ := smallM_of g2 (by omega)
  obtain ⟨p1, p2⟩ := greatT_not hg
  have p3 : ∀ x ∈ t, x.1.size ≤ 281474976710656 ∧ x.2.size ≤ 281474976710656 := fun x hx => by have := p2 x hx; omega
  clear g2 p2 g4
  have q : (pfits t l == pfits t l) = true := by simp
  have HO0 : Hid (∀ W : World, MRow (W.alloc (Obj.cells #[] 39)) (.slice (some ⟨W.heap.size, 0, none⟩) 0 0) l) := fun W => by rw [hl0]; exact ⟨_, 0, rfl, Nat.le_refl _, fun hne => absurd rfl hne⟩
  clear hl0
  go_enter Tryd.func4, Tryd.ntmps4
  go_wp2_with fail
  refine (alive_any _ hE).mono ?_
  rintro e w1 ⟨rfl, d1⟩
  have hv := h.on d1
  have ht := ht.on d1
  clear h hE
  go_wp2_with fail
  refine (great_any _ t w1 ht p3).mono ?_
  rintro e w2 ⟨rfl, hw⟩
  have hw := hw.symm
  subst hw
  rw [hg]
  go_wp2_with fail
  refine (greatM_any _ l w1 hv g3).mono ?_
  rintro e w2 ⟨rfl, hw⟩
  have hw := hw.symm
  subst hw
  rw [hg']
  have ho := HO0.out w1
  have n2 : Below w1.heap.size w1 (w1.alloc (Obj.cells #[] 39)) := aBelow _ _
  go_wp2_with fail
  generalize hW2 : w1.alloc (Obj.cells #[] 39) = w2 at *
  clear hW2 HO0
  have hv := hv.on n2
  have ht := ht.on n2
  have d2 := d1.trans (n2.mono d1.size)
  clear n2 d1
  refine (fitsM_any _ _ t l _ ht ho (by omega) (by omega)).mono ?_
  rintro e w3 ⟨rfl, n3⟩
  have hv := hv.on n3
  have ho := ho.on n3
  have ht := ht.on n3
  have d3 := d2.trans (n3.mono d2.size)
  clear n3 d2
  go_wp2_with fail
  refine (refFitsM_any _ _ t l _ ht hv (by omega) (by omega) p3 g3).mono ?_
  rintro e w4 ⟨rfl, n4⟩
  have hv := hv.on n4
  have ho := ho.on n4
  have ht := ht.on n4
  have d4 := d3.trans (n4.mono d3.size)
  clear n4 d3
  go_wp2_with fail
  refine (refSame_any _ _ l l _ ho hv (by omega)).mono ?_
  rw [decide_eq_true rfl]
  rintro e w5 ⟨rfl, n5⟩
  have hv := hv.on n5
  have ho := ho.on n5
  have ht := ht.on n5
  have d5 := d4.trans (n5.mono d4.size)
  clear n5 d4
  go_wp2_with fail
  go_ret
  exact ⟨rfl, d5⟩

theorem fits_walk (tv : Value) (a : Option Addr) (c : Nat) (t : List Tag) (l : List Match) (w : World) (hE : Env w) (ht : TRow w tv t) (h : MRow w (.slice a l.length c) l) (hz : ∀ x ∈ t, x.1.size ≤ 281474976710656 ∧ x.2.size ≤ 281474976710656) (hl : ∀ x ∈ l, x.2.1.size ≤ 281474976710656 ∧ x.2.2.size ≤ 281474976710656) :
    Calls Tryd.prog 4 #[tv, .slice a l.length c] w fun e w' => e = .returned (.bool true) ∧ Below w.heap.size w w' := by
  cases hg : greatT t
  · cases hg' : greatM l
    · cases a with
      | some ad => exact fits_some tv ad c t l w hE ht h hg hg'
      | none =>
        have hl0 : l = [] := by
          obtain ⟨a, c', he, _, hat⟩ := h
          cases he
          rcases List.eq_nil_or_concat l with h0 | ⟨x, y, h0⟩
          · exact h0
          · obtain ⟨b, o, hb, _⟩ := hat (by rw [h0]; simp)
            cases hb
        have hl1 : l.length = 0 := by rw [hl0]; rfl
        rw [hl1] at h ⊢
        exact fits_none tv c t l w hE ht h hl0 hg hg'
    · exact fits_skip tv _ t l w hE ht h hz hl (.inr ⟨hg, hg'⟩)
  · exact fits_skip tv _ t l w hE ht h hz hl (.inl hg)
end Go.Proofs.YtolmgfeljpalgaaDoor
