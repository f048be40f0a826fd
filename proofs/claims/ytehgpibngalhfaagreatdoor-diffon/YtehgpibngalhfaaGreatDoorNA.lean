/- Bounds of changes, of their text, and of what they make. -/
import Derived.Test.YtehgpibngalhfaaGreatDoorN9
namespace Go.Proofs.YtehgpibngalhfaaGreatDoor.Rw
open Go Go.RowKit Go.Sort Go.Lib Tg Pk Ky Qy Df

theorem greatR_no {l : List Row} (h : greatR l = false) : l.length ≤ 100 ∧ ∀ x ∈ l, x.grp.size ≤ 300 := by
  simp only [greatR, Bool.or_eq_false_iff, decide_eq_false_iff_not] at h
  refine ⟨by omega, fun x hx => ?_⟩
  have h2 := h.2
  rw [List.any_eq_false] at h2
  have := h2 x hx
  simp at this
  omega
theorem ctextB_size {l : List Chg} (M : Nat) (ho : ∀ c ∈ l, okR c.r) (hs : ∀ c ∈ l, c.r.grp.size ≤ M) : (ctextB l).size ≤ l.length * (M + 51) + 1 := by
  rw [size_list, ctextB_list]
  cases l with
  | nil => simp [ctext]
  | cons t r =>
    have hp : ∀ u ∈ t :: r, (ctxt u).length ≤ M + 50 := by
      intro u hu
      have h1 := ctxtB_size u (ho u hu)
      have h2 := hs u hu
      rw [size_list, ctxtB_list] at h1
      omega
    have hl := lens_le (M + 50) (r.map ctxt) (by
      intro x hx
      obtain ⟨u, hu, rfl⟩ := List.mem_map.1 hx
      exact hp u (by simp [hu]))
    have h0 := hp t (by simp)
    unfold ctext
    rw [if_neg (by simp), List.map_cons, Lib.join_cons, List.length_append, Lib.joinTail_length]
    rw [List.length_map] at hl
    have e1 : (([59] : List UInt8).length * (r.map ctxt).length) = r.length := by simp
    have e2 : (r.length + 1) * (M + 51) = r.length * (M + 50) + r.length + M + 51 := by rw [Nat.add_mul, show M + 51 = M + 50 + 1 from rfl, Nat.mul_add]; omega
    rw [e1, List.length_cons, e2]
    omega
theorem cparse_len (s : List UInt8) : (cparse s).1.length ≤ s.length + 1 := by
  have hr : ∀ ps : List (List UInt8), (call ps).1.length ≤ ps.length := by
    intro ps
    unfold call
    split
    · simp
    · simp
  have h1 := hr (Word.parts 59 s)
  have h2 := parts_many 59 s
  unfold cparse
  split
  · simp
  · split
    · split
      · omega
      · simp
    · simp
theorem ctext_parts {l : List Chg} (h : cright l = true) (hne : l ≠ []) : partsB 59 (ctextB l) = l.map ctxtB := by
  obtain ⟨_, h1, _⟩ := cright_true.1 h
  have hp : Word.parts 59 (ctext l) = l.map ctxt := by
    rw [ctext_some hne]
    refine Word.parts_join 59 _ (by simpa using hne) (fun x hx => ?_)
    obtain ⟨r, hr, rfl⟩ := List.mem_map.1 hx
    exact ctxt_no (h1 r hr)
  have h2 := parts_of (ctextB l)
  rw [ctextB_list, hp] at h2
  have h3 : (l.map ctxtB).map (fun x => x.data.toList) = l.map ctxt := by
    rw [List.map_map]; exact List.map_congr_left (fun r _ => ctxtB_list r)
  rw [← h3] at h2
  exact (List.map_inj_right (fun x y hxy => bb_inj hxy)).1 h2.symm
theorem ctext_part_small {l : List Chg} (h : cright l = true) (ho : ∀ c ∈ l, okR c.r) : ∀ x ∈ partsB 59 (ctextB l), x.size ≤ 890 := by
  obtain ⟨_, h1, _⟩ := cright_true.1 h
  intro x hx
  by_cases hne : l = []
  · subst hne
    have := part_le hx
    have e : (ctextB []).size = 1 := rfl
    omega
  · rw [ctext_parts h hne] at hx
    obtain ⟨r, hr, rfl⟩ := List.mem_map.1 hx
    have a := ctxtB_size r (ho r hr)
    have b := grpSmall (h1 r hr)
    omega
/-- Of the changes from a to b. -/
theorem of_facts {a b : List Row} (ha : greatR a = false) (hb : greatR b = false) (oa : ∀ r ∈ a, okR r) (ob : ∀ r ∈ b, okR r) : (ofE a b).1.length ≤ 200 ∧ (∀ c ∈ (ofE a b).1, c.r.grp.size ≤ 300) ∧ (∀ c ∈ (ofE a b).1, okR c.r) ∧ (ctextB (ofE a b).1).size ≤ 140737488355328 := by
  obtain ⟨a1, a2⟩ := greatR_no ha
  obtain ⟨b1, b2⟩ := greatR_no hb
  rcases ofE_cases a b with ⟨ra, rb, e⟩ | ⟨_, e⟩
  · rw [e]
    have ua := rright_up ra
    have h1 := ofD_len a b
    have h2 : ∀ c ∈ ofD a b, c.r.grp.size ≤ 300 := by
      intro c hc
      rcases (ofD_mem ua c).1 hc with ⟨r, hr, _, rfl⟩ | ⟨r, hr, _, rfl⟩
      · exact b2 r hr
      · exact a2 r hr
    have h3 := ofD_ok ua oa ob
    have h4 := ctextB_size 300 h3 h2
    have h5 : (ofD a b).length * (300 + 51) ≤ 200 * (300 + 51) := Nat.mul_le_mul_right _ (by omega)
    exact ⟨by show (ofD a b).length ≤ 200; omega, h2, h3, by show (ctextB (ofD a b)).size ≤ _; omega⟩
  · rw [e]
    exact ⟨by simp, fun c hc => by simp at hc, fun c hc => by simp at hc, by decide⟩
theorem applyE_mem {l : List Row} {cs : List Chg} {r : Row} (h : r ∈ (applyE l cs).1) : r ∈ l ∨ ∃ c ∈ cs, c.r = r := by
  cases h1 : rright l
  · rw [applyE_left h1] at h; simp at h
  · cases h2 : cright cs
    · rw [applyE_right h2] at h; simp at h
    · obtain ⟨f1, f2⟩ := applyD_facts cs l (rright_up h1) (cright_true.1 h2).2.2
      by_cases hx : ∃ c ∈ cs, c.gone = true ∧ ∀ x ∈ l, pe x c.r = false
      · rw [applyE_none h1 h2 (f1 hx)] at h; simp at h
      · obtain ⟨m, e, _, hm⟩ := f2 (fun c hc hg => by
          apply Classical.byContradiction
          intro hn
          apply hx
          refine ⟨c, hc, hg, fun x hxl => ?_⟩
          cases hp : pe x c.r
          · rfl
          · exact absurd ⟨x, hxl, hp⟩ hn)
        rw [applyE_some h1 h2 e] at h
        rcases (hm r).1 h with ⟨c, hc, _, e⟩ | ⟨hr, _⟩
        · exact Or.inr ⟨c, hc, e⟩
        · exact Or.inl hr
theorem applyE_len (l : List Row) (cs : List Chg) : (applyE l cs).1.length ≤ l.length + cs.length := by
  cases h1 : rright l
  · rw [applyE_left h1]; simp
  · cases h2 : cright cs
    · rw [applyE_right h2]; simp
    · cases h3 : applyD l cs with
      | none => rw [applyE_none h1 h2 h3]; simp
      | some m => rw [applyE_some h1 h2 h3]; exact applyD_len cs l h3

end Go.Proofs.YtehgpibngalhfaaGreatDoor.Rw
