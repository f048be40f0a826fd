/- Bounds: what is not great, groups and texts of rows. -/
import Derived.Test.YtidkpalckafgkaaGreatDoorD8
import Derived.Test.YtidkpalckafgkaaGreatDoorA7
namespace Go.Proofs.YtidkpalckafgkaaGreatDoor.Rw
open Go Go.RowKit Go.Sort Go.Lib Tg Pk Ky Qy

theorem greatM_not {l : List Match} (h : greatM l = false) : l.length ≤ 20 ∧ ∀ x ∈ l, x.2.1.size ≤ 100 ∧ x.2.2.size ≤ 100 := by
  simp only [greatM, Bool.or_eq_false_iff, decide_eq_false_iff_not] at h
  refine ⟨by omega, fun x hx => ?_⟩
  have h2 := h.2
  rw [List.any_eq_false] at h2
  have := h2 x hx
  simp at this
  omega
theorem greatQ_not {q : Query} (h : greatQ q = false) : q.2.1.size ≤ 200 ∧ q.2.2.1.length ≤ 20 ∧ (∀ x ∈ q.2.2.1, x.2.1.size ≤ 100 ∧ x.2.2.size ≤ 100) ∧ q.2.2.2.length ≤ 20 ∧ (∀ x ∈ q.2.2.2, x.size ≤ 100) := by
  simp only [greatQ, greatBy, Bool.or_eq_false_iff, decide_eq_false_iff_not] at h
  obtain ⟨h1, h2, h3, h4⟩ := h
  obtain ⟨g1, g2⟩ := greatM_not h2
  refine ⟨by omega, g1, g2, by omega, fun x hx => ?_⟩
  rw [List.any_eq_false] at h4
  have := h4 x hx
  simp at this
  omega
theorem greatR_not {l : List Row} (h : greatR l = false) : l.length ≤ 100 ∧ ∀ x ∈ l, x.grp.size ≤ 300 := by
  simp only [greatR, Bool.or_eq_false_iff, decide_eq_false_iff_not] at h
  refine ⟨by omega, fun x hx => ?_⟩
  have h2 := h.2
  rw [List.any_eq_false] at h2
  have := h2 x hx
  simp at this
  omega
theorem muchI_not {l : List Item} (h : muchI l = false) : l.length ≤ 100 ∧ ∀ x ∈ l, x.key.size ≤ 300 := by
  simp only [muchI, Bool.or_eq_false_iff, decide_eq_false_iff_not] at h
  refine ⟨by omega, fun x hx => ?_⟩
  have h2 := h.2
  rw [List.any_eq_false] at h2
  have := h2 x hx
  simp at this
  omega
theorem grp_small {s : ByteArray} (h : grpE s = 0) : s.size ≤ 200 := by
  obtain ⟨h1, h2⟩ := grpE_zero h
  obtain ⟨a, b⟩ := right_small (parse_ok h1)
  have h3 := text_size (parse s.data.toList).1 25 (fun t ht => by have := b t ht; omega)
  have e : (textB (parse s.data.toList).1).size = s.size := by
    rw [size_list, size_list, textB_list, h2]
  have h4 : (parse s.data.toList).1.length * (25 + 1) ≤ 4 * (25 + 1) := Nat.mul_le_mul_right _ a
  omega
theorem answer_grp (q : Query) (l : List Item) : ∀ r ∈ answer q l, r.grp.size ≤ 200 := fun r hr => grp_small ((rright_true.1 (answer_right q l)).1 r hr)
theorem rtextB_size {l : List Row} (M : Nat) (ho : ∀ r ∈ l, okR r) (hs : ∀ r ∈ l, r.grp.size ≤ M) : (rtextB l).size ≤ l.length * (M + 51) + 1 := by
  rw [size_list, rtextB_list]
  cases l with
  | nil => simp [rtext]
  | cons t r =>
    have hp : ∀ u ∈ t :: r, (rtxt u).length ≤ M + 50 := by
      intro u hu
      have h1 := rtxtB_size u (ho u hu)
      have h2 := hs u hu
      rw [size_list, rtxtB_list] at h1
      omega
    have hl := lens_le (M + 50) (r.map rtxt) (by
      intro x hx
      obtain ⟨u, hu, rfl⟩ := List.mem_map.1 hx
      exact hp u (by simp [hu]))
    have h0 := hp t (by simp)
    unfold rtext
    rw [if_neg (by simp), List.map_cons, Lib.join_cons, List.length_append, Lib.joinTail_length]
    rw [List.length_map] at hl
    have e1 : (([59] : List UInt8).length * (r.map rtxt).length) = r.length := by simp
    have e2 : (r.length + 1) * (M + 51) = r.length * (M + 50) + r.length + M + 51 := by rw [Nat.add_mul, show M + 51 = M + 50 + 1 from rfl, Nat.mul_add]; omega
    rw [e1, List.length_cons, e2]
    omega
theorem rparse_len (s : List UInt8) : (rparse s).1.length ≤ s.length + 1 := by
  have hr : ∀ ps : List (List UInt8), (rall ps).1.length ≤ ps.length := by
    intro ps
    unfold rall
    split
    · simp
    · simp
  have h1 := hr (Word.parts 59 s)
  have h2 := parts_many 59 s
  unfold rparse
  split
  · simp
  · split
    · split
      · omega
      · simp
    · simp
theorem rtext_parts {l : List Row} (h : rright l = true) (hne : l ≠ []) : partsB 59 (rtextB l) = l.map rtxtB := by
  obtain ⟨h1, _⟩ := rright_true.1 h
  have hp : Word.parts 59 (rtext l) = l.map rtxt := by
    unfold rtext; rw [if_neg hne]
    refine Word.parts_join 59 _ (by simpa using hne) (fun x hx => ?_)
    obtain ⟨r, hr, rfl⟩ := List.mem_map.1 hx
    exact rtxt_no (h1 r hr)
  have h2 := parts_of (rtextB l)
  rw [rtextB_list, hp] at h2
  have h3 : (l.map rtxtB).map (fun x => x.data.toList) = l.map rtxt := by
    rw [List.map_map]; exact List.map_congr_left (fun r _ => rtxtB_list r)
  rw [← h3] at h2
  exact (List.map_inj_right (fun x y hxy => bb_inj hxy)).1 h2.symm
theorem rtext_part_small {l : List Row} (h : rright l = true) (ho : ∀ r ∈ l, okR r) : ∀ x ∈ partsB 59 (rtextB l), x.size ≤ 900 := by
  obtain ⟨h1, _⟩ := rright_true.1 h
  intro x hx
  by_cases hne : l = []
  · subst hne
    have := part_le hx
    have e : (rtextB []).size = 1 := rfl
    omega
  · rw [rtext_parts h hne] at hx
    obtain ⟨r, hr, rfl⟩ := List.mem_map.1 hx
    have a := rtxtB_size r (ho r hr)
    have b := grp_small (h1 r hr)
    omega

end Go.Proofs.YtidkpalckafgkaaGreatDoor.Rw
