/- Carried over from earlier layers: walks and lemmas of tags, series and matches. -/
import Derived.Test.YtfohknpjlkjbbaaGreatDoorP4
import Derived.Test.YtfohknpjlkjbbaaGreatDoorP6
import Derived.Test.YtfohknpjlkjbbaaGreatDoorPA
import Derived.Test.YtfohknpjlkjbbaaGreatDoorG5
import Derived.Test.YtfohknpjlkjbbaaGreatDoorK5
namespace Go.Proofs.YtfohknpjlkjbbaaGreatDoor
open Go Go.RowKit Tg Pk Ky
theorem MRow.open {w : World} {v : Value} {l : List Match} (h : MRow w v l) (hne : l ≠ []) : ∃ b o c, v = .slice (some ⟨b, o, none⟩) l.length c ∧ l.length ≤ c ∧ b < w.heap.size ∧ MLies w b o l := by
  obtain ⟨a, c, hv, hc, hat⟩ := h
  obtain ⟨b, o, rfl, hb, hL⟩ := hat hne
  exact ⟨b, o, c, hv, hc, hb, hL⟩
theorem MRow.shut {w : World} {b o c : Nat} {l : List Match} (hc : l.length ≤ c) (hb : b < w.heap.size) (hL : MLies w b o l) : MRow w (.slice (some ⟨b, o, none⟩) l.length c) l := ⟨_, c, rfl, hc, fun _ => ⟨b, o, rfl, hb, hL⟩⟩
theorem greatM_not {l : List Match} (h : greatM l = false) : l.length ≤ 20 ∧ ∀ x ∈ l, x.2.1.size ≤ 100 ∧ x.2.2.size ≤ 100 := by
  simp only [greatM, Bool.or_eq_false_iff, decide_eq_false_iff_not] at h
  refine ⟨by omega, fun x hx => ?_⟩
  have h2 := h.2
  rw [List.any_eq_false] at h2
  have := h2 x hx
  simp at this
  omega
theorem smallM_of {l : List Match} {B : Nat} (h : ∀ x ∈ l, x.2.1.size ≤ B ∧ x.2.2.size ≤ B) (hB : B ≤ 100000) : (∀ x ∈ l, x.2.1.size ≤ 281474976710656 ∧ x.2.2.size ≤ 281474976710656) ∧ ∀ x ∈ l, x.2.1.size ≤ 100000 ∧ x.2.2.size ≤ 100000 :=
  ⟨fun x hx => by have := h x hx; omega, fun x hx => by have := h x hx; omega⟩
theorem greatM_text {l : List Match} (h : greatM l = false) : (ptextB l).size ≤ 4060 := by
  obtain ⟨h1, h2⟩ := greatM_not h
  have := ptext_size l 202 (fun t ht => by have := h2 t ht; omega)
  omega
theorem greatT_not {l : List Tag} (h : greatT l = false) : l.length ≤ 20 ∧ ∀ x ∈ l, x.1.size ≤ 100 ∧ x.2.size ≤ 100 := by
  simp only [greatT, Bool.or_eq_false_iff, decide_eq_false_iff_not] at h
  refine ⟨by omega, fun x hx => ?_⟩
  have h2 := h.2
  rw [List.any_eq_false] at h2
  have := h2 x hx
  simp at this
  omega
theorem newsM {w : World} {ad : Addr} {c : Nat} {l : List Match} (h : MRow w (.slice (some ad) l.length c) l) : ∀ j u, (flatM l)[j]? = some u → (w.alloc (Obj.cells #[] 72)).cell? (ad.add j) = some u := by
  intro j u hu
  obtain ⟨a, c', he, _, hl⟩ := h
  cases he
  have hne : l ≠ [] := fun e => by subst e; simp [flatM] at hu
  obtain ⟨b, o, ha, hb, hL⟩ := hl hne
  cases ha
  rw [addr_add, World.cell?_alloc_lt _ _ _ (show (⟨b, o + j, none⟩ : Addr).block < w.heap.size from hb)]
  exact flatM_cells hL j u hu
theorem pright_small {l : List Match} (h : pright l = true) : l.length ≤ 4 ∧ (∀ x ∈ l, x.2.1.size ≤ 12 ∧ x.2.2.size ≤ 12) ∧ (ptextB l).size ≤ 900 := by
  simp only [pright, Bool.and_eq_true, decide_eq_true_eq] at h
  have hv : ∀ y : ByteArray, Word.value y.data.toList = true → y.size ≤ 12 := by
    intro y hy
    simp only [Word.value, Word.fits, Bool.and_eq_true, decide_eq_true_eq] at hy
    rw [size_list]
    exact hy.1.2
  have h2 : ∀ x ∈ l, x.2.1.size ≤ 12 ∧ x.2.2.size ≤ 12 := by
    intro x hx
    have hm := List.all_eq_true.1 h.2 x hx
    obtain ⟨k, n, v⟩ := x
    simp only [pmay, Bool.and_eq_true, nm, vl] at hm
    refine ⟨hv n (Word.name_value _ hm.1), ?_⟩
    have h3 := hm.2
    have he : v.data.toList.isEmpty = true → v.size ≤ 12 := by
      intro e
      rw [List.isEmpty_iff] at e
      rw [size_list, e]
      simp
    rcases kinds k with rfl | rfl | rfl | rfl | ⟨k1, k2, k3, k4⟩
    · rw [pval1] at h3; exact hv v h3
    · rw [pval2] at h3; exact hv v h3
    · rw [pval3, Bool.or_eq_true] at h3
      rcases h3 with h3 | h3
      · exact he h3
      · exact hv v h3
    · rw [pval4] at h3; exact he h3
    · rw [pval5 k _ k1 k2 k3 k4] at h3; cases h3
  refine ⟨h.1, h2, ?_⟩
  have := ptext_size l 26 (fun t ht => by have := h2 t ht; omega)
  omega
theorem pparse_textB {l : List Match} (h : pright l = true) : pparse (ptextB l).data.toList = (l, 0) := by rw [ptextB_list]; exact pparse_text h
theorem ptextB_ok {s : ByteArray} (h : (pparse s.data.toList).2 = 0) : ptextB (pparse s.data.toList).1 = s := bb_inj (by rw [ptextB_list]; exact (pparse_ok h).2)
theorem great_not {l : List Tag} (h : greatT l = false) : l.length ≤ 20 ∧ ∀ x ∈ l, x.1.size ≤ 100 ∧ x.2.size ≤ 100 := by
  simp only [greatT, Bool.or_eq_false_iff, decide_eq_false_iff_not] at h
  refine ⟨by omega, fun x hx => ?_⟩
  have h2 := h.2
  rw [List.any_eq_false] at h2
  have := h2 x hx
  simp at this
  omega
theorem small_of {l : List Tag} {B : Nat} (h : ∀ x ∈ l, x.1.size ≤ B ∧ x.2.size ≤ B) (hB : B ≤ 100000) : (∀ x ∈ l, x.1.size ≤ 281474976710656 ∧ x.2.size ≤ 281474976710656) ∧ ∀ x ∈ l, x.1.size ≤ 100000 ∧ x.2.size ≤ 100000 :=
  ⟨fun x hx => by have := h x hx; omega, fun x hx => by have := h x hx; omega⟩
theorem great_text {l : List Tag} (h : greatT l = false) : (textB l).size ≤ 4040 := by
  obtain ⟨h1, h2⟩ := great_not h
  have := text_size l 201 (fun t ht => by have := h2 t ht; omega)
  omega
end Go.Proofs.YtfohknpjlkjbbaaGreatDoor
