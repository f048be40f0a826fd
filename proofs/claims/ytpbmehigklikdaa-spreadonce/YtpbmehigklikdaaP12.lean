/- Lists of lists in the making: each part is a slice that the call made, in a block of its own. -/
import Derived.Test.YtpbmehigklikdaaV12
import Derived.Deep.AppendLies
import Derived.OneCell
namespace Go.Proofs.Ytpbmehigklikdaa.Sp
open Go Go.RowKit

/-- Parts in the making: their slices lie in the block P; each one's texts in a block that no other one has. -/
structure POwn (base : Nat) (w : World) (P : Nat) (rs : List (Value × List ByteArray)) : Prop where
  row : w.heap[P]? = some (.cells (rs.map (·.1)).toArray 27 (0, 0))
  own : ∀ r ∈ rs, w.ownsRow base 9 1 r.1 r.2.length (flatG txtC r.2)
  apart : ∀ i j (hi : i < rs.length) (hj : j < rs.length), i ≠ j → ∀ b, (rs[i]).1.ownBlock = some b → (rs[j]).1.ownBlock ≠ some b
theorem POwn.lt {base : Nat} {w : World} {P : Nat} {rs : List (Value × List ByteArray)} (h : POwn base w P rs) : P < w.heap.size := by
  have h1 := h.row
  rcases Nat.lt_or_ge P w.heap.size with q | q
  · exact q
  · rw [Array.getElem?_eq_none q] at h1; cases h1
theorem POwn.on {base : Nat} {w w1 : World} {P : Nat} {rs : List (Value × List ByteArray)} (h : POwn base w P rs) (n : Below w.heap.size w w1) : POwn base w1 P rs :=
  ⟨by rw [n.block P h.lt]; exact h.row, fun r hr => own_on (h.own r hr) n, h.apart⟩
theorem POwn.cell {base : Nat} {w : World} {P : Nat} {rs : List (Value × List ByteArray)} (h : POwn base w P rs) (k : Nat) (hk : k < rs.length) : w.cell? ⟨P, k, none⟩ = some (rs[k]).1 := by
  rw [cell_of_row w P k _ 27 (0, 0) h.row]
  simp [hk]
theorem POwn.free {base : Nat} {w : World} {P : Nat} {rs : List (Value × List ByteArray)} (h : POwn base w P rs) (k : Nat) : w.frozen? ⟨P, k, none⟩ = false := by
  unfold World.frozen?
  simp only
  rw [h.row]
  simp
theorem txt_one (s : ByteArray) : flatG txtC [s] = [.string s] := rfl
/-- An own slice's block holds texts. -/
theorem own_block {base : Nat} {w : World} {v : Value} {n : Nat} {xs : List Value} (h : w.ownsRow base 9 1 v n xs) {b : Nat} (hb : v.ownBlock = some b) : (∃ cur, w.heap[b]? = some (.cells cur 9 (0, 0))) ∧ b < w.heap.size ∧ base ≤ b := by
  rcases h.2 with ⟨rfl, _⟩ | ⟨g, cap, cur, rfl, hbg, hg, _⟩
  · simp [Value.ownBlock] at hb
  · simp [Value.ownBlock] at hb
    subst hb
    refine ⟨⟨cur, hg⟩, ?_, hbg⟩
    rcases Nat.lt_or_ge g w.heap.size with q | q
    · exact q
    · rw [Array.getElem?_eq_none q] at hg; cases hg
theorem own_far {base : Nat} {w w1 : World} {v : Value} {n : Nat} {xs : List Value} (h : w.ownsRow base 9 1 v n xs) (hb : ∀ b, v.ownBlock = some b → w1.heap[b]? = w.heap[b]?) : w1.ownsRow base 9 1 v n xs := by
  refine ⟨h.1, ?_⟩
  rcases h.2 with h0 | ⟨g, cap, cur, rfl, hbg, hg, r⟩
  · exact Or.inl h0
  · exact Or.inr ⟨g, cap, cur, rfl, hbg, by rw [hb g rfl]; exact hg, r⟩
/-- One more text is put behind a part. -/
theorem POwn.step {base : Nat} {w W w' : World} {P : Nat} {rs : List (Value × List ByteArray)} {k g cap H : Nat} {s : ByteArray} (h : POwn base w P rs) (hk : k < rs.length) (hb : base ≤ P) (n : Below w.heap.size w W) (hH : W.heap.size = H)
    (ho : w'.ownsRow base 9 1 (.slice (some ⟨g, 0, none⟩) ((rs[k]).2.length + 1) cap) ((rs[k]).2.length + 1) (flatG txtC (rs[k]).2 ++ [.string s])) (hg : W.grownBy w' (rs[k]).1.ownBlock) (hat : (rs[k]).1.ownBlock = some g ∨ g = H) :
    POwn base (w'.setCell ⟨P, k, none⟩ (.slice (some ⟨g, 0, none⟩) ((rs[k]).2.length + 1) cap)) P (rs.set k (.slice (some ⟨g, 0, none⟩) ((rs[k]).2.length + 1) cap, (rs[k]).2 ++ [s])) ∧ Below base w (w'.setCell ⟨P, k, none⟩ (.slice (some ⟨g, 0, none⟩) ((rs[k]).2.length + 1) cap)) := by
  have hP := h.lt
  have hPW : P < W.heap.size := Nat.lt_of_lt_of_le hP n.size
  have hkown := h.own _ (List.getElem_mem hk)
  have hPk : ∀ r ∈ rs, r.1.ownBlock ≠ some P := by
    intro r hr e
    obtain ⟨⟨cur, hc⟩, _, _⟩ := own_block (h.own r hr) e
    rw [h.row] at hc
    injection hc with e1; injection e1 with _ e2; exact absurd e2 (by decide)
  have hPw' : w'.heap[P]? = some (.cells (rs.map (·.1)).toArray 27 (0, 0)) := by
    rw [hg.block P hPW (fun e => hPk _ (List.getElem_mem hk) e.symm), n.block P hP]; exact h.row
  obtain ⟨⟨gcur, hgc⟩, hglt, hgb⟩ := own_block ho (b := g) rfl
  have hgP : g ≠ P := by
    intro e
    subst e
    rw [hPw'] at hgc
    injection hgc with e1; injection e1 with _ e2; exact absurd e2 (by decide)
  have far : ∀ j (hj : j < rs.length), j ≠ k → ∀ b, (rs[j]).1.ownBlock = some b → b ≠ g ∧ w'.heap[b]? = w.heap[b]? ∧ b ≠ P := by
    intro j hj hjk b hbb
    obtain ⟨_, hbl, _⟩ := own_block (h.own _ (List.getElem_mem hj)) hbb
    have hbk : (rs[k]).1.ownBlock ≠ some b := h.apart j k hj hk hjk b hbb
    refine ⟨?_, ?_, ?_⟩
    · rintro rfl
      rcases hat with q | q
      · exact hbk q
      · have := n.size; omega
    · rw [hg.block b (Nat.lt_of_lt_of_le hbl n.size) (fun e => hbk e.symm), n.block b hbl]
    · rintro rfl; exact hPk _ (List.getElem_mem hj) hbb
  refine ⟨⟨?_, ?_, ?_⟩, ?_⟩
  · unfold World.setCell
    simp only
    rw [Array.getElem?_modify, if_pos rfl, hPw']
    simp [List.map_set]
  · intro r hr
    obtain ⟨j, hj, rfl⟩ := List.mem_iff_getElem.1 hr
    rw [List.length_set] at hj
    by_cases hjk : k = j
    · subst hjk
      rw [List.getElem_set_self]
      refine own_far (w := w') ?_ (fun b hbb => Below.heap_setCell w' ⟨P, k, none⟩ _ b ?_)
      · simp only [List.length_append, List.length_cons, List.length_nil, Nat.zero_add]
        rw [flatG_append, txt_one]; exact ho
      · simp [Value.ownBlock] at hbb
        subst hbb; exact hgP
    · rw [List.getElem_set_ne hjk]
      refine own_far (h.own _ (List.getElem_mem hj)) (fun b hbb => ?_)
      obtain ⟨q1, q2, q3⟩ := far j hj (fun e => hjk e.symm) b hbb
      rw [Below.heap_setCell w' ⟨P, k, none⟩ _ b q3, q2]
  · intro i j hi hj hij b hbb
    rw [List.length_set] at hi hj
    by_cases hik : k = i
    · subst hik
      rw [List.getElem_set_self] at hbb
      simp [Value.ownBlock] at hbb
      subst hbb
      rw [List.getElem_set_ne hij]
      intro e
      exact (far j hj (fun e => hij e.symm) g e).1 rfl
    · rw [List.getElem_set_ne hik] at hbb
      by_cases hjk : k = j
      · subst hjk
        rw [List.getElem_set_self]
        intro e
        simp [Value.ownBlock] at e
        subst e
        exact (far i hi (fun e => hik e.symm) g hbb).1 rfl
      · rw [List.getElem_set_ne hjk]
        exact h.apart i j hi hj hij b hbb
  · have hbW : base ≤ W.heap.size := by omega
    have nb : Below base w W := n.mono (by omega)
    exact (nb.grown hg hbW (fun q hq => (own_block hkown hq).2.2)).setCell (p := ⟨P, k, none⟩) hb _
/-- All parts, none with a text. -/
theorem POwn.start {base : Nat} {w : World} {P m : Nat} (h : w.heap[P]? = some (.cells (Array.replicate m (.slice none 0 0)) 27 (0, 0))) : POwn base w P (List.replicate m (.slice none 0 0, [])) := by
  refine ⟨?_, fun r hr => ?_, fun i j hi hj _ b hb => ?_⟩
  · rw [h]; simp
  · obtain ⟨-, rfl⟩ := List.mem_replicate.1 hr
    exact ownG_nil _ _ _
  · rw [List.getElem_replicate] at hb
    simp [Value.ownBlock] at hb
theorem POwn.prow {base : Nat} {w : World} {P c : Nat} {rs : List (Value × List ByteArray)} (h : POwn base w P rs) (hc : rs.length ≤ c) : PRow w (.slice (some ⟨P, 0, none⟩) rs.length c) (rs.map (·.2)) := by
  refine ⟨rs, ⟨_, c, rfl, hc, fun _ => ⟨P, 0, rfl, h.lt, fun i hi j u hu => ?_⟩⟩, rfl, fun r hr => ownG_row txtC_len (h.own r hr)⟩
  simp [partC] at hu
  have hj : j = 0 := by
    rcases j with _ | j
    · rfl
    · simp at hu
  subst hj
  simp at hu
  subst hu
  rw [Nat.zero_add, Nat.mul_one, Nat.add_zero]
  exact h.cell i hi
end Go.Proofs.Ytpbmehigklikdaa.Sp
