/- What lies behind a slice of tags that came in: each tag's two cells, and their sizes. -/
import Derived.Test.YtolmgfeljpalgaaDoorF
import Derived.Test.YtolmgfeljpalgaaDoorT1
import Derived.Deep.SlicePairs
namespace Go.Proofs.YtolmgfeljpalgaaDoor
open Go Go.ChangeShapes Go.WideShapes Go.ChangeAt Go.RowKit Go.Deep Tg

theorem cells41 : Tryd.prog.cellsOf 37 = 2 := by kernel_rfl
/-- A tag as it is read. -/
def tagD {H : Type} (t : Tag) : DataW H := .agg [.lit (.string t.1.data.toList), .lit (.string t.2.data.toList)]
theorem tagD_weights {H : Type} (t : Tag) : (tagD t : DataW H).weights Tryd.prog 37 = [t.1.data.toList.length, t.2.data.toList.length] := by
  unfold tagD
  rw [DataW.weights, Tryd.underlying37]
  simp [DataW.weightsEach, DataW.weights]
theorem weight_tag {H : Type} (t : Tag) : ∀ l : List Tag, t ∈ l → t.1.data.toList.length ∈ DataW.weightsAll Tryd.prog 37 (l.map (tagD (H := H))) ∧ t.2.data.toList.length ∈ DataW.weightsAll Tryd.prog 37 (l.map (tagD (H := H)))
  | u :: r, h => by
    rw [List.map_cons, DataW.weightsAll, List.mem_append, List.mem_append, tagD_weights]
    rcases List.mem_cons.1 h with h | h
    · subst h
      exact ⟨Or.inl (by simp), Or.inl (by simp)⟩
    · obtain ⟨h1, h2⟩ := weight_tag (H := H) t r h
      exact ⟨Or.inr h1, Or.inr h2⟩
theorem sized_tags {H : Type} {ts : List TypeId} {ds : List (DataW H)} (h : (DataW.weightsEach Tryd.prog ts ds).all (· ≤ reachBytes) = true) {j : Nat} {l : List Tag} {sp : List (DataW H)}
    (ht : ts[j]? = some 27) (hd : ds[j]? = some (.slice (l.map tagD) sp)) : ∀ x ∈ l, x.1.size ≤ 281474976710656 ∧ x.2.size ≤ 281474976710656 := by
  intro x hx
  obtain ⟨m1, m2⟩ := weight_tag (H := H) x l hx
  have h2 := reachBytes_lt
  have e3 : (2 : Nat) ^ 47 = 140737488355328 := by decide
  have hm : ∀ n, n ∈ DataW.weightsAll Tryd.prog 37 (l.map (tagD (H := H))) → n ≤ 281474976710656 := by
    intro n hn
    have hw : n ∈ (DataW.slice (l.map tagD) sp : DataW H).weights Tryd.prog 27 := by
      rw [DataW.weights, Tryd.underlying27]
      exact List.mem_cons_of_mem _ (List.mem_append_left _ hn)
    have h1 := List.all_eq_true.1 h _ (DataW.weights_mem_each ht hd _ hw)
    simp only [decide_eq_true_eq] at h1
    omega
  rw [size_list, size_list]
  exact ⟨hm _ m1, hm _ m2⟩
/-- A slice of tags that reads as data: nil, or it holds its tags. -/
theorem open_tags {H : Type} {enc : TypeId × Value → H} {W : World} {a0 : Option Addr} {len cap : Nat} {d : DataW H} {p : List MemPlace}
    (h : DataW.Trod enc Tryd.prog W 0 (fun _ => true) true 27 (.slice a0 len cap) d p) :
    (a0 = none ∧ len = 0 ∧ cap = 0) ∨ ∃ a l sp, a0 = some a ∧ len = l.length ∧ TRow W (.slice (some a) l.length cap) l ∧ d = .slice (l.map tagD) sp := by
  obtain ⟨fuel, hf⟩ := h
  rcases open_slice_pairs Tryd.underlying27 Tryd.underlying37 cells41 rfl rfl cells9 cells9 hf with ⟨hc, _⟩ | ⟨a, len', cap', m, n, V0, V1, D0, D1, P0, P1, hc, _, hl, hm, hmm, hx, hall⟩
  · left
    simp [Value.cells] at hc
    exact hc
  · right
    simp [Value.cells] at hc
    obtain ⟨rfl, rfl, rfl⟩ := hc
    have hm' : m = cap := by simpa using hmm
    subst hm'
    have hN : ∀ i, i < len → ∃ x : Tag, W.cell? (a.add (i * 2)) = some (.string x.1) ∧ W.cell? (a.add (i * 2 + 1)) = some (.string x.2) ∧ DataW.agg [D0 i, D1 i] = (tagD x : DataW H) := by
      intro i hi
      obtain ⟨h1, h2, h3, h4⟩ := hall i (by omega)
      obtain ⟨s0, e0, d0, _⟩ := DataW.trod_string Tryd.underlying9 h3
      obtain ⟨s1, e1, d1, _⟩ := DataW.trod_string Tryd.underlying9 h4
      simp at e0 e1
      have q0 := (Prod.mk.inj d0).1
      have q1 := (Prod.mk.inj d1).1
      exact ⟨(s0, s1), by rw [h1, e0], by rw [h2, e1], by rw [q0, q1]; rfl⟩
    obtain ⟨f, hfx⟩ := choose_lt hN
    refine ⟨a, (List.range len).map f, (List.range (m - len)).map fun j => .agg [D0 (len + j), D1 (len + j)], rfl, by simp, ?_, ?_⟩
    · refine ⟨some a, m, rfl, by simpa using hl, fun hne => ?_⟩
      have hp : 0 < len := by
        rcases Nat.eq_zero_or_pos len with h0 | h0
        · subst h0; exact absurd rfl hne
        · exact h0
      obtain ⟨b, off, spot⟩ := a
      have hspot : spot = none := by simpa [Addr.add] using World.cell?_spot (hfx 0 hp).1
      subst hspot
      refine ⟨b, off, rfl, ?_, ?_⟩
      · have := World.block_lt_of_cell? _ _ (hfx 0 hp).1
        rw [Go.WideShapes.add_plain] at this
        exact this
      · intro i hi
        have hi' : i < len := by simpa using hi
        obtain ⟨h1, h2, _⟩ := hfx i hi'
        rw [Go.WideShapes.add_plain] at h1 h2
        simp only [List.getElem_map, List.getElem_range]
        exact ⟨h1, h2⟩
    · rw [(Prod.mk.inj hx).1]
      congr 1
      rw [List.map_map]
      apply List.map_congr_left
      intro i hi
      exact (hfx i (List.mem_range.1 hi)).2.2
end Go.Proofs.YtolmgfeljpalgaaDoor
