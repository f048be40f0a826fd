/- What lies behind a slice of tags that came in: each tag's two cells, and their sizes. What lies behind a series that came in by value: its name, its slice of tags, and their sizes. -/
import Derived.Test.YtfohknpjlkjbbaaGreatDoorF
import Derived.Test.YtfohknpjlkjbbaaGreatDoorT1
import Derived.Deep.SlicePairs
import Derived.Test.YtfohknpjlkjbbaaGreatDoorM4
import Derived.Lib.SmallJoins
namespace Go.Proofs.YtfohknpjlkjbbaaGreatDoor
open Go Go.ChangeShapes Go.WideShapes Go.ChangeAt Go.RowKit Go.Deep Tg

theorem cells41 : Tryz.prog.cellsOf 63 = 2 := by kernel_rfl
/-- A tag as it is read. -/
def tagD {H : Type} (t : Tag) : DataW H := .agg [.lit (.string t.1.data.toList), .lit (.string t.2.data.toList)]
theorem tagD_weights {H : Type} (t : Tag) : (tagD t : DataW H).weights Tryz.prog 63 = [t.1.data.toList.length, t.2.data.toList.length] := by
  unfold tagD
  rw [DataW.weights, Tryz.underlying63]
  simp [DataW.weightsEach, DataW.weights]
theorem weight_tag {H : Type} (t : Tag) : ∀ l : List Tag, t ∈ l → t.1.data.toList.length ∈ DataW.weightsAll Tryz.prog 63 (l.map (tagD (H := H))) ∧ t.2.data.toList.length ∈ DataW.weightsAll Tryz.prog 63 (l.map (tagD (H := H)))
  | u :: r, h => by
    rw [List.map_cons, DataW.weightsAll, List.mem_append, List.mem_append, tagD_weights]
    rcases List.mem_cons.1 h with h | h
    · subst h
      exact ⟨Or.inl (by simp), Or.inl (by simp)⟩
    · obtain ⟨h1, h2⟩ := weight_tag (H := H) t r h
      exact ⟨Or.inr h1, Or.inr h2⟩
theorem sized_tags {H : Type} {ts : List TypeId} {ds : List (DataW H)} (h : (DataW.weightsEach Tryz.prog ts ds).all (· ≤ reachBytes) = true) {j : Nat} {l : List Tag} {sp : List (DataW H)}
    (ht : ts[j]? = some 34) (hd : ds[j]? = some (.slice (l.map tagD) sp)) : ∀ x ∈ l, x.1.size ≤ 281474976710656 ∧ x.2.size ≤ 281474976710656 := by
  intro x hx
  obtain ⟨m1, m2⟩ := weight_tag (H := H) x l hx
  have h2 := reachBytes_lt
  have e3 : (2 : Nat) ^ 47 = 140737488355328 := by decide
  have hm : ∀ n, n ∈ DataW.weightsAll Tryz.prog 63 (l.map (tagD (H := H))) → n ≤ 281474976710656 := by
    intro n hn
    have hw : n ∈ (DataW.slice (l.map tagD) sp : DataW H).weights Tryz.prog 34 := by
      rw [DataW.weights, Tryz.underlying34]
      exact List.mem_cons_of_mem _ (List.mem_append_left _ hn)
    have h1 := List.all_eq_true.1 h _ (DataW.weights_mem_each ht hd _ hw)
    simp only [decide_eq_true_eq] at h1
    omega
  rw [size_list, size_list]
  exact ⟨hm _ m1, hm _ m2⟩
/-- A slice of tags that reads as data: nil, or it holds its tags. -/
theorem open_tags {H : Type} {enc : TypeId × Value → H} {W : World} {a0 : Option Addr} {len cap : Nat} {d : DataW H} {p : List MemPlace}
    (h : DataW.Trod enc Tryz.prog W 0 (fun _ => true) true 34 (.slice a0 len cap) d p) :
    (a0 = none ∧ len = 0 ∧ cap = 0) ∨ ∃ a l sp, a0 = some a ∧ len = l.length ∧ TRow W (.slice (some a) l.length cap) l ∧ d = .slice (l.map tagD) sp := by
  obtain ⟨fuel, hf⟩ := h
  rcases open_slice_pairs Tryz.underlying34 Tryz.underlying63 cells41 rfl rfl cells9 cells9 hf with ⟨hc, _⟩ | ⟨a, len', cap', m, n, V0, V1, D0, D1, P0, P1, hc, _, hl, hm, hmm, hx, hall⟩
  · left
    simp [Value.cells] at hc
    exact hc
  · right
    simp [Value.cells] at hc
    obtain ⟨rfl, rfl, rfl⟩ := hc
    have hm' : m = cap := by simpa using hmm
    subst hm'
    have hN : ∀ i, i < len → ∃ x : Tag, W.cell? (a.add (i * 2)) = some (.string x.1) ∧ W.cell? (a.add (i * 2 + 1)) = some (.string x.2) ∧ DataW.agg [D0 i, D1 i] = (tagD x : DataW H) := by
      intro i hi
      obtain ⟨h1, h2, h3, h4⟩ := hall i (by omega)
      obtain ⟨s0, e0, d0, _⟩ := DataW.trod_string Tryz.underlying9 h3
      obtain ⟨s1, e1, d1, _⟩ := DataW.trod_string Tryz.underlying9 h4
      simp at e0 e1
      have q0 := (Prod.mk.inj d0).1
      have q1 := (Prod.mk.inj d1).1
      exact ⟨(s0, s1), by rw [h1, e0], by rw [h2, e1], by rw [q0, q1]; rfl⟩
    obtain ⟨f, hfx⟩ := choose_lt hN
    refine ⟨a, (List.range len).map f, (List.range (m - len)).map fun j => .agg [D0 (len + j), D1 (len + j)], rfl, by simp, ?_, ?_⟩
    · refine ⟨some a, m, rfl, by simpa using hl, fun hne => ?_⟩
      have hp : 0 < len := by
        rcases Nat.eq_zero_or_pos len with h0 | h0
        · subst h0; exact absurd rfl hne
        · exact h0
      obtain ⟨b, off, spot⟩ := a
      have hspot : spot = none := by simpa [Addr.add] using World.cell?_spot (hfx 0 hp).1
      subst hspot
      refine ⟨b, off, rfl, ?_, ?_⟩
      · have := World.block_lt_of_cell? _ _ (hfx 0 hp).1
        rw [Go.WideShapes.add_plain] at this
        exact this
      · intro i hi
        have hi' : i < len := by simpa using hi
        obtain ⟨h1, h2, _⟩ := hfx i hi'
        rw [Go.WideShapes.add_plain] at h1 h2
        simp only [List.getElem_map, List.getElem_range]
        exact ⟨h1, h2⟩
    · rw [(Prod.mk.inj hx).1]
      congr 1
      rw [List.map_map]
      apply List.map_congr_left
      intro i hi
      exact (hfx i (List.mem_range.1 hi)).2.2
end Go.Proofs.YtfohknpjlkjbbaaGreatDoor
namespace Go.Proofs.YtfohknpjlkjbbaaGreatDoor
open Go Go.ChangeShapes Go.WideShapes Go.ChangeAt Go.RowKit Go.Deep Go.Joins Tg Ky

theorem cells24 : Tryz.prog.cellsOf 36 = 2 := by kernel_rfl
set_option maxRecDepth 100000 in
/-- A series by value that reads as data. -/
theorem open_key {H : Type} {enc : TypeId × Value → H} {W : World} {b0 : Nat} {v : Value} {d : DataW H} {p : List MemPlace}
    (hv : Value.okWide Tryz.prog W .any b0 36 v) (h : DataW.Trod enc Tryz.prog W 0 (fun _ => true) true 36 v d p) :
    ∃ (k : Key) (a : Option Addr) (c : Nat) (D : DataW H), v = .agg #[.string k.1, .slice a k.2.length c] ∧ TRow W (.slice a k.2.length c) k.2 ∧ d = .agg [.lit (.string k.1.data.toList), D] ∧ (k.2 = [] ∨ ∃ sp, D = .slice (k.2.map tagD) sp) := by
  obtain ⟨v0, v1, y0, y1, n, rfl, rfl, rfl, h0, h1⟩ := open_agg2 Tryz.underlying36 (by kernel_rfl) cells24 hv h
  obtain ⟨s, e0, rfl, _⟩ := DataW.trod_string Tryz.underlying9 h0
  simp at e0
  subst e0
  have hform : ∃ a0 len cap, v1 = .slice a0 len cap := by
    rcases open_slice_pairs Tryz.underlying34 Tryz.underlying63 cells41 rfl rfl cells9 cells9 h1 with ⟨hc, _⟩ | ⟨a, len', cap', m, n, V0, V1, D0, D1, P0, P1, hc, _⟩
    · simp at hc
      exact ⟨_, _, _, hc⟩
    · simp at hc
      exact ⟨_, _, _, hc⟩
  obtain ⟨a0, len, cap, rfl⟩ := hform
  have hT : DataW.Trod enc Tryz.prog W 0 (fun _ => true) true 34 (.slice a0 len cap) y1.1 y1.2 := ⟨n, h1⟩
  rcases open_tags hT with ⟨rfl, rfl, rfl⟩ | ⟨a, l, sp, rfl, rfl, hrow, hd⟩
  · exact ⟨(s, []), none, 0, y1.1, rfl, TRow.nil W, rfl, Or.inl rfl⟩
  · exact ⟨(s, l), some a, cap, y1.1, rfl, hrow, rfl, Or.inr ⟨sp, hd⟩⟩
theorem sized_key {H : Type} {ts : List TypeId} {ds : List (DataW H)} (h : (DataW.weightsEach Tryz.prog ts ds).all (· ≤ reachBytes) = true) {j : Nat} {k : Key} {D : DataW H}
    (ht : ts[j]? = some 36) (hd : ds[j]? = some (.agg [.lit (.string k.1.data.toList), D])) (hD : k.2 = [] ∨ ∃ sp, D = .slice (k.2.map tagD) sp) :
    k.1.size ≤ 281474976710656 ∧ ∀ x ∈ k.2, x.1.size ≤ 281474976710656 ∧ x.2.size ≤ 281474976710656 := by
  have h2 := reachBytes_lt
  have e3 : (2 : Nat) ^ 47 = 140737488355328 := by decide
  have hm : ∀ n, n ∈ (DataW.agg [.lit (.string k.1.data.toList), D] : DataW H).weights Tryz.prog 36 → n ≤ 281474976710656 := by
    intro n hn
    have h1 := List.all_eq_true.1 h _ (DataW.weights_mem_each ht hd _ hn)
    simp only [decide_eq_true_eq] at h1
    omega
  have hw : (DataW.agg [.lit (.string k.1.data.toList), D] : DataW H).weights Tryz.prog 36 = k.1.data.toList.length :: (D.weights Tryz.prog 34) := by
    rw [DataW.weights, Tryz.underlying36]
    simp [DataW.weightsEach, DataW.weights]
  rw [hw] at hm
  refine ⟨by rw [size_list]; exact hm _ (by simp), ?_⟩
  intro x hx
  rcases hD with h0 | ⟨sp, rfl⟩
  · rw [h0] at hx; cases hx
  · obtain ⟨m1, m2⟩ := weight_tag (H := H) x k.2 hx
    have hs : (DataW.slice (k.2.map tagD) sp : DataW H).weights Tryz.prog 34 = ((k.2.map (tagD (H := H))).length + sp.length) * Tryz.prog.bytesOf 63 :: (DataW.weightsAll Tryz.prog 63 (k.2.map (tagD (H := H))) ++ DataW.weightsAll Tryz.prog 63 sp) := by
      rw [DataW.weights, Tryz.underlying34]
    rw [hs] at hm
    rw [size_list, size_list]
    exact ⟨hm _ (List.mem_cons_of_mem _ (List.mem_cons_of_mem _ (List.mem_append_left _ m1))), hm _ (List.mem_cons_of_mem _ (List.mem_cons_of_mem _ (List.mem_append_left _ m2)))⟩
end Go.Proofs.YtfohknpjlkjbbaaGreatDoor
