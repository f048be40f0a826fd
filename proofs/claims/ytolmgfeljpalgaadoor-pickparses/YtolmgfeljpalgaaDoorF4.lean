/- What lies behind a slice of matches that came in: each match's three cells, and their sizes; a tag that came in by value. -/
import Derived.Test.YtolmgfeljpalgaaDoorF2
import Derived.Test.YtolmgfeljpalgaaDoorP1
import Derived.Lib.SmallJoins
namespace Go.Proofs.YtolmgfeljpalgaaDoor
open Go Go.ChangeShapes Go.WideShapes Go.ChangeAt Go.RowKit Go.Deep Go.Joins Tg Pk

theorem cells39 : Tryd.prog.cellsOf 39 = 3 := by kernel_rfl
theorem cells3 : Tryd.prog.cellsOf 3 = 1 := by kernel_rfl
/-- A match as it is read. -/
def matD {H : Type} (m : Match) : DataW H := .agg [.lit (.int .i64 m.1), .lit (.string m.2.1.data.toList), .lit (.string m.2.2.data.toList)]
theorem matD_weights {H : Type} (m : Match) : (matD m : DataW H).weights Tryd.prog 39 = [m.2.1.data.toList.length, m.2.2.data.toList.length] := by
  unfold matD
  rw [DataW.weights, Tryd.underlying39]
  simp [DataW.weightsEach, DataW.weights]
theorem weight_mat {H : Type} (t : Match) : ∀ l : List Match, t ∈ l → t.2.1.data.toList.length ∈ DataW.weightsAll Tryd.prog 39 (l.map (matD (H := H))) ∧ t.2.2.data.toList.length ∈ DataW.weightsAll Tryd.prog 39 (l.map (matD (H := H)))
  | u :: r, h => by
    rw [List.map_cons, DataW.weightsAll, List.mem_append, List.mem_append, matD_weights]
    rcases List.mem_cons.1 h with h | h
    · subst h
      exact ⟨Or.inl (by simp), Or.inl (by simp)⟩
    · obtain ⟨h1, h2⟩ := weight_mat (H := H) t r h
      exact ⟨Or.inr h1, Or.inr h2⟩
theorem sized_mats {H : Type} {ts : List TypeId} {ds : List (DataW H)} (h : (DataW.weightsEach Tryd.prog ts ds).all (· ≤ reachBytes) = true) {j : Nat} {l : List Match} {sp : List (DataW H)}
    (ht : ts[j]? = some 22) (hd : ds[j]? = some (.slice (l.map matD) sp)) : ∀ x ∈ l, x.2.1.size ≤ 281474976710656 ∧ x.2.2.size ≤ 281474976710656 := by
  intro x hx
  obtain ⟨m1, m2⟩ := weight_mat (H := H) x l hx
  have h2 := reachBytes_lt
  have e3 : (2 : Nat) ^ 47 = 140737488355328 := by decide
  have hm : ∀ n, n ∈ DataW.weightsAll Tryd.prog 39 (l.map (matD (H := H))) → n ≤ 281474976710656 := by
    intro n hn
    have hw : n ∈ (DataW.slice (l.map matD) sp : DataW H).weights Tryd.prog 22 := by
      rw [DataW.weights, Tryd.underlying22]
      exact List.mem_cons_of_mem _ (List.mem_append_left _ hn)
    have h1 := List.all_eq_true.1 h _ (DataW.weights_mem_each ht hd _ hw)
    simp only [decide_eq_true_eq] at h1
    omega
  rw [size_list, size_list]
  exact ⟨hm _ m1, hm _ m2⟩
set_option maxRecDepth 100000 in
/-- A slice of matches that reads as data: nil, or it holds its matches. -/
theorem open_mats {H : Type} {enc : TypeId × Value → H} {W : World} {a0 : Option Addr} {len cap : Nat} {d : DataW H} {p : List MemPlace}
    (h : DataW.Trod enc Tryd.prog W 0 (fun _ => true) true 22 (.slice a0 len cap) d p) :
    (a0 = none ∧ len = 0 ∧ cap = 0) ∨ ∃ a l sp, a0 = some a ∧ len = l.length ∧ MRow W (.slice (some a) l.length cap) l ∧ d = .slice (l.map matD) sp := by
  obtain ⟨fuel, hf⟩ := h
  rcases open_slice Tryd.underlying22 hf with ⟨hc, _⟩ | ⟨a, len', cap', m, n, D, Pl, hc, _, hl, hm, hmm, hx, hall⟩
  · left
    simp [Value.cells] at hc
    exact hc
  · right
    simp [Value.cells] at hc
    obtain ⟨rfl, rfl, rfl⟩ := hc
    have hm' : m = cap := by simpa using hmm
    subst hm'
    have hN : ∀ i, i < len → ∃ x : Match, W.cell? (a.add (i * 3)) = some (.int .i64 x.1) ∧ W.cell? (a.add (i * 3 + 1)) = some (.string x.2.1) ∧ W.cell? (a.add (i * 3 + 2)) = some (.string x.2.2) ∧ D i = (matD x : DataW H) := by
      intro i hi
      obtain ⟨cs', h1, h2⟩ := hall i (by omega)
      rw [cells39] at h1
      obtain ⟨_, hlen, hcell⟩ := World.cells?_some h1
      obtain ⟨xs, k, hk, hxy, _, hxl, hfd⟩ := DataW.trod_struct Tryd.underlying39 h2
      match xs, hxl, cs', hlen with
      | [y0, y1, y2], _, [v0, v1, v2], _ =>
        have g0 := hfd 0 _ rfl
        have g1 := hfd 1 _ rfl
        have g2 := hfd 2 _ rfl
        simp [cells3, cells9] at g0 g1 g2
        have e0 := hcell 0 (by omega)
        have e1 := hcell 1 (by omega)
        have e2 := hcell 2 (by omega)
        rw [add_add] at e0 e1 e2
        simp only [Prod.mk.injEq] at hxy
        obtain ⟨s0, q0, d0, _⟩ := DataW.trod_int Tryd.underlying3 g0
        obtain ⟨s1, q1, d1, _⟩ := DataW.trod_string Tryd.underlying9 g1
        obtain ⟨s2, q2, d2, _⟩ := DataW.trod_string Tryd.underlying9 g2
        simp at q0 q1 q2
        subst q0
        subst q1
        subst q2
        subst d0
        subst d1
        subst d2
        exact ⟨(s0, s1, s2), by simpa using e0, by simpa using e1, by simpa using e2, by rw [hxy.1]; rfl⟩
    obtain ⟨f, hfx⟩ := choose_lt hN
    refine ⟨a, (List.range len).map f, (List.range (m - len)).map fun j => D (len + j), rfl, by simp, ?_, ?_⟩
    · refine ⟨some a, m, rfl, by simpa using hl, fun hne => ?_⟩
      have hp : 0 < len := by
        rcases Nat.eq_zero_or_pos len with h0 | h0
        · subst h0; exact absurd rfl hne
        · exact h0
      obtain ⟨b, off, spot⟩ := a
      have hspot : spot = none := by simpa [Addr.add] using World.cell?_spot (hfx 0 hp).1
      subst hspot
      refine ⟨b, off, rfl, ?_, ?_⟩
      · have := World.block_lt_of_cell? _ _ (hfx 0 hp).1
        rw [Go.WideShapes.add_plain] at this
        exact this
      · intro i hi
        have hi' : i < len := by simpa using hi
        obtain ⟨h0, h1, h2, _⟩ := hfx i hi'
        rw [Go.WideShapes.add_plain] at h0 h1 h2
        simp only [List.getElem_map, List.getElem_range]
        exact ⟨h0, h1, h2⟩
    · rw [(Prod.mk.inj hx).1]
      congr 1
      rw [List.map_map]
      apply List.map_congr_left
      intro i hi
      exact (hfx i (List.mem_range.1 hi)).2.2.2
set_option maxRecDepth 100000 in
/-- A tag by value that reads as data. -/
theorem open_tag {H : Type} {enc : TypeId × Value → H} {W : World} {b0 : Nat} {v : Value} {d : DataW H} {p : List MemPlace}
    (hv : Value.okWide Tryd.prog W .any b0 37 v) (h : DataW.Trod enc Tryd.prog W 0 (fun _ => true) true 37 v d p) :
    ∃ t : Tag, v = .agg #[.string t.1, .string t.2] ∧ d = tagD t := by
  obtain ⟨v0, v1, y0, y1, n, rfl, rfl, rfl, h0, h1⟩ := open_agg2 Tryd.underlying37 (by kernel_rfl) cells41 hv h
  obtain ⟨s0, e0, rfl, _⟩ := DataW.trod_string Tryd.underlying9 h0
  obtain ⟨s1, e1, rfl, _⟩ := DataW.trod_string Tryd.underlying9 h1
  simp at e0 e1
  subst e0
  subst e1
  exact ⟨(s0, s1), rfl, rfl⟩
theorem sized_tag {H : Type} {ts : List TypeId} {ds : List (DataW H)} (h : (DataW.weightsEach Tryd.prog ts ds).all (· ≤ reachBytes) = true) {j : Nat} {t : Tag}
    (ht : ts[j]? = some 37) (hd : ds[j]? = some (tagD t)) : t.1.size ≤ 281474976710656 ∧ t.2.size ≤ 281474976710656 := by
  have h2 := reachBytes_lt
  have e3 : (2 : Nat) ^ 47 = 140737488355328 := by decide
  have hm : ∀ n, n ∈ (tagD t : DataW H).weights Tryd.prog 37 → n ≤ 281474976710656 := by
    intro n hn
    have h1 := List.all_eq_true.1 h _ (DataW.weights_mem_each ht hd _ hn)
    simp only [decide_eq_true_eq] at h1
    omega
  rw [tagD_weights] at hm
  rw [size_list, size_list]
  exact ⟨hm _ (by simp), hm _ (by simp)⟩
end Go.Proofs.YtolmgfeljpalgaaDoor
