/- What lies behind a series that came in by value: its name, its slice of tags, and their sizes. -/
import Derived.Test.YtfjbbaejeckonaaDoorF2
import Derived.Test.YtfjbbaejeckonaaDoorM3
import Derived.Lib.SmallJoins
namespace Go.Proofs.YtfjbbaejeckonaaDoor
open Go Go.ChangeShapes Go.WideShapes Go.ChangeAt Go.RowKit Go.Deep Go.Joins Tg Ky

theorem cells24 : Tryd.prog.cellsOf 24 = 2 := by kernel_rfl
set_option maxRecDepth 100000 in
/-- A series by value that reads as data. -/
theorem open_key {H : Type} {enc : TypeId × Value → H} {W : World} {b0 : Nat} {v : Value} {d : DataW H} {p : List MemPlace}
    (hv : Value.okWide Tryd.prog W .any b0 24 v) (h : DataW.Trod enc Tryd.prog W 0 (fun _ => true) true 24 v d p) :
    ∃ (k : Key) (a : Option Addr) (c : Nat) (D : DataW H), v = .agg #[.string k.1, .slice a k.2.length c] ∧ TRow W (.slice a k.2.length c) k.2 ∧ d = .agg [.lit (.string k.1.data.toList), D] ∧ (k.2 = [] ∨ ∃ sp, D = .slice (k.2.map tagD) sp) := by
  obtain ⟨v0, v1, y0, y1, n, rfl, rfl, rfl, h0, h1⟩ := open_agg2 Tryd.underlying24 (by kernel_rfl) cells24 hv h
  obtain ⟨s, e0, rfl, _⟩ := DataW.trod_string Tryd.underlying9 h0
  simp at e0
  subst e0
  have hform : ∃ a0 len cap, v1 = .slice a0 len cap := by
    rcases open_slice_pairs Tryd.underlying22 Tryd.underlying40 cells41 rfl rfl cells9 cells9 h1 with ⟨hc, _⟩ | ⟨a, len', cap', m, n, V0, V1, D0, D1, P0, P1, hc, _⟩
    · simp at hc
      exact ⟨_, _, _, hc⟩
    · simp at hc
      exact ⟨_, _, _, hc⟩
  obtain ⟨a0, len, cap, rfl⟩ := hform
  have hT : DataW.Trod enc Tryd.prog W 0 (fun _ => true) true 22 (.slice a0 len cap) y1.1 y1.2 := ⟨n, h1⟩
  rcases open_tags hT with ⟨rfl, rfl, rfl⟩ | ⟨a, l, sp, rfl, rfl, hrow, hd⟩
  · exact ⟨(s, []), none, 0, y1.1, rfl, TRow.nil W, rfl, Or.inl rfl⟩
  · exact ⟨(s, l), some a, cap, y1.1, rfl, hrow, rfl, Or.inr ⟨sp, hd⟩⟩
theorem sized_key {H : Type} {ts : List TypeId} {ds : List (DataW H)} (h : (DataW.weightsEach Tryd.prog ts ds).all (· ≤ reachBytes) = true) {j : Nat} {k : Key} {D : DataW H}
    (ht : ts[j]? = some 24) (hd : ds[j]? = some (.agg [.lit (.string k.1.data.toList), D])) (hD : k.2 = [] ∨ ∃ sp, D = .slice (k.2.map tagD) sp) :
    k.1.size ≤ 281474976710656 ∧ ∀ x ∈ k.2, x.1.size ≤ 281474976710656 ∧ x.2.size ≤ 281474976710656 := by
  have h2 := reachBytes_lt
  have e3 : (2 : Nat) ^ 47 = 140737488355328 := by decide
  have hm : ∀ n, n ∈ (DataW.agg [.lit (.string k.1.data.toList), D] : DataW H).weights Tryd.prog 24 → n ≤ 281474976710656 := by
    intro n hn
    have h1 := List.all_eq_true.1 h _ (DataW.weights_mem_each ht hd _ hn)
    simp only [decide_eq_true_eq] at h1
    omega
  have hw : (DataW.agg [.lit (.string k.1.data.toList), D] : DataW H).weights Tryd.prog 24 = k.1.data.toList.length :: (D.weights Tryd.prog 22) := by
    rw [DataW.weights, Tryd.underlying24]
    simp [DataW.weightsEach, DataW.weights]
  rw [hw] at hm
  refine ⟨by rw [size_list]; exact hm _ (by simp), ?_⟩
  intro x hx
  rcases hD with h0 | ⟨sp, rfl⟩
  · rw [h0] at hx; cases hx
  · obtain ⟨m1, m2⟩ := weight_tag (H := H) x k.2 hx
    have hs : (DataW.slice (k.2.map tagD) sp : DataW H).weights Tryd.prog 22 = ((k.2.map (tagD (H := H))).length + sp.length) * Tryd.prog.bytesOf 40 :: (DataW.weightsAll Tryd.prog 40 (k.2.map (tagD (H := H))) ++ DataW.weightsAll Tryd.prog 40 sp) := by
      rw [DataW.weights, Tryd.underlying22]
    rw [hs] at hm
    rw [size_list, size_list]
    exact ⟨hm _ (List.mem_cons_of_mem _ (List.mem_cons_of_mem _ (List.mem_append_left _ m1))), hm _ (List.mem_cons_of_mem _ (List.mem_cons_of_mem _ (List.mem_append_left _ m2)))⟩
end Go.Proofs.YtfjbbaejeckonaaDoor
