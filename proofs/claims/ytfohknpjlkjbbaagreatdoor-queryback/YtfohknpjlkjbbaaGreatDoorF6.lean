/- What lies behind a slice of matches that came in: each match's three cells, and their sizes; a tag that came in by value. What lies behind a query that came in by value: its agg, its name, its slices of matches and of names, and their sizes. -/
import Derived.Test.YtfohknpjlkjbbaaGreatDoorF3
import Derived.Test.YtfohknpjlkjbbaaGreatDoorP1
import Derived.Lib.SmallJoins
import Derived.Test.YtfohknpjlkjbbaaGreatDoorQ1
namespace Go.Proofs.YtfohknpjlkjbbaaGreatDoor
open Go Go.ChangeShapes Go.WideShapes Go.ChangeAt Go.RowKit Go.Deep Go.Joins Tg Pk

theorem cells39 : Tryz.prog.cellsOf 72 = 3 := by kernel_rfl
theorem cells3 : Tryz.prog.cellsOf 3 = 1 := by kernel_rfl
/-- A match as it is read. -/
def matD {H : Type} (m : Match) : DataW H := .agg [.lit (.int .i64 m.1), .lit (.string m.2.1.data.toList), .lit (.string m.2.2.data.toList)]
theorem matD_weights {H : Type} (m : Match) : (matD m : DataW H).weights Tryz.prog 72 = [m.2.1.data.toList.length, m.2.2.data.toList.length] := by
  unfold matD
  rw [DataW.weights, Tryz.underlying72]
  simp [DataW.weightsEach, DataW.weights]
theorem weight_mat {H : Type} (t : Match) : ∀ l : List Match, t ∈ l → t.2.1.data.toList.length ∈ DataW.weightsAll Tryz.prog 72 (l.map (matD (H := H))) ∧ t.2.2.data.toList.length ∈ DataW.weightsAll Tryz.prog 72 (l.map (matD (H := H)))
  | u :: r, h => by
    rw [List.map_cons, DataW.weightsAll, List.mem_append, List.mem_append, matD_weights]
    rcases List.mem_cons.1 h with h | h
    · subst h
      exact ⟨Or.inl (by simp), Or.inl (by simp)⟩
    · obtain ⟨h1, h2⟩ := weight_mat (H := H) t r h
      exact ⟨Or.inr h1, Or.inr h2⟩
theorem sized_mats {H : Type} {ts : List TypeId} {ds : List (DataW H)} (h : (DataW.weightsEach Tryz.prog ts ds).all (· ≤ reachBytes) = true) {j : Nat} {l : List Match} {sp : List (DataW H)}
    (ht : ts[j]? = some 22) (hd : ds[j]? = some (.slice (l.map matD) sp)) : ∀ x ∈ l, x.2.1.size ≤ 281474976710656 ∧ x.2.2.size ≤ 281474976710656 := by
  intro x hx
  obtain ⟨m1, m2⟩ := weight_mat (H := H) x l hx
  have h2 := reachBytes_lt
  have e3 : (2 : Nat) ^ 47 = 140737488355328 := by decide
  have hm : ∀ n, n ∈ DataW.weightsAll Tryz.prog 72 (l.map (matD (H := H))) → n ≤ 281474976710656 := by
    intro n hn
    have hw : n ∈ (DataW.slice (l.map matD) sp : DataW H).weights Tryz.prog 22 := by
      rw [DataW.weights, Tryz.underlying22]
      exact List.mem_cons_of_mem _ (List.mem_append_left _ hn)
    have h1 := List.all_eq_true.1 h _ (DataW.weights_mem_each ht hd _ hw)
    simp only [decide_eq_true_eq] at h1
    omega
  rw [size_list, size_list]
  exact ⟨hm _ m1, hm _ m2⟩
set_option maxRecDepth 100000 in
/-- A slice of matches that reads as data: nil, or it holds its matches. -/
theorem open_mats {H : Type} {enc : TypeId × Value → H} {W : World} {a0 : Option Addr} {len cap : Nat} {d : DataW H} {p : List MemPlace}
    (h : DataW.Trod enc Tryz.prog W 0 (fun _ => true) true 22 (.slice a0 len cap) d p) :
    (a0 = none ∧ len = 0 ∧ cap = 0) ∨ ∃ a l sp, a0 = some a ∧ len = l.length ∧ MRow W (.slice (some a) l.length cap) l ∧ d = .slice (l.map matD) sp := by
  obtain ⟨fuel, hf⟩ := h
  rcases open_slice Tryz.underlying22 hf with ⟨hc, _⟩ | ⟨a, len', cap', m, n, D, Pl, hc, _, hl, hm, hmm, hx, hall⟩
  · left
    simp [Value.cells] at hc
    exact hc
  · right
    simp [Value.cells] at hc
    obtain ⟨rfl, rfl, rfl⟩ := hc
    have hm' : m = cap := by simpa using hmm
    subst hm'
    have hN : ∀ i, i < len → ∃ x : Match, W.cell? (a.add (i * 3)) = some (.int .i64 x.1) ∧ W.cell? (a.add (i * 3 + 1)) = some (.string x.2.1) ∧ W.cell? (a.add (i * 3 + 2)) = some (.string x.2.2) ∧ D i = (matD x : DataW H) := by
      intro i hi
      obtain ⟨cs', h1, h2⟩ := hall i (by omega)
      rw [cells39] at h1
      obtain ⟨_, hlen, hcell⟩ := World.cells?_some h1
      obtain ⟨xs, k, hk, hxy, _, hxl, hfd⟩ := DataW.trod_struct Tryz.underlying72 h2
      match xs, hxl, cs', hlen with
      | [y0, y1, y2], _, [v0, v1, v2], _ =>
        have g0 := hfd 0 _ rfl
        have g1 := hfd 1 _ rfl
        have g2 := hfd 2 _ rfl
        simp [cells3, cells9] at g0 g1 g2
        have e0 := hcell 0 (by omega)
        have e1 := hcell 1 (by omega)
        have e2 := hcell 2 (by omega)
        rw [add_add] at e0 e1 e2
        simp only [Prod.mk.injEq] at hxy
        obtain ⟨s0, q0, d0, _⟩ := DataW.trod_int Tryz.underlying3 g0
        obtain ⟨s1, q1, d1, _⟩ := DataW.trod_string Tryz.underlying9 g1
        obtain ⟨s2, q2, d2, _⟩ := DataW.trod_string Tryz.underlying9 g2
        simp at q0 q1 q2
        subst q0
        subst q1
        subst q2
        subst d0
        subst d1
        subst d2
        exact ⟨(s0, s1, s2), by simpa using e0, by simpa using e1, by simpa using e2, by rw [hxy.1]; rfl⟩
    obtain ⟨f, hfx⟩ := choose_lt hN
    refine ⟨a, (List.range len).map f, (List.range (m - len)).map fun j => D (len + j), rfl, by simp, ?_, ?_⟩
    · refine ⟨some a, m, rfl, by simpa using hl, fun hne => ?_⟩
      have hp : 0 < len := by
        rcases Nat.eq_zero_or_pos len with h0 | h0
        · subst h0; exact absurd rfl hne
        · exact h0
      obtain ⟨b, off, spot⟩ := a
      have hspot : spot = none := by simpa [Addr.add] using World.cell?_spot (hfx 0 hp).1
      subst hspot
      refine ⟨b, off, rfl, ?_, ?_⟩
      · have := World.block_lt_of_cell? _ _ (hfx 0 hp).1
        rw [Go.WideShapes.add_plain] at this
        exact this
      · intro i hi
        have hi' : i < len := by simpa using hi
        obtain ⟨h0, h1, h2, _⟩ := hfx i hi'
        rw [Go.WideShapes.add_plain] at h0 h1 h2
        simp only [List.getElem_map, List.getElem_range]
        exact ⟨h0, h1, h2⟩
    · rw [(Prod.mk.inj hx).1]
      congr 1
      rw [List.map_map]
      apply List.map_congr_left
      intro i hi
      exact (hfx i (List.mem_range.1 hi)).2.2.2
end Go.Proofs.YtfohknpjlkjbbaaGreatDoor
namespace Go.Proofs.YtfohknpjlkjbbaaGreatDoor
open Go Go.ChangeShapes Go.WideShapes Go.ChangeAt Go.RowKit Go.Deep Go.Joins Tg Pk Ky Qy

theorem cells25 : Tryz.prog.cellsOf 25 = 4 := by kernel_rfl
set_option maxRecDepth 100000 in
/-- A query by value that reads as data. -/
theorem open_query {H : Type} {enc : TypeId × Value → H} {W : World} {b0 : Nat} {v : Value} {d : DataW H} {p : List MemPlace}
    (hv : Value.okWide Tryz.prog W .any b0 25 v) (h : DataW.Trod enc Tryz.prog W 0 (fun _ => true) true 25 v d p) :
    ∃ (q : Query) (a b : Option Addr) (c e : Nat) (D E : DataW H), v = .agg #[.int .i64 q.1, .string q.2.1, .slice a q.2.2.1.length c, .slice b q.2.2.2.length e] ∧ MRow W (.slice a q.2.2.1.length c) q.2.2.1 ∧ Row W (.slice b q.2.2.2.length e) q.2.2.2 ∧ d = .agg [.lit (.int .i64 q.1), .lit (.string q.2.1.data.toList), D, E] ∧ (q.2.2.1 = [] ∨ ∃ sp, D = .slice (q.2.2.1.map matD) sp) ∧ (q.2.2.2 = [] ∨ ∃ r, E = .slice (strs q.2.2.2) (strs r)) := by
  obtain ⟨v0, v1, v2, v3, y0, y1, y2, y3, n, rfl, rfl, rfl, h0, h1, h2, h3⟩ := open_agg4 Tryz.underlying25 (by kernel_rfl) cells25 hv h
  obtain ⟨g, e0, rfl, _⟩ := DataW.trod_int Tryz.underlying3 h0
  obtain ⟨s, e1, rfl, _⟩ := DataW.trod_string Tryz.underlying9 h1
  simp at e0 e1
  subst e0
  subst e1
  have f2 : ∃ a0 len cap, v2 = .slice a0 len cap := by
    rcases open_slice Tryz.underlying22 h2 with ⟨hc, _⟩ | ⟨a, len', cap', m, n, D, Pl, hc, _⟩
    · simp at hc
      exact ⟨_, _, _, hc⟩
    · simp at hc
      exact ⟨_, _, _, hc⟩
  have f3 : ∃ a0 len cap, v3 = .slice a0 len cap := by
    rcases open_slice Tryz.underlying23 h3 with ⟨hc, _⟩ | ⟨a, len', cap', m, n, D, Pl, hc, _⟩
    · simp at hc
      exact ⟨_, _, _, hc⟩
    · simp at hc
      exact ⟨_, _, _, hc⟩
  obtain ⟨a0, len, cap, rfl⟩ := f2
  obtain ⟨a1, len1, cap1, rfl⟩ := f3
  have hT : DataW.Trod enc Tryz.prog W 0 (fun _ => true) true 22 (.slice a0 len cap) y2.1 y2.2 := ⟨n, h2⟩
  have hS : DataW.Trod enc Tryz.prog W 0 (fun _ => true) true 23 (.slice a1 len1 cap1) y3.1 y3.2 := ⟨n, h3⟩
  have k2 : ∃ (a : Option Addr) (l : List Match) (c : Nat), a0 = a ∧ len = l.length ∧ cap = c ∧ MRow W (.slice a l.length c) l ∧ (l = [] ∨ ∃ sp, y2.1 = .slice (l.map matD) sp) := by
    rcases open_mats hT with ⟨rfl, rfl, rfl⟩ | ⟨a, l, sp, rfl, rfl, hrow, hd⟩
    · exact ⟨none, [], 0, rfl, rfl, rfl, MRow.nil W, Or.inl rfl⟩
    · exact ⟨some a, l, cap, rfl, rfl, rfl, hrow, Or.inr ⟨sp, hd⟩⟩
  have k3 : ∃ (a : Option Addr) (l : List ByteArray) (c : Nat), a1 = a ∧ len1 = l.length ∧ cap1 = c ∧ Row W (.slice a l.length c) l ∧ (l = [] ∨ ∃ r, y3.1 = .slice (strs l) (strs r)) := by
    rcases open_texts hS with ⟨rfl, rfl, rfl⟩ | ⟨a, l, r, rfl, rfl, hrow, hd⟩
    · exact ⟨none, [], 0, rfl, rfl, rfl, Row.nil W, Or.inl rfl⟩
    · exact ⟨some a, l, cap1, rfl, rfl, rfl, hrow, Or.inr ⟨r, hd⟩⟩
  obtain ⟨a, l, c, rfl, rfl, rfl, r2, j2⟩ := k2
  obtain ⟨b, l', c', rfl, rfl, rfl, r3, j3⟩ := k3
  exact ⟨(g, s, l, l'), _, _, _, _, y2.1, y3.1, rfl, r2, r3, rfl, j2, j3⟩
theorem sized_query {H : Type} {ts : List TypeId} {ds : List (DataW H)} (h : (DataW.weightsEach Tryz.prog ts ds).all (· ≤ reachBytes) = true) {j : Nat} {q : Query} {D E : DataW H}
    (ht : ts[j]? = some 25) (hd : ds[j]? = some (.agg [.lit (.int .i64 q.1), .lit (.string q.2.1.data.toList), D, E])) (hD : q.2.2.1 = [] ∨ ∃ sp, D = .slice (q.2.2.1.map matD) sp) (hE : q.2.2.2 = [] ∨ ∃ r, E = .slice (strs q.2.2.2) (strs r)) :
    q.2.1.size ≤ 281474976710656 ∧ (∀ x ∈ q.2.2.1, x.2.1.size ≤ 281474976710656 ∧ x.2.2.size ≤ 281474976710656) ∧ ∀ x ∈ q.2.2.2, x.size ≤ 281474976710656 := by
  have h2 := reachBytes_lt
  have e3 : (2 : Nat) ^ 47 = 140737488355328 := by decide
  have hm : ∀ n, n ∈ (DataW.agg [.lit (.int .i64 q.1), .lit (.string q.2.1.data.toList), D, E] : DataW H).weights Tryz.prog 25 → n ≤ 281474976710656 := by
    intro n hn
    have h1 := List.all_eq_true.1 h _ (DataW.weights_mem_each ht hd _ hn)
    simp only [decide_eq_true_eq] at h1
    omega
  have hw : (DataW.agg [.lit (.int .i64 q.1), .lit (.string q.2.1.data.toList), D, E] : DataW H).weights Tryz.prog 25 = q.2.1.data.toList.length :: (D.weights Tryz.prog 22 ++ E.weights Tryz.prog 23) := by
    rw [DataW.weights, Tryz.underlying25]
    simp [DataW.weightsEach, DataW.weights]
  rw [hw] at hm
  refine ⟨by rw [size_list]; exact hm _ (by simp), ?_, ?_⟩
  · intro x hx
    rcases hD with h0 | ⟨sp, rfl⟩
    · rw [h0] at hx; cases hx
    · obtain ⟨m1, m2⟩ := weight_mat (H := H) x q.2.2.1 hx
      have hs : ∀ n, n ∈ DataW.weightsAll Tryz.prog 72 (q.2.2.1.map (matD (H := H))) → n ∈ (DataW.slice (q.2.2.1.map matD) sp : DataW H).weights Tryz.prog 22 := by
        intro n hn
        rw [DataW.weights, Tryz.underlying22]
        exact List.mem_cons_of_mem _ (List.mem_append_left _ hn)
      rw [size_list, size_list]
      exact ⟨hm _ (List.mem_cons_of_mem _ (List.mem_append_left _ (hs _ m1))), hm _ (List.mem_cons_of_mem _ (List.mem_append_left _ (hs _ m2)))⟩
  · intro x hx
    rcases hE with h0 | ⟨r, rfl⟩
    · rw [h0] at hx; cases hx
    · have hs : x.data.toList.length ∈ (DataW.slice (strs q.2.2.2) (strs r) : DataW H).weights Tryz.prog 23 := by
        rw [DataW.weights, Tryz.underlying23]
        refine List.mem_cons_of_mem _ (List.mem_append_left _ (weight_mem _ _ ?_))
        exact List.mem_map.2 ⟨x, hx, rfl⟩
      rw [size_list]
      exact hm _ (List.mem_cons_of_mem _ (List.mem_append_right _ hs))
end Go.Proofs.YtfohknpjlkjbbaaGreatDoor
