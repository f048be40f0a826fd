/- seq: queues of one's own that are stored into; the first of the least stamp: plain. -/
import Derived.Test.YtmgfgfkkhcibcaaV14
namespace Go.Proofs.Ytmgfgfkkhcibcaa.Se
open Go Go.RowKit

theorem wrow_far {w : World} {v : Value} {l : List Wr} (h : WRow w v l) {a : Addr} {s : Option Addr} {n c : Nat} {u : Value} (ha : w.cell? a = some (.slice s n c)) : WRow (w.setCell a u) v l := by
  obtain ⟨a2, c2, hv, hc, hl⟩ := h
  refine ⟨a2, c2, hv, hc, fun hne => ?_⟩
  obtain ⟨b, o, e, hb, hL⟩ := hl hne
  refine ⟨b, o, e, by simpa using hb, fun i hi j x hx => ?_⟩
  have h1 := hL i hi j x hx
  rw [World.cell?_setCell_other _ _ _ _ (fun e2 => ?_)]
  · exact h1
  · rw [← e2, ha] at h1
    injection h1 with h1
    subst h1
    have hm := List.mem_of_getElem? hx
    simp [wC] at hm
/-- Queues whose slices lie one by one from the block's first cell on, to be stored into. -/
def QOwn (w : World) (P : Nat) (rs : List (Value × List Wr)) : Prop :=
  (∀ k (h : k < rs.length), w.cell? ⟨P, k, none⟩ = some (rs[k]).1 ∧ w.frozen? ⟨P, k, none⟩ = false) ∧ ∀ r ∈ rs, WRow w r.1 r.2
theorem QOwn.on {w w1 : World} {P : Nat} {rs : List (Value × List Wr)} (h : QOwn w P rs) (n : Below w.heap.size w w1) : QOwn w1 P rs := by
  refine ⟨fun k hk => ?_, fun r hr => (h.2 r hr).on n⟩
  obtain ⟨h1, h2⟩ := h.1 k hk
  have hb := World.block_lt_of_cell? _ _ h1
  exact ⟨keepC n h1 hb, by rw [n.frozen (p := ⟨P, k, none⟩) hb]; exact h2⟩
theorem QOwn.lrow {w : World} {P c : Nat} {rs : List (Value × List Wr)} (h : QOwn w P rs) (hc : rs.length ≤ c) : LRow w (.slice (some ⟨P, 0, none⟩) rs.length c) (rs.map (·.2)) := by
  refine ⟨rs, ⟨_, c, rfl, hc, fun hne => ⟨P, 0, rfl, ?_, fun i hi j x hx => ?_⟩⟩, rfl, h.2⟩
  · have h0 : 0 < rs.length := List.length_pos_iff.2 hne
    exact World.block_lt_of_cell? _ _ (h.1 0 h0).1
  · have hj : j = 0 := by
      have := (List.getElem?_eq_some_iff.1 hx).1
      simp [qC] at this
      exact this
    subst hj
    simp [qC] at hx
    subst hx
    rw [Nat.zero_add, Nat.mul_one, Nat.add_zero]
    exact (h.1 i hi).1
theorem QOwn.set {w : World} {P : Nat} {rs : List (Value × List Wr)} (h : QOwn w P rs) {k : Nat} (hk : k < rs.length) {v : Value} {q : List Wr} (hv : WRow w v q) : QOwn (w.setCell ⟨P, k, none⟩ v) P (rs.set k (v, q)) := by
  obtain ⟨s, c, hs, -, -⟩ := h.2 _ (List.getElem_mem hk)
  have hck : w.cell? ⟨P, k, none⟩ = some (.slice s (rs[k]).2.length c) := by rw [(h.1 k hk).1, hs]
  refine ⟨fun i hi => ?_, fun r hr => ?_⟩
  · rw [List.length_set] at hi
    rw [World.frozen?_setCell]
    refine ⟨?_, (h.1 i hi).2⟩
    by_cases e : k = i
    · subst e
      rw [World.cell?_setCell_same _ _ _ hck, List.getElem_set_self]
    · rw [World.cell?_setCell_other _ _ _ _ (fun e2 => by injection e2 with _ e2; exact e e2), List.getElem_set_ne e]
      exact (h.1 i hi).1
  · rcases List.mem_or_eq_of_mem_set hr with hr | rfl
    · exact wrow_far (h.2 r hr) hck
    · exact wrow_far hv hck
/-- As 'append' left them. -/
theorem qown_made {w : World} {base : Nat} {v : Value} {rs : List (Value × List Wr)} (h : w.ownsRow base 22 1 v rs.length (flatG qC rs)) (hn : v ≠ .slice none 0 0) (hw : ∀ r ∈ rs, WRow w r.1 r.2) : ∃ P c, v = .slice (some ⟨P, 0, none⟩) rs.length c ∧ rs.length ≤ c ∧ base ≤ P ∧ P < w.heap.size ∧ QOwn w P rs := by
  rcases h.2 with ⟨h0, _⟩ | ⟨g, cap, cur, hv, hb, hg, hc, _, hcur, ht⟩
  · exact absurd h0 hn
  · have hlt : g < w.heap.size := by
      rcases Nat.lt_or_ge g w.heap.size with hlt | hge
      · exact hlt
      · rw [Array.getElem?_eq_none hge] at hg; cases hg
    subst hv
    obtain ⟨hL, _, _, _⟩ := ownG_cells qC_len rfl h
    refine ⟨g, cap, rfl, hc, hb, hlt, fun k hk => ⟨?_, ?_⟩, hw⟩
    · have := hL k hk 0 _ rfl
      rw [Nat.zero_add, Nat.mul_one, Nat.add_zero] at this
      exact this
    · unfold World.frozen?
      simp only
      rw [hg]
      simp

/-! ### the first of the least stamp -/
def Found (L : List (List Wr)) (i : Nat) : Option Nat → Prop
  | none => ∀ k q, k < i → L[k]? = some q → q = []
  | some j => j < i ∧ ∃ x r, L[j]? = some (x :: r) ∧ ∀ k y s, k < i → L[k]? = some (y :: s) → x.st ≤ y.st
def atV : Option Nat → Int
  | none => -1
  | some j => j
theorem found_zero (L : List (List Wr)) : Found L 0 none := fun _ _ h => absurd h (Nat.not_lt_zero _)
theorem found_empty {L : List (List Wr)} {i : Nat} {a : Option Nat} (h : Found L i a) (he : L[i]? = some []) : Found L (i + 1) a := by
  cases a with
  | none =>
    intro k q hk hq
    rcases Nat.lt_or_ge k i with h1 | h1
    · exact h k q h1 hq
    · have : k = i := by omega
      subst this
      rw [he] at hq; injection hq with hq; exact hq.symm
  | some j =>
    obtain ⟨hj, x, r, hx, hl⟩ := h
    refine ⟨by omega, x, r, hx, fun k y s hk hq => ?_⟩
    rcases Nat.lt_or_ge k i with h1 | h1
    · exact hl k y s h1 hq
    · have : k = i := by omega
      subst this
      rw [he] at hq; cases hq
theorem found_first {L : List (List Wr)} {i : Nat} (h : Found L i none) {x : Wr} {r : List Wr} (he : L[i]? = some (x :: r)) : Found L (i + 1) (some i) := by
  refine ⟨by omega, x, r, he, fun k y s hk hq => ?_⟩
  rcases Nat.lt_or_ge k i with h1 | h1
  · have := h k _ h1 hq; cases this
  · have : k = i := by omega
    subst this
    rw [he] at hq; injection hq with hq; injection hq with e1 _; rw [e1]; exact Int.le_refl _
theorem found_less {L : List (List Wr)} {i j : Nat} (h : Found L i (some j)) {x y : Wr} {r s : List Wr} (hj : L[j]? = some (y :: s)) (he : L[i]? = some (x :: r)) (hl : x.st < y.st) : Found L (i + 1) (some i) := by
  obtain ⟨_, y', s', hy, hm⟩ := h
  rw [hj] at hy; injection hy with hy; injection hy with e1 e2; subst e1
  refine ⟨by omega, x, r, he, fun k z t hk hq => ?_⟩
  rcases Nat.lt_or_ge k i with h1 | h1
  · have := hm k z t h1 hq; omega
  · have : k = i := by omega
    subst this
    rw [he] at hq; injection hq with hq; injection hq with e1 _; rw [e1]; exact Int.le_refl _
theorem found_more {L : List (List Wr)} {i j : Nat} (h : Found L i (some j)) {x y : Wr} {r s : List Wr} (hj : L[j]? = some (y :: s)) (he : L[i]? = some (x :: r)) (hl : ¬ x.st < y.st) : Found L (i + 1) (some j) := by
  obtain ⟨h0, y', s', hy, hm⟩ := h
  rw [hj] at hy; injection hy with hy; injection hy with e1 e2; subst e1; subst e2
  refine ⟨by omega, y, s, hj, fun k z t hk hq => ?_⟩
  rcases Nat.lt_or_ge k i with h1 | h1
  · exact hm k z t h1 hq
  · have : k = i := by omega
    subst this
    rw [he] at hq; injection hq with hq; injection hq with e1 _; rw [← e1]; omega
theorem found_some {L : List (List Wr)} {a : Option Nat} (h : Found L L.length a) (hp : 0 < pending L) : ∃ j x r, a = some j ∧ ∃ hj : j < L.length, L[j] = x :: r ∧ LeastAt L x := by
  cases a with
  | none =>
    obtain ⟨q, hq, hne⟩ := pending_pos hp
    obtain ⟨k, hk, e⟩ := List.getElem_of_mem hq
    exact absurd (h k q hk (by rw [List.getElem?_eq_getElem hk, e])) hne
  | some j =>
    obtain ⟨hj, x, r, hx, hl⟩ := h
    refine ⟨j, x, r, rfl, hj, ?_, fun q hq y s e => ?_⟩
    · rw [List.getElem?_eq_getElem hj] at hx; injection hx
    · obtain ⟨k, hk, e2⟩ := List.getElem_of_mem hq
      exact hl k y s hk (by rw [List.getElem?_eq_getElem hk, e2, e])
theorem good_begins {last : Int} {L : List (List Wr)} (h : Good last L) : begins L = true := by
  refine List.all_eq_true.2 fun q hq => ?_
  have h1 := (h q hq).1
  cases q with
  | nil => rfl
  | cons x r => have := (rightFrom_cons.1 h1).1; simp; omega
/-- A queue in order whose last stamp is no later has none that is later. -/
def lastSt (q : List Wr) : Int := match q.getLast? with | none => 0 | some x => x.st
theorem right_last {last : Int} : ∀ {q : List Wr} {a : Int}, rightFrom a q = true → (∀ (h : 0 < q.length), (q[q.length - 1]'(by omega)).st ≤ last) → ∀ x ∈ q, x.st ≤ last := by
  intro q
  induction q with
  | nil => intro a _ _ x hx; cases hx
  | cons y r ih =>
    intro a h hl x hx
    obtain ⟨h1, h2, h3⟩ := rightFrom_cons.1 h
    cases r with
    | nil =>
      have := hl (by simp)
      simp at this hx
      subst hx; exact this
    | cons z s =>
      have hz : ∀ x ∈ z :: s, x.st ≤ last := ih h3 (fun _ => by have := hl (by simp); simpa using this)
      rcases List.mem_cons.1 hx with rfl | hx
      · have := hz z List.mem_cons_self
        have := (rightFrom_cons.1 h3).1
        omega
      · exact hz x hx
theorem okL_set {L : List (List Wr)} (h : ∀ q ∈ L, ∀ x ∈ q, okW x) {j : Nat} (hj : j < L.length) {x : Wr} {r : List Wr} (e : L[j] = x :: r) : ∀ q ∈ L.set j r, ∀ x ∈ q, okW x := by
  intro q hq y hy
  rcases List.mem_or_eq_of_mem_set hq with hq | rfl
  · exact h q hq y hy
  · exact h _ (List.getElem_mem hj) y (by rw [e]; exact List.mem_cons_of_mem _ hy)
theorem lenL_set {L : List (List Wr)} {N : Nat} (h : ∀ q ∈ L, q.length ≤ N) {j : Nat} (hj : j < L.length) {x : Wr} {r : List Wr} (e : L[j] = x :: r) : ∀ q ∈ L.set j r, q.length ≤ N := by
  intro q hq
  rcases List.mem_or_eq_of_mem_set hq with hq | rfl
  · exact h q hq
  · have := h _ (List.getElem_mem hj)
    rw [e, List.length_cons] at this
    omega
end Go.Proofs.Ytmgfgfkkhcibcaa.Se
