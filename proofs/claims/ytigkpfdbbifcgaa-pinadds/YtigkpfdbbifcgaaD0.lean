/- Slices of structs in memory, whatever their cells: as they came, as the call made them, and as a sort leaves them. -/
import Derived.Test.YtigkpfdbbifcgaaH0
import Derived.WalkKit
import Derived.Lib.Hide
import Derived.OwnWalk
import Derived.Lib.OwnBridge
import Derived.Deep.AppendLies
namespace Go.Proofs.Ytigkpfdbbifcgaa
open Go Go.RowKit Go.Sort

section
variable {β : Type} {enc : β → List Value} {k : Nat}

def flatG (enc : β → List Value) (l : List β) : List Value := l.flatMap enc
theorem flatG_nil : flatG enc [] = [] := rfl
theorem flatG_append (l m : List β) : flatG enc (l ++ m) = flatG enc l ++ flatG enc m := by simp [flatG]
theorem flatG_one (x : β) : flatG enc [x] = enc x := by simp [flatG]
theorem flatG_len (hk : ∀ x, (enc x).length = k) (l : List β) : (flatG enc l).length = l.length * k := by
  induction l with
  | nil => simp [flatG]
  | cons x r ih => rw [show flatG enc (x :: r) = enc x ++ flatG enc r from rfl, List.length_append, ih, hk, List.length_cons, Nat.add_mul, Nat.one_mul, Nat.add_comm]
theorem flatG_at (hk : ∀ x, (enc x).length = k) (l : List β) : ∀ (i : Nat) (h : i < l.length) (j : Nat), j < k → (flatG enc l)[i * k + j]? = (enc l[i])[j]? := by
  induction l with
  | nil => intro i h; cases h
  | cons x r ih =>
    intro i h j hj
    rw [show flatG enc (x :: r) = enc x ++ flatG enc r from rfl]
    cases i with
    | zero => rw [Nat.zero_mul, Nat.zero_add, List.getElem?_append_left (by rw [hk]; exact hj)]; rfl
    | succ i =>
      have h' : i < r.length := by simpa using h
      rw [show (i + 1) * k + j = k + (i * k + j) by rw [Nat.add_mul, Nat.one_mul]; omega, List.getElem?_append_right (by rw [hk]; omega), hk, show k + (i * k + j) - k = i * k + j by omega, ih i h' j hj]
      rfl
theorem flatG_cells1 (h1 : ∀ x, ∀ v ∈ enc x, v.oneCell' = true) (l : List β) : ∀ u ∈ flatG enc l, u.oneCell' = true := by
  intro u hu
  simp only [flatG, List.mem_flatMap] at hu
  obtain ⟨x, _, hx⟩ := hu
  exact h1 x u hx

/-- From the cell o on block b holds the structs l. -/
def GLies (enc : β → List Value) (k : Nat) (w : World) (b o : Nat) (l : List β) : Prop :=
  ∀ i (h : i < l.length) (j : Nat) (u : Value), (enc l[i])[j]? = some u → w.cell? ⟨b, o + i * k + j, none⟩ = some u
theorem GLies.on {w w1 : World} {b o : Nat} {l : List β} (h : GLies enc k w b o l) (hb : b < w.heap.size) (n : Below w.heap.size w w1) : GLies enc k w1 b o l := by
  intro i hi j u hu
  rw [n.cell (p := ⟨b, o + i * k + j, none⟩) hb]
  exact h i hi j u hu
def GAt (enc : β → List Value) (k : Nat) (w : World) (a : Option Addr) (l : List β) : Prop := l ≠ [] → ∃ b o, a = some ⟨b, o, none⟩ ∧ b < w.heap.size ∧ GLies enc k w b o l
theorem GAt.on {w w1 : World} {a : Option Addr} {l : List β} (h : GAt enc k w a l) (n : Below w.heap.size w w1) : GAt enc k w1 a l := by
  intro hne
  obtain ⟨b, o, ha, hb, hL⟩ := h hne
  exact ⟨b, o, ha, Nat.lt_of_lt_of_le hb n.size, hL.on hb n⟩
/-- The value v is a slice that holds the structs l. -/
def GRow (enc : β → List Value) (k : Nat) (w : World) (v : Value) (l : List β) : Prop := ∃ a c, v = .slice a l.length c ∧ l.length ≤ c ∧ GAt enc k w a l
theorem GRow.on {w w1 : World} {v : Value} {l : List β} (h : GRow enc k w v l) (n : Below w.heap.size w w1) : GRow enc k w1 v l := by
  obtain ⟨a, c, hv, hc, hl⟩ := h
  exact ⟨a, c, hv, hc, hl.on n⟩
theorem GRow.nil (w : World) : GRow enc k w (.slice none 0 0) [] := ⟨none, 0, rfl, Nat.le_refl _, fun h => absurd rfl h⟩
theorem GRow.open {w : World} {v : Value} {l : List β} (h : GRow enc k w v l) (hne : l ≠ []) : ∃ b o c, v = .slice (some ⟨b, o, none⟩) l.length c ∧ l.length ≤ c ∧ b < w.heap.size ∧ GLies enc k w b o l := by
  obtain ⟨a, c, hv, hc, hl⟩ := h
  obtain ⟨b, o, ha, hb, hL⟩ := hl hne
  exact ⟨b, o, c, by rw [hv, ha], hc, hb, hL⟩
/-- Every cell of the flat list. -/
theorem GLies.flat (hk : ∀ x, (enc x).length = k) (h0 : 0 < k) {w : World} {b o : Nat} {l : List β} (hL : GLies enc k w b o l) : ∀ j u, (flatG enc l)[j]? = some u → w.cell? ⟨b, o + j, none⟩ = some u := by
  intro j u hu
  have hj : j < l.length * k := by rw [← flatG_len hk]; exact (List.getElem?_eq_some_iff.1 hu).1
  have hi : j / k < l.length := Nat.div_lt_of_lt_mul (by rw [Nat.mul_comm]; exact hj)
  have hm : j % k < k := Nat.mod_lt _ h0
  have e : j / k * k + j % k = j := by rw [Nat.mul_comm]; exact Nat.div_add_mod j k
  have := hL (j / k) hi (j % k) u (by rw [← flatG_at hk l (j / k) hi _ hm, e]; exact hu)
  rwa [Nat.add_assoc, e] at this
theorem lies_of_flat (hk : ∀ x, (enc x).length = k) {w : World} {b o : Nat} {l : List β} (h : ∀ j u, (flatG enc l)[j]? = some u → w.cell? ⟨b, o + j, none⟩ = some u) : GLies enc k w b o l := by
  intro i hi j u hu
  have hj : j < k := by rw [← hk l[i]]; exact (List.getElem?_eq_some_iff.1 hu).1
  have := h (i * k + j) u (by rw [flatG_at hk l i hi j hj]; exact hu)
  rwa [← Nat.add_assoc] at this
/-- A slice that the call made. -/
theorem ownG_cells (hk : ∀ x, (enc x).length = k) {w : World} {base T g cap : Nat} {l : List β} {n : Nat} (hn : n = l.length) (h : w.ownsRow base T k (.slice (some ⟨g, 0, none⟩) n cap) n (flatG enc l)) : GLies enc k w g 0 l ∧ g < w.heap.size ∧ base ≤ g ∧ n ≤ cap := by
  subst hn
  rcases h.2 with ⟨h0, _⟩ | ⟨g', cap', cur, hv, hb, hg, hc, _, hcur, ht⟩
  · cases h0
  · cases hv
    have hlt : g < w.heap.size := by
      rcases Nat.lt_or_ge g w.heap.size with hlt | hge
      · exact hlt
      · rw [Array.getElem?_eq_none hge] at hg; cases hg
    refine ⟨lies_of_flat hk (fun j u hu => ?_), hlt, hb, hc⟩
    have hj : j < l.length * k := by rw [← flatG_len hk]; exact (List.getElem?_eq_some_iff.1 hu).1
    rw [Nat.zero_add, cell_of_row w g j cur T (0, 0) hg, ← Array.getElem?_toList, ← hu, ← ht, List.getElem?_take, if_pos hj]
theorem ownG_row (hk : ∀ x, (enc x).length = k) {w : World} {base T : Nat} {v : Value} {l : List β} (h : w.ownsRow base T k v l.length (flatG enc l)) : GRow enc k w v l := by
  have h' := h
  rcases h'.2 with ⟨h0, h1⟩ | ⟨g, cap, cur, hv, hb, hg, hc, _, hcur, ht⟩
  · have hl : l = [] := List.length_eq_zero_iff.1 h1
    subst hl
    exact ⟨none, 0, h0, Nat.le_refl _, fun hne => absurd rfl hne⟩
  · subst hv
    obtain ⟨q1, q2, _, _⟩ := ownG_cells hk rfl h
    exact ⟨_, cap, rfl, hc, fun _ => ⟨g, 0, rfl, q2, q1⟩⟩
theorem ownG_nil (w : World) (base T : Nat) : w.ownsRow base T k (.slice none 0 0) ([] : List β).length (flatG enc []) := World.ownsRow_nil _ _ _ _
theorem ownG_next {w' : World} {base T : Nat} {v' : Value} {l : List β} {x : β} (h : w'.ownsRow base T k v' (l.length + 1) (flatG enc l ++ enc x)) : w'.ownsRow base T k v' (l ++ [x]).length (flatG enc (l ++ [x])) := by
  rw [flatG_append, flatG_one, List.length_append]; exact h
theorem ownG_below {w W w' : World} {base : Nat} {T : Nat} {v : Value} {n : Nat} {xs : List Value} {o : Obj} (hd : Below base w W) (hb : base ≤ W.heap.size) (h : W.ownsRow base T k v n xs) (hg : (W.alloc o).grownBy w' v.ownBlock) : Below base w w' :=
  (hd.alloc hb o).grown hg (by simp; omega) (fun j hj => (h.lt j hj).1)
theorem below_growG {base : Nat} {w W : World} (h : Below base w W) (hb : base ≤ W.heap.size) (os : Array Obj) : Below base w (grow W os) := by
  refine ⟨h.os, h.tape, h.output, ?_, ?_⟩
  · show w.heap.size ≤ (W.heap ++ os).size
    have := h.size
    simp
    omega
  · intro b hb2
    show (W.heap ++ os)[b]? = w.heap[b]?
    rw [Array.getElem?_append_left (by omega)]
    exact h.block b hb2
end

end Go.Proofs.Ytigkpfdbbifcgaa
