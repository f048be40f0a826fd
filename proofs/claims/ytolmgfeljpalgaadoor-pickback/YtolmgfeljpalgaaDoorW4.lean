/- Walks: lists of texts that lie in memory: Same, Join of the document, and whether a list is more than is looked at. -/
import Derived.Test.YtolmgfeljpalgaaDoorW2
import Derived.BigQuiet
namespace Go.Proofs.YtolmgfeljpalgaaDoor
open Go Go.RowKit

/-- The value v is a slice that holds the texts l. -/
def Row (w : World) (v : Value) (l : List ByteArray) : Prop := ∃ a c, v = .slice a l.length c ∧ l.length ≤ c ∧ (l ≠ [] → ∃ b o, a = some ⟨b, o, none⟩ ∧ b < w.heap.size ∧ Lies w b o l)
theorem Row.on {w w1 : World} {v : Value} {l : List ByteArray} (h : Row w v l) (n : Below w.heap.size w w1) : Row w1 v l := by
  obtain ⟨a, c, hv, hc, hl⟩ := h
  refine ⟨a, c, hv, hc, fun hne => ?_⟩
  obtain ⟨b, o, ha, hb, hL⟩ := hl hne
  exact ⟨b, o, ha, Nat.lt_of_lt_of_le hb n.size, hL.on hb n⟩
theorem Lies.at {w : World} {b o : Nat} {l : List ByteArray} (h : Lies w b o l) (k : Nat) (hk : k < l.length) : w.cell? ⟨b, o + k, none⟩ = some (.string l[k]) := h k _ (List.getElem?_eq_getElem hk)

def total (l : List ByteArray) : Nat := (l.map (·.size)).sum
def greatB (l : List ByteArray) : Bool := decide (100 < l.length) || decide (5000 < total l)
theorem total_take (l : List ByteArray) (k : Nat) (hk : k < l.length) : total (l.take (k + 1)) = total (l.take k) + (l[k]).size := by
  rw [List.take_succ_eq_append_getElem hk, total, total, List.map_append, List.sum_append]
  simp only [List.map_cons, List.map_nil, List.sum_cons, List.sum_nil, Nat.add_zero]
theorem total_le (l : List ByteArray) (k : Nat) : total (l.take k) ≤ total l := by
  have h : total l = total (l.take k) + total (l.drop k) := by
    unfold total
    rw [← List.sum_append, ← List.map_append, List.take_append_drop]
  omega

end Go.Proofs.YtolmgfeljpalgaaDoor
