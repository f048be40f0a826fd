/- What lies behind a slice of texts that came in: each text's cell, and its size. -/
import Derived.Test.YtfohknpjlkjbbaaGreatDoorE
import Derived.Test.YtfohknpjlkjbbaaGreatDoorW5
import Derived.SliceStrings
import Derived.Carry
namespace Go.Proofs.YtfohknpjlkjbbaaGreatDoor
open Go Go.ChangeShapes Go.WideShapes Go.ChangeAt Go.RowKit

theorem laidOut : laidOutB Tryz.prog = true := by kernel_rfl
theorem cells9 : Tryz.prog.cellsOf 9 = 1 := by kernel_rfl

theorem weight_mem {H : Type} {P : Program} {e : TypeId} (bs : List UInt8) : ∀ l : List (DataW H), DataW.lit (.string bs) ∈ l → bs.length ∈ DataW.weightsAll P e l
  | d :: r, h => by
    rw [DataW.weightsAll, List.mem_append]
    rcases List.mem_cons.1 h with h | h
    · left
      rw [← h]
      simp [DataW.weights]
    · exact Or.inr (weight_mem bs r h)
theorem sized_text {H : Type} {P : Program} {ts : List TypeId} {ds : List (DataW H)} (h : (DataW.weightsEach P ts ds).all (· ≤ reachBytes) = true) {j : Nat} {t e : TypeId} {l r : List ByteArray}
    (ht : ts[j]? = some t) (hd : ds[j]? = some (.slice (strs l) (strs r))) (hu : P.underlying t = some (.slice e)) : ∀ x ∈ l, x.size ≤ 281474976710656 := by
  intro x hx
  have hm : x.data.toList.length ∈ (DataW.slice (strs l) (strs r) : DataW H).weights P t := by
    rw [DataW.weights, hu]
    refine List.mem_cons_of_mem _ (List.mem_append_left _ (weight_mem _ _ ?_))
    exact List.mem_map.2 ⟨x, hx, rfl⟩
  have h1 := List.all_eq_true.1 h _ (DataW.weights_mem_each ht hd _ hm)
  have h2 := reachBytes_lt
  have e3 : (2 : Nat) ^ 47 = 140737488355328 := by decide
  rw [size_list]
  simp only [decide_eq_true_eq] at h1
  omega

/-- A slice of texts that reads as data: nil, or it holds its texts. -/
theorem open_texts {H : Type} {enc : TypeId × Value → H} {W : World} {a0 : Option Addr} {len cap : Nat} {d : DataW H} {p : List MemPlace}
    (h : DataW.Trod enc Tryz.prog W 0 (fun _ => true) true 23 (.slice a0 len cap) d p) :
    (a0 = none ∧ len = 0 ∧ cap = 0) ∨ ∃ a l r, a0 = some a ∧ len = l.length ∧ Row W (.slice (some a) l.length cap) l ∧ d = .slice (strs l) (strs r) := by
  obtain ⟨fuel, hf⟩ := h
  rcases open_strings Tryz.underlying23 Tryz.underlying9 cells9 hf with ⟨hc, _⟩ | ⟨a, len', cap', ss, hc, _, hl, hm, hz, hx, hcell, _⟩
  · left
    simp [Value.cells] at hc
    exact hc
  · right
    simp [Value.cells] at hc
    obtain ⟨rfl, rfl, rfl⟩ := hc
    have hz' : ss.length = cap := by simpa using hz
    have hlen : (ss.take len).length = len := by rw [List.length_take]; omega
    refine ⟨a, ss.take len, ss.drop len, rfl, hlen.symm, ⟨some a, cap, rfl, by omega, fun hne => ?_⟩, (Prod.mk.inj hx).1⟩
    have hpos : 0 < len := by
      rcases Nat.eq_zero_or_pos len with h0 | h0
      · subst h0; exact absurd rfl hne
      · exact h0
    obtain ⟨b, off, spot⟩ := a
    have hspot : spot = none := by simpa [Addr.add] using World.cell?_spot (hcell 0 (by omega))
    subst hspot
    refine ⟨b, off, rfl, ?_, ?_⟩
    · have := World.block_lt_of_cell? _ _ (hcell 0 (by omega))
      rw [add_plain] at this
      exact this
    · intro j x hx
      rw [List.getElem?_take] at hx
      by_cases hj : j < len
      · rw [if_pos hj] at hx
        have h1 := hcell j (by omega)
        rw [add_plain] at h1
        rw [h1, List.getD, hx]
        rfl
      · rw [if_neg hj] at hx; cases hx
end Go.Proofs.YtfohknpjlkjbbaaGreatDoor
