/- Carried over from earlier layers: walks and lemmas. -/
import Derived.Test.YthiofbohllmfbaaC4
import Derived.Deep.RegionWith
namespace Go.Proofs.Ythiofbohllmfbaa.Ce
open Go Go.RowKit Cl
open St Sat
theorem ne_of_lt {α : Type} {l : List α} {k : Nat} (h : k < l.length) : l ≠ [] := fun e => by subst e; simp at h
/-- The samples l lie in block b from offset o on. -/
def ILies (w : World) (b o : Nat) (l : List Int) : Prop := ∀ i (h : i < l.length), w.cell? ⟨b, o + i, none⟩ = some (.int .i64 l[i])
theorem ILies.on {w w1 : World} {b o : Nat} {l : List Int} (h : ILies w b o l) (hb : b < w.heap.size) (n : Below w.heap.size w w1) : ILies w1 b o l := by
  intro i hi
  rw [n.cell (p := ⟨b, o + i, none⟩) hb]
  exact h i hi
/-- What stands behind the slice's address a. -/
def IAt (w : World) (a : Option Addr) (l : List Int) : Prop := l ≠ [] → ∃ b o, a = some ⟨b, o, none⟩ ∧ b < w.heap.size ∧ ILies w b o l
theorem IAt.on {w w1 : World} {a : Option Addr} {l : List Int} (h : IAt w a l) (n : Below w.heap.size w w1) : IAt w1 a l := by
  intro hne
  obtain ⟨b, o, ha, hb, hL⟩ := h hne
  exact ⟨b, o, ha, Nat.lt_of_lt_of_le hb n.size, hL.on hb n⟩
theorem take_snoc {α : Type} (l : List α) (k : Nat) (h : k < l.length) : l.take (k + 1) = l.take k ++ [l[k]] := by
  rw [List.take_succ_eq_append_getElem h]
theorem ofL_take (l : List Int) (k : Nat) (h : k < l.length) : ofL (l.take (k + 1)) = fold (ofL (l.take k)) l[k] := by rw [take_snoc l k h, ofL_snoc]
theorem mergeL_take (l : List Cell) (k : Nat) (h : k < l.length) : mergeL (l.take (k + 1)) = two (mergeL (l.take k)) l[k] := by rw [take_snoc l k h, mergeL_snoc]
/-- What a loop keeps: its cell's box, the result's box, and nothing older has turned. -/
def Loop (w wr : World) (c : Cell) : Prop := Box wr (w.heap.size + 1) c ∧ Free wr (w.heap.size + 1) ∧ Box wr w.heap.size zero ∧ Free wr w.heap.size ∧ Below w.heap.size w wr
theorem Loop.on {w wr w2 : World} {c : Cell} (h : Loop w wr c) (n : Below wr.heap.size wr w2) : Loop w w2 c :=
  ⟨h.1.on n, h.2.1.on h.1.lt n, h.2.2.1.on n, h.2.2.2.1.on h.2.2.1.lt n, h.2.2.2.2.trans (n.mono h.2.2.2.2.size)⟩
theorem Loop.start (w : World) : Loop w ((w.alloc (.cells #[.int .i64 zero.cnt, .int .i64 zero.sn, .bool zero.so, .int .i64 zero.mn, .int .i64 zero.mx] 52)).alloc (.cells #[.int .i64 zero.cnt, .int .i64 zero.sn, .bool zero.so, .int .i64 zero.mn, .int .i64 zero.mx] 52)) zero :=
  ⟨Box.new _ _ zero (by simp), Free.new _ _ zero (by simp), (Box.new w w.heap.size zero rfl).on (aBelow _ _), (Free.new w w.heap.size zero rfl).on (by simp) (aBelow _ _), ((Below.refl _ _).alloc (Nat.le_refl _) _).alloc (by simp) _⟩
theorem frozen_put {W : World} {rb b i : Nat} (d : Cell) : (put W rb d).frozen? ⟨b, i, none⟩ = W.frozen? ⟨b, i, none⟩ := by
  unfold put
  simp [go_sem]
theorem Loop.put {w wr : World} {c : Cell} (h : Loop w wr c) (d : Cell) : Loop w (Ce.put wr (w.heap.size + 1) d) d := by
  obtain ⟨h1, h2, ⟨r0, r1, r2, r3, r4⟩, ⟨f0, f1, f2, f3, f4⟩, h5⟩ := h
  have e := h1.set d h2
  have hne : w.heap.size + 1 ≠ w.heap.size := by omega
  refine ⟨e.1, e.2.1, ⟨?_, ?_, ?_, ?_, ?_⟩, ⟨?_, ?_, ?_, ?_, ?_⟩, put_below d h5 (by omega)⟩
  all_goals first | (rw [cell_put d hne]; assumption) | (rw [frozen_put d]; assumption)
end Go.Proofs.Ythiofbohllmfbaa.Ce
namespace Go.Proofs.Ythiofbohllmfbaa.Ce
open Go Go.RowKit Cl
open St Sat
/-- The cells l lie in block b from offset o on. -/
def CLies (w : World) (b o : Nat) (l : List Cell) : Prop := ∀ i (h : i < l.length), w.cell? ⟨b, o + i * 5, none⟩ = some (.int .i64 (l[i]).cnt) ∧ w.cell? ⟨b, o + i * 5 + 1, none⟩ = some (.int .i64 (l[i]).sn) ∧ w.cell? ⟨b, o + i * 5 + 2, none⟩ = some (.bool (l[i]).so) ∧ w.cell? ⟨b, o + i * 5 + 3, none⟩ = some (.int .i64 (l[i]).mn) ∧ w.cell? ⟨b, o + i * 5 + 4, none⟩ = some (.int .i64 (l[i]).mx)
theorem CLies.on {w w1 : World} {b o : Nat} {l : List Cell} (h : CLies w b o l) (hb : b < w.heap.size) (n : Below w.heap.size w w1) : CLies w1 b o l := by
  intro i hi
  obtain ⟨h0, h1, h2, h3, h4⟩ := h i hi
  exact ⟨keepC n h0 hb, keepC n h1 hb, keepC n h2 hb, keepC n h3 hb, keepC n h4 hb⟩
/-- What stands behind the slice's address a. -/
def CAt (w : World) (a : Option Addr) (l : List Cell) : Prop := l ≠ [] → ∃ b o, a = some ⟨b, o, none⟩ ∧ b < w.heap.size ∧ CLies w b o l
theorem CAt.on {w w1 : World} {a : Option Addr} {l : List Cell} (h : CAt w a l) (n : Below w.heap.size w w1) : CAt w1 a l := by
  intro hne
  obtain ⟨b, o, ha, hb, hL⟩ := h hne
  exact ⟨b, o, ha, Nat.lt_of_lt_of_le hb n.size, hL.on hb n⟩
end Go.Proofs.Ythiofbohllmfbaa.Ce
