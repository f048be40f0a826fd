/- What the program's own functions of versions are held to, and the fixed fact with which each law begins. -/
import Derived.Test.YthiofbohllmfbaaV4
namespace Go.Proofs.Ythiofbohllmfbaa.Ch
open Go Go.RowKit Go.Sort Go.Lib Cl Ce

def c7 : Cell := ⟨1, 7, false, 7, 7⟩
def c73 : Cell := ⟨2, 10, false, 3, 7⟩
def exV : List Ver := [⟨2, zero⟩, ⟨5, c7⟩, ⟨9, zero⟩]
def exP : List Ver := [⟨5, c7⟩, ⟨9, zero⟩]
def exM : List Ver := [⟨5, c7⟩, ⟨6, c73⟩]
theorem g1 : ofL [7] = c7 := by kernel_rfl
theorem g2 : ofL [7, 3] = c73 := by kernel_rfl
theorem g3 : putV [] exV = (exV, 0) := by kernel_rfl
theorem g4 : prune exV 6 = exP := by kernel_rfl
theorem g5 : foldV [⟨5, c7⟩] 6 3 = (exM, 0) := by kernel_rfl
theorem g6 : putV exV [⟨9, zero⟩] = ([], 9) := by kernel_rfl
theorem g7 : atS exV 8 = c7 := by kernel_rfl
theorem g8 : atS exV 1 = zero := by kernel_rfl
theorem g9 : lastS exV = 9 := by kernel_rfl
theorem ga : vright exV = true := by kernel_rfl
theorem gb : sameV exV exV = true := (sameV_true _ _).2 rfl
theorem gc : sameV exV exP = false := by kernel_rfl
theorem ok_c7 : okC c7 := by refine ⟨⟨?_, ?_⟩, ⟨?_, ?_⟩, ⟨?_, ?_⟩, ?_, ?_⟩ <;> decide
theorem vrow_new (w : World) (arr : Array Value) (T : TypeId) (l : List Ver) (h : arr.toList = flatG verC l) : VRow (w.alloc (.cells arr T)) (.slice (some ⟨w.heap.size, 0, none⟩) l.length l.length) l := by
  refine ⟨_, _, rfl, Nat.le_refl _, fun _ => ⟨_, _, rfl, by simp, lies_of_flat verC_len (fun j u hu => ?_)⟩⟩
  rw [Nat.zero_add, cell_of_row _ w.heap.size j arr T (0, 0) (heap_alloc_new _ _), ← Array.getElem?_toList, h]
  exact hu
theorem iat_new (w : World) (l : List Int) : IAt (w.alloc (.cells (l.map fun x => Value.int .i64 x).toArray 2)) (some ⟨w.heap.size, 0, none⟩) l := by
  intro _
  refine ⟨w.heap.size, 0, rfl, by simp, fun i hi => ?_⟩
  rw [Nat.zero_add, cell_of_row _ w.heap.size i (l.map fun x => Value.int .i64 x).toArray 2 (0, 0) (heap_alloc_new _ _)]
  simp [hi]
theorem vrow_take {w : World} {a : Option Addr} {n c : Nat} {l : List Ver} (h : VRow w (.slice a n c) l) (j : Nat) (hj : j ≤ l.length) : VRow w (.slice a j c) (l.take j) := by
  obtain ⟨a', c', hv, hc, hl⟩ := h
  cases hv
  have e : (l.take j).length = j := by rw [List.length_take]; omega
  refine ⟨a, c, by rw [e], by omega, fun hne => ?_⟩
  obtain ⟨b, o, ha, hb, hL⟩ := hl (fun e => by subst e; simp at hne)
  refine ⟨b, o, ha, hb, ?_⟩
  intro i hi q u hu
  have hi' : i < l.length := by omega
  rw [List.getElem_take] at hu
  exact hL i hi' q u hu

end Go.Proofs.Ythiofbohllmfbaa.Ch
