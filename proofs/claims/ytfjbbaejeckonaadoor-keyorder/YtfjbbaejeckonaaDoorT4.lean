/- Walks: those of some names, the program's and the document's. -/
import Derived.Test.YtfjbbaejeckonaaDoorT3
namespace Go.Proofs.YtfjbbaejeckonaaDoor
open Go Go.RowKit Go.Sort Tg

theorem only_take (l : List Tag) (ns : List ByteArray) (k : Nat) (hk : k < l.length) : only (l.take (k + 1)) ns = if hasB ns (l[k]).1 = true then only (l.take k) ns ++ [l[k]] else only (l.take k) ns := by
  unfold only
  rw [List.take_succ_eq_append_getElem hk, List.filter_append]
  cases h : hasB ns (l[k]).1
  · have h' : (ns.any fun n => eqB n (l[k]).1) = false := h
    simp [h']
  · have h' : (ns.any fun n => eqB n (l[k]).1) = true := h
    simp [h']
theorem only_len (l : List Tag) (ns : List ByteArray) (k : Nat) : (only (l.take k) ns).length ≤ l.length := by
  have h1 : (only (l.take k) ns).length ≤ (l.take k).length := List.length_filter_le _ _
  have h2 : (l.take k).length ≤ l.length := List.length_take_le' _ _
  omega
theorem new2T (w : World) (o : Obj) (x : Tag) : ∀ j u, [Value.string x.1, Value.string x.2][j]? = some u → ((w.alloc o).alloc (.cells #[.string x.1, .string x.2] 40)).cell? ((⟨w.heap.size + 1, 0, none⟩ : Addr).add j) = some u := by
  have h := new1T (w.alloc o) x
  have hz : (w.alloc o).heap.size = w.heap.size + 1 := by simp
  rw [hz] at h
  exact h

end Go.Proofs.YtfjbbaejeckonaaDoor
