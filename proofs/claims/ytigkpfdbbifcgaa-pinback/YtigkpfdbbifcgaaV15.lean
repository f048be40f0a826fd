/- What the program's own functions of pin are held to; the fixed fact's plain part. -/
import Derived.Test.YtigkpfdbbifcgaaP19
namespace Go.Proofs.Ytigkpfdbbifcgaa.Pj
open Go Go.RowKit

def ok64 (n : Int) : Prop := -9223372036854775808 ≤ n ∧ n ≤ 9223372036854775807
def okP (x : Pn) : Prop := ok64 x.id ∧ ok64 x.st
/-- The program's own answers are those of the plain functions. -/
structure Own15 : Prop where
  add : ∀ (v1 v2 : Value) (l p : List Pn) (w : World), PRow w v1 l → PRow w v2 p → l.length ≤ 500 → p.length ≤ 500 → (∀ x ∈ l, okP x) → (∀ x ∈ p, okP x) → Calls Try.prog 8 #[v1, v2] w fun e w' => (∃ v', e = .returned (.tuple #[v', .int .i64 (addP l p).2]) ∧ PRow w' v' (addP l p).1) ∧ Below w.heap.size w w'
  drop : ∀ (v : Value) (l : List Pn) (id : Int) (w : World), PRow w v l → l.length ≤ 1000 → (∀ x ∈ l, okP x) → ok64 id → Calls Try.prog 10 #[v, .int .i64 id] w fun e w' => (∃ v', e = .returned (.tuple #[v', .int .i64 (dropP l id).2]) ∧ PRow w' v' (dropP l id).1) ∧ Below w.heap.size w w'
  find : ∀ (v : Value) (l : List Pn) (id : Int) (w : World), PRow w v l → l.length ≤ 1000 → (∀ x ∈ l, okP x) → ok64 id → Calls Try.prog 13 #[v, .int .i64 id] w fun e w' => e = .returned (.tuple #[.int .i64 (findP l id).1, .bool (findP l id).2]) ∧ Below w.heap.size w w'
  right : ∀ (v : Value) (l : List Pn) (w : World), PRow w v l → l.length ≤ 1000 → (∀ x ∈ l, okP x) → Calls Try.prog 15 #[v] w fun e w' => e = .returned (.bool (rightP l)) ∧ Below w.heap.size w w'
  same : ∀ (v1 v2 : Value) (l m : List Pn) (w : World), PRow w v1 l → PRow w v2 m → l.length ≤ 1000 → m.length ≤ 1000 → (∀ x ∈ l, okP x) → (∀ x ∈ m, okP x) → Calls Try.prog 17 #[v1, v2] w fun e w' => e = .returned (.bool (sameP l m)) ∧ Below w.heap.size w w'
  floor : ∀ (s : Int) (v : Value) (l : List Pn) (w : World), PRow w v l → l.length ≤ 1000 → (∀ x ∈ l, okP x) → ok64 s → Calls Try.prog 18 #[.int .i64 s, v] w fun e w' => e = .returned (.int .i64 (floorP s l)) ∧ Below w.heap.size w w'

theorem put_ok {l : List Pn} {x : Pn} (h : ∀ y ∈ l, okP y) (hx : okP x) : ∀ y ∈ putP l x, okP y := by
  intro y hy
  unfold putP at hy
  rcases List.mem_append.1 hy with hy | hy
  · exact h y (List.mem_of_mem_take hy)
  · rcases List.mem_cons.1 hy with rfl | hy
    · exact hx
    · exact h y (List.mem_of_mem_drop hy)
theorem prow_new (w : World) (l : List Pn) : PRow (w.alloc (.cells (flatG pC l).toArray 35)) (.slice (some ⟨w.heap.size, 0, none⟩) l.length l.length) l := by
  refine ⟨_, _, rfl, Nat.le_refl _, fun _ => ⟨w.heap.size, 0, rfl, by simp, lies_of_flat pC_len (fun j u hu => ?_)⟩⟩
  rw [Nat.zero_add, cell_of_row _ w.heap.size j (flatG pC l).toArray 35 (0, 0) (heap_alloc_new _ _)]
  simpa using hu
def q37 : Pn := ⟨3, 7⟩
def q14 : Pn := ⟨1, 4⟩
def q30 : Pn := ⟨3, 0⟩
theorem y1 : addP [] [q37, q14] = ([q14, q37], 0) := by kernel_rfl
theorem y2 : addP [q14, q37] [q30] = ([], 5) := by kernel_rfl
theorem y3 : dropP [q14, q37] 2 = ([], 6) := by kernel_rfl
theorem y4 : dropP [q14, q37] 1 = ([q37], 0) := by kernel_rfl
theorem y5 : findP [q14, q37] 3 = (7, true) := by kernel_rfl
theorem y6 : floorP 9 [q14, q37] = 4 := by kernel_rfl
theorem y7 : floorP 9 [] = 9 := rfl
theorem y8 : rightP [q14, q37] = true := by kernel_rfl
theorem y9 : sameP [q14, q37] [q14, q37] = true := decide_eq_true rfl
theorem ya : sameP [q14, q37] [q37] = false := decide_eq_false (by intro e; cases e)
theorem ok_lit (x : Pn) (h1 : 0 ≤ x.id ∧ x.id ≤ 9) (h2 : 0 ≤ x.st ∧ x.st ≤ 9) : okP x := ⟨⟨by omega, by omega⟩, ⟨by omega, by omega⟩⟩
theorem okA : ∀ x ∈ [q37, q14], okP x := by
  intro x hx; simp at hx; rcases hx with rfl | rfl <;> exact ok_lit _ (by decide) (by decide)
theorem okB : ∀ x ∈ [q14, q37], okP x := by
  intro x hx; simp at hx; rcases hx with rfl | rfl <;> exact ok_lit _ (by decide) (by decide)
theorem okC : ∀ x ∈ [q30], okP x := by
  intro x hx; simp at hx; rcases hx with rfl; exact ok_lit _ (by decide) (by decide)
theorem okD : ∀ x ∈ [q37], okP x := by
  intro x hx; simp at hx; rcases hx with rfl; exact ok_lit _ (by decide) (by decide)
theorem okN : ∀ x ∈ ([] : List Pn), okP x := fun x hx => by cases hx
theorem ok_num (n : Int) (h : 0 ≤ n ∧ n ≤ 9) : ok64 n := ⟨by omega, by omega⟩
theorem new_a (w : World) : PRow (w.alloc (.cells #[.int .i64 3, .int .i64 7, .int .i64 1, .int .i64 4] 35)) (.slice (some ⟨w.heap.size, 0, none⟩) 2 2) [q37, q14] := prow_new w [q37, q14]
theorem new_c (w : World) : PRow (w.alloc (.cells #[.int .i64 3, .int .i64 0] 35)) (.slice (some ⟨w.heap.size, 0, none⟩) 1 1) [q30] := prow_new w [q30]
end Go.Proofs.Ytigkpfdbbifcgaa.Pj
