/- What the program's own functions of seq are held to; the fixed fact: a walk over them. -/
import Derived.Test.YtmgfgfkkhcibcaaW18
namespace Go.Proofs.Ytmgfgfkkhcibcaa.Se
open Go Go.RowKit

def ok64 (n : Int) : Prop := -9223372036854775808 ≤ n ∧ n ≤ 9223372036854775807
def okW (x : Wr) : Prop := ok64 x.st ∧ ok64 x.win ∧ ok64 x.val
/-- The program's own answers are those of the plain functions. -/
structure Own14 : Prop where
  push : ∀ (v1 v2 : Value) (q m : List Wr) (w : World), WRow w v1 q → WRow w v2 m → q.length ≤ 1000 → m.length ≤ 1000 → (∀ x ∈ q, okW x) → (∀ x ∈ m, okW x) → Calls Try.prog 8 #[v1, v2] w fun e w' => (∃ v', e = .returned (.tuple #[v', .int .i64 (pushQ q m).2]) ∧ WRow w' v' (pushQ q m).1) ∧ Below w.heap.size w w'
  pop : ∀ (v : Value) (q : List Wr) (w : World), WRow w v q → q.length ≤ 1000 → (∀ x ∈ q, okW x) → Calls Try.prog 10 #[v] w fun e w' => (∃ v', e = .returned (.tuple #[wV (popQ q).1, v', .bool (popQ q).2.2]) ∧ WRow w' v' (popQ q).2.1) ∧ Below w.heap.size w w'
  right : ∀ (v : Value) (q : List Wr) (w : World), WRow w v q → q.length ≤ 1000 → (∀ x ∈ q, okW x) → Calls Try.prog 13 #[v] w fun e w' => e = .returned (.bool (rightQ q)) ∧ Below w.heap.size w w'
  same : ∀ (v1 v2 : Value) (q m : List Wr) (w : World), WRow w v1 q → WRow w v2 m → q.length ≤ 1000 → m.length ≤ 1000 → (∀ x ∈ q, okW x) → (∀ x ∈ m, okW x) → Calls Try.prog 15 #[v1, v2] w fun e w' => e = .returned (.bool (sameQ q m)) ∧ Below w.heap.size w w'
  waits : ∀ (win : Int) (v : Value) (L : List (List Wr)) (w : World), LRow w v L → L.length ≤ 1000 → (∀ q ∈ L, q.length ≤ 1000) → (∀ q ∈ L, ∀ x ∈ q, okW x) → ok64 win → Calls Try.prog 17 #[.int .i64 win, v] w fun e w' => e = .returned (.bool (waits win L)) ∧ Below w.heap.size w w'
  pending : ∀ (v : Value) (L : List (List Wr)) (w : World), LRow w v L → L.length ≤ 1000 → (∀ q ∈ L, q.length ≤ 1000) → Calls Try.prog 19 #[v] w fun e w' => e = .returned (.int .i64 (pending L : Int)) ∧ Below w.heap.size w w'
  stable : ∀ (last : Int) (v : Value) (L : List (List Wr)) (w : World), LRow w v L → L.length ≤ 1000 → (∀ q ∈ L, q.length ≤ 1000) → (∀ q ∈ L, ∀ x ∈ q, okW x) → begins L = true → ok64 last → Calls Try.prog 22 #[.int .i64 last, v] w fun e w' => e = .returned (.int .i64 (stable last L)) ∧ Below w.heap.size w w'

/-- Queues in a slice that was just made. -/
theorem lrow_new (w : World) (rs : List (Value × List Wr)) (h : ∀ r ∈ rs, WRow w r.1 r.2) : LRow (w.alloc (.cells (rs.map (·.1)).toArray 22)) (.slice (some ⟨w.heap.size, 0, none⟩) rs.length rs.length) (rs.map (·.2)) := by
  refine ⟨rs, ⟨_, _, rfl, Nat.le_refl _, fun _ => ⟨w.heap.size, 0, rfl, by simp, lies_of_flat qC_len (fun j u hu => ?_)⟩⟩, rfl, fun r hr => (h r hr).on (aBelow w _)⟩
  rw [Nat.zero_add, cell_of_row _ w.heap.size j (rs.map (·.1)).toArray 22 (0, 0) (heap_alloc_new _ _)]
  have e : ∀ R : List (Value × List Wr), flatG qC R = R.map (·.1) := by
    intro R
    induction R with
    | nil => rfl
    | cons x r ih => rw [List.map_cons, ← ih]; rfl
  rw [e] at hu
  simpa using hu
def w4 : Wr := ⟨4, 2, ⟨#[]⟩, 0⟩
def w8 : Wr := ⟨8, 0, ⟨#[]⟩, 0⟩
def w7 : Wr := ⟨7, 0, ⟨#[]⟩, 0⟩
theorem wrow_new (w : World) (l : List Wr) : WRow (w.alloc (.cells (flatG wC l).toArray 29)) (.slice (some ⟨w.heap.size, 0, none⟩) l.length l.length) l := by
  refine ⟨_, _, rfl, Nat.le_refl _, fun _ => ⟨w.heap.size, 0, rfl, by simp, lies_of_flat wC_len (fun j u hu => ?_)⟩⟩
  rw [Nat.zero_add, cell_of_row _ w.heap.size j (flatG wC l).toArray 29 (0, 0) (heap_alloc_new _ _)]
  simpa using hu
theorem y1 : pushQ [] [w4, w8] = ([w4, w8], 0) := by kernel_rfl
theorem y2 : pushQ [] [w7] = ([w7], 0) := by kernel_rfl
theorem y3 : pushQ [w4, w8] [w8] = ([], 9) := by kernel_rfl
theorem y4 : popQ [w4, w8] = (w4, [w8], true) := rfl
theorem y5 : popQ [] = (zeroW, [], false) := rfl
theorem y6 : stable 9 [[w4, w8], [], [w7]] = 3 := by kernel_rfl
theorem y7 : stable 9 [] = 9 := rfl
theorem y8 : waits 2 [[], [w4, w8]] = true := by kernel_rfl
theorem y9 : waits 3 [[w4, w8], [w7]] = false := by kernel_rfl
theorem ya : pending [[w4, w8], [w7]] = 3 := rfl
theorem yb : rightQ [w4, w8] = true := by kernel_rfl
theorem yc : sameQ [w4, w8] [w4, w8] = true := decide_eq_true rfl
theorem yd : sameQ [w4, w8] [w7] = false := decide_eq_false (by intro e; cases e)
theorem okq : ∀ x ∈ [w4, w8, w7], okW x := by
  intro x hx
  simp only [List.mem_cons, List.not_mem_nil, or_false] at hx
  rcases hx with rfl | rfl | rfl <;> exact ⟨by unfold ok64; decide, by unfold ok64; decide, by unfold ok64; decide⟩
theorem ok9 : ok64 9 := by unfold ok64; decide
theorem ok2 : ok64 2 := by unfold ok64; decide
theorem ok3 : ok64 3 := by unfold ok64; decide
theorem oka : ∀ x ∈ [w4, w8], okW x := fun x hx => okq x (by simp at hx ⊢; rcases hx with h | h <;> simp [h])
theorem okb : ∀ x ∈ [w7], okW x := fun x hx => okq x (by simp at hx ⊢; simp [hx])
theorem okc : ∀ x ∈ [w8], okW x := fun x hx => okq x (by simp at hx ⊢; simp [hx])
theorem okn : ∀ x ∈ ([] : List Wr), okW x := fun x hx => by cases hx
end Go.Proofs.Ytmgfgfkkhcibcaa.Se
