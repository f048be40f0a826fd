/- Walks: the law SatAdds. -/
import Derived.Test.YtmmpcaboedjjdaaDoorW5
import Derived.Test.YtmmpcaboedjjdaaDoorW6
import Derived.Deep.RegionHeld3
namespace Go.Proofs.YtmmpcaboedjjdaaDoor
open Go Go.RowKit

/-- The two boxes, and that nothing older has turned. -/
theorem held_on {ab bb : Nat} {a b : Int} {ao bo : Bool} {w W w3 : World}
    (h : W.cell? ⟨ab, 0, none⟩ = some (.int .i64 a) ∧ W.cell? ⟨ab, 1, none⟩ = some (.bool ao) ∧ W.cell? ⟨bb, 0, none⟩ = some (.int .i64 b) ∧ W.cell? ⟨bb, 1, none⟩ = some (.bool bo) ∧ Below ab w W)
    (n : Below W.heap.size W w3) :
    w3.cell? ⟨ab, 0, none⟩ = some (.int .i64 a) ∧ w3.cell? ⟨ab, 1, none⟩ = some (.bool ao) ∧ w3.cell? ⟨bb, 0, none⟩ = some (.int .i64 b) ∧ w3.cell? ⟨bb, 1, none⟩ = some (.bool bo) ∧ Below ab w w3 := by
  obtain ⟨h0, h1, h2, h3, h4⟩ := h
  have z0 := World.block_lt_of_cell? _ _ h0
  have z2 := World.block_lt_of_cell? _ _ h2
  exact ⟨keepC n h0 z0, keepC n h1 z0, keepC n h2 z2, keepC n h3 z2, h4.trans (n.mono (Nat.le_of_lt z0))⟩
theorem held_alloc {ab bb : Nat} {a b : Int} {ao bo : Bool} {w W : World} (o : Obj)
    (h : W.cell? ⟨ab, 0, none⟩ = some (.int .i64 a) ∧ W.cell? ⟨ab, 1, none⟩ = some (.bool ao) ∧ W.cell? ⟨bb, 0, none⟩ = some (.int .i64 b) ∧ W.cell? ⟨bb, 1, none⟩ = some (.bool bo) ∧ Below ab w W) :
    (W.alloc o).cell? ⟨ab, 0, none⟩ = some (.int .i64 a) ∧ (W.alloc o).cell? ⟨ab, 1, none⟩ = some (.bool ao) ∧ (W.alloc o).cell? ⟨bb, 0, none⟩ = some (.int .i64 b) ∧ (W.alloc o).cell? ⟨bb, 1, none⟩ = some (.bool bo) ∧ Below ab w (W.alloc o) :=
  held_on h ((Below.refl _ _).alloc (Nat.le_refl _) _)

theorem liesNew (W : World) (n : Nat) (a : Int) (ao : Bool) (b : Int) (bo : Bool) (hn : n = W.heap.size) : Lies (W.alloc (.cells #[.int .i64 a, .bool ao, .int .i64 b, .bool bo] 23)) n 0 [(a, ao), (b, bo)] := by
  subst hn
  exact lies2 W a ao b bo 23
theorem liesOn {W w3 : World} {n o : Nat} {l : List (Int × Bool)} (h : Lies W n o l) (hn : n < W.heap.size) (nb : Below W.heap.size W w3) : Lies w3 n o l :=
  fun i hi => ⟨keepC nb (h i hi).1 hn, keepC nb (h i hi).2 hn⟩
theorem liesAlloc {W : World} {n o : Nat} {l : List (Int × Bool)} (h : Lies W n o l) (hn : n < W.heap.size) (ob : Obj) : Lies (W.alloc ob) n o l :=
  liesOn h hn ((Below.refl _ _).alloc (Nat.le_refl _) _)
theorem lies_of {W : World} {n : Nat} {a : Int} {ao : Bool} {b : Int} {bo : Bool} (h0 : W.cell? ⟨n, 0, none⟩ = some (.int .i64 a)) (h1 : W.cell? ⟨n, 1, none⟩ = some (.bool ao)) (h2 : W.cell? ⟨n, 2, none⟩ = some (.int .i64 b)) (h3 : W.cell? ⟨n, 3, none⟩ = some (.bool bo)) : Lies W n 0 [(a, ao), (b, bo)] := by
  intro i hi
  match i, hi with
  | 0, _ => exact ⟨h0, h1⟩
  | 1, _ => exact ⟨h2, h3⟩
theorem okTwo {a b : Int} {ao bo : Bool} (ha0 : -9223372036854775808 ≤ a) (ha1 : a ≤ 9223372036854775807) (hb0 : -9223372036854775808 ≤ b) (hb1 : b ≤ 9223372036854775807) : ∀ x ∈ [(a, ao), (b, bo)], okS x := by
  intro x hx
  simp at hx
  rcases hx with rfl | rfl
  · exact ⟨ha0, ha1⟩
  · exact ⟨hb0, hb1⟩

set_option maxHeartbeats 2000000 in
theorem adds_walk (B : Nat) (a : Int) (ao : Bool) (b : Int) (bo : Bool) (n : Int) (w : World) (hE : Env B w) (ha0 : -9223372036854775808 ≤ a) (ha1 : a ≤ 9223372036854775807) (hb0 : -9223372036854775808 ≤ b) (hb1 : b ≤ 9223372036854775807) :
    Calls Tryd.prog 3 #[.agg #[.int .i64 a, .bool ao], .agg #[.int .i64 b, .bool bo], .int .i64 n] w fun e w' => e = .returned (.bool true) ∧ Below w.heap.size w w' := by
  go_enter Tryd.func3, Tryd.ntmps3
  go_wp2_with fail
  refine (alive_any B _ ((hE.alloc _).alloc _)).mono ?_
  rintro e w1 ⟨rfl, n1⟩
  have a0 := newC (i := 0) (belowAlloc n1)
  have a1 := newC (i := 1) (belowAlloc n1)
  have b0 := newC (i := 0) n1
  have b1 := newC (i := 1) n1
  have d1 := belowAlloc2 n1
  have z1 : w.heap.size + 1 < w1.heap.size := by have := n1.size; simp at this; omega
  clear n1
  simp at a0 a1 b0 b1
  have z0 : w.heap.size < w1.heap.size := by omega
  go_wp2_with fail
  generalize w.heap.size + 1 = bb at *
  generalize hg : w.heap.size = ab at *
  have hS : w1.drew.cell? ⟨ab, 0, none⟩ = some (.int .i64 a) ∧ w1.drew.cell? ⟨ab, 1, none⟩ = some (.bool ao) ∧ w1.drew.cell? ⟨bb, 0, none⟩ = some (.int .i64 b) ∧ w1.drew.cell? ⟨bb, 1, none⟩ = some (.bool bo) ∧ Below ab w w1.drew := ⟨a0, a1, b0, b1, d1.drew⟩
  have HG := Lib.hid hg
  clear hE z0 z1 hg a0 a1 b0 b1 d1
  go_region_held3 (fun w' => w'.cell? ⟨ab, 0, none⟩ = some (.int .i64 a) ∧ w'.cell? ⟨ab, 1, none⟩ = some (.bool ao) ∧ w'.cell? ⟨bb, 0, none⟩ = some (.int .i64 b) ∧ w'.cell? ⟨bb, 1, none⟩ = some (.bool bo) ∧ Below ab w w') (first | assumption | exact held_alloc _ (by assumption))
            (first
              | (go_at_call 9; refine (add_any _ _ _ _ _ ha0 ha1 hb0 hb1).mono ?_; rintro e w3 ⟨rfl, n3⟩; have hS3 := held_on (by assumption) n3; clear n3)
              | (go_at_call 10; refine (refAdd_any _ _ _ _ _ ha0 ha1 hb0 hb1).mono ?_; rintro e w3 ⟨rfl, n3⟩; have hS3 := held_on (by assumption) n3; clear n3)
              | (go_at_call 11; refine (of_any _ _).mono ?_; rintro e w3 ⟨rfl, n3⟩; have hS3 := held_on (by assumption) n3; clear n3)
              | (go_at_call 12; refine (total_any _ 0 2 [(a, ao), (b, bo)] _ (lies_of ?_ ?_ ?_ ?_) ?_ (okTwo ha0 ha1 hb0 hb1) (by simp)).mono ?_; (simp [go_sem]); (simp [go_sem]); (simp [go_sem]); (simp [go_sem]); (simp <;> omega); rintro e w3 ⟨rfl, n3⟩; have hS3 := held_on (by assumption) n3; have hk := (bcell n3).1; have hq := n3.size)
              | (go_at_call 13; refine (refTotal_any _ 0 2 [(a, ao), (b, bo)] _ (lies_of ?_ ?_ ?_ ?_) ?_ (okTwo ha0 ha1 hb0 hb1) (by simp)).mono ?_; (simp [go_sem, hk]); (simp [go_sem, hk]); (simp [go_sem, hk]); (simp [go_sem, hk]); (simp at hq ⊢ <;> omega); rintro e w4 ⟨rfl, n4⟩; have hS4 := held_on (by assumption) n4))
  all_goals
    have d4 : Below w.heap.size w w4 := by rw [HG.out]; exact hS4.2.2.2.2
    clear hS4 n4 hq hk hS3 n3 hS
    go_wp2
    go_ret
    exact ⟨rfl, d4⟩
end Go.Proofs.YtmmpcaboedjjdaaDoor
