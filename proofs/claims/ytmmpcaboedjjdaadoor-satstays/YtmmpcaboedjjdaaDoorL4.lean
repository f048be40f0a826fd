/- Walks: the law SatStays. -/
import Derived.Test.YtmmpcaboedjjdaaDoorW6
import Derived.Deep.RegionHeld3
import Derived.BigRegion
namespace Go.Proofs.YtmmpcaboedjjdaaDoor
open Go Go.RowKit

theorem size2 (w : World) (o1 o2 : Obj) : ((w.alloc o1).alloc o2).heap.size = w.heap.size + 1 + 1 := by simp

set_option maxHeartbeats 1000000 in
theorem stays_walk (B : Nat) (a : Int) (ao : Bool) (b : Int) (bo : Bool) (w : World) (hE : Env B w) (ha0 : -9223372036854775808 ≤ a) (ha1 : a ≤ 9223372036854775807) (hb0 : -9223372036854775808 ≤ b) (hb1 : b ≤ 9223372036854775807) :
    Calls Tryd.prog 6 #[.agg #[.int .i64 a, .bool ao], .agg #[.int .i64 b, .bool bo]] w fun e w' => e = .returned (.bool true) ∧ Below w.heap.size w w' := by
  go_enter Tryd.func6, Tryd.ntmps6
  go_wp2_with fail
  refine (alive_any B _ ((hE.alloc _).alloc _)).mono ?_
  rintro e w1 ⟨rfl, n1⟩
  have a0 := newC (i := 0) (belowAlloc n1)
  have a1 := newC (i := 1) (belowAlloc n1)
  have b0 := newC (i := 0) n1
  have b1 := newC (i := 1) n1
  have d1 := belowAlloc2 n1
  have z1 : w.heap.size + 1 < w1.heap.size := by have := n1.size; simp at this; omega
  clear n1
  simp at a0 a1 b0 b1
  go_wp2_with fail
  refine (add_any _ _ _ _ _ ha0 ha1 hb0 hb1).mono ?_
  rintro e w2 ⟨rfl, n2⟩
  have c0 := keepC n2 a0 (by omega)
  have c1 := keepC n2 a1 (by omega)
  have c2 := keepC n2 b0 (by omega)
  have c3 := keepC n2 b1 (by omega)
  have d2 := d1.trans (n2.mono d1.size)
  have y0 : w.heap.size < w2.heap.size := by have := n2.size; omega
  have y1 : w.heap.size + 1 < w2.heap.size := by have := n2.size; omega
  clear a0 a1 b0 b1 n2 d1
  cases ao
  · cases bo
    · by_cases h : 0 < a ∧ 9223372036854775807 - a < b
      · rw [Sat.add_above _ _ h]
        have k1 : 0 < a := h.1
        have k2 : 0 < b := by omega
        clear h
        go_wp2_with fail
        go_ret
        exact ⟨rfl, d2.alloc (by omega) _⟩
      · by_cases h' : a < 0 ∧ b < -9223372036854775808 - a
        · rw [Sat.add_below _ _ h']
          have k1 : a < 0 := h'.1
          have k2 : b < 0 := by omega
          clear h h'
          go_wp2_with fail
          go_ret
          exact ⟨rfl, d2.alloc (by omega) _⟩
        · rw [Sat.add_plain _ _ h h']
          have HS : Hid (Sat.add b false a false = (a + b, false)) := by show _ = _; rw [Sat.add_plain _ _ (by omega) (by omega), Int.add_comm]
          have k0 : -9223372036854775808 ≤ a + b := by omega
          have k1 : a + b ≤ 9223372036854775807 := by omega
          clear h h'
          go_wp2_with fail
          have d3 := d2.alloc (Nat.le_of_lt y0) (Obj.cells #[Value.int IntKind.i64 (a + b), Value.bool false] 23)
          have x0 : (w2.alloc (Obj.cells #[Value.int IntKind.i64 (a + b), Value.bool false] 23)).cell? ⟨w.heap.size, 0, none⟩ = some (.int .i64 a) := by simp [go_sem, c0, y0]
          have x1 : (w2.alloc (Obj.cells #[Value.int IntKind.i64 (a + b), Value.bool false] 23)).cell? ⟨w.heap.size, 1, none⟩ = some (.bool false) := by simp [go_sem, c1, y0]
          have x2 : (w2.alloc (Obj.cells #[Value.int IntKind.i64 (a + b), Value.bool false] 23)).cell? ⟨w.heap.size + 1, 0, none⟩ = some (.int .i64 b) := by simp [go_sem, c2, y1]
          have x3 : (w2.alloc (Obj.cells #[Value.int IntKind.i64 (a + b), Value.bool false] 23)).cell? ⟨w.heap.size + 1, 1, none⟩ = some (.bool false) := by simp [go_sem, c3, y1]
          have x4 : (w2.alloc (Obj.cells #[Value.int IntKind.i64 (a + b), Value.bool false] 23)).cell? ⟨w2.heap.size, 0, none⟩ = some (.int .i64 (a + b)) := by simp
          have x5 : (w2.alloc (Obj.cells #[Value.int IntKind.i64 (a + b), Value.bool false] 23)).cell? ⟨w2.heap.size, 1, none⟩ = some (.bool false) := by simp
          have x6 : w2.heap.size < (w2.alloc (Obj.cells #[Value.int IntKind.i64 (a + b), Value.bool false] 23)).heap.size := by simp
          clear c0 c1 c2 c3 d2
          have hw : IntKind.i64.wrap (a + b) = a + b := by rw [IntKind.wrap_i64]; omega
          generalize w2.alloc (Obj.cells #[Value.int IntKind.i64 (a + b), Value.bool false] 23) = W at *
          generalize w2.heap.size = sb at *
          generalize w.heap.size + 1 = bb at *
          generalize hg : w.heap.size = ab at *
          go_region_held3 (fun w' => w'.cell? ⟨ab, 0, none⟩ = some (.int .i64 a) ∧ w'.cell? ⟨ab, 1, none⟩ = some (.bool false) ∧ w'.cell? ⟨bb, 0, none⟩ = some (.int .i64 b) ∧ w'.cell? ⟨bb, 1, none⟩ = some (.bool false) ∧ w'.cell? ⟨sb, 0, none⟩ = some (.int .i64 (a + b)) ∧ w'.cell? ⟨sb, 1, none⟩ = some (.bool false)) (go_keep)
            (first | (go_at_call 9; refine (add_any _ _ _ _ _ hb0 hb1 ha0 ha1).mono ?_; rintro e w3 ⟨rfl, n3⟩; rw [HS.out]; have n4 : Below W.heap.size W w3 := ⟨n3.os, n3.tape, n3.output, n3.size, n3.block⟩; have m0 := keepC n4 x0 (by omega); have m1 := keepC n4 x1 (by omega); have m2 := keepC n4 x2 (by omega); have m3 := keepC n4 x3 (by omega); have m4 := keepC n4 x4 x6; have m5 := keepC n4 x5 x6))
          all_goals
            have d4 : Below w.heap.size w w3 := by rw [hg]; exact d3.trans (n4.mono (by omega))
            clear m0 m1 m2 m3 m4 m5 n3 n4 x0 x1 x2 x3 x4 x5 hw hg d3
            go_wp2
            go_ret
            exact ⟨rfl, d4⟩
    · rw [Sat.add_b]
      go_wp2_with fail
      go_ret
      exact ⟨rfl, d2.alloc (by omega) _⟩
  · rw [Sat.add_a]
    go_wp2_with fail
    go_ret
    exact ⟨rfl, d2.alloc (by omega) _⟩
end Go.Proofs.YtmmpcaboedjjdaaDoor
