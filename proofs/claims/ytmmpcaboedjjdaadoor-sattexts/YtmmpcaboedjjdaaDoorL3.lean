/- Walks: the law SatTexts. -/
import Derived.Test.YtmmpcaboedjjdaaDoorW6
import Derived.Test.YtmmpcaboedjjdaaDoorW7
import Derived.Test.YtmmpcaboedjjdaaDoorW9
import Derived.Deep.RegionHeld3
namespace Go.Proofs.YtmmpcaboedjjdaaDoor
open Go Go.RowKit

/-- Three boxes, and that nothing older has turned. -/
theorem held3_on {ab xb yb : Nat} {a x : Int} {ao xo : Bool} {w W w3 : World}
    (h : W.cell? ⟨ab, 0, none⟩ = some (.int .i64 a) ∧ W.cell? ⟨ab, 1, none⟩ = some (.bool ao) ∧ W.cell? ⟨xb, 0, none⟩ = some (.int .i64 x) ∧ W.cell? ⟨xb, 1, none⟩ = some (.bool xo) ∧ W.cell? ⟨yb, 0, none⟩ = some (.int .i64 x) ∧ W.cell? ⟨yb, 1, none⟩ = some (.bool xo) ∧ Below ab w W)
    (n : Below W.heap.size W w3) :
    w3.cell? ⟨ab, 0, none⟩ = some (.int .i64 a) ∧ w3.cell? ⟨ab, 1, none⟩ = some (.bool ao) ∧ w3.cell? ⟨xb, 0, none⟩ = some (.int .i64 x) ∧ w3.cell? ⟨xb, 1, none⟩ = some (.bool xo) ∧ w3.cell? ⟨yb, 0, none⟩ = some (.int .i64 x) ∧ w3.cell? ⟨yb, 1, none⟩ = some (.bool xo) ∧ Below ab w w3 := by
  obtain ⟨h0, h1, h2, h3, h4, h5, h6⟩ := h
  have z0 := World.block_lt_of_cell? _ _ h0
  have z2 := World.block_lt_of_cell? _ _ h2
  have z4 := World.block_lt_of_cell? _ _ h4
  exact ⟨keepC n h0 z0, keepC n h1 z0, keepC n h2 z2, keepC n h3 z2, keepC n h4 z4, keepC n h5 z4, h6.trans (n.mono (Nat.le_of_lt z0))⟩

theorem held3_below {ab xb yb : Nat} {a x : Int} {ao xo : Bool} {w W : World}
    (h : W.cell? ⟨ab, 0, none⟩ = some (.int .i64 a) ∧ W.cell? ⟨ab, 1, none⟩ = some (.bool ao) ∧ W.cell? ⟨xb, 0, none⟩ = some (.int .i64 x) ∧ W.cell? ⟨xb, 1, none⟩ = some (.bool xo) ∧ W.cell? ⟨yb, 0, none⟩ = some (.int .i64 x) ∧ W.cell? ⟨yb, 1, none⟩ = some (.bool xo) ∧ Below ab w W) : Below ab w W := h.2.2.2.2.2.2

set_option maxHeartbeats 2000000 in
theorem texts_walk (B : Nat) (a : Int) (ao : Bool) (t : ByteArray) (w : World) (hE : Env B w) (ha0 : -9223372036854775808 ≤ a) (ha1 : a ≤ 9223372036854775807) (ht : t.size ≤ 281474976710656) :
    Calls Tryd.prog 5 #[.agg #[.int .i64 a, .bool ao], .string t] w fun e w' => e = .returned (.bool true) ∧ Below w.heap.size w w' := by
  go_enter Tryd.func5, Tryd.ntmps5
  go_wp2_with fail
  refine (alive_any B _ (hE.alloc _)).mono ?_
  rintro e w1 ⟨rfl, n1⟩
  have a0 := newC (i := 0) n1
  have a1 := newC (i := 1) n1
  have d1 := belowAlloc n1
  have z1 : w.heap.size < w1.heap.size := by have := n1.size; simp at this; omega
  clear n1
  simp at a0 a1
  by_cases hl : 200 < t.size
  · go_wp2_with fail
    go_ret
    exact ⟨rfl, d1⟩
  · have hl2 : (t.size : Int) ≤ 200 := by omega
    go_wp2_with fail
    refine (parse_any B t _ (hE.go d1) ht).mono ?_
    rintro e w2 ⟨rfl, n2⟩
    have b0 := keepC n2 a0 z1
    have b1 := keepC n2 a1 z1
    have d2 := d1.trans (n2.mono d1.size)
    have z2 : w.heap.size < w2.heap.size := Nat.lt_of_lt_of_le z1 n2.size
    clear a0 a1 n2 d1 z1
    go_wp2_with fail
    refine (refParse_any t _ ht).mono ?_
    rintro e w3 ⟨rfl, n3⟩
    have x0 := newC (i := 0) n3
    have x1 := newC (i := 1) n3
    have n3' := belowAlloc n3
    have a0 := keepC n3' b0 z2
    have a1 := keepC n3' b1 z2
    have d3 := d2.trans (n3'.mono d2.size)
    have z3 : w2.heap.size < w3.heap.size := by have := n3.size; simp at this; omega
    clear b0 b1 n3 n3' d2
    simp at x0 x1
    go_wp2_with fail
    refine (read_any B t _ ((hE.go d3).alloc _) ht).mono ?_
    rintro e w4 ⟨rfl, n4⟩
    have y0 := newC (i := 0) n4
    have y1 := newC (i := 1) n4
    have n4' := belowAlloc n4
    have b0 := keepC n4' a0 (Nat.lt_trans z2 z3)
    have b1 := keepC n4' a1 (Nat.lt_trans z2 z3)
    have c0 := keepC n4' x0 z3
    have c1 := keepC n4' x1 z3
    have d4 := d3.trans (n4'.mono d3.size)
    clear a0 a1 x0 x1 n4 n4' d3
    simp at y0 y1
    go_wp2_with fail
    refine (refRead_any t _ ht).mono ?_
    rintro e w5 ⟨rfl, rfl⟩
    generalize Sat.read t.data.toList = r at *
    generalize parseL t.data.toList = R at *
    obtain ⟨rn, re⟩ := r
    obtain ⟨xn, xo, xe⟩ := R
    simp only at c0 c1 y0 y1
    go_wp2_with fail
    generalize w3.heap.size = yb at *
    generalize w2.heap.size = xb at *
    have hS : w5.drew.cell? ⟨w.heap.size, 0, none⟩ = some (.int .i64 a) ∧ w5.drew.cell? ⟨w.heap.size, 1, none⟩ = some (.bool ao) ∧ w5.drew.cell? ⟨xb, 0, none⟩ = some (.int .i64 xn) ∧ w5.drew.cell? ⟨xb, 1, none⟩ = some (.bool xo) ∧ w5.drew.cell? ⟨yb, 0, none⟩ = some (.int .i64 xn) ∧ w5.drew.cell? ⟨yb, 1, none⟩ = some (.bool xo) ∧ Below w.heap.size w w5.drew := ⟨b0, b1, c0, c1, y0, y1, d4.drew⟩
    clear b0 b1 c0 c1 y0 y1 d4
    go_region_held3 (fun w' => w'.cell? ⟨w.heap.size, 0, none⟩ = some (.int .i64 a) ∧ w'.cell? ⟨w.heap.size, 1, none⟩ = some (.bool ao) ∧ w'.cell? ⟨xb, 0, none⟩ = some (.int .i64 xn) ∧ w'.cell? ⟨xb, 1, none⟩ = some (.bool xo) ∧ w'.cell? ⟨yb, 0, none⟩ = some (.int .i64 xn) ∧ w'.cell? ⟨yb, 1, none⟩ = some (.bool xo) ∧ Below w.heap.size w w') (assumption)
      (first
        | (go_at_call 18; refine (text_any B a ao _ (hE.go (held3_below (by assumption))) ha0 ha1).mono ?_; rintro e w6 ⟨rfl, n6⟩; have hS6 := held3_on (by assumption) n6; clear n6)
        | (go_at_call 19; refine (refText_any a ao _ ha0 ha1).mono ?_; rintro e w6 ⟨rfl, n6⟩; have hS6 := held3_on (by assumption) n6; clear n6)
        | (go_at_call 20; refine (number_any B a _ (hE.go (held3_below (by assumption))) ha0 ha1).mono ?_; rintro e w6 ⟨rfl, n6⟩; have hS6 := held3_on (by assumption) n6; clear n6)
        | (go_at_call 21; refine (refNumber_any a _ ha0 ha1).mono ?_; rintro e w6 ⟨rfl, n6⟩; have hS6 := held3_on (by assumption) n6; clear n6))
    all_goals
      have d6 := held3_below hS6
      clear hS hS6
      go_wp2
      go_ret
      exact ⟨rfl, d6⟩
end Go.Proofs.YtmmpcaboedjjdaaDoor
