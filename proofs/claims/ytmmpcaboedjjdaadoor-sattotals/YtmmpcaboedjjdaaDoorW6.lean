/- Walks: the fixed fact with which each law begins. -/
import Derived.Test.YtmmpcaboedjjdaaDoorW3
import Derived.Test.YtmmpcaboedjjdaaDoorW4
namespace Go.Proofs.YtmmpcaboedjjdaaDoor
open Go Go.RowKit

theorem f_add : Sat.add 9223372036854775807 false 1 false = (9223372036854775807, true) := Sat.add_above _ _ (by decide)
theorem f_tot : tot [(3, false), (-5, false)] = (-2, false) := by simp [tot, Sat.add]
theorem f_text : textL 9223372036854775807 true = [57, 50, 50, 51, 51, 55, 50, 48, 51, 54, 56, 53, 52, 55, 55, 53, 56, 48, 55, 33] := by
  simp [textL, Lib.itoa, Lib.decDigits]
theorem f_num : Lib.itoa (-9223372036854775808) = [45, 57, 50, 50, 51, 51, 55, 50, 48, 51, 54, 56, 53, 52, 55, 55, 53, 56, 48, 56] := by
  simp [Lib.itoa, Lib.decDigits]
theorem f_parse : parseL [45, 55, 33] = (-7, true, 0) := by decide +kernel
theorem f_read1 : Sat.read [45, 48] = (0, 2) := by decide +kernel
theorem f_read2 : Sat.read [57, 50, 50, 51, 51, 55, 50, 48, 51, 54, 56, 53, 52, 55, 55, 53, 56, 48, 56] = (0, 3) := by decide +kernel

theorem lies2 (w : World) (a : Int) (ao : Bool) (b : Int) (bo : Bool) (t : TypeId) : Lies (w.alloc (.cells #[.int .i64 a, .bool ao, .int .i64 b, .bool bo] t)) w.heap.size 0 [(a, ao), (b, bo)] := by
  intro i hi
  match i, hi with
  | 0, _ => simp
  | 1, _ => simp

theorem belowAlloc2 {W w2 : World} {o1 o2 : Obj} (hb : Below ((W.alloc o1).alloc o2).heap.size ((W.alloc o1).alloc o2) w2) : Below W.heap.size W w2 := belowAlloc (belowAlloc hb)
theorem newC {W w2 : World} {c : Array Value} {t : TypeId} {i : Nat} (hb : Below (W.alloc (.cells c t)).heap.size (W.alloc (.cells c t)) w2) : w2.cell? ⟨W.heap.size, i, none⟩ = c[i]? :=
  keepC hb (by simp) (by simp)

set_option maxHeartbeats 1000000 in
theorem alive_any (B : Nat) (w : World) (hE : Env B w) :
    Calls Tryd.prog 8 #[] w fun e w' => e = .returned (.bool true) ∧ Below w.heap.size w w' := by
  go_enter Tryd.func8, Tryd.ntmps8
  go_wp2_with (go_at_call 11; refine (of_world _ _).mono ?_; rintro e w' ⟨rfl, rfl⟩)
  refine (add_any _ _ _ _ _ (by decide) (by decide) (by decide) (by decide)).mono ?_
  rintro e w1 ⟨rfl, hb1⟩
  rw [f_add]
  have d1 := belowAlloc2 hb1
  clear hb1
  go_wp2_with (go_at_call 11; refine (of_world _ _).mono ?_; rintro e w' ⟨rfl, rfl⟩)
  have hz3 : ∀ o1 o2 o3, (((w1.alloc o1).alloc o2).alloc o3).heap.size = w1.heap.size + 1 + 1 + 1 := by intro o1 o2 o3; simp
  have hl2 := fun o1 o2 o3 => lies2 (((w1.alloc o1).alloc o2).alloc o3) 3 false (-5) false 23
  simp only [hz3] at hl2
  refine (total_any _ 0 2 [(3, false), (-5, false)] _ (hl2 _ _ _) (by simp) (by intro x hx; simp at hx; rcases hx with rfl | rfl <;> exact ⟨by decide, by decide⟩) (by simp)).mono ?_
  rintro e w2 ⟨rfl, hb2⟩
  rw [f_tot]
  clear hl2 hz3
  have c0 := newC (i := 0) (belowAlloc (belowAlloc2 hb2))
  have c1 := newC (i := 1) (belowAlloc (belowAlloc2 hb2))
  have d2 := d1.trans ((belowAlloc2 (belowAlloc2 hb2)).mono d1.size)
  have z2 : w1.heap.size < w2.heap.size := by have := (belowAlloc (belowAlloc2 hb2)).size; simp at this; omega
  clear hb2 d1
  simp at c0 c1
  go_wp2_with fail
  refine (parse_any B ⟨#[45, 55, 33]⟩ _ ((hE.go d2).alloc _) (by decide)).mono ?_
  rw [show (⟨#[45, 55, 33]⟩ : ByteArray).data.toList = [45, 55, 33] from rfl, f_parse]
  rintro e w3 ⟨rfl, hb3⟩
  have a0 := newC (i := 0) hb3
  have a1 := newC (i := 1) hb3
  have n3 := belowAlloc hb3
  have b0 := keepC n3 c0 z2
  have b1 := keepC n3 c1 z2
  have d3 := d2.trans (n3.mono d2.size)
  have z3 : w2.heap.size < w3.heap.size := by have := hb3.size; simp at this; omega
  clear hb3 c0 c1 d2 n3
  simp at a0 a1
  go_wp2_with fail
  refine (read_any B ⟨#[45, 48]⟩ _ ((hE.go d3).alloc _) (by decide)).mono ?_
  rw [show (⟨#[45, 48]⟩ : ByteArray).data.toList = [45, 48] from rfl, f_read1]
  rintro e w4 ⟨rfl, hb4⟩
  have p0 := newC (i := 0) hb4
  have p1 := newC (i := 1) hb4
  have n4 := belowAlloc hb4
  have q0 := keepC n4 a0 z3
  have q1 := keepC n4 a1 z3
  have r0 := keepC n4 b0 (Nat.lt_trans z2 z3)
  have r1 := keepC n4 b1 (Nat.lt_trans z2 z3)
  have d4 := d3.trans (n4.mono d3.size)
  have z4 : w3.heap.size < w4.heap.size := by have := hb4.size; simp at this; omega
  clear hb4 a0 a1 b0 b1 n4 d3
  simp at p0 p1
  go_wp2_with fail
  refine (read_any B ⟨#[57, 50, 50, 51, 51, 55, 50, 48, 51, 54, 56, 53, 52, 55, 55, 53, 56, 48, 56]⟩ _ (hE.go d4) (by decide)).mono ?_
  rw [show (⟨#[57, 50, 50, 51, 51, 55, 50, 48, 51, 54, 56, 53, 52, 55, 55, 53, 56, 48, 56]⟩ : ByteArray).data.toList = [57, 50, 50, 51, 51, 55, 50, 48, 51, 54, 56, 53, 52, 55, 55, 53, 56, 48, 56] from rfl, f_read2]
  rintro e w5 ⟨rfl, n5⟩
  have a0 := keepC n5 p0 z4
  have a1 := keepC n5 p1 z4
  have b0 := keepC n5 q0 (Nat.lt_trans z3 z4)
  have b1 := keepC n5 q1 (Nat.lt_trans z3 z4)
  have c0 := keepC n5 r0 (Nat.lt_trans z2 (Nat.lt_trans z3 z4))
  have c1 := keepC n5 r1 (Nat.lt_trans z2 (Nat.lt_trans z3 z4))
  have d5 := d4.trans (n5.mono d4.size)
  have z5 := n5.size
  clear p0 p1 q0 q1 r0 r1 n5 d4
  go_wp2_with fail
  refine (text_any B 9223372036854775807 true _ (hE.go d5) (by decide) (by decide)).mono ?_
  rw [f_text]
  rintro e w6 ⟨rfl, n6⟩
  have p0 := keepC n6 a0 (by omega)
  have p1 := keepC n6 a1 (by omega)
  have q0 := keepC n6 b0 (by omega)
  have q1 := keepC n6 b1 (by omega)
  have d6 := d5.trans (n6.mono d5.size)
  clear a0 a1 b0 b1 c0 c1 n6 d5
  go_wp2_with fail
  refine (number_any B _ _ (hE.go d6) (by decide) (by decide)).mono ?_
  rw [f_num]
  rintro e w7 ⟨rfl, n7⟩
  have d7 := d6.trans (n7.mono d6.size)
  clear n7 d6 p0 p1 q0 q1
  go_wp2_with fail
  refine (total_nil _).mono ?_
  rintro e w8 ⟨rfl, n8⟩
  have d8 := d7.trans (n8.mono d7.size)
  clear n8 d7
  go_wp2_with fail
  go_ret
  exact ⟨rfl, d8⟩
end Go.Proofs.YtmmpcaboedjjdaaDoor
