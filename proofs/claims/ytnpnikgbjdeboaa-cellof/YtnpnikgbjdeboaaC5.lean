/- Walks: the document's merge of two cells. -/
import Derived.Test.YtnpnikgbjdeboaaC4
namespace Go.Proofs.Ytnpnikgbjdeboaa
open Go Go.RowKit Cl

set_option maxHeartbeats 400000 in
theorem refTwo_b (a b : Cell) (w : World) (h : b.cnt < 1) :
    Calls Try.prog 21 #[.agg #[.int .i64 a.cnt, .int .i64 a.sn, .bool a.so, .int .i64 a.mn, .int .i64 a.mx], .agg #[.int .i64 b.cnt, .int .i64 b.sn, .bool b.so, .int .i64 b.mn, .int .i64 b.mx]] w fun e w' => e = .returned (.agg #[.int .i64 a.cnt, .int .i64 a.sn, .bool a.so, .int .i64 a.mn, .int .i64 a.mx]) ∧ Below w.heap.size w w' := by
  go_enter Try.func21, Try.ntmps21
  go_wp2_with fail
  exact bodyPost_ret (v := .agg #[.int .i64 a.cnt, .int .i64 a.sn, .bool a.so, .int .i64 a.mn, .int .i64 a.mx]) (by simp [results, Try.results21, go_sem]) rfl ⟨rfl, below3 _ _ _⟩

set_option maxHeartbeats 400000 in
theorem refTwo_a (a b : Cell) (w : World) (h : 1 ≤ b.cnt) (h' : a.cnt < 1) :
    Calls Try.prog 21 #[.agg #[.int .i64 a.cnt, .int .i64 a.sn, .bool a.so, .int .i64 a.mn, .int .i64 a.mx], .agg #[.int .i64 b.cnt, .int .i64 b.sn, .bool b.so, .int .i64 b.mn, .int .i64 b.mx]] w fun e w' => e = .returned (.agg #[.int .i64 b.cnt, .int .i64 b.sn, .bool b.so, .int .i64 b.mn, .int .i64 b.mx]) ∧ Below w.heap.size w w' := by
  have h3 : ¬ b.cnt < 1 := by omega
  clear h
  go_enter Try.func21, Try.ntmps21
  go_wp2_with fail
  exact bodyPost_ret (v := .agg #[.int .i64 b.cnt, .int .i64 b.sn, .bool b.so, .int .i64 b.mn, .int .i64 b.mx]) (by simp [results, Try.results21, go_sem]) rfl ⟨rfl, below3 _ _ _⟩

set_option maxHeartbeats 400000 in
theorem refTwo_0 (a b : Cell) (w : World) (ha : okC a) (hb : okC b) (h : 1 ≤ b.cnt) (h' : 1 ≤ a.cnt) (h2 : 9223372036854775807 - b.cnt < a.cnt) (hm : b.mn < a.mn) (hx : a.mx < b.mx) :
    Calls Try.prog 21 #[.agg #[.int .i64 a.cnt, .int .i64 a.sn, .bool a.so, .int .i64 a.mn, .int .i64 a.mx], .agg #[.int .i64 b.cnt, .int .i64 b.sn, .bool b.so, .int .i64 b.mn, .int .i64 b.mx]] w fun e w' => e = .returned (.agg #[.int .i64 9223372036854775807, .int .i64 (Sat.add a.sn a.so b.sn b.so).1, .bool (Sat.add a.sn a.so b.sn b.so).2, .int .i64 b.mn, .int .i64 b.mx]) ∧ Below w.heap.size w w' := by
  have h3 : ¬ b.cnt < 1 := by omega
  have h4 : ¬ a.cnt < 1 := by omega
  have g1 := hb.1.2
  have k2 : 9223372036854775807 - b.cnt ≤ 9223372036854775807 := by omega
  have k3 : -9223372036854775808 ≤ 9223372036854775807 - b.cnt := by omega
  have H := Lib.hid (And.intro ha.2.1 hb.2.1)
  clear ha hb
  go_enter Try.func21, Try.ntmps21
  go_wp2_with fail
  refine (refAdd_any _ _ _ _ _ H.out.1.1 H.out.1.2 H.out.2.1 H.out.2.2).mono ?_
  rintro e w1 ⟨rfl, n1⟩
  obtain ⟨a0, a1, a2, a3, a4⟩ := (((Box.new w w.heap.size ⟨9223372036854775807, a.sn, a.so, a.mn, a.mx⟩ rfl).on (aBelow _ (.cells #[.int .i64 b.cnt, .int .i64 b.sn, .bool b.so, .int .i64 b.mn, .int .i64 b.mx] 25))).on (aBelow _ (.cells #[.int .i64 zero.cnt, .int .i64 zero.sn, .bool zero.so, .int .i64 zero.mn, .int .i64 zero.mx] 25))).on n1
  obtain ⟨f0, f1, f2, f3, f4⟩ := (((Free.new w w.heap.size ⟨9223372036854775807, a.sn, a.so, a.mn, a.mx⟩ rfl).on (by simp) (aBelow _ (.cells #[.int .i64 b.cnt, .int .i64 b.sn, .bool b.so, .int .i64 b.mn, .int .i64 b.mx] 25))).on (by simp; omega) (aBelow _ (.cells #[.int .i64 zero.cnt, .int .i64 zero.sn, .bool zero.so, .int .i64 zero.mn, .int .i64 zero.mx] 25))).on (by simp; omega) n1
  obtain ⟨b0, b1, b2, b3, b4⟩ := ((Box.new (w.alloc (.cells #[.int .i64 9223372036854775807, .int .i64 a.sn, .bool a.so, .int .i64 a.mn, .int .i64 a.mx] 25)) (w.heap.size + 1) b (by simp)).on (aBelow _ (.cells #[.int .i64 zero.cnt, .int .i64 zero.sn, .bool zero.so, .int .i64 zero.mn, .int .i64 zero.mx] 25))).on n1
  obtain ⟨r0, r1, r2, r3, r4⟩ := (Box.new ((w.alloc (.cells #[.int .i64 9223372036854775807, .int .i64 a.sn, .bool a.so, .int .i64 a.mn, .int .i64 a.mx] 25)).alloc (.cells #[.int .i64 b.cnt, .int .i64 b.sn, .bool b.so, .int .i64 b.mn, .int .i64 b.mx] 25)) (w.heap.size + 1 + 1) zero (by simp)).on n1
  obtain ⟨q0, q1, q2, q3, q4⟩ := (Free.new ((w.alloc (.cells #[.int .i64 9223372036854775807, .int .i64 a.sn, .bool a.so, .int .i64 a.mn, .int .i64 a.mx] 25)).alloc (.cells #[.int .i64 b.cnt, .int .i64 b.sn, .bool b.so, .int .i64 b.mn, .int .i64 b.mx] 25)) (w.heap.size + 1 + 1) zero (by simp)).on (by simp) n1
  have d1 := belowAlloc (belowAlloc (belowAlloc n1))
  clear n1 H h h' h2 h3 h4 g1 k2 k3
  simp only [zero] at *
  go_wp2_with fail
  exact bodyPost_ret (v := .agg #[.int .i64 9223372036854775807, .int .i64 (Sat.add a.sn a.so b.sn b.so).1, .bool (Sat.add a.sn a.so b.sn b.so).2, .int .i64 b.mn, .int .i64 b.mx]) (by simp [results, Try.results21, go_sem, r0, r1, r2, r3, r4]) rfl ⟨rfl, by (repeat refine Below.setCell ?_ (by simp; try omega) _); exact d1⟩

set_option maxHeartbeats 400000 in
theorem refTwo_1 (a b : Cell) (w : World) (ha : okC a) (hb : okC b) (h : 1 ≤ b.cnt) (h' : 1 ≤ a.cnt) (h2 : 9223372036854775807 - b.cnt < a.cnt) (hm : b.mn < a.mn) (hx : ¬ a.mx < b.mx) :
    Calls Try.prog 21 #[.agg #[.int .i64 a.cnt, .int .i64 a.sn, .bool a.so, .int .i64 a.mn, .int .i64 a.mx], .agg #[.int .i64 b.cnt, .int .i64 b.sn, .bool b.so, .int .i64 b.mn, .int .i64 b.mx]] w fun e w' => e = .returned (.agg #[.int .i64 9223372036854775807, .int .i64 (Sat.add a.sn a.so b.sn b.so).1, .bool (Sat.add a.sn a.so b.sn b.so).2, .int .i64 b.mn, .int .i64 a.mx]) ∧ Below w.heap.size w w' := by
  have h3 : ¬ b.cnt < 1 := by omega
  have h4 : ¬ a.cnt < 1 := by omega
  have g1 := hb.1.2
  have k2 : 9223372036854775807 - b.cnt ≤ 9223372036854775807 := by omega
  have k3 : -9223372036854775808 ≤ 9223372036854775807 - b.cnt := by omega
  have H := Lib.hid (And.intro ha.2.1 hb.2.1)
  clear ha hb
  go_enter Try.func21, Try.ntmps21
  go_wp2_with fail
  refine (refAdd_any _ _ _ _ _ H.out.1.1 H.out.1.2 H.out.2.1 H.out.2.2).mono ?_
  rintro e w1 ⟨rfl, n1⟩
  obtain ⟨a0, a1, a2, a3, a4⟩ := (((Box.new w w.heap.size ⟨9223372036854775807, a.sn, a.so, a.mn, a.mx⟩ rfl).on (aBelow _ (.cells #[.int .i64 b.cnt, .int .i64 b.sn, .bool b.so, .int .i64 b.mn, .int .i64 b.mx] 25))).on (aBelow _ (.cells #[.int .i64 zero.cnt, .int .i64 zero.sn, .bool zero.so, .int .i64 zero.mn, .int .i64 zero.mx] 25))).on n1
  obtain ⟨f0, f1, f2, f3, f4⟩ := (((Free.new w w.heap.size ⟨9223372036854775807, a.sn, a.so, a.mn, a.mx⟩ rfl).on (by simp) (aBelow _ (.cells #[.int .i64 b.cnt, .int .i64 b.sn, .bool b.so, .int .i64 b.mn, .int .i64 b.mx] 25))).on (by simp; omega) (aBelow _ (.cells #[.int .i64 zero.cnt, .int .i64 zero.sn, .bool zero.so, .int .i64 zero.mn, .int .i64 zero.mx] 25))).on (by simp; omega) n1
  obtain ⟨b0, b1, b2, b3, b4⟩ := ((Box.new (w.alloc (.cells #[.int .i64 9223372036854775807, .int .i64 a.sn, .bool a.so, .int .i64 a.mn, .int .i64 a.mx] 25)) (w.heap.size + 1) b (by simp)).on (aBelow _ (.cells #[.int .i64 zero.cnt, .int .i64 zero.sn, .bool zero.so, .int .i64 zero.mn, .int .i64 zero.mx] 25))).on n1
  obtain ⟨r0, r1, r2, r3, r4⟩ := (Box.new ((w.alloc (.cells #[.int .i64 9223372036854775807, .int .i64 a.sn, .bool a.so, .int .i64 a.mn, .int .i64 a.mx] 25)).alloc (.cells #[.int .i64 b.cnt, .int .i64 b.sn, .bool b.so, .int .i64 b.mn, .int .i64 b.mx] 25)) (w.heap.size + 1 + 1) zero (by simp)).on n1
  obtain ⟨q0, q1, q2, q3, q4⟩ := (Free.new ((w.alloc (.cells #[.int .i64 9223372036854775807, .int .i64 a.sn, .bool a.so, .int .i64 a.mn, .int .i64 a.mx] 25)).alloc (.cells #[.int .i64 b.cnt, .int .i64 b.sn, .bool b.so, .int .i64 b.mn, .int .i64 b.mx] 25)) (w.heap.size + 1 + 1) zero (by simp)).on (by simp) n1
  have d1 := belowAlloc (belowAlloc (belowAlloc n1))
  clear n1 H h h' h2 h3 h4 g1 k2 k3
  simp only [zero] at *
  go_wp2_with fail
  exact bodyPost_ret (v := .agg #[.int .i64 9223372036854775807, .int .i64 (Sat.add a.sn a.so b.sn b.so).1, .bool (Sat.add a.sn a.so b.sn b.so).2, .int .i64 b.mn, .int .i64 a.mx]) (by simp [results, Try.results21, go_sem, r0, r1, r2, r3, r4]) rfl ⟨rfl, by (repeat refine Below.setCell ?_ (by simp; try omega) _); exact d1⟩

set_option maxHeartbeats 400000 in
theorem refTwo_2 (a b : Cell) (w : World) (ha : okC a) (hb : okC b) (h : 1 ≤ b.cnt) (h' : 1 ≤ a.cnt) (h2 : 9223372036854775807 - b.cnt < a.cnt) (hm : ¬ b.mn < a.mn) (hx : a.mx < b.mx) :
    Calls Try.prog 21 #[.agg #[.int .i64 a.cnt, .int .i64 a.sn, .bool a.so, .int .i64 a.mn, .int .i64 a.mx], .agg #[.int .i64 b.cnt, .int .i64 b.sn, .bool b.so, .int .i64 b.mn, .int .i64 b.mx]] w fun e w' => e = .returned (.agg #[.int .i64 9223372036854775807, .int .i64 (Sat.add a.sn a.so b.sn b.so).1, .bool (Sat.add a.sn a.so b.sn b.so).2, .int .i64 a.mn, .int .i64 b.mx]) ∧ Below w.heap.size w w' := by
  have h3 : ¬ b.cnt < 1 := by omega
  have h4 : ¬ a.cnt < 1 := by omega
  have g1 := hb.1.2
  have k2 : 9223372036854775807 - b.cnt ≤ 9223372036854775807 := by omega
  have k3 : -9223372036854775808 ≤ 9223372036854775807 - b.cnt := by omega
  have H := Lib.hid (And.intro ha.2.1 hb.2.1)
  clear ha hb
  go_enter Try.func21, Try.ntmps21
  go_wp2_with fail
  refine (refAdd_any _ _ _ _ _ H.out.1.1 H.out.1.2 H.out.2.1 H.out.2.2).mono ?_
  rintro e w1 ⟨rfl, n1⟩
  obtain ⟨a0, a1, a2, a3, a4⟩ := (((Box.new w w.heap.size ⟨9223372036854775807, a.sn, a.so, a.mn, a.mx⟩ rfl).on (aBelow _ (.cells #[.int .i64 b.cnt, .int .i64 b.sn, .bool b.so, .int .i64 b.mn, .int .i64 b.mx] 25))).on (aBelow _ (.cells #[.int .i64 zero.cnt, .int .i64 zero.sn, .bool zero.so, .int .i64 zero.mn, .int .i64 zero.mx] 25))).on n1
  obtain ⟨f0, f1, f2, f3, f4⟩ := (((Free.new w w.heap.size ⟨9223372036854775807, a.sn, a.so, a.mn, a.mx⟩ rfl).on (by simp) (aBelow _ (.cells #[.int .i64 b.cnt, .int .i64 b.sn, .bool b.so, .int .i64 b.mn, .int .i64 b.mx] 25))).on (by simp; omega) (aBelow _ (.cells #[.int .i64 zero.cnt, .int .i64 zero.sn, .bool zero.so, .int .i64 zero.mn, .int .i64 zero.mx] 25))).on (by simp; omega) n1
  obtain ⟨b0, b1, b2, b3, b4⟩ := ((Box.new (w.alloc (.cells #[.int .i64 9223372036854775807, .int .i64 a.sn, .bool a.so, .int .i64 a.mn, .int .i64 a.mx] 25)) (w.heap.size + 1) b (by simp)).on (aBelow _ (.cells #[.int .i64 zero.cnt, .int .i64 zero.sn, .bool zero.so, .int .i64 zero.mn, .int .i64 zero.mx] 25))).on n1
  obtain ⟨r0, r1, r2, r3, r4⟩ := (Box.new ((w.alloc (.cells #[.int .i64 9223372036854775807, .int .i64 a.sn, .bool a.so, .int .i64 a.mn, .int .i64 a.mx] 25)).alloc (.cells #[.int .i64 b.cnt, .int .i64 b.sn, .bool b.so, .int .i64 b.mn, .int .i64 b.mx] 25)) (w.heap.size + 1 + 1) zero (by simp)).on n1
  obtain ⟨q0, q1, q2, q3, q4⟩ := (Free.new ((w.alloc (.cells #[.int .i64 9223372036854775807, .int .i64 a.sn, .bool a.so, .int .i64 a.mn, .int .i64 a.mx] 25)).alloc (.cells #[.int .i64 b.cnt, .int .i64 b.sn, .bool b.so, .int .i64 b.mn, .int .i64 b.mx] 25)) (w.heap.size + 1 + 1) zero (by simp)).on (by simp) n1
  have d1 := belowAlloc (belowAlloc (belowAlloc n1))
  clear n1 H h h' h2 h3 h4 g1 k2 k3
  simp only [zero] at *
  go_wp2_with fail
  exact bodyPost_ret (v := .agg #[.int .i64 9223372036854775807, .int .i64 (Sat.add a.sn a.so b.sn b.so).1, .bool (Sat.add a.sn a.so b.sn b.so).2, .int .i64 a.mn, .int .i64 b.mx]) (by simp [results, Try.results21, go_sem, r0, r1, r2, r3, r4]) rfl ⟨rfl, by (repeat refine Below.setCell ?_ (by simp; try omega) _); exact d1⟩

set_option maxHeartbeats 400000 in
theorem refTwo_3 (a b : Cell) (w : World) (ha : okC a) (hb : okC b) (h : 1 ≤ b.cnt) (h' : 1 ≤ a.cnt) (h2 : 9223372036854775807 - b.cnt < a.cnt) (hm : ¬ b.mn < a.mn) (hx : ¬ a.mx < b.mx) :
    Calls Try.prog 21 #[.agg #[.int .i64 a.cnt, .int .i64 a.sn, .bool a.so, .int .i64 a.mn, .int .i64 a.mx], .agg #[.int .i64 b.cnt, .int .i64 b.sn, .bool b.so, .int .i64 b.mn, .int .i64 b.mx]] w fun e w' => e = .returned (.agg #[.int .i64 9223372036854775807, .int .i64 (Sat.add a.sn a.so b.sn b.so).1, .bool (Sat.add a.sn a.so b.sn b.so).2, .int .i64 a.mn, .int .i64 a.mx]) ∧ Below w.heap.size w w' := by
  have h3 : ¬ b.cnt < 1 := by omega
  have h4 : ¬ a.cnt < 1 := by omega
  have g1 := hb.1.2
  have k2 : 9223372036854775807 - b.cnt ≤ 9223372036854775807 := by omega
  have k3 : -9223372036854775808 ≤ 9223372036854775807 - b.cnt := by omega
  have H := Lib.hid (And.intro ha.2.1 hb.2.1)
  clear ha hb
  go_enter Try.func21, Try.ntmps21
  go_wp2_with fail
  refine (refAdd_any _ _ _ _ _ H.out.1.1 H.out.1.2 H.out.2.1 H.out.2.2).mono ?_
  rintro e w1 ⟨rfl, n1⟩
  obtain ⟨a0, a1, a2, a3, a4⟩ := (((Box.new w w.heap.size ⟨9223372036854775807, a.sn, a.so, a.mn, a.mx⟩ rfl).on (aBelow _ (.cells #[.int .i64 b.cnt, .int .i64 b.sn, .bool b.so, .int .i64 b.mn, .int .i64 b.mx] 25))).on (aBelow _ (.cells #[.int .i64 zero.cnt, .int .i64 zero.sn, .bool zero.so, .int .i64 zero.mn, .int .i64 zero.mx] 25))).on n1
  obtain ⟨f0, f1, f2, f3, f4⟩ := (((Free.new w w.heap.size ⟨9223372036854775807, a.sn, a.so, a.mn, a.mx⟩ rfl).on (by simp) (aBelow _ (.cells #[.int .i64 b.cnt, .int .i64 b.sn, .bool b.so, .int .i64 b.mn, .int .i64 b.mx] 25))).on (by simp; omega) (aBelow _ (.cells #[.int .i64 zero.cnt, .int .i64 zero.sn, .bool zero.so, .int .i64 zero.mn, .int .i64 zero.mx] 25))).on (by simp; omega) n1
  obtain ⟨b0, b1, b2, b3, b4⟩ := ((Box.new (w.alloc (.cells #[.int .i64 9223372036854775807, .int .i64 a.sn, .bool a.so, .int .i64 a.mn, .int .i64 a.mx] 25)) (w.heap.size + 1) b (by simp)).on (aBelow _ (.cells #[.int .i64 zero.cnt, .int .i64 zero.sn, .bool zero.so, .int .i64 zero.mn, .int .i64 zero.mx] 25))).on n1
  obtain ⟨r0, r1, r2, r3, r4⟩ := (Box.new ((w.alloc (.cells #[.int .i64 9223372036854775807, .int .i64 a.sn, .bool a.so, .int .i64 a.mn, .int .i64 a.mx] 25)).alloc (.cells #[.int .i64 b.cnt, .int .i64 b.sn, .bool b.so, .int .i64 b.mn, .int .i64 b.mx] 25)) (w.heap.size + 1 + 1) zero (by simp)).on n1
  obtain ⟨q0, q1, q2, q3, q4⟩ := (Free.new ((w.alloc (.cells #[.int .i64 9223372036854775807, .int .i64 a.sn, .bool a.so, .int .i64 a.mn, .int .i64 a.mx] 25)).alloc (.cells #[.int .i64 b.cnt, .int .i64 b.sn, .bool b.so, .int .i64 b.mn, .int .i64 b.mx] 25)) (w.heap.size + 1 + 1) zero (by simp)).on (by simp) n1
  have d1 := belowAlloc (belowAlloc (belowAlloc n1))
  clear n1 H h h' h2 h3 h4 g1 k2 k3
  simp only [zero] at *
  go_wp2_with fail
  exact bodyPost_ret (v := .agg #[.int .i64 9223372036854775807, .int .i64 (Sat.add a.sn a.so b.sn b.so).1, .bool (Sat.add a.sn a.so b.sn b.so).2, .int .i64 a.mn, .int .i64 a.mx]) (by simp [results, Try.results21, go_sem, r0, r1, r2, r3, r4]) rfl ⟨rfl, by (repeat refine Below.setCell ?_ (by simp; try omega) _); exact d1⟩

set_option maxHeartbeats 400000 in
theorem refTwo_4 (a b : Cell) (w : World) (ha : okC a) (hb : okC b) (h : 1 ≤ b.cnt) (h' : 1 ≤ a.cnt) (h2 : ¬ 9223372036854775807 - b.cnt < a.cnt) (hm : b.mn < a.mn) (hx : a.mx < b.mx) :
    Calls Try.prog 21 #[.agg #[.int .i64 a.cnt, .int .i64 a.sn, .bool a.so, .int .i64 a.mn, .int .i64 a.mx], .agg #[.int .i64 b.cnt, .int .i64 b.sn, .bool b.so, .int .i64 b.mn, .int .i64 b.mx]] w fun e w' => e = .returned (.agg #[.int .i64 (a.cnt + b.cnt), .int .i64 (Sat.add a.sn a.so b.sn b.so).1, .bool (Sat.add a.sn a.so b.sn b.so).2, .int .i64 b.mn, .int .i64 b.mx]) ∧ Below w.heap.size w w' := by
  have h3 : ¬ b.cnt < 1 := by omega
  have h4 : ¬ a.cnt < 1 := by omega
  have g1 := hb.1.2
  have k2 : 9223372036854775807 - b.cnt ≤ 9223372036854775807 := by omega
  have k3 : -9223372036854775808 ≤ 9223372036854775807 - b.cnt := by omega
  have k0 : a.cnt + b.cnt ≤ 9223372036854775807 := by omega
  have k1 : -9223372036854775808 ≤ a.cnt + b.cnt := by omega
  have H := Lib.hid (And.intro ha.2.1 hb.2.1)
  clear ha hb
  go_enter Try.func21, Try.ntmps21
  go_wp2_with fail
  refine (refAdd_any _ _ _ _ _ H.out.1.1 H.out.1.2 H.out.2.1 H.out.2.2).mono ?_
  rintro e w1 ⟨rfl, n1⟩
  obtain ⟨a0, a1, a2, a3, a4⟩ := (((Box.new w w.heap.size ⟨(a.cnt + b.cnt), a.sn, a.so, a.mn, a.mx⟩ rfl).on (aBelow _ (.cells #[.int .i64 b.cnt, .int .i64 b.sn, .bool b.so, .int .i64 b.mn, .int .i64 b.mx] 25))).on (aBelow _ (.cells #[.int .i64 zero.cnt, .int .i64 zero.sn, .bool zero.so, .int .i64 zero.mn, .int .i64 zero.mx] 25))).on n1
  obtain ⟨f0, f1, f2, f3, f4⟩ := (((Free.new w w.heap.size ⟨(a.cnt + b.cnt), a.sn, a.so, a.mn, a.mx⟩ rfl).on (by simp) (aBelow _ (.cells #[.int .i64 b.cnt, .int .i64 b.sn, .bool b.so, .int .i64 b.mn, .int .i64 b.mx] 25))).on (by simp; omega) (aBelow _ (.cells #[.int .i64 zero.cnt, .int .i64 zero.sn, .bool zero.so, .int .i64 zero.mn, .int .i64 zero.mx] 25))).on (by simp; omega) n1
  obtain ⟨b0, b1, b2, b3, b4⟩ := ((Box.new (w.alloc (.cells #[.int .i64 (a.cnt + b.cnt), .int .i64 a.sn, .bool a.so, .int .i64 a.mn, .int .i64 a.mx] 25)) (w.heap.size + 1) b (by simp)).on (aBelow _ (.cells #[.int .i64 zero.cnt, .int .i64 zero.sn, .bool zero.so, .int .i64 zero.mn, .int .i64 zero.mx] 25))).on n1
  obtain ⟨r0, r1, r2, r3, r4⟩ := (Box.new ((w.alloc (.cells #[.int .i64 (a.cnt + b.cnt), .int .i64 a.sn, .bool a.so, .int .i64 a.mn, .int .i64 a.mx] 25)).alloc (.cells #[.int .i64 b.cnt, .int .i64 b.sn, .bool b.so, .int .i64 b.mn, .int .i64 b.mx] 25)) (w.heap.size + 1 + 1) zero (by simp)).on n1
  obtain ⟨q0, q1, q2, q3, q4⟩ := (Free.new ((w.alloc (.cells #[.int .i64 (a.cnt + b.cnt), .int .i64 a.sn, .bool a.so, .int .i64 a.mn, .int .i64 a.mx] 25)).alloc (.cells #[.int .i64 b.cnt, .int .i64 b.sn, .bool b.so, .int .i64 b.mn, .int .i64 b.mx] 25)) (w.heap.size + 1 + 1) zero (by simp)).on (by simp) n1
  have d1 := belowAlloc (belowAlloc (belowAlloc n1))
  clear n1 H h h' h2 h3 h4 g1 k2 k3 k0 k1
  simp only [zero] at *
  go_wp2_with fail
  exact bodyPost_ret (v := .agg #[.int .i64 (a.cnt + b.cnt), .int .i64 (Sat.add a.sn a.so b.sn b.so).1, .bool (Sat.add a.sn a.so b.sn b.so).2, .int .i64 b.mn, .int .i64 b.mx]) (by simp [results, Try.results21, go_sem, r0, r1, r2, r3, r4]) rfl ⟨rfl, by (repeat refine Below.setCell ?_ (by simp; try omega) _); exact d1⟩

set_option maxHeartbeats 400000 in
theorem refTwo_5 (a b : Cell) (w : World) (ha : okC a) (hb : okC b) (h : 1 ≤ b.cnt) (h' : 1 ≤ a.cnt) (h2 : ¬ 9223372036854775807 - b.cnt < a.cnt) (hm : b.mn < a.mn) (hx : ¬ a.mx < b.mx) :
    Calls Try.prog 21 #[.agg #[.int .i64 a.cnt, .int .i64 a.sn, .bool a.so, .int .i64 a.mn, .int .i64 a.mx], .agg #[.int .i64 b.cnt, .int .i64 b.sn, .bool b.so, .int .i64 b.mn, .int .i64 b.mx]] w fun e w' => e = .returned (.agg #[.int .i64 (a.cnt + b.cnt), .int .i64 (Sat.add a.sn a.so b.sn b.so).1, .bool (Sat.add a.sn a.so b.sn b.so).2, .int .i64 b.mn, .int .i64 a.mx]) ∧ Below w.heap.size w w' := by
  have h3 : ¬ b.cnt < 1 := by omega
  have h4 : ¬ a.cnt < 1 := by omega
  have g1 := hb.1.2
  have k2 : 9223372036854775807 - b.cnt ≤ 9223372036854775807 := by omega
  have k3 : -9223372036854775808 ≤ 9223372036854775807 - b.cnt := by omega
  have k0 : a.cnt + b.cnt ≤ 9223372036854775807 := by omega
  have k1 : -9223372036854775808 ≤ a.cnt + b.cnt := by omega
  have H := Lib.hid (And.intro ha.2.1 hb.2.1)
  clear ha hb
  go_enter Try.func21, Try.ntmps21
  go_wp2_with fail
  refine (refAdd_any _ _ _ _ _ H.out.1.1 H.out.1.2 H.out.2.1 H.out.2.2).mono ?_
  rintro e w1 ⟨rfl, n1⟩
  obtain ⟨a0, a1, a2, a3, a4⟩ := (((Box.new w w.heap.size ⟨(a.cnt + b.cnt), a.sn, a.so, a.mn, a.mx⟩ rfl).on (aBelow _ (.cells #[.int .i64 b.cnt, .int .i64 b.sn, .bool b.so, .int .i64 b.mn, .int .i64 b.mx] 25))).on (aBelow _ (.cells #[.int .i64 zero.cnt, .int .i64 zero.sn, .bool zero.so, .int .i64 zero.mn, .int .i64 zero.mx] 25))).on n1
  obtain ⟨f0, f1, f2, f3, f4⟩ := (((Free.new w w.heap.size ⟨(a.cnt + b.cnt), a.sn, a.so, a.mn, a.mx⟩ rfl).on (by simp) (aBelow _ (.cells #[.int .i64 b.cnt, .int .i64 b.sn, .bool b.so, .int .i64 b.mn, .int .i64 b.mx] 25))).on (by simp; omega) (aBelow _ (.cells #[.int .i64 zero.cnt, .int .i64 zero.sn, .bool zero.so, .int .i64 zero.mn, .int .i64 zero.mx] 25))).on (by simp; omega) n1
  obtain ⟨b0, b1, b2, b3, b4⟩ := ((Box.new (w.alloc (.cells #[.int .i64 (a.cnt + b.cnt), .int .i64 a.sn, .bool a.so, .int .i64 a.mn, .int .i64 a.mx] 25)) (w.heap.size + 1) b (by simp)).on (aBelow _ (.cells #[.int .i64 zero.cnt, .int .i64 zero.sn, .bool zero.so, .int .i64 zero.mn, .int .i64 zero.mx] 25))).on n1
  obtain ⟨r0, r1, r2, r3, r4⟩ := (Box.new ((w.alloc (.cells #[.int .i64 (a.cnt + b.cnt), .int .i64 a.sn, .bool a.so, .int .i64 a.mn, .int .i64 a.mx] 25)).alloc (.cells #[.int .i64 b.cnt, .int .i64 b.sn, .bool b.so, .int .i64 b.mn, .int .i64 b.mx] 25)) (w.heap.size + 1 + 1) zero (by simp)).on n1
  obtain ⟨q0, q1, q2, q3, q4⟩ := (Free.new ((w.alloc (.cells #[.int .i64 (a.cnt + b.cnt), .int .i64 a.sn, .bool a.so, .int .i64 a.mn, .int .i64 a.mx] 25)).alloc (.cells #[.int .i64 b.cnt, .int .i64 b.sn, .bool b.so, .int .i64 b.mn, .int .i64 b.mx] 25)) (w.heap.size + 1 + 1) zero (by simp)).on (by simp) n1
  have d1 := belowAlloc (belowAlloc (belowAlloc n1))
  clear n1 H h h' h2 h3 h4 g1 k2 k3 k0 k1
  simp only [zero] at *
  go_wp2_with fail
  exact bodyPost_ret (v := .agg #[.int .i64 (a.cnt + b.cnt), .int .i64 (Sat.add a.sn a.so b.sn b.so).1, .bool (Sat.add a.sn a.so b.sn b.so).2, .int .i64 b.mn, .int .i64 a.mx]) (by simp [results, Try.results21, go_sem, r0, r1, r2, r3, r4]) rfl ⟨rfl, by (repeat refine Below.setCell ?_ (by simp; try omega) _); exact d1⟩

set_option maxHeartbeats 400000 in
theorem refTwo_6 (a b : Cell) (w : World) (ha : okC a) (hb : okC b) (h : 1 ≤ b.cnt) (h' : 1 ≤ a.cnt) (h2 : ¬ 9223372036854775807 - b.cnt < a.cnt) (hm : ¬ b.mn < a.mn) (hx : a.mx < b.mx) :
    Calls Try.prog 21 #[.agg #[.int .i64 a.cnt, .int .i64 a.sn, .bool a.so, .int .i64 a.mn, .int .i64 a.mx], .agg #[.int .i64 b.cnt, .int .i64 b.sn, .bool b.so, .int .i64 b.mn, .int .i64 b.mx]] w fun e w' => e = .returned (.agg #[.int .i64 (a.cnt + b.cnt), .int .i64 (Sat.add a.sn a.so b.sn b.so).1, .bool (Sat.add a.sn a.so b.sn b.so).2, .int .i64 a.mn, .int .i64 b.mx]) ∧ Below w.heap.size w w' := by
  have h3 : ¬ b.cnt < 1 := by omega
  have h4 : ¬ a.cnt < 1 := by omega
  have g1 := hb.1.2
  have k2 : 9223372036854775807 - b.cnt ≤ 9223372036854775807 := by omega
  have k3 : -9223372036854775808 ≤ 9223372036854775807 - b.cnt := by omega
  have k0 : a.cnt + b.cnt ≤ 9223372036854775807 := by omega
  have k1 : -9223372036854775808 ≤ a.cnt + b.cnt := by omega
  have H := Lib.hid (And.intro ha.2.1 hb.2.1)
  clear ha hb
  go_enter Try.func21, Try.ntmps21
  go_wp2_with fail
  refine (refAdd_any _ _ _ _ _ H.out.1.1 H.out.1.2 H.out.2.1 H.out.2.2).mono ?_
  rintro e w1 ⟨rfl, n1⟩
  obtain ⟨a0, a1, a2, a3, a4⟩ := (((Box.new w w.heap.size ⟨(a.cnt + b.cnt), a.sn, a.so, a.mn, a.mx⟩ rfl).on (aBelow _ (.cells #[.int .i64 b.cnt, .int .i64 b.sn, .bool b.so, .int .i64 b.mn, .int .i64 b.mx] 25))).on (aBelow _ (.cells #[.int .i64 zero.cnt, .int .i64 zero.sn, .bool zero.so, .int .i64 zero.mn, .int .i64 zero.mx] 25))).on n1
  obtain ⟨f0, f1, f2, f3, f4⟩ := (((Free.new w w.heap.size ⟨(a.cnt + b.cnt), a.sn, a.so, a.mn, a.mx⟩ rfl).on (by simp) (aBelow _ (.cells #[.int .i64 b.cnt, .int .i64 b.sn, .bool b.so, .int .i64 b.mn, .int .i64 b.mx] 25))).on (by simp; omega) (aBelow _ (.cells #[.int .i64 zero.cnt, .int .i64 zero.sn, .bool zero.so, .int .i64 zero.mn, .int .i64 zero.mx] 25))).on (by simp; omega) n1
  obtain ⟨b0, b1, b2, b3, b4⟩ := ((Box.new (w.alloc (.cells #[.int .i64 (a.cnt + b.cnt), .int .i64 a.sn, .bool a.so, .int .i64 a.mn, .int .i64 a.mx] 25)) (w.heap.size + 1) b (by simp)).on (aBelow _ (.cells #[.int .i64 zero.cnt, .int .i64 zero.sn, .bool zero.so, .int .i64 zero.mn, .int .i64 zero.mx] 25))).on n1
  obtain ⟨r0, r1, r2, r3, r4⟩ := (Box.new ((w.alloc (.cells #[.int .i64 (a.cnt + b.cnt), .int .i64 a.sn, .bool a.so, .int .i64 a.mn, .int .i64 a.mx] 25)).alloc (.cells #[.int .i64 b.cnt, .int .i64 b.sn, .bool b.so, .int .i64 b.mn, .int .i64 b.mx] 25)) (w.heap.size + 1 + 1) zero (by simp)).on n1
  obtain ⟨q0, q1, q2, q3, q4⟩ := (Free.new ((w.alloc (.cells #[.int .i64 (a.cnt + b.cnt), .int .i64 a.sn, .bool a.so, .int .i64 a.mn, .int .i64 a.mx] 25)).alloc (.cells #[.int .i64 b.cnt, .int .i64 b.sn, .bool b.so, .int .i64 b.mn, .int .i64 b.mx] 25)) (w.heap.size + 1 + 1) zero (by simp)).on (by simp) n1
  have d1 := belowAlloc (belowAlloc (belowAlloc n1))
  clear n1 H h h' h2 h3 h4 g1 k2 k3 k0 k1
  simp only [zero] at *
  go_wp2_with fail
  exact bodyPost_ret (v := .agg #[.int .i64 (a.cnt + b.cnt), .int .i64 (Sat.add a.sn a.so b.sn b.so).1, .bool (Sat.add a.sn a.so b.sn b.so).2, .int .i64 a.mn, .int .i64 b.mx]) (by simp [results, Try.results21, go_sem, r0, r1, r2, r3, r4]) rfl ⟨rfl, by (repeat refine Below.setCell ?_ (by simp; try omega) _); exact d1⟩

set_option maxHeartbeats 400000 in
theorem refTwo_7 (a b : Cell) (w : World) (ha : okC a) (hb : okC b) (h : 1 ≤ b.cnt) (h' : 1 ≤ a.cnt) (h2 : ¬ 9223372036854775807 - b.cnt < a.cnt) (hm : ¬ b.mn < a.mn) (hx : ¬ a.mx < b.mx) :
    Calls Try.prog 21 #[.agg #[.int .i64 a.cnt, .int .i64 a.sn, .bool a.so, .int .i64 a.mn, .int .i64 a.mx], .agg #[.int .i64 b.cnt, .int .i64 b.sn, .bool b.so, .int .i64 b.mn, .int .i64 b.mx]] w fun e w' => e = .returned (.agg #[.int .i64 (a.cnt + b.cnt), .int .i64 (Sat.add a.sn a.so b.sn b.so).1, .bool (Sat.add a.sn a.so b.sn b.so).2, .int .i64 a.mn, .int .i64 a.mx]) ∧ Below w.heap.size w w' := by
  have h3 : ¬ b.cnt < 1 := by omega
  have h4 : ¬ a.cnt < 1 := by omega
  have g1 := hb.1.2
  have k2 : 9223372036854775807 - b.cnt ≤ 9223372036854775807 := by omega
  have k3 : -9223372036854775808 ≤ 9223372036854775807 - b.cnt := by omega
  have k0 : a.cnt + b.cnt ≤ 9223372036854775807 := by omega
  have k1 : -9223372036854775808 ≤ a.cnt + b.cnt := by omega
  have H := Lib.hid (And.intro ha.2.1 hb.2.1)
  clear ha hb
  go_enter Try.func21, Try.ntmps21
  go_wp2_with fail
  refine (refAdd_any _ _ _ _ _ H.out.1.1 H.out.1.2 H.out.2.1 H.out.2.2).mono ?_
  rintro e w1 ⟨rfl, n1⟩
  obtain ⟨a0, a1, a2, a3, a4⟩ := (((Box.new w w.heap.size ⟨(a.cnt + b.cnt), a.sn, a.so, a.mn, a.mx⟩ rfl).on (aBelow _ (.cells #[.int .i64 b.cnt, .int .i64 b.sn, .bool b.so, .int .i64 b.mn, .int .i64 b.mx] 25))).on (aBelow _ (.cells #[.int .i64 zero.cnt, .int .i64 zero.sn, .bool zero.so, .int .i64 zero.mn, .int .i64 zero.mx] 25))).on n1
  obtain ⟨f0, f1, f2, f3, f4⟩ := (((Free.new w w.heap.size ⟨(a.cnt + b.cnt), a.sn, a.so, a.mn, a.mx⟩ rfl).on (by simp) (aBelow _ (.cells #[.int .i64 b.cnt, .int .i64 b.sn, .bool b.so, .int .i64 b.mn, .int .i64 b.mx] 25))).on (by simp; omega) (aBelow _ (.cells #[.int .i64 zero.cnt, .int .i64 zero.sn, .bool zero.so, .int .i64 zero.mn, .int .i64 zero.mx] 25))).on (by simp; omega) n1
  obtain ⟨b0, b1, b2, b3, b4⟩ := ((Box.new (w.alloc (.cells #[.int .i64 (a.cnt + b.cnt), .int .i64 a.sn, .bool a.so, .int .i64 a.mn, .int .i64 a.mx] 25)) (w.heap.size + 1) b (by simp)).on (aBelow _ (.cells #[.int .i64 zero.cnt, .int .i64 zero.sn, .bool zero.so, .int .i64 zero.mn, .int .i64 zero.mx] 25))).on n1
  obtain ⟨r0, r1, r2, r3, r4⟩ := (Box.new ((w.alloc (.cells #[.int .i64 (a.cnt + b.cnt), .int .i64 a.sn, .bool a.so, .int .i64 a.mn, .int .i64 a.mx] 25)).alloc (.cells #[.int .i64 b.cnt, .int .i64 b.sn, .bool b.so, .int .i64 b.mn, .int .i64 b.mx] 25)) (w.heap.size + 1 + 1) zero (by simp)).on n1
  obtain ⟨q0, q1, q2, q3, q4⟩ := (Free.new ((w.alloc (.cells #[.int .i64 (a.cnt + b.cnt), .int .i64 a.sn, .bool a.so, .int .i64 a.mn, .int .i64 a.mx] 25)).alloc (.cells #[.int .i64 b.cnt, .int .i64 b.sn, .bool b.so, .int .i64 b.mn, .int .i64 b.mx] 25)) (w.heap.size + 1 + 1) zero (by simp)).on (by simp) n1
  have d1 := belowAlloc (belowAlloc (belowAlloc n1))
  clear n1 H h h' h2 h3 h4 g1 k2 k3 k0 k1
  simp only [zero] at *
  go_wp2_with fail
  exact bodyPost_ret (v := .agg #[.int .i64 (a.cnt + b.cnt), .int .i64 (Sat.add a.sn a.so b.sn b.so).1, .bool (Sat.add a.sn a.so b.sn b.so).2, .int .i64 a.mn, .int .i64 a.mx]) (by simp [results, Try.results21, go_sem, r0, r1, r2, r3, r4]) rfl ⟨rfl, by (repeat refine Below.setCell ?_ (by simp; try omega) _); exact d1⟩

/-- The document's merge is the merge. -/
theorem refTwo_any (a b : Cell) (w : World) (ha : okC a) (hb : okC b) :
    Calls Try.prog 21 #[.agg #[.int .i64 a.cnt, .int .i64 a.sn, .bool a.so, .int .i64 a.mn, .int .i64 a.mx], .agg #[.int .i64 b.cnt, .int .i64 b.sn, .bool b.so, .int .i64 b.mn, .int .i64 b.mx]] w fun e w' => e = .returned (.agg #[.int .i64 (two a b).cnt, .int .i64 (two a b).sn, .bool (two a b).so, .int .i64 (two a b).mn, .int .i64 (two a b).mx]) ∧ Below w.heap.size w w' := by
  by_cases h : b.cnt < 1
  · rw [two_b h]; exact refTwo_b a b w h
  · by_cases h' : a.cnt < 1
    · rw [two_a h h']; exact refTwo_a a b w (by omega) h'
    · have h1 : 1 ≤ b.cnt := by omega
      have h1' : 1 ≤ a.cnt := by omega
      rw [two_ab h h']
      show Calls Try.prog 21 #[.agg #[.int .i64 a.cnt, .int .i64 a.sn, .bool a.so, .int .i64 a.mn, .int .i64 a.mx], .agg #[.int .i64 b.cnt, .int .i64 b.sn, .bool b.so, .int .i64 b.mn, .int .i64 b.mx]] w fun e w' => e = .returned (.agg #[.int .i64 (cnt2 a.cnt b.cnt), .int .i64 (Sat.add a.sn a.so b.sn b.so).1, .bool (Sat.add a.sn a.so b.sn b.so).2, .int .i64 (min a.mn b.mn), .int .i64 (max a.mx b.mx)]) ∧ Below w.heap.size w w'
      by_cases h2 : 9223372036854775807 - b.cnt < a.cnt
      · have e : cnt2 a.cnt b.cnt = 9223372036854775807 := by unfold cnt2; rw [if_pos h2]
        rw [e]
        by_cases hm : b.mn < a.mn
        · rw [min_l hm]
          by_cases hx : a.mx < b.mx
          · rw [max_l hx]; exact refTwo_0 a b w ha hb h1 h1' h2 hm hx
          · rw [max_r hx]; exact refTwo_1 a b w ha hb h1 h1' h2 hm hx
        · rw [min_r hm]
          by_cases hx : a.mx < b.mx
          · rw [max_l hx]; exact refTwo_2 a b w ha hb h1 h1' h2 hm hx
          · rw [max_r hx]; exact refTwo_3 a b w ha hb h1 h1' h2 hm hx
      · have e : cnt2 a.cnt b.cnt = a.cnt + b.cnt := by unfold cnt2; rw [if_neg h2]
        rw [e]
        by_cases hm : b.mn < a.mn
        · rw [min_l hm]
          by_cases hx : a.mx < b.mx
          · rw [max_l hx]; exact refTwo_4 a b w ha hb h1 h1' h2 hm hx
          · rw [max_r hx]; exact refTwo_5 a b w ha hb h1 h1' h2 hm hx
        · rw [min_r hm]
          by_cases hx : a.mx < b.mx
          · rw [max_l hx]; exact refTwo_6 a b w ha hb h1 h1' h2 hm hx
          · rw [max_r hx]; exact refTwo_7 a b w ha hb h1 h1' h2 hm hx
end Go.Proofs.Ytnpnikgbjdeboaa
