/- Carried over from earlier layers: walks and lemmas. -/
import Derived.Test.YthiofbohllmfbaaC1
namespace Go.Proofs.Ythiofbohllmfbaa.Ce
open Go Go.RowKit Cl
open St Sat
set_option maxRecDepth 100000 in
set_option maxHeartbeats 400000 in
theorem refFold_a (c : Cell) (v : Int) (w : World) (h : c.cnt < 1) :
    Calls Try.prog 24 #[.agg #[.int .i64 c.cnt, .int .i64 c.sn, .bool c.so, .int .i64 c.mn, .int .i64 c.mx], .int .i64 v] w fun e w' => e = .returned (.agg #[.int .i64 (fold c v).cnt, .int .i64 (fold c v).sn, .bool (fold c v).so, .int .i64 (fold c v).mn, .int .i64 (fold c v).mx]) ∧ Below w.heap.size w w' := by
  rw [fold_a v h]
  unfold one
  go_enter Try.func24, Try.ntmps24
  go_wp2_with fail
  exact bodyPost_ret (v := .agg #[.int .i64 (one v).cnt, .int .i64 (one v).sn, .bool (one v).so, .int .i64 (one v).mn, .int .i64 (one v).mx]) (by simp [results, Try.results24, go_sem, one]) rfl ⟨rfl, ((Below.refl _ _).alloc (Nat.le_refl _) _).alloc (by simp) _⟩
set_option maxRecDepth 100000 in
set_option maxHeartbeats 400000 in
theorem refFold_0 (c : Cell) (v : Int) (w : World) (hc : okC c) (hv : ok64 v) (h : 1 ≤ c.cnt) (h2 : c.cnt < 9223372036854775807) (hm : v < c.mn) (hx : c.mx < v) :
    Calls Try.prog 24 #[.agg #[.int .i64 c.cnt, .int .i64 c.sn, .bool c.so, .int .i64 c.mn, .int .i64 c.mx], .int .i64 v] w fun e w' => e = .returned (.agg #[.int .i64 (c.cnt + 1), .int .i64 (Sat.add c.sn c.so v false).1, .bool (Sat.add c.sn c.so v false).2, .int .i64 v, .int .i64 v]) ∧ Below w.heap.size w w' := by
  have h3 : ¬ c.cnt < 1 := by omega
  have k0 : c.cnt + 1 ≤ 9223372036854775807 := by omega
  have k1 : -9223372036854775808 ≤ c.cnt + 1 := by omega
  have H := Lib.hid (And.intro hc.2.1 hv)
  clear hc hv
  go_enter Try.func24, Try.ntmps24
  go_wp2_with fail
  refine (refAdd_any _ _ _ _ _ H.out.1.1 H.out.1.2 H.out.2.1 H.out.2.2).mono ?_
  rintro e w1 ⟨rfl, n1⟩
  obtain ⟨a0, a1, a2, a3, a4⟩ := ((Box.new w w.heap.size ⟨(c.cnt + 1), c.sn, c.so, c.mn, c.mx⟩ rfl).on (aBelow _ (.cells #[.int .i64 zero.cnt, .int .i64 zero.sn, .bool zero.so, .int .i64 zero.mn, .int .i64 zero.mx] 52))).on n1
  obtain ⟨f0, f1, f2, f3, f4⟩ := ((Free.new w w.heap.size ⟨(c.cnt + 1), c.sn, c.so, c.mn, c.mx⟩ rfl).on (by simp) (aBelow _ (.cells #[.int .i64 zero.cnt, .int .i64 zero.sn, .bool zero.so, .int .i64 zero.mn, .int .i64 zero.mx] 52))).on (by simp; omega) n1
  obtain ⟨r0, r1, r2, r3, r4⟩ := (Box.new (w.alloc (.cells #[.int .i64 (c.cnt + 1), .int .i64 c.sn, .bool c.so, .int .i64 c.mn, .int .i64 c.mx] 52)) (w.heap.size + 1) zero (by simp)).on n1
  obtain ⟨q0, q1, q2, q3, q4⟩ := (Free.new (w.alloc (.cells #[.int .i64 (c.cnt + 1), .int .i64 c.sn, .bool c.so, .int .i64 c.mn, .int .i64 c.mx] 52)) (w.heap.size + 1) zero (by simp)).on (by simp) n1
  have d1 := belowAlloc (belowAlloc n1)
  clear n1 H h h2 h3 k0 k1
  simp only [zero] at *
  go_wp2_with fail
  exact bodyPost_ret (v := .agg #[.int .i64 (c.cnt + 1), .int .i64 (Sat.add c.sn c.so v false).1, .bool (Sat.add c.sn c.so v false).2, .int .i64 v, .int .i64 v]) (by simp [results, Try.results24, go_sem, r0, r1, r2, r3, r4]) rfl ⟨rfl, by (repeat refine Below.setCell ?_ (by simp) _); exact d1⟩
set_option maxRecDepth 100000 in
set_option maxHeartbeats 400000 in
theorem refFold_1 (c : Cell) (v : Int) (w : World) (hc : okC c) (hv : ok64 v) (h : 1 ≤ c.cnt) (h2 : c.cnt < 9223372036854775807) (hm : v < c.mn) (hx : ¬ c.mx < v) :
    Calls Try.prog 24 #[.agg #[.int .i64 c.cnt, .int .i64 c.sn, .bool c.so, .int .i64 c.mn, .int .i64 c.mx], .int .i64 v] w fun e w' => e = .returned (.agg #[.int .i64 (c.cnt + 1), .int .i64 (Sat.add c.sn c.so v false).1, .bool (Sat.add c.sn c.so v false).2, .int .i64 v, .int .i64 c.mx]) ∧ Below w.heap.size w w' := by
  have h3 : ¬ c.cnt < 1 := by omega
  have k0 : c.cnt + 1 ≤ 9223372036854775807 := by omega
  have k1 : -9223372036854775808 ≤ c.cnt + 1 := by omega
  have H := Lib.hid (And.intro hc.2.1 hv)
  clear hc hv
  go_enter Try.func24, Try.ntmps24
  go_wp2_with fail
  refine (refAdd_any _ _ _ _ _ H.out.1.1 H.out.1.2 H.out.2.1 H.out.2.2).mono ?_
  rintro e w1 ⟨rfl, n1⟩
  obtain ⟨a0, a1, a2, a3, a4⟩ := ((Box.new w w.heap.size ⟨(c.cnt + 1), c.sn, c.so, c.mn, c.mx⟩ rfl).on (aBelow _ (.cells #[.int .i64 zero.cnt, .int .i64 zero.sn, .bool zero.so, .int .i64 zero.mn, .int .i64 zero.mx] 52))).on n1
  obtain ⟨f0, f1, f2, f3, f4⟩ := ((Free.new w w.heap.size ⟨(c.cnt + 1), c.sn, c.so, c.mn, c.mx⟩ rfl).on (by simp) (aBelow _ (.cells #[.int .i64 zero.cnt, .int .i64 zero.sn, .bool zero.so, .int .i64 zero.mn, .int .i64 zero.mx] 52))).on (by simp; omega) n1
  obtain ⟨r0, r1, r2, r3, r4⟩ := (Box.new (w.alloc (.cells #[.int .i64 (c.cnt + 1), .int .i64 c.sn, .bool c.so, .int .i64 c.mn, .int .i64 c.mx] 52)) (w.heap.size + 1) zero (by simp)).on n1
  obtain ⟨q0, q1, q2, q3, q4⟩ := (Free.new (w.alloc (.cells #[.int .i64 (c.cnt + 1), .int .i64 c.sn, .bool c.so, .int .i64 c.mn, .int .i64 c.mx] 52)) (w.heap.size + 1) zero (by simp)).on (by simp) n1
  have d1 := belowAlloc (belowAlloc n1)
  clear n1 H h h2 h3 k0 k1
  simp only [zero] at *
  go_wp2_with fail
  exact bodyPost_ret (v := .agg #[.int .i64 (c.cnt + 1), .int .i64 (Sat.add c.sn c.so v false).1, .bool (Sat.add c.sn c.so v false).2, .int .i64 v, .int .i64 c.mx]) (by simp [results, Try.results24, go_sem, r0, r1, r2, r3, r4]) rfl ⟨rfl, by (repeat refine Below.setCell ?_ (by simp) _); exact d1⟩
set_option maxRecDepth 100000 in
set_option maxHeartbeats 400000 in
theorem refFold_2 (c : Cell) (v : Int) (w : World) (hc : okC c) (hv : ok64 v) (h : 1 ≤ c.cnt) (h2 : c.cnt < 9223372036854775807) (hm : ¬ v < c.mn) (hx : c.mx < v) :
    Calls Try.prog 24 #[.agg #[.int .i64 c.cnt, .int .i64 c.sn, .bool c.so, .int .i64 c.mn, .int .i64 c.mx], .int .i64 v] w fun e w' => e = .returned (.agg #[.int .i64 (c.cnt + 1), .int .i64 (Sat.add c.sn c.so v false).1, .bool (Sat.add c.sn c.so v false).2, .int .i64 c.mn, .int .i64 v]) ∧ Below w.heap.size w w' := by
  have h3 : ¬ c.cnt < 1 := by omega
  have k0 : c.cnt + 1 ≤ 9223372036854775807 := by omega
  have k1 : -9223372036854775808 ≤ c.cnt + 1 := by omega
  have H := Lib.hid (And.intro hc.2.1 hv)
  clear hc hv
  go_enter Try.func24, Try.ntmps24
  go_wp2_with fail
  refine (refAdd_any _ _ _ _ _ H.out.1.1 H.out.1.2 H.out.2.1 H.out.2.2).mono ?_
  rintro e w1 ⟨rfl, n1⟩
  obtain ⟨a0, a1, a2, a3, a4⟩ := ((Box.new w w.heap.size ⟨(c.cnt + 1), c.sn, c.so, c.mn, c.mx⟩ rfl).on (aBelow _ (.cells #[.int .i64 zero.cnt, .int .i64 zero.sn, .bool zero.so, .int .i64 zero.mn, .int .i64 zero.mx] 52))).on n1
  obtain ⟨f0, f1, f2, f3, f4⟩ := ((Free.new w w.heap.size ⟨(c.cnt + 1), c.sn, c.so, c.mn, c.mx⟩ rfl).on (by simp) (aBelow _ (.cells #[.int .i64 zero.cnt, .int .i64 zero.sn, .bool zero.so, .int .i64 zero.mn, .int .i64 zero.mx] 52))).on (by simp; omega) n1
  obtain ⟨r0, r1, r2, r3, r4⟩ := (Box.new (w.alloc (.cells #[.int .i64 (c.cnt + 1), .int .i64 c.sn, .bool c.so, .int .i64 c.mn, .int .i64 c.mx] 52)) (w.heap.size + 1) zero (by simp)).on n1
  obtain ⟨q0, q1, q2, q3, q4⟩ := (Free.new (w.alloc (.cells #[.int .i64 (c.cnt + 1), .int .i64 c.sn, .bool c.so, .int .i64 c.mn, .int .i64 c.mx] 52)) (w.heap.size + 1) zero (by simp)).on (by simp) n1
  have d1 := belowAlloc (belowAlloc n1)
  clear n1 H h h2 h3 k0 k1
  simp only [zero] at *
  go_wp2_with fail
  exact bodyPost_ret (v := .agg #[.int .i64 (c.cnt + 1), .int .i64 (Sat.add c.sn c.so v false).1, .bool (Sat.add c.sn c.so v false).2, .int .i64 c.mn, .int .i64 v]) (by simp [results, Try.results24, go_sem, r0, r1, r2, r3, r4]) rfl ⟨rfl, by (repeat refine Below.setCell ?_ (by simp) _); exact d1⟩
set_option maxRecDepth 100000 in
set_option maxHeartbeats 400000 in
theorem refFold_3 (c : Cell) (v : Int) (w : World) (hc : okC c) (hv : ok64 v) (h : 1 ≤ c.cnt) (h2 : c.cnt < 9223372036854775807) (hm : ¬ v < c.mn) (hx : ¬ c.mx < v) :
    Calls Try.prog 24 #[.agg #[.int .i64 c.cnt, .int .i64 c.sn, .bool c.so, .int .i64 c.mn, .int .i64 c.mx], .int .i64 v] w fun e w' => e = .returned (.agg #[.int .i64 (c.cnt + 1), .int .i64 (Sat.add c.sn c.so v false).1, .bool (Sat.add c.sn c.so v false).2, .int .i64 c.mn, .int .i64 c.mx]) ∧ Below w.heap.size w w' := by
  have h3 : ¬ c.cnt < 1 := by omega
  have k0 : c.cnt + 1 ≤ 9223372036854775807 := by omega
  have k1 : -9223372036854775808 ≤ c.cnt + 1 := by omega
  have H := Lib.hid (And.intro hc.2.1 hv)
  clear hc hv
  go_enter Try.func24, Try.ntmps24
  go_wp2_with fail
  refine (refAdd_any _ _ _ _ _ H.out.1.1 H.out.1.2 H.out.2.1 H.out.2.2).mono ?_
  rintro e w1 ⟨rfl, n1⟩
  obtain ⟨a0, a1, a2, a3, a4⟩ := ((Box.new w w.heap.size ⟨(c.cnt + 1), c.sn, c.so, c.mn, c.mx⟩ rfl).on (aBelow _ (.cells #[.int .i64 zero.cnt, .int .i64 zero.sn, .bool zero.so, .int .i64 zero.mn, .int .i64 zero.mx] 52))).on n1
  obtain ⟨f0, f1, f2, f3, f4⟩ := ((Free.new w w.heap.size ⟨(c.cnt + 1), c.sn, c.so, c.mn, c.mx⟩ rfl).on (by simp) (aBelow _ (.cells #[.int .i64 zero.cnt, .int .i64 zero.sn, .bool zero.so, .int .i64 zero.mn, .int .i64 zero.mx] 52))).on (by simp; omega) n1
  obtain ⟨r0, r1, r2, r3, r4⟩ := (Box.new (w.alloc (.cells #[.int .i64 (c.cnt + 1), .int .i64 c.sn, .bool c.so, .int .i64 c.mn, .int .i64 c.mx] 52)) (w.heap.size + 1) zero (by simp)).on n1
  obtain ⟨q0, q1, q2, q3, q4⟩ := (Free.new (w.alloc (.cells #[.int .i64 (c.cnt + 1), .int .i64 c.sn, .bool c.so, .int .i64 c.mn, .int .i64 c.mx] 52)) (w.heap.size + 1) zero (by simp)).on (by simp) n1
  have d1 := belowAlloc (belowAlloc n1)
  clear n1 H h h2 h3 k0 k1
  simp only [zero] at *
  go_wp2_with fail
  exact bodyPost_ret (v := .agg #[.int .i64 (c.cnt + 1), .int .i64 (Sat.add c.sn c.so v false).1, .bool (Sat.add c.sn c.so v false).2, .int .i64 c.mn, .int .i64 c.mx]) (by simp [results, Try.results24, go_sem, r0, r1, r2, r3, r4]) rfl ⟨rfl, by (repeat refine Below.setCell ?_ (by simp) _); exact d1⟩
set_option maxRecDepth 100000 in
set_option maxHeartbeats 400000 in
theorem refFold_4 (c : Cell) (v : Int) (w : World) (hc : okC c) (hv : ok64 v) (_h : 1 ≤ c.cnt) (h2 : ¬ c.cnt < 9223372036854775807) (hm : v < c.mn) (hx : c.mx < v) :
    Calls Try.prog 24 #[.agg #[.int .i64 c.cnt, .int .i64 c.sn, .bool c.so, .int .i64 c.mn, .int .i64 c.mx], .int .i64 v] w fun e w' => e = .returned (.agg #[.int .i64 c.cnt, .int .i64 (Sat.add c.sn c.so v false).1, .bool (Sat.add c.sn c.so v false).2, .int .i64 v, .int .i64 v]) ∧ Below w.heap.size w w' := by
  have h3 : ¬ c.cnt < 1 := by omega
  have H := Lib.hid (And.intro hc.2.1 hv)
  clear hc hv
  go_enter Try.func24, Try.ntmps24
  go_wp2_with fail
  refine (refAdd_any _ _ _ _ _ H.out.1.1 H.out.1.2 H.out.2.1 H.out.2.2).mono ?_
  rintro e w1 ⟨rfl, n1⟩
  obtain ⟨a0, a1, a2, a3, a4⟩ := ((Box.new w w.heap.size ⟨c.cnt, c.sn, c.so, c.mn, c.mx⟩ rfl).on (aBelow _ (.cells #[.int .i64 zero.cnt, .int .i64 zero.sn, .bool zero.so, .int .i64 zero.mn, .int .i64 zero.mx] 52))).on n1
  obtain ⟨f0, f1, f2, f3, f4⟩ := ((Free.new w w.heap.size ⟨c.cnt, c.sn, c.so, c.mn, c.mx⟩ rfl).on (by simp) (aBelow _ (.cells #[.int .i64 zero.cnt, .int .i64 zero.sn, .bool zero.so, .int .i64 zero.mn, .int .i64 zero.mx] 52))).on (by simp; omega) n1
  obtain ⟨r0, r1, r2, r3, r4⟩ := (Box.new (w.alloc (.cells #[.int .i64 c.cnt, .int .i64 c.sn, .bool c.so, .int .i64 c.mn, .int .i64 c.mx] 52)) (w.heap.size + 1) zero (by simp)).on n1
  obtain ⟨q0, q1, q2, q3, q4⟩ := (Free.new (w.alloc (.cells #[.int .i64 c.cnt, .int .i64 c.sn, .bool c.so, .int .i64 c.mn, .int .i64 c.mx] 52)) (w.heap.size + 1) zero (by simp)).on (by simp) n1
  have d1 := belowAlloc (belowAlloc n1)
  clear n1 H _h h2 h3
  simp only [zero] at *
  go_wp2_with fail
  exact bodyPost_ret (v := .agg #[.int .i64 c.cnt, .int .i64 (Sat.add c.sn c.so v false).1, .bool (Sat.add c.sn c.so v false).2, .int .i64 v, .int .i64 v]) (by simp [results, Try.results24, go_sem, r0, r1, r2, r3, r4]) rfl ⟨rfl, by (repeat refine Below.setCell ?_ (by simp) _); exact d1⟩
set_option maxRecDepth 100000 in
set_option maxHeartbeats 400000 in
theorem refFold_5 (c : Cell) (v : Int) (w : World) (hc : okC c) (hv : ok64 v) (_h : 1 ≤ c.cnt) (h2 : ¬ c.cnt < 9223372036854775807) (hm : v < c.mn) (hx : ¬ c.mx < v) :
    Calls Try.prog 24 #[.agg #[.int .i64 c.cnt, .int .i64 c.sn, .bool c.so, .int .i64 c.mn, .int .i64 c.mx], .int .i64 v] w fun e w' => e = .returned (.agg #[.int .i64 c.cnt, .int .i64 (Sat.add c.sn c.so v false).1, .bool (Sat.add c.sn c.so v false).2, .int .i64 v, .int .i64 c.mx]) ∧ Below w.heap.size w w' := by
  have h3 : ¬ c.cnt < 1 := by omega
  have H := Lib.hid (And.intro hc.2.1 hv)
  clear hc hv
  go_enter Try.func24, Try.ntmps24
  go_wp2_with fail
  refine (refAdd_any _ _ _ _ _ H.out.1.1 H.out.1.2 H.out.2.1 H.out.2.2).mono ?_
  rintro e w1 ⟨rfl, n1⟩
  obtain ⟨a0, a1, a2, a3, a4⟩ := ((Box.new w w.heap.size ⟨c.cnt, c.sn, c.so, c.mn, c.mx⟩ rfl).on (aBelow _ (.cells #[.int .i64 zero.cnt, .int .i64 zero.sn, .bool zero.so, .int .i64 zero.mn, .int .i64 zero.mx] 52))).on n1
  obtain ⟨f0, f1, f2, f3, f4⟩ := ((Free.new w w.heap.size ⟨c.cnt, c.sn, c.so, c.mn, c.mx⟩ rfl).on (by simp) (aBelow _ (.cells #[.int .i64 zero.cnt, .int .i64 zero.sn, .bool zero.so, .int .i64 zero.mn, .int .i64 zero.mx] 52))).on (by simp; omega) n1
  obtain ⟨r0, r1, r2, r3, r4⟩ := (Box.new (w.alloc (.cells #[.int .i64 c.cnt, .int .i64 c.sn, .bool c.so, .int .i64 c.mn, .int .i64 c.mx] 52)) (w.heap.size + 1) zero (by simp)).on n1
  obtain ⟨q0, q1, q2, q3, q4⟩ := (Free.new (w.alloc (.cells #[.int .i64 c.cnt, .int .i64 c.sn, .bool c.so, .int .i64 c.mn, .int .i64 c.mx] 52)) (w.heap.size + 1) zero (by simp)).on (by simp) n1
  have d1 := belowAlloc (belowAlloc n1)
  clear n1 H _h h2 h3
  simp only [zero] at *
  go_wp2_with fail
  exact bodyPost_ret (v := .agg #[.int .i64 c.cnt, .int .i64 (Sat.add c.sn c.so v false).1, .bool (Sat.add c.sn c.so v false).2, .int .i64 v, .int .i64 c.mx]) (by simp [results, Try.results24, go_sem, r0, r1, r2, r3, r4]) rfl ⟨rfl, by (repeat refine Below.setCell ?_ (by simp) _); exact d1⟩
set_option maxRecDepth 100000 in
set_option maxHeartbeats 400000 in
theorem refFold_6 (c : Cell) (v : Int) (w : World) (hc : okC c) (hv : ok64 v) (_h : 1 ≤ c.cnt) (h2 : ¬ c.cnt < 9223372036854775807) (hm : ¬ v < c.mn) (hx : c.mx < v) :
    Calls Try.prog 24 #[.agg #[.int .i64 c.cnt, .int .i64 c.sn, .bool c.so, .int .i64 c.mn, .int .i64 c.mx], .int .i64 v] w fun e w' => e = .returned (.agg #[.int .i64 c.cnt, .int .i64 (Sat.add c.sn c.so v false).1, .bool (Sat.add c.sn c.so v false).2, .int .i64 c.mn, .int .i64 v]) ∧ Below w.heap.size w w' := by
  have h3 : ¬ c.cnt < 1 := by omega
  have H := Lib.hid (And.intro hc.2.1 hv)
  clear hc hv
  go_enter Try.func24, Try.ntmps24
  go_wp2_with fail
  refine (refAdd_any _ _ _ _ _ H.out.1.1 H.out.1.2 H.out.2.1 H.out.2.2).mono ?_
  rintro e w1 ⟨rfl, n1⟩
  obtain ⟨a0, a1, a2, a3, a4⟩ := ((Box.new w w.heap.size ⟨c.cnt, c.sn, c.so, c.mn, c.mx⟩ rfl).on (aBelow _ (.cells #[.int .i64 zero.cnt, .int .i64 zero.sn, .bool zero.so, .int .i64 zero.mn, .int .i64 zero.mx] 52))).on n1
  obtain ⟨f0, f1, f2, f3, f4⟩ := ((Free.new w w.heap.size ⟨c.cnt, c.sn, c.so, c.mn, c.mx⟩ rfl).on (by simp) (aBelow _ (.cells #[.int .i64 zero.cnt, .int .i64 zero.sn, .bool zero.so, .int .i64 zero.mn, .int .i64 zero.mx] 52))).on (by simp; omega) n1
  obtain ⟨r0, r1, r2, r3, r4⟩ := (Box.new (w.alloc (.cells #[.int .i64 c.cnt, .int .i64 c.sn, .bool c.so, .int .i64 c.mn, .int .i64 c.mx] 52)) (w.heap.size + 1) zero (by simp)).on n1
  obtain ⟨q0, q1, q2, q3, q4⟩ := (Free.new (w.alloc (.cells #[.int .i64 c.cnt, .int .i64 c.sn, .bool c.so, .int .i64 c.mn, .int .i64 c.mx] 52)) (w.heap.size + 1) zero (by simp)).on (by simp) n1
  have d1 := belowAlloc (belowAlloc n1)
  clear n1 H _h h2 h3
  simp only [zero] at *
  go_wp2_with fail
  exact bodyPost_ret (v := .agg #[.int .i64 c.cnt, .int .i64 (Sat.add c.sn c.so v false).1, .bool (Sat.add c.sn c.so v false).2, .int .i64 c.mn, .int .i64 v]) (by simp [results, Try.results24, go_sem, r0, r1, r2, r3, r4]) rfl ⟨rfl, by (repeat refine Below.setCell ?_ (by simp) _); exact d1⟩
set_option maxRecDepth 100000 in
set_option maxHeartbeats 400000 in
theorem refFold_7 (c : Cell) (v : Int) (w : World) (hc : okC c) (hv : ok64 v) (_h : 1 ≤ c.cnt) (h2 : ¬ c.cnt < 9223372036854775807) (hm : ¬ v < c.mn) (hx : ¬ c.mx < v) :
    Calls Try.prog 24 #[.agg #[.int .i64 c.cnt, .int .i64 c.sn, .bool c.so, .int .i64 c.mn, .int .i64 c.mx], .int .i64 v] w fun e w' => e = .returned (.agg #[.int .i64 c.cnt, .int .i64 (Sat.add c.sn c.so v false).1, .bool (Sat.add c.sn c.so v false).2, .int .i64 c.mn, .int .i64 c.mx]) ∧ Below w.heap.size w w' := by
  have h3 : ¬ c.cnt < 1 := by omega
  have H := Lib.hid (And.intro hc.2.1 hv)
  clear hc hv
  go_enter Try.func24, Try.ntmps24
  go_wp2_with fail
  refine (refAdd_any _ _ _ _ _ H.out.1.1 H.out.1.2 H.out.2.1 H.out.2.2).mono ?_
  rintro e w1 ⟨rfl, n1⟩
  obtain ⟨a0, a1, a2, a3, a4⟩ := ((Box.new w w.heap.size ⟨c.cnt, c.sn, c.so, c.mn, c.mx⟩ rfl).on (aBelow _ (.cells #[.int .i64 zero.cnt, .int .i64 zero.sn, .bool zero.so, .int .i64 zero.mn, .int .i64 zero.mx] 52))).on n1
  obtain ⟨f0, f1, f2, f3, f4⟩ := ((Free.new w w.heap.size ⟨c.cnt, c.sn, c.so, c.mn, c.mx⟩ rfl).on (by simp) (aBelow _ (.cells #[.int .i64 zero.cnt, .int .i64 zero.sn, .bool zero.so, .int .i64 zero.mn, .int .i64 zero.mx] 52))).on (by simp; omega) n1
  obtain ⟨r0, r1, r2, r3, r4⟩ := (Box.new (w.alloc (.cells #[.int .i64 c.cnt, .int .i64 c.sn, .bool c.so, .int .i64 c.mn, .int .i64 c.mx] 52)) (w.heap.size + 1) zero (by simp)).on n1
  obtain ⟨q0, q1, q2, q3, q4⟩ := (Free.new (w.alloc (.cells #[.int .i64 c.cnt, .int .i64 c.sn, .bool c.so, .int .i64 c.mn, .int .i64 c.mx] 52)) (w.heap.size + 1) zero (by simp)).on (by simp) n1
  have d1 := belowAlloc (belowAlloc n1)
  clear n1 H _h h2 h3
  simp only [zero] at *
  go_wp2_with fail
  exact bodyPost_ret (v := .agg #[.int .i64 c.cnt, .int .i64 (Sat.add c.sn c.so v false).1, .bool (Sat.add c.sn c.so v false).2, .int .i64 c.mn, .int .i64 c.mx]) (by simp [results, Try.results24, go_sem, r0, r1, r2, r3, r4]) rfl ⟨rfl, by (repeat refine Below.setCell ?_ (by simp) _); exact d1⟩
theorem min_l {a b : Int} (h : b < a) : min a b = b := by omega
theorem min_r {a b : Int} (h : ¬ b < a) : min a b = a := by omega
theorem max_l {a b : Int} (h : a < b) : max a b = b := by omega
theorem max_r {a b : Int} (h : ¬ a < b) : max a b = a := by omega
/-- The document's fold is the fold. -/
theorem refFold_any (c : Cell) (v : Int) (w : World) (hc : okC c) (hv : ok64 v) :
    Calls Try.prog 24 #[.agg #[.int .i64 c.cnt, .int .i64 c.sn, .bool c.so, .int .i64 c.mn, .int .i64 c.mx], .int .i64 v] w fun e w' => e = .returned (.agg #[.int .i64 (fold c v).cnt, .int .i64 (fold c v).sn, .bool (fold c v).so, .int .i64 (fold c v).mn, .int .i64 (fold c v).mx]) ∧ Below w.heap.size w w' := by
  by_cases h : c.cnt < 1
  · exact refFold_a c v w h
  · have h1 : 1 ≤ c.cnt := by omega
    have hc1 := hc.1.2
    rw [fold_ab v h]
    show Calls Try.prog 24 #[.agg #[.int .i64 c.cnt, .int .i64 c.sn, .bool c.so, .int .i64 c.mn, .int .i64 c.mx], .int .i64 v] w fun e w' => e = .returned (.agg #[.int .i64 (cnt2 c.cnt 1), .int .i64 (Sat.add c.sn c.so v false).1, .bool (Sat.add c.sn c.so v false).2, .int .i64 (min c.mn v), .int .i64 (max c.mx v)]) ∧ Below w.heap.size w w'
    by_cases h2 : c.cnt < 9223372036854775807
    · have e : cnt2 c.cnt 1 = c.cnt + 1 := by unfold cnt2; rw [if_neg (by omega)]
      rw [e]
      by_cases hm : v < c.mn
      · rw [min_l hm]
        by_cases hx : c.mx < v
        · rw [max_l hx]; exact refFold_0 c v w hc hv h1 h2 hm hx
        · rw [max_r hx]; exact refFold_1 c v w hc hv h1 h2 hm hx
      · rw [min_r hm]
        by_cases hx : c.mx < v
        · rw [max_l hx]; exact refFold_2 c v w hc hv h1 h2 hm hx
        · rw [max_r hx]; exact refFold_3 c v w hc hv h1 h2 hm hx
    · have e : cnt2 c.cnt 1 = c.cnt := by unfold cnt2; rw [if_pos (by omega)]; omega
      rw [e]
      by_cases hm : v < c.mn
      · rw [min_l hm]
        by_cases hx : c.mx < v
        · rw [max_l hx]; exact refFold_4 c v w hc hv h1 h2 hm hx
        · rw [max_r hx]; exact refFold_5 c v w hc hv h1 h2 hm hx
      · rw [min_r hm]
        by_cases hx : c.mx < v
        · rw [max_l hx]; exact refFold_6 c v w hc hv h1 h2 hm hx
        · rw [max_r hx]; exact refFold_7 c v w hc hv h1 h2 hm hx
end Go.Proofs.Ythiofbohllmfbaa.Ce
namespace Go.Proofs.Ythiofbohllmfbaa.Ce
open Go Go.RowKit Cl
open St Sat
end Go.Proofs.Ythiofbohllmfbaa.Ce
