/- Carried over from earlier layers: walks and lemmas. -/
import Derived.Test.YtidkpalckafgkaaGreatDoorC1
namespace Go.Proofs.YtidkpalckafgkaaGreatDoor.Ce
open Go Go.RowKit Cl
open St Sat
set_option maxRecDepth 100000 in
set_option maxHeartbeats 400000 in
theorem refFold_a (c : Cell) (v : Int) (w : World) (h : c.cnt < 1) :
    Calls Tryz.prog 63 #[.agg #[.int .i64 c.cnt, .int .i64 c.sn, .bool c.so, .int .i64 c.mn, .int .i64 c.mx], .int .i64 v] w fun e w' => e = .returned (.agg #[.int .i64 (fold c v).cnt, .int .i64 (fold c v).sn, .bool (fold c v).so, .int .i64 (fold c v).mn, .int .i64 (fold c v).mx]) ∧ Below w.heap.size w w' := by
  rw [fold_a v h]
  unfold one
  go_enter Tryz.func63, Tryz.ntmps63
  go_wp2_with fail
  exact bodyPost_ret (v := .agg #[.int .i64 (one v).cnt, .int .i64 (one v).sn, .bool (one v).so, .int .i64 (one v).mn, .int .i64 (one v).mx]) (by simp [results, Tryz.results63, go_sem, one]) rfl ⟨rfl, ((Below.refl _ _).alloc (Nat.le_refl _) _).alloc (by simp) _⟩
set_option maxRecDepth 100000 in
set_option maxHeartbeats 400000 in
theorem refFold_0 (c : Cell) (v : Int) (w : World) (hc : okC c) (hv : ok64 v) (h : 1 ≤ c.cnt) (h2 : c.cnt < 9223372036854775807) (hm : v < c.mn) (hx : c.mx < v) :
    Calls Tryz.prog 63 #[.agg #[.int .i64 c.cnt, .int .i64 c.sn, .bool c.so, .int .i64 c.mn, .int .i64 c.mx], .int .i64 v] w fun e w' => e = .returned (.agg #[.int .i64 (c.cnt + 1), .int .i64 (Sat.add c.sn c.so v false).1, .bool (Sat.add c.sn c.so v false).2, .int .i64 v, .int .i64 v]) ∧ Below w.heap.size w w' := by
  have h3 : ¬ c.cnt < 1 := by omega
  have k0 : c.cnt + 1 ≤ 9223372036854775807 := by omega
  have k1 : -9223372036854775808 ≤ c.cnt + 1 := by omega
  have H := Lib.hid (And.intro hc.2.1 hv)
  clear hc hv
  go_enter Tryz.func63, Tryz.ntmps63
  go_wp2_with fail
  refine (refAdd_any _ _ _ _ _ H.out.1.1 H.out.1.2 H.out.2.1 H.out.2.2).mono ?_
  rintro e w1 ⟨rfl, n1⟩
  obtain ⟨a0, a1, a2, a3, a4⟩ := ((Box.new w w.heap.size ⟨(c.cnt + 1), c.sn, c.so, c.mn, c.mx⟩ rfl).on (aBelow _ (.cells #[.int .i64 zero.cnt, .int .i64 zero.sn, .bool zero.so, .int .i64 zero.mn, .int .i64 zero.mx] 48))).on n1
  obtain ⟨f0, f1, f2, f3, f4⟩ := ((Free.new w w.heap.size ⟨(c.cnt + 1), c.sn, c.so, c.mn, c.mx⟩ rfl).on (by simp) (aBelow _ (.cells #[.int .i64 zero.cnt, .int .i64 zero.sn, .bool zero.so, .int .i64 zero.mn, .int .i64 zero.mx] 48))).on (by simp; omega) n1
  obtain ⟨r0, r1, r2, r3, r4⟩ := (Box.new (w.alloc (.cells #[.int .i64 (c.cnt + 1), .int .i64 c.sn, .bool c.so, .int .i64 c.mn, .int .i64 c.mx] 48)) (w.heap.size + 1) zero (by simp)).on n1
  obtain ⟨q0, q1, q2, q3, q4⟩ := (Free.new (w.alloc (.cells #[.int .i64 (c.cnt + 1), .int .i64 c.sn, .bool c.so, .int .i64 c.mn, .int .i64 c.mx] 48)) (w.heap.size + 1) zero (by simp)).on (by simp) n1
  have d1 := belowAlloc (belowAlloc n1)
  clear n1 H h h2 h3 k0 k1
  simp only [zero] at *
  go_wp2_with fail
  exact bodyPost_ret (v := .agg #[.int .i64 (c.cnt + 1), .int .i64 (Sat.add c.sn c.so v false).1, .bool (Sat.add c.sn c.so v false).2, .int .i64 v, .int .i64 v]) (by simp [results, Tryz.results63, go_sem, r0, r1, r2, r3, r4]) rfl ⟨rfl, by (repeat refine Below.setCell ?_ (by simp) _); exact d1⟩
set_option maxRecDepth 100000 in
set_option maxHeartbeats 400000 in
theorem refFold_1 (c : Cell) (v : Int) (w : World) (hc : okC c) (hv : ok64 v) (h : 1 ≤ c.cnt) (h2 : c.cnt < 9223372036854775807) (hm : v < c.mn) (hx : ¬ c.mx < v) :
    Calls Tryz.prog 63 #[.agg #[.int .i64 c.cnt, .int .i64 c.sn, .bool c.so, .int .i64 c.mn, .int .i64 c.mx], .int .i64 v] w fun e w' => e = .returned (.agg #[.int .i64 (c.cnt + 1), .int .i64 (Sat.add c.sn c.so v false).1, .bool (Sat.add c.sn c.so v false).2, .int .i64 v, .int .i64 c.mx]) ∧ Below w.heap.size w w' := by
  have h3 : ¬ c.cnt < 1 := by omega
  have k0 : c.cnt + 1 ≤ 9223372036854775807 := by omega
  have k1 : -9223372036854775808 ≤ c.cnt + 1 := by omega
  have H := Lib.hid (And.intro hc.2.1 hv)
  clear hc hv
  go_enter Tryz.func63, Tryz.ntmps63
  go_wp2_with fail
  refine (refAdd_any _ _ _ _ _ H.out.1.1 H.out.1.2 H.out.2.1 H.out.2.2).mono ?_
  rintro e w1 ⟨rfl, n1⟩
  obtain ⟨a0, a1, a2, a3, a4⟩ := ((Box.new w w.heap.size ⟨(c.cnt + 1), c.sn, c.so, c.mn, c.mx⟩ rfl).on (aBelow _ (.cells #[.int .i64 zero.cnt, .int .i64 zero.sn, .bool zero.so, .int .i64 zero.mn, .int .i64 zero.mx] 48))).on n1
  obtain ⟨f0, f1, f2, f3, f4⟩ := ((Free.new w w.heap.size ⟨(c.cnt + 1), c.sn, c.so, c.mn, c.mx⟩ rfl).on (by simp) (aBelow _ (.cells #[.int .i64 zero.cnt, .int .i64 zero.sn, .bool zero.so, .int .i64 zero.mn, .int .i64 zero.mx] 48))).on (by simp; omega) n1
  obtain ⟨r0, r1, r2, r3, r4⟩ := (Box.new (w.alloc (.cells #[.int .i64 (c.cnt + 1), .int .i64 c.sn, .bool c.so, .int .i64 c.mn, .int .i64 c.mx] 48)) (w.heap.size + 1) zero (by simp)).on n1
  obtain ⟨q0, q1, q2, q3, q4⟩ := (Free.new (w.alloc (.cells #[.int .i64 (c.cnt + 1), .int .i64 c.sn, .bool c.so, .int .i64 c.mn, .int .i64 c.mx] 48)) (w.heap.size + 1) zero (by simp)).on (by simp) n1
  have d1 := belowAlloc (belowAlloc n1)
  clear n1 H h h2 h3 k0 k1
  simp only [zero] at *
  go_wp2_with fail
  exact bodyPost_ret (v := .agg #[.int .i64 (c.cnt + 1), .int .i64 (Sat.add c.sn c.so v false).1, .bool (Sat.add c.sn c.so v false).2, .int .i64 v, .int .i64 c.mx]) (by simp [results, Tryz.results63, go_sem, r0, r1, r2, r3, r4]) rfl ⟨rfl, by (repeat refine Below.setCell ?_ (by simp) _); exact d1⟩
set_option maxRecDepth 100000 in
set_option maxHeartbeats 400000 in
theorem refFold_2 (c : Cell) (v : Int) (w : World) (hc : okC c) (hv : ok64 v) (h : 1 ≤ c.cnt) (h2 : c.cnt < 9223372036854775807) (hm : ¬ v < c.mn) (hx : c.mx < v) :
    Calls Tryz.prog 63 #[.agg #[.int .i64 c.cnt, .int .i64 c.sn, .bool c.so, .int .i64 c.mn, .int .i64 c.mx], .int .i64 v] w fun e w' => e = .returned (.agg #[.int .i64 (c.cnt + 1), .int .i64 (Sat.add c.sn c.so v false).1, .bool (Sat.add c.sn c.so v false).2, .int .i64 c.mn, .int .i64 v]) ∧ Below w.heap.size w w' := by
  have h3 : ¬ c.cnt < 1 := by omega
  have k0 : c.cnt + 1 ≤ 9223372036854775807 := by omega
  have k1 : -9223372036854775808 ≤ c.cnt + 1 := by omega
  have H := Lib.hid (And.intro hc.2.1 hv)
  clear hc hv
  go_enter Tryz.func63, Tryz.ntmps63
  go_wp2_with fail
  refine (refAdd_any _ _ _ _ _ H.out.1.1 H.out.1.2 H.out.2.1 H.out.2.2).mono ?_
  rintro e w1 ⟨rfl, n1⟩
  obtain ⟨a0, a1, a2, a3, a4⟩ := ((Box.new w w.heap.size ⟨(c.cnt + 1), c.sn, c.so, c.mn, c.mx⟩ rfl).on (aBelow _ (.cells #[.int .i64 zero.cnt, .int .i64 zero.sn, .bool zero.so, .int .i64 zero.mn, .int .i64 zero.mx] 48))).on n1
  obtain ⟨f0, f1, f2, f3, f4⟩ := ((Free.new w w.heap.size ⟨(c.cnt + 1), c.sn, c.so, c.mn, c.mx⟩ rfl).on (by simp) (aBelow _ (.cells #[.int .i64 zero.cnt, .int .i64 zero.sn, .bool zero.so, .int .i64 zero.mn, .int .i64 zero.mx] 48))).on (by simp; omega) n1
  obtain ⟨r0, r1, r2, r3, r4⟩ := (Box.new (w.alloc (.cells #[.int .i64 (c.cnt + 1), .int .i64 c.sn, .bool c.so, .int .i64 c.mn, .int .i64 c.mx] 48)) (w.heap.size + 1) zero (by simp)).on n1
  obtain ⟨q0, q1, q2, q3, q4⟩ := (Free.new (w.alloc (.cells #[.int .i64 (c.cnt + 1), .int .i64 c.sn, .bool c.so, .int .i64 c.mn, .int .i64 c.mx] 48)) (w.heap.size + 1) zero (by simp)).on (by simp) n1
  have d1 := belowAlloc (belowAlloc n1)
  clear n1 H h h2 h3 k0 k1
  simp only [zero] at *
  go_wp2_with fail
  exact bodyPost_ret (v := .agg #[.int .i64 (c.cnt + 1), .int .i64 (Sat.add c.sn c.so v false).1, .bool (Sat.add c.sn c.so v false).2, .int .i64 c.mn, .int .i64 v]) (by simp [results, Tryz.results63, go_sem, r0, r1, r2, r3, r4]) rfl ⟨rfl, by (repeat refine Below.setCell ?_ (by simp) _); exact d1⟩
set_option maxRecDepth 100000 in
set_option maxHeartbeats 400000 in
theorem refFold_3 (c : Cell) (v : Int) (w : World) (hc : okC c) (hv : ok64 v) (h : 1 ≤ c.cnt) (h2 : c.cnt < 9223372036854775807) (hm : ¬ v < c.mn) (hx : ¬ c.mx < v) :
    Calls Tryz.prog 63 #[.agg #[.int .i64 c.cnt, .int .i64 c.sn, .bool c.so, .int .i64 c.mn, .int .i64 c.mx], .int .i64 v] w fun e w' => e = .returned (.agg #[.int .i64 (c.cnt + 1), .int .i64 (Sat.add c.sn c.so v false).1, .bool (Sat.add c.sn c.so v false).2, .int .i64 c.mn, .int .i64 c.mx]) ∧ Below w.heap.size w w' := by
  have h3 : ¬ c.cnt < 1 := by omega
  have k0 : c.cnt + 1 ≤ 9223372036854775807 := by omega
  have k1 : -9223372036854775808 ≤ c.cnt + 1 := by omega
  have H := Lib.hid (And.intro hc.2.1 hv)
  clear hc hv
  go_enter Tryz.func63, Tryz.ntmps63
  go_wp2_with fail
  refine (refAdd_any _ _ _ _ _ H.out.1.1 H.out.1.2 H.out.2.1 H.out.2.2).mono ?_
  rintro e w1 ⟨rfl, n1⟩
  obtain ⟨a0, a1, a2, a3, a4⟩ := ((Box.new w w.heap.size ⟨(c.cnt + 1), c.sn, c.so, c.mn, c.mx⟩ rfl).on (aBelow _ (.cells #[.int .i64 zero.cnt, .int .i64 zero.sn, .bool zero.so, .int .i64 zero.mn, .int .i64 zero.mx] 48))).on n1
  obtain ⟨f0, f1, f2, f3, f4⟩ := ((Free.new w w.heap.size ⟨(c.cnt + 1), c.sn, c.so, c.mn, c.mx⟩ rfl).on (by simp) (aBelow _ (.cells #[.int .i64 zero.cnt, .int .i64 zero.sn, .bool zero.so, .int .i64 zero.mn, .int .i64 zero.mx] 48))).on (by simp; omega) n1
  obtain ⟨r0, r1, r2, r3, r4⟩ := (Box.new (w.alloc (.cells #[.int .i64 (c.cnt + 1), .int .i64 c.sn, .bool c.so, .int .i64 c.mn, .int .i64 c.mx] 48)) (w.heap.size + 1) zero (by simp)).on n1
  obtain ⟨q0, q1, q2, q3, q4⟩ := (Free.new (w.alloc (.cells #[.int .i64 (c.cnt + 1), .int .i64 c.sn, .bool c.so, .int .i64 c.mn, .int .i64 c.mx] 48)) (w.heap.size + 1) zero (by simp)).on (by simp) n1
  have d1 := belowAlloc (belowAlloc n1)
  clear n1 H h h2 h3 k0 k1
  simp only [zero] at *
  go_wp2_with fail
  exact bodyPost_ret (v := .agg #[.int .i64 (c.cnt + 1), .int .i64 (Sat.add c.sn c.so v false).1, .bool (Sat.add c.sn c.so v false).2, .int .i64 c.mn, .int .i64 c.mx]) (by simp [results, Tryz.results63, go_sem, r0, r1, r2, r3, r4]) rfl ⟨rfl, by (repeat refine Below.setCell ?_ (by simp) _); exact d1⟩
set_option maxRecDepth 100000 in
set_option maxHeartbeats 400000 in
theorem refFold_4 (c : Cell) (v : Int) (w : World) (hc : okC c) (hv : ok64 v) (_h : 1 ≤ c.cnt) (h2 : ¬ c.cnt < 9223372036854775807) (hm : v < c.mn) (hx : c.mx < v) :
    Calls Tryz.prog 63 #[.agg #[.int .i64 c.cnt, .int .i64 c.sn, .bool c.so, .int .i64 c.mn, .int .i64 c.mx], .int .i64 v] w fun e w' => e = .returned (.agg #[.int .i64 c.cnt, .int .i64 (Sat.add c.sn c.so v false).1, .bool (Sat.add c.sn c.so v false).2, .int .i64 v, .int .i64 v]) ∧ Below w.heap.size w w' := by
  have h3 : ¬ c.cnt < 1 := by omega
  have H := Lib.hid (And.intro hc.2.1 hv)
  clear hc hv
  go_enter Tryz.func63, Tryz.ntmps63
  go_wp2_with fail
  refine (refAdd_any _ _ _ _ _ H.out.1.1 H.out.1.2 H.out.2.1 H.out.2.2).mono ?_
  rintro e w1 ⟨rfl, n1⟩
  obtain ⟨a0, a1, a2, a3, a4⟩ := ((Box.new w w.heap.size ⟨c.cnt, c.sn, c.so, c.mn, c.mx⟩ rfl).on (aBelow _ (.cells #[.int .i64 zero.cnt, .int .i64 zero.sn, .bool zero.so, .int .i64 zero.mn, .int .i64 zero.mx] 48))).on n1
  obtain ⟨f0, f1, f2, f3, f4⟩ := ((Free.new w w.heap.size ⟨c.cnt, c.sn, c.so, c.mn, c.mx⟩ rfl).on (by simp) (aBelow _ (.cells #[.int .i64 zero.cnt, .int .i64 zero.sn, .bool zero.so, .int .i64 zero.mn, .int .i64 zero.mx] 48))).on (by simp; omega) n1
  obtain ⟨r0, r1, r2, r3, r4⟩ := (Box.new (w.alloc (.cells #[.int .i64 c.cnt, .int .i64 c.sn, .bool c.so, .int .i64 c.mn, .int .i64 c.mx] 48)) (w.heap.size + 1) zero (by simp)).on n1
  obtain ⟨q0, q1, q2, q3, q4⟩ := (Free.new (w.alloc (.cells #[.int .i64 c.cnt, .int .i64 c.sn, .bool c.so, .int .i64 c.mn, .int .i64 c.mx] 48)) (w.heap.size + 1) zero (by simp)).on (by simp) n1
  have d1 := belowAlloc (belowAlloc n1)
  clear n1 H _h h2 h3
  simp only [zero] at *
  go_wp2_with fail
  exact bodyPost_ret (v := .agg #[.int .i64 c.cnt, .int .i64 (Sat.add c.sn c.so v false).1, .bool (Sat.add c.sn c.so v false).2, .int .i64 v, .int .i64 v]) (by simp [results, Tryz.results63, go_sem, r0, r1, r2, r3, r4]) rfl ⟨rfl, by (repeat refine Below.setCell ?_ (by simp) _); exact d1⟩
set_option maxRecDepth 100000 in
set_option maxHeartbeats 400000 in
theorem refFold_5 (c : Cell) (v : Int) (w : World) (hc : okC c) (hv : ok64 v) (_h : 1 ≤ c.cnt) (h2 : ¬ c.cnt < 9223372036854775807) (hm : v < c.mn) (hx : ¬ c.mx < v) :
    Calls Tryz.prog 63 #[.agg #[.int .i64 c.cnt, .int .i64 c.sn, .bool c.so, .int .i64 c.mn, .int .i64 c.mx], .int .i64 v] w fun e w' => e = .returned (.agg #[.int .i64 c.cnt, .int .i64 (Sat.add c.sn c.so v false).1, .bool (Sat.add c.sn c.so v false).2, .int .i64 v, .int .i64 c.mx]) ∧ Below w.heap.size w w' := by
  have h3 : ¬ c.cnt < 1 := by omega
  have H := Lib.hid (And.intro hc.2.1 hv)
  clear hc hv
  go_enter Tryz.func63, Tryz.ntmps63
  go_wp2_with fail
  refine (refAdd_any _ _ _ _ _ H.out.1.1 H.out.1.2 H.out.2.1 H.out.2.2).mono ?_
  rintro e w1 ⟨rfl, n1⟩
  obtain ⟨a0, a1, a2, a3, a4⟩ := ((Box.new w w.heap.size ⟨c.cnt, c.sn, c.so, c.mn, c.mx⟩ rfl).on (aBelow _ (.cells #[.int .i64 zero.cnt, .int .i64 zero.sn, .bool zero.so, .int .i64 zero.mn, .int .i64 zero.mx] 48))).on n1
  obtain ⟨f0, f1, f2, f3, f4⟩ := ((Free.new w w.heap.size ⟨c.cnt, c.sn, c.so, c.mn, c.mx⟩ rfl).on (by simp) (aBelow _ (.cells #[.int .i64 zero.cnt, .int .i64 zero.sn, .bool zero.so, .int .i64 zero.mn, .int .i64 zero.mx] 48))).on (by simp; omega) n1
  obtain ⟨r0, r1, r2, r3, r4⟩ := (Box.new (w.alloc (.cells #[.int .i64 c.cnt, .int .i64 c.sn, .bool c.so, .int .i64 c.mn, .int .i64 c.mx] 48)) (w.heap.size + 1) zero (by simp)).on n1
  obtain ⟨q0, q1, q2, q3, q4⟩ := (Free.new (w.alloc (.cells #[.int .i64 c.cnt, .int .i64 c.sn, .bool c.so, .int .i64 c.mn, .int .i64 c.mx] 48)) (w.heap.size + 1) zero (by simp)).on (by simp) n1
  have d1 := belowAlloc (belowAlloc n1)
  clear n1 H _h h2 h3
  simp only [zero] at *
  go_wp2_with fail
  exact bodyPost_ret (v := .agg #[.int .i64 c.cnt, .int .i64 (Sat.add c.sn c.so v false).1, .bool (Sat.add c.sn c.so v false).2, .int .i64 v, .int .i64 c.mx]) (by simp [results, Tryz.results63, go_sem, r0, r1, r2, r3, r4]) rfl ⟨rfl, by (repeat refine Below.setCell ?_ (by simp) _); exact d1⟩
set_option maxRecDepth 100000 in
set_option maxHeartbeats 400000 in
theorem refFold_6 (c : Cell) (v : Int) (w : World) (hc : okC c) (hv : ok64 v) (_h : 1 ≤ c.cnt) (h2 : ¬ c.cnt < 9223372036854775807) (hm : ¬ v < c.mn) (hx : c.mx < v) :
    Calls Tryz.prog 63 #[.agg #[.int .i64 c.cnt, .int .i64 c.sn, .bool c.so, .int .i64 c.mn, .int .i64 c.mx], .int .i64 v] w fun e w' => e = .returned (.agg #[.int .i64 c.cnt, .int .i64 (Sat.add c.sn c.so v false).1, .bool (Sat.add c.sn c.so v false).2, .int .i64 c.mn, .int .i64 v]) ∧ Below w.heap.size w w' := by
  have h3 : ¬ c.cnt < 1 := by omega
  have H := Lib.hid (And.intro hc.2.1 hv)
  clear hc hv
  go_enter Tryz.func63, Tryz.ntmps63
  go_wp2_with fail
  refine (refAdd_any _ _ _ _ _ H.out.1.1 H.out.1.2 H.out.2.1 H.out.2.2).mono ?_
  rintro e w1 ⟨rfl, n1⟩
  obtain ⟨a0, a1, a2, a3, a4⟩ := ((Box.new w w.heap.size ⟨c.cnt, c.sn, c.so, c.mn, c.mx⟩ rfl).on (aBelow _ (.cells #[.int .i64 zero.cnt, .int .i64 zero.sn, .bool zero.so, .int .i64 zero.mn, .int .i64 zero.mx] 48))).on n1
  obtain ⟨f0, f1, f2, f3, f4⟩ := ((Free.new w w.heap.size ⟨c.cnt, c.sn, c.so, c.mn, c.mx⟩ rfl).on (by simp) (aBelow _ (.cells #[.int .i64 zero.cnt, .int .i64 zero.sn, .bool zero.so, .int .i64 zero.mn, .int .i64 zero.mx] 48))).on (by simp; omega) n1
  obtain ⟨r0, r1, r2, r3, r4⟩ := (Box.new (w.alloc (.cells #[.int .i64 c.cnt, .int .i64 c.sn, .bool c.so, .int .i64 c.mn, .int .i64 c.mx] 48)) (w.heap.size + 1) zero (by simp)).on n1
  obtain ⟨q0, q1, q2, q3, q4⟩ := (Free.new (w.alloc (.cells #[.int .i64 c.cnt, .int .i64 c.sn, .bool c.so, .int .i64 c.mn, .int .i64 c.mx] 48)) (w.heap.size + 1) zero (by simp)).on (by simp) n1
  have d1 := belowAlloc (belowAlloc n1)
  clear n1 H _h h2 h3
  simp only [zero] at *
  go_wp2_with fail
  exact bodyPost_ret (v := .agg #[.int .i64 c.cnt, .int .i64 (Sat.add c.sn c.so v false).1, .bool (Sat.add c.sn c.so v false).2, .int .i64 c.mn, .int .i64 v]) (by simp [results, Tryz.results63, go_sem, r0, r1, r2, r3, r4]) rfl ⟨rfl, by (repeat refine Below.setCell ?_ (by simp) _); exact d1⟩
set_option maxRecDepth 100000 in
set_option maxHeartbeats 400000 in
theorem refFold_7 (c : Cell) (v : Int) (w : World) (hc : okC c) (hv : ok64 v) (_h : 1 ≤ c.cnt) (h2 : ¬ c.cnt < 9223372036854775807) (hm : ¬ v < c.mn) (hx : ¬ c.mx < v) :
    Calls Tryz.prog 63 #[.agg #[.int .i64 c.cnt, .int .i64 c.sn, .bool c.so, .int .i64 c.mn, .int .i64 c.mx], .int .i64 v] w fun e w' => e = .returned (.agg #[.int .i64 c.cnt, .int .i64 (Sat.add c.sn c.so v false).1, .bool (Sat.add c.sn c.so v false).2, .int .i64 c.mn, .int .i64 c.mx]) ∧ Below w.heap.size w w' := by
  have h3 : ¬ c.cnt < 1 := by omega
  have H := Lib.hid (And.intro hc.2.1 hv)
  clear hc hv
  go_enter Tryz.func63, Tryz.ntmps63
  go_wp2_with fail
  refine (refAdd_any _ _ _ _ _ H.out.1.1 H.out.1.2 H.out.2.1 H.out.2.2).mono ?_
  rintro e w1 ⟨rfl, n1⟩
  obtain ⟨a0, a1, a2, a3, a4⟩ := ((Box.new w w.heap.size ⟨c.cnt, c.sn, c.so, c.mn, c.mx⟩ rfl).on (aBelow _ (.cells #[.int .i64 zero.cnt, .int .i64 zero.sn, .bool zero.so, .int .i64 zero.mn, .int .i64 zero.mx] 48))).on n1
  obtain ⟨f0, f1, f2, f3, f4⟩ := ((Free.new w w.heap.size ⟨c.cnt, c.sn, c.so, c.mn, c.mx⟩ rfl).on (by simp) (aBelow _ (.cells #[.int .i64 zero.cnt, .int .i64 zero.sn, .bool zero.so, .int .i64 zero.mn, .int .i64 zero.mx] 48))).on (by simp; omega) n1
  obtain ⟨r0, r1, r2, r3, r4⟩ := (Box.new (w.alloc (.cells #[.int .i64 c.cnt, .int .i64 c.sn, .bool c.so, .int .i64 c.mn, .int .i64 c.mx] 48)) (w.heap.size + 1) zero (by simp)).on n1
  obtain ⟨q0, q1, q2, q3, q4⟩ := (Free.new (w.alloc (.cells #[.int .i64 c.cnt, .int .i64 c.sn, .bool c.so, .int .i64 c.mn, .int .i64 c.mx] 48)) (w.heap.size + 1) zero (by simp)).on (by simp) n1
  have d1 := belowAlloc (belowAlloc n1)
  clear n1 H _h h2 h3
  simp only [zero] at *
  go_wp2_with fail
  exact bodyPost_ret (v := .agg #[.int .i64 c.cnt, .int .i64 (Sat.add c.sn c.so v false).1, .bool (Sat.add c.sn c.so v false).2, .int .i64 c.mn, .int .i64 c.mx]) (by simp [results, Tryz.results63, go_sem, r0, r1, r2, r3, r4]) rfl ⟨rfl, by (repeat refine Below.setCell ?_ (by simp) _); exact d1⟩
theorem min_l {a b : Int} (h : b < a) : min a b = b := by omega
theorem min_r {a b : Int} (h : ¬ b < a) : min a b = a := by omega
theorem max_l {a b : Int} (h : a < b) : max a b = b := by omega
theorem max_r {a b : Int} (h : ¬ a < b) : max a b = a := by omega
/-- The document's fold is the fold. -/
theorem refFold_any (c : Cell) (v : Int) (w : World) (hc : okC c) (hv : ok64 v) :
    Calls Tryz.prog 63 #[.agg #[.int .i64 c.cnt, .int .i64 c.sn, .bool c.so, .int .i64 c.mn, .int .i64 c.mx], .int .i64 v] w fun e w' => e = .returned (.agg #[.int .i64 (fold c v).cnt, .int .i64 (fold c v).sn, .bool (fold c v).so, .int .i64 (fold c v).mn, .int .i64 (fold c v).mx]) ∧ Below w.heap.size w w' := by
  by_cases h : c.cnt < 1
  · exact refFold_a c v w h
  · have h1 : 1 ≤ c.cnt := by omega
    have hc1 := hc.1.2
    rw [fold_ab v h]
    show Calls Tryz.prog 63 #[.agg #[.int .i64 c.cnt, .int .i64 c.sn, .bool c.so, .int .i64 c.mn, .int .i64 c.mx], .int .i64 v] w fun e w' => e = .returned (.agg #[.int .i64 (cnt2 c.cnt 1), .int .i64 (Sat.add c.sn c.so v false).1, .bool (Sat.add c.sn c.so v false).2, .int .i64 (min c.mn v), .int .i64 (max c.mx v)]) ∧ Below w.heap.size w w'
    by_cases h2 : c.cnt < 9223372036854775807
    · have e : cnt2 c.cnt 1 = c.cnt + 1 := by unfold cnt2; rw [if_neg (by omega)]
      rw [e]
      by_cases hm : v < c.mn
      · rw [min_l hm]
        by_cases hx : c.mx < v
        · rw [max_l hx]; exact refFold_0 c v w hc hv h1 h2 hm hx
        · rw [max_r hx]; exact refFold_1 c v w hc hv h1 h2 hm hx
      · rw [min_r hm]
        by_cases hx : c.mx < v
        · rw [max_l hx]; exact refFold_2 c v w hc hv h1 h2 hm hx
        · rw [max_r hx]; exact refFold_3 c v w hc hv h1 h2 hm hx
    · have e : cnt2 c.cnt 1 = c.cnt := by unfold cnt2; rw [if_pos (by omega)]; omega
      rw [e]
      by_cases hm : v < c.mn
      · rw [min_l hm]
        by_cases hx : c.mx < v
        · rw [max_l hx]; exact refFold_4 c v w hc hv h1 h2 hm hx
        · rw [max_r hx]; exact refFold_5 c v w hc hv h1 h2 hm hx
      · rw [min_r hm]
        by_cases hx : c.mx < v
        · rw [max_l hx]; exact refFold_6 c v w hc hv h1 h2 hm hx
        · rw [max_r hx]; exact refFold_7 c v w hc hv h1 h2 hm hx
end Go.Proofs.YtidkpalckafgkaaGreatDoor.Ce
namespace Go.Proofs.YtidkpalckafgkaaGreatDoor.Ce
open Go Go.RowKit Cl
open St Sat
set_option maxRecDepth 100000 in
set_option maxHeartbeats 400000 in
theorem refTwo_b (a b : Cell) (w : World) (h : b.cnt < 1) :
    Calls Tryz.prog 93 #[.agg #[.int .i64 a.cnt, .int .i64 a.sn, .bool a.so, .int .i64 a.mn, .int .i64 a.mx], .agg #[.int .i64 b.cnt, .int .i64 b.sn, .bool b.so, .int .i64 b.mn, .int .i64 b.mx]] w fun e w' => e = .returned (.agg #[.int .i64 a.cnt, .int .i64 a.sn, .bool a.so, .int .i64 a.mn, .int .i64 a.mx]) ∧ Below w.heap.size w w' := by
  go_enter Tryz.func93, Tryz.ntmps93
  go_wp2_with fail
  exact bodyPost_ret (v := .agg #[.int .i64 a.cnt, .int .i64 a.sn, .bool a.so, .int .i64 a.mn, .int .i64 a.mx]) (by simp [results, Tryz.results93, go_sem]) rfl ⟨rfl, below3 _ _ _⟩
set_option maxRecDepth 100000 in
set_option maxHeartbeats 400000 in
theorem refTwo_a (a b : Cell) (w : World) (h : 1 ≤ b.cnt) (h' : a.cnt < 1) :
    Calls Tryz.prog 93 #[.agg #[.int .i64 a.cnt, .int .i64 a.sn, .bool a.so, .int .i64 a.mn, .int .i64 a.mx], .agg #[.int .i64 b.cnt, .int .i64 b.sn, .bool b.so, .int .i64 b.mn, .int .i64 b.mx]] w fun e w' => e = .returned (.agg #[.int .i64 b.cnt, .int .i64 b.sn, .bool b.so, .int .i64 b.mn, .int .i64 b.mx]) ∧ Below w.heap.size w w' := by
  have h3 : ¬ b.cnt < 1 := by omega
  clear h
  go_enter Tryz.func93, Tryz.ntmps93
  go_wp2_with fail
  exact bodyPost_ret (v := .agg #[.int .i64 b.cnt, .int .i64 b.sn, .bool b.so, .int .i64 b.mn, .int .i64 b.mx]) (by simp [results, Tryz.results93, go_sem]) rfl ⟨rfl, below3 _ _ _⟩
set_option maxRecDepth 100000 in
set_option maxHeartbeats 400000 in
theorem refTwo_0 (a b : Cell) (w : World) (ha : okC a) (hb : okC b) (h : 1 ≤ b.cnt) (h' : 1 ≤ a.cnt) (h2 : 9223372036854775807 - b.cnt < a.cnt) (hm : b.mn < a.mn) (hx : a.mx < b.mx) :
    Calls Tryz.prog 93 #[.agg #[.int .i64 a.cnt, .int .i64 a.sn, .bool a.so, .int .i64 a.mn, .int .i64 a.mx], .agg #[.int .i64 b.cnt, .int .i64 b.sn, .bool b.so, .int .i64 b.mn, .int .i64 b.mx]] w fun e w' => e = .returned (.agg #[.int .i64 9223372036854775807, .int .i64 (Sat.add a.sn a.so b.sn b.so).1, .bool (Sat.add a.sn a.so b.sn b.so).2, .int .i64 b.mn, .int .i64 b.mx]) ∧ Below w.heap.size w w' := by
  have h3 : ¬ b.cnt < 1 := by omega
  have h4 : ¬ a.cnt < 1 := by omega
  have g1 := hb.1.2
  have k2 : 9223372036854775807 - b.cnt ≤ 9223372036854775807 := by omega
  have k3 : -9223372036854775808 ≤ 9223372036854775807 - b.cnt := by omega
  have H := Lib.hid (And.intro ha.2.1 hb.2.1)
  clear ha hb
  go_enter Tryz.func93, Tryz.ntmps93
  go_wp2_with fail
  refine (refAdd_any _ _ _ _ _ H.out.1.1 H.out.1.2 H.out.2.1 H.out.2.2).mono ?_
  rintro e w1 ⟨rfl, n1⟩
  obtain ⟨a0, a1, a2, a3, a4⟩ := (((Box.new w w.heap.size ⟨9223372036854775807, a.sn, a.so, a.mn, a.mx⟩ rfl).on (aBelow _ (.cells #[.int .i64 b.cnt, .int .i64 b.sn, .bool b.so, .int .i64 b.mn, .int .i64 b.mx] 48))).on (aBelow _ (.cells #[.int .i64 zero.cnt, .int .i64 zero.sn, .bool zero.so, .int .i64 zero.mn, .int .i64 zero.mx] 48))).on n1
  obtain ⟨f0, f1, f2, f3, f4⟩ := (((Free.new w w.heap.size ⟨9223372036854775807, a.sn, a.so, a.mn, a.mx⟩ rfl).on (by simp) (aBelow _ (.cells #[.int .i64 b.cnt, .int .i64 b.sn, .bool b.so, .int .i64 b.mn, .int .i64 b.mx] 48))).on (by simp; omega) (aBelow _ (.cells #[.int .i64 zero.cnt, .int .i64 zero.sn, .bool zero.so, .int .i64 zero.mn, .int .i64 zero.mx] 48))).on (by simp; omega) n1
  obtain ⟨b0, b1, b2, b3, b4⟩ := ((Box.new (w.alloc (.cells #[.int .i64 9223372036854775807, .int .i64 a.sn, .bool a.so, .int .i64 a.mn, .int .i64 a.mx] 48)) (w.heap.size + 1) b (by simp)).on (aBelow _ (.cells #[.int .i64 zero.cnt, .int .i64 zero.sn, .bool zero.so, .int .i64 zero.mn, .int .i64 zero.mx] 48))).on n1
  obtain ⟨r0, r1, r2, r3, r4⟩ := (Box.new ((w.alloc (.cells #[.int .i64 9223372036854775807, .int .i64 a.sn, .bool a.so, .int .i64 a.mn, .int .i64 a.mx] 48)).alloc (.cells #[.int .i64 b.cnt, .int .i64 b.sn, .bool b.so, .int .i64 b.mn, .int .i64 b.mx] 48)) (w.heap.size + 1 + 1) zero (by simp)).on n1
  obtain ⟨q0, q1, q2, q3, q4⟩ := (Free.new ((w.alloc (.cells #[.int .i64 9223372036854775807, .int .i64 a.sn, .bool a.so, .int .i64 a.mn, .int .i64 a.mx] 48)).alloc (.cells #[.int .i64 b.cnt, .int .i64 b.sn, .bool b.so, .int .i64 b.mn, .int .i64 b.mx] 48)) (w.heap.size + 1 + 1) zero (by simp)).on (by simp) n1
  have d1 := belowAlloc (belowAlloc (belowAlloc n1))
  clear n1 H h h' h2 h3 h4 g1 k2 k3
  simp only [zero] at *
  go_wp2_with fail
  exact bodyPost_ret (v := .agg #[.int .i64 9223372036854775807, .int .i64 (Sat.add a.sn a.so b.sn b.so).1, .bool (Sat.add a.sn a.so b.sn b.so).2, .int .i64 b.mn, .int .i64 b.mx]) (by simp [results, Tryz.results93, go_sem, r0, r1, r2, r3, r4]) rfl ⟨rfl, by (repeat refine Below.setCell ?_ (by simp; try omega) _); exact d1⟩
set_option maxRecDepth 100000 in
set_option maxHeartbeats 400000 in
theorem refTwo_1 (a b : Cell) (w : World) (ha : okC a) (hb : okC b) (h : 1 ≤ b.cnt) (h' : 1 ≤ a.cnt) (h2 : 9223372036854775807 - b.cnt < a.cnt) (hm : b.mn < a.mn) (hx : ¬ a.mx < b.mx) :
    Calls Tryz.prog 93 #[.agg #[.int .i64 a.cnt, .int .i64 a.sn, .bool a.so, .int .i64 a.mn, .int .i64 a.mx], .agg #[.int .i64 b.cnt, .int .i64 b.sn, .bool b.so, .int .i64 b.mn, .int .i64 b.mx]] w fun e w' => e = .returned (.agg #[.int .i64 9223372036854775807, .int .i64 (Sat.add a.sn a.so b.sn b.so).1, .bool (Sat.add a.sn a.so b.sn b.so).2, .int .i64 b.mn, .int .i64 a.mx]) ∧ Below w.heap.size w w' := by
  have h3 : ¬ b.cnt < 1 := by omega
  have h4 : ¬ a.cnt < 1 := by omega
  have g1 := hb.1.2
  have k2 : 9223372036854775807 - b.cnt ≤ 9223372036854775807 := by omega
  have k3 : -9223372036854775808 ≤ 9223372036854775807 - b.cnt := by omega
  have H := Lib.hid (And.intro ha.2.1 hb.2.1)
  clear ha hb
  go_enter Tryz.func93, Tryz.ntmps93
  go_wp2_with fail
  refine (refAdd_any _ _ _ _ _ H.out.1.1 H.out.1.2 H.out.2.1 H.out.2.2).mono ?_
  rintro e w1 ⟨rfl, n1⟩
  obtain ⟨a0, a1, a2, a3, a4⟩ := (((Box.new w w.heap.size ⟨9223372036854775807, a.sn, a.so, a.mn, a.mx⟩ rfl).on (aBelow _ (.cells #[.int .i64 b.cnt, .int .i64 b.sn, .bool b.so, .int .i64 b.mn, .int .i64 b.mx] 48))).on (aBelow _ (.cells #[.int .i64 zero.cnt, .int .i64 zero.sn, .bool zero.so, .int .i64 zero.mn, .int .i64 zero.mx] 48))).on n1
  obtain ⟨f0, f1, f2, f3, f4⟩ := (((Free.new w w.heap.size ⟨9223372036854775807, a.sn, a.so, a.mn, a.mx⟩ rfl).on (by simp) (aBelow _ (.cells #[.int .i64 b.cnt, .int .i64 b.sn, .bool b.so, .int .i64 b.mn, .int .i64 b.mx] 48))).on (by simp; omega) (aBelow _ (.cells #[.int .i64 zero.cnt, .int .i64 zero.sn, .bool zero.so, .int .i64 zero.mn, .int .i64 zero.mx] 48))).on (by simp; omega) n1
  obtain ⟨b0, b1, b2, b3, b4⟩ := ((Box.new (w.alloc (.cells #[.int .i64 9223372036854775807, .int .i64 a.sn, .bool a.so, .int .i64 a.mn, .int .i64 a.mx] 48)) (w.heap.size + 1) b (by simp)).on (aBelow _ (.cells #[.int .i64 zero.cnt, .int .i64 zero.sn, .bool zero.so, .int .i64 zero.mn, .int .i64 zero.mx] 48))).on n1
  obtain ⟨r0, r1, r2, r3, r4⟩ := (Box.new ((w.alloc (.cells #[.int .i64 9223372036854775807, .int .i64 a.sn, .bool a.so, .int .i64 a.mn, .int .i64 a.mx] 48)).alloc (.cells #[.int .i64 b.cnt, .int .i64 b.sn, .bool b.so, .int .i64 b.mn, .int .i64 b.mx] 48)) (w.heap.size + 1 + 1) zero (by simp)).on n1
  obtain ⟨q0, q1, q2, q3, q4⟩ := (Free.new ((w.alloc (.cells #[.int .i64 9223372036854775807, .int .i64 a.sn, .bool a.so, .int .i64 a.mn, .int .i64 a.mx] 48)).alloc (.cells #[.int .i64 b.cnt, .int .i64 b.sn, .bool b.so, .int .i64 b.mn, .int .i64 b.mx] 48)) (w.heap.size + 1 + 1) zero (by simp)).on (by simp) n1
  have d1 := belowAlloc (belowAlloc (belowAlloc n1))
  clear n1 H h h' h2 h3 h4 g1 k2 k3
  simp only [zero] at *
  go_wp2_with fail
  exact bodyPost_ret (v := .agg #[.int .i64 9223372036854775807, .int .i64 (Sat.add a.sn a.so b.sn b.so).1, .bool (Sat.add a.sn a.so b.sn b.so).2, .int .i64 b.mn, .int .i64 a.mx]) (by simp [results, Tryz.results93, go_sem, r0, r1, r2, r3, r4]) rfl ⟨rfl, by (repeat refine Below.setCell ?_ (by simp; try omega) _); exact d1⟩
set_option maxRecDepth 100000 in
set_option maxHeartbeats 400000 in
theorem refTwo_2 (a b : Cell) (w : World) (ha : okC a) (hb : okC b) (h : 1 ≤ b.cnt) (h' : 1 ≤ a.cnt) (h2 : 9223372036854775807 - b.cnt < a.cnt) (hm : ¬ b.mn < a.mn) (hx : a.mx < b.mx) :
    Calls Tryz.prog 93 #[.agg #[.int .i64 a.cnt, .int .i64 a.sn, .bool a.so, .int .i64 a.mn, .int .i64 a.mx], .agg #[.int .i64 b.cnt, .int .i64 b.sn, .bool b.so, .int .i64 b.mn, .int .i64 b.mx]] w fun e w' => e = .returned (.agg #[.int .i64 9223372036854775807, .int .i64 (Sat.add a.sn a.so b.sn b.so).1, .bool (Sat.add a.sn a.so b.sn b.so).2, .int .i64 a.mn, .int .i64 b.mx]) ∧ Below w.heap.size w w' := by
  have h3 : ¬ b.cnt < 1 := by omega
  have h4 : ¬ a.cnt < 1 := by omega
  have g1 := hb.1.2
  have k2 : 9223372036854775807 - b.cnt ≤ 9223372036854775807 := by omega
  have k3 : -9223372036854775808 ≤ 9223372036854775807 - b.cnt := by omega
  have H := Lib.hid (And.intro ha.2.1 hb.2.1)
  clear ha hb
  go_enter Tryz.func93, Tryz.ntmps93
  go_wp2_with fail
  refine (refAdd_any _ _ _ _ _ H.out.1.1 H.out.1.2 H.out.2.1 H.out.2.2).mono ?_
  rintro e w1 ⟨rfl, n1⟩
  obtain ⟨a0, a1, a2, a3, a4⟩ := (((Box.new w w.heap.size ⟨9223372036854775807, a.sn, a.so, a.mn, a.mx⟩ rfl).on (aBelow _ (.cells #[.int .i64 b.cnt, .int .i64 b.sn, .bool b.so, .int .i64 b.mn, .int .i64 b.mx] 48))).on (aBelow _ (.cells #[.int .i64 zero.cnt, .int .i64 zero.sn, .bool zero.so, .int .i64 zero.mn, .int .i64 zero.mx] 48))).on n1
  obtain ⟨f0, f1, f2, f3, f4⟩ := (((Free.new w w.heap.size ⟨9223372036854775807, a.sn, a.so, a.mn, a.mx⟩ rfl).on (by simp) (aBelow _ (.cells #[.int .i64 b.cnt, .int .i64 b.sn, .bool b.so, .int .i64 b.mn, .int .i64 b.mx] 48))).on (by simp; omega) (aBelow _ (.cells #[.int .i64 zero.cnt, .int .i64 zero.sn, .bool zero.so, .int .i64 zero.mn, .int .i64 zero.mx] 48))).on (by simp; omega) n1
  obtain ⟨b0, b1, b2, b3, b4⟩ := ((Box.new (w.alloc (.cells #[.int .i64 9223372036854775807, .int .i64 a.sn, .bool a.so, .int .i64 a.mn, .int .i64 a.mx] 48)) (w.heap.size + 1) b (by simp)).on (aBelow _ (.cells #[.int .i64 zero.cnt, .int .i64 zero.sn, .bool zero.so, .int .i64 zero.mn, .int .i64 zero.mx] 48))).on n1
  obtain ⟨r0, r1, r2, r3, r4⟩ := (Box.new ((w.alloc (.cells #[.int .i64 9223372036854775807, .int .i64 a.sn, .bool a.so, .int .i64 a.mn, .int .i64 a.mx] 48)).alloc (.cells #[.int .i64 b.cnt, .int .i64 b.sn, .bool b.so, .int .i64 b.mn, .int .i64 b.mx] 48)) (w.heap.size + 1 + 1) zero (by simp)).on n1
  obtain ⟨q0, q1, q2, q3, q4⟩ := (Free.new ((w.alloc (.cells #[.int .i64 9223372036854775807, .int .i64 a.sn, .bool a.so, .int .i64 a.mn, .int .i64 a.mx] 48)).alloc (.cells #[.int .i64 b.cnt, .int .i64 b.sn, .bool b.so, .int .i64 b.mn, .int .i64 b.mx] 48)) (w.heap.size + 1 + 1) zero (by simp)).on (by simp) n1
  have d1 := belowAlloc (belowAlloc (belowAlloc n1))
  clear n1 H h h' h2 h3 h4 g1 k2 k3
  simp only [zero] at *
  go_wp2_with fail
  exact bodyPost_ret (v := .agg #[.int .i64 9223372036854775807, .int .i64 (Sat.add a.sn a.so b.sn b.so).1, .bool (Sat.add a.sn a.so b.sn b.so).2, .int .i64 a.mn, .int .i64 b.mx]) (by simp [results, Tryz.results93, go_sem, r0, r1, r2, r3, r4]) rfl ⟨rfl, by (repeat refine Below.setCell ?_ (by simp; try omega) _); exact d1⟩
set_option maxRecDepth 100000 in
set_option maxHeartbeats 400000 in
theorem refTwo_3 (a b : Cell) (w : World) (ha : okC a) (hb : okC b) (h : 1 ≤ b.cnt) (h' : 1 ≤ a.cnt) (h2 : 9223372036854775807 - b.cnt < a.cnt) (hm : ¬ b.mn < a.mn) (hx : ¬ a.mx < b.mx) :
    Calls Tryz.prog 93 #[.agg #[.int .i64 a.cnt, .int .i64 a.sn, .bool a.so, .int .i64 a.mn, .int .i64 a.mx], .agg #[.int .i64 b.cnt, .int .i64 b.sn, .bool b.so, .int .i64 b.mn, .int .i64 b.mx]] w fun e w' => e = .returned (.agg #[.int .i64 9223372036854775807, .int .i64 (Sat.add a.sn a.so b.sn b.so).1, .bool (Sat.add a.sn a.so b.sn b.so).2, .int .i64 a.mn, .int .i64 a.mx]) ∧ Below w.heap.size w w' := by
  have h3 : ¬ b.cnt < 1 := by omega
  have h4 : ¬ a.cnt < 1 := by omega
  have g1 := hb.1.2
  have k2 : 9223372036854775807 - b.cnt ≤ 9223372036854775807 := by omega
  have k3 : -9223372036854775808 ≤ 9223372036854775807 - b.cnt := by omega
  have H := Lib.hid (And.intro ha.2.1 hb.2.1)
  clear ha hb
  go_enter Tryz.func93, Tryz.ntmps93
  go_wp2_with fail
  refine (refAdd_any _ _ _ _ _ H.out.1.1 H.out.1.2 H.out.2.1 H.out.2.2).mono ?_
  rintro e w1 ⟨rfl, n1⟩
  obtain ⟨a0, a1, a2, a3, a4⟩ := (((Box.new w w.heap.size ⟨9223372036854775807, a.sn, a.so, a.mn, a.mx⟩ rfl).on (aBelow _ (.cells #[.int .i64 b.cnt, .int .i64 b.sn, .bool b.so, .int .i64 b.mn, .int .i64 b.mx] 48))).on (aBelow _ (.cells #[.int .i64 zero.cnt, .int .i64 zero.sn, .bool zero.so, .int .i64 zero.mn, .int .i64 zero.mx] 48))).on n1
  obtain ⟨f0, f1, f2, f3, f4⟩ := (((Free.new w w.heap.size ⟨9223372036854775807, a.sn, a.so, a.mn, a.mx⟩ rfl).on (by simp) (aBelow _ (.cells #[.int .i64 b.cnt, .int .i64 b.sn, .bool b.so, .int .i64 b.mn, .int .i64 b.mx] 48))).on (by simp; omega) (aBelow _ (.cells #[.int .i64 zero.cnt, .int .i64 zero.sn, .bool zero.so, .int .i64 zero.mn, .int .i64 zero.mx] 48))).on (by simp; omega) n1
  obtain ⟨b0, b1, b2, b3, b4⟩ := ((Box.new (w.alloc (.cells #[.int .i64 9223372036854775807, .int .i64 a.sn, .bool a.so, .int .i64 a.mn, .int .i64 a.mx] 48)) (w.heap.size + 1) b (by simp)).on (aBelow _ (.cells #[.int .i64 zero.cnt, .int .i64 zero.sn, .bool zero.so, .int .i64 zero.mn, .int .i64 zero.mx] 48))).on n1
  obtain ⟨r0, r1, r2, r3, r4⟩ := (Box.new ((w.alloc (.cells #[.int .i64 9223372036854775807, .int .i64 a.sn, .bool a.so, .int .i64 a.mn, .int .i64 a.mx] 48)).alloc (.cells #[.int .i64 b.cnt, .int .i64 b.sn, .bool b.so, .int .i64 b.mn, .int .i64 b.mx] 48)) (w.heap.size + 1 + 1) zero (by simp)).on n1
  obtain ⟨q0, q1, q2, q3, q4⟩ := (Free.new ((w.alloc (.cells #[.int .i64 9223372036854775807, .int .i64 a.sn, .bool a.so, .int .i64 a.mn, .int .i64 a.mx] 48)).alloc (.cells #[.int .i64 b.cnt, .int .i64 b.sn, .bool b.so, .int .i64 b.mn, .int .i64 b.mx] 48)) (w.heap.size + 1 + 1) zero (by simp)).on (by simp) n1
  have d1 := belowAlloc (belowAlloc (belowAlloc n1))
  clear n1 H h h' h2 h3 h4 g1 k2 k3
  simp only [zero] at *
  go_wp2_with fail
  exact bodyPost_ret (v := .agg #[.int .i64 9223372036854775807, .int .i64 (Sat.add a.sn a.so b.sn b.so).1, .bool (Sat.add a.sn a.so b.sn b.so).2, .int .i64 a.mn, .int .i64 a.mx]) (by simp [results, Tryz.results93, go_sem, r0, r1, r2, r3, r4]) rfl ⟨rfl, by (repeat refine Below.setCell ?_ (by simp; try omega) _); exact d1⟩
set_option maxRecDepth 100000 in
set_option maxHeartbeats 400000 in
theorem refTwo_4 (a b : Cell) (w : World) (ha : okC a) (hb : okC b) (h : 1 ≤ b.cnt) (h' : 1 ≤ a.cnt) (h2 : ¬ 9223372036854775807 - b.cnt < a.cnt) (hm : b.mn < a.mn) (hx : a.mx < b.mx) :
    Calls Tryz.prog 93 #[.agg #[.int .i64 a.cnt, .int .i64 a.sn, .bool a.so, .int .i64 a.mn, .int .i64 a.mx], .agg #[.int .i64 b.cnt, .int .i64 b.sn, .bool b.so, .int .i64 b.mn, .int .i64 b.mx]] w fun e w' => e = .returned (.agg #[.int .i64 (a.cnt + b.cnt), .int .i64 (Sat.add a.sn a.so b.sn b.so).1, .bool (Sat.add a.sn a.so b.sn b.so).2, .int .i64 b.mn, .int .i64 b.mx]) ∧ Below w.heap.size w w' := by
  have h3 : ¬ b.cnt < 1 := by omega
  have h4 : ¬ a.cnt < 1 := by omega
  have g1 := hb.1.2
  have k2 : 9223372036854775807 - b.cnt ≤ 9223372036854775807 := by omega
  have k3 : -9223372036854775808 ≤ 9223372036854775807 - b.cnt := by omega
  have k0 : a.cnt + b.cnt ≤ 9223372036854775807 := by omega
  have k1 : -9223372036854775808 ≤ a.cnt + b.cnt := by omega
  have H := Lib.hid (And.intro ha.2.1 hb.2.1)
  clear ha hb
  go_enter Tryz.func93, Tryz.ntmps93
  go_wp2_with fail
  refine (refAdd_any _ _ _ _ _ H.out.1.1 H.out.1.2 H.out.2.1 H.out.2.2).mono ?_
  rintro e w1 ⟨rfl, n1⟩
  obtain ⟨a0, a1, a2, a3, a4⟩ := (((Box.new w w.heap.size ⟨(a.cnt + b.cnt), a.sn, a.so, a.mn, a.mx⟩ rfl).on (aBelow _ (.cells #[.int .i64 b.cnt, .int .i64 b.sn, .bool b.so, .int .i64 b.mn, .int .i64 b.mx] 48))).on (aBelow _ (.cells #[.int .i64 zero.cnt, .int .i64 zero.sn, .bool zero.so, .int .i64 zero.mn, .int .i64 zero.mx] 48))).on n1
  obtain ⟨f0, f1, f2, f3, f4⟩ := (((Free.new w w.heap.size ⟨(a.cnt + b.cnt), a.sn, a.so, a.mn, a.mx⟩ rfl).on (by simp) (aBelow _ (.cells #[.int .i64 b.cnt, .int .i64 b.sn, .bool b.so, .int .i64 b.mn, .int .i64 b.mx] 48))).on (by simp; omega) (aBelow _ (.cells #[.int .i64 zero.cnt, .int .i64 zero.sn, .bool zero.so, .int .i64 zero.mn, .int .i64 zero.mx] 48))).on (by simp; omega) n1
  obtain ⟨b0, b1, b2, b3, b4⟩ := ((Box.new (w.alloc (.cells #[.int .i64 (a.cnt + b.cnt), .int .i64 a.sn, .bool a.so, .int .i64 a.mn, .int .i64 a.mx] 48)) (w.heap.size + 1) b (by simp)).on (aBelow _ (.cells #[.int .i64 zero.cnt, .int .i64 zero.sn, .bool zero.so, .int .i64 zero.mn, .int .i64 zero.mx] 48))).on n1
  obtain ⟨r0, r1, r2, r3, r4⟩ := (Box.new ((w.alloc (.cells #[.int .i64 (a.cnt + b.cnt), .int .i64 a.sn, .bool a.so, .int .i64 a.mn, .int .i64 a.mx] 48)).alloc (.cells #[.int .i64 b.cnt, .int .i64 b.sn, .bool b.so, .int .i64 b.mn, .int .i64 b.mx] 48)) (w.heap.size + 1 + 1) zero (by simp)).on n1
  obtain ⟨q0, q1, q2, q3, q4⟩ := (Free.new ((w.alloc (.cells #[.int .i64 (a.cnt + b.cnt), .int .i64 a.sn, .bool a.so, .int .i64 a.mn, .int .i64 a.mx] 48)).alloc (.cells #[.int .i64 b.cnt, .int .i64 b.sn, .bool b.so, .int .i64 b.mn, .int .i64 b.mx] 48)) (w.heap.size + 1 + 1) zero (by simp)).on (by simp) n1
  have d1 := belowAlloc (belowAlloc (belowAlloc n1))
  clear n1 H h h' h2 h3 h4 g1 k2 k3 k0 k1
  simp only [zero] at *
  go_wp2_with fail
  exact bodyPost_ret (v := .agg #[.int .i64 (a.cnt + b.cnt), .int .i64 (Sat.add a.sn a.so b.sn b.so).1, .bool (Sat.add a.sn a.so b.sn b.so).2, .int .i64 b.mn, .int .i64 b.mx]) (by simp [results, Tryz.results93, go_sem, r0, r1, r2, r3, r4]) rfl ⟨rfl, by (repeat refine Below.setCell ?_ (by simp; try omega) _); exact d1⟩
set_option maxRecDepth 100000 in
set_option maxHeartbeats 400000 in
theorem refTwo_5 (a b : Cell) (w : World) (ha : okC a) (hb : okC b) (h : 1 ≤ b.cnt) (h' : 1 ≤ a.cnt) (h2 : ¬ 9223372036854775807 - b.cnt < a.cnt) (hm : b.mn < a.mn) (hx : ¬ a.mx < b.mx) :
    Calls Tryz.prog 93 #[.agg #[.int .i64 a.cnt, .int .i64 a.sn, .bool a.so, .int .i64 a.mn, .int .i64 a.mx], .agg #[.int .i64 b.cnt, .int .i64 b.sn, .bool b.so, .int .i64 b.mn, .int .i64 b.mx]] w fun e w' => e = .returned (.agg #[.int .i64 (a.cnt + b.cnt), .int .i64 (Sat.add a.sn a.so b.sn b.so).1, .bool (Sat.add a.sn a.so b.sn b.so).2, .int .i64 b.mn, .int .i64 a.mx]) ∧ Below w.heap.size w w' := by
  have h3 : ¬ b.cnt < 1 := by omega
  have h4 : ¬ a.cnt < 1 := by omega
  have g1 := hb.1.2
  have k2 : 9223372036854775807 - b.cnt ≤ 9223372036854775807 := by omega
  have k3 : -9223372036854775808 ≤ 9223372036854775807 - b.cnt := by omega
  have k0 : a.cnt + b.cnt ≤ 9223372036854775807 := by omega
  have k1 : -9223372036854775808 ≤ a.cnt + b.cnt := by omega
  have H := Lib.hid (And.intro ha.2.1 hb.2.1)
  clear ha hb
  go_enter Tryz.func93, Tryz.ntmps93
  go_wp2_with fail
  refine (refAdd_any _ _ _ _ _ H.out.1.1 H.out.1.2 H.out.2.1 H.out.2.2).mono ?_
  rintro e w1 ⟨rfl, n1⟩
  obtain ⟨a0, a1, a2, a3, a4⟩ := (((Box.new w w.heap.size ⟨(a.cnt + b.cnt), a.sn, a.so, a.mn, a.mx⟩ rfl).on (aBelow _ (.cells #[.int .i64 b.cnt, .int .i64 b.sn, .bool b.so, .int .i64 b.mn, .int .i64 b.mx] 48))).on (aBelow _ (.cells #[.int .i64 zero.cnt, .int .i64 zero.sn, .bool zero.so, .int .i64 zero.mn, .int .i64 zero.mx] 48))).on n1
  obtain ⟨f0, f1, f2, f3, f4⟩ := (((Free.new w w.heap.size ⟨(a.cnt + b.cnt), a.sn, a.so, a.mn, a.mx⟩ rfl).on (by simp) (aBelow _ (.cells #[.int .i64 b.cnt, .int .i64 b.sn, .bool b.so, .int .i64 b.mn, .int .i64 b.mx] 48))).on (by simp; omega) (aBelow _ (.cells #[.int .i64 zero.cnt, .int .i64 zero.sn, .bool zero.so, .int .i64 zero.mn, .int .i64 zero.mx] 48))).on (by simp; omega) n1
  obtain ⟨b0, b1, b2, b3, b4⟩ := ((Box.new (w.alloc (.cells #[.int .i64 (a.cnt + b.cnt), .int .i64 a.sn, .bool a.so, .int .i64 a.mn, .int .i64 a.mx] 48)) (w.heap.size + 1) b (by simp)).on (aBelow _ (.cells #[.int .i64 zero.cnt, .int .i64 zero.sn, .bool zero.so, .int .i64 zero.mn, .int .i64 zero.mx] 48))).on n1
  obtain ⟨r0, r1, r2, r3, r4⟩ := (Box.new ((w.alloc (.cells #[.int .i64 (a.cnt + b.cnt), .int .i64 a.sn, .bool a.so, .int .i64 a.mn, .int .i64 a.mx] 48)).alloc (.cells #[.int .i64 b.cnt, .int .i64 b.sn, .bool b.so, .int .i64 b.mn, .int .i64 b.mx] 48)) (w.heap.size + 1 + 1) zero (by simp)).on n1
  obtain ⟨q0, q1, q2, q3, q4⟩ := (Free.new ((w.alloc (.cells #[.int .i64 (a.cnt + b.cnt), .int .i64 a.sn, .bool a.so, .int .i64 a.mn, .int .i64 a.mx] 48)).alloc (.cells #[.int .i64 b.cnt, .int .i64 b.sn, .bool b.so, .int .i64 b.mn, .int .i64 b.mx] 48)) (w.heap.size + 1 + 1) zero (by simp)).on (by simp) n1
  have d1 := belowAlloc (belowAlloc (belowAlloc n1))
  clear n1 H h h' h2 h3 h4 g1 k2 k3 k0 k1
  simp only [zero] at *
  go_wp2_with fail
  exact bodyPost_ret (v := .agg #[.int .i64 (a.cnt + b.cnt), .int .i64 (Sat.add a.sn a.so b.sn b.so).1, .bool (Sat.add a.sn a.so b.sn b.so).2, .int .i64 b.mn, .int .i64 a.mx]) (by simp [results, Tryz.results93, go_sem, r0, r1, r2, r3, r4]) rfl ⟨rfl, by (repeat refine Below.setCell ?_ (by simp; try omega) _); exact d1⟩
set_option maxRecDepth 100000 in
set_option maxHeartbeats 400000 in
theorem refTwo_6 (a b : Cell) (w : World) (ha : okC a) (hb : okC b) (h : 1 ≤ b.cnt) (h' : 1 ≤ a.cnt) (h2 : ¬ 9223372036854775807 - b.cnt < a.cnt) (hm : ¬ b.mn < a.mn) (hx : a.mx < b.mx) :
    Calls Tryz.prog 93 #[.agg #[.int .i64 a.cnt, .int .i64 a.sn, .bool a.so, .int .i64 a.mn, .int .i64 a.mx], .agg #[.int .i64 b.cnt, .int .i64 b.sn, .bool b.so, .int .i64 b.mn, .int .i64 b.mx]] w fun e w' => e = .returned (.agg #[.int .i64 (a.cnt + b.cnt), .int .i64 (Sat.add a.sn a.so b.sn b.so).1, .bool (Sat.add a.sn a.so b.sn b.so).2, .int .i64 a.mn, .int .i64 b.mx]) ∧ Below w.heap.size w w' := by
  have h3 : ¬ b.cnt < 1 := by omega
  have h4 : ¬ a.cnt < 1 := by omega
  have g1 := hb.1.2
  have k2 : 9223372036854775807 - b.cnt ≤ 9223372036854775807 := by omega
  have k3 : -9223372036854775808 ≤ 9223372036854775807 - b.cnt := by omega
  have k0 : a.cnt + b.cnt ≤ 9223372036854775807 := by omega
  have k1 : -9223372036854775808 ≤ a.cnt + b.cnt := by omega
  have H := Lib.hid (And.intro ha.2.1 hb.2.1)
  clear ha hb
  go_enter Tryz.func93, Tryz.ntmps93
  go_wp2_with fail
  refine (refAdd_any _ _ _ _ _ H.out.1.1 H.out.1.2 H.out.2.1 H.out.2.2).mono ?_
  rintro e w1 ⟨rfl, n1⟩
  obtain ⟨a0, a1, a2, a3, a4⟩ := (((Box.new w w.heap.size ⟨(a.cnt + b.cnt), a.sn, a.so, a.mn, a.mx⟩ rfl).on (aBelow _ (.cells #[.int .i64 b.cnt, .int .i64 b.sn, .bool b.so, .int .i64 b.mn, .int .i64 b.mx] 48))).on (aBelow _ (.cells #[.int .i64 zero.cnt, .int .i64 zero.sn, .bool zero.so, .int .i64 zero.mn, .int .i64 zero.mx] 48))).on n1
  obtain ⟨f0, f1, f2, f3, f4⟩ := (((Free.new w w.heap.size ⟨(a.cnt + b.cnt), a.sn, a.so, a.mn, a.mx⟩ rfl).on (by simp) (aBelow _ (.cells #[.int .i64 b.cnt, .int .i64 b.sn, .bool b.so, .int .i64 b.mn, .int .i64 b.mx] 48))).on (by simp; omega) (aBelow _ (.cells #[.int .i64 zero.cnt, .int .i64 zero.sn, .bool zero.so, .int .i64 zero.mn, .int .i64 zero.mx] 48))).on (by simp; omega) n1
  obtain ⟨b0, b1, b2, b3, b4⟩ := ((Box.new (w.alloc (.cells #[.int .i64 (a.cnt + b.cnt), .int .i64 a.sn, .bool a.so, .int .i64 a.mn, .int .i64 a.mx] 48)) (w.heap.size + 1) b (by simp)).on (aBelow _ (.cells #[.int .i64 zero.cnt, .int .i64 zero.sn, .bool zero.so, .int .i64 zero.mn, .int .i64 zero.mx] 48))).on n1
  obtain ⟨r0, r1, r2, r3, r4⟩ := (Box.new ((w.alloc (.cells #[.int .i64 (a.cnt + b.cnt), .int .i64 a.sn, .bool a.so, .int .i64 a.mn, .int .i64 a.mx] 48)).alloc (.cells #[.int .i64 b.cnt, .int .i64 b.sn, .bool b.so, .int .i64 b.mn, .int .i64 b.mx] 48)) (w.heap.size + 1 + 1) zero (by simp)).on n1
  obtain ⟨q0, q1, q2, q3, q4⟩ := (Free.new ((w.alloc (.cells #[.int .i64 (a.cnt + b.cnt), .int .i64 a.sn, .bool a.so, .int .i64 a.mn, .int .i64 a.mx] 48)).alloc (.cells #[.int .i64 b.cnt, .int .i64 b.sn, .bool b.so, .int .i64 b.mn, .int .i64 b.mx] 48)) (w.heap.size + 1 + 1) zero (by simp)).on (by simp) n1
  have d1 := belowAlloc (belowAlloc (belowAlloc n1))
  clear n1 H h h' h2 h3 h4 g1 k2 k3 k0 k1
  simp only [zero] at *
  go_wp2_with fail
  exact bodyPost_ret (v := .agg #[.int .i64 (a.cnt + b.cnt), .int .i64 (Sat.add a.sn a.so b.sn b.so).1, .bool (Sat.add a.sn a.so b.sn b.so).2, .int .i64 a.mn, .int .i64 b.mx]) (by simp [results, Tryz.results93, go_sem, r0, r1, r2, r3, r4]) rfl ⟨rfl, by (repeat refine Below.setCell ?_ (by simp; try omega) _); exact d1⟩
set_option maxRecDepth 100000 in
set_option maxHeartbeats 400000 in
theorem refTwo_7 (a b : Cell) (w : World) (ha : okC a) (hb : okC b) (h : 1 ≤ b.cnt) (h' : 1 ≤ a.cnt) (h2 : ¬ 9223372036854775807 - b.cnt < a.cnt) (hm : ¬ b.mn < a.mn) (hx : ¬ a.mx < b.mx) :
    Calls Tryz.prog 93 #[.agg #[.int .i64 a.cnt, .int .i64 a.sn, .bool a.so, .int .i64 a.mn, .int .i64 a.mx], .agg #[.int .i64 b.cnt, .int .i64 b.sn, .bool b.so, .int .i64 b.mn, .int .i64 b.mx]] w fun e w' => e = .returned (.agg #[.int .i64 (a.cnt + b.cnt), .int .i64 (Sat.add a.sn a.so b.sn b.so).1, .bool (Sat.add a.sn a.so b.sn b.so).2, .int .i64 a.mn, .int .i64 a.mx]) ∧ Below w.heap.size w w' := by
  have h3 : ¬ b.cnt < 1 := by omega
  have h4 : ¬ a.cnt < 1 := by omega
  have g1 := hb.1.2
  have k2 : 9223372036854775807 - b.cnt ≤ 9223372036854775807 := by omega
  have k3 : -9223372036854775808 ≤ 9223372036854775807 - b.cnt := by omega
  have k0 : a.cnt + b.cnt ≤ 9223372036854775807 := by omega
  have k1 : -9223372036854775808 ≤ a.cnt + b.cnt := by omega
  have H := Lib.hid (And.intro ha.2.1 hb.2.1)
  clear ha hb
  go_enter Tryz.func93, Tryz.ntmps93
  go_wp2_with fail
  refine (refAdd_any _ _ _ _ _ H.out.1.1 H.out.1.2 H.out.2.1 H.out.2.2).mono ?_
  rintro e w1 ⟨rfl, n1⟩
  obtain ⟨a0, a1, a2, a3, a4⟩ := (((Box.new w w.heap.size ⟨(a.cnt + b.cnt), a.sn, a.so, a.mn, a.mx⟩ rfl).on (aBelow _ (.cells #[.int .i64 b.cnt, .int .i64 b.sn, .bool b.so, .int .i64 b.mn, .int .i64 b.mx] 48))).on (aBelow _ (.cells #[.int .i64 zero.cnt, .int .i64 zero.sn, .bool zero.so, .int .i64 zero.mn, .int .i64 zero.mx] 48))).on n1
  obtain ⟨f0, f1, f2, f3, f4⟩ := (((Free.new w w.heap.size ⟨(a.cnt + b.cnt), a.sn, a.so, a.mn, a.mx⟩ rfl).on (by simp) (aBelow _ (.cells #[.int .i64 b.cnt, .int .i64 b.sn, .bool b.so, .int .i64 b.mn, .int .i64 b.mx] 48))).on (by simp; omega) (aBelow _ (.cells #[.int .i64 zero.cnt, .int .i64 zero.sn, .bool zero.so, .int .i64 zero.mn, .int .i64 zero.mx] 48))).on (by simp; omega) n1
  obtain ⟨b0, b1, b2, b3, b4⟩ := ((Box.new (w.alloc (.cells #[.int .i64 (a.cnt + b.cnt), .int .i64 a.sn, .bool a.so, .int .i64 a.mn, .int .i64 a.mx] 48)) (w.heap.size + 1) b (by simp)).on (aBelow _ (.cells #[.int .i64 zero.cnt, .int .i64 zero.sn, .bool zero.so, .int .i64 zero.mn, .int .i64 zero.mx] 48))).on n1
  obtain ⟨r0, r1, r2, r3, r4⟩ := (Box.new ((w.alloc (.cells #[.int .i64 (a.cnt + b.cnt), .int .i64 a.sn, .bool a.so, .int .i64 a.mn, .int .i64 a.mx] 48)).alloc (.cells #[.int .i64 b.cnt, .int .i64 b.sn, .bool b.so, .int .i64 b.mn, .int .i64 b.mx] 48)) (w.heap.size + 1 + 1) zero (by simp)).on n1
  obtain ⟨q0, q1, q2, q3, q4⟩ := (Free.new ((w.alloc (.cells #[.int .i64 (a.cnt + b.cnt), .int .i64 a.sn, .bool a.so, .int .i64 a.mn, .int .i64 a.mx] 48)).alloc (.cells #[.int .i64 b.cnt, .int .i64 b.sn, .bool b.so, .int .i64 b.mn, .int .i64 b.mx] 48)) (w.heap.size + 1 + 1) zero (by simp)).on (by simp) n1
  have d1 := belowAlloc (belowAlloc (belowAlloc n1))
  clear n1 H h h' h2 h3 h4 g1 k2 k3 k0 k1
  simp only [zero] at *
  go_wp2_with fail
  exact bodyPost_ret (v := .agg #[.int .i64 (a.cnt + b.cnt), .int .i64 (Sat.add a.sn a.so b.sn b.so).1, .bool (Sat.add a.sn a.so b.sn b.so).2, .int .i64 a.mn, .int .i64 a.mx]) (by simp [results, Tryz.results93, go_sem, r0, r1, r2, r3, r4]) rfl ⟨rfl, by (repeat refine Below.setCell ?_ (by simp; try omega) _); exact d1⟩
/-- The document's merge is the merge. -/
theorem refTwo_any (a b : Cell) (w : World) (ha : okC a) (hb : okC b) :
    Calls Tryz.prog 93 #[.agg #[.int .i64 a.cnt, .int .i64 a.sn, .bool a.so, .int .i64 a.mn, .int .i64 a.mx], .agg #[.int .i64 b.cnt, .int .i64 b.sn, .bool b.so, .int .i64 b.mn, .int .i64 b.mx]] w fun e w' => e = .returned (.agg #[.int .i64 (two a b).cnt, .int .i64 (two a b).sn, .bool (two a b).so, .int .i64 (two a b).mn, .int .i64 (two a b).mx]) ∧ Below w.heap.size w w' := by
  by_cases h : b.cnt < 1
  · rw [two_b h]; exact refTwo_b a b w h
  · by_cases h' : a.cnt < 1
    · rw [two_a h h']; exact refTwo_a a b w (by omega) h'
    · have h1 : 1 ≤ b.cnt := by omega
      have h1' : 1 ≤ a.cnt := by omega
      rw [two_ab h h']
      show Calls Tryz.prog 93 #[.agg #[.int .i64 a.cnt, .int .i64 a.sn, .bool a.so, .int .i64 a.mn, .int .i64 a.mx], .agg #[.int .i64 b.cnt, .int .i64 b.sn, .bool b.so, .int .i64 b.mn, .int .i64 b.mx]] w fun e w' => e = .returned (.agg #[.int .i64 (cnt2 a.cnt b.cnt), .int .i64 (Sat.add a.sn a.so b.sn b.so).1, .bool (Sat.add a.sn a.so b.sn b.so).2, .int .i64 (min a.mn b.mn), .int .i64 (max a.mx b.mx)]) ∧ Below w.heap.size w w'
      by_cases h2 : 9223372036854775807 - b.cnt < a.cnt
      · have e : cnt2 a.cnt b.cnt = 9223372036854775807 := by unfold cnt2; rw [if_pos h2]
        rw [e]
        by_cases hm : b.mn < a.mn
        · rw [min_l hm]
          by_cases hx : a.mx < b.mx
          · rw [max_l hx]; exact refTwo_0 a b w ha hb h1 h1' h2 hm hx
          · rw [max_r hx]; exact refTwo_1 a b w ha hb h1 h1' h2 hm hx
        · rw [min_r hm]
          by_cases hx : a.mx < b.mx
          · rw [max_l hx]; exact refTwo_2 a b w ha hb h1 h1' h2 hm hx
          · rw [max_r hx]; exact refTwo_3 a b w ha hb h1 h1' h2 hm hx
      · have e : cnt2 a.cnt b.cnt = a.cnt + b.cnt := by unfold cnt2; rw [if_neg h2]
        rw [e]
        by_cases hm : b.mn < a.mn
        · rw [min_l hm]
          by_cases hx : a.mx < b.mx
          · rw [max_l hx]; exact refTwo_4 a b w ha hb h1 h1' h2 hm hx
          · rw [max_r hx]; exact refTwo_5 a b w ha hb h1 h1' h2 hm hx
        · rw [min_r hm]
          by_cases hx : a.mx < b.mx
          · rw [max_l hx]; exact refTwo_6 a b w ha hb h1 h1' h2 hm hx
          · rw [max_r hx]; exact refTwo_7 a b w ha hb h1 h1' h2 hm hx
end Go.Proofs.YtidkpalckafgkaaGreatDoor.Ce
