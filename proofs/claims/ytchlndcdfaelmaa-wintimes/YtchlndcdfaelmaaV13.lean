/- What the program's own functions of windows are held to; the fixed fact: a walk over it. -/
import Derived.Test.YtchlndcdfaelmaaW13
namespace Go.Proofs.Ytchlndcdfaelmaa.Wi
open Go Go.RowKit

/-- The program's own answers are those of the plain functions. -/
structure Own13 : Prop where
  start : ∀ (x d : Int) (w : World), ok64 x → ok64 d → Calls Try.prog 8 #[.int .i64 x, .int .i64 d] w fun e w' => e = .returned (.int .i64 (startW x d)) ∧ Below w.heap.size w w'
  «end» : ∀ (x d : Int) (w : World), ok64 x → ok64 d → Calls Try.prog 10 #[.int .i64 x, .int .i64 d] w fun e w' => e = .returned (.int .i64 (endW x d)) ∧ Below w.heap.size w w'
  closed : ∀ (x d late now : Int) (w : World), ok64 x → ok64 d → ok64 late → ok64 now → Calls Try.prog 12 #[.int .i64 x, .int .i64 d, .int .i64 late, .int .i64 now] w fun e w' => e = .returned (.bool (closedW x d late now)) ∧ Below w.heap.size w w'
  of : ∀ (t d : Int) (w : World), ok64 t → ok64 d → Calls Try.prog 14 #[.int .i64 t, .int .i64 d] w fun e w' => e = .returned (.tuple #[.int .i64 (ofW t d), .int .i64 (ofE t d)]) ∧ Below w.heap.size w w'
  tick : ∀ (now b : Int) (w : World), ok64 now → ok64 b → Calls Try.prog 16 #[.int .i64 now, .int .i64 b] w fun e w' => e = .returned (.int .i64 (tickT now b)) ∧ Below w.heap.size w w'
theorem kk (x : Int) (h : (decide (-9223372036854775808 ≤ x) && decide (x ≤ 9223372036854775807)) = true) : ok64 x := by
  rw [Bool.and_eq_true, decide_eq_true_eq, decide_eq_true_eq] at h; exact h
theorem y1 : ofW 25 10 = 2 ∧ ofE 25 10 = 0 := by decide
theorem y2 : ofW 25 0 = 0 ∧ ofE 25 0 = 1 := by decide
theorem y3 : ofW (-1) 10 = 0 ∧ ofE (-1) 10 = 3 := by decide
theorem y4 : startW 2 10 = 20 := by decide
theorem y5 : endW 2 10 = 30 := by decide
theorem y6 : closedW 2 10 5 35 = true := by decide
theorem y7 : closedW 2 10 5 34 = false := by decide
theorem y8 : tickT 3 4 = 7 := by decide
theorem y9 : tickT 3 (-4) = 3 := by decide

set_option maxRecDepth 100000 in
set_option maxHeartbeats 4000000 in
theorem alive_any (O : Own13) (w : World) : Calls Try.prog 7 #[] w fun e w' => e = .returned (.bool true) ∧ Below w.heap.size w w' := by
  have H1 := Lib.hid (fun W => O.of 25 10 W (kk _ (by decide)) (kk _ (by decide)))
  have H2 := Lib.hid (fun W => O.of 25 0 W (kk _ (by decide)) (kk _ (by decide)))
  have H3 := Lib.hid (fun W => O.of (-1) 10 W (kk _ (by decide)) (kk _ (by decide)))
  have H4 := Lib.hid (fun W => O.start 2 10 W (kk _ (by decide)) (kk _ (by decide)))
  have H5 := Lib.hid (fun W => O.end 2 10 W (kk _ (by decide)) (kk _ (by decide)))
  have H6 := Lib.hid (fun W => O.closed 2 10 5 35 W (kk _ (by decide)) (kk _ (by decide)) (kk _ (by decide)) (kk _ (by decide)))
  have H7 := Lib.hid (fun W => O.closed 2 10 5 34 W (kk _ (by decide)) (kk _ (by decide)) (kk _ (by decide)) (kk _ (by decide)))
  have H8 := Lib.hid (fun W => O.tick 3 4 W (kk _ (by decide)) (kk _ (by decide)))
  have H9 := Lib.hid (fun W => O.tick 3 (-4) W (kk _ (by decide)) (kk _ (by decide)))
  rw [y1.1, y1.2] at H1
  rw [y2.1, y2.2] at H2
  rw [y3.1, y3.2] at H3
  rw [y4] at H4
  rw [y5] at H5
  rw [y6] at H6
  rw [y7] at H7
  rw [y8] at H8
  rw [y9] at H9
  clear O
  go_enter Try.func7, Try.ntmps7
  go_wp2_with fail
  refine (H1.out _).mono ?_
  rintro e w1 ⟨rfl, n1⟩
  have D1 := Lib.hid n1
  clear n1 H1
  go_wp2_with fail
  refine (H2.out _).mono ?_
  rintro e w2 ⟨rfl, n2⟩
  have D2 := Lib.hid (D1.out.trans (n2.mono D1.out.size))
  clear n2 H2 D1
  go_wp2_with fail
  refine (H3.out _).mono ?_
  rintro e w3 ⟨rfl, n3⟩
  have D3 := Lib.hid (D2.out.trans (n3.mono D2.out.size))
  clear n3 H3 D2
  go_wp2_with fail
  refine (H4.out _).mono ?_
  rintro e w4 ⟨rfl, n4⟩
  have D4 := Lib.hid (D3.out.trans (n4.mono D3.out.size))
  clear n4 H4 D3
  go_wp2_with fail
  refine (H5.out _).mono ?_
  rintro e w5 ⟨rfl, n5⟩
  have D5 := Lib.hid (D4.out.trans (n5.mono D4.out.size))
  clear n5 H5 D4
  go_wp2_with fail
  refine (H6.out _).mono ?_
  rintro e w6 ⟨rfl, n6⟩
  have D6 := Lib.hid (D5.out.trans (n6.mono D5.out.size))
  clear n6 H6 D5
  go_wp2_with fail
  refine (H7.out _).mono ?_
  rintro e w7 ⟨rfl, n7⟩
  have D7 := Lib.hid (D6.out.trans (n7.mono D6.out.size))
  clear n7 H7 D6
  go_wp2_with fail
  refine (H8.out _).mono ?_
  rintro e w8 ⟨rfl, n8⟩
  have D8 := Lib.hid (D7.out.trans (n8.mono D7.out.size))
  clear n8 H8 D7
  go_wp2_with fail
  refine (H9.out _).mono ?_
  rintro e w9 ⟨rfl, n9⟩
  have D9 := Lib.hid (D8.out.trans (n9.mono D8.out.size))
  clear n9 H9 D8
  go_wp2_with fail
  go_ret
  exact ⟨rfl, D9.out⟩
end Go.Proofs.Ytchlndcdfaelmaa.Wi
