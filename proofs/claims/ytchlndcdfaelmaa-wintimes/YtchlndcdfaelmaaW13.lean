/- Windows: walks of the document's. -/
import Derived.Test.YtchlndcdfaelmaaM13
import Derived.Test.YtchlndcdfaelmaaH0
namespace Go.Proofs.Ytchlndcdfaelmaa.Wi
open Go Go.RowKit

set_option maxRecDepth 100000 in
set_option maxHeartbeats 1000000 in
theorem there_any (x d : Int) (w : World) : Calls Try.prog 19 #[.int .i64 x, .int .i64 d] w fun e w' => e = .returned (.bool (mayW x d)) ∧ w' = w := by
  unfold mayW
  cases h1 : decide (1 ≤ d)
  · go_enter Try.func19, Try.ntmps19
    go_wp2_with fail
    go_ret
    exact ⟨by first | rfl | simp, rfl⟩
  · cases h2 : decide (d ≤ 1000)
    · go_enter Try.func19, Try.ntmps19
      go_wp2_with fail
      go_ret
      exact ⟨by first | rfl | simp, rfl⟩
    · cases h3 : decide (0 ≤ x)
      · go_enter Try.func19, Try.ntmps19
        go_wp2_with fail
        go_ret
        exact ⟨by first | rfl | simp, rfl⟩
      · go_enter Try.func19, Try.ntmps19
        go_wp2_with fail
        go_ret
        exact ⟨by first | rfl | simp, rfl⟩

set_option maxRecDepth 100000 in
set_option maxHeartbeats 1000000 in
theorem refStart_any (x d : Int) (w : World) : Calls Try.prog 9 #[.int .i64 x, .int .i64 d] w fun e w' => e = .returned (.int .i64 (startW x d)) ∧ w' = w := by
  have HC := Lib.hid (fun W => there_any x d W)
  cases h : mayW x d
  · rw [startW_f h]
    rw [h] at HC
    clear h
    go_enter Try.func9, Try.ntmps9
    go_wp2_with (go_at_call 19; refine (HC.out _).mono ?_; rintro e w' ⟨rfl, rfl⟩)
    go_ret
    exact ⟨rfl, rfl⟩
  · have hb := startW_ok x d
    rw [startW_t h] at hb ⊢
    rw [h] at HC
    have hw : IntKind.i64.wrap (x * d) = x * d := by rw [IntKind.wrap_i64]; omega
    clear h
    go_enter Try.func9, Try.ntmps9
    go_wp2_with (go_at_call 19; refine (HC.out _).mono ?_; rintro e w' ⟨rfl, rfl⟩)
    go_ret
    exact ⟨by first | rfl | simp [hw], rfl⟩

set_option maxRecDepth 100000 in
set_option maxHeartbeats 1000000 in
theorem refEnd_any (x d : Int) (w : World) : Calls Try.prog 11 #[.int .i64 x, .int .i64 d] w fun e w' => e = .returned (.int .i64 (endW x d)) ∧ w' = w := by
  have HC := Lib.hid (fun W => there_any x d W)
  cases h : mayW x d
  · rw [endW_f h]
    rw [h] at HC
    clear h
    go_enter Try.func11, Try.ntmps11
    go_wp2_with (go_at_call 19; refine (HC.out _).mono ?_; rintro e w' ⟨rfl, rfl⟩)
    go_ret
    exact ⟨rfl, rfl⟩
  · have hb := startW_ok x d
    have hb2 := endW_ok x d
    rw [startW_t h] at hb
    rw [endW_t h] at hb2 ⊢
    rw [h] at HC
    have hw : IntKind.i64.wrap (x * d) = x * d := by rw [IntKind.wrap_i64]; omega
    have hw2 : IntKind.i64.wrap (x * d + d) = x * d + d := by rw [IntKind.wrap_i64]; omega
    clear h
    go_enter Try.func11, Try.ntmps11
    go_wp2_with (go_at_call 19; refine (HC.out _).mono ?_; rintro e w' ⟨rfl, rfl⟩)
    go_ret
    exact ⟨by first | rfl | simp [hw, hw2], rfl⟩

set_option maxRecDepth 100000 in
set_option maxHeartbeats 1000000 in
theorem refClosed_any (x d late now : Int) (w : World) : Calls Try.prog 13 #[.int .i64 x, .int .i64 d, .int .i64 late, .int .i64 now] w fun e w' => e = .returned (.bool (closedW x d late now)) ∧ w' = w := by
  have HC := Lib.hid (fun W => there_any x d W)
  unfold closedW
  cases h : mayW x d
  · rw [h] at HC
    clear h
    go_enter Try.func13, Try.ntmps13
    go_wp2_with (go_at_call 19; refine (HC.out _).mono ?_; rintro e w' ⟨rfl, rfl⟩)
    go_ret
    exact ⟨by first | rfl | simp, rfl⟩
  · have hb := startW_ok x d
    have hb2 := endW_ok x d
    rw [startW_t h] at hb
    rw [endW_t h] at hb2
    rw [h] at HC
    cases h2 : decide (0 ≤ late)
    · clear h
      go_enter Try.func13, Try.ntmps13
      go_wp2_with (go_at_call 19; refine (HC.out _).mono ?_; rintro e w' ⟨rfl, rfl⟩)
      go_ret
      exact ⟨by first | rfl | simp, rfl⟩
    · cases h3 : decide (late ≤ 1000)
      · clear h
        go_enter Try.func13, Try.ntmps13
        go_wp2_with (go_at_call 19; refine (HC.out _).mono ?_; rintro e w' ⟨rfl, rfl⟩)
        go_ret
        exact ⟨by first | rfl | simp, rfl⟩
      · have k2 : 0 ≤ late := of_decide_eq_true h2
        have k3 : late ≤ 1000 := of_decide_eq_true h3
        have hw : IntKind.i64.wrap (x * d) = x * d := by rw [IntKind.wrap_i64]; omega
        have hw2 : IntKind.i64.wrap (x * d + d) = x * d + d := by rw [IntKind.wrap_i64]; omega
        have hw3 : IntKind.i64.wrap (x * d + d + late) = x * d + d + late := by rw [IntKind.wrap_i64]; omega
        clear h k2 k3
        go_enter Try.func13, Try.ntmps13
        go_wp2_with (go_at_call 19; refine (HC.out _).mono ?_; rintro e w' ⟨rfl, rfl⟩)
        go_ret
        exact ⟨by first | rfl | simp [hw, hw2, hw3], rfl⟩

set_option maxRecDepth 100000 in
set_option maxHeartbeats 1000000 in
theorem refOf_any (t d : Int) (w : World) : Calls Try.prog 15 #[.int .i64 t, .int .i64 d] w fun e w' => e = .returned (.tuple #[.int .i64 (ofW t d), .int .i64 (ofE t d)]) ∧ w' = w := by
  by_cases h1 : d < 1 ∨ 1000 < d
  · have he := ofE_arg (t := t) h1
    have hv := ofW_bad (t := t) (d := d) (by rw [he]; decide)
    rw [hv, he]
    clear he hv
    by_cases h2 : d < 1
    · have q : decide (d < 1) = true := decide_eq_true h2
      go_enter Try.func15, Try.ntmps15
      go_wp2_with fail
      exact bodyPost_ret (v := .tuple #[.int .i64 0, .int .i64 1]) (by simp [results, Try.results15, go_sem]) rfl ⟨rfl, rfl⟩
    · have q : decide (d < 1) = false := decide_eq_false h2
      have q2 : decide (1000 < d) = true := decide_eq_true (by omega)
      have q3 : 1000 < d := by omega
      go_enter Try.func15, Try.ntmps15
      go_wp2_with fail
      exact bodyPost_ret (v := .tuple #[.int .i64 0, .int .i64 1]) (by simp [results, Try.results15, go_sem]) rfl ⟨rfl, rfl⟩
  · have d1 : decide (d < 1) = false := decide_eq_false (by omega)
    have d2 : decide (1000 < d) = false := decide_eq_false (by omega)
    by_cases h2 : t < 0 ∨ 1000000000000 < t
    · have he := ofE_range h1 h2
      have hv := ofW_bad (t := t) (d := d) (by rw [he]; decide)
      rw [hv, he]
      clear he hv
      by_cases h3 : t < 0
      · have q : decide (t < 0) = true := decide_eq_true h3
        go_enter Try.func15, Try.ntmps15
        go_wp2_with fail
        exact bodyPost_ret (v := .tuple #[.int .i64 0, .int .i64 3]) (by simp [results, Try.results15, go_sem]) rfl ⟨rfl, rfl⟩
      · have q : decide (t < 0) = false := decide_eq_false h3
        have q2 : decide (1000000000000 < t) = true := decide_eq_true (by omega)
        have q3 : 1000000000000 < t := by omega
        go_enter Try.func15, Try.ntmps15
        go_wp2_with fail
        exact bodyPost_ret (v := .tuple #[.int .i64 0, .int .i64 3]) (by simp [results, Try.results15, go_sem]) rfl ⟨rfl, rfl⟩
    · have he := ofE_ok h1 h2
      have hv := ofW_ok he
      have hb := ofW_bound t d
      rw [hv] at hb
      rw [hv, he]
      have e1 : decide (t < 0) = false := decide_eq_false (by omega)
      have e2 : decide (1000000000000 < t) = false := decide_eq_false (by omega)
      have z1 : ¬ d = 0 := by omega
      have z2 : (d == 0) = false := by simp [z1]
      have hw : IntKind.i64.wrap (Int.tdiv t d) = Int.tdiv t d := by rw [IntKind.wrap_i64]; omega
      clear he hv
      go_enter Try.func15, Try.ntmps15
      go_wp2_with fail
      exact bodyPost_ret (v := .tuple #[.int .i64 (Int.tdiv t d), .int .i64 0]) (by simp [results, Try.results15, go_sem]) rfl ⟨rfl, rfl⟩

set_option maxRecDepth 100000 in
set_option maxHeartbeats 1000000 in
theorem refTick_any (now b : Int) (w : World) (hn : ok64 now) (hb : ok64 b) : Calls Try.prog 17 #[.int .i64 now, .int .i64 b] w fun e w' => e = .returned (.int .i64 (tickT now b)) ∧ w' = w := by
  unfold tickT topT
  unfold ok64 at hn hb
  by_cases h1 : b < 0
  · rw [if_pos h1]
    have q : decide (b < 0) = true := decide_eq_true h1
    go_enter Try.func17, Try.ntmps17
    go_wp2_with fail
    go_ret
    exact ⟨rfl, rfl⟩
  · rw [if_neg h1]
    have q : decide (b < 0) = false := decide_eq_false h1
    by_cases h2 : (4000000000000000 : Int) ≤ b
    · rw [if_pos (Or.inl h2)]
      have q2 : decide ((4000000000000000 : Int) ≤ b) = true := decide_eq_true h2
      go_enter Try.func17, Try.ntmps17
      go_wp2_with fail
      go_ret
      exact ⟨rfl, rfl⟩
    · have q2 : decide ((4000000000000000 : Int) ≤ b) = false := decide_eq_false h2
      have hw : IntKind.i64.wrap (4000000000000000 - b) = 4000000000000000 - b := by rw [IntKind.wrap_i64]; omega
      by_cases h3 : 4000000000000000 - b < now
      · rw [if_pos (Or.inr h3)]
        have q3 : decide (4000000000000000 - b < now) = true := decide_eq_true h3
        go_enter Try.func17, Try.ntmps17
        go_wp2_with fail
        go_ret
        exact ⟨rfl, rfl⟩
      · rw [if_neg (by omega)]
        have q3 : decide (4000000000000000 - b < now) = false := decide_eq_false h3
        have hw2 : IntKind.i64.wrap (now + b) = now + b := by rw [IntKind.wrap_i64]; omega
        go_enter Try.func17, Try.ntmps17
        go_wp2_with fail
        go_ret
        exact ⟨by first | rfl | simp [hw2], rfl⟩
end Go.Proofs.Ytchlndcdfaelmaa.Wi
