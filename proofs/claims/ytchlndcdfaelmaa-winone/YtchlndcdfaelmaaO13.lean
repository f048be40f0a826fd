/- Windows: walks of the program's own functions, and that they answer as the plain ones. -/
import Derived.Test.YtchlndcdfaelmaaV13
namespace Go.Proofs.Ytchlndcdfaelmaa.Wi
open Go Go.RowKit

set_option maxRecDepth 100000 in
set_option maxHeartbeats 1000000 in
theorem wide_own (d : Int) (w : World) : Calls Try.prog 21 #[.int .i64 d] w fun e w' => e = .returned (.bool (decide (1 ≤ d) && decide (d ≤ 1000))) ∧ w' = w := by
  cases h1 : decide (1 ≤ d)
  · go_enter Try.func21, Try.ntmps21
    go_wp2_with fail
    go_ret
    exact ⟨by first | rfl | simp, rfl⟩
  · cases h2 : decide (d ≤ 1000)
    · go_enter Try.func21, Try.ntmps21
      go_wp2_with fail
      go_ret
      exact ⟨by first | rfl | simp, rfl⟩
    · go_enter Try.func21, Try.ntmps21
      go_wp2_with fail
      go_ret
      exact ⟨by first | rfl | simp, rfl⟩

set_option maxRecDepth 100000 in
set_option maxHeartbeats 1000000 in
theorem late_own (d : Int) (w : World) : Calls Try.prog 20 #[.int .i64 d] w fun e w' => e = .returned (.bool (decide (0 ≤ d) && decide (d ≤ 1000))) ∧ w' = w := by
  cases h1 : decide (0 ≤ d)
  · go_enter Try.func20, Try.ntmps20
    go_wp2_with fail
    go_ret
    exact ⟨by first | rfl | simp, rfl⟩
  · cases h2 : decide (d ≤ 1000)
    · go_enter Try.func20, Try.ntmps20
      go_wp2_with fail
      go_ret
      exact ⟨by first | rfl | simp, rfl⟩
    · go_enter Try.func20, Try.ntmps20
      go_wp2_with fail
      go_ret
      exact ⟨by first | rfl | simp, rfl⟩

set_option maxRecDepth 100000 in
set_option maxHeartbeats 1000000 in
theorem event_own (t : Int) (w : World) : Calls Try.prog 22 #[.int .i64 t] w fun e w' => e = .returned (.bool (decide (0 ≤ t) && decide (t ≤ 1000000000000))) ∧ w' = w := by
  cases h1 : decide (0 ≤ t)
  · go_enter Try.func22, Try.ntmps22
    go_wp2_with fail
    go_ret
    exact ⟨by first | rfl | simp, rfl⟩
  · cases h2 : decide (t ≤ 1000000000000)
    · go_enter Try.func22, Try.ntmps22
      go_wp2_with fail
      go_ret
      exact ⟨by first | rfl | simp, rfl⟩
    · go_enter Try.func22, Try.ntmps22
      go_wp2_with fail
      go_ret
      exact ⟨by first | rfl | simp, rfl⟩

set_option maxRecDepth 100000 in
set_option maxHeartbeats 1000000 in
theorem window_own (x d : Int) (w : World) : Calls Try.prog 18 #[.int .i64 x, .int .i64 d] w fun e w' => e = .returned (.bool (mayW x d)) ∧ w' = w := by
  have HC := Lib.hid (fun W => wide_own d W)
  unfold mayW
  cases h1 : (decide (1 ≤ d) && decide (d ≤ 1000))
  · rw [h1] at HC
    clear h1
    go_enter Try.func18, Try.ntmps18
    go_wp2_with (go_at_call 21; refine (HC.out _).mono ?_; rintro e w' ⟨rfl, rfl⟩)
    go_ret
    exact ⟨by first | rfl | simp, rfl⟩
  · rw [h1] at HC
    clear h1
    cases h3 : decide (0 ≤ x)
    · go_enter Try.func18, Try.ntmps18
      go_wp2_with (go_at_call 21; refine (HC.out _).mono ?_; rintro e w' ⟨rfl, rfl⟩)
      go_ret
      exact ⟨by first | rfl | simp, rfl⟩
    · go_enter Try.func18, Try.ntmps18
      go_wp2_with (go_at_call 21; refine (HC.out _).mono ?_; rintro e w' ⟨rfl, rfl⟩)
      go_ret
      exact ⟨by first | rfl | simp, rfl⟩

set_option maxRecDepth 100000 in
set_option maxHeartbeats 1000000 in
theorem start_own (x d : Int) (w : World) : Calls Try.prog 8 #[.int .i64 x, .int .i64 d] w fun e w' => e = .returned (.int .i64 (startW x d)) ∧ w' = w := by
  have HC := Lib.hid (fun W => window_own x d W)
  cases h : mayW x d
  · rw [startW_f h]
    rw [h] at HC
    clear h
    go_enter Try.func8, Try.ntmps8
    go_wp2_with (go_at_call 18; refine (HC.out _).mono ?_; rintro e w' ⟨rfl, rfl⟩)
    go_ret
    exact ⟨rfl, rfl⟩
  · have hb := startW_ok x d
    rw [startW_t h] at hb ⊢
    rw [h] at HC
    have hw : IntKind.i64.wrap (x * d) = x * d := by rw [IntKind.wrap_i64]; omega
    clear h
    go_enter Try.func8, Try.ntmps8
    go_wp2_with (go_at_call 18; refine (HC.out _).mono ?_; rintro e w' ⟨rfl, rfl⟩)
    go_ret
    exact ⟨by first | rfl | simp [hw], rfl⟩

set_option maxRecDepth 100000 in
set_option maxHeartbeats 1000000 in
theorem end_own (x d : Int) (w : World) : Calls Try.prog 10 #[.int .i64 x, .int .i64 d] w fun e w' => e = .returned (.int .i64 (endW x d)) ∧ w' = w := by
  have HC := Lib.hid (fun W => window_own x d W)
  cases h : mayW x d
  · rw [endW_f h]
    rw [h] at HC
    clear h
    go_enter Try.func10, Try.ntmps10
    go_wp2_with (go_at_call 18; refine (HC.out _).mono ?_; rintro e w' ⟨rfl, rfl⟩)
    go_ret
    exact ⟨rfl, rfl⟩
  · have hb2 := endW_ok x d
    obtain ⟨⟨_, _⟩, k3, k4⟩ := mayW_true.1 h
    rw [endW_t h] at hb2 ⊢
    rw [h] at HC
    have e1 : (x + 1) * d = x * d + d := by rw [Int.add_mul, Int.one_mul]
    have hw : IntKind.i64.wrap (x + 1) = x + 1 := by rw [IntKind.wrap_i64]; omega
    have hw2 : IntKind.i64.wrap ((x + 1) * d) = x * d + d := by rw [e1, IntKind.wrap_i64]; omega
    clear h
    go_enter Try.func10, Try.ntmps10
    go_wp2_with (go_at_call 18; refine (HC.out _).mono ?_; rintro e w' ⟨rfl, rfl⟩)
    go_ret
    exact ⟨by first | rfl | simp [hw, hw2], rfl⟩

set_option maxRecDepth 100000 in
set_option maxHeartbeats 1000000 in
theorem closed_own (x d late now : Int) (w : World) : Calls Try.prog 12 #[.int .i64 x, .int .i64 d, .int .i64 late, .int .i64 now] w fun e w' => e = .returned (.bool (closedW x d late now)) ∧ w' = w := by
  have HC := Lib.hid (fun W => window_own x d W)
  have HL := Lib.hid (fun W => late_own late W)
  have HE := Lib.hid (fun W => end_own x d W)
  have hb2 := endW_ok x d
  unfold closedW
  cases h : mayW x d
  · rw [h] at HC
    clear h
    go_enter Try.func12, Try.ntmps12
    go_wp2_with (go_at_call 18; refine (HC.out _).mono ?_; rintro e w' ⟨rfl, rfl⟩)
    go_ret
    exact ⟨by first | rfl | simp, rfl⟩
  · rw [endW_t h] at hb2 HE
    rw [h] at HC
    clear h
    rw [Bool.true_and]
    by_cases h2 : 0 ≤ late ∧ late ≤ 1000
    · obtain ⟨k2, k3⟩ := h2
      have q2 : decide (0 ≤ late) = true := decide_eq_true k2
      have q3 : decide (late ≤ 1000) = true := decide_eq_true k3
      rw [q2, q3] at HL ⊢
      obtain ⟨E, hE⟩ : ∃ E, E = x * d + d := ⟨_, rfl⟩
      rw [← hE] at hb2 HE ⊢
      have hw3 : IntKind.i64.wrap (E + late) = E + late := by rw [IntKind.wrap_i64]; omega
      clear hE q2 q3 k2 k3
      go_enter Try.func12, Try.ntmps12
      go_wp2_with (first
        | (go_at_call 18; refine (HC.out _).mono ?_; rintro e w' ⟨rfl, rfl⟩)
        | (go_at_call 20; refine (HL.out _).mono ?_; rintro e w' ⟨rfl, rfl⟩)
        | (go_at_call 10; refine (HE.out _).mono ?_; rintro e w' ⟨rfl, rfl⟩))
      go_ret
      exact ⟨by first | rfl | simp [hw3], rfl⟩
    · have q : (decide (0 ≤ late) && decide (late ≤ 1000)) = false := by
        cases g1 : decide (0 ≤ late)
        · rfl
        · cases g2 : decide (late ≤ 1000)
          · rfl
          · exact absurd ⟨of_decide_eq_true g1, of_decide_eq_true g2⟩ h2
      rw [q] at HL ⊢
      clear q h2
      go_enter Try.func12, Try.ntmps12
      go_wp2_with (first
        | (go_at_call 18; refine (HC.out _).mono ?_; rintro e w' ⟨rfl, rfl⟩)
        | (go_at_call 20; refine (HL.out _).mono ?_; rintro e w' ⟨rfl, rfl⟩))
      go_ret
      exact ⟨by first | rfl | simp, rfl⟩

set_option maxRecDepth 100000 in
set_option maxHeartbeats 1000000 in
theorem of_own (t d : Int) (w : World) : Calls Try.prog 14 #[.int .i64 t, .int .i64 d] w fun e w' => e = .returned (.tuple #[.int .i64 (ofW t d), .int .i64 (ofE t d)]) ∧ w' = w := by
  have HC := Lib.hid (fun W => wide_own d W)
  have HT := Lib.hid (fun W => event_own t W)
  by_cases h1 : d < 1 ∨ 1000 < d
  · have he := ofE_arg (t := t) h1
    have hv := ofW_bad (t := t) (d := d) (by rw [he]; decide)
    rw [hv, he]
    have q : (decide (1 ≤ d) && decide (d ≤ 1000)) = false := by
      cases g1 : decide (1 ≤ d)
      · rfl
      · cases g2 : decide (d ≤ 1000)
        · rfl
        · have := of_decide_eq_true g1; have := of_decide_eq_true g2; omega
    rw [q] at HC
    clear he hv q HT
    go_enter Try.func14, Try.ntmps14
    go_wp2_with (go_at_call 21; refine (HC.out _).mono ?_; rintro e w' ⟨rfl, rfl⟩)
    exact bodyPost_ret (v := .tuple #[.int .i64 0, .int .i64 1]) (by simp [results, Try.results14, go_sem]) rfl ⟨rfl, rfl⟩
  · have q : (decide (1 ≤ d) && decide (d ≤ 1000)) = true := by
      rw [decide_eq_true (show 1 ≤ d by omega), decide_eq_true (show d ≤ 1000 by omega)]; rfl
    rw [q] at HC
    clear q
    by_cases h2 : t < 0 ∨ 1000000000000 < t
    · have he := ofE_range h1 h2
      have hv := ofW_bad (t := t) (d := d) (by rw [he]; decide)
      rw [hv, he]
      have q : (decide (0 ≤ t) && decide (t ≤ 1000000000000)) = false := by
        cases g1 : decide (0 ≤ t)
        · rfl
        · cases g2 : decide (t ≤ 1000000000000)
          · rfl
          · have := of_decide_eq_true g1; have := of_decide_eq_true g2; omega
      rw [q] at HT
      clear he hv q
      go_enter Try.func14, Try.ntmps14
      go_wp2_with (first
        | (go_at_call 21; refine (HC.out _).mono ?_; rintro e w' ⟨rfl, rfl⟩)
        | (go_at_call 22; refine (HT.out _).mono ?_; rintro e w' ⟨rfl, rfl⟩))
      exact bodyPost_ret (v := .tuple #[.int .i64 0, .int .i64 3]) (by simp [results, Try.results14, go_sem]) rfl ⟨rfl, rfl⟩
    · have he := ofE_ok h1 h2
      have hv := ofW_ok he
      have hb := ofW_bound t d
      rw [hv] at hb
      rw [hv, he]
      have q : (decide (0 ≤ t) && decide (t ≤ 1000000000000)) = true := by
        rw [decide_eq_true (show 0 ≤ t by omega), decide_eq_true (show t ≤ 1000000000000 by omega)]; rfl
      rw [q] at HT
      have z1 : ¬ d = 0 := by omega
      have z2 : (d == 0) = false := by simp [z1]
      have hw : IntKind.i64.wrap (Int.tdiv t d) = Int.tdiv t d := by rw [IntKind.wrap_i64]; omega
      clear he hv q
      go_enter Try.func14, Try.ntmps14
      go_wp2_with (first
        | (go_at_call 21; refine (HC.out _).mono ?_; rintro e w' ⟨rfl, rfl⟩)
        | (go_at_call 22; refine (HT.out _).mono ?_; rintro e w' ⟨rfl, rfl⟩))
      exact bodyPost_ret (v := .tuple #[.int .i64 (Int.tdiv t d), .int .i64 0]) (by simp [results, Try.results14, go_sem]) rfl ⟨rfl, rfl⟩

set_option maxRecDepth 100000 in
set_option maxHeartbeats 1000000 in
theorem tick_own (now b : Int) (w : World) (hn : ok64 now) (hb : ok64 b) : Calls Try.prog 16 #[.int .i64 now, .int .i64 b] w fun e w' => e = .returned (.int .i64 (tickT now b)) ∧ w' = w := by
  unfold tickT topT
  unfold ok64 at hn hb
  by_cases h1 : b < 0
  · rw [if_pos h1]
    have q : decide (b < 0) = true := decide_eq_true h1
    go_enter Try.func16, Try.ntmps16
    go_wp2_with fail
    go_ret
    exact ⟨rfl, rfl⟩
  · rw [if_neg h1]
    have q : decide (b < 0) = false := decide_eq_false h1
    by_cases h2 : (4000000000000000 : Int) ≤ b
    · rw [if_pos (Or.inl h2)]
      have q2 : decide ((4000000000000000 : Int) ≤ b) = true := decide_eq_true h2
      go_enter Try.func16, Try.ntmps16
      go_wp2_with fail
      go_ret
      exact ⟨rfl, rfl⟩
    · have q2 : decide ((4000000000000000 : Int) ≤ b) = false := decide_eq_false h2
      have hw : IntKind.i64.wrap (4000000000000000 - b) = 4000000000000000 - b := by rw [IntKind.wrap_i64]; omega
      by_cases h3 : 4000000000000000 - b < now
      · rw [if_pos (Or.inr h3)]
        have q3 : decide (4000000000000000 - b < now) = true := decide_eq_true h3
        go_enter Try.func16, Try.ntmps16
        go_wp2_with fail
        go_ret
        exact ⟨rfl, rfl⟩
      · rw [if_neg (by omega)]
        have q3 : decide (4000000000000000 - b < now) = false := decide_eq_false h3
        have hw2 : IntKind.i64.wrap (now + b) = now + b := by rw [IntKind.wrap_i64]; omega
        go_enter Try.func16, Try.ntmps16
        go_wp2_with fail
        go_ret
        exact ⟨by first | rfl | simp [hw2], rfl⟩

theorem own13 : Own13 where
  start x d w _ _ := (start_own x d w).mono (by rintro e w' ⟨rfl, rfl⟩; exact ⟨rfl, Below.refl _ _⟩)
  «end» x d w _ _ := (end_own x d w).mono (by rintro e w' ⟨rfl, rfl⟩; exact ⟨rfl, Below.refl _ _⟩)
  closed x d late now w _ _ _ _ := (closed_own x d late now w).mono (by rintro e w' ⟨rfl, rfl⟩; exact ⟨rfl, Below.refl _ _⟩)
  of t d w _ _ := (of_own t d w).mono (by rintro e w' ⟨rfl, rfl⟩; exact ⟨rfl, Below.refl _ _⟩)
  tick now b w hn hb := (tick_own now b w hn hb).mono (by rintro e w' ⟨rfl, rfl⟩; exact ⟨rfl, Below.refl _ _⟩)
end Go.Proofs.Ytchlndcdfaelmaa.Wi
