/- The program's own Right, Push, Pop, Same, Pending, Stable: walks; what the walks are held to. -/
import Derived.Test.YtmgfgfkkhcibcaaOA14
import Derived.Test.YtmgfgfkkhcibcaaOC14
namespace Go.Proofs.Ytmgfgfkkhcibcaa.Se
open Go Go.RowKit Go.Sort Go.Lib

set_option maxRecDepth 100000 in
set_option maxHeartbeats 2000000 in
theorem right_own (v : Value) (l : List Wr) (w : World) (h : WRow w v l) (hn : l.length ≤ 1000000) :
    Calls Try.prog 13 #[v] w fun e w' => e = .returned (.bool (rightQ l)) ∧ Below w.heap.size w w' := by
  obtain ⟨a, c, rfl, hc, hl⟩ := h
  have HL := Lib.hid hl
  obtain ⟨F, HF⟩ : ∃ F, Hid (rightQ l = F) := ⟨_, rfl⟩
  rw [HF.out]
  clear hl
  go_enter Try.func13, Try.ntmps13
  go_wp2_with fail
  go_loopw [3, 8] (fun s i wr => ∃ k : Nat, k ≤ l.length ∧ i = .int .i64 k ∧ s = .int .i64 (before l k) ∧ Hid (Below w.heap.size w wr) ∧ Hid (F = rightFrom (before l k) (l.drop k))) (fun _ i _ => l.length - (intOf i).toNat)
  case atStart => exact ⟨0, Nat.zero_le _, rfl, by rw [before_zero], Below.refl _ _, by rw [before_zero]; exact (HF.out).symm⟩
  case round =>
    obtain ⟨k, hk, rfl, rfl, HD, HT⟩ := hrel
    by_cases hlt : k < l.length
    · obtain ⟨b, o, rfl, hb, hL⟩ := HL.out (ne_of_lt hlt)
      obtain ⟨e1, e2, e3, e4⟩ := w_at (hL.on hb HD.out) k hlt
      have i1 : (k : Int) < (l.length : Int) := by omega
      have i2 : (0 : Int) ≤ (k : Int) := by omega
      have HX := Lib.hid ((HT.out).trans (right_step hlt))
      have HA := Lib.hid (before_next hlt)
      have hz := HD.out.size
      generalize before l k = A at *
      generalize l[k] = x at *
      obtain ⟨x0, x1, x2, x3⟩ := x
      simp only at e1 e2 e3 e4 HX HA
      clear hL HL HT
      by_cases c1 : x0 ≤ A
      · have HM : Hid (F = false) := Lib.hid ((HX.out).trans (by rw [decide_eq_false (show ¬ A < x0 by omega), Bool.false_and]))
        have q1 : decide (x0 ≤ A) = true := decide_eq_true c1
        clear HX HA
        go_wp2_with fail
        go_ret
        exact ⟨by first | (rw [HM.out]; done) | (rw [HM.out]; rfl), HD.out.alloc hz _⟩
      · have q1 : decide (x0 ≤ A) = false := decide_eq_false c1
        by_cases c2 : 1000000000000000 < x0
        · have HM : Hid (F = false) := Lib.hid ((HX.out).trans (by rw [decide_eq_false (show ¬ x0 ≤ 1000000000000000 by omega), Bool.false_and, Bool.and_false]))
          have q2 : decide (1000000000000000 < x0) = true := decide_eq_true c2
          clear HX HA
          go_wp2_with fail
          go_ret
          exact ⟨by first | (rw [HM.out]; done) | (rw [HM.out]; rfl), HD.out.alloc hz _⟩
        · have q2 : decide (1000000000000000 < x0) = false := decide_eq_false c2
          have HM : Hid (F = rightFrom (before l (k + 1)) (l.drop (k + 1))) := Lib.hid (by rw [HA.out]; exact (HX.out).trans (by rw [decide_eq_true (show A < x0 by omega), decide_eq_true (show x0 ≤ 1000000000000000 by omega), Bool.true_and, Bool.true_and]))
          clear HX
          go_wp2_with fail
          exact ⟨⟨k + 1, by omega, by go_num, by rw [HA.out], HD.out.alloc hz _, HM⟩, by simp [intOf]; omega⟩
    · have HM : Hid (F = true) := Lib.hid (by
        have := HT.out
        rw [List.drop_of_length_le (by omega)] at this
        exact this)
      have i1 : ¬ (k : Int) < (l.length : Int) := by omega
      go_wp2_with fail
      go_ret
      exact ⟨by first | (rw [HM.out]; done) | (rw [HM.out]; rfl), HD.out⟩

theorem pushQ_no {q m : List Wr} (h : rightQ (q ++ m) = false) : pushQ q m = ([], 9) := by rw [pushQ, h]; rfl
theorem pushQ_ok {q m : List Wr} (h : rightQ (q ++ m) = true) : pushQ q m = (q ++ m, 0) := by rw [pushQ, h]; rfl
set_option maxRecDepth 100000 in
set_option maxHeartbeats 2000000 in
theorem push_own (v1 v2 : Value) (l m : List Wr) (w : World) (h1 : WRow w v1 l) (h2 : WRow w v2 m) (hn1 : l.length ≤ 1000) (hn2 : m.length ≤ 1000) :
    Calls Try.prog 8 #[v1, v2] w fun e w' => (∃ v', e = .returned (.tuple #[v', .int .i64 (pushQ l m).2]) ∧ WRow w' v' (pushQ l m).1) ∧ Below w.heap.size w w' := by
  have d1 := aBelow w (.cells #[v1, v2] 22)
  have HC := Lib.hid (concat_two v1 v2 l m w.heap.size 2 (w.alloc (.cells #[v1, v2] 22)) (h1.on d1) (h2.on d1) (by simp) (by simp) hn1 hn2)
  obtain ⟨a1, c1, rfl, -, -⟩ := h1
  obtain ⟨a2, c2, rfl, -, -⟩ := h2
  go_enter Try.func8, Try.ntmps8
  go_wp2_with fail
  refine (HC.out).mono ?_
  rintro e w5 ⟨⟨v5, rfl, hr⟩, n5⟩
  have d5 := d1.trans (n5.mono d1.size)
  have HK := Lib.hid (right_own _ (l ++ m) w5 hr (by rw [List.length_append]; omega))
  have HRR := Lib.hid hr
  obtain ⟨p5, q5, rfl, -, -⟩ := hr
  clear HC n5 d1
  generalize (l ++ m).length = N at *
  cases hv : rightQ (l ++ m)
  · have HM := Lib.hid (pushQ_no hv)
    rw [hv] at HK
    clear hv
    go_wp2_with fail
    refine (HK.out).mono ?_
    rintro e w6 ⟨rfl, n6⟩
    go_wp2_with fail
    go_ret2
    refine ⟨⟨.slice none 0 0, ?_, ?_⟩, d5.trans (n6.mono d5.size)⟩
    · rw [HM.out]; rfl
    · rw [HM.out]; exact GRow.nil _
  · have HM := Lib.hid (pushQ_ok hv)
    rw [hv] at HK
    clear hv
    go_wp2_with fail
    refine (HK.out).mono ?_
    rintro e w6 ⟨rfl, n6⟩
    go_wp2_with fail
    go_ret2
    refine ⟨⟨.slice p5 N q5, ?_, ?_⟩, d5.trans (n6.mono d5.size)⟩
    · rw [HM.out]; rfl
    · rw [HM.out]; exact HRR.out.on n6

/-! ### the same ones -/
set_option maxHeartbeats 4000000 in
theorem equal_cells (a1 a2 : Option Addr) (c1 c2 : Nat) (l m : List Wr) (w : World) (h1 : WAt w a1 l) (h2 : WAt w a2 m) (hn : l.length ≤ 1000000) :
    Calls Try.prog 26 #[.slice a1 l.length c1, .slice a2 m.length c2] w fun e w' => e = .returned (.bool (sameQ l m)) ∧ Below w.heap.size w w' := by
  have H1 := Lib.hid h1
  have H2 := Lib.hid h2
  clear h1 h2
  by_cases hlm : l.length = m.length
  · obtain ⟨A, HA⟩ : ∃ A, Hid (sameQ l m = A) := ⟨_, Lib.hid rfl⟩
    rw [HA.out]
    rw [← hlm]
    have HLM := Lib.hid hlm
    clear hlm
    go_enter Try.func26, Try.ntmps26
    go_wp2
    go_loopw [13] (fun i wr => ∃ k nq : Nat, k ≤ l.length ∧ i = .int .i64 k ∧ wr = w.drewN nq ∧ Hid (l.take k = m.take k)) (fun i _ => l.length - (intOf i).toNat)
    case atStart => exact ⟨0, 0, Nat.zero_le _, rfl, rfl, Lib.hid rfl⟩
    case round =>
      obtain ⟨k, nq, hk, rfl, rfl, HT⟩ := hrel
      by_cases hlt : k < l.length
      · have hlt2 : k < m.length := by have := HLM.out; omega
        obtain ⟨b1, o1, rfl, hb1, hL1⟩ := H1.out (ne_of_lt hlt)
        obtain ⟨b2, o2, rfl, hb2, hL2⟩ := H2.out (ne_of_lt hlt2)
        obtain ⟨d0, d1, d2, d3⟩ := w_at hL1 k hlt
        obtain ⟨e0, e1, e2, e3⟩ := w_at hL2 k hlt2
        have i1 : (k : Int) < (l.length : Int) := by omega
        have i2 : (0 : Int) ≤ (k : Int) := by omega
        have HN : Hid (eqW l[k] m[k] = true → l.take (k + 1) = m.take (k + 1)) := Lib.hid fun h => takeW_on hlt hlt2 HT.out h
        have HF : Hid (eqW l[k] m[k] = false → A = false) := Lib.hid fun h => (HA.out).symm.trans (takeW_off hlt hlt2 h)
        generalize l[k] = x at *
        generalize m[k] = y at *
        have Q0 : Hid ((x.st == y.st) = decide (x.st = y.st)) := Lib.hid (by by_cases h : x.st = y.st <;> simp [h])
        have Q1 : Hid ((x.win == y.win) = decide (x.win = y.win)) := Lib.hid (by by_cases h : x.win = y.win <;> simp [h])
        have Q2 := Lib.hid (beq_ba x.key y.key)
        have Q3 : Hid ((x.val == y.val) = decide (x.val = y.val)) := Lib.hid (by by_cases h : x.val = y.val <;> simp [h])
        unfold eqW at HN HF
        generalize decide (x.st = y.st) = r0 at *
        generalize decide (x.win = y.win) = r1 at *
        generalize eqB x.key y.key = r2 at *
        generalize decide (x.val = y.val) = r3 at *
        clear hL1 hL2 hb1 hb2 H1 H2 HT hlt2
        have q0 := Q0.out
        have q1 := Q1.out
        have q2 := Q2.out
        have q3 := Q3.out
        cases r0
        · have HF := Lib.hid (HF.out rfl)
          go_wp2_with fail
          go_quiet (fail)
          go_wp2_with fail
          go_ret
          exact ⟨ret_bool (HF.out).symm, by first | exact below_drewN (below_drewN (Below.refl _ _) _) _ | exact below_drewN (Below.refl _ _) _⟩
        · cases r1
          · have HF := Lib.hid (HF.out rfl)
            go_wp2_with fail
            go_quiet (fail)
            go_wp2_with fail
            go_ret
            exact ⟨ret_bool (HF.out).symm, by first | exact below_drewN (below_drewN (Below.refl _ _) _) _ | exact below_drewN (Below.refl _ _) _⟩
          · cases r2
            · have HF := Lib.hid (HF.out rfl)
              go_wp2_with fail
              go_quiet (fail)
              go_wp2_with fail
              go_ret
              exact ⟨ret_bool (HF.out).symm, by first | exact below_drewN (below_drewN (Below.refl _ _) _) _ | exact below_drewN (Below.refl _ _) _⟩
            · cases r3
              · have HF := Lib.hid (HF.out rfl)
                go_wp2_with fail
                go_quiet (fail)
                go_wp2_with fail
                go_ret
                exact ⟨ret_bool (HF.out).symm, by first | exact below_drewN (below_drewN (Below.refl _ _) _) _ | exact below_drewN (Below.refl _ _) _⟩
              · have HN := Lib.hid (HN.out rfl)
                go_wp2_with fail
                go_quiet (fail)
                go_wp2_with fail
                exact ⟨⟨k + 1, _, by omega, by go_num, rfl, HN⟩, by simp [intOf]; omega⟩
      · have HT2 : Hid (A = true) := Lib.hid (by
          have h1 := HT.out
          have h2 := HLM.out
          rw [List.take_of_length_le (by omega), List.take_of_length_le (by omega)] at h1
          rw [← HA.out]
          exact decide_eq_true h1)
        go_wp2
        go_ret
        exact ⟨ret_bool (HT2.out).symm, below_drewN (Below.refl _ _) _⟩
  · have hd : sameQ l m = false := decide_eq_false fun e => hlm (by rw [e])
    rw [hd]
    have i1 : ¬ (l.length : Int) = (m.length : Int) := by omega
    go_enter Try.func26, Try.ntmps26
    go_wp2
    go_ret
    exact ⟨rfl, Below.refl _ _⟩
set_option maxRecDepth 100000 in
set_option maxHeartbeats 1000000 in
theorem same_own (v1 v2 : Value) (l m : List Wr) (w : World) (h1 : WRow w v1 l) (h2 : WRow w v2 m) (hn : l.length ≤ 1000000) :
    Calls Try.prog 15 #[v1, v2] w fun e w' => e = .returned (.bool (sameQ l m)) ∧ Below w.heap.size w w' := by
  obtain ⟨a1, c1, rfl, hc1, hl1⟩ := h1
  obtain ⟨a2, c2, rfl, hc2, hl2⟩ := h2
  have HK := Lib.hid (equal_cells a1 a2 c1 c2 l m w hl1 hl2 hn)
  clear hl1 hl2
  generalize sameQ l m = S at *
  go_enter Try.func15, Try.ntmps15
  go_wp2_with fail
  refine (HK.out).mono ?_
  rintro e w2 ⟨rfl, n2⟩
  go_wp2_with fail
  go_ret
  exact ⟨rfl, n2⟩

/-! ### how many wait; the stable stamp -/
set_option maxHeartbeats 800000 in
theorem pending_own (v : Value) (L : List (List Wr)) (w : World) (h : LRow w v L) (hn : L.length ≤ 1000000) (hb : ∀ k, pending (L.take k) ≤ 1000000000) :
    Calls Try.prog 19 #[v] w fun e w' => e = .returned (.int .i64 (pending L : Int)) ∧ w' = w := by
  obtain ⟨a, c, rfl, hc, hl⟩ := h.open
  have HL := Lib.hid hl
  clear hl h
  go_enter Try.func19, Try.ntmps19
  go_wp2_with fail
  go_loop [3, 8] (fun n i => ∃ k : Nat, k ≤ L.length ∧ i = .int .i64 k ∧ n = .int .i64 (pending (L.take k) : Int)) (fun _ i => L.length - (intOf i).toNat)
  case atStart => exact ⟨0, Nat.zero_le _, rfl, rfl⟩
  case round =>
    obtain ⟨k, hk, rfl, rfl⟩ := hrel
    by_cases hlt : k < L.length
    · obtain ⟨b, o, s, rfl, hb2, hs, a2, c2, rfl, hc2, -⟩ := HL.out k hlt
      have HK := Lib.hid (pending_take hlt)
      have h1 := hb k
      have h2 := hb (k + 1)
      rw [HK.out] at h2
      have i1 : (k : Int) < (L.length : Int) := by omega
      have i2 : (0 : Int) ≤ (k : Int) := by omega
      generalize L[k] = q at *
      generalize pending (L.take k) = n at *
      have i3 : IntKind.i64.wrap ((n : Int) + (q.length : Int)) = (n : Int) + (q.length : Int) := by rw [IntKind.wrap_i64]; omega
      go_wp2_with fail
      exact ⟨⟨k + 1, by omega, by go_num, by rw [HK.out, Int.natCast_add]⟩, by simp [intOf]; omega⟩
    · have i1 : ¬ (k : Int) < (L.length : Int) := by omega
      rw [List.take_of_length_le (by omega)]
      go_wp2_with fail
      go_ret
      exact ⟨rfl, rfl⟩

/-- What the program keeps: the least one less one, or the last stamp. -/
def optS (last : Int) (m : Option Int) : Int := match m with | none => last | some x => x - 1
set_option maxHeartbeats 800000 in
theorem stable_own (last : Int) (v : Value) (L : List (List Wr)) (w : World) (h : LRow w v L) (hn : L.length ≤ 1000000) (hbg : begins L = true) (hw64 : ∀ q ∈ L, ∀ x ∈ q, x.st ≤ 9223372036854775807) :
    Calls Try.prog 22 #[.int .i64 last, v] w fun e w' => e = .returned (.int .i64 (stable last L)) ∧ w' = w := by
  obtain ⟨a, c, rfl, hc, hl⟩ := h.open
  have HL := Lib.hid hl
  have HS : Hid (∀ k (hk : k < L.length) x r, L[k] = x :: r → 1 ≤ x.st ∧ x.st ≤ 9223372036854775807) := Lib.hid (fun k hk x r e => by
    have hm := List.getElem_mem hk
    rw [e] at hm
    exact ⟨begins_at hbg hm, hw64 _ hm x List.mem_cons_self⟩)
  clear hl h hbg hw64
  obtain ⟨S, HSt⟩ : ∃ S, Hid (stable last L = S) := ⟨_, Lib.hid rfl⟩
  rw [HSt.out]
  go_enter Try.func22, Try.ntmps22
  go_wp2_with fail
  go_loop [5, 6, 13] (fun sv sb i => ∃ k : Nat, k ≤ L.length ∧ i = .int .i64 k ∧ sv = .int .i64 (optS last (least (L.take k))) ∧ sb = .bool (optB (least (L.take k)))) (fun _ _ i => L.length - (intOf i).toNat)
  case atStart => exact ⟨0, Nat.zero_le _, rfl, rfl, rfl⟩
  case round =>
    obtain ⟨k, hk, rfl, rfl, rfl⟩ := hrel
    by_cases hlt : k < L.length
    · obtain ⟨b, o, s, rfl, hb2, hs, a2, c2, rfl, hc2, hw⟩ := HL.out k hlt
      have HK := Lib.hid (least_take hlt)
      have HO := Lib.hid (HS.out k hlt)
      have i1 : (k : Int) < (L.length : Int) := by omega
      have i2 : (0 : Int) ≤ (k : Int) := by omega
      generalize L[k] = q at *
      generalize least (L.take k) = m at *
      cases q with
      | nil =>
        have HZ : Hid (least (L.take (k + 1)) = m) := HK
        clear hw HK HO
        go_wp2_with fail
        exact ⟨⟨k + 1, by omega, by go_num, by rw [HZ.out], by rw [HZ.out]⟩, by simp [intOf]; omega⟩
      | cons x r =>
        obtain ⟨b2, o2, rfl, hb3, hL⟩ := hw (by simp)
        obtain ⟨e0, -, -, -⟩ := w_at hL 0 (by simp)
        simp only [Nat.zero_mul, Nat.add_zero, List.getElem_cons_zero] at e0
        obtain ⟨g1, g2⟩ := HO.out x r rfl
        obtain ⟨N, hN⟩ : ∃ N, (x :: r).length = N := ⟨_, rfl⟩
        have hN0 : 0 < N := by rw [← hN]; simp
        rw [hN] at hs hc2
        have j1 : (0 : Int) < (N : Int) := by omega
        have j2 : ¬ (N : Int) = 0 := by omega
        have j3 : ((N : Int) == 0) = false := by simp; omega
        clear hL hN HO
        obtain ⟨xs, xw, xk, xv⟩ := x
        simp only at e0 g1 g2
        have g3 : IntKind.i64.wrap (xs - 1) = xs - 1 := by rw [IntKind.wrap_i64]; omega
        cases m with
        | none =>
          have HZ : Hid (least (L.take (k + 1)) = some xs) := HK
          clear HK
          show Code.wp _ _ _ _ _
          simp only [optS, optB]
          go_wp2_with fail
          exact ⟨⟨k + 1, by omega, by go_num, by rw [HZ.out], by rw [HZ.out]⟩, by simp [intOf]; omega⟩
        | some y =>
          by_cases hq : xs < y
          · have HZ : Hid (least (L.take (k + 1)) = some xs) := Lib.hid (by rw [HK.out]; show (if xs < y then some xs else some y) = _; rw [if_pos hq])
            have j4 : decide (xs - 1 < y - 1) = true := decide_eq_true (by omega)
            have j5 : xs - 1 < y - 1 := by omega
            clear HK
            simp only [optS, optB]
            go_wp2_with fail
            exact ⟨⟨k + 1, by omega, by go_num, by rw [HZ.out], by rw [HZ.out]⟩, by simp [intOf]; omega⟩
          · have HZ : Hid (least (L.take (k + 1)) = some y) := Lib.hid (by rw [HK.out]; show (if xs < y then some xs else some y) = _; rw [if_neg hq])
            have j4 : decide (xs - 1 < y - 1) = false := decide_eq_false (by omega)
            have j5 : ¬ xs - 1 < y - 1 := by omega
            clear HK
            simp only [optS, optB]
            go_wp2_with fail
            exact ⟨⟨k + 1, by omega, by go_num, by rw [HZ.out], by rw [HZ.out]⟩, by simp [intOf]; omega⟩
    · have i1 : ¬ (k : Int) < (L.length : Int) := by omega
      rw [List.take_of_length_le (by omega)]
      have HE : Hid (optS last (least L) = S) := Lib.hid ((show optS last (least L) = stable last L from rfl).trans HSt.out)
      clear HSt HS HL
      generalize least L = m at *
      go_wp2_with fail
      go_ret
      exact ⟨by rw [← HE.out]; rfl, rfl⟩

/-! ### the first one -/
set_option maxRecDepth 100000 in
theorem pop_zero (a : Option Addr) (c : Nat) (w : World) :
    Calls Try.prog 10 #[.slice a 0 c] w fun e w' => e = .returned (.tuple #[wV zeroW, .slice none 0 0, .bool false]) ∧ Below w.heap.size w w' := by
  go_enter Try.func10, Try.ntmps10
  go_wp2_with fail
  exact bodyPost_ret (v := .tuple #[wV zeroW, .slice none 0 0, .bool false]) (by simp [results, Try.results10, go_sem, wV, zeroW]) rfl ⟨rfl, aBelow _ _⟩

set_option maxRecDepth 100000 in
set_option maxHeartbeats 2000000 in
theorem pop_cons (a : Option Addr) (c : Nat) (x : Wr) (r : List Wr) (w : World) (h : WAt w a (x :: r)) (hc : r.length + 1 ≤ c) (hr : r.length ≤ 1000000) :
    Calls Try.prog 10 #[.slice a (r.length + 1) c] w fun e w' => (∃ v', e = .returned (.tuple #[wV x, v', .bool true]) ∧ WRow w' v' r) ∧ Below w.heap.size w w' := by
  obtain ⟨b, o, rfl, hb, hL⟩ := h (by simp)
  obtain ⟨d0, d1, d2, d3⟩ := w_at hL 0 (by simp)
  simp only [Nat.zero_mul, Nat.add_zero, List.getElem_cons_zero] at d0 d1 d2 d3
  have hrow : WRow w (.slice (if c = 1 then some ⟨b, o, none⟩ else (some (⟨b, o, none⟩ : Addr)).map (·.add 4)) r.length (c - 1)) r := ⟨_, _, rfl, by omega, gatW_one h hc⟩
  obtain ⟨N, hN⟩ : ∃ N, r.length + 1 = N := ⟨_, rfl⟩
  have hN1 : 1 ≤ N := by omega
  have hcut := cutW_one (some ⟨b, o, none⟩) c N hN1
  rw [hN]
  have hM : N - 1 = r.length := by omega
  rw [hM] at hcut
  generalize (if c = 1 then some ⟨b, o, none⟩ else (some (⟨b, o, none⟩ : Addr)).map (·.add 4)) = ad at *
  obtain ⟨xs, xw, xk, xv⟩ := x
  simp only at d0 d1 d2 d3
  clear hL h
  have i1 : ¬ (N : Int) = 0 := by omega
  have i2 : ((N : Int) == 0) = false := by simp; omega
  have i3 : 0 < N := by omega
  have dA := Lib.hid ((aBelow w (.cells #[.int .i64 0, .int .i64 0, .string ⟨#[]⟩, .int .i64 0] 29)).drew)
  have HC := Lib.hid (clone_any _ r ((w.alloc (.cells #[.int .i64 0, .int .i64 0, .string ⟨#[]⟩, .int .i64 0] 29)).drew) (hrow.on dA.out) hr)
  have HPK : Hid (∀ w3 : World, Below ((w.alloc (.cells #[.int .i64 0, .int .i64 0, .string ⟨#[]⟩, .int .i64 0] 29)).drew).heap.size ((w.alloc (.cells #[.int .i64 0, .int .i64 0, .string ⟨#[]⟩, .int .i64 0] 29)).drew) w3 → WBox w3 w.heap.size zeroW ∧ ∀ i, w3.cell? ⟨b, i, none⟩ = w.cell? ⟨b, i, none⟩) := by
    intro w3 hg
    refine ⟨?_, fun i => ?_⟩
    rotate_left
    · rw [hg.cell (p := ⟨b, i, none⟩) (show b < ((w.alloc _).drew).heap.size by simp; omega), dA.out.cell (p := ⟨b, i, none⟩) hb]
    unfold WBox
    rw [hg.block w.heap.size (show w.heap.size < ((w.alloc _).drew).heap.size by simp)]
    show (w.alloc _).heap[w.heap.size]? = _
    rw [heap_alloc_new]
    rfl
  have hsz : ((w.alloc (.cells #[.int .i64 0, .int .i64 0, .string ⟨#[]⟩, .int .i64 0] 29)).drew).heap.size = w.heap.size + 1 := by simp
  rw [hsz] at HC HPK
  generalize hMr : r.length = M at *
  have HMr := Lib.hid hMr
  clear hN hrow hMr hsz
  go_enter Try.func10, Try.ntmps10
  go_wp2_with fail
  go_region_with (go_at_call 25; refine HC.out.mono ?_; rintro e w2 ⟨⟨v5, rfl, own5⟩, n2⟩; have ck := HPK.out w2 n2; obtain ⟨⟨c0, c1, c2, c3⟩, f0, f1, f2, f3⟩ := ck.1.facts; have e0 := (ck.2 _).trans d0; have e1 := (ck.2 _).trans d1; have e2 := (ck.2 _).trans d2; have e3 := (ck.2 _).trans d3; have HX := Lib.hid (And.intro own5 n2); clear ck own5 n2)
  all_goals
    have hE := wpop_end (w := w) (x := ⟨xs, xw, xk, xv⟩) (r := r) (by rw [HMr.out]; exact HX.out.1) (dA.out.trans (HX.out.2.mono (Nat.le_succ _)))
    clear HX HPK HC HMr
    go_wp2_with fail
    exact bodyPost_ret (v := .tuple #[wV ⟨xs, xw, xk, xv⟩, v5, .bool true]) (by simp [results, Try.results10, go_sem, wV, c0, c1, c2, c3]) rfl ⟨⟨_, rfl, hE.1⟩, hE.2⟩
theorem pop_own (v : Value) (q : List Wr) (w : World) (h : WRow w v q) (hn : q.length ≤ 1000000) :
    Calls Try.prog 10 #[v] w fun e w' => (∃ v', e = .returned (.tuple #[wV (popQ q).1, v', .bool (popQ q).2.2]) ∧ WRow w' v' (popQ q).2.1) ∧ Below w.heap.size w w' := by
  obtain ⟨a, c, rfl, hc, hl⟩ := h
  cases q with
  | nil => exact (pop_zero a c w).mono fun e w' ⟨he, hd⟩ => ⟨⟨_, he, GRow.nil _⟩, hd⟩
  | cons x r => exact pop_cons a c x r w hl hc (by simp at hn; omega)

/-! ### what the walks are held to -/
theorem pending_small {L : List (List Wr)} (h : ∀ q ∈ L, q.length ≤ 1000) : pending L ≤ L.length * 1000 := by
  induction L with
  | nil => simp [pending]
  | cons q L ih =>
    have h1 := h q List.mem_cons_self
    have h2 := ih (fun q hq => h q (List.mem_cons_of_mem _ hq))
    simp only [pending, List.map_cons, List.sum_cons, List.length_cons] at *
    omega
theorem pending_takes {L : List (List Wr)} (hn : L.length ≤ 1000) (h : ∀ q ∈ L, q.length ≤ 1000) (k : Nat) : pending (L.take k) ≤ 1000000000 := by
  have h1 := pending_small (L := L.take k) (fun q hq => h q (List.mem_of_mem_take hq))
  have h2 : (L.take k).length ≤ 1000 := by rw [List.length_take]; omega
  omega
theorem own14 : Own14 where
  push v1 v2 q m w h1 h2 n1 n2 _ _ := push_own v1 v2 q m w h1 h2 n1 n2
  pop v q w h n _ := pop_own v q w h (by omega)
  right v q w h n _ := right_own v q w h (by omega)
  same v1 v2 q m w h1 h2 n1 _ _ _ := same_own v1 v2 q m w h1 h2 (by omega)
  waits win v L w h n hq _ _ := waits_own win v L w h (by omega) (fun q hm => by have := hq q hm; omega)
  pending v L w h n hq := (pending_own v L w h (by omega) (pending_takes n hq)).mono fun e w' ⟨he, hw⟩ => ⟨he, hw ▸ Below.refl _ _⟩
  stable last v L w h n _ ho hb _ := (stable_own last v L w h (by omega) hb (fun q hm x hx => (ho q hm x hx).1.2)).mono fun e w' ⟨he, hw⟩ => ⟨he, hw ▸ Below.refl _ _⟩
end Go.Proofs.Ytmgfgfkkhcibcaa.Se
