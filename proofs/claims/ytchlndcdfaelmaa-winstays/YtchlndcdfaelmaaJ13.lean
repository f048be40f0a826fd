/- Walk over Own13: the law WinStays. -/
import Derived.Test.YtchlndcdfaelmaaL13
namespace Go.Proofs.Ytchlndcdfaelmaa.Wi
open Go Go.RowKit

set_option maxRecDepth 100000 in
set_option maxHeartbeats 4000000 in
theorem stays_walk (O : Own13) (x d late now b : Int) (w : World) (hx : ok64 x) (hd : ok64 d) (hl : ok64 late) (hn : ok64 now) (hb : ok64 b) :
    Calls Try.prog 6 #[.int .i64 x, .int .i64 d, .agg #[.int .i64 late, .int .i64 now, .int .i64 b]] w fun e w' => e = .returned (.bool true) ∧ Below w.heap.size w w' := by
  have HAl := Lib.hid (alive_any O)
  have dA := Lib.hid (aBelow w (.cells #[.int .i64 late, .int .i64 now, .int .i64 b] 31))
  have HS1 := Lib.hid (fun (h : closedW x d late now = true) (h2 : now ≤ 4000000000000000) => stays_later (later := tickT now b) h (tick_mono h2))
  have HS2 := Lib.hid (fun (h : closedW x d late now = true) (h2 : x ≠ 0) => stays_ahead h h2)
  have HBX := Lib.hid (fun (h : closedW x d late now = true) => (mayW_true.1 (closed_iff.1 h).1).2)
  have C1 := Lib.hid (fun W => O.closed x d late now W hx hd hl hn)
  have C2 := Lib.hid (fun W => O.tick now b W hn hb)
  have C3 := Lib.hid (fun W => O.closed x d late (tickT now b) W hx hd hl (tick_ok hn hb))
  have C4 := Lib.hid (fun W (h : ok64 (x - 1)) => O.closed (x - 1) d late now W h hd hl hn)
  generalize tickT now b = T at *
  generalize closedW x d late T = K3 at *
  generalize closedW (x - 1) d late now = K4 at *
  cases hK : closedW x d late now
  · rw [hK] at C1
    clear hK O HS1 HS2 HBX C2 C3 C4
    go_enter Try.func6, Try.ntmps6
    go_wp2_with fail
    refine (HAl.out _).mono ?_
    rintro e w1 ⟨rfl, n1⟩
    have c0 := keepC n1 (show (w.alloc (.cells #[.int .i64 late, .int .i64 now, .int .i64 b] 31)).cell? ⟨w.heap.size, 0, none⟩ = some (.int .i64 late) by simp) (by simp)
    have c1 := keepC n1 (show (w.alloc (.cells #[.int .i64 late, .int .i64 now, .int .i64 b] 31)).cell? ⟨w.heap.size, 1, none⟩ = some (.int .i64 now) by simp) (by simp)
    have c2 := keepC n1 (show (w.alloc (.cells #[.int .i64 late, .int .i64 now, .int .i64 b] 31)).cell? ⟨w.heap.size, 2, none⟩ = some (.int .i64 b) by simp) (by simp)
    have D1 := Lib.hid (dA.out.trans (n1.mono dA.out.size))
    clear n1 dA HAl
    go_wp2_with fail
    go_quiet (fail)
    go_wp2_with fail
    refine (C1.out _).mono ?_
    rintro e w2 ⟨rfl, n2⟩
    go_wp2_with fail
    go_ret
    exact ⟨rfl, (below_drewN D1.out _).trans (n2.mono (below_drewN D1.out _).size)⟩
  · rw [hK] at C1
    have hX := HBX.out hK
    have hX1 : ok64 (x - 1) := by unfold ok64; omega
    have C4 := Lib.hid (fun W => C4.out W hX1)
    have h3 := HS1.out hK
    have h4 := HS2.out hK
    have hw : IntKind.i64.wrap (x - 1) = x - 1 := by rw [IntKind.wrap_i64]; omega
    clear O HS1 HS2 HBX hK hX1
    go_enter Try.func6, Try.ntmps6
    go_wp2_with fail
    refine (HAl.out _).mono ?_
    rintro e w1 ⟨rfl, n1⟩
    have c0 := keepC n1 (show (w.alloc (.cells #[.int .i64 late, .int .i64 now, .int .i64 b] 31)).cell? ⟨w.heap.size, 0, none⟩ = some (.int .i64 late) by simp) (by simp)
    have c1 := keepC n1 (show (w.alloc (.cells #[.int .i64 late, .int .i64 now, .int .i64 b] 31)).cell? ⟨w.heap.size, 1, none⟩ = some (.int .i64 now) by simp) (by simp)
    have c2 := keepC n1 (show (w.alloc (.cells #[.int .i64 late, .int .i64 now, .int .i64 b] 31)).cell? ⟨w.heap.size, 2, none⟩ = some (.int .i64 b) by simp) (by simp)
    have D1 := Lib.hid (dA.out.trans (n1.mono dA.out.size))
    clear n1 dA HAl
    go_wp2_with fail
    go_quiet (fail)
    go_wp2_with fail
    refine (C1.out _).mono ?_
    rintro e w2 ⟨rfl, n2⟩
    have D2 := Lib.hid ((below_drewN D1.out _).trans (n2.mono (below_drewN D1.out _).size))
    clear n2 D1 c0 c1 c2 C1
    go_wp2_with fail
    refine (C2.out _).mono ?_
    rintro e w3 ⟨rfl, n3⟩
    have D3 := Lib.hid (D2.out.trans (n3.mono D2.out.size))
    clear n3 D2 C2
    by_cases hnow : now ≤ 4000000000000000
    · have j1 : decide (now ≤ 4000000000000000) = true := decide_eq_true hnow
      have hk3 := h3 hnow
      subst hk3
      go_wp2_with fail
      refine (C3.out _).mono ?_
      rintro e w4 ⟨rfl, n4⟩
      have D4 := Lib.hid (D3.out.trans (n4.mono D3.out.size))
      clear n4 D3 C3 h3
      by_cases hz : x = 0
      · have j2 : (x == 0) = true := by simp [hz]
        subst hz
        go_wp2_with fail
        go_ret
        exact ⟨by first | rfl | simp, D4.out⟩
      · have j2 : (x == 0) = false := by simp [hz]
        have hk4 := h4 hz
        subst hk4
        go_wp2_with fail
        refine (C4.out _).mono ?_
        rintro e w5 ⟨rfl, n5⟩
        go_wp2_with fail
        go_ret
        exact ⟨by first | rfl | simp, D4.out.trans (n5.mono D4.out.size)⟩
    · have j1 : decide (now ≤ 4000000000000000) = false := decide_eq_false hnow
      clear C3 h3
      by_cases hz : x = 0
      · have j2 : (x == 0) = true := by simp [hz]
        subst hz
        go_wp2_with fail
        go_ret
        exact ⟨by first | rfl | simp, D3.out⟩
      · have j2 : (x == 0) = false := by simp [hz]
        have hk4 := h4 hz
        subst hk4
        go_wp2_with fail
        refine (C4.out _).mono ?_
        rintro e w5 ⟨rfl, n5⟩
        go_wp2_with fail
        go_ret
        exact ⟨by first | rfl | simp, D3.out.trans (n5.mono D3.out.size)⟩
end Go.Proofs.Ytchlndcdfaelmaa.Wi
