/- Walks over Own13: the laws WinTells, WinTimes. -/
import Derived.Test.YtchlndcdfaelmaaV13
namespace Go.Proofs.Ytchlndcdfaelmaa.Wi
open Go Go.RowKit

theorem two_on {b : Nat} {v1 v2 : Value} {w0 w1 w2 : World} (h : (w1.cell? ⟨b, 0, none⟩ = some v1 ∧ w1.cell? ⟨b, 1, none⟩ = some v2) ∧ Below w0.heap.size w0 w1) (n : Below w1.heap.size w1 w2) : (w2.cell? ⟨b, 0, none⟩ = some v1 ∧ w2.cell? ⟨b, 1, none⟩ = some v2) ∧ Below w0.heap.size w0 w2 := by
  obtain ⟨⟨h1, h2⟩, h4⟩ := h
  exact ⟨⟨keepC n h1 (World.block_lt_of_cell? _ _ h1), keepC n h2 (World.block_lt_of_cell? _ _ h2)⟩, h4.trans (n.mono h4.size)⟩
set_option maxRecDepth 100000 in
set_option maxHeartbeats 4000000 in
theorem tells_walk (O : Own13) (x d f0 f1 : Int) (w : World) (hx : ok64 x) (hd : ok64 d) (h0 : ok64 f0) (h1 : ok64 f1) :
    Calls Try.prog 3 #[.int .i64 x, .int .i64 d, .agg #[.int .i64 f0, .int .i64 f1]] w fun e w' => e = .returned (.bool true) ∧ Below w.heap.size w w' := by
  have HAl := Lib.hid (alive_any O)
  have C8 := Lib.hid (fun W => O.start x d W hx hd)
  have C9 := Lib.hid (fun W => refStart_any x d W)
  have C10 := Lib.hid (fun W => O.end x d W hx hd)
  have C11 := Lib.hid (fun W => refEnd_any x d W)
  have C12 := Lib.hid (fun W => O.closed x d f0 f1 W hx hd h0 h1)
  have C13 := Lib.hid (fun W => refClosed_any x d f0 f1 W)
  have dA := Lib.hid (aBelow w (.cells #[.int .i64 f0, .int .i64 f1] 22))
  generalize startW x d = S at *
  generalize endW x d = E at *
  generalize closedW x d f0 f1 = C at *
  have qS : (S == S) = true := by simp
  have qE : (E == E) = true := by simp
  have qC : (C == C) = true := by simp
  clear O hx hd h0 h1
  go_enter Try.func3, Try.ntmps3
  go_wp2_with fail
  refine (HAl.out _).mono ?_
  rintro e w1 ⟨rfl, n1⟩
  have c0 := keepC n1 (show (w.alloc (.cells #[.int .i64 f0, .int .i64 f1] 22)).cell? ⟨w.heap.size, 0, none⟩ = some (.int .i64 f0) by simp) (by simp)
  have c1 := keepC n1 (show (w.alloc (.cells #[.int .i64 f0, .int .i64 f1] 22)).cell? ⟨w.heap.size, 1, none⟩ = some (.int .i64 f1) by simp) (by simp)
  have D1 := Lib.hid (dA.out.trans (n1.mono dA.out.size))
  clear n1 dA HAl
  go_wp2_with fail
  generalize hb : w.heap.size = b at *
  have HB := Lib.hid hb
  clear hb
  have hS : (w1.drew.cell? ⟨b, 0, none⟩ = some (.int .i64 f0) ∧ w1.drew.cell? ⟨b, 1, none⟩ = some (.int .i64 f1)) ∧ Below w1.heap.size w1 w1.drew := ⟨⟨c0, c1⟩, (Below.refl _ _).drew⟩
  clear c0 c1
  go_region_held3 (fun w' => (w'.cell? ⟨b, 0, none⟩ = some (.int .i64 f0) ∧ w'.cell? ⟨b, 1, none⟩ = some (.int .i64 f1)) ∧ Below w1.heap.size w1 w') (first | exact hS | exact hS1 | exact hS2 | exact hS3) (first
    | (go_at_call 8; refine (C8.out _).mono ?_; rintro e w8 ⟨rfl, n8⟩; have hS1 := two_on hS n8)
    | (go_at_call 9; refine (C9.out _).mono ?_; rintro e w9 ⟨rfl, h9⟩; subst h9)
    | (go_at_call 10; refine (C10.out _).mono ?_; rintro e w10 ⟨rfl, n10⟩; have hS2 := two_on hS1 n10)
    | (go_at_call 11; refine (C11.out _).mono ?_; rintro e w11 ⟨rfl, h11⟩; subst h11)
    | (go_at_call 12; refine (C12.out _).mono ?_; rintro e w12 ⟨rfl, n12⟩; have hS3 := two_on hS2 n12)
    | (go_at_call 13; refine (C13.out _).mono ?_; rintro e w13 ⟨rfl, h13⟩; subst h13)
    | fail)
  have D7 := Lib.hid (D1.out.trans (hS3.2.mono (by have := D1.out.size; have := HB.out; omega)))
  rename_i hHeld
  clear hS hS1 hS2 hS3 hHeld C8 C9 C10 C11 C12 C13
  go_wp2_with fail
  have e := HB.out
  subst e
  go_ret
  exact ⟨rfl, D7.out⟩

set_option maxRecDepth 100000 in
set_option maxHeartbeats 4000000 in
theorem times_walk (O : Own13) (t d b : Int) (w : World) (ht : ok64 t) (hd : ok64 d) (hb : ok64 b) :
    Calls Try.prog 4 #[.int .i64 t, .int .i64 d, .int .i64 b] w fun e w' => e = .returned (.bool true) ∧ Below w.heap.size w w' := by
  have HAl := Lib.hid (alive_any O)
  have C14 := Lib.hid (fun W => O.of t d W ht hd)
  have C15 := Lib.hid (fun W => refOf_any t d W)
  have C16 := Lib.hid (fun W => O.tick t b W ht hb)
  have C17 := Lib.hid (fun W => refTick_any t b W ht hb)
  generalize ofW t d = S at *
  generalize ofE t d = E at *
  generalize tickT t b = C at *
  have qS : (S == S) = true := by simp
  have qE : (E == E) = true := by simp
  have qC : (C == C) = true := by simp
  clear O ht hd hb
  go_enter Try.func4, Try.ntmps4
  go_wp2_with (first
    | (go_at_call 7; refine (HAl.out _).mono ?_; rintro e w1 ⟨rfl, n1⟩)
    | (go_at_call 14; refine (C14.out _).mono ?_; rintro e w2 ⟨rfl, n2⟩)
    | (go_at_call 15; refine (C15.out _).mono ?_; rintro e w3 ⟨rfl, rfl⟩)
    | (go_at_call 16; refine (C16.out _).mono ?_; rintro e w4 ⟨rfl, n4⟩)
    | (go_at_call 17; refine (C17.out _).mono ?_; rintro e w5 ⟨rfl, rfl⟩))
  go_ret
  exact ⟨by first | rfl | simp, n1.trans ((n2.trans (n4.mono n2.size)).mono n1.size)⟩
end Go.Proofs.Ytchlndcdfaelmaa.Wi
