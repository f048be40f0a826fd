/- Walk over Own15: the law PinBack. -/
import Derived.Test.YtigkpfdbbifcgaaV15
namespace Go.Proofs.Ytigkpfdbbifcgaa.Pj
open Go Go.RowKit

theorem sameP_self2 (l : List Pn) : sameP l l = true := decide_eq_true rfl
theorem new1Q (w : World) (xi xs : Int) : PRow (w.alloc (.cells #[.int .i64 xi, .int .i64 xs] 35)) (.slice (some ⟨w.heap.size, 0, none⟩) 1 1) [⟨xi, xs⟩] := prow_new w [⟨xi, xs⟩]

set_option maxRecDepth 100000 in
set_option maxHeartbeats 4000000 in
theorem back_walk (O : Own15) (HA0 : ∀ w : World, Calls Try.prog 7 #[] w fun e w' => e = .returned (.bool true) ∧ Below w.heap.size w w') (v1 : Value) (l : List Pn) (xi xs : Int) (w : World) (h1 : PRow w v1 l) (k1 : ∀ x ∈ l, okP x) (k2 : okP ⟨xi, xs⟩) :
    Calls Try.prog 6 #[v1, .agg #[.int .i64 xi, .int .i64 xs]] w fun e w' => e = .returned (.bool true) ∧ Below w.heap.size w w' := by
  have HAl := Lib.hid HA0
  have H1 := Lib.hid h1
  obtain ⟨a1, c1, rfl, hc1, hl1⟩ := h1
  clear hl1
  have dX := Lib.hid (aBelow w (.cells #[.int .i64 xi, .int .i64 xs] 35))
  by_cases hq : 100 < l.length
  · have i1 : (100 : Int) < (l.length : Int) := by omega
    clear H1
    go_enter Try.func6, Try.ntmps6
    go_wp2_with fail
    refine (HAl.out _).mono ?_
    rintro e w1 ⟨rfl, n1⟩
    go_wp2_with fail
    go_ret
    exact ⟨rfl, dX.out.trans (n1.mono dX.out.size)⟩
  · have i1 : ¬ (100 : Int) < (l.length : Int) := by omega
    have k4 : ∀ x ∈ [(⟨xi, xs⟩ : Pn)], okP x := by intro x hx; simp at hx; subst hx; exact k2
    have HA := Lib.hid (fun v2 W (d : Below w.heap.size w W) (hv : PRow W v2 [⟨xi, xs⟩]) => O.add (.slice a1 l.length c1) v2 l [⟨xi, xs⟩] W (H1.out.on d) hv (by omega) (by simp) k1 k4)
    by_cases he : (addP l [⟨xi, xs⟩]).2 = 0
    · obtain ⟨e1, e2⟩ := add_one he
      have hP : addP l [⟨xi, xs⟩] = (putP l ⟨xi, xs⟩, 0) := Prod.ext e1 he
      rw [hP] at HA
      have hpl := putP_len l ⟨xi, xs⟩
      have k5 := put_ok (x := ⟨xi, xs⟩) k1 k2
      have HF := Lib.hid (fun v W (hv : PRow W v (putP l ⟨xi, xs⟩)) => O.find v (putP l ⟨xi, xs⟩) xi W hv (by omega) k5 k2.1)
      have HD := Lib.hid (fun v W (hv : PRow W v (putP l ⟨xi, xs⟩)) => O.drop v (putP l ⟨xi, xs⟩) xi W hv (by omega) k5 k2.1)
      have HR := Lib.hid (fun v W (hv : PRow W v (putP l ⟨xi, xs⟩)) => refRight_any v (putP l ⟨xi, xs⟩) W hv (by omega))
      rw [show findP (putP l ⟨xi, xs⟩) xi = (xs, true) from put_find l ⟨xi, xs⟩] at HF
      rw [show dropP (putP l ⟨xi, xs⟩) xi = (l, 0) from put_drop l ⟨xi, xs⟩] at HD
      rw [e2] at HR
      have HS := Lib.hid (fun v W (d : Below w.heap.size w W) (hv : PRow W v l) => refSame_any v (.slice a1 l.length c1) l l W hv (H1.out.on d) (by omega))
      rw [sameP_self2] at HS
      generalize putP l ⟨xi, xs⟩ = A at *
      have qx : (xs == xs) = true := by simp
      clear O k1 k2 k4 k5 he hP e1 e2 hpl
      go_enter Try.func6, Try.ntmps6
      go_wp2_with fail
      refine (HAl.out _).mono ?_
      rintro e w1 ⟨rfl, n1⟩
      have D1 := Lib.hid (dX.out.trans (n1.mono dX.out.size))
      have b0 : w1.cell? ⟨w.heap.size, 0, none⟩ = some (.int .i64 xi) := newC n1 (i := 0)
      have b1 : w1.cell? ⟨w.heap.size, 1, none⟩ = some (.int .i64 xs) := newC n1 (i := 1)
      have hb := World.block_lt_of_cell? _ _ b0
      have N1 := Lib.hid (aBelow w1 (.cells #[.int .i64 xi, .int .i64 xs] 35))
      have HA := Lib.hid (HA.out _ _ (D1.out.trans (N1.out.mono D1.out.size)) (new1Q w1 xi xs))
      clear n1 dX HAl
      go_wp2_with fail
      refine HA.out.mono ?_
      rintro e w2 ⟨⟨v2, rfl, h2⟩, n2⟩
      have M2 := Lib.hid (N1.out.trans (n2.mono N1.out.size))
      have D2 := Lib.hid (D1.out.trans (M2.out.mono D1.out.size))
      have b0 := keepC M2.out b0 hb
      have b1 := keepC M2.out b1 hb
      have hb := World.block_lt_of_cell? _ _ b0
      have G2 := Lib.hid h2
      obtain ⟨a2, c2, rfl, -, -⟩ := G2.out
      clear n2 HA N1 M2 D1 h2
      go_wp2_with fail
      refine (HF.out _ _ G2.out).mono ?_
      rintro e w3 ⟨rfl, n3⟩
      have D3 := Lib.hid (D2.out.trans (n3.mono D2.out.size))
      have G3 := Lib.hid (G2.out.on n3)
      have b0 := keepC n3 b0 hb
      have b1 := keepC n3 b1 hb
      have hb := World.block_lt_of_cell? _ _ b0
      clear n3 HF D2 G2
      go_wp2_with fail
      refine (HD.out _ _ G3.out).mono ?_
      rintro e w4 ⟨⟨v4, rfl, h4⟩, n4⟩
      have D4 := Lib.hid (D3.out.trans (n4.mono D3.out.size))
      have G4 := Lib.hid (G3.out.on n4)
      have b0 := keepC n4 b0 hb
      have b1 := keepC n4 b1 hb
      have G5 := Lib.hid h4
      obtain ⟨a4, c4, rfl, -, -⟩ := G5.out
      clear n4 HD D3 G3 h4
      go_wp2_with fail
      refine (HR.out _ _ G4.out).mono ?_
      rintro e w5 ⟨rfl, n5⟩
      have D5 := Lib.hid (D4.out.trans (n5.mono D4.out.size))
      have G6 := Lib.hid (G5.out.on n5)
      clear n5 HR D4 G4 G5
      go_wp2_with fail
      refine (HS.out _ _ D5.out G6.out).mono ?_
      rintro e w6 ⟨rfl, n6⟩
      have D6 := Lib.hid (D5.out.trans (n6.mono D5.out.size))
      go_wp2_with fail
      go_ret
      exact ⟨rfl, D6.out⟩
    · have hB := add_bad he
      generalize addP l [⟨xi, xs⟩] = P at *
      obtain ⟨A, E⟩ := P
      simp only at he hB HA
      subst hB
      have qE : (E != 0) = true := by simpa using he
      clear O k1 k2 k4
      go_enter Try.func6, Try.ntmps6
      go_wp2_with fail
      refine (HAl.out _).mono ?_
      rintro e w1 ⟨rfl, n1⟩
      have D1 := Lib.hid (dX.out.trans (n1.mono dX.out.size))
      have b0 : w1.cell? ⟨w.heap.size, 0, none⟩ = some (.int .i64 xi) := newC n1 (i := 0)
      have b1 : w1.cell? ⟨w.heap.size, 1, none⟩ = some (.int .i64 xs) := newC n1 (i := 1)
      have N1 := Lib.hid (aBelow w1 (.cells #[.int .i64 xi, .int .i64 xs] 35))
      have HA := Lib.hid (HA.out _ _ (D1.out.trans (N1.out.mono D1.out.size)) (new1Q w1 xi xs))
      clear n1 dX HAl
      go_wp2_with fail
      refine HA.out.mono ?_
      rintro e w2 ⟨⟨v2, rfl, h2⟩, n2⟩
      have D2 := Lib.hid (D1.out.trans ((N1.out.trans (n2.mono N1.out.size)).mono D1.out.size))
      obtain ⟨a2, c2, rfl, -, -⟩ := h2
      clear n2 HA
      go_wp2_with fail
      go_ret
      exact ⟨rfl, D2.out⟩
end Go.Proofs.Ytigkpfdbbifcgaa.Pj
