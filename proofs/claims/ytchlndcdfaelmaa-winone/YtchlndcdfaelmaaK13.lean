/- Walks over Own13: the laws WinOne, WinStays. -/
import Derived.Test.YtchlndcdfaelmaaL13
namespace Go.Proofs.Ytchlndcdfaelmaa.Wi
open Go Go.RowKit

set_option maxRecDepth 100000 in
set_option maxHeartbeats 4000000 in
theorem one_walk (O : Own13) (t d o : Int) (w : World) (ht : ok64 t) (hd : ok64 d) (ho : ok64 o) :
    Calls Try.prog 5 #[.int .i64 t, .int .i64 d, .int .i64 o] w fun e w' => e = .returned (.bool true) ∧ Below w.heap.size w w' := by
  have HAl := Lib.hid (alive_any O)
  have C14 := Lib.hid (fun W => O.of t d W ht hd)
  by_cases hE : ofE t d = 0
  rotate_left
  · have hW := ofW_bad hE
    rw [hW] at C14
    generalize ofE t d = E at *
    have qE : (E == 0) = false := by simp [hE]
    clear O hW
    go_enter Try.func5, Try.ntmps5
    go_wp2_with (first
      | (go_at_call 7; refine (HAl.out _).mono ?_; rintro e w1 ⟨rfl, n1⟩)
      | (go_at_call 14; refine (C14.out _).mono ?_; rintro e w2 ⟨rfl, n2⟩))
    go_ret
    exact ⟨by first | rfl | simp, n1.trans (n2.mono n1.size)⟩
  · obtain ⟨hmay, hs1, hs2⟩ := one_in hE
    have hwb := ofW_bound t d
    have HOT := Lib.hid (fun h1 h2 => one_other (o := o) hE h1 h2)
    have HNX := Lib.hid (fun h => (one_next hmay h).2)
    rw [hE] at C14
    generalize ofW t d = X at *
    have C8 := Lib.hid (fun y W (hy : ok64 y) => O.start y d W hy hd)
    have C10 := Lib.hid (fun y W (hy : ok64 y) => O.end y d W hy hd)
    have hX : ok64 X := by unfold ok64; omega
    have hX1 : ok64 (X + 1) := by unfold ok64; omega
    have b1 := startW_ok X d
    have b2 := endW_ok X d
    have b3 := startW_ok (X + 1) d
    have b4 := startW_ok o d
    have b5 := endW_ok o d
    have C8a := Lib.hid (fun W => C8.out X W hX)
    have C8b := Lib.hid (fun W => C8.out (X + 1) W hX1)
    have C8c := Lib.hid (fun W => C8.out o W ho)
    have C10a := Lib.hid (fun W => C10.out X W hX)
    have C10c := Lib.hid (fun W => C10.out o W ho)
    clear C8 C10 O hmay hE
    generalize startW X d = S1 at *
    generalize endW X d = E1 at *
    generalize startW (X + 1) d = S2 at *
    generalize startW o d = S3 at *
    generalize endW o d = E3 at *
    have i1 : decide (t < S1) = false := decide_eq_false (by omega)
    have i1' : ¬ t < S1 := by omega
    have i2 : decide (E1 ≤ t) = false := decide_eq_false (by omega)
    have i2' : ¬ E1 ≤ t := by omega
    have hw : IntKind.i64.wrap (X + 1) = X + 1 := by rw [IntKind.wrap_i64]; omega
    have hpar : E1 = S2 ∨ (¬ X < 1000000000000 ∧ E1 ≠ S2) := by
      by_cases h2 : E1 = S2
      · exact Or.inl h2
      · exact Or.inr ⟨fun h1 => h2 (HNX.out h1), h2⟩
    clear HNX
    rcases hpar with hq | ⟨hq1, hq2⟩
    · subst hq
      have q1 : (E1 == E1) = true := by simp
      have q3 : (E1 != E1) = false := by simp
      go_enter Try.func5, Try.ntmps5
      go_wp2_with fail
      refine (HAl.out _).mono ?_
      rintro e w1 ⟨rfl, n1⟩
      have D1 := Lib.hid n1
      clear n1
      go_wp2_with fail
      refine (C14.out _).mono ?_
      rintro e w2 ⟨rfl, n2⟩
      have D2 := Lib.hid (D1.out.trans (n2.mono D1.out.size))
      clear n2
      go_wp2_with fail
      refine (C8a.out _).mono ?_
      rintro e w3 ⟨rfl, n3⟩
      have D3 := Lib.hid (D2.out.trans (n3.mono D2.out.size))
      clear n3
      go_wp2_with fail
      refine (C10a.out _).mono ?_
      rintro e w4 ⟨rfl, n4⟩
      have D4 := Lib.hid (D3.out.trans (n4.mono D3.out.size))
      clear n4
      go_wp2_with fail
      refine (C10a.out _).mono ?_
      rintro e w5 ⟨rfl, n5⟩
      have D5 := Lib.hid (D4.out.trans (n5.mono D4.out.size))
      clear n5
      go_wp2_with fail
      refine (C8b.out _).mono ?_
      rintro e w6 ⟨rfl, n6⟩
      have D6 := Lib.hid (D5.out.trans (n6.mono D5.out.size))
      clear n6
      by_cases ho1 : o < 0
      · have j1 : decide (o < 0) = true := decide_eq_true ho1
        go_wp2_with fail
        go_ret
        exact ⟨by first | rfl | simp, D6.out⟩
      · have j1 : decide (o < 0) = false := decide_eq_false ho1
        by_cases ho2 : 1000000000000 < o
        · have j2 : decide (1000000000000 < o) = true := decide_eq_true ho2
          go_wp2_with fail
          go_ret
          exact ⟨by first | rfl | simp, D6.out⟩
        · have j2 : decide (1000000000000 < o) = false := decide_eq_false ho2
          by_cases ho3 : o = X
          · have j3 : (o == X) = true := by simp [ho3]
            subst ho3
            go_wp2_with fail
            go_ret
            exact ⟨by first | rfl | simp, D6.out⟩
          · have j3 : (o == X) = false := by simp [ho3]
            have ho5 := HOT.out ⟨by omega, by omega⟩ ho3
            go_wp2_with fail
            refine (C8c.out _).mono ?_
            rintro e w7 ⟨rfl, n7⟩
            have D7 := Lib.hid (D6.out.trans (n7.mono D6.out.size))
            clear n7
            by_cases ho4 : t < S3
            · have j4 : decide (t < S3) = true := decide_eq_true ho4
              clear ho5
              go_wp2_with fail
              go_ret
              exact ⟨by first | rfl | simp, D7.out⟩
            · have j4 : decide (t < S3) = false := decide_eq_false ho4
              have j6 : E3 ≤ t := by omega
              have j5 : decide (E3 ≤ t) = true := decide_eq_true j6
              clear ho5
              go_wp2_with fail
              refine (C10c.out _).mono ?_
              rintro e w8 ⟨rfl, n8⟩
              have D8 := Lib.hid (D7.out.trans (n8.mono D7.out.size))
              clear n8
              go_wp2_with fail
              go_ret
              exact ⟨by first | rfl | simp, D8.out⟩
    · have q1 : (E1 == S2) = false := by simp [hq2]
      have q3 : (E1 != S2) = true := by simp [hq2]
      have q2 : decide (X < 1000000000000) = false := decide_eq_false hq1
      go_enter Try.func5, Try.ntmps5
      go_wp2_with fail
      refine (HAl.out _).mono ?_
      rintro e w1 ⟨rfl, n1⟩
      have D1 := Lib.hid n1
      clear n1
      go_wp2_with fail
      refine (C14.out _).mono ?_
      rintro e w2 ⟨rfl, n2⟩
      have D2 := Lib.hid (D1.out.trans (n2.mono D1.out.size))
      clear n2
      go_wp2_with fail
      refine (C8a.out _).mono ?_
      rintro e w3 ⟨rfl, n3⟩
      have D3 := Lib.hid (D2.out.trans (n3.mono D2.out.size))
      clear n3
      go_wp2_with fail
      refine (C10a.out _).mono ?_
      rintro e w4 ⟨rfl, n4⟩
      have D4 := Lib.hid (D3.out.trans (n4.mono D3.out.size))
      clear n4
      go_wp2_with fail
      refine (C10a.out _).mono ?_
      rintro e w5 ⟨rfl, n5⟩
      have D5 := Lib.hid (D4.out.trans (n5.mono D4.out.size))
      clear n5
      go_wp2_with fail
      refine (C8b.out _).mono ?_
      rintro e w6 ⟨rfl, n6⟩
      have D6 := Lib.hid (D5.out.trans (n6.mono D5.out.size))
      clear n6
      by_cases ho1 : o < 0
      · have j1 : decide (o < 0) = true := decide_eq_true ho1
        go_wp2_with fail
        go_ret
        exact ⟨by first | rfl | simp, D6.out⟩
      · have j1 : decide (o < 0) = false := decide_eq_false ho1
        by_cases ho2 : 1000000000000 < o
        · have j2 : decide (1000000000000 < o) = true := decide_eq_true ho2
          go_wp2_with fail
          go_ret
          exact ⟨by first | rfl | simp, D6.out⟩
        · have j2 : decide (1000000000000 < o) = false := decide_eq_false ho2
          by_cases ho3 : o = X
          · have j3 : (o == X) = true := by simp [ho3]
            subst ho3
            go_wp2_with fail
            go_ret
            exact ⟨by first | rfl | simp, D6.out⟩
          · have j3 : (o == X) = false := by simp [ho3]
            have ho5 := HOT.out ⟨by omega, by omega⟩ ho3
            go_wp2_with fail
            refine (C8c.out _).mono ?_
            rintro e w7 ⟨rfl, n7⟩
            have D7 := Lib.hid (D6.out.trans (n7.mono D6.out.size))
            clear n7
            by_cases ho4 : t < S3
            · have j4 : decide (t < S3) = true := decide_eq_true ho4
              clear ho5
              go_wp2_with fail
              go_ret
              exact ⟨by first | rfl | simp, D7.out⟩
            · have j4 : decide (t < S3) = false := decide_eq_false ho4
              have j6 : E3 ≤ t := by omega
              have j5 : decide (E3 ≤ t) = true := decide_eq_true j6
              clear ho5
              go_wp2_with fail
              refine (C10c.out _).mono ?_
              rintro e w8 ⟨rfl, n8⟩
              have D8 := Lib.hid (D7.out.trans (n8.mono D7.out.size))
              clear n8
              go_wp2_with fail
              go_ret
              exact ⟨by first | rfl | simp, D8.out⟩
end Go.Proofs.Ytchlndcdfaelmaa.Wi
