/- A walk of the law ChainAhead. -/
import Derived.Test.YtecfjifipbabiaaV6
import Derived.Test.YtecfjifipbabiaaV7
namespace Go.Proofs.Ytecfjifipbabiaa.Ch
open Go Go.RowKit Go.Sort Go.Lib Cl Ce

/-- A version's box and the world as it has grown. -/
def XB (b : Nat) (x1 x2 x3 : Int) (x4 : Bool) (x5 x6 : Int) (base : Nat) (w w' : World) : Prop := w'.cell? ⟨b, 0, none⟩ = some (.int .i64 x1) ∧ w'.cell? ⟨b, 1, none⟩ = some (.int .i64 x2) ∧ w'.cell? ⟨b, 2, none⟩ = some (.int .i64 x3) ∧ w'.cell? ⟨b, 3, none⟩ = some (.bool x4) ∧ w'.cell? ⟨b, 4, none⟩ = some (.int .i64 x5) ∧ w'.cell? ⟨b, 5, none⟩ = some (.int .i64 x6) ∧ Below base w w'
theorem XB.on {b base : Nat} {x1 x2 x3 : Int} {x4 : Bool} {x5 x6 : Int} {w w1 w2 : World} (h : XB b x1 x2 x3 x4 x5 x6 base w w1) (hz : base ≤ w1.heap.size) (n : Below w1.heap.size w1 w2) : XB b x1 x2 x3 x4 x5 x6 base w w2 := by
  obtain ⟨h0, h1, h2, h3, h4, h5, h6⟩ := h
  have z : b < w1.heap.size := World.block_lt_of_cell? _ _ h0
  exact ⟨keepC n h0 z, keepC n h1 z, keepC n h2 z, keepC n h3 z, keepC n h4 z, keepC n h5 z, h6.trans (n.mono hz)⟩
set_option maxRecDepth 100000 in
set_option maxHeartbeats 1000000 in
theorem ahead_big (O : Own10) (v1 : Value) (l : List Ver) (x1 x2 x3 : Int) (x4 : Bool) (x5 x6 s : Int) (w : World) (h1 : VRow w v1 l) (hb : 200 < l.length) :
    Calls Try.prog 6 #[v1, .agg #[.int .i64 x1, .int .i64 x2, .int .i64 x3, .bool x4, .int .i64 x5, .int .i64 x6], .int .i64 s] w fun e w' => e = .returned (.bool true) ∧ Below w.heap.size w w' := by
  have na := aBelow w (.cells #[.int .i64 x1, .int .i64 x2, .int .i64 x3, .bool x4, .int .i64 x5, .int .i64 x6] 40)
  have HAl := Lib.hid (alive_any O (w.alloc (.cells #[.int .i64 x1, .int .i64 x2, .int .i64 x3, .bool x4, .int .i64 x5, .int .i64 x6] 40)))
  have HX : Hid (XB w.heap.size x1 x2 x3 x4 x5 x6 w.heap.size w (w.alloc (.cells #[.int .i64 x1, .int .i64 x2, .int .i64 x3, .bool x4, .int .i64 x5, .int .i64 x6] 40))) := ⟨by simp, by simp, by simp, by simp, by simp, by simp, na⟩
  have hza := na.size
  have H1 := Lib.hid (fun W (n : Below w.heap.size w W) => h1.on n)
  obtain ⟨a1, c1, rfl, _, _⟩ := h1
  have u1 : decide ((200 : Int) < (l.length : Int)) = true := decide_eq_true (by omega)
  have u1' : (200 : Int) < (l.length : Int) := by omega
  go_enter Try.func6, Try.ntmps6
  go_wp2_with fail
  generalize w.alloc (.cells #[.int .i64 x1, .int .i64 x2, .int .i64 x3, .bool x4, .int .i64 x5, .int .i64 x6] 40) = wa at *
  obtain ⟨k0, k1, k2, k3, k4, k5, _⟩ := HX.out
  go_wp2_with fail
  refine (HAl.out).mono ?_
  rintro e w1 ⟨rfl, n1⟩
  have HX := Lib.hid (HX.out.on hza n1)
  have d1 := na.trans (n1.mono na.size)
  clear HAl na hza k0 k1 k2 k3 k4 k5 n1
  obtain ⟨k0, k1, k2, k3, k4, k5, _⟩ := HX.out
  go_wp2_with fail
  go_ret
  exact ⟨rfl, d1⟩
set_option maxRecDepth 100000 in
set_option maxHeartbeats 1000000 in
theorem ahead_no (O : Own10) (v1 : Value) (l : List Ver) (x1 x2 x3 : Int) (x4 : Bool) (x5 x6 s : Int) (w : World) (h1 : VRow w v1 l) (hb : l.length ≤ 200) (hr : vright (l ++ [⟨x1, ⟨x2, x3, x4, x5, x6⟩⟩]) = false) :
    Calls Try.prog 6 #[v1, .agg #[.int .i64 x1, .int .i64 x2, .int .i64 x3, .bool x4, .int .i64 x5, .int .i64 x6], .int .i64 s] w fun e w' => e = .returned (.bool true) ∧ Below w.heap.size w w' := by
  have na := aBelow w (.cells #[.int .i64 x1, .int .i64 x2, .int .i64 x3, .bool x4, .int .i64 x5, .int .i64 x6] 40)
  have HAl := Lib.hid (alive_any O (w.alloc (.cells #[.int .i64 x1, .int .i64 x2, .int .i64 x3, .bool x4, .int .i64 x5, .int .i64 x6] 40)))
  have HX : Hid (XB w.heap.size x1 x2 x3 x4 x5 x6 w.heap.size w (w.alloc (.cells #[.int .i64 x1, .int .i64 x2, .int .i64 x3, .bool x4, .int .i64 x5, .int .i64 x6] 40))) := ⟨by simp, by simp, by simp, by simp, by simp, by simp, na⟩
  have hza := na.size
  have H1 := Lib.hid (fun W (n : Below w.heap.size w W) => h1.on n)
  obtain ⟨a1, c1, rfl, _, _⟩ := h1
  have u1 : decide ((200 : Int) < (l.length : Int)) = false := decide_eq_false (by omega)
  have u1' : ¬ (200 : Int) < (l.length : Int) := by omega
  have HP := Lib.hid (fun W u (n : Below w.heap.size w W) (g : VRow W u [⟨x1, ⟨x2, x3, x4, x5, x6⟩⟩]) => O.put _ u l [⟨x1, ⟨x2, x3, x4, x5, x6⟩⟩] W (H1.out W n) g (by omega) (by simp))
  rw [putV_no hr] at HP
  dsimp only at HP
  clear hr
  go_enter Try.func6, Try.ntmps6
  go_wp2_with fail
  generalize w.alloc (.cells #[.int .i64 x1, .int .i64 x2, .int .i64 x3, .bool x4, .int .i64 x5, .int .i64 x6] 40) = wa at *
  obtain ⟨k0, k1, k2, k3, k4, k5, _⟩ := HX.out
  go_wp2_with fail
  refine (HAl.out).mono ?_
  rintro e w1 ⟨rfl, n1⟩
  have HX := Lib.hid (HX.out.on hza n1)
  have d1 := na.trans (n1.mono na.size)
  clear HAl na hza k0 k1 k2 k3 k4 k5 n1
  obtain ⟨k0, k1, k2, k3, k4, k5, _⟩ := HX.out
  go_wp2_with fail
  have nb := aBelow w1 (.cells #[.int .i64 x1, .int .i64 x2, .int .i64 x3, .bool x4, .int .i64 x5, .int .i64 x6] 40)
  have hrow := vrow_new w1 #[.int .i64 x1, .int .i64 x2, .int .i64 x3, .bool x4, .int .i64 x5, .int .i64 x6] 40 [⟨x1, ⟨x2, x3, x4, x5, x6⟩⟩] rfl
  refine (HP.out _ _ (d1.trans (nb.mono d1.size)) hrow).mono ?_
  rintro e w2 ⟨⟨_, rfl, r2⟩, n2⟩
  have n2 := nb.trans (n2.mono nb.size)
  have d2 := d1.trans (n2.mono d1.size)
  have HX := Lib.hid (HX.out.on d1.size n2)
  clear hrow nb n2 k0 k1 k2 k3 k4 k5
  obtain ⟨a2, c2, rfl, _, _⟩ := r2
  go_wp2_with fail
  go_ret
  exact ⟨rfl, d2⟩
set_option maxRecDepth 100000 in
set_option maxHeartbeats 2000000 in
theorem ahead_less (O : Own10) (v1 : Value) (l : List Ver) (x1 x2 x3 : Int) (x4 : Bool) (x5 x6 s : Int) (w : World) (h1 : VRow w v1 l) (hb : l.length ≤ 200) (hr : vright (l ++ [⟨x1, ⟨x2, x3, x4, x5, x6⟩⟩]) = true) (hs : s < x1) :
    Calls Try.prog 6 #[v1, .agg #[.int .i64 x1, .int .i64 x2, .int .i64 x3, .bool x4, .int .i64 x5, .int .i64 x6], .int .i64 s] w fun e w' => e = .returned (.bool true) ∧ Below w.heap.size w w' := by
  have na := aBelow w (.cells #[.int .i64 x1, .int .i64 x2, .int .i64 x3, .bool x4, .int .i64 x5, .int .i64 x6] 40)
  have HAl := Lib.hid (alive_any O (w.alloc (.cells #[.int .i64 x1, .int .i64 x2, .int .i64 x3, .bool x4, .int .i64 x5, .int .i64 x6] 40)))
  have HX : Hid (XB w.heap.size x1 x2 x3 x4 x5 x6 w.heap.size w (w.alloc (.cells #[.int .i64 x1, .int .i64 x2, .int .i64 x3, .bool x4, .int .i64 x5, .int .i64 x6] 40))) := ⟨by simp, by simp, by simp, by simp, by simp, by simp, na⟩
  have hza := na.size
  have H1 := Lib.hid (fun W (n : Below w.heap.size w W) => h1.on n)
  obtain ⟨a1, c1, rfl, _, _⟩ := h1
  have u1 : decide ((200 : Int) < (l.length : Int)) = false := decide_eq_false (by omega)
  have u1' : ¬ (200 : Int) < (l.length : Int) := by omega
  have HP := Lib.hid (fun W u (n : Below w.heap.size w W) (g : VRow W u [⟨x1, ⟨x2, x3, x4, x5, x6⟩⟩]) => O.put _ u l [⟨x1, ⟨x2, x3, x4, x5, x6⟩⟩] W (H1.out W n) g (by omega) (by simp))
  have e1 := put_ahead (l := l) (v := ⟨x1, ⟨x2, x3, x4, x5, x6⟩⟩) (s := s) hs
  have K1 := Lib.hid (fun W u (g : VRow W u (l ++ [⟨x1, ⟨x2, x3, x4, x5, x6⟩⟩])) => O.at' u _ s W g (by rw [List.length_append]; simp; omega))
  have K2 := Lib.hid (fun W (n : Below w.heap.size w W) => O.at' _ l s W (H1.out W n) (by omega))
  rw [e1] at K1
  rw [putV_ok hr] at HP
  dsimp only at HP
  clear hr e1 H1
  generalize hLL : l ++ [(⟨x1, ⟨x2, x3, x4, x5, x6⟩⟩ : Ver)] = LL at *
  clear hLL
  generalize atS l s = C at *
  obtain ⟨y1, y2, y3, y4, y5⟩ := C
  unfold celV at K1 K2
  simp only at K1 K2
  have q3 : (y1 == y1) = true := by simp
  have q4 : (y2 == y2) = true := by simp
  have q5 : (y3 == y3) = true := by simp
  have q6 : (y4 == y4) = true := by simp
  have q7 : (y5 == y5) = true := by simp
  have u3 : decide (s < x1) = true := decide_eq_true hs
  go_enter Try.func6, Try.ntmps6
  go_wp2_with fail
  generalize w.alloc (.cells #[.int .i64 x1, .int .i64 x2, .int .i64 x3, .bool x4, .int .i64 x5, .int .i64 x6] 40) = wa at *
  obtain ⟨k0, k1, k2, k3, k4, k5, _⟩ := HX.out
  go_wp2_with fail
  refine (HAl.out).mono ?_
  rintro e w1 ⟨rfl, n1⟩
  have HX := Lib.hid (HX.out.on hza n1)
  have d1 := na.trans (n1.mono na.size)
  clear HAl na hza k0 k1 k2 k3 k4 k5 n1
  obtain ⟨k0, k1, k2, k3, k4, k5, _⟩ := HX.out
  go_wp2_with fail
  have nb := aBelow w1 (.cells #[.int .i64 x1, .int .i64 x2, .int .i64 x3, .bool x4, .int .i64 x5, .int .i64 x6] 40)
  have hrow := vrow_new w1 #[.int .i64 x1, .int .i64 x2, .int .i64 x3, .bool x4, .int .i64 x5, .int .i64 x6] 40 [⟨x1, ⟨x2, x3, x4, x5, x6⟩⟩] rfl
  refine (HP.out _ _ (d1.trans (nb.mono d1.size)) hrow).mono ?_
  rintro e w2 ⟨⟨_, rfl, r2⟩, n2⟩
  have n2 := nb.trans (n2.mono nb.size)
  have d2 := d1.trans (n2.mono d1.size)
  have HX := Lib.hid (HX.out.on d1.size n2)
  clear hrow nb n2 k0 k1 k2 k3 k4 k5
  obtain ⟨a2, c2, rfl, g1, g2⟩ := r2
  have R2 : Hid (VRow w2 (.slice a2 LL.length c2) LL) := ⟨a2, c2, rfl, g1, g2⟩
  clear g1 g2 HP
  obtain ⟨k0, k1, k2, k3, k4, k5, _⟩ := HX.out
  go_wp2_with fail
  refine (K1.out _ _ R2.out).mono ?_
  rintro e w3 ⟨rfl, n3⟩
  have d3 := d2.trans (n3.mono d2.size)
  go_wp2_with fail
  refine (K2.out _ d3).mono ?_
  rintro e w4 ⟨rfl, n4⟩
  have d4 := d3.trans (n4.mono d3.size)
  go_wp2_with fail
  go_ret
  exact ⟨rfl, d4⟩
set_option maxRecDepth 100000 in
set_option maxHeartbeats 2000000 in
theorem ahead_from (O : Own10) (v1 : Value) (l : List Ver) (x1 x2 x3 : Int) (x4 : Bool) (x5 x6 s : Int) (w : World) (h1 : VRow w v1 l) (hb : l.length ≤ 200) (hr : vright (l ++ [⟨x1, ⟨x2, x3, x4, x5, x6⟩⟩]) = true) (hs : x1 ≤ s) :
    Calls Try.prog 6 #[v1, .agg #[.int .i64 x1, .int .i64 x2, .int .i64 x3, .bool x4, .int .i64 x5, .int .i64 x6], .int .i64 s] w fun e w' => e = .returned (.bool true) ∧ Below w.heap.size w w' := by
  have na := aBelow w (.cells #[.int .i64 x1, .int .i64 x2, .int .i64 x3, .bool x4, .int .i64 x5, .int .i64 x6] 40)
  have HAl := Lib.hid (alive_any O (w.alloc (.cells #[.int .i64 x1, .int .i64 x2, .int .i64 x3, .bool x4, .int .i64 x5, .int .i64 x6] 40)))
  have HX : Hid (XB w.heap.size x1 x2 x3 x4 x5 x6 w.heap.size w (w.alloc (.cells #[.int .i64 x1, .int .i64 x2, .int .i64 x3, .bool x4, .int .i64 x5, .int .i64 x6] 40))) := ⟨by simp, by simp, by simp, by simp, by simp, by simp, na⟩
  have hza := na.size
  have H1 := Lib.hid (fun W (n : Below w.heap.size w W) => h1.on n)
  obtain ⟨a1, c1, rfl, _, _⟩ := h1
  have u1 : decide ((200 : Int) < (l.length : Int)) = false := decide_eq_false (by omega)
  have u1' : ¬ (200 : Int) < (l.length : Int) := by omega
  have HP := Lib.hid (fun W u (n : Below w.heap.size w W) (g : VRow W u [⟨x1, ⟨x2, x3, x4, x5, x6⟩⟩]) => O.put _ u l [⟨x1, ⟨x2, x3, x4, x5, x6⟩⟩] W (H1.out W n) g (by omega) (by simp))
  have e1 := put_from (l := l) (v := ⟨x1, ⟨x2, x3, x4, x5, x6⟩⟩) (s := s) hs
  have K1 := Lib.hid (fun W u (g : VRow W u (l ++ [⟨x1, ⟨x2, x3, x4, x5, x6⟩⟩])) => O.at' u _ s W g (by rw [List.length_append]; simp; omega))
  rw [e1] at K1
  rw [putV_ok hr] at HP
  dsimp only at HP
  clear hr e1 H1
  generalize hLL : l ++ [(⟨x1, ⟨x2, x3, x4, x5, x6⟩⟩ : Ver)] = LL at *
  clear hLL
  unfold celV at K1
  simp only at K1
  have q3 : (x2 == x2) = true := by simp
  have q4 : (x3 == x3) = true := by simp
  have q5 : (x4 == x4) = true := by simp
  have q6 : (x5 == x5) = true := by simp
  have q7 : (x6 == x6) = true := by simp
  have u3 : decide (s < x1) = false := decide_eq_false (by omega)
  have u4 : ¬ s < x1 := by omega
  go_enter Try.func6, Try.ntmps6
  go_wp2_with fail
  generalize w.alloc (.cells #[.int .i64 x1, .int .i64 x2, .int .i64 x3, .bool x4, .int .i64 x5, .int .i64 x6] 40) = wa at *
  obtain ⟨k0, k1, k2, k3, k4, k5, _⟩ := HX.out
  go_wp2_with fail
  refine (HAl.out).mono ?_
  rintro e w1 ⟨rfl, n1⟩
  have HX := Lib.hid (HX.out.on hza n1)
  have d1 := na.trans (n1.mono na.size)
  clear HAl na hza k0 k1 k2 k3 k4 k5 n1
  obtain ⟨k0, k1, k2, k3, k4, k5, _⟩ := HX.out
  go_wp2_with fail
  have nb := aBelow w1 (.cells #[.int .i64 x1, .int .i64 x2, .int .i64 x3, .bool x4, .int .i64 x5, .int .i64 x6] 40)
  have hrow := vrow_new w1 #[.int .i64 x1, .int .i64 x2, .int .i64 x3, .bool x4, .int .i64 x5, .int .i64 x6] 40 [⟨x1, ⟨x2, x3, x4, x5, x6⟩⟩] rfl
  refine (HP.out _ _ (d1.trans (nb.mono d1.size)) hrow).mono ?_
  rintro e w2 ⟨⟨_, rfl, r2⟩, n2⟩
  have n2 := nb.trans (n2.mono nb.size)
  have d2 := d1.trans (n2.mono d1.size)
  have HX := Lib.hid (HX.out.on d1.size n2)
  clear hrow nb n2 k0 k1 k2 k3 k4 k5
  obtain ⟨a2, c2, rfl, g1, g2⟩ := r2
  have R2 : Hid (VRow w2.drew (.slice a2 LL.length c2) LL) := GRow.on ⟨a2, c2, rfl, g1, g2⟩ (below_drewN (Below.refl _ _) 1)
  clear g1 g2 HP
  obtain ⟨k0, k1, k2, k3, k4, k5, _⟩ := HX.out
  go_wp2_with fail
  have HX := Lib.hid (HX.out.on d2.size (below_drewN (Below.refl _ _) 1))
  have hzd : w.heap.size ≤ w2.drew.heap.size := d2.size
  have hS := HX.out
  unfold XB at hS
  clear k0 k1 k2 k3 k4 k5
  generalize hxb : w.heap.size = xb at *
  go_region_held3 (fun w' => w'.cell? ⟨xb, 0, none⟩ = some (.int .i64 x1) ∧ w'.cell? ⟨xb, 1, none⟩ = some (.int .i64 x2) ∧ w'.cell? ⟨xb, 2, none⟩ = some (.int .i64 x3) ∧ w'.cell? ⟨xb, 3, none⟩ = some (.bool x4) ∧ w'.cell? ⟨xb, 4, none⟩ = some (.int .i64 x5) ∧ w'.cell? ⟨xb, 5, none⟩ = some (.int .i64 x6) ∧ Below xb w w') (first | exact hS | exact hS3) (first
    | (go_at_call 11; refine (K1.out _ _ R2.out).mono ?_; rintro e w3 ⟨rfl, n3⟩; have hS3 := XB.on HX.out hzd n3; unfold XB at hS3)
    | fail)
  have HD := Lib.hid hS3.2.2.2.2.2.2
  clear hS hS3 n3 HX R2 K1
  subst hxb
  go_wp2_with fail
  go_ret
  exact ⟨rfl, HD.out⟩
/-- The law ChainAhead. -/
theorem ahead_walk (O : Own10) (v1 : Value) (l : List Ver) (x : Ver) (s : Int) (w : World) (h1 : VRow w v1 l) :
    Calls Try.prog 6 #[v1, .agg #[.int .i64 x.st, .int .i64 x.c.cnt, .int .i64 x.c.sn, .bool x.c.so, .int .i64 x.c.mn, .int .i64 x.c.mx], .int .i64 s] w fun e w' => e = .returned (.bool true) ∧ Below w.heap.size w w' := by
  obtain ⟨x1, x2, x3, x4, x5, x6⟩ := x
  rcases Nat.lt_or_ge 200 l.length with hb | hb
  · exact ahead_big O v1 l x1 x2 x3 x4 x5 x6 s w h1 hb
  · cases hr : vright (l ++ [⟨x1, ⟨x2, x3, x4, x5, x6⟩⟩])
    · exact ahead_no O v1 l x1 x2 x3 x4 x5 x6 s w h1 hb hr
    · rcases Int.lt_or_le s x1 with hs | hs
      · exact ahead_less O v1 l x1 x2 x3 x4 x5 x6 s w h1 hb hr hs
      · exact ahead_from O v1 l x1 x2 x3 x4 x5 x6 s w h1 hb hr hs
end Go.Proofs.Ytecfjifipbabiaa.Ch
