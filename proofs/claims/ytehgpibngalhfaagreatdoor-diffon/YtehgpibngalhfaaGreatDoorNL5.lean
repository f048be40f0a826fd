/- Walks: the law DiffOn. -/
import Derived.Test.YtehgpibngalhfaaGreatDoorNA
namespace Go.Proofs.YtehgpibngalhfaaGreatDoor.Rw
open Go Go.RowKit Go.Sort Go.Lib Tg Pk Ky Qy Df

set_option maxRecDepth 100000 in
set_option maxHeartbeats 4000000 in
theorem on_great1 (B : Nat) (O : Own9 B) (v1 v2 v3 : Value) (a b c : List Row) (w : World) (hE : Env w) (hF : St.Env B w) (h1 : RRow w v1 a) (h2 : RRow w v2 b) (h3 : RRow w v3 c) (z1 : ∀ r ∈ a, r.grp.size ≤ 281474976710656) (z2 : ∀ r ∈ b, r.grp.size ≤ 281474976710656) (z3 : ∀ r ∈ c, r.grp.size ≤ 281474976710656) (hg : greatR a = true) :
    Calls Tryz.prog 7 #[v1, v2, v3] w fun e w' => e = .returned (.bool true) ∧ Below w.heap.size w w' := by
  have HA := Lib.hid (alive_any B O w hE hF)
  have G1 := Lib.hid (fun W (d : Below w.heap.size w W) => greatR_any v1 a W (h1.on d) z1)
  have G2 := Lib.hid (fun W (d : Below w.heap.size w W) => greatR_any v2 b W (h2.on d) z2)
  have G3 := Lib.hid (fun W (n : Below w.heap.size w W) => greatR_any v3 c W (h3.on n) z3)
  rw [hg] at G1
  clear h1 h2 h3
  go_enter Tryz.func7, Tryz.ntmps7
  go_wp2_with fail
  refine (HA.out).mono ?_
  rintro e w1 ⟨rfl, d1⟩
  go_wp2_with fail
  refine (G1.out _ d1).mono ?_
  rintro e w2 ⟨rfl, rfl⟩
  go_wp2_with fail
  go_ret
  exact ⟨rfl, d1⟩

set_option maxRecDepth 100000 in
set_option maxHeartbeats 4000000 in
theorem on_great2 (B : Nat) (O : Own9 B) (v1 v2 v3 : Value) (a b c : List Row) (w : World) (hE : Env w) (hF : St.Env B w) (h1 : RRow w v1 a) (h2 : RRow w v2 b) (h3 : RRow w v3 c) (z1 : ∀ r ∈ a, r.grp.size ≤ 281474976710656) (z2 : ∀ r ∈ b, r.grp.size ≤ 281474976710656) (z3 : ∀ r ∈ c, r.grp.size ≤ 281474976710656) (hg : greatR a = false) (hg2 : greatR b = true) :
    Calls Tryz.prog 7 #[v1, v2, v3] w fun e w' => e = .returned (.bool true) ∧ Below w.heap.size w w' := by
  have HA := Lib.hid (alive_any B O w hE hF)
  have G1 := Lib.hid (fun W (d : Below w.heap.size w W) => greatR_any v1 a W (h1.on d) z1)
  have G2 := Lib.hid (fun W (d : Below w.heap.size w W) => greatR_any v2 b W (h2.on d) z2)
  have G3 := Lib.hid (fun W (n : Below w.heap.size w W) => greatR_any v3 c W (h3.on n) z3)
  rw [hg] at G1
  rw [hg2] at G2
  clear h1 h2 h3
  go_enter Tryz.func7, Tryz.ntmps7
  go_wp2_with fail
  refine (HA.out).mono ?_
  rintro e w1 ⟨rfl, d1⟩
  go_wp2_with fail
  refine (G1.out _ d1).mono ?_
  rintro e w2 ⟨rfl, rfl⟩
  go_wp2_with fail
  refine (G2.out _ d1).mono ?_
  rintro e w3 ⟨rfl, rfl⟩
  go_wp2_with fail
  go_ret
  exact ⟨rfl, d1⟩

set_option maxRecDepth 100000 in
set_option maxHeartbeats 4000000 in
theorem on_great3 (B : Nat) (O : Own9 B) (v1 v2 v3 : Value) (a b c : List Row) (w : World) (hE : Env w) (hF : St.Env B w) (h1 : RRow w v1 a) (h2 : RRow w v2 b) (h3 : RRow w v3 c) (z1 : ∀ r ∈ a, r.grp.size ≤ 281474976710656) (z2 : ∀ r ∈ b, r.grp.size ≤ 281474976710656) (z3 : ∀ r ∈ c, r.grp.size ≤ 281474976710656) (hg : greatR a = false) (hg2 : greatR b = false) (hg3 : greatR c = true) :
    Calls Tryz.prog 7 #[v1, v2, v3] w fun e w' => e = .returned (.bool true) ∧ Below w.heap.size w w' := by
  have HA := Lib.hid (alive_any B O w hE hF)
  have G1 := Lib.hid (fun W (d : Below w.heap.size w W) => greatR_any v1 a W (h1.on d) z1)
  have G2 := Lib.hid (fun W (d : Below w.heap.size w W) => greatR_any v2 b W (h2.on d) z2)
  have G3 := Lib.hid (fun W (n : Below w.heap.size w W) => greatR_any v3 c W (h3.on n) z3)
  rw [hg] at G1
  rw [hg2] at G2
  rw [hg3] at G3
  clear h1 h2 h3
  go_enter Tryz.func7, Tryz.ntmps7
  go_wp2_with fail
  refine (HA.out).mono ?_
  rintro e w1 ⟨rfl, d1⟩
  go_wp2_with fail
  refine (G1.out _ d1).mono ?_
  rintro e w2 ⟨rfl, rfl⟩
  go_wp2_with fail
  refine (G2.out _ d1).mono ?_
  rintro e w3 ⟨rfl, rfl⟩
  go_wp2_with fail
  refine (G3.out _ d1).mono ?_
  rintro e w4 ⟨rfl, rfl⟩
  go_wp2_with fail
  go_ret
  exact ⟨rfl, d1⟩

set_option maxRecDepth 100000 in
set_option maxHeartbeats 4000000 in
theorem on_00 (B : Nat) (O : Own9 B) (v1 v2 v3 : Value) (a b c : List Row) (w : World) (hE : Env w) (hF : St.Env B w) (h1 : RRow w v1 a) (h2 : RRow w v2 b) (h3 : RRow w v3 c) (o1 : ∀ r ∈ a, okR r) (o2 : ∀ r ∈ b, okR r) (o3 : ∀ r ∈ c, okR r) (z1 : ∀ r ∈ a, r.grp.size ≤ 281474976710656) (z2 : ∀ r ∈ b, r.grp.size ≤ 281474976710656) (z3 : ∀ r ∈ c, r.grp.size ≤ 281474976710656) (hg : greatR a = false) (hg2 : greatR b = false) (hg3 : greatR c = false) (ra : rright a = true) (rb : rright b = true) (rc : rright c = true) :
    Calls Tryz.prog 7 #[v1, v2, v3] w fun e w' => e = .returned (.bool true) ∧ Below w.heap.size w w' := by
  have HA := Lib.hid (alive_any B O w hE hF)
  have G1 := Lib.hid (fun W (d : Below w.heap.size w W) => greatR_any v1 a W (h1.on d) z1)
  have G2 := Lib.hid (fun W (d : Below w.heap.size w W) => greatR_any v2 b W (h2.on d) z2)
  have G3 := Lib.hid (fun W (n : Below w.heap.size w W) => greatR_any v3 c W (h3.on n) z3)
  rw [hg] at G1
  rw [hg2] at G2
  rw [hg3] at G3
  obtain ⟨a1, a2⟩ := greatR_no hg
  obtain ⟨b1, b2⟩ := greatR_no hg2
  obtain ⟨e1, e2⟩ := greatR_no hg3
  have HO1 := Lib.hid (fun W (n : Below w.heap.size w W) => O.of v1 v2 a b W (hE.go n) (hF.go n) (h1.on n) (h2.on n) (by omega) (by omega) (fun x hx => by have := a2 x hx; omega) (fun x hx => by have := b2 x hx; omega) o1 o2)
  have HO2 := Lib.hid (fun W (n : Below w.heap.size w W) => O.of v2 v3 b c W (hE.go n) (hF.go n) (h2.on n) (h3.on n) (by omega) (by omega) (fun x hx => by have := b2 x hx; omega) (fun x hx => by have := e2 x hx; omega) o2 o3)
  rw [ofE_ok ra rb] at HO1
  dsimp only at HO1
  rw [ofE_ok rb rc] at HO2
  dsimp only at HO2
  obtain ⟨f1, f2, f3, _⟩ := of_facts hg hg2 o1 o2
  rw [ofE_ok ra rb] at f1 f2 f3
  dsimp only at f1 f2 f3
  obtain ⟨k1, k2, k3, _⟩ := of_facts hg2 hg3 o2 o3
  rw [ofE_ok rb rc] at k1 k2 k3
  dsimp only at k1 k2 k3
  have HP1 := Lib.hid (fun W (n : Below w.heap.size w W) u (k : CRow W u (ofD a b)) => O.apply v1 u a (ofD a b) W (hE.go n) (hF.go n) (h1.on n) k (by omega) (by omega) (fun x hx => by have := a2 x hx; omega) (fun x hx => by have := f2 x hx; omega) o1 f3)
  rw [applyE_back ra rb] at HP1
  dsimp only at HP1
  have HP2 := Lib.hid (fun W (n : Below w.heap.size w W) t u (j : RRow W t b) (k : CRow W u (ofD b c)) => O.apply t u b (ofD b c) W (hE.go n) (hF.go n) j k (by omega) (by omega) (fun x hx => by have := b2 x hx; omega) (fun x hx => by have := k2 x hx; omega) o2 k3)
  rw [applyE_back rb rc] at HP2
  dsimp only at HP2
  have S1 := Lib.hid (fun W (n : Below w.heap.size w W) u (k : RRow W u c) => refSame_any u v3 c c W k (h3.on n) (by omega))
  rw [(sameR_true _ _).2 rfl] at S1
  generalize ofD a b = L at *
  generalize ofD b c = M at *
  clear f1 f2 f3 k1 k2 k3
  clear a2 b2 e2 hg hg2 hg3 z1 z2 z3
  obtain ⟨p1, c1, rfl, -, -⟩ := h1
  obtain ⟨p2, c2, rfl, -, -⟩ := h2
  obtain ⟨p3, c3, rfl, -, -⟩ := h3
  go_enter Tryz.func7, Tryz.ntmps7
  go_wp2_with fail
  refine (HA.out).mono ?_
  rintro e w1 ⟨rfl, d1⟩
  go_wp2_with fail
  refine (G1.out _ d1).mono ?_
  rintro e w2 ⟨rfl, rfl⟩
  go_wp2_with fail
  refine (G2.out _ d1).mono ?_
  rintro e w3 ⟨rfl, rfl⟩
  go_wp2_with fail
  refine (G3.out _ d1).mono ?_
  rintro e w4 ⟨rfl, rfl⟩
  go_wp2_with fail
  clear G1 G2 G3 HA
  refine (HO1.out _ d1).mono ?_
  rintro e w5 ⟨⟨_, rfl, r5⟩, n5⟩
  have R5 := Lib.hid r5
  have d5 := d1.trans (n5.mono d1.size)
  obtain ⟨p5, c5, rfl, -, -⟩ := r5
  clear HO1 n5 d1
  go_wp2_with fail
  refine (HO2.out _ d5).mono ?_
  rintro e w6 ⟨⟨_, rfl, r6⟩, n6⟩
  have R5 := Lib.hid (R5.out.on n6)
  have R6 := Lib.hid r6
  have d6 := d5.trans (n6.mono d5.size)
  obtain ⟨p6, c6, rfl, -, -⟩ := r6
  clear HO2 n6 d5
  go_wp2_with fail
  refine (HP1.out _ d6 _ R5.out).mono ?_
  rintro e w7 ⟨⟨_, rfl, r7⟩, n7⟩
  have R6 := Lib.hid (R6.out.on n7)
  have R7 := Lib.hid r7
  have d7 := d6.trans (n7.mono d6.size)
  obtain ⟨p7, c7, rfl, -, -⟩ := r7
  clear HP1 n7 d6 R5
  go_wp2_with fail
  refine (HP2.out _ d7 _ _ R7.out R6.out).mono ?_
  rintro e w8 ⟨⟨_, rfl, r8⟩, n8⟩
  have R8 := Lib.hid r8
  have d8 := d7.trans (n8.mono d7.size)
  obtain ⟨p8, c8, rfl, -, -⟩ := r8
  clear HP2 n8 d7 R6 R7
  go_wp2_with fail
  refine (S1.out _ d8 _ R8.out).mono ?_
  rintro e w9 ⟨rfl, n9⟩
  have d9 := d8.trans (n9.mono d8.size)
  go_wp2_with fail
  go_ret
  exact ⟨rfl, d9⟩

set_option maxRecDepth 100000 in
set_option maxHeartbeats 4000000 in
theorem on_01 (B : Nat) (O : Own9 B) (v1 v2 v3 : Value) (a b c : List Row) (w : World) (hE : Env w) (hF : St.Env B w) (h1 : RRow w v1 a) (h2 : RRow w v2 b) (h3 : RRow w v3 c) (o1 : ∀ r ∈ a, okR r) (o2 : ∀ r ∈ b, okR r) (o3 : ∀ r ∈ c, okR r) (z1 : ∀ r ∈ a, r.grp.size ≤ 281474976710656) (z2 : ∀ r ∈ b, r.grp.size ≤ 281474976710656) (z3 : ∀ r ∈ c, r.grp.size ≤ 281474976710656) (hg : greatR a = false) (hg2 : greatR b = false) (hg3 : greatR c = false) (ra : rright a = true) (rb : rright b = true) (h2f : ofE b c = ([], 9)) :
    Calls Tryz.prog 7 #[v1, v2, v3] w fun e w' => e = .returned (.bool true) ∧ Below w.heap.size w w' := by
  have HA := Lib.hid (alive_any B O w hE hF)
  have G1 := Lib.hid (fun W (d : Below w.heap.size w W) => greatR_any v1 a W (h1.on d) z1)
  have G2 := Lib.hid (fun W (d : Below w.heap.size w W) => greatR_any v2 b W (h2.on d) z2)
  have G3 := Lib.hid (fun W (n : Below w.heap.size w W) => greatR_any v3 c W (h3.on n) z3)
  rw [hg] at G1
  rw [hg2] at G2
  rw [hg3] at G3
  obtain ⟨a1, a2⟩ := greatR_no hg
  obtain ⟨b1, b2⟩ := greatR_no hg2
  obtain ⟨e1, e2⟩ := greatR_no hg3
  have HO1 := Lib.hid (fun W (n : Below w.heap.size w W) => O.of v1 v2 a b W (hE.go n) (hF.go n) (h1.on n) (h2.on n) (by omega) (by omega) (fun x hx => by have := a2 x hx; omega) (fun x hx => by have := b2 x hx; omega) o1 o2)
  have HO2 := Lib.hid (fun W (n : Below w.heap.size w W) => O.of v2 v3 b c W (hE.go n) (hF.go n) (h2.on n) (h3.on n) (by omega) (by omega) (fun x hx => by have := b2 x hx; omega) (fun x hx => by have := e2 x hx; omega) o2 o3)
  rw [ofE_ok ra rb] at HO1
  dsimp only at HO1
  rw [h2f] at HO2
  dsimp only at HO2
  generalize ofD a b = L at *
  clear a2 b2 e2 hg hg2 hg3 z1 z2 z3
  obtain ⟨p1, c1, rfl, -, -⟩ := h1
  obtain ⟨p2, c2, rfl, -, -⟩ := h2
  obtain ⟨p3, c3, rfl, -, -⟩ := h3
  go_enter Tryz.func7, Tryz.ntmps7
  go_wp2_with fail
  refine (HA.out).mono ?_
  rintro e w1 ⟨rfl, d1⟩
  go_wp2_with fail
  refine (G1.out _ d1).mono ?_
  rintro e w2 ⟨rfl, rfl⟩
  go_wp2_with fail
  refine (G2.out _ d1).mono ?_
  rintro e w3 ⟨rfl, rfl⟩
  go_wp2_with fail
  refine (G3.out _ d1).mono ?_
  rintro e w4 ⟨rfl, rfl⟩
  go_wp2_with fail
  clear G1 G2 G3 HA
  refine (HO1.out _ d1).mono ?_
  rintro e w5 ⟨⟨_, rfl, r5⟩, n5⟩
  have R5 := Lib.hid r5
  have d5 := d1.trans (n5.mono d1.size)
  obtain ⟨p5, c5, rfl, -, -⟩ := r5
  clear HO1 n5 d1
  go_wp2_with fail
  refine (HO2.out _ d5).mono ?_
  rintro e w6 ⟨⟨_, rfl, r6⟩, n6⟩
  have R5 := Lib.hid (R5.out.on n6)
  have R6 := Lib.hid r6
  have d6 := d5.trans (n6.mono d5.size)
  obtain ⟨p6, c6, rfl, -, -⟩ := r6
  clear HO2 n6 d5
  go_wp2_with fail
  go_ret
  exact ⟨rfl, d6⟩

set_option maxRecDepth 100000 in
set_option maxHeartbeats 4000000 in
theorem on_10 (B : Nat) (O : Own9 B) (v1 v2 v3 : Value) (a b c : List Row) (w : World) (hE : Env w) (hF : St.Env B w) (h1 : RRow w v1 a) (h2 : RRow w v2 b) (h3 : RRow w v3 c) (o1 : ∀ r ∈ a, okR r) (o2 : ∀ r ∈ b, okR r) (o3 : ∀ r ∈ c, okR r) (z1 : ∀ r ∈ a, r.grp.size ≤ 281474976710656) (z2 : ∀ r ∈ b, r.grp.size ≤ 281474976710656) (z3 : ∀ r ∈ c, r.grp.size ≤ 281474976710656) (hg : greatR a = false) (hg2 : greatR b = false) (hg3 : greatR c = false) (h1f : ofE a b = ([], 9)) (rb : rright b = true) (rc : rright c = true) :
    Calls Tryz.prog 7 #[v1, v2, v3] w fun e w' => e = .returned (.bool true) ∧ Below w.heap.size w w' := by
  have HA := Lib.hid (alive_any B O w hE hF)
  have G1 := Lib.hid (fun W (d : Below w.heap.size w W) => greatR_any v1 a W (h1.on d) z1)
  have G2 := Lib.hid (fun W (d : Below w.heap.size w W) => greatR_any v2 b W (h2.on d) z2)
  have G3 := Lib.hid (fun W (n : Below w.heap.size w W) => greatR_any v3 c W (h3.on n) z3)
  rw [hg] at G1
  rw [hg2] at G2
  rw [hg3] at G3
  obtain ⟨a1, a2⟩ := greatR_no hg
  obtain ⟨b1, b2⟩ := greatR_no hg2
  obtain ⟨e1, e2⟩ := greatR_no hg3
  have HO1 := Lib.hid (fun W (n : Below w.heap.size w W) => O.of v1 v2 a b W (hE.go n) (hF.go n) (h1.on n) (h2.on n) (by omega) (by omega) (fun x hx => by have := a2 x hx; omega) (fun x hx => by have := b2 x hx; omega) o1 o2)
  have HO2 := Lib.hid (fun W (n : Below w.heap.size w W) => O.of v2 v3 b c W (hE.go n) (hF.go n) (h2.on n) (h3.on n) (by omega) (by omega) (fun x hx => by have := b2 x hx; omega) (fun x hx => by have := e2 x hx; omega) o2 o3)
  rw [h1f] at HO1
  dsimp only at HO1
  rw [ofE_ok rb rc] at HO2
  dsimp only at HO2
  generalize ofD b c = M at *
  clear a2 b2 e2 hg hg2 hg3 z1 z2 z3
  obtain ⟨p1, c1, rfl, -, -⟩ := h1
  obtain ⟨p2, c2, rfl, -, -⟩ := h2
  obtain ⟨p3, c3, rfl, -, -⟩ := h3
  go_enter Tryz.func7, Tryz.ntmps7
  go_wp2_with fail
  refine (HA.out).mono ?_
  rintro e w1 ⟨rfl, d1⟩
  go_wp2_with fail
  refine (G1.out _ d1).mono ?_
  rintro e w2 ⟨rfl, rfl⟩
  go_wp2_with fail
  refine (G2.out _ d1).mono ?_
  rintro e w3 ⟨rfl, rfl⟩
  go_wp2_with fail
  refine (G3.out _ d1).mono ?_
  rintro e w4 ⟨rfl, rfl⟩
  go_wp2_with fail
  clear G1 G2 G3 HA
  refine (HO1.out _ d1).mono ?_
  rintro e w5 ⟨⟨_, rfl, r5⟩, n5⟩
  have R5 := Lib.hid r5
  have d5 := d1.trans (n5.mono d1.size)
  obtain ⟨p5, c5, rfl, -, -⟩ := r5
  clear HO1 n5 d1
  go_wp2_with fail
  refine (HO2.out _ d5).mono ?_
  rintro e w6 ⟨⟨_, rfl, r6⟩, n6⟩
  have R5 := Lib.hid (R5.out.on n6)
  have R6 := Lib.hid r6
  have d6 := d5.trans (n6.mono d5.size)
  obtain ⟨p6, c6, rfl, -, -⟩ := r6
  clear HO2 n6 d5
  go_wp2_with fail
  go_ret
  exact ⟨rfl, d6⟩

set_option maxRecDepth 100000 in
set_option maxHeartbeats 4000000 in
theorem on_11 (B : Nat) (O : Own9 B) (v1 v2 v3 : Value) (a b c : List Row) (w : World) (hE : Env w) (hF : St.Env B w) (h1 : RRow w v1 a) (h2 : RRow w v2 b) (h3 : RRow w v3 c) (o1 : ∀ r ∈ a, okR r) (o2 : ∀ r ∈ b, okR r) (o3 : ∀ r ∈ c, okR r) (z1 : ∀ r ∈ a, r.grp.size ≤ 281474976710656) (z2 : ∀ r ∈ b, r.grp.size ≤ 281474976710656) (z3 : ∀ r ∈ c, r.grp.size ≤ 281474976710656) (hg : greatR a = false) (hg2 : greatR b = false) (hg3 : greatR c = false) (h1f : ofE a b = ([], 9)) (h2f : ofE b c = ([], 9)) :
    Calls Tryz.prog 7 #[v1, v2, v3] w fun e w' => e = .returned (.bool true) ∧ Below w.heap.size w w' := by
  have HA := Lib.hid (alive_any B O w hE hF)
  have G1 := Lib.hid (fun W (d : Below w.heap.size w W) => greatR_any v1 a W (h1.on d) z1)
  have G2 := Lib.hid (fun W (d : Below w.heap.size w W) => greatR_any v2 b W (h2.on d) z2)
  have G3 := Lib.hid (fun W (n : Below w.heap.size w W) => greatR_any v3 c W (h3.on n) z3)
  rw [hg] at G1
  rw [hg2] at G2
  rw [hg3] at G3
  obtain ⟨a1, a2⟩ := greatR_no hg
  obtain ⟨b1, b2⟩ := greatR_no hg2
  obtain ⟨e1, e2⟩ := greatR_no hg3
  have HO1 := Lib.hid (fun W (n : Below w.heap.size w W) => O.of v1 v2 a b W (hE.go n) (hF.go n) (h1.on n) (h2.on n) (by omega) (by omega) (fun x hx => by have := a2 x hx; omega) (fun x hx => by have := b2 x hx; omega) o1 o2)
  have HO2 := Lib.hid (fun W (n : Below w.heap.size w W) => O.of v2 v3 b c W (hE.go n) (hF.go n) (h2.on n) (h3.on n) (by omega) (by omega) (fun x hx => by have := b2 x hx; omega) (fun x hx => by have := e2 x hx; omega) o2 o3)
  rw [h1f] at HO1
  dsimp only at HO1
  rw [h2f] at HO2
  dsimp only at HO2
  clear a2 b2 e2 hg hg2 hg3 z1 z2 z3
  obtain ⟨p1, c1, rfl, -, -⟩ := h1
  obtain ⟨p2, c2, rfl, -, -⟩ := h2
  obtain ⟨p3, c3, rfl, -, -⟩ := h3
  go_enter Tryz.func7, Tryz.ntmps7
  go_wp2_with fail
  refine (HA.out).mono ?_
  rintro e w1 ⟨rfl, d1⟩
  go_wp2_with fail
  refine (G1.out _ d1).mono ?_
  rintro e w2 ⟨rfl, rfl⟩
  go_wp2_with fail
  refine (G2.out _ d1).mono ?_
  rintro e w3 ⟨rfl, rfl⟩
  go_wp2_with fail
  refine (G3.out _ d1).mono ?_
  rintro e w4 ⟨rfl, rfl⟩
  go_wp2_with fail
  clear G1 G2 G3 HA
  refine (HO1.out _ d1).mono ?_
  rintro e w5 ⟨⟨_, rfl, r5⟩, n5⟩
  have R5 := Lib.hid r5
  have d5 := d1.trans (n5.mono d1.size)
  obtain ⟨p5, c5, rfl, -, -⟩ := r5
  clear HO1 n5 d1
  go_wp2_with fail
  refine (HO2.out _ d5).mono ?_
  rintro e w6 ⟨⟨_, rfl, r6⟩, n6⟩
  have R5 := Lib.hid (R5.out.on n6)
  have R6 := Lib.hid r6
  have d6 := d5.trans (n6.mono d5.size)
  obtain ⟨p6, c6, rfl, -, -⟩ := r6
  clear HO2 n6 d5
  go_wp2_with fail
  go_ret
  exact ⟨rfl, d6⟩

theorem on_walk (B : Nat) (O : Own9 B) (v1 v2 v3 : Value) (a b c : List Row) (w : World) (hE : Env w) (hF : St.Env B w) (h1 : RRow w v1 a) (h2 : RRow w v2 b) (h3 : RRow w v3 c) (o1 : ∀ r ∈ a, okR r) (o2 : ∀ r ∈ b, okR r) (o3 : ∀ r ∈ c, okR r) (z1 : ∀ r ∈ a, r.grp.size ≤ 281474976710656) (z2 : ∀ r ∈ b, r.grp.size ≤ 281474976710656) (z3 : ∀ r ∈ c, r.grp.size ≤ 281474976710656) :
    Calls Tryz.prog 7 #[v1, v2, v3] w fun e w' => e = .returned (.bool true) ∧ Below w.heap.size w w' := by
  cases hg : greatR a
  · cases hg2 : greatR b
    · cases hg3 : greatR c
      · rcases ofE_cases a b with ⟨ra, rb, _⟩ | ⟨_, h1f⟩
        · rcases ofE_cases b c with ⟨_, rc, _⟩ | ⟨_, h2f⟩
          · exact on_00 B O v1 v2 v3 a b c w hE hF h1 h2 h3 o1 o2 o3 z1 z2 z3 hg hg2 hg3 ra rb rc
          · exact on_01 B O v1 v2 v3 a b c w hE hF h1 h2 h3 o1 o2 o3 z1 z2 z3 hg hg2 hg3 ra rb h2f
        · rcases ofE_cases b c with ⟨rb, rc, _⟩ | ⟨_, h2f⟩
          · exact on_10 B O v1 v2 v3 a b c w hE hF h1 h2 h3 o1 o2 o3 z1 z2 z3 hg hg2 hg3 h1f rb rc
          · exact on_11 B O v1 v2 v3 a b c w hE hF h1 h2 h3 o1 o2 o3 z1 z2 z3 hg hg2 hg3 h1f h2f
      · exact on_great3 B O v1 v2 v3 a b c w hE hF h1 h2 h3 z1 z2 z3 hg hg2 hg3
    · exact on_great2 B O v1 v2 v3 a b c w hE hF h1 h2 h3 z1 z2 z3 hg hg2
  · exact on_great1 B O v1 v2 v3 a b c w hE hF h1 h2 h3 z1 z2 z3 hg

end Go.Proofs.YtehgpibngalhfaaGreatDoor.Rw
