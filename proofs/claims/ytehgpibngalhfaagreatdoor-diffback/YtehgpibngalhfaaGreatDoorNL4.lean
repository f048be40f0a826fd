/- Walks: the law DiffBack. -/
import Derived.Test.YtehgpibngalhfaaGreatDoorNA
namespace Go.Proofs.YtehgpibngalhfaaGreatDoor.Rw
open Go Go.RowKit Go.Sort Go.Lib Tg Pk Ky Qy Df

set_option maxRecDepth 100000 in
set_option maxHeartbeats 4000000 in
theorem bk_great1 (B : Nat) (O : Own9 B) (v1 v2 v3 : Value) (a b : List Row) (c : List Chg) (w : World) (hE : Env w) (hF : St.Env B w) (h1 : RRow w v1 a) (h2 : RRow w v2 b) (h3 : CRow w v3 c) (z1 : ∀ r ∈ a, r.grp.size ≤ 281474976710656) (z2 : ∀ r ∈ b, r.grp.size ≤ 281474976710656) (z3 : ∀ x ∈ c, x.r.grp.size ≤ 281474976710656) (hg : greatR a = true) :
    Calls Tryz.prog 6 #[v1, v2, v3] w fun e w' => e = .returned (.bool true) ∧ Below w.heap.size w w' := by
  have HA := Lib.hid (alive_any B O w hE hF)
  have G1 := Lib.hid (fun W (d : Below w.heap.size w W) => greatR_any v1 a W (h1.on d) z1)
  have G2 := Lib.hid (fun W (d : Below w.heap.size w W) => greatR_any v2 b W (h2.on d) z2)
  have G3 := Lib.hid (fun W (n : Below w.heap.size w W) => greatC_any v3 c W (h3.on n) z3)
  rw [hg] at G1
  clear h1 h2 h3
  go_enter Tryz.func6, Tryz.ntmps6
  go_wp2_with fail
  refine (HA.out).mono ?_
  rintro e w1 ⟨rfl, d1⟩
  go_wp2_with fail
  refine (G1.out _ d1).mono ?_
  rintro e w2 ⟨rfl, rfl⟩
  go_wp2_with fail
  go_ret
  exact ⟨rfl, d1⟩

set_option maxRecDepth 100000 in
set_option maxHeartbeats 4000000 in
theorem bk_great2 (B : Nat) (O : Own9 B) (v1 v2 v3 : Value) (a b : List Row) (c : List Chg) (w : World) (hE : Env w) (hF : St.Env B w) (h1 : RRow w v1 a) (h2 : RRow w v2 b) (h3 : CRow w v3 c) (z1 : ∀ r ∈ a, r.grp.size ≤ 281474976710656) (z2 : ∀ r ∈ b, r.grp.size ≤ 281474976710656) (z3 : ∀ x ∈ c, x.r.grp.size ≤ 281474976710656) (hg : greatR a = false) (hg2 : greatR b = true) :
    Calls Tryz.prog 6 #[v1, v2, v3] w fun e w' => e = .returned (.bool true) ∧ Below w.heap.size w w' := by
  have HA := Lib.hid (alive_any B O w hE hF)
  have G1 := Lib.hid (fun W (d : Below w.heap.size w W) => greatR_any v1 a W (h1.on d) z1)
  have G2 := Lib.hid (fun W (d : Below w.heap.size w W) => greatR_any v2 b W (h2.on d) z2)
  have G3 := Lib.hid (fun W (n : Below w.heap.size w W) => greatC_any v3 c W (h3.on n) z3)
  rw [hg] at G1
  rw [hg2] at G2
  clear h1 h2 h3
  go_enter Tryz.func6, Tryz.ntmps6
  go_wp2_with fail
  refine (HA.out).mono ?_
  rintro e w1 ⟨rfl, d1⟩
  go_wp2_with fail
  refine (G1.out _ d1).mono ?_
  rintro e w2 ⟨rfl, rfl⟩
  go_wp2_with fail
  refine (G2.out _ d1).mono ?_
  rintro e w3 ⟨rfl, rfl⟩
  go_wp2_with fail
  go_ret
  exact ⟨rfl, d1⟩

set_option maxRecDepth 100000 in
set_option maxHeartbeats 4000000 in
theorem bk_great3 (B : Nat) (O : Own9 B) (v1 v2 v3 : Value) (a b : List Row) (c : List Chg) (w : World) (hE : Env w) (hF : St.Env B w) (h1 : RRow w v1 a) (h2 : RRow w v2 b) (h3 : CRow w v3 c) (z1 : ∀ r ∈ a, r.grp.size ≤ 281474976710656) (z2 : ∀ r ∈ b, r.grp.size ≤ 281474976710656) (z3 : ∀ x ∈ c, x.r.grp.size ≤ 281474976710656) (hg : greatR a = false) (hg2 : greatR b = false) (hg3 : greatC c = true) :
    Calls Tryz.prog 6 #[v1, v2, v3] w fun e w' => e = .returned (.bool true) ∧ Below w.heap.size w w' := by
  have HA := Lib.hid (alive_any B O w hE hF)
  have G1 := Lib.hid (fun W (d : Below w.heap.size w W) => greatR_any v1 a W (h1.on d) z1)
  have G2 := Lib.hid (fun W (d : Below w.heap.size w W) => greatR_any v2 b W (h2.on d) z2)
  have G3 := Lib.hid (fun W (n : Below w.heap.size w W) => greatC_any v3 c W (h3.on n) z3)
  rw [hg] at G1
  rw [hg2] at G2
  rw [hg3] at G3
  clear h1 h2 h3
  go_enter Tryz.func6, Tryz.ntmps6
  go_wp2_with fail
  refine (HA.out).mono ?_
  rintro e w1 ⟨rfl, d1⟩
  go_wp2_with fail
  refine (G1.out _ d1).mono ?_
  rintro e w2 ⟨rfl, rfl⟩
  go_wp2_with fail
  refine (G2.out _ d1).mono ?_
  rintro e w3 ⟨rfl, rfl⟩
  go_wp2_with fail
  refine (G3.out _ d1).mono ?_
  rintro e w4 ⟨rfl, rfl⟩
  go_wp2_with fail
  go_ret
  exact ⟨rfl, d1⟩

set_option maxRecDepth 100000 in
set_option maxHeartbeats 4000000 in
theorem bk_00 (B : Nat) (O : Own9 B) (v1 v2 v3 : Value) (a b : List Row) (c : List Chg) (w : World) (hE : Env w) (hF : St.Env B w) (h1 : RRow w v1 a) (h2 : RRow w v2 b) (h3 : CRow w v3 c) (o1 : ∀ r ∈ a, okR r) (o2 : ∀ r ∈ b, okR r) (z1 : ∀ r ∈ a, r.grp.size ≤ 281474976710656) (z2 : ∀ r ∈ b, r.grp.size ≤ 281474976710656) (z3 : ∀ x ∈ c, x.r.grp.size ≤ 281474976710656) (hg : greatR a = false) (hg2 : greatR b = false) (hg3 : greatC c = false) (hr : cright c = false) (ra : rright a = true) (rb : rright b = true) :
    Calls Tryz.prog 6 #[v1, v2, v3] w fun e w' => e = .returned (.bool true) ∧ Below w.heap.size w w' := by
  have HA := Lib.hid (alive_any B O w hE hF)
  have G1 := Lib.hid (fun W (d : Below w.heap.size w W) => greatR_any v1 a W (h1.on d) z1)
  have G2 := Lib.hid (fun W (d : Below w.heap.size w W) => greatR_any v2 b W (h2.on d) z2)
  have G3 := Lib.hid (fun W (n : Below w.heap.size w W) => greatC_any v3 c W (h3.on n) z3)
  rw [hg] at G1
  rw [hg2] at G2
  rw [hg3] at G3
  obtain ⟨a1, a2⟩ := greatR_no hg
  obtain ⟨b1, b2⟩ := greatR_no hg2
  obtain ⟨e1, e2⟩ := greatC_not hg3
  have RC := Lib.hid (fun W (n : Below w.heap.size w W) => refCright_any v3 c W (h3.on n) (by omega) (fun x hx => by have := e2 x hx; omega))
  rw [hr] at RC
  have HO := Lib.hid (fun W (n : Below w.heap.size w W) => O.of v1 v2 a b W (hE.go n) (hF.go n) (h1.on n) (h2.on n) (by omega) (by omega) (fun x hx => by have := a2 x hx; omega) (fun x hx => by have := b2 x hx; omega) o1 o2)
  have hof : ofE a b = (ofD a b, 0) := ofE_ok ra rb
  obtain ⟨f1, f2, f3, _⟩ := of_facts hg hg2 o1 o2
  rw [hof] at HO f1 f2 f3
  dsimp only at HO f1 f2 f3
  have HP := Lib.hid (fun W (n : Below w.heap.size w W) u (k : CRow W u (ofD a b)) => O.apply v1 u a (ofD a b) W (hE.go n) (hF.go n) (h1.on n) k (by omega) (by omega) (fun x hx => by have := a2 x hx; omega) (fun x hx => by have := f2 x hx; omega) o1 f3)
  rw [applyE_back ra rb] at HP
  dsimp only at HP
  have S1 := Lib.hid (fun W (n : Below w.heap.size w W) u (k : RRow W u b) => refSame_any u v2 b b W k (h2.on n) (by omega))
  rw [(sameR_true _ _).2 rfl] at S1
  have S2 := Lib.hid (fun W (n : Below w.heap.size w W) => refSame_any v1 v2 a b W (h1.on n) (h2.on n) (by omega))
  have RL := Lib.hid (fun W u (k : CRow W u (ofD a b)) => refCright_any u (ofD a b) W k (by omega) (fun x hx => by have := f2 x hx; omega))
  rw [ofD_right ra rb] at RL
  have hp : (((ofD a b).length : Int) == 0) = sameR a b := by
    have h0 := ofD_none (rright_up ra) (rright_up rb)
    rw [Bool.eq_iff_iff, sameR_true, ← h0]
    simp
  generalize sameR a b = p at *
  generalize ofD a b = L at *
  have q1 : (p == p) = true := by simp
  clear f1 f2 f3 hof
  clear a2 b2 e2 hg hg2 hg3 z1 z2 z3 hr
  obtain ⟨p1, c1, rfl, -, -⟩ := h1
  obtain ⟨p2, c2, rfl, -, -⟩ := h2
  obtain ⟨p3, c3, rfl, -, -⟩ := h3
  go_enter Tryz.func6, Tryz.ntmps6
  go_wp2_with fail
  refine (HA.out).mono ?_
  rintro e w1 ⟨rfl, d1⟩
  go_wp2_with fail
  refine (G1.out _ d1).mono ?_
  rintro e w2 ⟨rfl, rfl⟩
  go_wp2_with fail
  refine (G2.out _ d1).mono ?_
  rintro e w3 ⟨rfl, rfl⟩
  go_wp2_with fail
  refine (G3.out _ d1).mono ?_
  rintro e w4 ⟨rfl, rfl⟩
  go_wp2_with fail
  refine (RC.out _ d1).mono ?_
  rintro e w5 ⟨rfl, n5⟩
  have d5 := d1.trans (n5.mono d1.size)
  clear RC n5 d1 G1 G2 G3 HA
  go_wp2_with fail
  refine (HO.out _ d5).mono ?_
  rintro e w9 ⟨⟨_, rfl, r9⟩, n9⟩
  have R9 := Lib.hid r9
  have d9 := d5.trans (n9.mono d5.size)
  obtain ⟨p9, c9, rfl, -, -⟩ := r9
  clear HO n9 d5
  go_wp2_with fail
  refine (HP.out _ d9 _ R9.out).mono ?_
  rintro e wa ⟨⟨_, rfl, ra'⟩, na⟩
  have R9 := Lib.hid (R9.out.on na)
  have RA := Lib.hid ra'
  have da := d9.trans (na.mono d9.size)
  obtain ⟨pa, ca, rfl, -, -⟩ := ra'
  clear HP na d9
  go_wp2_with fail
  refine (S1.out _ da _ RA.out).mono ?_
  rintro e wb ⟨rfl, nb⟩
  have R9 := Lib.hid (R9.out.on nb)
  have db := da.trans (nb.mono da.size)
  clear S1 nb da RA
  go_wp2_with fail
  refine (S2.out _ db).mono ?_
  rintro e wc ⟨rfl, nc⟩
  have R9 := Lib.hid (R9.out.on nc)
  have dc := db.trans (nc.mono db.size)
  clear S2 nc db
  go_wp2_with fail
  refine (RL.out _ _ R9.out).mono ?_
  rintro e wd ⟨rfl, nd⟩
  have dd := dc.trans (nd.mono dc.size)
  go_wp2_with fail
  go_ret
  exact ⟨rfl, dd⟩

set_option maxRecDepth 100000 in
set_option maxHeartbeats 4000000 in
theorem bk_10 (B : Nat) (O : Own9 B) (v1 v2 v3 : Value) (a b : List Row) (c : List Chg) (w : World) (hE : Env w) (hF : St.Env B w) (h1 : RRow w v1 a) (h2 : RRow w v2 b) (h3 : CRow w v3 c) (o1 : ∀ r ∈ a, okR r) (o2 : ∀ r ∈ b, okR r) (o3 : ∀ x ∈ c, okR x.r) (z1 : ∀ r ∈ a, r.grp.size ≤ 281474976710656) (z2 : ∀ r ∈ b, r.grp.size ≤ 281474976710656) (z3 : ∀ x ∈ c, x.r.grp.size ≤ 281474976710656) (hg : greatR a = false) (hg2 : greatR b = false) (hg3 : greatC c = false) (hr : cright c = true) (ra : rright a = true) (rb : rright b = true) :
    Calls Tryz.prog 6 #[v1, v2, v3] w fun e w' => e = .returned (.bool true) ∧ Below w.heap.size w w' := by
  have HA := Lib.hid (alive_any B O w hE hF)
  have G1 := Lib.hid (fun W (d : Below w.heap.size w W) => greatR_any v1 a W (h1.on d) z1)
  have G2 := Lib.hid (fun W (d : Below w.heap.size w W) => greatR_any v2 b W (h2.on d) z2)
  have G3 := Lib.hid (fun W (n : Below w.heap.size w W) => greatC_any v3 c W (h3.on n) z3)
  rw [hg] at G1
  rw [hg2] at G2
  rw [hg3] at G3
  obtain ⟨a1, a2⟩ := greatR_no hg
  obtain ⟨b1, b2⟩ := greatR_no hg2
  obtain ⟨e1, e2⟩ := greatC_not hg3
  have RC := Lib.hid (fun W (n : Below w.heap.size w W) => refCright_any v3 c W (h3.on n) (by omega) (fun x hx => by have := e2 x hx; omega))
  rw [hr] at RC
  have HO := Lib.hid (fun W (n : Below w.heap.size w W) => O.of v1 v2 a b W (hE.go n) (hF.go n) (h1.on n) (h2.on n) (by omega) (by omega) (fun x hx => by have := a2 x hx; omega) (fun x hx => by have := b2 x hx; omega) o1 o2)
  have f4 : (ctextB c).size ≤ 36000 := by
    have h4 := ctextB_size 300 o3 e2
    have h5 : c.length * (300 + 51) ≤ 100 * (300 + 51) := Nat.mul_le_mul_right _ e1
    omega
  have T1 := Lib.hid (fun W (n : Below w.heap.size w W) => O.text v3 c W (hF.go n) (h3.on n) o3 (by omega) (fun x hx => by have := e2 x hx; omega) (by omega))
  have P1 := Lib.hid (fun W (n : Below w.heap.size w W) => O.parse (ctextB c) W (hE.go n) (hF.go n) (by omega) (ctext_part_small hr o3))
  have hcp : cparse (ctextB c).data.toList = (c, 0) := by rw [ctextB_list]; exact cparse_text hr o3
  rw [hcp] at P1
  have S0 := Lib.hid (fun W (n : Below w.heap.size w W) u (k : CRow W u c) => refSameC_any u v3 c c W k (h3.on n) (by omega))
  rw [(sameC_true _ _).2 rfl] at S0
  generalize ctextB c = T at *
  clear f4 hcp
  have hof : ofE a b = (ofD a b, 0) := ofE_ok ra rb
  obtain ⟨f1, f2, f3, _⟩ := of_facts hg hg2 o1 o2
  rw [hof] at HO f1 f2 f3
  dsimp only at HO f1 f2 f3
  have HP := Lib.hid (fun W (n : Below w.heap.size w W) u (k : CRow W u (ofD a b)) => O.apply v1 u a (ofD a b) W (hE.go n) (hF.go n) (h1.on n) k (by omega) (by omega) (fun x hx => by have := a2 x hx; omega) (fun x hx => by have := f2 x hx; omega) o1 f3)
  rw [applyE_back ra rb] at HP
  dsimp only at HP
  have S1 := Lib.hid (fun W (n : Below w.heap.size w W) u (k : RRow W u b) => refSame_any u v2 b b W k (h2.on n) (by omega))
  rw [(sameR_true _ _).2 rfl] at S1
  have S2 := Lib.hid (fun W (n : Below w.heap.size w W) => refSame_any v1 v2 a b W (h1.on n) (h2.on n) (by omega))
  have RL := Lib.hid (fun W u (k : CRow W u (ofD a b)) => refCright_any u (ofD a b) W k (by omega) (fun x hx => by have := f2 x hx; omega))
  rw [ofD_right ra rb] at RL
  have hp : (((ofD a b).length : Int) == 0) = sameR a b := by
    have h0 := ofD_none (rright_up ra) (rright_up rb)
    rw [Bool.eq_iff_iff, sameR_true, ← h0]
    simp
  generalize sameR a b = p at *
  generalize ofD a b = L at *
  have q1 : (p == p) = true := by simp
  clear f1 f2 f3 hof
  clear a2 b2 e2 hg hg2 hg3 z1 z2 z3 hr
  obtain ⟨p1, c1, rfl, -, -⟩ := h1
  obtain ⟨p2, c2, rfl, -, -⟩ := h2
  obtain ⟨p3, c3, rfl, -, -⟩ := h3
  go_enter Tryz.func6, Tryz.ntmps6
  go_wp2_with fail
  refine (HA.out).mono ?_
  rintro e w1 ⟨rfl, d1⟩
  go_wp2_with fail
  refine (G1.out _ d1).mono ?_
  rintro e w2 ⟨rfl, rfl⟩
  go_wp2_with fail
  refine (G2.out _ d1).mono ?_
  rintro e w3 ⟨rfl, rfl⟩
  go_wp2_with fail
  refine (G3.out _ d1).mono ?_
  rintro e w4 ⟨rfl, rfl⟩
  go_wp2_with fail
  refine (RC.out _ d1).mono ?_
  rintro e w5 ⟨rfl, n5⟩
  have d5 := d1.trans (n5.mono d1.size)
  clear RC n5 d1 G1 G2 G3 HA
  go_wp2_with fail
  refine (T1.out _ d5).mono ?_
  rintro e w6 ⟨rfl, n6⟩
  have d6 := d5.trans (n6.mono d5.size)
  clear T1 n6 d5
  go_wp2_with fail
  refine (P1.out _ d6).mono ?_
  rintro e w7 ⟨⟨_, rfl, r7⟩, n7⟩
  have R7 := Lib.hid r7
  have d7 := d6.trans (n7.mono d6.size)
  obtain ⟨p7, c7, rfl, -, -⟩ := r7
  clear P1 n7 d6
  go_wp2_with fail
  refine (S0.out _ d7 _ R7.out).mono ?_
  rintro e w8 ⟨rfl, n8⟩
  have d5 := d7.trans (n8.mono d7.size)
  clear S0 n8 d7 R7
  go_wp2_with fail
  refine (HO.out _ d5).mono ?_
  rintro e w9 ⟨⟨_, rfl, r9⟩, n9⟩
  have R9 := Lib.hid r9
  have d9 := d5.trans (n9.mono d5.size)
  obtain ⟨p9, c9, rfl, -, -⟩ := r9
  clear HO n9 d5
  go_wp2_with fail
  refine (HP.out _ d9 _ R9.out).mono ?_
  rintro e wa ⟨⟨_, rfl, ra'⟩, na⟩
  have R9 := Lib.hid (R9.out.on na)
  have RA := Lib.hid ra'
  have da := d9.trans (na.mono d9.size)
  obtain ⟨pa, ca, rfl, -, -⟩ := ra'
  clear HP na d9
  go_wp2_with fail
  refine (S1.out _ da _ RA.out).mono ?_
  rintro e wb ⟨rfl, nb⟩
  have R9 := Lib.hid (R9.out.on nb)
  have db := da.trans (nb.mono da.size)
  clear S1 nb da RA
  go_wp2_with fail
  refine (S2.out _ db).mono ?_
  rintro e wc ⟨rfl, nc⟩
  have R9 := Lib.hid (R9.out.on nc)
  have dc := db.trans (nc.mono db.size)
  clear S2 nc db
  go_wp2_with fail
  refine (RL.out _ _ R9.out).mono ?_
  rintro e wd ⟨rfl, nd⟩
  have dd := dc.trans (nd.mono dc.size)
  go_wp2_with fail
  go_ret
  exact ⟨rfl, dd⟩

set_option maxRecDepth 100000 in
set_option maxHeartbeats 4000000 in
theorem bk_01 (B : Nat) (O : Own9 B) (v1 v2 v3 : Value) (a b : List Row) (c : List Chg) (w : World) (hE : Env w) (hF : St.Env B w) (h1 : RRow w v1 a) (h2 : RRow w v2 b) (h3 : CRow w v3 c) (o1 : ∀ r ∈ a, okR r) (o2 : ∀ r ∈ b, okR r) (z1 : ∀ r ∈ a, r.grp.size ≤ 281474976710656) (z2 : ∀ r ∈ b, r.grp.size ≤ 281474976710656) (z3 : ∀ x ∈ c, x.r.grp.size ≤ 281474976710656) (hg : greatR a = false) (hg2 : greatR b = false) (hg3 : greatC c = false) (hr : cright c = false) (hof : ofE a b = ([], 9)) :
    Calls Tryz.prog 6 #[v1, v2, v3] w fun e w' => e = .returned (.bool true) ∧ Below w.heap.size w w' := by
  have HA := Lib.hid (alive_any B O w hE hF)
  have G1 := Lib.hid (fun W (d : Below w.heap.size w W) => greatR_any v1 a W (h1.on d) z1)
  have G2 := Lib.hid (fun W (d : Below w.heap.size w W) => greatR_any v2 b W (h2.on d) z2)
  have G3 := Lib.hid (fun W (n : Below w.heap.size w W) => greatC_any v3 c W (h3.on n) z3)
  rw [hg] at G1
  rw [hg2] at G2
  rw [hg3] at G3
  obtain ⟨a1, a2⟩ := greatR_no hg
  obtain ⟨b1, b2⟩ := greatR_no hg2
  obtain ⟨e1, e2⟩ := greatC_not hg3
  have RC := Lib.hid (fun W (n : Below w.heap.size w W) => refCright_any v3 c W (h3.on n) (by omega) (fun x hx => by have := e2 x hx; omega))
  rw [hr] at RC
  have HO := Lib.hid (fun W (n : Below w.heap.size w W) => O.of v1 v2 a b W (hE.go n) (hF.go n) (h1.on n) (h2.on n) (by omega) (by omega) (fun x hx => by have := a2 x hx; omega) (fun x hx => by have := b2 x hx; omega) o1 o2)
  rw [hof] at HO
  dsimp only at HO
  clear a2 b2 e2 hg hg2 hg3 z1 z2 z3 hr
  obtain ⟨p1, c1, rfl, -, -⟩ := h1
  obtain ⟨p2, c2, rfl, -, -⟩ := h2
  obtain ⟨p3, c3, rfl, -, -⟩ := h3
  go_enter Tryz.func6, Tryz.ntmps6
  go_wp2_with fail
  refine (HA.out).mono ?_
  rintro e w1 ⟨rfl, d1⟩
  go_wp2_with fail
  refine (G1.out _ d1).mono ?_
  rintro e w2 ⟨rfl, rfl⟩
  go_wp2_with fail
  refine (G2.out _ d1).mono ?_
  rintro e w3 ⟨rfl, rfl⟩
  go_wp2_with fail
  refine (G3.out _ d1).mono ?_
  rintro e w4 ⟨rfl, rfl⟩
  go_wp2_with fail
  refine (RC.out _ d1).mono ?_
  rintro e w5 ⟨rfl, n5⟩
  have d5 := d1.trans (n5.mono d1.size)
  clear RC n5 d1 G1 G2 G3 HA
  go_wp2_with fail
  refine (HO.out _ d5).mono ?_
  rintro e w9 ⟨⟨_, rfl, r9⟩, n9⟩
  have R9 := Lib.hid r9
  have d9 := d5.trans (n9.mono d5.size)
  obtain ⟨p9, c9, rfl, -, -⟩ := r9
  clear HO n9 d5
  go_wp2_with fail
  go_ret
  exact ⟨rfl, d9⟩

set_option maxRecDepth 100000 in
set_option maxHeartbeats 4000000 in
theorem bk_11 (B : Nat) (O : Own9 B) (v1 v2 v3 : Value) (a b : List Row) (c : List Chg) (w : World) (hE : Env w) (hF : St.Env B w) (h1 : RRow w v1 a) (h2 : RRow w v2 b) (h3 : CRow w v3 c) (o1 : ∀ r ∈ a, okR r) (o2 : ∀ r ∈ b, okR r) (o3 : ∀ x ∈ c, okR x.r) (z1 : ∀ r ∈ a, r.grp.size ≤ 281474976710656) (z2 : ∀ r ∈ b, r.grp.size ≤ 281474976710656) (z3 : ∀ x ∈ c, x.r.grp.size ≤ 281474976710656) (hg : greatR a = false) (hg2 : greatR b = false) (hg3 : greatC c = false) (hr : cright c = true) (hof : ofE a b = ([], 9)) :
    Calls Tryz.prog 6 #[v1, v2, v3] w fun e w' => e = .returned (.bool true) ∧ Below w.heap.size w w' := by
  have HA := Lib.hid (alive_any B O w hE hF)
  have G1 := Lib.hid (fun W (d : Below w.heap.size w W) => greatR_any v1 a W (h1.on d) z1)
  have G2 := Lib.hid (fun W (d : Below w.heap.size w W) => greatR_any v2 b W (h2.on d) z2)
  have G3 := Lib.hid (fun W (n : Below w.heap.size w W) => greatC_any v3 c W (h3.on n) z3)
  rw [hg] at G1
  rw [hg2] at G2
  rw [hg3] at G3
  obtain ⟨a1, a2⟩ := greatR_no hg
  obtain ⟨b1, b2⟩ := greatR_no hg2
  obtain ⟨e1, e2⟩ := greatC_not hg3
  have RC := Lib.hid (fun W (n : Below w.heap.size w W) => refCright_any v3 c W (h3.on n) (by omega) (fun x hx => by have := e2 x hx; omega))
  rw [hr] at RC
  have HO := Lib.hid (fun W (n : Below w.heap.size w W) => O.of v1 v2 a b W (hE.go n) (hF.go n) (h1.on n) (h2.on n) (by omega) (by omega) (fun x hx => by have := a2 x hx; omega) (fun x hx => by have := b2 x hx; omega) o1 o2)
  have f4 : (ctextB c).size ≤ 36000 := by
    have h4 := ctextB_size 300 o3 e2
    have h5 : c.length * (300 + 51) ≤ 100 * (300 + 51) := Nat.mul_le_mul_right _ e1
    omega
  have T1 := Lib.hid (fun W (n : Below w.heap.size w W) => O.text v3 c W (hF.go n) (h3.on n) o3 (by omega) (fun x hx => by have := e2 x hx; omega) (by omega))
  have P1 := Lib.hid (fun W (n : Below w.heap.size w W) => O.parse (ctextB c) W (hE.go n) (hF.go n) (by omega) (ctext_part_small hr o3))
  have hcp : cparse (ctextB c).data.toList = (c, 0) := by rw [ctextB_list]; exact cparse_text hr o3
  rw [hcp] at P1
  have S0 := Lib.hid (fun W (n : Below w.heap.size w W) u (k : CRow W u c) => refSameC_any u v3 c c W k (h3.on n) (by omega))
  rw [(sameC_true _ _).2 rfl] at S0
  generalize ctextB c = T at *
  clear f4 hcp
  rw [hof] at HO
  dsimp only at HO
  clear a2 b2 e2 hg hg2 hg3 z1 z2 z3 hr
  obtain ⟨p1, c1, rfl, -, -⟩ := h1
  obtain ⟨p2, c2, rfl, -, -⟩ := h2
  obtain ⟨p3, c3, rfl, -, -⟩ := h3
  go_enter Tryz.func6, Tryz.ntmps6
  go_wp2_with fail
  refine (HA.out).mono ?_
  rintro e w1 ⟨rfl, d1⟩
  go_wp2_with fail
  refine (G1.out _ d1).mono ?_
  rintro e w2 ⟨rfl, rfl⟩
  go_wp2_with fail
  refine (G2.out _ d1).mono ?_
  rintro e w3 ⟨rfl, rfl⟩
  go_wp2_with fail
  refine (G3.out _ d1).mono ?_
  rintro e w4 ⟨rfl, rfl⟩
  go_wp2_with fail
  refine (RC.out _ d1).mono ?_
  rintro e w5 ⟨rfl, n5⟩
  have d5 := d1.trans (n5.mono d1.size)
  clear RC n5 d1 G1 G2 G3 HA
  go_wp2_with fail
  refine (T1.out _ d5).mono ?_
  rintro e w6 ⟨rfl, n6⟩
  have d6 := d5.trans (n6.mono d5.size)
  clear T1 n6 d5
  go_wp2_with fail
  refine (P1.out _ d6).mono ?_
  rintro e w7 ⟨⟨_, rfl, r7⟩, n7⟩
  have R7 := Lib.hid r7
  have d7 := d6.trans (n7.mono d6.size)
  obtain ⟨p7, c7, rfl, -, -⟩ := r7
  clear P1 n7 d6
  go_wp2_with fail
  refine (S0.out _ d7 _ R7.out).mono ?_
  rintro e w8 ⟨rfl, n8⟩
  have d5 := d7.trans (n8.mono d7.size)
  clear S0 n8 d7 R7
  go_wp2_with fail
  refine (HO.out _ d5).mono ?_
  rintro e w9 ⟨⟨_, rfl, r9⟩, n9⟩
  have R9 := Lib.hid r9
  have d9 := d5.trans (n9.mono d5.size)
  obtain ⟨p9, c9, rfl, -, -⟩ := r9
  clear HO n9 d5
  go_wp2_with fail
  go_ret
  exact ⟨rfl, d9⟩

theorem back_walk (B : Nat) (O : Own9 B) (v1 v2 v3 : Value) (a b : List Row) (c : List Chg) (w : World) (hE : Env w) (hF : St.Env B w) (h1 : RRow w v1 a) (h2 : RRow w v2 b) (h3 : CRow w v3 c) (o1 : ∀ r ∈ a, okR r) (o2 : ∀ r ∈ b, okR r) (o3 : ∀ x ∈ c, okR x.r) (z1 : ∀ r ∈ a, r.grp.size ≤ 281474976710656) (z2 : ∀ r ∈ b, r.grp.size ≤ 281474976710656) (z3 : ∀ x ∈ c, x.r.grp.size ≤ 281474976710656) :
    Calls Tryz.prog 6 #[v1, v2, v3] w fun e w' => e = .returned (.bool true) ∧ Below w.heap.size w w' := by
  cases hg : greatR a
  · cases hg2 : greatR b
    · cases hg3 : greatC c
      · rcases ofE_cases a b with ⟨ra, rb, _⟩ | ⟨_, hof⟩
        · cases hr : cright c
          · exact bk_00 B O v1 v2 v3 a b c w hE hF h1 h2 h3 o1 o2 z1 z2 z3 hg hg2 hg3 hr ra rb
          · exact bk_10 B O v1 v2 v3 a b c w hE hF h1 h2 h3 o1 o2 o3 z1 z2 z3 hg hg2 hg3 hr ra rb
        · cases hr : cright c
          · exact bk_01 B O v1 v2 v3 a b c w hE hF h1 h2 h3 o1 o2 z1 z2 z3 hg hg2 hg3 hr hof
          · exact bk_11 B O v1 v2 v3 a b c w hE hF h1 h2 h3 o1 o2 o3 z1 z2 z3 hg hg2 hg3 hr hof
      · exact bk_great3 B O v1 v2 v3 a b c w hE hF h1 h2 h3 z1 z2 z3 hg hg2 hg3
    · exact bk_great2 B O v1 v2 v3 a b c w hE hF h1 h2 h3 z1 z2 z3 hg hg2
  · exact bk_great1 B O v1 v2 v3 a b c w hE hF h1 h2 h3 z1 z2 z3 hg

end Go.Proofs.YtehgpibngalhfaaGreatDoor.Rw
