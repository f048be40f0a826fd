/- Walks: the law DiffApplies. -/
import Derived.Test.YtehgpibngalhfaaGreatDoorNA
namespace Go.Proofs.YtehgpibngalhfaaGreatDoor.Rw
open Go Go.RowKit Go.Sort Go.Lib Tg Pk Ky Qy Df

set_option maxRecDepth 100000 in
set_option maxHeartbeats 4000000 in
theorem ap_great1 (B : Nat) (O : Own9 B) (v1 v2 v3 : Value) (l : List Row) (c d : List Chg) (w : World) (hE : Env w) (hF : St.Env B w) (h1 : RRow w v1 l) (h2 : CRow w v2 c) (h3 : CRow w v3 d) (z1 : ∀ r ∈ l, r.grp.size ≤ 281474976710656) (z2 : ∀ x ∈ c, x.r.grp.size ≤ 281474976710656) (z3 : ∀ x ∈ d, x.r.grp.size ≤ 281474976710656) (hg : greatR l = true) :
    Calls Tryz.prog 4 #[v1, v2, v3] w fun e w' => e = .returned (.bool true) ∧ Below w.heap.size w w' := by
  have HA := Lib.hid (alive_any B O w hE hF)
  have G1 := Lib.hid (fun W (d : Below w.heap.size w W) => greatR_any v1 l W (h1.on d) z1)
  have G2 := Lib.hid (fun W (d : Below w.heap.size w W) => greatC_any v2 c W (h2.on d) z2)
  have G3 := Lib.hid (fun W (n : Below w.heap.size w W) => greatC_any v3 d W (h3.on n) z3)
  rw [hg] at G1
  clear h1 h2 h3
  go_enter Tryz.func4, Tryz.ntmps4
  go_wp2_with fail
  refine (HA.out).mono ?_
  rintro e w1 ⟨rfl, d1⟩
  go_wp2_with fail
  refine (G1.out _ d1).mono ?_
  rintro e w2 ⟨rfl, rfl⟩
  go_wp2_with fail
  go_ret
  exact ⟨rfl, d1⟩

set_option maxRecDepth 100000 in
set_option maxHeartbeats 4000000 in
theorem ap_great2 (B : Nat) (O : Own9 B) (v1 v2 v3 : Value) (l : List Row) (c d : List Chg) (w : World) (hE : Env w) (hF : St.Env B w) (h1 : RRow w v1 l) (h2 : CRow w v2 c) (h3 : CRow w v3 d) (z1 : ∀ r ∈ l, r.grp.size ≤ 281474976710656) (z2 : ∀ x ∈ c, x.r.grp.size ≤ 281474976710656) (z3 : ∀ x ∈ d, x.r.grp.size ≤ 281474976710656) (hg : greatR l = false) (hg2 : greatC c = true) :
    Calls Tryz.prog 4 #[v1, v2, v3] w fun e w' => e = .returned (.bool true) ∧ Below w.heap.size w w' := by
  have HA := Lib.hid (alive_any B O w hE hF)
  have G1 := Lib.hid (fun W (d : Below w.heap.size w W) => greatR_any v1 l W (h1.on d) z1)
  have G2 := Lib.hid (fun W (d : Below w.heap.size w W) => greatC_any v2 c W (h2.on d) z2)
  have G3 := Lib.hid (fun W (n : Below w.heap.size w W) => greatC_any v3 d W (h3.on n) z3)
  rw [hg] at G1
  rw [hg2] at G2
  clear h1 h2 h3
  go_enter Tryz.func4, Tryz.ntmps4
  go_wp2_with fail
  refine (HA.out).mono ?_
  rintro e w1 ⟨rfl, d1⟩
  go_wp2_with fail
  refine (G1.out _ d1).mono ?_
  rintro e w2 ⟨rfl, rfl⟩
  go_wp2_with fail
  refine (G2.out _ d1).mono ?_
  rintro e w3 ⟨rfl, rfl⟩
  go_wp2_with fail
  go_ret
  exact ⟨rfl, d1⟩

set_option maxRecDepth 100000 in
set_option maxHeartbeats 4000000 in
theorem ap_great3 (B : Nat) (O : Own9 B) (v1 v2 v3 : Value) (l : List Row) (c d : List Chg) (w : World) (hE : Env w) (hF : St.Env B w) (h1 : RRow w v1 l) (h2 : CRow w v2 c) (h3 : CRow w v3 d) (z1 : ∀ r ∈ l, r.grp.size ≤ 281474976710656) (z2 : ∀ x ∈ c, x.r.grp.size ≤ 281474976710656) (z3 : ∀ x ∈ d, x.r.grp.size ≤ 281474976710656) (hg : greatR l = false) (hg2 : greatC c = false) (hg3 : greatC d = true) :
    Calls Tryz.prog 4 #[v1, v2, v3] w fun e w' => e = .returned (.bool true) ∧ Below w.heap.size w w' := by
  have HA := Lib.hid (alive_any B O w hE hF)
  have G1 := Lib.hid (fun W (d : Below w.heap.size w W) => greatR_any v1 l W (h1.on d) z1)
  have G2 := Lib.hid (fun W (d : Below w.heap.size w W) => greatC_any v2 c W (h2.on d) z2)
  have G3 := Lib.hid (fun W (n : Below w.heap.size w W) => greatC_any v3 d W (h3.on n) z3)
  rw [hg] at G1
  rw [hg2] at G2
  rw [hg3] at G3
  clear h1 h2 h3
  go_enter Tryz.func4, Tryz.ntmps4
  go_wp2_with fail
  refine (HA.out).mono ?_
  rintro e w1 ⟨rfl, d1⟩
  go_wp2_with fail
  refine (G1.out _ d1).mono ?_
  rintro e w2 ⟨rfl, rfl⟩
  go_wp2_with fail
  refine (G2.out _ d1).mono ?_
  rintro e w3 ⟨rfl, rfl⟩
  go_wp2_with fail
  refine (G3.out _ d1).mono ?_
  rintro e w4 ⟨rfl, rfl⟩
  go_wp2_with fail
  go_ret
  exact ⟨rfl, d1⟩

set_option maxRecDepth 100000 in
set_option maxHeartbeats 4000000 in
theorem ap_some (B : Nat) (O : Own9 B) (v1 v2 v3 : Value) (l : List Row) (c d : List Chg) (w : World) (hE : Env w) (hF : St.Env B w) (h1 : RRow w v1 l) (h2 : CRow w v2 c) (h3 : CRow w v3 d) (o1 : ∀ r ∈ l, okR r) (o2 : ∀ x ∈ c, okR x.r) (z1 : ∀ r ∈ l, r.grp.size ≤ 281474976710656) (z2 : ∀ x ∈ c, x.r.grp.size ≤ 281474976710656) (z3 : ∀ x ∈ d, x.r.grp.size ≤ 281474976710656) (hg : greatR l = false) (hg2 : greatC c = false) (hg3 : greatC d = false) (ad : Addr) (ic : Nat) (hv : v1 = .slice (some ad) l.length ic) :
    Calls Tryz.prog 4 #[v1, v2, v3] w fun e w' => e = .returned (.bool true) ∧ Below w.heap.size w w' := by
  have HA := Lib.hid (alive_any B O w hE hF)
  have G1 := Lib.hid (fun W (d : Below w.heap.size w W) => greatR_any v1 l W (h1.on d) z1)
  have G2 := Lib.hid (fun W (d : Below w.heap.size w W) => greatC_any v2 c W (h2.on d) z2)
  have G3 := Lib.hid (fun W (n : Below w.heap.size w W) => greatC_any v3 d W (h3.on n) z3)
  rw [hg] at G1
  rw [hg2] at G2
  rw [hg3] at G3
  obtain ⟨a1, a2⟩ := greatR_no hg
  obtain ⟨b1, b2⟩ := greatC_not hg2
  obtain ⟨e1, e2⟩ := greatC_not hg3
  have f1 := applyE_len l c
  have f4 : (ctextB c).size ≤ 140737488355328 := by
    have h4 := ctextB_size 300 o2 b2
    have h5 : c.length * (300 + 51) ≤ 100 * (300 + 51) := Nat.mul_le_mul_right _ b1
    omega
  have HO := Lib.hid (fun W (n : Below w.heap.size w W) v (h : RRow W v l) => O.apply v v2 l c W (hE.go n) (hF.go n) h (h2.on n) (by omega) (by omega) (fun x hx => by have := a2 x hx; omega) (fun x hx => by have := b2 x hx; omega) o1 o2)
  have HR := Lib.hid (fun W (n : Below w.heap.size w W) => refApply_any v1 v2 l c W (h1.on n) (h2.on n) (by omega) (by omega) (fun x hx => by have := a2 x hx; omega) (fun x hx => by have := b2 x hx; omega))
  have S1 := Lib.hid (fun W u1 u2 (k1 : RRow W u1 (applyE l c).1) (k2 : RRow W u2 (applyE l c).1) => refSame_any u1 u2 _ _ W k1 k2 (by omega))
  rw [(sameR_true _ _).2 rfl] at S1
  have S2 := Lib.hid (fun W (n : Below w.heap.size w W) u (k : RRow W u l) => refSame_any u v1 l l W k (h1.on n) (by omega))
  rw [(sameR_true _ _).2 rfl] at S2
  have S3 := Lib.hid (fun W (n : Below w.heap.size w W) => O.same v2 v3 c d W (h2.on n) (h3.on n) (by omega))
  have S4 := Lib.hid (fun W (n : Below w.heap.size w W) => refSameC_any v2 v3 c d W (h2.on n) (h3.on n) (by omega))
  have T1 := Lib.hid (fun W (n : Below w.heap.size w W) => O.text v2 c W (hF.go n) (h2.on n) o2 (by omega) (fun x hx => by have := b2 x hx; omega) f4)
  have T2 := Lib.hid (fun W (n : Below w.heap.size w W) => refCtext_any v2 c W (h2.on n) o2 (by omega) (fun x hx => by have := b2 x hx; omega) f4)
  generalize ctextB c = T at *
  generalize (applyE l c).1 = L at *
  generalize (applyE l c).2 = E at *
  generalize sameC c d = p at *
  have q1 : (E == E) = true := by simp
  have q2 : (T.toList == T.toList) = true := by simp
  have q3 : (p == p) = true := by simp
  clear f1 f4 a2 b2 e1 e2 o1 o2 hg hg2 hg3 z1 z2 z3
  obtain ⟨j0, hi, hz0, hz1, hz2⟩ := info29
  have HI := Lib.hid (And.intro hi (And.intro hz0 (And.intro hz1 hz2)))
  clear hi hz0 hz1 hz2
  have hnews : ∀ W : World, Below w.heap.size w W → ∀ j u, (flatG rowC l)[j]? = some u → (W.alloc (Obj.cells #[] 45)).cell? (ad.add j) = some u := by
    intro W d j u hu
    have hne : l ≠ [] := fun e => by subst e; simp [flatG] at hu
    obtain ⟨b, o, c, hv', _, hb, hL⟩ := (h1.on d).open hne
    rw [hv] at hv'
    cases hv'
    rw [addr_add, World.cell?_alloc_lt _ _ _ hb]
    exact hL.flat rowC_len (by decide) j u hu
  have HNW := Lib.hid hnews
  clear h1 hnews
  subst hv
  obtain ⟨p2, c2, rfl, -, -⟩ := h2
  obtain ⟨p3, c3, rfl, -, -⟩ := h3
  go_enter Tryz.func4, Tryz.ntmps4
  go_wp2_with fail
  refine (HA.out).mono ?_
  rintro e w1 ⟨rfl, d1⟩
  go_wp2_with fail
  refine (G1.out _ d1).mono ?_
  rintro e w2 ⟨rfl, rfl⟩
  go_wp2_with fail
  refine (G2.out _ d1).mono ?_
  rintro e w3 ⟨rfl, rfl⟩
  go_wp2_with fail
  refine (G3.out _ d1).mono ?_
  rintro e w4 ⟨rfl, rfl⟩
  have HN := Lib.hid (HNW.out w4 d1)
  clear HNW G1 G2 G3 HA
  go_wp2_with (first | (at_builtin; refine wpList_append_own _ rfl _ _ 22 rfl w4.heap.size 45 j0 (.agg #[.int .i64 0, .string ⟨#[]⟩, .int .i64 0, .bool false]) 4 40 Tryz.underlying22 HI.out.1 HI.out.2.1 HI.out.2.2.1 HI.out.2.2.2 rfl (by decide) _ _ _ rfl (World.ownsRow_made w4 #[] 0 (Nat.le_refl _) (Nat.zero_le _) (by simp)) ad l.length ic (flatG rowC l) rfl (flatG_len rowC_len l) HN.out (flatG_cells1 rowC_one l) (by unfold maxLen; omega) (by omega) (by simp) ?_; intro vo wx hown4 hgrow4 hnil4; have hO4 : wx.ownsRow w4.heap.size 45 4 vo l.length (flatG rowC l) := (by simpa using hown4); have n4 : Below w4.heap.size w4 wx := ((Below.refl _ _).alloc (Nat.le_refl _) _).grown hgrow4 (by simp) (fun k hk => by cases hk; exact Nat.le_refl _); have R4 := ownG_row rowC_len hO4; have RO := Lib.hid R4; obtain ⟨oa, oc, rfl, -, -⟩ := R4; have d4 := d1.trans (n4.mono d1.size); clear hown4 hgrow4 hnil4 hO4 n4))
  clear HN HI d1
  refine (HO.out _ d4 _ RO.out).mono ?_
  rintro e w5 ⟨⟨_, rfl, r5⟩, n5⟩
  have RO := Lib.hid (RO.out.on n5)
  have R5 := Lib.hid r5
  have d5 := d4.trans (n5.mono d4.size)
  obtain ⟨p5, c5, rfl, -, -⟩ := r5
  clear HO n5 d4
  go_wp2_with fail
  refine (HR.out _ d5).mono ?_
  rintro e w6 ⟨⟨_, rfl, r6⟩, n6⟩
  have RO := Lib.hid (RO.out.on n6)
  have R5 := Lib.hid (R5.out.on n6)
  have R6 := Lib.hid r6
  have d6 := d5.trans (n6.mono d5.size)
  obtain ⟨p6, c6, rfl, -, -⟩ := r6
  clear HR n6 d5
  go_wp2_with fail
  refine (S1.out _ _ _ R5.out R6.out).mono ?_
  rintro e w7 ⟨rfl, n7⟩
  have RO := Lib.hid (RO.out.on n7)
  have d7 := d6.trans (n7.mono d6.size)
  clear S1 n7 d6 R5 R6
  go_wp2_with fail
  refine (S2.out _ d7 _ RO.out).mono ?_
  rintro e w8 ⟨rfl, n8⟩
  have d8 := d7.trans (n8.mono d7.size)
  clear S2 n8 d7 RO
  go_wp2_with fail
  refine (S3.out _ d8).mono ?_
  rintro e w9 ⟨rfl, n9⟩
  have d9 := d8.trans (n9.mono d8.size)
  clear S3 n9 d8
  go_wp2_with fail
  refine (S4.out _ d9).mono ?_
  rintro e wa ⟨rfl, na⟩
  have da := d9.trans (na.mono d9.size)
  clear S4 na d9
  go_wp2_with fail
  refine (T1.out _ da).mono ?_
  rintro e wb ⟨rfl, nb⟩
  have db := da.trans (nb.mono da.size)
  clear T1 nb da
  go_wp2_with fail
  refine (T2.out _ db).mono ?_
  rintro e wc ⟨rfl, nc⟩
  have dc := db.trans (nc.mono db.size)
  go_wp2_with fail
  go_ret
  exact ⟨rfl, dc⟩

set_option maxRecDepth 100000 in
set_option maxHeartbeats 4000000 in
theorem ap_nil (B : Nat) (O : Own9 B) (v1 v2 v3 : Value) (l : List Row) (c d : List Chg) (w : World) (hE : Env w) (hF : St.Env B w) (h1 : RRow w v1 l) (h2 : CRow w v2 c) (h3 : CRow w v3 d) (o1 : ∀ r ∈ l, okR r) (o2 : ∀ x ∈ c, okR x.r) (z1 : ∀ r ∈ l, r.grp.size ≤ 281474976710656) (z2 : ∀ x ∈ c, x.r.grp.size ≤ 281474976710656) (z3 : ∀ x ∈ d, x.r.grp.size ≤ 281474976710656) (hg : greatR l = false) (hg2 : greatC c = false) (hg3 : greatC d = false) (ic : Nat) (hl : l = []) (hv : v1 = .slice none 0 ic) :
    Calls Tryz.prog 4 #[v1, v2, v3] w fun e w' => e = .returned (.bool true) ∧ Below w.heap.size w w' := by
  have HA := Lib.hid (alive_any B O w hE hF)
  have G1 := Lib.hid (fun W (d : Below w.heap.size w W) => greatR_any v1 l W (h1.on d) z1)
  have G2 := Lib.hid (fun W (d : Below w.heap.size w W) => greatC_any v2 c W (h2.on d) z2)
  have G3 := Lib.hid (fun W (n : Below w.heap.size w W) => greatC_any v3 d W (h3.on n) z3)
  rw [hg] at G1
  rw [hg2] at G2
  rw [hg3] at G3
  obtain ⟨a1, a2⟩ := greatR_no hg
  obtain ⟨b1, b2⟩ := greatC_not hg2
  obtain ⟨e1, e2⟩ := greatC_not hg3
  have f1 := applyE_len l c
  have f4 : (ctextB c).size ≤ 140737488355328 := by
    have h4 := ctextB_size 300 o2 b2
    have h5 : c.length * (300 + 51) ≤ 100 * (300 + 51) := Nat.mul_le_mul_right _ b1
    omega
  have HO := Lib.hid (fun W (n : Below w.heap.size w W) v (h : RRow W v l) => O.apply v v2 l c W (hE.go n) (hF.go n) h (h2.on n) (by omega) (by omega) (fun x hx => by have := a2 x hx; omega) (fun x hx => by have := b2 x hx; omega) o1 o2)
  have HR := Lib.hid (fun W (n : Below w.heap.size w W) => refApply_any v1 v2 l c W (h1.on n) (h2.on n) (by omega) (by omega) (fun x hx => by have := a2 x hx; omega) (fun x hx => by have := b2 x hx; omega))
  have S1 := Lib.hid (fun W u1 u2 (k1 : RRow W u1 (applyE l c).1) (k2 : RRow W u2 (applyE l c).1) => refSame_any u1 u2 _ _ W k1 k2 (by omega))
  rw [(sameR_true _ _).2 rfl] at S1
  have S2 := Lib.hid (fun W (n : Below w.heap.size w W) u (k : RRow W u l) => refSame_any u v1 l l W k (h1.on n) (by omega))
  rw [(sameR_true _ _).2 rfl] at S2
  have S3 := Lib.hid (fun W (n : Below w.heap.size w W) => O.same v2 v3 c d W (h2.on n) (h3.on n) (by omega))
  have S4 := Lib.hid (fun W (n : Below w.heap.size w W) => refSameC_any v2 v3 c d W (h2.on n) (h3.on n) (by omega))
  have T1 := Lib.hid (fun W (n : Below w.heap.size w W) => O.text v2 c W (hF.go n) (h2.on n) o2 (by omega) (fun x hx => by have := b2 x hx; omega) f4)
  have T2 := Lib.hid (fun W (n : Below w.heap.size w W) => refCtext_any v2 c W (h2.on n) o2 (by omega) (fun x hx => by have := b2 x hx; omega) f4)
  generalize ctextB c = T at *
  generalize (applyE l c).1 = L at *
  generalize (applyE l c).2 = E at *
  generalize sameC c d = p at *
  have q1 : (E == E) = true := by simp
  have q2 : (T.toList == T.toList) = true := by simp
  have q3 : (p == p) = true := by simp
  clear f1 f4 a2 b2 e1 e2 o1 o2 hg hg2 hg3 z1 z2 z3
  subst hl
  clear h1
  subst hv
  obtain ⟨p2, c2, rfl, -, -⟩ := h2
  obtain ⟨p3, c3, rfl, -, -⟩ := h3
  go_enter Tryz.func4, Tryz.ntmps4
  go_wp2_with fail
  refine (HA.out).mono ?_
  rintro e w1 ⟨rfl, d1⟩
  go_wp2_with fail
  refine (G1.out _ d1).mono ?_
  rintro e w2 ⟨rfl, rfl⟩
  go_wp2_with fail
  refine (G2.out _ d1).mono ?_
  rintro e w3 ⟨rfl, rfl⟩
  go_wp2_with fail
  refine (G3.out _ d1).mono ?_
  rintro e w4 ⟨rfl, rfl⟩
  clear G1 G2 G3 HA
  go_wp2_with fail
  have RO : Hid (RRow (w4.alloc (Obj.cells #[] 45)) (.slice (some ⟨w4.heap.size, 0, none⟩) 0 0) []) := ⟨_, 0, rfl, Nat.le_refl _, fun h => absurd rfl h⟩
  have d4 := d1.alloc d1.size (Obj.cells #[] 45)
  clear d1
  refine (HO.out _ d4 _ RO.out).mono ?_
  rintro e w5 ⟨⟨_, rfl, r5⟩, n5⟩
  have RO := Lib.hid (RO.out.on n5)
  have R5 := Lib.hid r5
  have d5 := d4.trans (n5.mono d4.size)
  obtain ⟨p5, c5, rfl, -, -⟩ := r5
  clear HO n5 d4
  go_wp2_with fail
  refine (HR.out _ d5).mono ?_
  rintro e w6 ⟨⟨_, rfl, r6⟩, n6⟩
  have RO := Lib.hid (RO.out.on n6)
  have R5 := Lib.hid (R5.out.on n6)
  have R6 := Lib.hid r6
  have d6 := d5.trans (n6.mono d5.size)
  obtain ⟨p6, c6, rfl, -, -⟩ := r6
  clear HR n6 d5
  go_wp2_with fail
  refine (S1.out _ _ _ R5.out R6.out).mono ?_
  rintro e w7 ⟨rfl, n7⟩
  have RO := Lib.hid (RO.out.on n7)
  have d7 := d6.trans (n7.mono d6.size)
  clear S1 n7 d6 R5 R6
  go_wp2_with fail
  refine (S2.out _ d7 _ RO.out).mono ?_
  rintro e w8 ⟨rfl, n8⟩
  have d8 := d7.trans (n8.mono d7.size)
  clear S2 n8 d7 RO
  go_wp2_with fail
  refine (S3.out _ d8).mono ?_
  rintro e w9 ⟨rfl, n9⟩
  have d9 := d8.trans (n9.mono d8.size)
  clear S3 n9 d8
  go_wp2_with fail
  refine (S4.out _ d9).mono ?_
  rintro e wa ⟨rfl, na⟩
  have da := d9.trans (na.mono d9.size)
  clear S4 na d9
  go_wp2_with fail
  refine (T1.out _ da).mono ?_
  rintro e wb ⟨rfl, nb⟩
  have db := da.trans (nb.mono da.size)
  clear T1 nb da
  go_wp2_with fail
  refine (T2.out _ db).mono ?_
  rintro e wc ⟨rfl, nc⟩
  have dc := db.trans (nc.mono db.size)
  go_wp2_with fail
  go_ret
  exact ⟨rfl, dc⟩

theorem applies_walk (B : Nat) (O : Own9 B) (v1 v2 v3 : Value) (l : List Row) (c d : List Chg) (w : World) (hE : Env w) (hF : St.Env B w) (h1 : RRow w v1 l) (h2 : CRow w v2 c) (h3 : CRow w v3 d) (o1 : ∀ r ∈ l, okR r) (o2 : ∀ x ∈ c, okR x.r) (z1 : ∀ r ∈ l, r.grp.size ≤ 281474976710656) (z2 : ∀ x ∈ c, x.r.grp.size ≤ 281474976710656) (z3 : ∀ x ∈ d, x.r.grp.size ≤ 281474976710656) :
    Calls Tryz.prog 4 #[v1, v2, v3] w fun e w' => e = .returned (.bool true) ∧ Below w.heap.size w w' := by
  cases hg : greatR l
  · cases hg2 : greatC c
    · cases hg3 : greatC d
      · have h1' := h1
        obtain ⟨p, k, hv, hc, hl⟩ := h1
        cases p with
        | none =>
          have hl0 : l = [] := by
            rcases l with _ | ⟨x, t⟩
            · rfl
            · obtain ⟨b, o, e, _⟩ := hl (by simp); cases e
          have hv0 : v1 = .slice none 0 k := by rw [hv, hl0]; rfl
          exact ap_nil B O v1 v2 v3 l c d w hE hF h1' h2 h3 o1 o2 z1 z2 z3 hg hg2 hg3 k hl0 hv0
        | some ad => exact ap_some B O v1 v2 v3 l c d w hE hF h1' h2 h3 o1 o2 z1 z2 z3 hg hg2 hg3 ad k hv
      · exact ap_great3 B O v1 v2 v3 l c d w hE hF h1 h2 h3 z1 z2 z3 hg hg2 hg3
    · exact ap_great2 B O v1 v2 v3 l c d w hE hF h1 h2 h3 z1 z2 z3 hg hg2
  · exact ap_great1 B O v1 v2 v3 l c d w hE hF h1 h2 h3 z1 z2 z3 hg

end Go.Proofs.YtehgpibngalhfaaGreatDoor.Rw
