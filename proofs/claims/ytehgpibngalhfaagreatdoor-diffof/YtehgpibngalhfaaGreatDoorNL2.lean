/- Walks: the law DiffOf. -/
import Derived.Test.YtehgpibngalhfaaGreatDoorNA
namespace Go.Proofs.YtehgpibngalhfaaGreatDoor.Rw
open Go Go.RowKit Go.Sort Go.Lib Tg Pk Ky Qy Df

set_option maxRecDepth 100000 in
set_option maxHeartbeats 4000000 in
theorem of_great1 (B : Nat) (O : Own9 B) (v1 v2 : Value) (a b : List Row) (w : World) (hE : Env w) (hF : St.Env B w) (h1 : RRow w v1 a) (h2 : RRow w v2 b) (z1 : ∀ r ∈ a, r.grp.size ≤ 281474976710656) (z2 : ∀ r ∈ b, r.grp.size ≤ 281474976710656) (hg : greatR a = true) :
    Calls Tryz.prog 3 #[v1, v2] w fun e w' => e = .returned (.bool true) ∧ Below w.heap.size w w' := by
  have HA := Lib.hid (alive_any B O w hE hF)
  have G1 := Lib.hid (fun W (d : Below w.heap.size w W) => greatR_any v1 a W (h1.on d) z1)
  have G2 := Lib.hid (fun W (d : Below w.heap.size w W) => greatR_any v2 b W (h2.on d) z2)
  rw [hg] at G1
  clear h1 h2
  go_enter Tryz.func3, Tryz.ntmps3
  go_wp2_with fail
  refine (HA.out).mono ?_
  rintro e w1 ⟨rfl, d1⟩
  go_wp2_with fail
  refine (G1.out _ d1).mono ?_
  rintro e w2 ⟨rfl, rfl⟩
  go_wp2_with fail
  go_ret
  exact ⟨rfl, d1⟩

set_option maxRecDepth 100000 in
set_option maxHeartbeats 4000000 in
theorem of_great2 (B : Nat) (O : Own9 B) (v1 v2 : Value) (a b : List Row) (w : World) (hE : Env w) (hF : St.Env B w) (h1 : RRow w v1 a) (h2 : RRow w v2 b) (z1 : ∀ r ∈ a, r.grp.size ≤ 281474976710656) (z2 : ∀ r ∈ b, r.grp.size ≤ 281474976710656) (hg : greatR a = false) (hg2 : greatR b = true) :
    Calls Tryz.prog 3 #[v1, v2] w fun e w' => e = .returned (.bool true) ∧ Below w.heap.size w w' := by
  have HA := Lib.hid (alive_any B O w hE hF)
  have G1 := Lib.hid (fun W (d : Below w.heap.size w W) => greatR_any v1 a W (h1.on d) z1)
  have G2 := Lib.hid (fun W (d : Below w.heap.size w W) => greatR_any v2 b W (h2.on d) z2)
  rw [hg] at G1
  rw [hg2] at G2
  clear h1 h2
  go_enter Tryz.func3, Tryz.ntmps3
  go_wp2_with fail
  refine (HA.out).mono ?_
  rintro e w1 ⟨rfl, d1⟩
  go_wp2_with fail
  refine (G1.out _ d1).mono ?_
  rintro e w2 ⟨rfl, rfl⟩
  go_wp2_with fail
  refine (G2.out _ d1).mono ?_
  rintro e w3 ⟨rfl, rfl⟩
  go_wp2_with fail
  go_ret
  exact ⟨rfl, d1⟩

set_option maxRecDepth 100000 in
set_option maxHeartbeats 4000000 in
theorem of_some (B : Nat) (O : Own9 B) (v1 v2 : Value) (a b : List Row) (w : World) (hE : Env w) (hF : St.Env B w) (h1 : RRow w v1 a) (h2 : RRow w v2 b) (o1 : ∀ r ∈ a, okR r) (o2 : ∀ r ∈ b, okR r) (z1 : ∀ r ∈ a, r.grp.size ≤ 281474976710656) (z2 : ∀ r ∈ b, r.grp.size ≤ 281474976710656) (hg : greatR a = false) (hg2 : greatR b = false) (ad : Addr) (ic : Nat) (hv : v1 = .slice (some ad) a.length ic) :
    Calls Tryz.prog 3 #[v1, v2] w fun e w' => e = .returned (.bool true) ∧ Below w.heap.size w w' := by
  have HA := Lib.hid (alive_any B O w hE hF)
  have G1 := Lib.hid (fun W (d : Below w.heap.size w W) => greatR_any v1 a W (h1.on d) z1)
  have G2 := Lib.hid (fun W (d : Below w.heap.size w W) => greatR_any v2 b W (h2.on d) z2)
  rw [hg] at G1
  rw [hg2] at G2
  obtain ⟨a1, a2⟩ := greatR_no hg
  obtain ⟨b1, b2⟩ := greatR_no hg2
  obtain ⟨f1, f2, f3, f4⟩ := of_facts hg hg2 o1 o2
  have HO := Lib.hid (fun W (d : Below w.heap.size w W) v (h : RRow W v a) => O.of v v2 a b W (hE.go d) (hF.go d) h (h2.on d) (by omega) (by omega) (fun x hx => by have := a2 x hx; omega) (fun x hx => by have := b2 x hx; omega) o1 o2)
  have HR := Lib.hid (fun W (d : Below w.heap.size w W) => refOf_any v1 v2 a b W (h1.on d) (h2.on d) (by omega) (by omega) (fun x hx => by have := a2 x hx; omega) (fun x hx => by have := b2 x hx; omega))
  have S1 := Lib.hid (fun W u1 u2 (k1 : CRow W u1 (ofE a b).1) (k2 : CRow W u2 (ofE a b).1) => refSameC_any u1 u2 _ _ W k1 k2 (by omega))
  rw [(sameC_true _ _).2 rfl] at S1
  have S2 := Lib.hid (fun W (d : Below w.heap.size w W) u (k : RRow W u a) => refSame_any u v1 a a W k (h1.on d) (by omega))
  rw [(sameR_true _ _).2 rfl] at S2
  have T1 := Lib.hid (fun W (d : Below w.heap.size w W) u (k : CRow W u (ofE a b).1) => O.text u _ W (hF.go d) k f3 (by omega) (fun x hx => by have := f2 x hx; omega) f4)
  have T2 := Lib.hid (fun W u (k : CRow W u (ofE a b).1) => refCtext_any u _ W k f3 (by omega) (fun x hx => by have := f2 x hx; omega) f4)
  generalize ctextB (ofE a b).1 = T at *
  generalize (ofE a b).1 = L at *
  generalize (ofE a b).2 = E at *
  have q1 : (E == E) = true := by simp
  have q2 : (T.toList == T.toList) = true := by simp
  clear f1 f2 f3 f4 a2 b2 o1 o2 hg hg2 z1 z2
  obtain ⟨j0, hi, hz0, hz1, hz2⟩ := info29
  have HI := Lib.hid (And.intro hi (And.intro hz0 (And.intro hz1 hz2)))
  clear hi hz0 hz1 hz2
  have hnews : ∀ W : World, Below w.heap.size w W → ∀ j u, (flatG rowC a)[j]? = some u → (W.alloc (Obj.cells #[] 45)).cell? (ad.add j) = some u := by
    intro W d j u hu
    have hne : a ≠ [] := fun e => by subst e; simp [flatG] at hu
    obtain ⟨b, o, c, hv', _, hb, hL⟩ := (h1.on d).open hne
    rw [hv] at hv'
    cases hv'
    rw [addr_add, World.cell?_alloc_lt _ _ _ hb]
    exact hL.flat rowC_len (by decide) j u hu
  have HNW := Lib.hid hnews
  clear h1 hnews
  subst hv
  obtain ⟨p2, c2, rfl, -, -⟩ := h2
  go_enter Tryz.func3, Tryz.ntmps3
  go_wp2_with fail
  refine (HA.out).mono ?_
  rintro e w1 ⟨rfl, d1⟩
  go_wp2_with fail
  refine (G1.out _ d1).mono ?_
  rintro e w2 ⟨rfl, rfl⟩
  go_wp2_with fail
  refine (G2.out _ d1).mono ?_
  rintro e w3 ⟨rfl, rfl⟩
  have HN := Lib.hid (HNW.out w3 d1)
  clear HNW G1 G2 HA
  go_wp2_with (first | (at_builtin; refine wpList_append_own _ rfl _ _ 22 rfl w3.heap.size 45 j0 (.agg #[.int .i64 0, .string ⟨#[]⟩, .int .i64 0, .bool false]) 4 40 Tryz.underlying22 HI.out.1 HI.out.2.1 HI.out.2.2.1 HI.out.2.2.2 rfl (by decide) _ _ _ rfl (World.ownsRow_made w3 #[] 0 (Nat.le_refl _) (Nat.zero_le _) (by simp)) ad a.length ic (flatG rowC a) rfl (flatG_len rowC_len a) HN.out (flatG_cells1 rowC_one a) (by unfold maxLen; omega) (by omega) (by simp) ?_; intro vo w4 hown4 hgrow4 hnil4; have hO4 : w4.ownsRow w3.heap.size 45 4 vo a.length (flatG rowC a) := (by simpa using hown4); have n4 : Below w3.heap.size w3 w4 := ((Below.refl _ _).alloc (Nat.le_refl _) _).grown hgrow4 (by simp) (fun k hk => by cases hk; exact Nat.le_refl _); have R4 := ownG_row rowC_len hO4; have RO := Lib.hid R4; obtain ⟨oa, oc, rfl, -, -⟩ := R4; have d4 := d1.trans (n4.mono d1.size); clear hown4 hgrow4 hnil4 hO4 n4))
  clear HN HI d1
  refine (HO.out _ d4 _ RO.out).mono ?_
  rintro e w5 ⟨⟨_, rfl, r5⟩, n5⟩
  have RO := Lib.hid (RO.out.on n5)
  have R5 := Lib.hid r5
  have d5 := d4.trans (n5.mono d4.size)
  obtain ⟨p5, c5, rfl, -, -⟩ := r5
  clear HO n5 d4
  go_wp2_with fail
  refine (HR.out _ d5).mono ?_
  rintro e w6 ⟨⟨_, rfl, r6⟩, n6⟩
  have RO := Lib.hid (RO.out.on n6)
  have R5 := Lib.hid (R5.out.on n6)
  have R6 := Lib.hid r6
  have d6 := d5.trans (n6.mono d5.size)
  obtain ⟨p6, c6, rfl, -, -⟩ := r6
  clear HR n6 d5
  go_wp2_with fail
  refine (S1.out _ _ _ R5.out R6.out).mono ?_
  rintro e w7 ⟨rfl, n7⟩
  have RO := Lib.hid (RO.out.on n7)
  have R5 := Lib.hid (R5.out.on n7)
  have R6 := Lib.hid (R6.out.on n7)
  have d7 := d6.trans (n7.mono d6.size)
  clear S1 n7 d6
  go_wp2_with fail
  refine (S2.out _ d7 _ RO.out).mono ?_
  rintro e w8 ⟨rfl, n8⟩
  have R5 := Lib.hid (R5.out.on n8)
  have R6 := Lib.hid (R6.out.on n8)
  have d8 := d7.trans (n8.mono d7.size)
  clear S2 n8 d7 RO
  go_wp2_with fail
  refine (T1.out _ d8 _ R5.out).mono ?_
  rintro e w9 ⟨rfl, n9⟩
  have R6 := Lib.hid (R6.out.on n9)
  have d9 := d8.trans (n9.mono d8.size)
  clear T1 n9 d8 R5
  go_wp2_with fail
  refine (T2.out _ _ R6.out).mono ?_
  rintro e wa ⟨rfl, na⟩
  have da := d9.trans (na.mono d9.size)
  go_wp2_with fail
  go_ret
  exact ⟨rfl, da⟩

set_option maxRecDepth 100000 in
set_option maxHeartbeats 4000000 in
theorem of_nil (B : Nat) (O : Own9 B) (v1 v2 : Value) (a b : List Row) (w : World) (hE : Env w) (hF : St.Env B w) (h1 : RRow w v1 a) (h2 : RRow w v2 b) (o1 : ∀ r ∈ a, okR r) (o2 : ∀ r ∈ b, okR r) (z1 : ∀ r ∈ a, r.grp.size ≤ 281474976710656) (z2 : ∀ r ∈ b, r.grp.size ≤ 281474976710656) (hg : greatR a = false) (hg2 : greatR b = false) (ic : Nat) (hl : a = []) (hv : v1 = .slice none 0 ic) :
    Calls Tryz.prog 3 #[v1, v2] w fun e w' => e = .returned (.bool true) ∧ Below w.heap.size w w' := by
  have HA := Lib.hid (alive_any B O w hE hF)
  have G1 := Lib.hid (fun W (d : Below w.heap.size w W) => greatR_any v1 a W (h1.on d) z1)
  have G2 := Lib.hid (fun W (d : Below w.heap.size w W) => greatR_any v2 b W (h2.on d) z2)
  rw [hg] at G1
  rw [hg2] at G2
  obtain ⟨a1, a2⟩ := greatR_no hg
  obtain ⟨b1, b2⟩ := greatR_no hg2
  obtain ⟨f1, f2, f3, f4⟩ := of_facts hg hg2 o1 o2
  have HO := Lib.hid (fun W (d : Below w.heap.size w W) v (h : RRow W v a) => O.of v v2 a b W (hE.go d) (hF.go d) h (h2.on d) (by omega) (by omega) (fun x hx => by have := a2 x hx; omega) (fun x hx => by have := b2 x hx; omega) o1 o2)
  have HR := Lib.hid (fun W (d : Below w.heap.size w W) => refOf_any v1 v2 a b W (h1.on d) (h2.on d) (by omega) (by omega) (fun x hx => by have := a2 x hx; omega) (fun x hx => by have := b2 x hx; omega))
  have S1 := Lib.hid (fun W u1 u2 (k1 : CRow W u1 (ofE a b).1) (k2 : CRow W u2 (ofE a b).1) => refSameC_any u1 u2 _ _ W k1 k2 (by omega))
  rw [(sameC_true _ _).2 rfl] at S1
  have S2 := Lib.hid (fun W (d : Below w.heap.size w W) u (k : RRow W u a) => refSame_any u v1 a a W k (h1.on d) (by omega))
  rw [(sameR_true _ _).2 rfl] at S2
  have T1 := Lib.hid (fun W (d : Below w.heap.size w W) u (k : CRow W u (ofE a b).1) => O.text u _ W (hF.go d) k f3 (by omega) (fun x hx => by have := f2 x hx; omega) f4)
  have T2 := Lib.hid (fun W u (k : CRow W u (ofE a b).1) => refCtext_any u _ W k f3 (by omega) (fun x hx => by have := f2 x hx; omega) f4)
  generalize ctextB (ofE a b).1 = T at *
  generalize (ofE a b).1 = L at *
  generalize (ofE a b).2 = E at *
  have q1 : (E == E) = true := by simp
  have q2 : (T.toList == T.toList) = true := by simp
  clear f1 f2 f3 f4 a2 b2 o1 o2 hg hg2 z1 z2
  subst hl
  clear h1
  subst hv
  obtain ⟨p2, c2, rfl, -, -⟩ := h2
  go_enter Tryz.func3, Tryz.ntmps3
  go_wp2_with fail
  refine (HA.out).mono ?_
  rintro e w1 ⟨rfl, d1⟩
  go_wp2_with fail
  refine (G1.out _ d1).mono ?_
  rintro e w2 ⟨rfl, rfl⟩
  go_wp2_with fail
  refine (G2.out _ d1).mono ?_
  rintro e w3 ⟨rfl, rfl⟩
  clear G1 G2 HA
  go_wp2_with fail
  have RO : Hid (RRow (w3.alloc (Obj.cells #[] 45)) (.slice (some ⟨w3.heap.size, 0, none⟩) 0 0) []) := ⟨_, 0, rfl, Nat.le_refl _, fun h => absurd rfl h⟩
  have d4 := d1.alloc d1.size (Obj.cells #[] 45)
  clear d1
  refine (HO.out _ d4 _ RO.out).mono ?_
  rintro e w5 ⟨⟨_, rfl, r5⟩, n5⟩
  have RO := Lib.hid (RO.out.on n5)
  have R5 := Lib.hid r5
  have d5 := d4.trans (n5.mono d4.size)
  obtain ⟨p5, c5, rfl, -, -⟩ := r5
  clear HO n5 d4
  go_wp2_with fail
  refine (HR.out _ d5).mono ?_
  rintro e w6 ⟨⟨_, rfl, r6⟩, n6⟩
  have RO := Lib.hid (RO.out.on n6)
  have R5 := Lib.hid (R5.out.on n6)
  have R6 := Lib.hid r6
  have d6 := d5.trans (n6.mono d5.size)
  obtain ⟨p6, c6, rfl, -, -⟩ := r6
  clear HR n6 d5
  go_wp2_with fail
  refine (S1.out _ _ _ R5.out R6.out).mono ?_
  rintro e w7 ⟨rfl, n7⟩
  have RO := Lib.hid (RO.out.on n7)
  have R5 := Lib.hid (R5.out.on n7)
  have R6 := Lib.hid (R6.out.on n7)
  have d7 := d6.trans (n7.mono d6.size)
  clear S1 n7 d6
  go_wp2_with fail
  refine (S2.out _ d7 _ RO.out).mono ?_
  rintro e w8 ⟨rfl, n8⟩
  have R5 := Lib.hid (R5.out.on n8)
  have R6 := Lib.hid (R6.out.on n8)
  have d8 := d7.trans (n8.mono d7.size)
  clear S2 n8 d7 RO
  go_wp2_with fail
  refine (T1.out _ d8 _ R5.out).mono ?_
  rintro e w9 ⟨rfl, n9⟩
  have R6 := Lib.hid (R6.out.on n9)
  have d9 := d8.trans (n9.mono d8.size)
  clear T1 n9 d8 R5
  go_wp2_with fail
  refine (T2.out _ _ R6.out).mono ?_
  rintro e wa ⟨rfl, na⟩
  have da := d9.trans (na.mono d9.size)
  go_wp2_with fail
  go_ret
  exact ⟨rfl, da⟩

theorem of_walk (B : Nat) (O : Own9 B) (v1 v2 : Value) (a b : List Row) (w : World) (hE : Env w) (hF : St.Env B w) (h1 : RRow w v1 a) (h2 : RRow w v2 b) (o1 : ∀ r ∈ a, okR r) (o2 : ∀ r ∈ b, okR r) (z1 : ∀ r ∈ a, r.grp.size ≤ 281474976710656) (z2 : ∀ r ∈ b, r.grp.size ≤ 281474976710656) :
    Calls Tryz.prog 3 #[v1, v2] w fun e w' => e = .returned (.bool true) ∧ Below w.heap.size w w' := by
  cases hg : greatR a
  · cases hg2 : greatR b
    · have h1' := h1
      obtain ⟨p, c, hv, hc, hl⟩ := h1
      cases p with
      | none =>
        have hl0 : a = [] := by
          rcases a with _ | ⟨x, t⟩
          · rfl
          · obtain ⟨b, o, e, _⟩ := hl (by simp); cases e
        have hv0 : v1 = .slice none 0 c := by rw [hv, hl0]; rfl
        exact of_nil B O v1 v2 a b w hE hF h1' h2 o1 o2 z1 z2 hg hg2 c hl0 hv0
      | some ad => exact of_some B O v1 v2 a b w hE hF h1' h2 o1 o2 z1 z2 hg hg2 ad c hv
    · exact of_great2 B O v1 v2 a b w hE hF h1 h2 z1 z2 hg hg2
  · exact of_great1 B O v1 v2 a b w hE hF h1 h2 z1 z2 hg

end Go.Proofs.YtehgpibngalhfaaGreatDoor.Rw
