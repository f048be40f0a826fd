/- Walks: the law RowAnswers. Proved: the law RowAnswers of rows answers true for every query and every slice of items, and leaves its arguments as they were. Conditions: the package variables that the card lists lie as the program's own text lays them (the card ties that); nothing else. -/
import Derived.Test.YtidkpalckafgkaaGreatDoorAL
import Derived.Test.YtidkpalckafgkaaGreatDoorG3
import Derived.Test.YtidkpalckafgkaaGreatDoorRows
import Derived.Test.YtidkpalckafgkaaGreatDoorCards
import Derived.Test.YtidkpalckafgkaaGreatDoorTie
import Derived.Test.YtidkpalckafgkaaGreatDoorX2
import Derived.SevenTiedAt
namespace Go.Proofs.YtidkpalckafgkaaGreatDoor.Rw
open Go Go.RowKit Go.Sort Go.Lib Tg Pk Ky Qy

set_option maxRecDepth 100000 in
set_option maxHeartbeats 4000000 in
theorem answers_great (B : Nat) (v1 v2 : Value) (q : Query) (l : List Item) (w : World) (hE : Env w) (hF : St.Env B w) (h1 : QRow w v1 q) (h2 : IRow w v2 l) (z1 : q.2.1.size ≤ 281474976710656) (z2 : ∀ x ∈ q.2.2.1, x.2.1.size ≤ 281474976710656 ∧ x.2.2.size ≤ 281474976710656) (z3 : ∀ x ∈ q.2.2.2, x.size ≤ 281474976710656) (y1 : ∀ i ∈ l, i.key.size ≤ 281474976710656) (hg : greatQ q = true) :
    Calls Tryz.prog 5 #[v1, v2] w fun e w' => e = .returned (.bool true) ∧ Below w.heap.size w w' := by
  have HA := Lib.hid (fun W (d : Below w.heap.size w W) => alive_any B W (hE.go d) (hF.go d))
  have GQ := Lib.hid (fun W (d : Below w.heap.size w W) => qgreat_any v1 q W (h1.on d) z1 z2 z3)
  have GM := Lib.hid (fun W (d : Below w.heap.size w W) => muchI_any v2 l W (h2.on d) y1)
  rw [hg] at GQ
  obtain ⟨qa, qc, qb, qd, rfl, -, -⟩ := h1.open
  clear h1 z1 z2 z3 y1
  obtain ⟨ia, ic, rfl, hic, hil⟩ := h2
  have HIL := Lib.hid hil
  clear hil
  obtain ⟨g, n, m, by'⟩ := q
  simp only at *
  go_enter Tryz.func5, Tryz.ntmps5
  go_wp2_with fail
  have n0 := aBelow w (.cells #[.int .i64 g, .string n, .slice qa m.length qc, .slice qb by'.length qd] 39)
  have X0 : QX w.heap.size g n (.slice qa m.length qc) (.slice qb by'.length qd) (w.alloc (.cells #[.int .i64 g, .string n, .slice qa m.length qc, .slice qb by'.length qd] 39)) := by
    refine ⟨?_, ?_, ?_, ?_⟩ <;> simp
  generalize (w.alloc (.cells #[.int .i64 g, .string n, .slice qa m.length qc, .slice qb by'.length qd] 39)) = w0 at *
  refine (HA.out w0 n0).mono ?_
  rintro e w1 ⟨rfl, n1⟩
  have d1 := n0.trans (n1.mono n0.size)
  have X1 := X0.keep ((Keeps.refl w0).on n1)
  have XX := Lib.hid X1
  obtain ⟨z0, z1, z2, z3⟩ := X1
  clear n0 n1 X0 HA
  go_wp2_with fail
  refine (GQ.out w1 d1).mono ?_
  rintro e w2 ⟨rfl, n2⟩
  have d2 := d1.trans (n2.mono d1.size)
  have X2 := Lib.hid (XX.out.keep ((Keeps.refl w1).on n2))
  clear z0 z1 z2 z3 XX n2 d1 GQ
  go_wp2_with fail
  go_ret
  exact ⟨rfl, d2⟩
set_option maxRecDepth 100000 in
set_option maxHeartbeats 4000000 in
theorem answers_much (B : Nat) (v1 v2 : Value) (q : Query) (l : List Item) (w : World) (hE : Env w) (hF : St.Env B w) (h1 : QRow w v1 q) (h2 : IRow w v2 l) (z1 : q.2.1.size ≤ 281474976710656) (z2 : ∀ x ∈ q.2.2.1, x.2.1.size ≤ 281474976710656 ∧ x.2.2.size ≤ 281474976710656) (z3 : ∀ x ∈ q.2.2.2, x.size ≤ 281474976710656) (y1 : ∀ i ∈ l, i.key.size ≤ 281474976710656) (hg : greatQ q = false) (hu : muchI l = true) :
    Calls Tryz.prog 5 #[v1, v2] w fun e w' => e = .returned (.bool true) ∧ Below w.heap.size w w' := by
  have HA := Lib.hid (fun W (d : Below w.heap.size w W) => alive_any B W (hE.go d) (hF.go d))
  have GQ := Lib.hid (fun W (d : Below w.heap.size w W) => qgreat_any v1 q W (h1.on d) z1 z2 z3)
  have GM := Lib.hid (fun W (d : Below w.heap.size w W) => muchI_any v2 l W (h2.on d) y1)
  rw [hg] at GQ
  rw [hu] at GM
  obtain ⟨qa, qc, qb, qd, rfl, -, -⟩ := h1.open
  clear h1 z1 z2 z3 y1
  obtain ⟨ia, ic, rfl, hic, hil⟩ := h2
  have HIL := Lib.hid hil
  clear hil
  obtain ⟨g, n, m, by'⟩ := q
  simp only at *
  go_enter Tryz.func5, Tryz.ntmps5
  go_wp2_with fail
  have n0 := aBelow w (.cells #[.int .i64 g, .string n, .slice qa m.length qc, .slice qb by'.length qd] 39)
  have X0 : QX w.heap.size g n (.slice qa m.length qc) (.slice qb by'.length qd) (w.alloc (.cells #[.int .i64 g, .string n, .slice qa m.length qc, .slice qb by'.length qd] 39)) := by
    refine ⟨?_, ?_, ?_, ?_⟩ <;> simp
  generalize (w.alloc (.cells #[.int .i64 g, .string n, .slice qa m.length qc, .slice qb by'.length qd] 39)) = w0 at *
  refine (HA.out w0 n0).mono ?_
  rintro e w1 ⟨rfl, n1⟩
  have d1 := n0.trans (n1.mono n0.size)
  have X1 := X0.keep ((Keeps.refl w0).on n1)
  have XX := Lib.hid X1
  obtain ⟨z0, z1, z2, z3⟩ := X1
  clear n0 n1 X0 HA
  go_wp2_with fail
  refine (GQ.out w1 d1).mono ?_
  rintro e w2 ⟨rfl, n2⟩
  have d2 := d1.trans (n2.mono d1.size)
  have X2 := Lib.hid (XX.out.keep ((Keeps.refl w1).on n2))
  clear z0 z1 z2 z3 XX n2 d1 GQ
  go_wp2_with fail
  refine (GM.out w2 d2).mono ?_
  rintro e w3 ⟨rfl, rfl⟩
  clear GM
  go_wp2_with fail
  go_ret
  exact ⟨rfl, d2⟩
set_option maxRecDepth 100000 in
set_option maxHeartbeats 4000000 in
theorem answers_main (B : Nat) (v1 v2 : Value) (q : Query) (l : List Item) (w : World) (hE : Env w) (hF : St.Env B w) (h1 : QRow w v1 q) (h2 : IRow w v2 l) (z1 : q.2.1.size ≤ 281474976710656) (z2 : ∀ x ∈ q.2.2.1, x.2.1.size ≤ 281474976710656 ∧ x.2.2.size ≤ 281474976710656) (z3 : ∀ x ∈ q.2.2.2, x.size ≤ 281474976710656) (o1 : ∀ i ∈ l, okI i) (y1 : ∀ i ∈ l, i.key.size ≤ 281474976710656) (hg : greatQ q = false) (hu : muchI l = false) (ad : Addr) (ic : Nat) (hv2 : v2 = .slice (some ad) l.length ic) :
    Calls Tryz.prog 5 #[v1, v2] w fun e w' => e = .returned (.bool true) ∧ Below w.heap.size w w' := by
  have HA := Lib.hid (fun W (d : Below w.heap.size w W) => alive_any B W (hE.go d) (hF.go d))
  have GQ := Lib.hid (fun W (d : Below w.heap.size w W) => qgreat_any v1 q W (h1.on d) z1 z2 z3)
  have GM := Lib.hid (fun W (d : Below w.heap.size w W) => muchI_any v2 l W (h2.on d) y1)
  rw [hg] at GQ
  rw [hu] at GM
  obtain ⟨q1, q2, q3, q4, q5⟩ := greatQ_not hg
  obtain ⟨l1, l2⟩ := muchI_not hu
  have HAN := Lib.hid (fun W (d : Below w.heap.size w W) v L (hv : IRow W v L) (hL : L.length ≤ 1000) (hk : ∀ i ∈ L, i.key.size ≤ 900) (ho : ∀ i ∈ L, okI i) => answer_any v1 v q L W (hE.go d) (h1.on d) hv z1 (by omega) z2 (by omega) z3 hL hk ho)
  have HRA := Lib.hid (fun W (d : Below w.heap.size w W) => refAnswer_any v1 v2 q l W (h1.on d) (h2.on d) z1 (by omega) z2 (by omega) z3 (by omega) (fun i hi => by have := l2 i hi; omega) o1)
  have HIT := Lib.hid (fun W v (d : Below w.heap.size w W) (hv : IRow W v l) => refItems_any v v2 l l W hv (h2.on d) (by omega))
  rw [(sameI_true l l).2 rfl] at HIT
  have HIR := Lib.hid h2
  have HO := Lib.hid o1
  have HK : Hid (∀ i ∈ l, i.key.size ≤ 900) := fun i hi => by have := l2 i hi; omega
  have HAO := Lib.hid (fun W (d : Below w.heap.size w W) v (hv : IRow W v l) => HAN.out W d v l hv (by omega) HK.out HO.out)
  clear HAN HK HO
  have HRG := Lib.hid (fun W v (hE2 : Env W) (hv : RRow W v (answer q l)) => rright_any v _ W hv hE2 (by have := answer_len q l; omega) (fun r hr => by have := answer_grp q l r hr; omega))
  rw [answer_right q l] at HRG
  have SM := Lib.hid (fun va vb W (ha : RRow W va (answer q l)) (hb : RRow W vb (answer q l)) => refSame_any va vb _ _ W ha hb (by have := answer_len q l; omega))
  rw [(sameR_true _ _).2 rfl] at SM
  generalize answer q l = A at *
  clear l2 q3 q5 hg hu
  obtain ⟨qa, qc, qb, qd, rfl, -, -⟩ := h1.open
  clear h1 z1 z2 z3 o1 y1
  have hnews : ∀ W : World, Below w.heap.size w W → ∀ j u, (flatG itC l)[j]? = some u → (W.alloc (Obj.cells #[] 50)).cell? (ad.add j) = some u := by
    intro W d j u hu
    have hne : l ≠ [] := fun e => by subst e; simp [flatG] at hu
    obtain ⟨b, o, c, hv, _, hb, hL⟩ := (h2.on d).open hne
    rw [hv2] at hv
    cases hv
    rw [addr_add, World.cell?_alloc_lt _ _ _ hb]
    exact hL.flat itC_len (by decide) j u hu
  have HNW := Lib.hid hnews
  clear h2 hnews
  subst hv2
  obtain ⟨j0, hi, hz0, hz1, hz2⟩ := info50
  have HI := Lib.hid (And.intro hi (And.intro hz0 (And.intro hz1 hz2)))
  clear hi hz0 hz1 hz2
  obtain ⟨g, n, m, by'⟩ := q
  simp only at *
  go_enter Tryz.func5, Tryz.ntmps5
  go_wp2_with fail
  have n0 := aBelow w (.cells #[.int .i64 g, .string n, .slice qa m.length qc, .slice qb by'.length qd] 39)
  have X0 : QX w.heap.size g n (.slice qa m.length qc) (.slice qb by'.length qd) (w.alloc (.cells #[.int .i64 g, .string n, .slice qa m.length qc, .slice qb by'.length qd] 39)) := by
    refine ⟨?_, ?_, ?_, ?_⟩ <;> simp
  generalize (w.alloc (.cells #[.int .i64 g, .string n, .slice qa m.length qc, .slice qb by'.length qd] 39)) = w0 at *
  refine (HA.out w0 n0).mono ?_
  rintro e w1 ⟨rfl, n1⟩
  have d1 := n0.trans (n1.mono n0.size)
  have X1 := X0.keep ((Keeps.refl w0).on n1)
  have XX := Lib.hid X1
  obtain ⟨z0, z1, z2, z3⟩ := X1
  clear n0 n1 X0 HA
  go_wp2_with fail
  refine (GQ.out w1 d1).mono ?_
  rintro e w2 ⟨rfl, n2⟩
  have d2 := d1.trans (n2.mono d1.size)
  have X2 := Lib.hid (XX.out.keep ((Keeps.refl w1).on n2))
  clear z0 z1 z2 z3 XX n2 d1 GQ
  go_wp2_with fail
  refine (GM.out w2 d2).mono ?_
  rintro e w3 ⟨rfl, rfl⟩
  clear GM
  have HN := Lib.hid (HNW.out w3 d2)
  clear HNW
  go_wp2_with (first | (at_builtin; refine wpList_append_own _ rfl _ _ 40 rfl w3.heap.size 50 j0 (.agg #[.int .i64 0, .string ⟨#[]⟩, .int .i64 0, .int .i64 0, .bool false, .int .i64 0, .int .i64 0]) 7 64 Tryz.underlying40 HI.out.1 HI.out.2.1 HI.out.2.2.1 HI.out.2.2.2 rfl (by decide) _ _ _ rfl (World.ownsRow_made w3 #[] 0 (Nat.le_refl _) (Nat.zero_le _) (by simp)) ad l.length ic (flatG itC l) rfl (flatG_len itC_len l) HN.out (flatG_cells1 itC_one l) (by unfold maxLen; omega) (by omega) (by simp) ?_; intro vo w4 hown4 hgrow4 hnil4; have hO4 : w4.ownsRow w3.heap.size 50 7 vo l.length (flatG itC l) := (by simpa using hown4); have n4 : Below w3.heap.size w3 w4 := ((Below.refl _ _).alloc (Nat.le_refl _) _).grown hgrow4 (by simp) (fun k hk => by cases hk; exact Nat.le_refl _); have R4 := ownG_row itC_len hO4; have RO := Lib.hid R4; obtain ⟨oa, oc, rfl, -, -⟩ := R4; have d4 := d2.trans (n4.mono d2.size); have X4 := Lib.hid (X2.out.keep ((Keeps.refl w3).on n4)); clear hown4 hgrow4 hnil4 hO4 n4; obtain ⟨x0, x1, x2, x3⟩ := X4.out))
  clear X2 HN HI
  refine (HAO.out _ d4 _ RO.out).mono ?_
  rintro e w5 ⟨⟨va, rfl, ra⟩, n5⟩
  have RA := Lib.hid ra
  have RO5 := Lib.hid (RO.out.on n5)
  have X5 := Lib.hid (X4.out.keep ((Keeps.refl w4).on n5))
  have d5 := d4.trans (n5.mono d4.size)
  clear ra n5 RO X4 x0 x1 x2 x3
  obtain ⟨x0, x1, x2, x3⟩ := X5.out
  go_wp2_with fail
  refine (HRA.out _ d5).mono ?_
  rintro e w6 ⟨⟨vb, rfl, rb⟩, n6⟩
  have RB := Lib.hid rb
  have RA6 := Lib.hid (RA.out.on n6)
  have RO6 := Lib.hid (RO5.out.on n6)
  have d6 := d5.trans (n6.mono d5.size)
  clear rb n6 RA RO5 X5 x0 x1 x2 x3 HRA HAO
  go_wp2_with fail
  refine (SM.out _ _ _ RA6.out RB.out).mono ?_
  rintro e w7 ⟨rfl, n7⟩
  have RA7 := Lib.hid (RA6.out.on n7)
  have RO7 := Lib.hid (RO6.out.on n7)
  have d7 := d6.trans (n7.mono d6.size)
  clear n7 RA6 RO6 RB SM
  go_wp2_with fail
  refine (HRG.out _ _ (hE.go d7) RA7.out).mono ?_
  rintro e w8 ⟨rfl, n8⟩
  have RO8 := Lib.hid (RO7.out.on n8)
  have d8 := d7.trans (n8.mono d7.size)
  clear n8 RA7 RO7 HRG
  go_wp2_with fail
  refine (HIT.out _ _ d8 RO8.out).mono ?_
  rintro e w9 ⟨rfl, n9⟩
  have d9 := d8.trans (n9.mono d8.size)
  go_wp2_with fail
  go_ret
  exact ⟨rfl, d9⟩
set_option maxRecDepth 100000 in
set_option maxHeartbeats 4000000 in
theorem answers_nil (B : Nat) (v1 v2 : Value) (q : Query) (l : List Item) (w : World) (hE : Env w) (hF : St.Env B w) (h1 : QRow w v1 q) (h2 : IRow w v2 l) (z1 : q.2.1.size ≤ 281474976710656) (z2 : ∀ x ∈ q.2.2.1, x.2.1.size ≤ 281474976710656 ∧ x.2.2.size ≤ 281474976710656) (z3 : ∀ x ∈ q.2.2.2, x.size ≤ 281474976710656) (o1 : ∀ i ∈ l, okI i) (y1 : ∀ i ∈ l, i.key.size ≤ 281474976710656) (hg : greatQ q = false) (hu : muchI l = false) (hl : l = []) (hv2 : v2 = .slice none 0 0) :
    Calls Tryz.prog 5 #[v1, v2] w fun e w' => e = .returned (.bool true) ∧ Below w.heap.size w w' := by
  have HA := Lib.hid (fun W (d : Below w.heap.size w W) => alive_any B W (hE.go d) (hF.go d))
  have GQ := Lib.hid (fun W (d : Below w.heap.size w W) => qgreat_any v1 q W (h1.on d) z1 z2 z3)
  have GM := Lib.hid (fun W (d : Below w.heap.size w W) => muchI_any v2 l W (h2.on d) y1)
  rw [hg] at GQ
  rw [hu] at GM
  obtain ⟨q1, q2, q3, q4, q5⟩ := greatQ_not hg
  obtain ⟨l1, l2⟩ := muchI_not hu
  have HAN := Lib.hid (fun W (d : Below w.heap.size w W) v L (hv : IRow W v L) (hL : L.length ≤ 1000) (hk : ∀ i ∈ L, i.key.size ≤ 900) (ho : ∀ i ∈ L, okI i) => answer_any v1 v q L W (hE.go d) (h1.on d) hv z1 (by omega) z2 (by omega) z3 hL hk ho)
  have HRA := Lib.hid (fun W (d : Below w.heap.size w W) => refAnswer_any v1 v2 q l W (h1.on d) (h2.on d) z1 (by omega) z2 (by omega) z3 (by omega) (fun i hi => by have := l2 i hi; omega) o1)
  have HIT := Lib.hid (fun W v (d : Below w.heap.size w W) (hv : IRow W v l) => refItems_any v v2 l l W hv (h2.on d) (by omega))
  rw [(sameI_true l l).2 rfl] at HIT
  have HIR := Lib.hid h2
  have HO := Lib.hid o1
  have HK : Hid (∀ i ∈ l, i.key.size ≤ 900) := fun i hi => by have := l2 i hi; omega
  have HAO := Lib.hid (fun W (d : Below w.heap.size w W) v (hv : IRow W v l) => HAN.out W d v l hv (by omega) HK.out HO.out)
  clear HAN HK HO
  have HRG := Lib.hid (fun W v (hE2 : Env W) (hv : RRow W v (answer q l)) => rright_any v _ W hv hE2 (by have := answer_len q l; omega) (fun r hr => by have := answer_grp q l r hr; omega))
  rw [answer_right q l] at HRG
  have SM := Lib.hid (fun va vb W (ha : RRow W va (answer q l)) (hb : RRow W vb (answer q l)) => refSame_any va vb _ _ W ha hb (by have := answer_len q l; omega))
  rw [(sameR_true _ _).2 rfl] at SM
  generalize answer q l = A at *
  clear l2 q3 q5 hg hu
  obtain ⟨qa, qc, qb, qd, rfl, -, -⟩ := h1.open
  clear h1 z1 z2 z3 o1 y1
  clear h2
  subst hl
  subst hv2
  obtain ⟨g, n, m, by'⟩ := q
  simp only at *
  go_enter Tryz.func5, Tryz.ntmps5
  go_wp2_with fail
  have n0 := aBelow w (.cells #[.int .i64 g, .string n, .slice qa m.length qc, .slice qb by'.length qd] 39)
  have X0 : QX w.heap.size g n (.slice qa m.length qc) (.slice qb by'.length qd) (w.alloc (.cells #[.int .i64 g, .string n, .slice qa m.length qc, .slice qb by'.length qd] 39)) := by
    refine ⟨?_, ?_, ?_, ?_⟩ <;> simp
  generalize (w.alloc (.cells #[.int .i64 g, .string n, .slice qa m.length qc, .slice qb by'.length qd] 39)) = w0 at *
  refine (HA.out w0 n0).mono ?_
  rintro e w1 ⟨rfl, n1⟩
  have d1 := n0.trans (n1.mono n0.size)
  have X1 := X0.keep ((Keeps.refl w0).on n1)
  have XX := Lib.hid X1
  obtain ⟨z0, z1, z2, z3⟩ := X1
  clear n0 n1 X0 HA
  go_wp2_with fail
  refine (GQ.out w1 d1).mono ?_
  rintro e w2 ⟨rfl, n2⟩
  have d2 := d1.trans (n2.mono d1.size)
  have X2 := Lib.hid (XX.out.keep ((Keeps.refl w1).on n2))
  clear z0 z1 z2 z3 XX n2 d1 GQ
  go_wp2_with fail
  refine (GM.out w2 d2).mono ?_
  rintro e w3 ⟨rfl, rfl⟩
  clear GM
  have n4 := aBelow w3 (Obj.cells #[] 50)
  have X4 := Lib.hid (X2.out.keep ((Keeps.refl w3).on n4))
  obtain ⟨x0, x1, x2, x3⟩ := X4.out
  have RO : Hid (IRow (w3.alloc (Obj.cells #[] 50)) (.slice (some ⟨w3.heap.size, 0, none⟩) 0 0) []) := ⟨_, 0, rfl, Nat.le_refl _, fun h => absurd rfl h⟩
  have d4 := d2.trans (n4.mono d2.size)
  clear n4 X2
  go_wp2_with fail
  generalize w3.alloc (Obj.cells #[] 50) = w4 at *
  refine (HAO.out _ d4 _ RO.out).mono ?_
  rintro e w5 ⟨⟨va, rfl, ra⟩, n5⟩
  have RA := Lib.hid ra
  have RO5 := Lib.hid (RO.out.on n5)
  have X5 := Lib.hid (X4.out.keep ((Keeps.refl w4).on n5))
  have d5 := d4.trans (n5.mono d4.size)
  clear ra n5 RO X4 x0 x1 x2 x3
  obtain ⟨x0, x1, x2, x3⟩ := X5.out
  go_wp2_with fail
  refine (HRA.out _ d5).mono ?_
  rintro e w6 ⟨⟨vb, rfl, rb⟩, n6⟩
  have RB := Lib.hid rb
  have RA6 := Lib.hid (RA.out.on n6)
  have RO6 := Lib.hid (RO5.out.on n6)
  have d6 := d5.trans (n6.mono d5.size)
  clear rb n6 RA RO5 X5 x0 x1 x2 x3 HRA HAO
  go_wp2_with fail
  refine (SM.out _ _ _ RA6.out RB.out).mono ?_
  rintro e w7 ⟨rfl, n7⟩
  have RA7 := Lib.hid (RA6.out.on n7)
  have RO7 := Lib.hid (RO6.out.on n7)
  have d7 := d6.trans (n7.mono d6.size)
  clear n7 RA6 RO6 RB SM
  go_wp2_with fail
  refine (HRG.out _ _ (hE.go d7) RA7.out).mono ?_
  rintro e w8 ⟨rfl, n8⟩
  have RO8 := Lib.hid (RO7.out.on n8)
  have d8 := d7.trans (n8.mono d7.size)
  clear n8 RA7 RO7 HRG
  go_wp2_with fail
  refine (HIT.out _ _ d8 RO8.out).mono ?_
  rintro e w9 ⟨rfl, n9⟩
  have d9 := d8.trans (n9.mono d8.size)
  go_wp2_with fail
  go_ret
  exact ⟨rfl, d9⟩
theorem answers_walk (B : Nat) (v1 v2 : Value) (q : Query) (l : List Item) (w : World) (hE : Env w) (hF : St.Env B w) (h1 : QRow w v1 q) (h2 : IRow w v2 l) (z1 : q.2.1.size ≤ 281474976710656) (z2 : ∀ x ∈ q.2.2.1, x.2.1.size ≤ 281474976710656 ∧ x.2.2.size ≤ 281474976710656) (z3 : ∀ x ∈ q.2.2.2, x.size ≤ 281474976710656) (o1 : ∀ i ∈ l, okI i) (y1 : ∀ i ∈ l, i.key.size ≤ 281474976710656) (hv : (v2 = .slice none 0 0 ∧ l = []) ∨ ∃ ad ic, v2 = .slice (some ad) l.length ic) :
    Calls Tryz.prog 5 #[v1, v2] w fun e w' => e = .returned (.bool true) ∧ Below w.heap.size w w' := by
  cases hg : greatQ q
  · cases hu : muchI l
    · rcases hv with ⟨hv, hl⟩ | ⟨ad, ic, hv⟩
      · exact answers_nil B v1 v2 q l w hE hF h1 h2 z1 z2 z3 o1 y1 hg hu hl hv
      · exact answers_main B v1 v2 q l w hE hF h1 h2 z1 z2 z3 o1 y1 hg hu ad ic hv
    · exact answers_much B v1 v2 q l w hE hF h1 h2 z1 z2 z3 y1 hg hu
  · exact answers_great B v1 v2 q l w hE hF h1 h2 z1 z2 z3 y1 hg

end Go.Proofs.YtidkpalckafgkaaGreatDoor.Rw
namespace Go.Proofs.YtidkpalckafgkaaGreatDoor
open Go Go.ChangeShapes Go.WideShapes Go.ChangeAt Go.RowKit
open Go.ChangeMaps (open_string shut_string)

set_option maxRecDepth 100000 in
theorem rowAnswers_lifted (os : Os) (started : os.Started) (H : Type) (enc : TypeId × Value → H) :
    ReturnsInHanded {} Tryz.checked os 5 .any (fun w args => (Rows.rowAnswersSpec.pre enc Tryz.prog Tryz.f5 [] false w args ∧ laidMetH Tryz.prog laidL w) ∧ sizedMet enc Tryz.prog Tryz.f5 (OpenSpec.ofChange Rows.rowAnswersSpec) false w args)
      (Rows.rowAnswersSpec.post enc Tryz.prog Tryz.f5 false true false false) := by
  refine lift started (by kernel_rfl) Tryz.func5
    (ChangeSpec.witness_shaped (enc := enc) (C := Tryz.checked) (os := os) (X := fun w _ => laidMetH Tryz.prog laidL w) false (World.laidAll Tryz.prog os laidL) #[.agg #[.int .i64 0, .string ⟨#[]⟩, .slice none 0 0, .slice none 0 0], .slice none 0 0] 8 (World.laidAll_os _ _ _)
      (World.shaped_of_ZipB (by kernel_rfl) (by kernel_rfl)) (by kernel_rfl) (by kernel_rfl) (by kernel_rfl) (start_met os _)) ?_
  intro W base args ds gs before hval0 hW hsz0 hE hF
  have hsz : (DataW.weightsEach Tryz.prog (Tryz.f5.params.toList ++ Rows.rowAnswersSpec.plain.varTypes Tryz.prog) (ds ++ gs)).all (· ≤ reachBytes) = true := hsz0
  clear hsz0
  have hval : ∀ (j : Nat) t v, Tryz.f5.params[j]? = some t → args[j]? = some v → Value.okWide Tryz.prog W .any base t v := hval0
  have hW' := hW
  obtain ⟨p, q, hA0, hV, rfl, hfz, hnd⟩ := hW
  have hA : DataW.TrodAll enc Tryz.prog W 0 (fun _ => true) true Tryz.f5.params.toList args.toList ds p := hA0
  rw [Tryz.params5] at hA hval hsz
  obtain ⟨v0, v1, d0, d1, p0, p1, rfl, rfl, rfl, h0, h1⟩ := trodAll_two hA
  obtain ⟨rfl, rfl⟩ := trodVars_none hV
  obtain ⟨q, a, b, c, d, D, E, hv0, hm, hl, hd0, hD, hE0⟩ := open_query (hval 0 39 v0 rfl rfl) h0
  obtain ⟨a', c', l, hv1, r1, o1, y1⟩ := items_in (hval 1 40 v1 rfl rfl) h1 hsz (j := 1) rfl rfl
  subst hd0
  subst hv0
  subst hv1
  clear hA0 hval0
  simp only [List.append_nil] at hW'
  have hlt : ∀ x ∈ p0, x.block < W.heap.size := fun x hx => by simpa using hW'.lt x (by simp [hx])
  have hlt1 : ∀ x ∈ p1, x.block < W.heap.size := fun x hx => by simpa using hW'.lt x (by simp [hx])
  obtain ⟨z1, z2, z3⟩ := sized_query hsz (j := 0) (q := q) rfl rfl hD hE0
  have hvd : (Value.slice a' l.length c' = .slice none 0 0 ∧ l = []) ∨ ∃ ad ic, Value.slice a' l.length c' = .slice (some ad) l.length ic := by
    cases a' with
    | some ad => exact Or.inr ⟨ad, c', rfl⟩
    | none =>
      rcases open_items h1 with ⟨_, hl0, hc0⟩ | ⟨a, _, _, ha, _⟩
      · have hl1 : l = [] := List.length_eq_zero_iff.1 hl0
        subst hl1
        subst hc0
        exact Or.inl ⟨rfl, rfl⟩
      · cases ha
  have fin : ∀ e W', (e : Ending) = .returned (.bool true) ∧ Below W.heap.size W W' → ∃ v, e = .returned v ∧ Rows.rowAnswersSpec.post enc Tryz.prog Tryz.f5 false true false false W #[.agg #[.int .i64 q.1, .string q.2.1, .slice a q.2.2.1.length c, .slice b q.2.2.2.length d], .slice a' l.length c'] v W' := by
    rintro e W' ⟨rfl, hnx⟩
    refine ⟨_, rfl, _, _, _, [], p0 ++ p1, [], hW', ?_, ?_, rfl, hnx.frame _, fun h => by cases h⟩
    · exact trodAll_mk1 (shut_bool Tryz.underlying4 _)
    · exact trodAll_mk2 (Below.trod laidOut (by kernel_rfl) (of_decide_eq_true (by kernel_rfl)) h0 hnx hlt) (Below.trod laidOut (by kernel_rfl) (of_decide_eq_true (by kernel_rfl)) h1 hnx hlt1)
  exact (Rw.answers_walk W.heap.size _ _ q l W hE hF (QRow.shut hm hl) r1 z1 z2 z3 o1 y1 hvd).mono fun e W' h => fin e W' h

theorem rowAnswers_row : Rows.RowAnswersSaid :=
  OpenClaim.holds_of_wide 5 Tryz.f5 rfl rfl rfl rfl rfl rfl rfl ⟨rfl, rfl, rfl, rfl, rfl⟩ rfl rfl rfl rfl rfl (by kernel_rfl) Tryz.func5 (by kernel_rfl)
    (of_decide_eq_true (by kernel_rfl)) (by unfold Func.isWrapper; rw [if_neg (of_decide_eq_false (by kernel_rfl))]; exact ⟨rfl, rfl⟩)
    (fun os started H enc _ => rowAnswers_lifted os started H enc)

theorem rowAnswers_holds : Rows.RowAnswersCardSaid :=
  Claim7.holds_tied_plain_at .later [] [.data, .data, .data, .data, .sentinel, .sentinel, .pinned] true (true, "3ecd042ede624d45f164f0ee5037ee0ad7adbd9a4591f4834b049fac76f87670") true
    rowAnswers_row (fun _ h => by cases h) (by kernel_rfl) (fun _ h => by cases h) rowAnswers_row_tie rfl ⟨rfl, rfl⟩ (by kernel_rfl) rfl
    (fun f fn hf hfn => by
      obtain rfl : f = 5 := Option.some.inj ((show Tryz.prog.funcNamed "ebbtide/ebbtidelaw08.RowAnswers" = some 5 by kernel_rfl).symm.trans hf) |>.symm
      obtain rfl : fn = Tryz.f5 := (Option.some.inj (Tryz.func5.symm.trans hfn)).symm
      exact ⟨by kernel_rfl, fun j t ht => by
        rw [Tryz.params5] at ht
        have hm : t ∈ [39, 40] := by simpa using Array.mem_of_getElem? ht
        have hall : ([39, 40].all fun u => !Tryz.prog.wantsStandIn u) = true := by kernel_rfl
        exact (show Tryz.prog.wantsStandIn t = false by simpa using List.all_eq_true.1 hall t hm)⟩)
    (by kernel_rfl)
#print axioms rowAnswers_holds
end Go.Proofs.YtidkpalckafgkaaGreatDoor
