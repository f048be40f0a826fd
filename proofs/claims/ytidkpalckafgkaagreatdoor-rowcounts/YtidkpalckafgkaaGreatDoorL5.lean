/- Plain: the sums that the loops of the law of counts keep. Walks: the law RowCounts. -/
import Derived.Test.YtidkpalckafgkaaGreatDoorM7
import Derived.Test.YtidkpalckafgkaaGreatDoorAL
namespace Go.Proofs.YtidkpalckafgkaaGreatDoor.Rw
open Go Tg Pk Ky Qy

theorem rsum_next (w : Int) (A : List Row) (k : Nat) (hk : k < A.length) : rsum w (A.take (k + 1)) = rsum w (A.take k) + (if A[k].win = w then A[k].n else 0) := by
  unfold rsum
  rw [List.take_succ_eq_append_getElem hk, List.filter_append, List.map_append, List.sum_append]
  by_cases h : A[k].win = w <;> simp [h]
theorem rcnt_next (w : Int) (A : List Row) (k : Nat) (hk : k < A.length) : rcnt w (A.take (k + 1)) = rcnt w (A.take k) + (if A[k].win = w then 1 else 0) := by
  unfold rcnt
  rw [List.take_succ_eq_append_getElem hk, List.filter_append, List.length_append]
  by_cases h : A[k].win = w <;> simp [h]
theorem rsum_zero (w : Int) (A : List Row) : rsum w (A.take 0) = 0 := by simp [rsum]
theorem rcnt_zero (w : Int) (A : List Row) : rcnt w (A.take 0) = 0 := by simp [rcnt]
theorem rsum_bound {A : List Row} (h : ∀ r ∈ A, 1 ≤ r.n ∧ r.n ≤ 1000000000) (w : Int) : ∀ k, k ≤ A.length → 0 ≤ rsum w (A.take k) ∧ rsum w (A.take k) ≤ 1000000000 * (k : Int)
  | 0, _ => by rw [rsum_zero]; simp
  | k + 1, hk => by
    have ih := rsum_bound h w k (by omega)
    have hx := h _ (List.getElem_mem (show k < A.length by omega))
    rw [rsum_next w A k (by omega)]
    split <;> omega
theorem rcnt_bound (w : Int) (A : List Row) (k : Nat) : rcnt w (A.take k) ≤ k := by
  unfold rcnt
  have h1 := List.length_filter_le (fun r : Row => decide (r.win = w)) (A.take k)
  have h2 := List.length_take_le k A
  omega
theorem sum_next (f : Row → Nat) (B : List Row) (k : Nat) (hk : k < B.length) : ((B.take (k + 1)).map f).sum = ((B.take k).map f).sum + f B[k] := by
  rw [List.take_succ_eq_append_getElem hk, List.map_append, List.sum_append]
  simp
theorem sum_bound {f : Row → Nat} {M : Nat} (h : ∀ r, f r ≤ M) (B : List Row) : ∀ k, k ≤ B.length → ((B.take k).map f).sum ≤ k * M
  | 0, _ => by simp
  | k + 1, hk => by
    have ih := sum_bound h B k (by omega)
    have hx := h B[k]
    rw [sum_next f B k (by omega), Nat.add_mul]
    omega
theorem rcnt_all_bound (A : List Row) (r : Row) : rcnt r.win A ≤ A.length := by
  unfold rcnt; exact List.length_filter_le _ _

end Go.Proofs.YtidkpalckafgkaaGreatDoor.Rw
namespace Go.Proofs.YtidkpalckafgkaaGreatDoor.Rw
open Go Go.RowKit Go.Sort Go.Lib Tg Pk Ky Qy

theorem noneQ (w : World) (a b c d : Value) (t : TypeId) : ∀ i, 4 ≤ i → (w.alloc (.cells #[a, b, c, d] t)).cell? ⟨w.heap.size, i, none⟩ = none := by
  intro i hi
  rw [cell_of_row _ w.heap.size i #[a, b, c, d] t (0, 0) (heap_alloc_new _ _)]
  exact Array.getElem?_eq_none (by simpa using hi)
theorem none_on {w w1 : World} {q0 : Nat} (h : ∀ i, 4 ≤ i → w.cell? ⟨q0, i, none⟩ = none) (hq : q0 < w.heap.size) (d : Below w.heap.size w w1) : ∀ i, 4 ≤ i → w1.cell? ⟨q0, i, none⟩ = none := fun i hi => by
  rw [d.cell (p := ⟨q0, i, none⟩) hq]; exact h i hi
theorem set_far {w : World} {q0 i b o : Nat} (u : Value) (hne : ¬ (b = q0 ∧ o = i)) : (w.setCell ⟨q0, i, none⟩ u).cell? ⟨b, o, none⟩ = w.cell? ⟨b, o, none⟩ := by
  rw [World.cell?_setCell_other _ _ _ _ (fun e => hne (by cases e; exact ⟨rfl, rfl⟩))]
/-- Rows do not lie in a query's box. -/
theorem rows_else {w : World} {q0 b o : Nat} {g : Int} {n : ByteArray} {a1 a2 : Option Addr} {n1 n2 c1 c2 : Nat} {A : List Row} (X : QX q0 g n (.slice a1 n1 c1) (.slice a2 n2 c2) w) (N : ∀ i, 4 ≤ i → w.cell? ⟨q0, i, none⟩ = none) (hL : RLies w b o A) (hne : A ≠ []) : b ≠ q0 := by
  intro e
  subst e
  obtain ⟨e0, e1, e2, _⟩ := r_at hL 0 (List.length_pos_iff.2 hne)
  obtain ⟨x0, x1, x2, x3⟩ := X
  simp only [Nat.zero_mul, Nat.add_zero] at e0 e1 e2
  match o with
  | 0 => rw [Nat.zero_add, x2] at e2; cases e2
  | 1 => rw [x1] at e0; cases e0
  | 2 => rw [x2] at e0; cases e0
  | 3 => rw [x3] at e0; cases e0
  | k + 4 => rw [N (k + 4) (by omega)] at e0; cases e0
theorem rrow_far {w : World} {q0 i : Nat} {g : Int} {n : ByteArray} {a1 a2 : Option Addr} {n1 n2 c1 c2 : Nat} {A : List Row} {v : Value} (u : Value) (X : QX q0 g n (.slice a1 n1 c1) (.slice a2 n2 c2) w) (N : ∀ i, 4 ≤ i → w.cell? ⟨q0, i, none⟩ = none) (h : RRow w v A) : RRow (w.setCell ⟨q0, i, none⟩ u) v A := by
  obtain ⟨a, c, hv, hc, hl⟩ := h
  refine ⟨a, c, hv, hc, fun hne => ?_⟩
  obtain ⟨b, o, ha, hb, hL⟩ := hl hne
  have hbq := rows_else X N hL hne
  refine ⟨b, o, ha, by simpa using hb, fun k hk j z hz => ?_⟩
  rw [set_far u (fun e => hbq e.1)]
  exact hL k hk j z hz
def few (l : List Item) (k : Nat) : Prop := ∀ i (hi : i < l.length), i < k → (l[i]).c.cnt ≤ 1000000
set_option maxRecDepth 100000 in
set_option maxHeartbeats 4000000 in
theorem counts_great (B : Nat) (v1 v2 : Value) (q : Query) (l : List Item) (w : World) (hE : Env w) (hF : St.Env B w) (h1 : QRow w v1 q) (h2 : IRow w v2 l) (z1 : q.2.1.size ≤ 281474976710656) (z2 : ∀ x ∈ q.2.2.1, x.2.1.size ≤ 281474976710656 ∧ x.2.2.size ≤ 281474976710656) (z3 : ∀ x ∈ q.2.2.2, x.size ≤ 281474976710656) (y1 : ∀ i ∈ l, i.key.size ≤ 281474976710656) (hg : greatQ q = true) :
    Calls Tryz.prog 8 #[v1, v2] w fun e w' => e = .returned (.bool true) ∧ Below w.heap.size w w' := by
  have HA := Lib.hid (fun W (d : Below w.heap.size w W) => alive_any B W (hE.go d) (hF.go d))
  have GQ := Lib.hid (fun W (d : Below w.heap.size w W) => qgreat_any v1 q W (h1.on d) z1 z2 z3)
  have GM := Lib.hid (fun W (d : Below w.heap.size w W) => muchI_any v2 l W (h2.on d) y1)
  rw [hg] at GQ
  obtain ⟨qa, qc, qb, qd, rfl, -, -⟩ := h1.open
  clear h1 z1 z2 z3 y1
  obtain ⟨ia, ic, rfl, hic, hil⟩ := h2
  have HIL := Lib.hid hil
  clear hil
  obtain ⟨g, n, m, by'⟩ := q
  simp only at *
  go_enter Tryz.func8, Tryz.ntmps8
  go_wp2_with fail
  have n0 := aBelow w (.cells #[.int .i64 g, .string n, .slice qa m.length qc, .slice qb by'.length qd] 39)
  have X0 : QX w.heap.size g n (.slice qa m.length qc) (.slice qb by'.length qd) (w.alloc (.cells #[.int .i64 g, .string n, .slice qa m.length qc, .slice qb by'.length qd] 39)) := by
    refine ⟨?_, ?_, ?_, ?_⟩ <;> simp
  generalize (w.alloc (.cells #[.int .i64 g, .string n, .slice qa m.length qc, .slice qb by'.length qd] 39)) = w0 at *
  refine (HA.out w0 n0).mono ?_
  rintro e w1 ⟨rfl, n1⟩
  have d1 := n0.trans (n1.mono n0.size)
  have X1 := X0.keep ((Keeps.refl w0).on n1)
  have XX := Lib.hid X1
  obtain ⟨z0, z1, z2, z3⟩ := X1
  clear n0 n1 X0 HA
  go_wp2_with fail
  refine (GQ.out w1 d1).mono ?_
  rintro e w2 ⟨rfl, n2⟩
  have d2 := d1.trans (n2.mono d1.size)
  have X2 := Lib.hid (XX.out.keep ((Keeps.refl w1).on n2))
  clear z0 z1 z2 z3 XX n2 d1 GQ
  go_wp2_with fail
  go_ret
  exact ⟨rfl, d2⟩
set_option maxRecDepth 100000 in
set_option maxHeartbeats 4000000 in
theorem counts_much (B : Nat) (v1 v2 : Value) (q : Query) (l : List Item) (w : World) (hE : Env w) (hF : St.Env B w) (h1 : QRow w v1 q) (h2 : IRow w v2 l) (z1 : q.2.1.size ≤ 281474976710656) (z2 : ∀ x ∈ q.2.2.1, x.2.1.size ≤ 281474976710656 ∧ x.2.2.size ≤ 281474976710656) (z3 : ∀ x ∈ q.2.2.2, x.size ≤ 281474976710656) (y1 : ∀ i ∈ l, i.key.size ≤ 281474976710656) (hg : greatQ q = false) (hu : muchI l = true) :
    Calls Tryz.prog 8 #[v1, v2] w fun e w' => e = .returned (.bool true) ∧ Below w.heap.size w w' := by
  have HA := Lib.hid (fun W (d : Below w.heap.size w W) => alive_any B W (hE.go d) (hF.go d))
  have GQ := Lib.hid (fun W (d : Below w.heap.size w W) => qgreat_any v1 q W (h1.on d) z1 z2 z3)
  have GM := Lib.hid (fun W (d : Below w.heap.size w W) => muchI_any v2 l W (h2.on d) y1)
  rw [hg] at GQ
  rw [hu] at GM
  obtain ⟨qa, qc, qb, qd, rfl, -, -⟩ := h1.open
  clear h1 z1 z2 z3 y1
  obtain ⟨ia, ic, rfl, hic, hil⟩ := h2
  have HIL := Lib.hid hil
  clear hil
  obtain ⟨g, n, m, by'⟩ := q
  simp only at *
  go_enter Tryz.func8, Tryz.ntmps8
  go_wp2_with fail
  have n0 := aBelow w (.cells #[.int .i64 g, .string n, .slice qa m.length qc, .slice qb by'.length qd] 39)
  have X0 : QX w.heap.size g n (.slice qa m.length qc) (.slice qb by'.length qd) (w.alloc (.cells #[.int .i64 g, .string n, .slice qa m.length qc, .slice qb by'.length qd] 39)) := by
    refine ⟨?_, ?_, ?_, ?_⟩ <;> simp
  generalize (w.alloc (.cells #[.int .i64 g, .string n, .slice qa m.length qc, .slice qb by'.length qd] 39)) = w0 at *
  refine (HA.out w0 n0).mono ?_
  rintro e w1 ⟨rfl, n1⟩
  have d1 := n0.trans (n1.mono n0.size)
  have X1 := X0.keep ((Keeps.refl w0).on n1)
  have XX := Lib.hid X1
  obtain ⟨z0, z1, z2, z3⟩ := X1
  clear n0 n1 X0 HA
  go_wp2_with fail
  refine (GQ.out w1 d1).mono ?_
  rintro e w2 ⟨rfl, n2⟩
  have d2 := d1.trans (n2.mono d1.size)
  have X2 := Lib.hid (XX.out.keep ((Keeps.refl w1).on n2))
  clear z0 z1 z2 z3 XX n2 d1 GQ
  go_wp2_with fail
  refine (GM.out w2 d2).mono ?_
  rintro e w3 ⟨rfl, rfl⟩
  clear GM
  go_wp2_with fail
  go_ret
  exact ⟨rfl, d2⟩
set_option maxRecDepth 100000 in
set_option maxHeartbeats 4000000 in
theorem counts_main (B : Nat) (v1 v2 : Value) (q : Query) (l : List Item) (w : World) (hE : Env w) (hF : St.Env B w) (h1 : QRow w v1 q) (h2 : IRow w v2 l) (z1 : q.2.1.size ≤ 281474976710656) (z2 : ∀ x ∈ q.2.2.1, x.2.1.size ≤ 281474976710656 ∧ x.2.2.size ≤ 281474976710656) (z3 : ∀ x ∈ q.2.2.2, x.size ≤ 281474976710656) (o1 : ∀ i ∈ l, okI i) (y1 : ∀ i ∈ l, i.key.size ≤ 281474976710656) (hg : greatQ q = false) (hu : muchI l = false) :
    Calls Tryz.prog 8 #[v1, v2] w fun e w' => e = .returned (.bool true) ∧ Below w.heap.size w w' := by
  have HA := Lib.hid (fun W (d : Below w.heap.size w W) => alive_any B W (hE.go d) (hF.go d))
  have GQ := Lib.hid (fun W (d : Below w.heap.size w W) => qgreat_any v1 q W (h1.on d) z1 z2 z3)
  have GM := Lib.hid (fun W (d : Below w.heap.size w W) => muchI_any v2 l W (h2.on d) y1)
  rw [hg] at GQ
  rw [hu] at GM
  obtain ⟨q1, q2, q3, q4, q5⟩ := greatQ_not hg
  obtain ⟨l1, l2⟩ := muchI_not hu
  have HO := Lib.hid o1
  have HK : Hid (∀ i ∈ l, i.key.size ≤ 900) := fun i hi => by have := l2 i hi; omega
  have Q3 : Hid (∀ x ∈ q.2.2.1, x.2.1.size ≤ 281474976710656 ∧ x.2.2.size ≤ 281474976710656) := z2
  have Q5 : Hid (∀ x ∈ q.2.2.2, x.size ≤ 281474976710656) := z3
  clear l2 hg hu q3 q5
  obtain ⟨qa, qc, qb, qd, rfl, rm, rb⟩ := h1.open
  have HM := Lib.hid rm
  have HB := Lib.hid rb
  clear rm rb
  clear h1 z1 z2 z3 o1 y1
  obtain ⟨ia, ic, rfl, hic, hil⟩ := h2
  have HIL := Lib.hid hil
  clear hil
  obtain ⟨g, n, m, by'⟩ := q
  simp only at *
  go_enter Tryz.func8, Tryz.ntmps8
  go_wp2_with fail
  have n0 := aBelow w (.cells #[.int .i64 g, .string n, .slice qa m.length qc, .slice qb by'.length qd] 39)
  have X0 : QX w.heap.size g n (.slice qa m.length qc) (.slice qb by'.length qd) (w.alloc (.cells #[.int .i64 g, .string n, .slice qa m.length qc, .slice qb by'.length qd] 39)) := by
    refine ⟨?_, ?_, ?_, ?_⟩ <;> simp
  have N0 := noneQ w (.int .i64 g) (.string n) (.slice qa m.length qc) (.slice qb by'.length qd) 39
  have F0 : (w.alloc (.cells #[.int .i64 g, .string n, .slice qa m.length qc, .slice qb by'.length qd] 39)).frozen? ⟨w.heap.size, 0, none⟩ = false ∧ (w.alloc (.cells #[.int .i64 g, .string n, .slice qa m.length qc, .slice qb by'.length qd] 39)).frozen? ⟨w.heap.size, 3, none⟩ = false := by
    refine ⟨?_, ?_⟩ <;> simp [go_sem]
  generalize (w.alloc (.cells #[.int .i64 g, .string n, .slice qa m.length qc, .slice qb by'.length qd] 39)) = w0 at *
  refine (HA.out w0 n0).mono ?_
  rintro e w1 ⟨rfl, n1⟩
  have F1 := And.intro (keepF' n1 F0.1 (World.block_lt_of_cell? _ _ X0.1)) (keepF' n1 F0.2 (World.block_lt_of_cell? _ _ X0.1))
  clear F0
  have N1 := none_on N0 (World.block_lt_of_cell? _ _ X0.1) n1
  clear N0
  have d1 := n0.trans (n1.mono n0.size)
  have X1 := X0.keep ((Keeps.refl w0).on n1)
  have XX := Lib.hid X1
  obtain ⟨z0, z1, z2, z3⟩ := X1
  clear n0 n1 X0 HA
  go_wp2_with fail
  refine (GQ.out w1 d1).mono ?_
  rintro e w2 ⟨rfl, n2⟩
  have F2 := Lib.hid (And.intro (keepF' n2 F1.1 (World.block_lt_of_cell? _ _ z0)) (keepF' n2 F1.2 (World.block_lt_of_cell? _ _ z0)))
  clear F1
  have N2 := Lib.hid (none_on N1 (World.block_lt_of_cell? _ _ z0) n2)
  clear N1
  have d2 := d1.trans (n2.mono d1.size)
  have X2 := Lib.hid (XX.out.keep ((Keeps.refl w1).on n2))
  clear z0 z1 z2 z3 XX n2 d1 GQ
  go_wp2_with fail
  refine (GM.out w2 d2).mono ?_
  rintro e w3 ⟨rfl, rfl⟩
  clear GM
  go_wp2_with fail
  have HIR : Hid (IRow w (.slice ia l.length ic) l) := ⟨_, ic, rfl, hic, HIL.out⟩
  go_loopw [5] (fun i wr => ∃ k nq : Nat, k ≤ l.length ∧ i = .int .i64 k ∧ wr = w3.drewN nq ∧ Hid (few l k)) (fun i _ => l.length - (intOf i).toNat)
  case atStart => exact ⟨0, 0, Nat.zero_le _, rfl, rfl, fun i _ h => absurd h (Nat.not_lt_zero _)⟩
  case round =>
    obtain ⟨k, nq, hk, rfl, rfl, HP⟩ := hrel
    by_cases hlt : k < l.length
    · obtain ⟨b, o, rfl, hb, hL⟩ := HIL.out (ne_of_lt hlt)
      obtain ⟨e0, e1, e2, e3, e4, e5, e6⟩ := i_at (hL.on hb d2) k hlt
      have i1 : (k : Int) < (l.length : Int) := by omega
      have i2 : (0 : Int) ≤ (k : Int) := by omega
      clear hL
      by_cases hc : 1000000 < (l[k]).c.cnt
      · generalize l[k] = z at *
        go_wp2_with fail
        go_ret
        exact ⟨rfl, below_drewN d2 nq⟩
      · have HP2 : Hid (few l (k + 1)) := fun i hi hlt2 => by
          rcases Nat.lt_or_ge i k with g1 | g1
          · exact HP.out i hi g1
          · have : i = k := by omega
            subst this
            omega
        generalize l[k] = z at *
        clear HP
        go_wp2_with fail
        exact ⟨⟨k + 1, _, by omega, by go_num, rfl, HP2⟩, by simp [intOf]; omega⟩
    · have HFW : Hid (∀ i ∈ l, i.c.cnt ≤ 1000000) := fun i hi => by
        obtain ⟨j, hj, rfl⟩ := List.getElem_of_mem hi
        exact HP.out j hj (by omega)
      clear HP HIL
      have d5 := below_drewN d2 nq
      have X5 : Hid (QX w.heap.size g n (.slice qa m.length qc) (.slice qb by'.length qd) (w3.drewN nq)) := X2.out
      have F5 : Hid ((w3.drewN nq).frozen? ⟨w.heap.size, 0, none⟩ = false ∧ (w3.drewN nq).frozen? ⟨w.heap.size, 3, none⟩ = false) := F2.out
      have N5 : Hid (∀ i, 4 ≤ i → (w3.drewN nq).cell? ⟨w.heap.size, i, none⟩ = none) := N2.out
      clear X2 d2 F2 N2
      generalize w3.drewN nq = w5 at *
      obtain ⟨A, hA⟩ : ∃ A, A = answer (1, n, m, by') l := ⟨_, rfl⟩
      obtain ⟨Bq, hBq⟩ : ∃ Bq, Bq = answer (1, n, m, []) l := ⟨_, rfl⟩
      obtain ⟨ct1, ct2, ct3⟩ := counts (g, n, m, by') l l1 HFW.out A Bq hA hBq
      have hAl : A.length ≤ 100 := by have := answer_len (1, n, m, by') l; rw [← hA] at this; omega
      have hBl : Bq.length ≤ 100 := by have := answer_len (1, n, m, []) l; rw [← hBq] at this; omega
      have HA1 := Lib.hid (fun W (d : Below w.heap.size w W) => answer_any _ _ (1, n, m, by') l W (hE.go d) (QRow.shut (HM.out.on d) (HB.out.on d)) (HIR.out.on d) (by show n.size ≤ _; omega) (by show m.length ≤ _; omega) Q3.out (by show by'.length ≤ _; omega) Q5.out (by omega) HK.out HO.out)
      have HA0 := Lib.hid (fun W (d : Below w.heap.size w W) => answer_any _ _ (1, n, m, []) l W (hE.go d) (QRow.shut (HM.out.on d) (Row.nil W)) (HIR.out.on d) (by show n.size ≤ _; omega) (by show m.length ≤ _; omega) Q3.out (Nat.zero_le _) (fun x hx => by cases hx) (by omega) HK.out HO.out)
      rw [← hA] at HA1
      rw [← hBq] at HA0
      have CT1 := Lib.hid ct1
      have CT2 := Lib.hid ct2
      have CT3 := Lib.hid ct3
      clear ct1 ct2 ct3 hA hBq HFW HM HB Q3 Q5 HK HO HIR
      obtain ⟨z0, z1, z2, z3⟩ := X5.out
      obtain ⟨f0, f3⟩ := F5.out
      have X6 : QX w.heap.size 1 n (.slice qa m.length qc) (.slice qb by'.length qd) (w5.setCell ⟨w.heap.size, 0, none⟩ (.int .i64 1)) := by
        refine ⟨?_, ?_, ?_, ?_⟩
        · exact World.cell?_setCell_same _ _ _ z0
        · rw [set_far _ (by omega)]; exact z1
        · rw [set_far _ (by omega)]; exact z2
        · rw [set_far _ (by omega)]; exact z3
      have F6 : (w5.setCell ⟨w.heap.size, 0, none⟩ (.int .i64 1)).frozen? ⟨w.heap.size, 3, none⟩ = false := by simp [go_sem]; exact f3
      have N6 : ∀ i, 4 ≤ i → (w5.setCell ⟨w.heap.size, 0, none⟩ (.int .i64 1)).cell? ⟨w.heap.size, i, none⟩ = none := fun i hi => by
        rw [set_far _ (by omega)]; exact N5.out i hi
      have d6 := d5.setCell (p := ⟨w.heap.size, 0, none⟩) (Nat.le_refl _) (.int .i64 1)
      clear X5 F5 N5 d5
      go_wp2_with fail
      clear z0 z1 z2 z3 f0 f3
      generalize w5.setCell ⟨w.heap.size, 0, none⟩ (.int .i64 1) = w6 at *
      refine (HA1.out _ d6).mono ?_
      rintro e w7 ⟨⟨va, rfl, ra⟩, n7⟩
      have hq6 := World.block_lt_of_cell? _ _ X6.1
      have X7 := X6.keep ((Keeps.refl w6).on n7)
      have F7 := keepF' n7 F6 hq6
      have N7 := none_on N6 hq6 n7
      have d7 := d6.trans (n7.mono d6.size)
      have RA8 := Lib.hid (rrow_far (i := 3) (.slice none 0 0) X7 N7 ra)
      obtain ⟨aa, ac, rfl, -, -⟩ := ra
      have d8 := d7.setCell (p := ⟨w.heap.size, 3, none⟩) (Nat.le_refl _) (.slice none 0 0)
      obtain ⟨z0, z1, z2, z3⟩ := X7
      clear X6 F6 N6 d6 n7 N7 HA1 d7
      go_wp2_with fail
      clear z0 z1 z2 z3 F7
      generalize w7.setCell ⟨w.heap.size, 3, none⟩ (.slice none 0 0) = w8 at *
      refine (HA0.out _ d8).mono ?_
      rintro e w9 ⟨⟨vb, rfl, rb⟩, n9⟩
      have RA := Lib.hid (RA8.out.on n9)
      have RB := Lib.hid rb
      obtain ⟨ba, bc, rfl, -, -⟩ := rb
      have d9 := d8.trans (n9.mono d8.size)
      clear RA8 d8 n9 HA0
      obtain ⟨ea, ec, hea, hAc, hlA⟩ := RA.out
      cases hea
      obtain ⟨eb, ed, heb, hBc, hlB⟩ := RB.out
      cases heb
      have HLA := Lib.hid hlA
      have HLB := Lib.hid hlB
      clear hlA hlB RA RB hic
      go_wp2_with fail
      go_loopw [8, 9] (fun nv iv wr => ∃ k nq : Nat, k ≤ Bq.length ∧ iv = .int .i64 k ∧ nv = .int .i64 (((Bq.take k).map fun b => rcnt b.win A).sum : Nat) ∧ wr = w9.drewN nq) (fun _ i _ => Bq.length - (intOf i).toNat)
      case atStart => exact ⟨0, 0, Nat.zero_le _, rfl, rfl, rfl⟩
      case round =>
        obtain ⟨k, nq, hk, rfl, rfl, rfl⟩ := hrel
        by_cases hlt : k < Bq.length
        · obtain ⟨bb0, ob, rfl, hbb, hLB⟩ := HLB.out (ne_of_lt hlt)
          have i1 : (k : Int) < (Bq.length : Int) := by omega
          have i2 : (0 : Int) ≤ (k : Int) := by omega
          have hN := Lib.hid (sum_next (fun b => rcnt b.win A) Bq k hlt)
          have hNb : ((Bq.take k).map fun b => rcnt b.win A).sum ≤ 10000 := by
            have := sum_bound (fun r => rcnt_all_bound A r) Bq k hk
            have h2 : k * A.length ≤ 100 * 100 := Nat.mul_le_mul (by omega) hAl
            omega
          have HC1 := Lib.hid (fun (h : A ≠ []) => CT1.out h _ (List.getElem_mem hlt))
          obtain ⟨e0, e1, e2, e3⟩ := r_at hLB k hlt
          generalize hNN : ((Bq.take k).map fun b => rcnt b.win A).sum = NN at *
          generalize Bq[k] = y at *
          clear hLB
          go_wp2_with fail
          go_loopw [8, 10, 11] (fun nv sv kv wr2 => ∃ j nq2 : Nat, j ≤ A.length ∧ kv = .int .i64 j ∧ nv = .int .i64 ((NN + rcnt y.win (A.take j) : Nat) : Int) ∧ sv = .int .i64 (rsum y.win (A.take j)) ∧ wr2 = w9.drewN nq2) (fun _ _ i _ => A.length - (intOf i).toNat)
          case atStart => exact ⟨0, _, Nat.zero_le _, rfl, by rw [rcnt_zero]; simp, by rw [rsum_zero], rfl⟩
          case round =>
            obtain ⟨j, nq2, hj, rfl, rfl, rfl, rfl⟩ := hrel
            have hrb := rsum_bound CT3.out y.win j hj
            have hcb := rcnt_bound y.win A j
            by_cases hjl : j < A.length
            · obtain ⟨ab0, oa, rfl, hab, hLA⟩ := HLA.out (ne_of_lt hjl)
              obtain ⟨f0, f1, f2, f3⟩ := r_at hLA j hjl
              have j1 : (j : Int) < (A.length : Int) := by omega
              have j2 : (0 : Int) ≤ (j : Int) := by omega
              have hS1 := Lib.hid (rsum_next y.win A j hjl)
              have hS2 := Lib.hid (rcnt_next y.win A j hjl)
              have hzb := CT3.out _ (List.getElem_mem hjl)
              generalize A[j] = z at *
              clear hLA
              generalize hs : rsum y.win (A.take j) = sv at *
              generalize hc : rcnt y.win (A.take j) = cv at *
              by_cases hw : z.win = y.win
              · have p1 : (z.win == y.win) = true := by simp [hw]
                have HS1 : Hid (rsum y.win (A.take (j + 1)) = sv + z.n) := by show _ = _; rw [hS1.out, if_pos hw]
                have HS2 : Hid (rcnt y.win (A.take (j + 1)) = cv + 1) := by show _ = _; rw [hS2.out, if_pos hw]
                have k1 : IntKind.i64.wrap (sv + z.n) = sv + z.n := by rw [IntKind.wrap_i64]; omega
                have k2 : IntKind.i64.wrap (((NN + cv : Nat) : Int) + 1) = ((NN + cv : Nat) : Int) + 1 := by rw [IntKind.wrap_i64]; omega
                clear hw hS1 hS2 hs hc hNN
                go_wp2_with fail
                go_quiet (fail)
                go_wp2_with fail
                exact ⟨⟨j + 1, _, by omega, by go_num, by rw [HS2.out]; congr 1, by rw [HS1.out], rfl⟩, by simp [intOf]; omega⟩
              · have p1 : (z.win == y.win) = false := by simp [hw]
                have HS1 : Hid (rsum y.win (A.take (j + 1)) = sv) := by show _ = _; rw [hS1.out, if_neg hw, Int.add_zero]
                have HS2 : Hid (rcnt y.win (A.take (j + 1)) = cv) := by show _ = _; rw [hS2.out, if_neg hw, Nat.add_zero]
                clear hw hS1 hS2 hs hc hNN
                go_wp2_with fail
                go_quiet (fail)
                go_wp2_with fail
                exact ⟨⟨j + 1, _, by omega, by go_num, by rw [HS2.out], by rw [HS1.out], rfl⟩, by simp [intOf]; omega⟩
            · have hjj : j = A.length := by omega
              have HTA : Hid (A.take j = A) := by show _ = _; rw [hjj, List.take_length]
              have HE : Hid (((Bq.take (k + 1)).map fun b => rcnt b.win A).sum = NN + rcnt y.win (A.take j)) := by show _ = _; rw [HTA.out, hN.out]
              by_cases hA0 : A = []
              · have g1 : ¬ 0 < A.length := by rw [hA0]; simp
                have g2 : decide (0 < A.length) = false := decide_eq_false g1
                clear hjj hA0 HC1 HTA g1 hNN
                go_wp2_with fail
                exact ⟨⟨k + 1, _, by omega, by go_num, by rw [HE.out], rfl⟩, by simp [intOf]; omega⟩
              · obtain ⟨c1, c2, c3⟩ := HC1.out hA0
                have g1 : 0 < A.length := List.length_pos_iff.2 hA0
                have g2 : decide (0 < A.length) = true := decide_eq_true g1
                have c1' : rsum y.win (A.take j) = y.n := by rw [HTA.out]; exact c1
                have g3 : (y.n != y.n) = false := by simp
                have g4 : (y.n == y.n) = true := by simp
                rw [c2] at e3
                rw [c3] at e1
                clear hjj hA0 HC1 HTA c1 c2 c3 hrb
                rw [c1']
                clear c1' hNN
                go_wp2_with fail
                exact ⟨⟨k + 1, _, by omega, by go_num, by rw [HE.out], rfl⟩, by simp [intOf]; omega⟩
        · have hkk : k = Bq.length := by omega
          have HTB : Hid (((Bq.take k).map fun b => rcnt b.win A).sum = A.length) := by show _ = _; rw [hkk, List.take_length]; exact CT2.out
          rw [HTB.out]
          have g1 : ((A.length : Int) == (A.length : Int)) = true := by simp
          have dz := below_drewN d9 nq
          clear hkk
          go_wp2_with fail
          go_ret
          exact ⟨rfl, dz⟩
theorem counts_walk (B : Nat) (v1 v2 : Value) (q : Query) (l : List Item) (w : World) (hE : Env w) (hF : St.Env B w) (h1 : QRow w v1 q) (h2 : IRow w v2 l) (z1 : q.2.1.size ≤ 281474976710656) (z2 : ∀ x ∈ q.2.2.1, x.2.1.size ≤ 281474976710656 ∧ x.2.2.size ≤ 281474976710656) (z3 : ∀ x ∈ q.2.2.2, x.size ≤ 281474976710656) (o1 : ∀ i ∈ l, okI i) (y1 : ∀ i ∈ l, i.key.size ≤ 281474976710656) :
    Calls Tryz.prog 8 #[v1, v2] w fun e w' => e = .returned (.bool true) ∧ Below w.heap.size w w' := by
  cases hg : greatQ q
  · cases hu : muchI l
    · exact counts_main B v1 v2 q l w hE hF h1 h2 z1 z2 z3 o1 y1 hg hu
    · exact counts_much B v1 v2 q l w hE hF h1 h2 z1 z2 z3 y1 hg hu
  · exact counts_great B v1 v2 q l w hE hF h1 h2 z1 z2 z3 y1 hg

end Go.Proofs.YtidkpalckafgkaaGreatDoor.Rw
