/- Walks: the law RowOrder. -/
import Derived.Test.YtidkpalckafgkaaGreatDoorAL
namespace Go.Proofs.YtidkpalckafgkaaGreatDoor.Rw
open Go Go.RowKit Go.Sort Go.Lib Tg Pk Ky Qy

def sameP (a b : Item) : Bool := eqB a.key b.key && decide (a.win = b.win)
theorem sameP_true (a b : Item) : sameP a b = true ↔ a.key = b.key ∧ a.win = b.win := by
  unfold sameP; rw [Bool.and_eq_true, decide_eq_true_eq, eqB_true]
def apart (l : List Item) (k : Nat) : Prop := ∀ i j (hi : i < l.length) (hj : j < l.length), i < j → j < k → sameP l[i] l[j] = false
theorem apart_all {l : List Item} (h : apart l l.length) : l.Pairwise fun a b => ¬ (a.key = b.key ∧ a.win = b.win) := by
  rw [List.pairwise_iff_getElem]
  intro i j hi hj hij e
  have := h i j hi hj hij hj
  rw [(sameP_true _ _).2 e] at this
  cases this
theorem beq_eqB (a b : ByteArray) : (a.toList == b.toList) = eqB a b := by
  rw [Bool.eq_iff_iff, eqB_true, ByteArray.toList_eq, ByteArray.toList_eq, beq_iff_eq]
  exact ⟨fun h => bb_inj h, fun h => congrArg (fun z : ByteArray => z.data.toList) h⟩
theorem liesI_drop {w : World} {b o : Nat} {S : List Item} (h : ILies w b o S) (j : Nat) : ILies w b (o + j * 7) (S.drop j) := by
  intro i hi c u hu
  have hi' : j + i < S.length := by rw [List.length_drop] at hi; omega
  rw [List.getElem_drop] at hu
  have := h (j + i) hi' c u hu
  rw [Nat.add_mul, ← Nat.add_assoc] at this
  exact this
theorem liesG_take {w : World} {b o : Nat} {S : List Item} (h : ILies w b o S) (k : Nat) : ILies w b o (S.take k) := by
  intro i hi c u hu
  have hi' : i < S.length := by rw [List.length_take] at hi; omega
  rw [List.getElem_take] at hu
  exact h i hi' c u hu
theorem turn1 {w1 : World} {b o : Nat} {l : List Item} (hL : ILies w1 b o l) (hb : b < w1.heap.size) (k : Nat) (ob : Obj) : ∀ i u, (flatG itC (l.drop k))[i]? = some u → ((w1.alloc ob).drew).cell? ((⟨b, o + k * 7, none⟩ : Addr).add i) = some u := by
  intro i u hu
  rw [addr_add]
  show (w1.alloc ob).cell? _ = _
  rw [World.cell?_alloc_lt _ _ _ (show (⟨b, o + k * 7 + i, none⟩ : Addr).block < w1.heap.size from hb)]
  exact (liesI_drop hL k).flat itC_len (by decide) i u hu
theorem turn2 {w1 w2 : World} {b o : Nat} {l : List Item} {ob : Obj} {row : Option Nat} (hL : ILies w1 b o l) (hb : b < w1.heap.size) (hg : (w1.alloc ob).drew.grownBy w2 row) (hne : some b ≠ row) (k : Nat) : ∀ i u, (flatG itC (l.take k))[i]? = some u → w2.cell? ((⟨b, o, none⟩ : Addr).add i) = some u := by
  intro i u hu
  rw [addr_add]
  exact far1 hg hb hne ((liesG_take hL k).flat itC_len (by decide) i u hu)
theorem q4_on {q0 : Nat} {g : Int} {n : ByteArray} {vm vl : Value} {w w1 w2 : World} (h : w1.cell? ⟨q0, 0, none⟩ = some (.int .i64 g) ∧ w1.cell? ⟨q0, 1, none⟩ = some (.string n) ∧ w1.cell? ⟨q0, 2, none⟩ = some vm ∧ w1.cell? ⟨q0, 3, none⟩ = some vl ∧ Below w.heap.size w w1) (k : Below w1.heap.size w1 w2) : w2.cell? ⟨q0, 0, none⟩ = some (.int .i64 g) ∧ w2.cell? ⟨q0, 1, none⟩ = some (.string n) ∧ w2.cell? ⟨q0, 2, none⟩ = some vm ∧ w2.cell? ⟨q0, 3, none⟩ = some vl ∧ Below w.heap.size w w2 := by
  have e := (Keeps.refl w1).on k
  exact ⟨e.2 _ _ h.1, e.2 _ _ h.2.1, e.2 _ _ h.2.2.1, e.2 _ _ h.2.2.2.1, h.2.2.2.2.trans (k.mono h.2.2.2.2.size)⟩
theorem turned_perm (l : List Item) (j : Nat) : l.Perm (l.drop j ++ l.take j) := by
  have h := List.perm_append_comm (l₁ := l.take j) (l₂ := l.drop j)
  rwa [List.take_append_drop] at h

set_option maxRecDepth 100000 in
set_option maxHeartbeats 4000000 in
theorem order_great (B : Nat) (v1 v2 : Value) (q : Query) (l : List Item) (x : Int) (w : World) (hE : Env w) (hF : St.Env B w) (h1 : QRow w v1 q) (h2 : IRow w v2 l) (z1 : q.2.1.size ≤ 281474976710656) (z2 : ∀ x ∈ q.2.2.1, x.2.1.size ≤ 281474976710656 ∧ x.2.2.size ≤ 281474976710656) (z3 : ∀ x ∈ q.2.2.2, x.size ≤ 281474976710656) (y1 : ∀ i ∈ l, i.key.size ≤ 281474976710656) (hg : greatQ q = true) :
    Calls Tryz.prog 6 #[v1, v2, .int .u8 x] w fun e w' => e = .returned (.bool true) ∧ Below w.heap.size w w' := by
  have HA := Lib.hid (fun W (d : Below w.heap.size w W) => alive_any B W (hE.go d) (hF.go d))
  have GQ := Lib.hid (fun W (d : Below w.heap.size w W) => qgreat_any v1 q W (h1.on d) z1 z2 z3)
  have GM := Lib.hid (fun W (d : Below w.heap.size w W) => muchI_any v2 l W (h2.on d) y1)
  rw [hg] at GQ
  obtain ⟨qa, qc, qb, qd, rfl, -, -⟩ := h1.open
  clear h1 z1 z2 z3 y1
  obtain ⟨ia, ic, rfl, hic, hil⟩ := h2
  have HIL := Lib.hid hil
  clear hil
  obtain ⟨g, n, m, by'⟩ := q
  simp only at *
  go_enter Tryz.func6, Tryz.ntmps6
  go_wp2_with fail
  have n0 := aBelow w (.cells #[.int .i64 g, .string n, .slice qa m.length qc, .slice qb by'.length qd] 39)
  have X0 : QX w.heap.size g n (.slice qa m.length qc) (.slice qb by'.length qd) (w.alloc (.cells #[.int .i64 g, .string n, .slice qa m.length qc, .slice qb by'.length qd] 39)) := by
    refine ⟨?_, ?_, ?_, ?_⟩ <;> simp
  generalize (w.alloc (.cells #[.int .i64 g, .string n, .slice qa m.length qc, .slice qb by'.length qd] 39)) = w0 at *
  refine (HA.out w0 n0).mono ?_
  rintro e w1 ⟨rfl, n1⟩
  have d1 := n0.trans (n1.mono n0.size)
  have X1 := X0.keep ((Keeps.refl w0).on n1)
  have XX := Lib.hid X1
  obtain ⟨z0, z1, z2, z3⟩ := X1
  clear n0 n1 X0 HA
  go_wp2_with fail
  refine (GQ.out w1 d1).mono ?_
  rintro e w2 ⟨rfl, n2⟩
  have d2 := d1.trans (n2.mono d1.size)
  have X2 := Lib.hid (XX.out.keep ((Keeps.refl w1).on n2))
  clear z0 z1 z2 z3 XX n2 d1 GQ
  go_wp2_with fail
  go_ret
  exact ⟨rfl, d2⟩
set_option maxRecDepth 100000 in
set_option maxHeartbeats 4000000 in
theorem order_much (B : Nat) (v1 v2 : Value) (q : Query) (l : List Item) (x : Int) (w : World) (hE : Env w) (hF : St.Env B w) (h1 : QRow w v1 q) (h2 : IRow w v2 l) (z1 : q.2.1.size ≤ 281474976710656) (z2 : ∀ x ∈ q.2.2.1, x.2.1.size ≤ 281474976710656 ∧ x.2.2.size ≤ 281474976710656) (z3 : ∀ x ∈ q.2.2.2, x.size ≤ 281474976710656) (y1 : ∀ i ∈ l, i.key.size ≤ 281474976710656) (hg : greatQ q = false) (hu : muchI l = true) :
    Calls Tryz.prog 6 #[v1, v2, .int .u8 x] w fun e w' => e = .returned (.bool true) ∧ Below w.heap.size w w' := by
  have HA := Lib.hid (fun W (d : Below w.heap.size w W) => alive_any B W (hE.go d) (hF.go d))
  have GQ := Lib.hid (fun W (d : Below w.heap.size w W) => qgreat_any v1 q W (h1.on d) z1 z2 z3)
  have GM := Lib.hid (fun W (d : Below w.heap.size w W) => muchI_any v2 l W (h2.on d) y1)
  rw [hg] at GQ
  rw [hu] at GM
  obtain ⟨qa, qc, qb, qd, rfl, -, -⟩ := h1.open
  clear h1 z1 z2 z3 y1
  obtain ⟨ia, ic, rfl, hic, hil⟩ := h2
  have HIL := Lib.hid hil
  clear hil
  obtain ⟨g, n, m, by'⟩ := q
  simp only at *
  go_enter Tryz.func6, Tryz.ntmps6
  go_wp2_with fail
  have n0 := aBelow w (.cells #[.int .i64 g, .string n, .slice qa m.length qc, .slice qb by'.length qd] 39)
  have X0 : QX w.heap.size g n (.slice qa m.length qc) (.slice qb by'.length qd) (w.alloc (.cells #[.int .i64 g, .string n, .slice qa m.length qc, .slice qb by'.length qd] 39)) := by
    refine ⟨?_, ?_, ?_, ?_⟩ <;> simp
  generalize (w.alloc (.cells #[.int .i64 g, .string n, .slice qa m.length qc, .slice qb by'.length qd] 39)) = w0 at *
  refine (HA.out w0 n0).mono ?_
  rintro e w1 ⟨rfl, n1⟩
  have d1 := n0.trans (n1.mono n0.size)
  have X1 := X0.keep ((Keeps.refl w0).on n1)
  have XX := Lib.hid X1
  obtain ⟨z0, z1, z2, z3⟩ := X1
  clear n0 n1 X0 HA
  go_wp2_with fail
  refine (GQ.out w1 d1).mono ?_
  rintro e w2 ⟨rfl, n2⟩
  have d2 := d1.trans (n2.mono d1.size)
  have X2 := Lib.hid (XX.out.keep ((Keeps.refl w1).on n2))
  clear z0 z1 z2 z3 XX n2 d1 GQ
  go_wp2_with fail
  refine (GM.out w2 d2).mono ?_
  rintro e w3 ⟨rfl, rfl⟩
  clear GM
  go_wp2_with fail
  go_ret
  exact ⟨rfl, d2⟩
set_option maxRecDepth 100000 in
set_option maxHeartbeats 4000000 in
theorem order_none (B : Nat) (v1 v2 : Value) (q : Query) (l : List Item) (x : Int) (w : World) (hE : Env w) (hF : St.Env B w) (h1 : QRow w v1 q) (h2 : IRow w v2 l) (z1 : q.2.1.size ≤ 281474976710656) (z2 : ∀ x ∈ q.2.2.1, x.2.1.size ≤ 281474976710656 ∧ x.2.2.size ≤ 281474976710656) (z3 : ∀ x ∈ q.2.2.2, x.size ≤ 281474976710656) (y1 : ∀ i ∈ l, i.key.size ≤ 281474976710656) (hg : greatQ q = false) (hu : muchI l = false) (hl : l = []) :
    Calls Tryz.prog 6 #[v1, v2, .int .u8 x] w fun e w' => e = .returned (.bool true) ∧ Below w.heap.size w w' := by
  have HA := Lib.hid (fun W (d : Below w.heap.size w W) => alive_any B W (hE.go d) (hF.go d))
  have GQ := Lib.hid (fun W (d : Below w.heap.size w W) => qgreat_any v1 q W (h1.on d) z1 z2 z3)
  have GM := Lib.hid (fun W (d : Below w.heap.size w W) => muchI_any v2 l W (h2.on d) y1)
  rw [hg] at GQ
  rw [hu] at GM
  subst hl
  obtain ⟨qa, qc, qb, qd, rfl, -, -⟩ := h1.open
  clear h1 z1 z2 z3 y1
  obtain ⟨ia, ic, rfl, hic, hil⟩ := h2
  have HIL := Lib.hid hil
  clear hil
  obtain ⟨g, n, m, by'⟩ := q
  simp only at *
  go_enter Tryz.func6, Tryz.ntmps6
  go_wp2_with fail
  have n0 := aBelow w (.cells #[.int .i64 g, .string n, .slice qa m.length qc, .slice qb by'.length qd] 39)
  have X0 : QX w.heap.size g n (.slice qa m.length qc) (.slice qb by'.length qd) (w.alloc (.cells #[.int .i64 g, .string n, .slice qa m.length qc, .slice qb by'.length qd] 39)) := by
    refine ⟨?_, ?_, ?_, ?_⟩ <;> simp
  generalize (w.alloc (.cells #[.int .i64 g, .string n, .slice qa m.length qc, .slice qb by'.length qd] 39)) = w0 at *
  refine (HA.out w0 n0).mono ?_
  rintro e w1 ⟨rfl, n1⟩
  have d1 := n0.trans (n1.mono n0.size)
  have X1 := X0.keep ((Keeps.refl w0).on n1)
  have XX := Lib.hid X1
  obtain ⟨z0, z1, z2, z3⟩ := X1
  clear n0 n1 X0 HA
  go_wp2_with fail
  refine (GQ.out w1 d1).mono ?_
  rintro e w2 ⟨rfl, n2⟩
  have d2 := d1.trans (n2.mono d1.size)
  have X2 := Lib.hid (XX.out.keep ((Keeps.refl w1).on n2))
  clear z0 z1 z2 z3 XX n2 d1 GQ
  go_wp2_with fail
  refine (GM.out w2 d2).mono ?_
  rintro e w3 ⟨rfl, rfl⟩
  clear GM
  go_wp2_with fail
  go_ret
  exact ⟨rfl, d2⟩
set_option maxRecDepth 100000 in
set_option maxHeartbeats 4000000 in
theorem order_main (B : Nat) (v1 v2 : Value) (q : Query) (l : List Item) (x : Int) (w : World) (hE : Env w) (hF : St.Env B w) (h1 : QRow w v1 q) (h2 : IRow w v2 l) (z1 : q.2.1.size ≤ 281474976710656) (z2 : ∀ x ∈ q.2.2.1, x.2.1.size ≤ 281474976710656 ∧ x.2.2.size ≤ 281474976710656) (z3 : ∀ x ∈ q.2.2.2, x.size ≤ 281474976710656) (o1 : ∀ i ∈ l, okI i) (y1 : ∀ i ∈ l, i.key.size ≤ 281474976710656) (x0 : 0 ≤ x) (x1 : x ≤ 255) (hg : greatQ q = false) (hu : muchI l = false) (hl : l ≠ []) :
    Calls Tryz.prog 6 #[v1, v2, .int .u8 x] w fun e w' => e = .returned (.bool true) ∧ Below w.heap.size w w' := by
  have HA := Lib.hid (fun W (d : Below w.heap.size w W) => alive_any B W (hE.go d) (hF.go d))
  have GQ := Lib.hid (fun W (d : Below w.heap.size w W) => qgreat_any v1 q W (h1.on d) z1 z2 z3)
  have GM := Lib.hid (fun W (d : Below w.heap.size w W) => muchI_any v2 l W (h2.on d) y1)
  rw [hg] at GQ
  rw [hu] at GM
  obtain ⟨q1, q2, q3, q4, q5⟩ := greatQ_not hg
  obtain ⟨l1, l2⟩ := muchI_not hu
  have HAN := Lib.hid (fun W (d : Below w.heap.size w W) v L (hv : IRow W v L) (hL : L.length ≤ 1000) (hk : ∀ i ∈ L, i.key.size ≤ 900) (ho : ∀ i ∈ L, okI i) => answer_any v1 v q L W (hE.go d) (h1.on d) hv z1 (by omega) z2 (by omega) z3 hL hk ho)
  have hpos : 0 < l.length := List.length_pos_iff.2 hl
  have HO := Lib.hid o1
  have HK : Hid (∀ i ∈ l, i.key.size ≤ 900) := fun i hi => by have := l2 i hi; omega
  clear l2 q3 q5 hl hg hu
  obtain ⟨qa, qc, qb, qd, rfl, -, -⟩ := h1.open
  clear h1 z1 z2 z3 o1 y1
  obtain ⟨ia, ic, rfl, hic, hil⟩ := h2
  have HIL := Lib.hid hil
  clear hil
  obtain ⟨g, n, m, by'⟩ := q
  simp only at *
  go_enter Tryz.func6, Tryz.ntmps6
  go_wp2_with fail
  have n0 := aBelow w (.cells #[.int .i64 g, .string n, .slice qa m.length qc, .slice qb by'.length qd] 39)
  have X0 : QX w.heap.size g n (.slice qa m.length qc) (.slice qb by'.length qd) (w.alloc (.cells #[.int .i64 g, .string n, .slice qa m.length qc, .slice qb by'.length qd] 39)) := by
    refine ⟨?_, ?_, ?_, ?_⟩ <;> simp
  generalize (w.alloc (.cells #[.int .i64 g, .string n, .slice qa m.length qc, .slice qb by'.length qd] 39)) = w0 at *
  refine (HA.out w0 n0).mono ?_
  rintro e w1 ⟨rfl, n1⟩
  have d1 := n0.trans (n1.mono n0.size)
  have X1 := X0.keep ((Keeps.refl w0).on n1)
  have XX := Lib.hid X1
  obtain ⟨z0, z1, z2, z3⟩ := X1
  clear n0 n1 X0 HA
  go_wp2_with fail
  refine (GQ.out w1 d1).mono ?_
  rintro e w2 ⟨rfl, n2⟩
  have d2 := d1.trans (n2.mono d1.size)
  have X2 := Lib.hid (XX.out.keep ((Keeps.refl w1).on n2))
  clear z0 z1 z2 z3 XX n2 d1 GQ
  go_wp2_with fail
  refine (GM.out w2 d2).mono ?_
  rintro e w3 ⟨rfl, rfl⟩
  clear GM
  go_wp2_with fail
  have i0 : (0 : Int) < (l.length : Int) := by omega
  go_loopw [7] (fun i wr => ∃ k nq : Nat, k ≤ l.length ∧ i = .int .i64 k ∧ wr = w3.drewN nq ∧ Hid (apart l k)) (fun i _ => l.length - (intOf i).toNat)
  case atStart => exact ⟨0, 0, Nat.zero_le _, rfl, rfl, fun i j _ _ _ h => absurd h (Nat.not_lt_zero _)⟩
  case round =>
    obtain ⟨k, nq, hk, rfl, rfl, HP⟩ := hrel
    by_cases hlt : k < l.length
    · obtain ⟨b, o, rfl, hb, hL⟩ := HIL.out (ne_of_lt hlt)
      have HL2 := Lib.hid (hL.on hb d2)
      have i1 : (k : Int) < (l.length : Int) := by omega
      have i2 : (0 : Int) ≤ (k : Int) := by omega
      clear hL
      go_wp2_with fail
      go_loopw [8] (fun i wr2 => ∃ j nq2 : Nat, j ≤ k ∧ i = .int .i64 j ∧ wr2 = w3.drewN nq2 ∧ Hid (∀ i (h : i < l.length), i < j → sameP l[i] l[k] = false)) (fun i _ => k - (intOf i).toNat)
      case atStart => exact ⟨0, _, Nat.zero_le _, rfl, rfl, fun i _ h => absurd h (Nat.not_lt_zero _)⟩
      case round =>
        obtain ⟨j, nq2, hj, rfl, rfl, HJ⟩ := hrel
        by_cases hjl : j < k
        · have hjl2 : j < l.length := by omega
          obtain ⟨e0, e1, e2, e3, e4, e5, e6⟩ := i_at HL2.out k hlt
          obtain ⟨f0, f1, f2, f3, f4, f5, f6⟩ := i_at HL2.out j hjl2
          have j1 : (j : Int) < (k : Int) := by omega
          have j2 : (0 : Int) ≤ (j : Int) := by omega
          have j3 : (j : Int) < (l.length : Int) := by omega
          have HN : Hid (sameP l[j] l[k] = false → ∀ i (h : i < l.length), i < j + 1 → sameP l[i] l[k] = false) := fun hs i h hi => by
            rcases Nat.lt_or_ge i j with g1 | g1
            · exact HJ.out i h g1
            · have : i = j := by omega
              subst this
              exact hs
          have HJl := Lib.hid hjl
          clear HJ
          obtain ⟨p1, hp1⟩ : ∃ p, ((l[j]).key.toList == (l[k]).key.toList) = p := ⟨_, rfl⟩
          obtain ⟨p2, hp2⟩ : ∃ p, ((l[j]).win == (l[k]).win) = p := ⟨_, rfl⟩
          have hsp : sameP l[j] l[k] = (p1 && p2) := by
            unfold sameP
            rw [← hp1, ← hp2, beq_eqB]
            congr 1
          generalize l[j] = y at *
          generalize l[k] = z at *
          clear hjl
          cases p1
          · have HN2 := Lib.hid (HN.out (by rw [hsp]; rfl))
            clear hsp HN
            go_wp2_with fail
            go_quiet (fail)
            go_wp2_with fail
            exact ⟨⟨j + 1, _, by have := HJl.out; omega, by go_num, rfl, HN2⟩, by have := HJl.out; simp [intOf]; omega⟩
          · cases p2
            · have HN2 := Lib.hid (HN.out (by rw [hsp]; rfl))
              clear hsp HN
              go_wp2_with fail
              go_quiet (fail)
              go_wp2_with fail
              exact ⟨⟨j + 1, _, by have := HJl.out; omega, by go_num, rfl, HN2⟩, by have := HJl.out; simp [intOf]; omega⟩
            · clear hsp HN
              go_wp2_with fail
              go_quiet (fail)
              go_wp2_with fail
              go_ret
              exact ⟨rfl, below_drewN (below_drewN d2 _) _⟩
        · have hjk : j = k := by omega
          have HP2 : Hid (apart l (k + 1)) := fun ii jj hi hj2 hij hlt2 => by
            rcases Nat.lt_or_ge jj k with g1 | g1
            · exact HP.out ii jj hi hj2 hij g1
            · have : jj = k := by omega
              subst this
              exact HJ.out ii hi (by omega)
          clear HJ HP
          subst hjk
          go_wp2_with fail
          exact ⟨⟨j + 1, _, by omega, by go_num, rfl, HP2⟩, by simp [intOf]; omega⟩
    · have hkl : k = l.length := by omega
      subst hkl
      have HAP := Lib.hid (apart_all HP.out)
      clear HP hlt hk
      obtain ⟨b, o, rfl, hb, hL⟩ := HIL.out (ne_of_lt hpos)
      obtain ⟨k, hk⟩ : ∃ k, k = x.toNat % l.length := ⟨_, rfl⟩
      have hkl : k < l.length := by rw [hk]; exact Nat.mod_lt _ hpos
      have hkm : (x % (l.length : Int)) = (k : Int) := by
        rw [hk]
        have e : ((x.toNat : Nat) : Int) = x := Int.toNat_of_nonneg x0
        rw [Int.natCast_emod, e]
      have hkt : Int.tmod x (l.length : Int) = (k : Int) := by
        rw [Int.tmod_eq_emod_of_nonneg x0]
        exact hkm
      have i1 : (0 : Int) ≤ (k : Int) := by omega
      have i2 : (k : Int) ≤ (l.length : Int) := by omega
      have i3 : (k : Int) ≤ (ic : Int) := by omega
      have i4 : ¬ ic = k := by omega
      have i5 : ¬ l.length = 0 := by omega
      obtain ⟨j0, hi, hz0, hz1, hz2⟩ := info50
      have HI := Lib.hid (And.intro hi (And.intro hz0 (And.intro hz1 hz2)))
      have HIR : Hid (IRow w (.slice (some ⟨b, o, none⟩) l.length ic) l) := ⟨_, ic, rfl, hic, fun _ => ⟨b, o, rfl, hb, hL⟩⟩
      have hL5 : ILies (w3.drewN nq) b o l := hL.on hb (below_drewN d2 nq)
      have hb5 : b < (w3.drewN nq).heap.size := Nat.lt_of_lt_of_le hb d2.size
      have d5 := below_drewN d2 nq
      have X5 : Hid (QX w.heap.size g n (.slice qa m.length qc) (.slice qb by'.length qd) (w3.drewN nq)) := X2.out
      have HL5 := Lib.hid hL5
      clear hi hz0 hz1 hz2 hk hL hL5 HIL X2 d2
      generalize w3.drewN nq = w5 at *
      go_wp2_with fail
      go_region_held3 (fun _ => True) (trivial)
        (first
          | (refine step_append_own _ (by rfl) _ _ _ (by rfl) w5.heap.size 50 j0 _ 7 64 Tryz.underlying40 HI.out.1 HI.out.2.1 HI.out.2.2.1 HI.out.2.2.2 rfl (by omega) v6 (0 + (l.length - k)) ([] ++ flatG itC (l.drop k)) (by rfl) hown6 ⟨b, o, none⟩ k ic (flatG itC (l.take k)) (by rfl) (by rw [flatG_len itC_len, List.length_take]; omega) (turn2 HL5.out hb5 hgrow6 (by simp [Value.ownBlock]; omega) k) (flatG_cells1 itC_one _) (by unfold maxLen; omega) (by omega) (by have := hgrow6.size; simp at this ⊢; omega) ?_; intro v7 w7 hown7 hgrow7 hnil7)
          | (refine step_append_own _ (by rfl) _ _ _ (by rfl) w5.heap.size 50 j0 _ 7 64 Tryz.underlying40 HI.out.1 HI.out.2.1 HI.out.2.2.1 HI.out.2.2.2 rfl (by omega) (.slice (some ⟨w5.heap.size, 0, none⟩) 0 0) 0 [] (by rfl) (World.ownsRow_made w5 #[] 0 (Nat.le_refl _) (Nat.zero_le _) (by simp)) ⟨b, o + k * 7, none⟩ (l.length - k) (ic - k) (flatG itC (l.drop k)) (by rfl) (by rw [flatG_len itC_len, List.length_drop]) (turn1 HL5.out hb5 k _) (flatG_cells1 itC_one _) (by unfold maxLen; omega) (by omega) (by simp) ?_; intro v6 w6 hown6 hgrow6 hnil6)
          | fail)
      have q2 : Below w5.heap.size w5 w7 := by
        have q1 : Below w5.heap.size w5 w6 := (((Below.refl _ _).alloc (Nat.le_refl _) _).drew).grown hgrow6 (by simp) (fun k hk => by cases hk; exact Nat.le_refl _)
        exact q1.grown hgrow7 q1.size (fun k hk => (hown6.lt k hk).1)
      have d7 := d5.trans (q2.mono d5.size)
      have X7 := Lib.hid (X5.out.keep ((Keeps.refl w5).on q2))
      have hT : w7.ownsRow w5.heap.size 50 7 v7 (l.drop k ++ l.take k).length (flatG itC (l.drop k ++ l.take k)) := by
        rw [flatG_append, List.length_append, List.length_drop, List.length_take, Nat.min_eq_left (by omega)]
        rw [Nat.zero_add, List.nil_append] at hown7
        exact hown7
      have ht7 := Lib.hid (ownG_row itC_len hT)
      have HPm := turned_perm l k
      have HEQ := Lib.hid (answer_perm (g, n, m, by') HPm HAP.out)
      have hTl : (l.drop k ++ l.take k).length ≤ 1000 := by rw [← HPm.length_eq]; omega
      have HTK : Hid (∀ i ∈ l.drop k ++ l.take k, i.key.size ≤ 900) := fun i hi => HK.out i (HPm.mem_iff.2 hi)
      have HTO : Hid (∀ i ∈ l.drop k ++ l.take k, okI i) := fun i hi => HO.out i (HPm.mem_iff.2 hi)
      obtain ⟨ta, tc, hv7, _, _⟩ := ht7.out
      subst hv7
      have HAL := Lib.hid (answer_len (g, n, m, by') l)
      generalize l.drop k ++ l.take k = T at *
      clear hown6 hown7 hgrow6 hgrow7 hnil6 hnil7 hT HL5 hb5 d5 HI X5 q2 HPm HAP
      have HAT := Lib.hid (fun W (d : Below w.heap.size w W) v (hv : IRow W v T) => HAN.out W d v T hv hTl HTK.out HTO.out)
      simp only [← HEQ.out] at HAT
      have HAO := Lib.hid (fun W (d : Below w.heap.size w W) => HAN.out W d _ l (HIR.out.on d) (by omega) HK.out HO.out)
      have hS : w7.drew.cell? ⟨w.heap.size, 0, none⟩ = some (.int .i64 g) ∧ w7.drew.cell? ⟨w.heap.size, 1, none⟩ = some (.string n) ∧ w7.drew.cell? ⟨w.heap.size, 2, none⟩ = some (.slice qa m.length qc) ∧ w7.drew.cell? ⟨w.heap.size, 3, none⟩ = some (.slice qb by'.length qd) ∧ Below w7.heap.size w7 w7.drew := ⟨X7.out.1, X7.out.2.1, X7.out.2.2.1, X7.out.2.2.2, (Below.refl _ _).drew⟩
      have SM : Hid (∀ va vb W, RRow W va (answer (g, n, m, by') l) → RRow W vb (answer (g, n, m, by') l) → Calls Tryz.prog 18 #[va, vb] W fun e w' => e = .returned (.bool true) ∧ Below W.heap.size W w') := fun va vb W ha hb => by
        have := refSame_any va vb _ _ W ha hb (by have := HAL.out; omega)
        rw [(sameR_true _ _).2 rfl] at this
        exact this
      clear HAN HEQ HTK HTO HK HO HAL
      generalize answer (g, n, m, by') l = A at *
      go_wp2_with fail
      go_region_held3 (fun w' => w'.cell? ⟨w.heap.size, 0, none⟩ = some (.int .i64 g) ∧ w'.cell? ⟨w.heap.size, 1, none⟩ = some (.string n) ∧ w'.cell? ⟨w.heap.size, 2, none⟩ = some (.slice qa m.length qc) ∧ w'.cell? ⟨w.heap.size, 3, none⟩ = some (.slice qb by'.length qd) ∧ Below w7.heap.size w7 w') (first | assumption)
        (first
          | (go_at_call 18; refine (SM.out _ _ _ R8.out R9.out).mono ?_; rintro e wc ⟨rfl, nc⟩; have hSc := q4_on hSb nc)
          | (go_at_call 23; have R7 := R8; refine (HAT.out _ (d7.trans (hSa.2.2.2.2.mono d7.size)) _ (ht7.out.on hSa.2.2.2.2)).mono ?_; rintro e wb ⟨⟨vb, rfl, rb⟩, nb⟩; have hSb := q4_on hSa nb; have R9 := Lib.hid rb; have R8 := Lib.hid (R7.out.on nb))
          | (go_at_call 23; refine (HAO.out _ (d7.trans (hS.2.2.2.2.mono d7.size))).mono ?_; rintro e wa ⟨⟨va, rfl, ra⟩, na⟩; have hSa := q4_on hS na; have R8 := Lib.hid ra)
          | fail)
      have dz := d7.trans (hSc.2.2.2.2.mono d7.size)
      go_wp2_with fail
      go_ret
      exact ⟨rfl, dz⟩
theorem order_walk (B : Nat) (v1 v2 : Value) (q : Query) (l : List Item) (x : Int) (w : World) (hE : Env w) (hF : St.Env B w) (h1 : QRow w v1 q) (h2 : IRow w v2 l) (z1 : q.2.1.size ≤ 281474976710656) (z2 : ∀ x ∈ q.2.2.1, x.2.1.size ≤ 281474976710656 ∧ x.2.2.size ≤ 281474976710656) (z3 : ∀ x ∈ q.2.2.2, x.size ≤ 281474976710656) (o1 : ∀ i ∈ l, okI i) (y1 : ∀ i ∈ l, i.key.size ≤ 281474976710656) (x0 : 0 ≤ x) (x1 : x ≤ 255) :
    Calls Tryz.prog 6 #[v1, v2, .int .u8 x] w fun e w' => e = .returned (.bool true) ∧ Below w.heap.size w w' := by
  cases hg : greatQ q
  · cases hu : muchI l
    · by_cases hl : l = []
      · exact order_none B v1 v2 q l x w hE hF h1 h2 z1 z2 z3 y1 hg hu hl
      · exact order_main B v1 v2 q l x w hE hF h1 h2 z1 z2 z3 o1 y1 x0 x1 hg hu hl
    · exact order_much B v1 v2 q l x w hE hF h1 h2 z1 z2 z3 y1 hg hu
  · exact order_great B v1 v2 q l x w hE hF h1 h2 z1 z2 z3 y1 hg

end Go.Proofs.YtidkpalckafgkaaGreatDoor.Rw
