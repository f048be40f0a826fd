/- Which items count: walks. -/
import Derived.Test.YtidkpalckafgkaaGreatDoorE2
namespace Go.Proofs.YtidkpalckafgkaaGreatDoor.Rw
open Go Go.RowKit Go.Sort Go.Lib Tg Pk Ky Qy

theorem asked_empty {q : Query} {i : Item} (h : i.c.cnt < 1) : asked q i = false := by
  unfold asked; rw [decide_eq_true h]; rfl
theorem asked_err {q : Query} {i : Item} (h : ¬ (kparse (kl i)).2 = 0) : asked q i = false := by
  unfold asked; rw [decide_eq_false h, Bool.and_false, Bool.false_and, Bool.false_and]
theorem asked_text {q : Query} {i : Item} (h : ¬ ktextL (kn (keyOf' i)) (keyOf' i).2 = kl i) : asked q i = false := by
  unfold asked; rw [decide_eq_false h, Bool.and_false, Bool.false_and]
theorem asked_fits {q : Query} {i : Item} (h1 : ¬ i.c.cnt < 1) (h2 : (kparse (kl i)).2 = 0) (h3 : ktextL (kn (keyOf' i)) (keyOf' i).2 = kl i) : asked q i = qfits q (keyOf' i) := by
  unfold asked; rw [decide_eq_false h1, decide_eq_true h2, decide_eq_true h3]; simp

/-- The boxes of what is asked, of the item and of the result. -/
def AX (b : Nat) (g : Int) (n : ByteArray) (m l : Value) (i1 : Int) (i2 : ByteArray) (c1 c2 : Int) (c3 : Bool) (c4 c5 : Int) (w : World) : Prop :=
  (w.cell? ⟨b, 0, none⟩ = some (.int .i64 g) ∧ w.cell? ⟨b, 1, none⟩ = some (.string n) ∧ w.cell? ⟨b, 2, none⟩ = some m ∧ w.cell? ⟨b, 3, none⟩ = some l) ∧
  (w.cell? ⟨b + 1, 0, none⟩ = some (.int .i64 i1) ∧ w.cell? ⟨b + 1, 1, none⟩ = some (.string i2) ∧ w.cell? ⟨b + 1, 2, none⟩ = some (.int .i64 c1) ∧ w.cell? ⟨b + 1, 3, none⟩ = some (.int .i64 c2) ∧ w.cell? ⟨b + 1, 4, none⟩ = some (.bool c3) ∧ w.cell? ⟨b + 1, 5, none⟩ = some (.int .i64 c4) ∧ w.cell? ⟨b + 1, 6, none⟩ = some (.int .i64 c5)) ∧
  (∀ j, w.cell? ⟨b + 1 + 1, j, none⟩ = (#[Value.string ⟨#[]⟩, Value.slice none 0 0] : Array Value)[j]?) ∧ (w.frozen? ⟨b + 1 + 1, 0, none⟩ = false ∧ w.frozen? ⟨b + 1 + 1, 1, none⟩ = false)
theorem keepF2 {W w2 : World} {b off : Nat} (hb : Below W.heap.size W w2) (h : W.frozen? ⟨b, off, none⟩ = false) (hB : b < W.heap.size) : w2.frozen? ⟨b, off, none⟩ = false := by
  rw [hb.frozen (p := ⟨b, off, none⟩) hB]; exact h
theorem AX.on {b : Nat} {g : Int} {n : ByteArray} {m l : Value} {i1 : Int} {i2 : ByteArray} {c1 c2 : Int} {c3 : Bool} {c4 c5 : Int} {w w1 : World} (h : AX b g n m l i1 i2 c1 c2 c3 c4 c5 w) (d : Below w.heap.size w w1) : AX b g n m l i1 i2 c1 c2 c3 c4 c5 w1 := by
  obtain ⟨⟨q0, q1, q2, q3⟩, ⟨t0, t1, t2, t3, t4, t5, t6⟩, rr, f0, f1⟩ := h
  have z0 := World.block_lt_of_cell? _ _ q0
  have z1 := World.block_lt_of_cell? _ _ t0
  have z2 : b + 1 + 1 < w.heap.size := World.block_lt_of_cell? _ _ (rr 0)
  exact ⟨⟨keepC d q0 z0, keepC d q1 z0, keepC d q2 z0, keepC d q3 z0⟩, ⟨keepC d t0 z1, keepC d t1 z1, keepC d t2 z1, keepC d t3 z1, keepC d t4 z1, keepC d t5 z1, keepC d t6 z1⟩, fun j => keepC d (rr j) z2, keepF2 d f0 z2, keepF2 d f1 z2⟩
theorem AX.new (w : World) (g : Int) (n : ByteArray) (m l : Value) (i1 : Int) (i2 : ByteArray) (c1 c2 : Int) (c3 : Bool) (c4 c5 : Int) : AX w.heap.size g n m l i1 i2 c1 c2 c3 c4 c5 (((w.alloc (.cells #[.int .i64 g, .string n, m, l] 39)).alloc (.cells #[.int .i64 i1, .string i2, .int .i64 c1, .int .i64 c2, .bool c3, .int .i64 c4, .int .i64 c5] 50)).alloc (.cells #[.string ⟨#[]⟩, .slice none 0 0] 78)) := by
  have hz : ((w.alloc (.cells #[.int .i64 g, .string n, m, l] 39)).alloc (.cells #[.int .i64 i1, .string i2, .int .i64 c1, .int .i64 c2, .bool c3, .int .i64 c4, .int .i64 c5] 50)).heap.size = w.heap.size + 1 + 1 := by simp
  refine ⟨⟨?_, ?_, ?_, ?_⟩, ⟨?_, ?_, ?_, ?_, ?_, ?_, ?_⟩, fun j => ?_, ?_, ?_⟩
  rotate_left 11
  · rw [← hz]; exact cell_of_row _ _ j _ 78 (0, 0) (heap_alloc_new _ _)
  all_goals simp [go_sem]
theorem below3 (w : World) (o1 o2 o3 : Obj) : Below w.heap.size w (((w.alloc o1).alloc o2).alloc o3) := belowA2 (aBelow _ _)

set_option maxRecDepth 100000 in
set_option maxHeartbeats 2000000 in
theorem askedOf_t1 (qa : Option Addr) (qc : Nat) (qb : Option Addr) (qd : Nat) (q : Query) (i1 : Int) (i2 : ByteArray) (c1 c2 : Int) (c3 : Bool) (c4 c5 : Int) (w : World) (h : c1 < 1) :
    Calls Tryz.prog 85 #[.agg #[.int .i64 q.1, .string q.2.1, .slice qa q.2.2.1.length qc, .slice qb q.2.2.2.length qd], .agg #[.int .i64 i1, .string i2, .int .i64 c1, .int .i64 c2, .bool c3, .int .i64 c4, .int .i64 c5]] w fun e w' => e = .returned (.tuple #[.agg #[.string ⟨#[]⟩, .slice none 0 0], .bool false]) ∧ Below w.heap.size w w' := by
  obtain ⟨g, n, m, l⟩ := q
  simp only at *
  have HX := fun W => Ce.empty_t ⟨c1, c2, c3, c4, c5⟩ W h
  go_enter Tryz.func85, Tryz.ntmps85
  go_wp2_with fail
  have n0 := below3 w (.cells #[.int .i64 g, .string n, .slice qa m.length qc, .slice qb l.length qd] 39) (.cells #[.int .i64 i1, .string i2, .int .i64 c1, .int .i64 c2, .bool c3, .int .i64 c4, .int .i64 c5] 50) (.cells #[.string ⟨#[]⟩, .slice none 0 0] 78)
  have X := AX.new w g n (.slice qa m.length qc) (.slice qb l.length qd) i1 i2 c1 c2 c3 c4 c5
  generalize ((w.alloc (.cells #[.int .i64 g, .string n, .slice qa m.length qc, .slice qb l.length qd] 39)).alloc (.cells #[.int .i64 i1, .string i2, .int .i64 c1, .int .i64 c2, .bool c3, .int .i64 c4, .int .i64 c5] 50)).alloc (.cells #[.string ⟨#[]⟩, .slice none 0 0] 78) = w1 at *
  refine (HX w1).mono ?_
  rintro e w2 ⟨rfl, hw2⟩
  have n2 : Below w1.heap.size w1 w2 := by rw [hw2]; exact aBelow _ _
  clear hw2
  have X := X.on n2
  have d := n0.trans (n2.mono n0.size)
  clear n0 n2 HX
  obtain ⟨⟨q0, q1, q2, q3⟩, ⟨t0, t1, t2, t3, t4, t5, t6⟩, rr, f0, f1⟩ := id X
  have r0 := rr 0
  have r1 := rr 1
  go_wp2_with fail
  refine bodyPost_ret (v := .tuple #[.agg #[.string ⟨#[]⟩, .slice none 0 0], .bool false]) (by simp [results, Tryz.results85, go_sem, r0, r1]) rfl ⟨rfl, ?_⟩
  exact (d.setCell (by simp; omega) _).setCell (by simp; omega) _


def AS (qb0 ib0 kb0 : Nat) (g : Int) (n : ByteArray) (vm vl : Value) (i2 k1 : ByteArray) (vk : Value) (w w' : World) : Prop := w'.cell? ⟨qb0, 0, none⟩ = some (.int .i64 g) ∧ w'.cell? ⟨qb0, 1, none⟩ = some (.string n) ∧ w'.cell? ⟨qb0, 2, none⟩ = some vm ∧ w'.cell? ⟨qb0, 3, none⟩ = some vl ∧ w'.cell? ⟨ib0, 1, none⟩ = some (.string i2) ∧ w'.cell? ⟨kb0, 0, none⟩ = some (.string k1) ∧ w'.cell? ⟨kb0, 1, none⟩ = some vk ∧ Below qb0 w w'
theorem AS.on {qb0 ib0 kb0 : Nat} {g : Int} {n : ByteArray} {vm vl : Value} {i2 k1 : ByteArray} {vk : Value} {w w1 w2 : World} (h : AS qb0 ib0 kb0 g n vm vl i2 k1 vk w w1) (d : Below w1.heap.size w1 w2) : AS qb0 ib0 kb0 g n vm vl i2 k1 vk w w2 := by
  obtain ⟨h0, h1, h2, h3, h4, h5, h6, h7⟩ := h
  have z0 := World.block_lt_of_cell? _ _ h0
  have z1 := World.block_lt_of_cell? _ _ h4
  have z2 := World.block_lt_of_cell? _ _ h5
  exact ⟨keepC d h0 z0, keepC d h1 z0, keepC d h2 z0, keepC d h3 z0, keepC d h4 z1, keepC d h5 z2, keepC d h6 z2, h7.trans (d.mono (Nat.le_of_lt z0))⟩

theorem key_small {s : List UInt8} (h : (kparse s).2 = 0) : (kparse s).1.2.length ≤ 1000 ∧ (∀ x ∈ (kparse s).1.2, x.1.size ≤ 100000 ∧ x.2.size ≤ 100000) ∧ (kparse s).1.1.size ≤ 100000 ∧ (textB (kparse s).1.2).size ≤ 100000000 := by
  have hr := kparse_ok h
  unfold kright at hr
  simp only [Bool.and_eq_true] at hr
  obtain ⟨h1, h2⟩ := right_small hr.2
  have h3 := text_size (kparse s).1.2 25 (fun t ht => by have := h2 t ht; omega)
  have h4 : (kparse s).1.1.size ≤ 12 := by
    have := hr.1
    unfold Word.name Word.fits kn at this
    simp only [Bool.and_eq_true, decide_eq_true_eq] at this
    have e : (kparse s).1.1.data.toList.length = (kparse s).1.1.size := by rw [Array.length_toList]; rfl
    omega
  have : (kparse s).1.2.length * (25 + 1) ≤ 4 * 26 := Nat.mul_le_mul h1 (Nat.le_refl _)
  exact ⟨by omega, fun x hx => by have := h2 x hx; omega, by omega, by omega⟩

set_option maxRecDepth 100000 in
set_option maxHeartbeats 4000000 in
theorem askedOf_t2 (qa : Option Addr) (qc : Nat) (qb : Option Addr) (qd : Nat) (q : Query) (i1 : Int) (i2 : ByteArray) (c1 c2 : Int) (c3 : Bool) (c4 c5 : Int) (w : World) (h : 1 ≤ c1) (hE : Env w) (hQ : QRow w (.agg #[.int .i64 q.1, .string q.2.1, .slice qa q.2.2.1.length qc, .slice qb q.2.2.2.length qd]) q) (hm : q.2.2.1.length ≤ 1000000) (hs : i2.size ≤ 900) (he : ¬ (kparse i2.data.toList).2 = 0) :
    Calls Tryz.prog 85 #[.agg #[.int .i64 q.1, .string q.2.1, .slice qa q.2.2.1.length qc, .slice qb q.2.2.2.length qd], .agg #[.int .i64 i1, .string i2, .int .i64 c1, .int .i64 c2, .bool c3, .int .i64 c4, .int .i64 c5]] w fun e w' => e = .returned (.tuple #[.agg #[.string ⟨#[]⟩, .slice none 0 0], .bool false]) ∧ Below w.heap.size w w' := by
  have HX := fun W => Ce.empty_f ⟨c1, c2, c3, c4, c5⟩ W h
  have HK := fun W (hW : Env W) => kparse_any i2 W hW hs
  generalize hKP : kparse i2.data.toList = R at *
  clear hKP
  obtain ⟨⟨k1, k2⟩, E⟩ := R
  have z1 : (E != 0) = true := by simp; exact he
  have z2 : (E == 0) = false := by simp; exact he
  obtain ⟨g, n, m, l⟩ := q
  simp only at *
  have HE := Lib.hid hE
  clear hE hQ
  go_enter Tryz.func85, Tryz.ntmps85
  go_wp2_with fail
  have n0 := below3 w (.cells #[.int .i64 g, .string n, .slice qa m.length qc, .slice qb l.length qd] 39) (.cells #[.int .i64 i1, .string i2, .int .i64 c1, .int .i64 c2, .bool c3, .int .i64 c4, .int .i64 c5] 50) (.cells #[.string ⟨#[]⟩, .slice none 0 0] 78)
  have X := AX.new w g n (.slice qa m.length qc) (.slice qb l.length qd) i1 i2 c1 c2 c3 c4 c5
  generalize ((w.alloc (.cells #[.int .i64 g, .string n, .slice qa m.length qc, .slice qb l.length qd] 39)).alloc (.cells #[.int .i64 i1, .string i2, .int .i64 c1, .int .i64 c2, .bool c3, .int .i64 c4, .int .i64 c5] 50)).alloc (.cells #[.string ⟨#[]⟩, .slice none 0 0] 78) = w1 at *
  refine (HX w1).mono ?_
  rintro e w2 ⟨rfl, hw2⟩
  have n2 : Below w1.heap.size w1 w2 := by rw [hw2]; exact aBelow _ _
  clear hw2
  have X := X.on n2
  have d := n0.trans (n2.mono n0.size)
  clear n0 n2 HX
  obtain ⟨⟨q0, q1, q2, q3⟩, ⟨t0, t1, t2, t3, t4, t5, t6⟩, rr, f0, f1⟩ := id X
  have r0 := rr 0
  have r1 := rr 1
  go_wp2_with fail
  refine (HK _ (HE.out.go d)).mono ?_
  rintro e w3 ⟨⟨kv, rfl, hkv⟩, n3⟩
  obtain ⟨ka, kc, rfl, hkr⟩ := hkv.open
  have n4 := aBelow w3 (.cells #[.string k1, .slice ka k2.length kc] 78)
  have X := (X.on n3).on n4
  have d := (d.trans (n3.mono d.size)).trans (n4.mono (Nat.le_trans d.size n3.size))
  clear q0 q1 q2 q3 t0 t1 t2 t3 t4 t5 t6 r0 r1 rr f0 f1 n3 n4 HK hkv hkr
  obtain ⟨⟨q0, q1, q2, q3⟩, ⟨t0, t1, t2, t3, t4, t5, t6⟩, rr, f0, f1⟩ := id X
  have r0 := rr 0
  have r1 := rr 1
  go_wp2_with fail
  clear q0 q1 q2 q3 t0 t2 t3 t4 t5 t6
  go_quiet (fail)
  go_wp2_with fail
  refine bodyPost_ret (v := .tuple #[.agg #[.string ⟨#[]⟩, .slice none 0 0], .bool false]) (by simp [results, Tryz.results85, go_sem, r0, r1]) rfl ⟨rfl, ?_⟩
  refine ((below_drewN d _).setCell ?_ _).setCell ?_ _ <;> simp <;> omega

set_option maxRecDepth 100000 in
set_option maxHeartbeats 4000000 in
theorem askedOf_t3 (qa : Option Addr) (qc : Nat) (qb : Option Addr) (qd : Nat) (q : Query) (i1 : Int) (i2 : ByteArray) (c1 c2 : Int) (c3 : Bool) (c4 c5 : Int) (w : World) (h : 1 ≤ c1) (hE : Env w) (hQ : QRow w (.agg #[.int .i64 q.1, .string q.2.1, .slice qa q.2.2.1.length qc, .slice qb q.2.2.2.length qd]) q) (hm : q.2.2.1.length ≤ 1000000) (hs : i2.size ≤ 900) (he : (kparse i2.data.toList).2 = 0) (ht : eqB (ktextB (kparse i2.data.toList).1) i2 = false) :
    Calls Tryz.prog 85 #[.agg #[.int .i64 q.1, .string q.2.1, .slice qa q.2.2.1.length qc, .slice qb q.2.2.2.length qd], .agg #[.int .i64 i1, .string i2, .int .i64 c1, .int .i64 c2, .bool c3, .int .i64 c4, .int .i64 c5]] w fun e w' => e = .returned (.tuple #[.agg #[.string ⟨#[]⟩, .slice none 0 0], .bool false]) ∧ Below w.heap.size w w' := by
  have HX := fun W => Ce.empty_f ⟨c1, c2, c3, c4, c5⟩ W h
  have HK := fun W (hW : Env W) => kparse_any i2 W hW hs
  have hkb := key_small he
  have HT := fun v W (hW : KRow W v (kparse i2.data.toList).1) => ktext_any v (kparse i2.data.toList).1 W hW hkb.1 hkb.2.1 hkb.2.2.1 hkb.2.2.2
  have HBq := beq_ba (ktextB (kparse i2.data.toList).1) i2
  generalize hKP : kparse i2.data.toList = R at *
  clear hKP hkb
  obtain ⟨⟨k1, k2⟩, E⟩ := R
  simp only at he
  subst he
  simp only at HT HBq ht
  generalize ktextB (k1, k2) = KT at *
  have zt := HBq.trans ht
  clear HBq ht
  obtain ⟨g, n, m, l⟩ := q
  simp only at *
  have HE := Lib.hid hE
  clear hE hQ
  have HT2 : Hid (∀ v W, KRow W v (k1, k2) → Calls Tryz.prog 128 #[v] W fun e w' => e = .returned (.string KT) ∧ Below W.heap.size W w') := HT
  clear HT
  go_enter Tryz.func85, Tryz.ntmps85
  go_wp2_with fail
  have n0 := below3 w (.cells #[.int .i64 g, .string n, .slice qa m.length qc, .slice qb l.length qd] 39) (.cells #[.int .i64 i1, .string i2, .int .i64 c1, .int .i64 c2, .bool c3, .int .i64 c4, .int .i64 c5] 50) (.cells #[.string ⟨#[]⟩, .slice none 0 0] 78)
  have X := AX.new w g n (.slice qa m.length qc) (.slice qb l.length qd) i1 i2 c1 c2 c3 c4 c5
  generalize ((w.alloc (.cells #[.int .i64 g, .string n, .slice qa m.length qc, .slice qb l.length qd] 39)).alloc (.cells #[.int .i64 i1, .string i2, .int .i64 c1, .int .i64 c2, .bool c3, .int .i64 c4, .int .i64 c5] 50)).alloc (.cells #[.string ⟨#[]⟩, .slice none 0 0] 78) = w1 at *
  refine (HX w1).mono ?_
  rintro e w2 ⟨rfl, hw2⟩
  have n2 : Below w1.heap.size w1 w2 := by rw [hw2]; exact aBelow _ _
  clear hw2
  have X := X.on n2
  have d := n0.trans (n2.mono n0.size)
  clear n0 n2 HX
  obtain ⟨⟨q0, q1, q2, q3⟩, ⟨t0, t1, t2, t3, t4, t5, t6⟩, rr, f0, f1⟩ := id X
  have r0 := rr 0
  have r1 := rr 1
  go_wp2_with fail
  refine (HK _ (HE.out.go d)).mono ?_
  rintro e w3 ⟨⟨kv, rfl, hkv⟩, n3⟩
  obtain ⟨ka, kc, rfl, hkr⟩ := hkv.open
  have n4 := aBelow w3 (.cells #[.string k1, .slice ka k2.length kc] 78)
  have X := (X.on n3).on n4
  have d := (d.trans (n3.mono d.size)).trans (n4.mono (Nat.le_trans d.size n3.size))
  have kb : (w3.alloc (.cells #[.string k1, .slice ka k2.length kc] 78)).cell? ⟨w3.heap.size, 0, none⟩ = some (.string k1) := by simp
  have kb1 : (w3.alloc (.cells #[.string k1, .slice ka k2.length kc] 78)).cell? ⟨w3.heap.size, 1, none⟩ = some (.slice ka k2.length kc) := by simp
  have HKR := Lib.hid (hkv.on n4.drew)
  clear q0 q1 q2 q3 t0 t1 t2 t3 t4 t5 t6 r0 r1 rr f0 f1 n3 n4 HK hkv hkr
  obtain ⟨⟨q0, q1, q2, q3⟩, ⟨t0, t1, t2, t3, t4, t5, t6⟩, rr, f0, f1⟩ := id X
  have r0 := rr 0
  have r1 := rr 1
  go_wp2_with fail
  have HS : Hid (AS w.heap.size (w.heap.size + 1) w3.heap.size g n (.slice qa m.length qc) (.slice qb l.length qd) i2 k1 (.slice ka k2.length kc) w (w3.alloc (.cells #[.string k1, .slice ka k2.length kc] 78)).drew) := ⟨q0, q1, q2, q3, t1, kb, kb1, d.drew⟩
  have HX0 := Lib.hid (X.on (Below.refl _ _).drew)
  clear q0 q1 q2 q3 t0 t1 t2 t3 t4 t5 t6 r0 r1 rr f0 f1 kb kb1 X d
  have hS := HS.out
  unfold AS at hS
  have hdr : (w3.alloc (.cells #[.string k1, .slice ka k2.length kc] 78)).drew.heap.size = (w3.alloc (.cells #[.string k1, .slice ka k2.length kc] 78)).heap.size := rfl
  generalize (w3.alloc (.cells #[.string k1, .slice ka k2.length kc] 78)) = wa at *
  generalize hkb0 : w3.heap.size = kb0 at *
  generalize hib0 : w.heap.size + 1 = ib0 at *
  generalize hqb0 : w.heap.size = qb0 at *
  obtain ⟨u0, u1, u2, u3, u4, u5, u6, u7⟩ := id hS
  go_region_with (first
    | (go_at_call 128; refine (HT2.out _ _ HKR.out).mono ?_; rintro e w5 ⟨rfl, n5⟩; have HS1 := Lib.hid (HS.out.on n5); have hS1 := HS1.out; unfold AS at hS1; have HX1 := Lib.hid (HX0.out.on n5); clear u0 u1 u2 u3 u4 u5 u6 u7; obtain ⟨u0, u1, u2, u3, u4, u5, u6, u7⟩ := id hS1)
    | fail)
  all_goals (
    have d := hS1.2.2.2.2.2.2.2
    subst hib0
    obtain ⟨⟨q0, q1, q2, q3⟩, ⟨t0, t1, t2, t3, t4, t5, t6⟩, rr, f0, f1⟩ := HX1.out
    have r0 := rr 0
    have r1 := rr 1
    go_wp2_with fail
    refine bodyPost_ret (v := .tuple #[.agg #[.string ⟨#[]⟩, .slice none 0 0], .bool false]) (by simp [results, Tryz.results85, go_sem, r0, r1]) rfl ⟨rfl, ?_⟩
    rw [hqb0]; refine (d.setCell ?_ _).setCell ?_ _ <;> simp <;> omega)

set_option maxRecDepth 100000 in
set_option maxHeartbeats 4000000 in
theorem askedOf_t4 (qa : Option Addr) (qc : Nat) (qb : Option Addr) (qd : Nat) (q : Query) (i1 : Int) (i2 : ByteArray) (c1 c2 : Int) (c3 : Bool) (c4 c5 : Int) (w : World) (h : 1 ≤ c1) (hE : Env w) (hQ : QRow w (.agg #[.int .i64 q.1, .string q.2.1, .slice qa q.2.2.1.length qc, .slice qb q.2.2.2.length qd]) q) (hm : q.2.2.1.length ≤ 1000000) (hs : i2.size ≤ 900) (he : (kparse i2.data.toList).2 = 0) (ht : eqB (ktextB (kparse i2.data.toList).1) i2 = true) (hf : qfits q (kparse i2.data.toList).1 = false) :
    Calls Tryz.prog 85 #[.agg #[.int .i64 q.1, .string q.2.1, .slice qa q.2.2.1.length qc, .slice qb q.2.2.2.length qd], .agg #[.int .i64 i1, .string i2, .int .i64 c1, .int .i64 c2, .bool c3, .int .i64 c4, .int .i64 c5]] w fun e w' => e = .returned (.tuple #[.agg #[.string ⟨#[]⟩, .slice none 0 0], .bool false]) ∧ Below w.heap.size w w' := by
  have HX := fun W => Ce.empty_f ⟨c1, c2, c3, c4, c5⟩ W h
  have HK := fun W (hW : Env W) => kparse_any i2 W hW hs
  have hkb := key_small he
  have HT := fun v W (hW : KRow W v (kparse i2.data.toList).1) => ktext_any v (kparse i2.data.toList).1 W hW hkb.1 hkb.2.1 hkb.2.2.1 hkb.2.2.2
  have HBq := beq_ba (ktextB (kparse i2.data.toList).1) i2
  have HG := fun v1 v2 W (h1 : QRow W v1 q) (h2 : KRow W v2 (kparse i2.data.toList).1) => qfits_any v1 v2 q (kparse i2.data.toList).1 W h1 h2 hm (by have := hkb.1; omega)
  generalize hKP : kparse i2.data.toList = R at *
  clear hKP hkb
  obtain ⟨⟨k1, k2⟩, E⟩ := R
  simp only at he
  subst he
  simp only at HT HBq ht
  generalize ktextB (k1, k2) = KT at *
  have zt := HBq.trans ht
  clear HBq ht
  simp only at HG hf
  rw [hf] at HG
  clear hf
  obtain ⟨g, n, m, l⟩ := q
  simp only at *
  have HE := Lib.hid hE
  have HQ := Lib.hid hQ
  clear hE hQ
  have HT2 : Hid (∀ v W, KRow W v (k1, k2) → Calls Tryz.prog 128 #[v] W fun e w' => e = .returned (.string KT) ∧ Below W.heap.size W w') := HT
  clear HT
  have HG2 : Hid (∀ v1 v2 W, QRow W v1 (g, n, m, l) → KRow W v2 (k1, k2) → Calls Tryz.prog 129 #[v1, v2] W fun e w' => e = .returned (.bool false) ∧ Below W.heap.size W w') := HG
  clear HG
  go_enter Tryz.func85, Tryz.ntmps85
  go_wp2_with fail
  have n0 := below3 w (.cells #[.int .i64 g, .string n, .slice qa m.length qc, .slice qb l.length qd] 39) (.cells #[.int .i64 i1, .string i2, .int .i64 c1, .int .i64 c2, .bool c3, .int .i64 c4, .int .i64 c5] 50) (.cells #[.string ⟨#[]⟩, .slice none 0 0] 78)
  have X := AX.new w g n (.slice qa m.length qc) (.slice qb l.length qd) i1 i2 c1 c2 c3 c4 c5
  generalize ((w.alloc (.cells #[.int .i64 g, .string n, .slice qa m.length qc, .slice qb l.length qd] 39)).alloc (.cells #[.int .i64 i1, .string i2, .int .i64 c1, .int .i64 c2, .bool c3, .int .i64 c4, .int .i64 c5] 50)).alloc (.cells #[.string ⟨#[]⟩, .slice none 0 0] 78) = w1 at *
  refine (HX w1).mono ?_
  rintro e w2 ⟨rfl, hw2⟩
  have n2 : Below w1.heap.size w1 w2 := by rw [hw2]; exact aBelow _ _
  clear hw2
  have X := X.on n2
  have d := n0.trans (n2.mono n0.size)
  clear n0 n2 HX
  obtain ⟨⟨q0, q1, q2, q3⟩, ⟨t0, t1, t2, t3, t4, t5, t6⟩, rr, f0, f1⟩ := id X
  have r0 := rr 0
  have r1 := rr 1
  go_wp2_with fail
  refine (HK _ (HE.out.go d)).mono ?_
  rintro e w3 ⟨⟨kv, rfl, hkv⟩, n3⟩
  obtain ⟨ka, kc, rfl, hkr⟩ := hkv.open
  have n4 := aBelow w3 (.cells #[.string k1, .slice ka k2.length kc] 78)
  have X := (X.on n3).on n4
  have d := (d.trans (n3.mono d.size)).trans (n4.mono (Nat.le_trans d.size n3.size))
  have kb : (w3.alloc (.cells #[.string k1, .slice ka k2.length kc] 78)).cell? ⟨w3.heap.size, 0, none⟩ = some (.string k1) := by simp
  have kb1 : (w3.alloc (.cells #[.string k1, .slice ka k2.length kc] 78)).cell? ⟨w3.heap.size, 1, none⟩ = some (.slice ka k2.length kc) := by simp
  have HKR := Lib.hid (hkv.on n4.drew)
  have HQR := Lib.hid (HQ.out.on d.drew)
  clear q0 q1 q2 q3 t0 t1 t2 t3 t4 t5 t6 r0 r1 rr f0 f1 n3 n4 HK hkv hkr
  obtain ⟨⟨q0, q1, q2, q3⟩, ⟨t0, t1, t2, t3, t4, t5, t6⟩, rr, f0, f1⟩ := id X
  have r0 := rr 0
  have r1 := rr 1
  go_wp2_with fail
  have HS : Hid (AS w.heap.size (w.heap.size + 1) w3.heap.size g n (.slice qa m.length qc) (.slice qb l.length qd) i2 k1 (.slice ka k2.length kc) w (w3.alloc (.cells #[.string k1, .slice ka k2.length kc] 78)).drew) := ⟨q0, q1, q2, q3, t1, kb, kb1, d.drew⟩
  have HX0 := Lib.hid (X.on (Below.refl _ _).drew)
  clear q0 q1 q2 q3 t0 t1 t2 t3 t4 t5 t6 r0 r1 rr f0 f1 kb kb1 X d
  have hS := HS.out
  unfold AS at hS
  have hdr : (w3.alloc (.cells #[.string k1, .slice ka k2.length kc] 78)).drew.heap.size = (w3.alloc (.cells #[.string k1, .slice ka k2.length kc] 78)).heap.size := rfl
  generalize (w3.alloc (.cells #[.string k1, .slice ka k2.length kc] 78)) = wa at *
  generalize hkb0 : w3.heap.size = kb0 at *
  generalize hib0 : w.heap.size + 1 = ib0 at *
  generalize hqb0 : w.heap.size = qb0 at *
  go_region_held3 (fun w' => w'.cell? ⟨qb0, 0, none⟩ = some (.int .i64 g) ∧ w'.cell? ⟨qb0, 1, none⟩ = some (.string n) ∧ w'.cell? ⟨qb0, 2, none⟩ = some (.slice qa m.length qc) ∧ w'.cell? ⟨qb0, 3, none⟩ = some (.slice qb l.length qd) ∧ w'.cell? ⟨ib0, 1, none⟩ = some (.string i2) ∧ w'.cell? ⟨kb0, 0, none⟩ = some (.string k1) ∧ w'.cell? ⟨kb0, 1, none⟩ = some (.slice ka k2.length kc) ∧ Below qb0 w w') (first | exact hS | exact hS1 | exact hS2) (first
    | (go_at_call 128; refine (HT2.out _ _ HKR.out).mono ?_; rintro e w5 ⟨rfl, n5⟩; have HS1 := Lib.hid (HS.out.on n5); have hS1 := HS1.out; unfold AS at hS1; have HKR1 := Lib.hid (HKR.out.on n5); have HQR1 := Lib.hid (HQR.out.on n5); have HX1 := Lib.hid (HX0.out.on n5))
    | (go_at_call 129; refine (HG2.out _ _ _ HQR1.out HKR1.out).mono ?_; rintro e w6 ⟨rfl, n6⟩; have HS2 := Lib.hid (HS1.out.on n6); have hS2 := HS2.out; unfold AS at hS2; have HKR2 := Lib.hid (HKR1.out.on n6); have HX2 := Lib.hid (HX1.out.on n6))
    | fail)
  have d := hS2.2.2.2.2.2.2.2
  subst hib0
  obtain ⟨⟨q0, q1, q2, q3⟩, ⟨t0, t1, t2, t3, t4, t5, t6⟩, rr, f0, f1⟩ := HX2.out
  have r0 := rr 0
  have r1 := rr 1
  go_wp2_with fail
  refine bodyPost_ret (v := .tuple #[.agg #[.string ⟨#[]⟩, .slice none 0 0], .bool false]) (by simp [results, Tryz.results85, go_sem, r0, r1]) rfl ⟨rfl, ?_⟩
  rw [hqb0]; refine (d.setCell ?_ _).setCell ?_ _ <;> simp <;> omega

set_option maxRecDepth 100000 in
set_option maxHeartbeats 4000000 in
theorem askedOf_t5 (qa : Option Addr) (qc : Nat) (qb : Option Addr) (qd : Nat) (q : Query) (i1 : Int) (i2 : ByteArray) (c1 c2 : Int) (c3 : Bool) (c4 c5 : Int) (w : World) (h : 1 ≤ c1) (hE : Env w) (hQ : QRow w (.agg #[.int .i64 q.1, .string q.2.1, .slice qa q.2.2.1.length qc, .slice qb q.2.2.2.length qd]) q) (hm : q.2.2.1.length ≤ 1000000) (hs : i2.size ≤ 900) (he : (kparse i2.data.toList).2 = 0) (ht : eqB (ktextB (kparse i2.data.toList).1) i2 = true) (hf : qfits q (kparse i2.data.toList).1 = true) :
    Calls Tryz.prog 85 #[.agg #[.int .i64 q.1, .string q.2.1, .slice qa q.2.2.1.length qc, .slice qb q.2.2.2.length qd], .agg #[.int .i64 i1, .string i2, .int .i64 c1, .int .i64 c2, .bool c3, .int .i64 c4, .int .i64 c5]] w fun e w' => (∃ kv, e = .returned (.tuple #[kv, .bool true]) ∧ KRow w' kv (kparse i2.data.toList).1) ∧ Below w.heap.size w w' := by
  have HX := fun W => Ce.empty_f ⟨c1, c2, c3, c4, c5⟩ W h
  have HK := fun W (hW : Env W) => kparse_any i2 W hW hs
  have hkb := key_small he
  have HT := fun v W (hW : KRow W v (kparse i2.data.toList).1) => ktext_any v (kparse i2.data.toList).1 W hW hkb.1 hkb.2.1 hkb.2.2.1 hkb.2.2.2
  have HBq := beq_ba (ktextB (kparse i2.data.toList).1) i2
  have HG := fun v1 v2 W (h1 : QRow W v1 q) (h2 : KRow W v2 (kparse i2.data.toList).1) => qfits_any v1 v2 q (kparse i2.data.toList).1 W h1 h2 hm (by have := hkb.1; omega)
  generalize hKP : kparse i2.data.toList = R at *
  clear hKP hkb
  obtain ⟨⟨k1, k2⟩, E⟩ := R
  simp only at he
  subst he
  simp only at HT HBq ht
  generalize ktextB (k1, k2) = KT at *
  have zt := HBq.trans ht
  clear HBq ht
  simp only at HG hf
  rw [hf] at HG
  clear hf
  obtain ⟨g, n, m, l⟩ := q
  simp only at *
  have HE := Lib.hid hE
  have HQ := Lib.hid hQ
  clear hE hQ
  have HT2 : Hid (∀ v W, KRow W v (k1, k2) → Calls Tryz.prog 128 #[v] W fun e w' => e = .returned (.string KT) ∧ Below W.heap.size W w') := HT
  clear HT
  have HG2 : Hid (∀ v1 v2 W, QRow W v1 (g, n, m, l) → KRow W v2 (k1, k2) → Calls Tryz.prog 129 #[v1, v2] W fun e w' => e = .returned (.bool true) ∧ Below W.heap.size W w') := HG
  clear HG
  go_enter Tryz.func85, Tryz.ntmps85
  go_wp2_with fail
  have n0 := below3 w (.cells #[.int .i64 g, .string n, .slice qa m.length qc, .slice qb l.length qd] 39) (.cells #[.int .i64 i1, .string i2, .int .i64 c1, .int .i64 c2, .bool c3, .int .i64 c4, .int .i64 c5] 50) (.cells #[.string ⟨#[]⟩, .slice none 0 0] 78)
  have X := AX.new w g n (.slice qa m.length qc) (.slice qb l.length qd) i1 i2 c1 c2 c3 c4 c5
  generalize ((w.alloc (.cells #[.int .i64 g, .string n, .slice qa m.length qc, .slice qb l.length qd] 39)).alloc (.cells #[.int .i64 i1, .string i2, .int .i64 c1, .int .i64 c2, .bool c3, .int .i64 c4, .int .i64 c5] 50)).alloc (.cells #[.string ⟨#[]⟩, .slice none 0 0] 78) = w1 at *
  refine (HX w1).mono ?_
  rintro e w2 ⟨rfl, hw2⟩
  have n2 : Below w1.heap.size w1 w2 := by rw [hw2]; exact aBelow _ _
  clear hw2
  have X := X.on n2
  have d := n0.trans (n2.mono n0.size)
  clear n0 n2 HX
  obtain ⟨⟨q0, q1, q2, q3⟩, ⟨t0, t1, t2, t3, t4, t5, t6⟩, rr, f0, f1⟩ := id X
  have r0 := rr 0
  have r1 := rr 1
  go_wp2_with fail
  refine (HK _ (HE.out.go d)).mono ?_
  rintro e w3 ⟨⟨kv, rfl, hkv⟩, n3⟩
  obtain ⟨ka, kc, rfl, hkr⟩ := hkv.open
  have n4 := aBelow w3 (.cells #[.string k1, .slice ka k2.length kc] 78)
  have X := (X.on n3).on n4
  have d := (d.trans (n3.mono d.size)).trans (n4.mono (Nat.le_trans d.size n3.size))
  have kb : (w3.alloc (.cells #[.string k1, .slice ka k2.length kc] 78)).cell? ⟨w3.heap.size, 0, none⟩ = some (.string k1) := by simp
  have kb1 : (w3.alloc (.cells #[.string k1, .slice ka k2.length kc] 78)).cell? ⟨w3.heap.size, 1, none⟩ = some (.slice ka k2.length kc) := by simp
  have HKR := Lib.hid (hkv.on n4.drew)
  have HQR := Lib.hid (HQ.out.on d.drew)
  clear q0 q1 q2 q3 t0 t1 t2 t3 t4 t5 t6 r0 r1 rr f0 f1 n3 n4 HK hkv hkr
  obtain ⟨⟨q0, q1, q2, q3⟩, ⟨t0, t1, t2, t3, t4, t5, t6⟩, rr, f0, f1⟩ := id X
  have r0 := rr 0
  have r1 := rr 1
  go_wp2_with fail
  have HS : Hid (AS w.heap.size (w.heap.size + 1) w3.heap.size g n (.slice qa m.length qc) (.slice qb l.length qd) i2 k1 (.slice ka k2.length kc) w (w3.alloc (.cells #[.string k1, .slice ka k2.length kc] 78)).drew) := ⟨q0, q1, q2, q3, t1, kb, kb1, d.drew⟩
  have HX0 := Lib.hid (X.on (Below.refl _ _).drew)
  clear q0 q1 q2 q3 t0 t1 t2 t3 t4 t5 t6 r0 r1 rr f0 f1 kb kb1 X d
  have hS := HS.out
  unfold AS at hS
  have hdr : (w3.alloc (.cells #[.string k1, .slice ka k2.length kc] 78)).drew.heap.size = (w3.alloc (.cells #[.string k1, .slice ka k2.length kc] 78)).heap.size := rfl
  generalize (w3.alloc (.cells #[.string k1, .slice ka k2.length kc] 78)) = wa at *
  generalize hkb0 : w3.heap.size = kb0 at *
  generalize hib0 : w.heap.size + 1 = ib0 at *
  generalize hqb0 : w.heap.size = qb0 at *
  go_region_held3 (fun w' => w'.cell? ⟨qb0, 0, none⟩ = some (.int .i64 g) ∧ w'.cell? ⟨qb0, 1, none⟩ = some (.string n) ∧ w'.cell? ⟨qb0, 2, none⟩ = some (.slice qa m.length qc) ∧ w'.cell? ⟨qb0, 3, none⟩ = some (.slice qb l.length qd) ∧ w'.cell? ⟨ib0, 1, none⟩ = some (.string i2) ∧ w'.cell? ⟨kb0, 0, none⟩ = some (.string k1) ∧ w'.cell? ⟨kb0, 1, none⟩ = some (.slice ka k2.length kc) ∧ Below qb0 w w') (first | exact hS | exact hS1 | exact hS2) (first
    | (go_at_call 128; refine (HT2.out _ _ HKR.out).mono ?_; rintro e w5 ⟨rfl, n5⟩; have HS1 := Lib.hid (HS.out.on n5); have hS1 := HS1.out; unfold AS at hS1; have HKR1 := Lib.hid (HKR.out.on n5); have HQR1 := Lib.hid (HQR.out.on n5); have HX1 := Lib.hid (HX0.out.on n5))
    | (go_at_call 129; refine (HG2.out _ _ _ HQR1.out HKR1.out).mono ?_; rintro e w6 ⟨rfl, n6⟩; have HS2 := Lib.hid (HS1.out.on n6); have hS2 := HS2.out; unfold AS at hS2; have HKR2 := Lib.hid (HKR1.out.on n6); have HX2 := Lib.hid (HX1.out.on n6))
    | fail)
  have d := hS2.2.2.2.2.2.2.2
  subst hib0
  obtain ⟨⟨q0, q1, q2, q3⟩, ⟨t0, t1, t2, t3, t4, t5, t6⟩, rr, f0, f1⟩ := HX2.out
  have r0 := rr 0
  have r1 := rr 1
  go_wp2_with fail
  refine bodyPost_ret (v := .tuple #[.agg #[.string k1, .slice ka k2.length kc], .bool true]) (by simp [results, Tryz.results85, go_sem, r0, r1]) rfl ⟨⟨_, rfl, ?_⟩, ?_⟩
  · obtain ⟨tk, htv, htr⟩ := HKR2.out
    simp only [Value.agg.injEq, Array.mk.injEq, List.cons.injEq, and_true, true_and] at htv
    subst htv
    exact ⟨_, rfl, row_set htr rr _ _⟩
  · rw [hqb0]; refine (d.setCell ?_ _).setCell ?_ _ <;> simp <;> omega

end Go.Proofs.YtidkpalckafgkaaGreatDoor.Rw
