/- Carried over from earlier layers: walks and lemmas. -/
import Derived.Test.YtidkpalckafgkaaGreatDoorA7
import Derived.Lib.BufferOwn
namespace Go.Proofs.YtidkpalckafgkaaGreatDoor
open Go Go.RowKit Tg Pk Ky Qy
theorem Lies.far {w w1 : World} {b bw o : Nat} {l : List ByteArray} (h : Lies w bw o l) (hlt : bw < w.heap.size) (hne : bw ≠ b) (g : w.grownBy w1 (some b)) : Lies w1 bw o l := by
  intro j x hx
  rw [g.cell_far ⟨bw, o + j, none⟩ hlt (fun e => hne (Option.some.inj e))]
  exact h j x hx
end Go.Proofs.YtidkpalckafgkaaGreatDoor
namespace Go.Proofs.YtidkpalckafgkaaGreatDoor
open Go Go.RowKit Tg Pk Ky Qy
theorem Env.far {w w1 : World} {b : Nat} (h : Env w) (hb : 0 < b) (g : w.grownBy w1 (some b)) : Env w1 := by
  obtain ⟨m, hm⟩ := h
  refine ⟨m, ?_⟩
  rw [g.cell_far ⟨0, 0, none⟩ (World.block_lt_of_cell? _ _ hm) (fun e => by have : (0 : Nat) = b := Option.some.inj e; omega)]
  exact hm
/-- What is wrong with a name and matches. -/
def serE (y : List UInt8) : Int := match kcut y with | none => 2 | some p => if Word.name p.1 then (pparse p.2).2 else 2
theorem serE_none {y : List UInt8} (h : kcut y = none) : serE y = 2 := by unfold serE; rw [h]
theorem serE_form {y : List UInt8} {p : List UInt8 × List UInt8} (h : kcut y = some p) (hn : Word.name p.1 = false) : serE y = 2 := by unfold serE; rw [h]; simp [hn]
theorem serE_some {y : List UInt8} {p : List UInt8 × List UInt8} (h : kcut y = some p) (hn : Word.name p.1 = true) : serE y = (pparse p.2).2 := by unfold serE; rw [h]; simp [hn]
end Go.Proofs.YtidkpalckafgkaaGreatDoor
namespace Go.Proofs.YtidkpalckafgkaaGreatDoor
open Go Go.RowKit Tg Pk Ky Qy
open Go Go.RowKit Tg Pk Ky Qy
theorem partsQ_small (u : ByteArray) {M : Nat} (h : u.size ≤ M) : (partsQ u.data.toList).length ≤ M + 1 ∧ ∀ x ∈ partsQ u.data.toList, x.size ≤ M := by
  have hz := size_l u
  constructor
  · unfold partsQ
    rw [List.length_map]
    have := parts_many 44 u.data.toList
    omega
  · intro x hx
    unfold partsQ at hx
    obtain ⟨p, hp, rfl⟩ := List.mem_map.1 hx
    have := parts_small 44 _ p hp
    rw [← size_l, bb_list]
    omega
theorem Row.far {w w1 : World} {b bw c : Nat} {l : List ByteArray} (h : Lies w bw 0 l) (hc : l.length ≤ c) (hlt : bw < w.heap.size) (hne : bw ≠ b) (g : w.grownBy w1 (some b)) : Row w1 (.slice (some ⟨bw, 0, none⟩) l.length c) l :=
  ⟨_, c, rfl, hc, fun _ => ⟨bw, 0, rfl, Nat.lt_of_lt_of_le hlt g.size, h.far hlt hne g⟩⟩
/-- What is wrong with a query's words; no fault: 0. -/
theorem qread_series {x y : List UInt8} {B : List ByteArray} (ha : ¬ aggN x = 0) (h : ¬ serE y = 0) : qread x y B = (qnone, serE y) := by
  unfold qread
  rw [if_neg ha]
  cases hk : kcut y with
  | none => rw [serE_none hk]
  | some p =>
    simp only
    cases hp : Word.name p.1
    · rw [serE_form hk hp]; simp
    · rw [serE_some hk hp] at h ⊢
      simp [h]
theorem qread_by {x y : List UInt8} {B : List ByteArray} (ha : ¬ aggN x = 0) (h : serE y = 0) : ∃ p, kcut y = some p ∧ Word.name p.1 = true ∧ (pparse p.2).2 = 0 ∧ qread x y B = if byE B = 0 then ((aggN x, bb p.1, (pparse p.2).1, B), 0) else (qnone, byE B) := by
  cases hk : kcut y with
  | none => rw [serE_none hk] at h; cases h
  | some p =>
    refine ⟨p, rfl, ?_⟩
    cases hp : Word.name p.1
    · rw [serE_form hk hp] at h; cases h
    · rw [serE_some hk hp] at h
      refine ⟨rfl, h, ?_⟩
      unfold qread
      rw [if_neg ha, hk]
      simp only
      rw [if_pos hp, if_pos h]
theorem qread_agg {x y : List UInt8} {B : List ByteArray} (ha : aggN x = 0) : qread x y B = (qnone, 2) := by unfold qread; rw [if_pos ha]
def listsW (ws : List ByteArray) : List (List UInt8) := ws.map (·.data.toList)
/-- What is read of some words. -/
def QP (ws : List ByteArray) : Query × Int := qparseW (listsW ws)
theorem QP_two (x y : ByteArray) : QP [x, y] = qread x.data.toList y.data.toList [] := rfl
theorem QP_four (x y z u : ByteArray) : QP [x, y, z, u] = if eqB z ⟨#[98, 121]⟩ then qread x.data.toList y.data.toList (partsQ u.data.toList) else (qnone, 2) := by
  show (if z.data.toList = wby then _ else _) = _
  by_cases h : z.data.toList = wby
  · rw [if_pos h, if_pos]
    unfold eqB
    rw [beq_iff_eq]
    exact h
  · rw [if_neg h, if_neg]
    unfold eqB
    rw [beq_iff_eq]
    exact h
theorem QP_else {ws : List ByteArray} (h2 : ws.length ≠ 2) (h4 : ws.length ≠ 4) : QP ws = (qnone, 2) := by
  unfold QP qparseW listsW
  split
  · rename_i h
    have := congrArg List.length h
    simp at this
    exact absurd this h2
  · rename_i h
    have := congrArg List.length h
    simp at this
    exact absurd this h4
  · rfl
end Go.Proofs.YtidkpalckafgkaaGreatDoor
namespace Go.Proofs.YtidkpalckafgkaaGreatDoor
open Go Go.RowKit Tg Pk Ky Qy
theorem fieldsB_small (s : ByteArray) {M : Nat} (h : s.size ≤ M) : ∀ x ∈ fieldsB s, x.size ≤ M := by
  intro x hx
  unfold fieldsB at hx
  obtain ⟨p, hp, rfl⟩ := List.mem_map.1 hx
  have h1 := parts_small 32 _ p (List.mem_filter.1 hp).1
  have hz := size_l s
  rw [← size_l, ba_list]
  omega
theorem fieldsB_lists (s : ByteArray) : listsW (fieldsB s) = Word.fields s.data.toList := by
  unfold listsW fieldsB
  exact map_ba _
theorem QP_fields (s : ByteArray) : QP (fieldsB s) = qparse s.data.toList := by
  unfold QP qparse
  rw [fieldsB_lists]
/-- What is handed back does not lie in the box of the answer. -/
theorem rows_else {w : World} {b0 : Nat} (hc : ∀ i, w.cell? ⟨b0, i, none⟩ = (#[Value.int .i64 0, Value.string ⟨#[]⟩, Value.slice none 0 0, Value.slice none 0 0] : Array Value)[i]?) :
    (∀ {b' o : Nat} {M : List Match}, MLies w b' o M → M ≠ [] → b' ≠ b0) ∧ (∀ {b' o : Nat} {l : List ByteArray}, Lies w b' o l → l ≠ [] → l.all nmB = true → b' ≠ b0) := by
  constructor
  · rintro b' o M hL hne rfl
    obtain ⟨e0, e1, e2⟩ := hL 0 (List.length_pos_iff.2 hne)
    simp only [Nat.zero_mul, Nat.add_zero] at e0 e1 e2
    rw [hc] at e0 e2
    match o, e0, e2 with
    | 0, _, e2 => simp at e2
    | 1, e0, _ => simp at e0
    | 2, e0, _ => simp at e0
    | 3, e0, _ => simp at e0
    | o + 4, e0, _ => simp at e0
  · rintro b' o l hL hne hnm rfl
    have hp := List.length_pos_iff.2 hne
    have e0 := hL.at 0 hp
    have hn := List.all_eq_true.1 hnm _ (List.getElem_mem hp)
    rw [hc] at e0
    simp only [Nat.add_zero] at e0
    match o, e0 with
    | 0, e0 => simp at e0
    | 1, e0 =>
      simp at e0
      rw [← e0] at hn
      revert hn
      decide
    | 2, e0 => simp at e0
    | 3, e0 => simp at e0
    | o + 4, e0 => simp at e0
theorem told_far {w w1 : World} {b0 : Nat} {q : Query} {a a' : Option Addr} {c c' : Nat} (hc : ∀ i, w.cell? ⟨b0, i, none⟩ = (#[Value.int .i64 0, Value.string ⟨#[]⟩, Value.slice none 0 0, Value.slice none 0 0] : Array Value)[i]?) (gr : w.grownBy w1 (some b0)) (hq : q.2.2.2.all nmB = true)
    (hm : MRow w (.slice a q.2.2.1.length c) q.2.2.1) (hl : Row w (.slice a' q.2.2.2.length c') q.2.2.2) : QRow w1 (.agg #[.int .i64 q.1, .string q.2.1, .slice a q.2.2.1.length c, .slice a' q.2.2.2.length c']) q := by
  obtain ⟨r1, r2⟩ := rows_else hc
  refine ⟨_, _, rfl, ?_, ?_⟩
  · obtain ⟨a1, c1, hv, hcc, hat⟩ := hm
    refine ⟨a1, c1, hv, hcc, fun hne => ?_⟩
    obtain ⟨b', o, ha, hlt, hL⟩ := hat hne
    have hbb := r1 hL hne
    refine ⟨b', o, ha, Nat.lt_of_lt_of_le hlt gr.size, fun i hi => ?_⟩
    obtain ⟨e0, e1, e2⟩ := hL i hi
    have hf : ∀ k, w1.cell? ⟨b', k, none⟩ = w.cell? ⟨b', k, none⟩ := fun k => gr.cell_far ⟨b', k, none⟩ hlt (fun e => hbb (Option.some.inj e))
    exact ⟨(hf _).trans e0, (hf _).trans e1, (hf _).trans e2⟩
  · obtain ⟨a1, c1, hv, hcc, hat⟩ := hl
    refine ⟨a1, c1, hv, hcc, fun hne => ?_⟩
    obtain ⟨b', o, ha, hlt, hL⟩ := hat hne
    exact ⟨b', o, ha, Nat.lt_of_lt_of_le hlt gr.size, hL.far hlt (r2 hL hne hq) gr⟩
end Go.Proofs.YtidkpalckafgkaaGreatDoor
namespace Go.Proofs.YtidkpalckafgkaaGreatDoor
open Go Go.RowKit Tg Pk Ky Qy
/-- The four cells of a query's box that may be written. -/
def QB (w : World) (b : Nat) (g : Int) (n : ByteArray) (m l : Value) : Prop :=
  (w.cell? ⟨b, 0, none⟩ = some (.int .i64 g) ∧ w.cell? ⟨b, 1, none⟩ = some (.string n) ∧ w.cell? ⟨b, 2, none⟩ = some m ∧ w.cell? ⟨b, 3, none⟩ = some l) ∧
  (w.frozen? ⟨b, 0, none⟩ = false ∧ w.frozen? ⟨b, 1, none⟩ = false ∧ w.frozen? ⟨b, 2, none⟩ = false ∧ w.frozen? ⟨b, 3, none⟩ = false) ∧ (∀ i, 4 ≤ i → w.cell? ⟨b, i, none⟩ = none)
theorem QB.lt {w : World} {b : Nat} {g : Int} {n : ByteArray} {m l : Value} (h : QB w b g n m l) : b < w.heap.size := World.block_lt_of_cell? _ _ h.1.1
theorem QB.on {w w1 : World} {b : Nat} {g : Int} {n : ByteArray} {m l : Value} (h : QB w b g n m l) (d : Below w.heap.size w w1) : QB w1 b g n m l := by
  have z := h.lt
  obtain ⟨⟨h0, h1, h2, h3⟩, ⟨f0, f1, f2, f3⟩, hi⟩ := h
  exact ⟨⟨keepC d h0 z, keepC d h1 z, keepC d h2 z, keepC d h3 z⟩, ⟨keepF d f0 z, keepF d f1 z, keepF d f2 z, keepF d f3 z⟩, fun i h => keepC d (hi i h) z⟩
theorem QB.far {w w1 : World} {b r : Nat} {g : Int} {n : ByteArray} {m l : Value} (h : QB w b g n m l) (hne : b ≠ r) (d : w.grownBy w1 (some r)) : QB w1 b g n m l := by
  have z := h.lt
  have hc : ∀ i, w1.cell? ⟨b, i, none⟩ = w.cell? ⟨b, i, none⟩ := fun i => d.cell_far ⟨b, i, none⟩ z (fun e => hne (Option.some.inj e))
  have hf : ∀ i, w1.frozen? ⟨b, i, none⟩ = w.frozen? ⟨b, i, none⟩ := fun i => d.frozen_far ⟨b, i, none⟩ z (fun e => hne (Option.some.inj e))
  obtain ⟨⟨h0, h1, h2, h3⟩, ⟨f0, f1, f2, f3⟩, hi⟩ := h
  exact ⟨⟨(hc 0).trans h0, (hc 1).trans h1, (hc 2).trans h2, (hc 3).trans h3⟩, ⟨(hf 0).trans f0, (hf 1).trans f1, (hf 2).trans f2, (hf 3).trans f3⟩, fun i h => (hc i).trans (hi i h)⟩
theorem QB.new (W : World) (b : Nat) (hb : b = W.heap.size) (g : Int) (n : ByteArray) (m l : Value) : QB (W.alloc (.cells #[.int .i64 g, .string n, m, l] 39)) b g n m l := by
  subst hb
  refine ⟨⟨?_, ?_, ?_, ?_⟩, ⟨?_, ?_, ?_, ?_⟩, fun i hi => ?_⟩
  rotate_right
  · simp [go_sem]
    omega
  all_goals simp [go_sem]
theorem QB.set12 {w : World} {b : Nat} {g : Int} {n : ByteArray} {m l : Value} (h : QB w b g n m l) (n' : ByteArray) (m' : Value) : QB ((w.setCell ⟨b, 1, none⟩ (.string n')).setCell ⟨b, 2, none⟩ m') b g n' m' l := by
  obtain ⟨⟨h0, h1, h2, h3⟩, ⟨f0, f1, f2, f3⟩, hi⟩ := h
  refine ⟨⟨?_, ?_, ?_, ?_⟩, ⟨?_, ?_, ?_, ?_⟩, fun i h5 => ?_⟩
  rotate_right
  · simp [go_sem, hi i h5]
  all_goals simp [go_sem, h0, h1, h2, h3, f0, f1, f2, f3]
theorem QB.set3 {w : World} {b : Nat} {g : Int} {n : ByteArray} {m l : Value} (h : QB w b g n m l) (l' : Value) : QB (w.setCell ⟨b, 3, none⟩ l') b g n m l' := by
  obtain ⟨⟨h0, h1, h2, h3⟩, ⟨f0, f1, f2, f3⟩, hi⟩ := h
  refine ⟨⟨?_, ?_, ?_, ?_⟩, ⟨?_, ?_, ?_, ?_⟩, fun i h5 => ?_⟩
  rotate_right
  · simp [go_sem, hi i h5]
  all_goals simp [go_sem, h0, h1, h2, h3, f0, f1, f2, f3]
theorem QB.all {w : World} {b : Nat} {g : Int} {n : ByteArray} {m l : Value} (h : QB w b g n m l) : ∀ i, w.cell? ⟨b, i, none⟩ = (#[Value.int .i64 g, Value.string n, m, l] : Array Value)[i]? := by
  obtain ⟨⟨h0, h1, h2, h3⟩, _, hi⟩ := h
  intro i
  match i with
  | 0 => exact h0
  | 1 => exact h1
  | 2 => exact h2
  | 3 => exact h3
  | i + 4 => rw [hi (i + 4) (by omega)]; simp
/-- Matches do not lie in a query's box. -/
theorem mrow_far4 {w w1 : World} {b : Nat} {g : Int} {n : ByteArray} {a1 a2 : Option Addr} {n1 n2 c1 c2 : Nat} {v : Value} {M : List Match} (hb : QB w b g n (.slice a1 n1 c1) (.slice a2 n2 c2)) (h : MRow w v M) (gr : w.grownBy w1 (some b)) : MRow w1 v M := by
  obtain ⟨a, c, hv, hc, hat⟩ := h
  refine ⟨a, c, hv, hc, fun hne => ?_⟩
  obtain ⟨b', o, ha, hlt, hL⟩ := hat hne
  have hbb : b' ≠ b := by
    rintro rfl
    obtain ⟨⟨h0, h1, h2, h3⟩, _, hi⟩ := hb
    obtain ⟨e0, e1, e2⟩ := hL 0 (List.length_pos_iff.2 hne)
    simp only [Nat.zero_mul, Nat.add_zero] at e0 e1 e2
    match o, e0, e1, e2 with
    | 0, _, _, e2 => rw [h2] at e2; cases e2
    | 1, e0, _, _ => rw [h1] at e0; cases e0
    | 2, e0, _, _ => rw [h2] at e0; cases e0
    | 3, e0, _, _ => rw [h3] at e0; cases e0
    | o + 4, e0, _, _ => rw [hi (o + 4) (by omega)] at e0; cases e0
  refine ⟨b', o, ha, Nat.lt_of_lt_of_le hlt gr.size, fun i hi => ?_⟩
  obtain ⟨e0, e1, e2⟩ := hL i hi
  have hf : ∀ k, w1.cell? ⟨b', k, none⟩ = w.cell? ⟨b', k, none⟩ := fun k => gr.cell_far ⟨b', k, none⟩ hlt (fun e => hbb (Option.some.inj e))
  exact ⟨(hf _).trans e0, (hf _).trans e1, (hf _).trans e2⟩
theorem kcutB_none {y : ByteArray} (h : kcut y.data.toList = none) : kcutB y = (⟨#[]⟩, ⟨#[]⟩, false) := by unfold kcutB; rw [h]
theorem kcutB_some {y : ByteArray} {p : List UInt8 × List UInt8} (h : kcut y.data.toList = some p) : kcutB y = (bb p.1, bb p.2, true) := by unfold kcutB; rw [h]
set_option maxRecDepth 100000 in
set_option maxHeartbeats 2000000 in
theorem refQparse_else (s : ByteArray) (ws : List ByteArray) (w : World) (hs : s.size ≤ 900) (hf : fieldsB s = ws) (h2 : ¬ ws.length = 2) (h4 : ¬ ws.length = 4) :
    Calls Tryz.prog 26 #[.string s] w fun e w' => (∃ qv, e = .returned (.tuple #[qv, .int .i64 2]) ∧ QRow w' qv qnone) ∧ Below w.heap.size w w' := by
  have HF := Lib.hid (fun W => refFields_any s W (by omega))
  rw [hf] at HF
  have i2 : ¬ (ws.length : Int) = 2 := by omega
  have i4 : ¬ (ws.length : Int) = 4 := by omega
  go_enter Tryz.func26, Tryz.ntmps26
  go_wp2_with fail
  refine (HF.out _).mono ?_
  rintro e w1 ⟨⟨v1, rfl, r1⟩, n1⟩
  obtain ⟨a1, c1, rfl, hc1, hat⟩ := r1
  have B := (QB.new w w.heap.size rfl 0 ⟨#[]⟩ (.slice none 0 0) (.slice none 0 0)).on n1
  have d := belowA n1
  have zw := B.lt
  clear n1 hat
  obtain ⟨⟨x0, x1, x2, x3⟩, ⟨f0, f1, f2, f3⟩, _⟩ := id B
  have dd := Lib.hid ((((d.setCell (p := ⟨w.heap.size, 0, none⟩) (Nat.le_refl _) (.int .i64 0)).setCell (p := ⟨w.heap.size, 1, none⟩) (Nat.le_refl _) (.string ⟨#[]⟩)).setCell (p := ⟨w.heap.size, 2, none⟩) (Nat.le_refl _) (.slice none 0 0)).setCell (p := ⟨w.heap.size, 3, none⟩) (Nat.le_refl _) (.slice none 0 0))
  go_wp2_with fail
  exact bodyPost_ret (v := .tuple #[.agg #[.int .i64 0, .string ⟨#[]⟩, .slice none 0 0, .slice none 0 0], .int .i64 (2)]) (by simp [results, Tryz.results26, go_sem, x0, x1, x2, x3]) rfl ⟨⟨_, rfl, qnone_row _⟩, dd.out⟩
set_option maxRecDepth 100000 in
set_option maxHeartbeats 2000000 in
theorem refQparse_third (s x y z u : ByteArray) (w : World) (hs : s.size ≤ 900) (hf : fieldsB s = [x, y, z, u]) (hz : eqB z ⟨#[98, 121]⟩ = false) :
    Calls Tryz.prog 26 #[.string s] w fun e w' => (∃ qv, e = .returned (.tuple #[qv, .int .i64 2]) ∧ QRow w' qv qnone) ∧ Below w.heap.size w w' := by
  have HF := Lib.hid (fun W => refFields_any s W (by omega))
  rw [hf] at HF
  have hzq := (beq_ba z ⟨#[98, 121]⟩).trans hz
  have hzl : (⟨#[98, 121]⟩ : ByteArray).toList = [98, 121] := by rw [ByteArray.toList_eq]
  rw [hzl] at hzq
  clear hz hzl
  go_enter Tryz.func26, Tryz.ntmps26
  go_wp2_with fail
  refine (HF.out _).mono ?_
  rintro e w1 ⟨⟨v1, rfl, r1⟩, n1⟩
  obtain ⟨a1, c1, rfl, hc1, hat⟩ := r1
  obtain ⟨bw, o, rfl, hbw, hL⟩ := hat (by simp)
  have vx : w1.cell? ⟨bw, o, none⟩ = some (.string x) := hL 0 x rfl
  have vy := hL 1 y rfl
  have vz := hL 2 z rfl
  have vu := hL 3 u rfl
  have B := (QB.new w w.heap.size rfl 0 ⟨#[]⟩ (.slice none 0 0) (.slice none 0 0)).on n1
  have d := belowA n1
  have zw := B.lt
  clear n1 hat
  obtain ⟨⟨x0, x1, x2, x3⟩, ⟨f0, f1, f2, f3⟩, _⟩ := id B
  have hlen : [x, y, z, u].length = 4 := rfl
  rw [hlen] at hc1 ⊢
  clear hlen
  have dd := Lib.hid ((((d.setCell (p := ⟨w.heap.size, 0, none⟩) (Nat.le_refl _) (.int .i64 0)).setCell (p := ⟨w.heap.size, 1, none⟩) (Nat.le_refl _) (.string ⟨#[]⟩)).setCell (p := ⟨w.heap.size, 2, none⟩) (Nat.le_refl _) (.slice none 0 0)).setCell (p := ⟨w.heap.size, 3, none⟩) (Nat.le_refl _) (.slice none 0 0))
  go_wp2_with fail
  exact bodyPost_ret (v := .tuple #[.agg #[.int .i64 0, .string ⟨#[]⟩, .slice none 0 0, .slice none 0 0], .int .i64 (2)]) (by simp [results, Tryz.results26, go_sem, x0, x1, x2, x3]) rfl ⟨⟨_, rfl, qnone_row _⟩, dd.out⟩
set_option maxRecDepth 100000 in
set_option maxHeartbeats 2000000 in
theorem refQparse_agg2 (s x y : ByteArray) (w : World) (hs : s.size ≤ 900) (hf : fieldsB s = [x, y]) (ha : aggN x.data.toList = 0) :
    Calls Tryz.prog 26 #[.string s] w fun e w' => (∃ qv, e = .returned (.tuple #[qv, .int .i64 2]) ∧ QRow w' qv qnone) ∧ Below w.heap.size w w' := by
  have HF := Lib.hid (fun W => refFields_any s W (by omega))
  rw [hf] at HF
  have HA := Lib.hid (fun W => refAgg_any x W)
  rw [ha] at HA
  obtain ⟨A, hA⟩ : ∃ A : Int, A = 0 := ⟨0, rfl⟩
  rw [← hA] at HA
  go_enter Tryz.func26, Tryz.ntmps26
  go_wp2_with fail
  refine (HF.out _).mono ?_
  rintro e w1 ⟨⟨v1, rfl, r1⟩, n1⟩
  obtain ⟨a1, c1, rfl, hc1, hat⟩ := r1
  obtain ⟨bw, o, rfl, hbw, hL⟩ := hat (by simp)
  have vx : w1.cell? ⟨bw, o, none⟩ = some (.string x) := hL 0 x rfl
  have vy := hL 1 y rfl
  have B := (QB.new w w.heap.size rfl 0 ⟨#[]⟩ (.slice none 0 0) (.slice none 0 0)).on n1
  have d := belowA n1
  have zw := B.lt
  clear n1 hat
  obtain ⟨⟨x0, x1, x2, x3⟩, ⟨f0, f1, f2, f3⟩, _⟩ := id B
  have hlen : [x, y].length = 2 := rfl
  rw [hlen] at hc1 ⊢
  clear hlen
  go_wp2_with fail
  refine (HA.out _).mono ?_
  rintro e w2 ⟨rfl, n2⟩
  clear x0 x1 x2 x3 f0 f1 f2 f3
  have zs := n2.size
  have B := B.on n2
  have vx := keepC n2 vx (by omega)
  have vy := keepC n2 vy (by omega)
  have d := d.trans (n2.mono d.size)
  clear n2
  have nq := aBelow w2 (.cells #[.int .i64 A, .string ⟨#[]⟩, .slice none 0 0, .slice none 0 0] 39)
  have Q := QB.new w2 w2.heap.size rfl A ⟨#[]⟩ (.slice none 0 0) (.slice none 0 0)
  have zq := Q.lt
  have B := B.on nq
  have vx := keepC nq vx (by omega)
  have vy := keepC nq vy (by omega)
  have d := d.trans (nq.mono d.size)
  have hqr : w2.heap.size ≠ w.heap.size := by omega
  have hqb : bw < w2.heap.size := by omega
  clear nq
  subst hA
  obtain ⟨⟨x0, x1, x2, x3⟩, ⟨f0, f1, f2, f3⟩, _⟩ := id B
  obtain ⟨⟨q0, q1, q2, q3⟩, ⟨e0, e1, e2, e3⟩, _⟩ := id Q
  have dd := Lib.hid ((((d.setCell (p := ⟨w.heap.size, 0, none⟩) (Nat.le_refl _) (.int .i64 0)).setCell (p := ⟨w.heap.size, 1, none⟩) (Nat.le_refl _) (.string ⟨#[]⟩)).setCell (p := ⟨w.heap.size, 2, none⟩) (Nat.le_refl _) (.slice none 0 0)).setCell (p := ⟨w.heap.size, 3, none⟩) (Nat.le_refl _) (.slice none 0 0))
  go_wp2_with fail
  exact bodyPost_ret (v := .tuple #[.agg #[.int .i64 0, .string ⟨#[]⟩, .slice none 0 0, .slice none 0 0], .int .i64 (2)]) (by simp [results, Tryz.results26, go_sem, x0, x1, x2, x3]) rfl ⟨⟨_, rfl, qnone_row _⟩, dd.out⟩
set_option maxRecDepth 100000 in
set_option maxHeartbeats 2000000 in
theorem refQparse_cut2 (s x y : ByteArray) (w : World) (hs : s.size ≤ 900) (hf : fieldsB s = [x, y]) (hy : y.size ≤ 900) (ha : ¬ aggN x.data.toList = 0) (hk : kcut y.data.toList = none) :
    Calls Tryz.prog 26 #[.string s] w fun e w' => (∃ qv, e = .returned (.tuple #[qv, .int .i64 2]) ∧ QRow w' qv qnone) ∧ Below w.heap.size w w' := by
  have HF := Lib.hid (fun W => refFields_any s W (by omega))
  rw [hf] at HF
  have HA := Lib.hid (fun W => refAgg_any x W)
  have HC := Lib.hid (fun W => refCut_any y W (by omega))
  rw [kcutB_none hk] at HC
  generalize aggN x.data.toList = A at *
  have hq : (A == 0) = false := by simp [ha]
  go_enter Tryz.func26, Tryz.ntmps26
  go_wp2_with fail
  refine (HF.out _).mono ?_
  rintro e w1 ⟨⟨v1, rfl, r1⟩, n1⟩
  obtain ⟨a1, c1, rfl, hc1, hat⟩ := r1
  obtain ⟨bw, o, rfl, hbw, hL⟩ := hat (by simp)
  have vx : w1.cell? ⟨bw, o, none⟩ = some (.string x) := hL 0 x rfl
  have vy := hL 1 y rfl
  have B := (QB.new w w.heap.size rfl 0 ⟨#[]⟩ (.slice none 0 0) (.slice none 0 0)).on n1
  have d := belowA n1
  have zw := B.lt
  clear n1 hat
  obtain ⟨⟨x0, x1, x2, x3⟩, ⟨f0, f1, f2, f3⟩, _⟩ := id B
  have hlen : [x, y].length = 2 := rfl
  rw [hlen] at hc1 ⊢
  clear hlen
  go_wp2_with fail
  refine (HA.out _).mono ?_
  rintro e w2 ⟨rfl, n2⟩
  clear x0 x1 x2 x3 f0 f1 f2 f3
  have zs := n2.size
  have B := B.on n2
  have vx := keepC n2 vx (by omega)
  have vy := keepC n2 vy (by omega)
  have d := d.trans (n2.mono d.size)
  clear n2
  have nq := aBelow w2 (.cells #[.int .i64 A, .string ⟨#[]⟩, .slice none 0 0, .slice none 0 0] 39)
  have Q := QB.new w2 w2.heap.size rfl A ⟨#[]⟩ (.slice none 0 0) (.slice none 0 0)
  have zq := Q.lt
  have B := B.on nq
  have vx := keepC nq vx (by omega)
  have vy := keepC nq vy (by omega)
  have d := d.trans (nq.mono d.size)
  have hqr : w2.heap.size ≠ w.heap.size := by omega
  have hqb : bw < w2.heap.size := by omega
  clear nq
  obtain ⟨⟨x0, x1, x2, x3⟩, ⟨f0, f1, f2, f3⟩, _⟩ := id B
  obtain ⟨⟨q0, q1, q2, q3⟩, ⟨e0, e1, e2, e3⟩, _⟩ := id Q
  go_wp2_with fail
  refine (HC.out _).mono ?_
  rintro e w3 ⟨rfl, n3⟩
  clear x0 x1 x2 x3 f0 f1 f2 f3
  clear q0 q1 q2 q3 e0 e1 e2 e3
  have zs := n3.size
  have B := B.on n3
  have Q := Q.on n3
  have vx := keepC n3 vx (by omega)
  have vy := keepC n3 vy (by omega)
  have d := d.trans (n3.mono d.size)
  clear n3
  obtain ⟨⟨x0, x1, x2, x3⟩, ⟨f0, f1, f2, f3⟩, _⟩ := id B
  obtain ⟨⟨q0, q1, q2, q3⟩, ⟨e0, e1, e2, e3⟩, _⟩ := id Q
  have dd := Lib.hid ((((d.setCell (p := ⟨w.heap.size, 0, none⟩) (Nat.le_refl _) (.int .i64 0)).setCell (p := ⟨w.heap.size, 1, none⟩) (Nat.le_refl _) (.string ⟨#[]⟩)).setCell (p := ⟨w.heap.size, 2, none⟩) (Nat.le_refl _) (.slice none 0 0)).setCell (p := ⟨w.heap.size, 3, none⟩) (Nat.le_refl _) (.slice none 0 0))
  go_wp2_with fail
  exact bodyPost_ret (v := .tuple #[.agg #[.int .i64 0, .string ⟨#[]⟩, .slice none 0 0, .slice none 0 0], .int .i64 (2)]) (by simp [results, Tryz.results26, go_sem, x0, x1, x2, x3]) rfl ⟨⟨_, rfl, qnone_row _⟩, dd.out⟩
set_option maxRecDepth 100000 in
set_option maxHeartbeats 2000000 in
theorem refQparse_name2 (s x y : ByteArray) (w : World) (hs : s.size ≤ 900) (hf : fieldsB s = [x, y]) (hy : y.size ≤ 900) (ha : ¬ aggN x.data.toList = 0) (p : List UInt8 × List UInt8) (hk : kcut y.data.toList = some p) (hn : Word.name p.1 = false) :
    Calls Tryz.prog 26 #[.string s] w fun e w' => (∃ qv, e = .returned (.tuple #[qv, .int .i64 2]) ∧ QRow w' qv qnone) ∧ Below w.heap.size w w' := by
  have HF := Lib.hid (fun W => refFields_any s W (by omega))
  rw [hf] at HF
  have HA := Lib.hid (fun W => refAgg_any x W)
  have HC := Lib.hid (fun W => refCut_any y W (by omega))
  rw [kcutB_some hk] at HC
  obtain ⟨n, hnE⟩ : ∃ n, n = bb p.1 := ⟨_, rfl⟩
  obtain ⟨i, hiE⟩ : ∃ i, i = bb p.2 := ⟨_, rfl⟩
  rw [← hnE, ← hiE] at HC
  have hzb : ∀ l : List UInt8, (bb l).size = l.length := fun l => by rw [← size_l, bb_list]
  have hkl := kcut_len hk
  have hyl := size_l y
  have hnz : n.size ≤ 900 := by rw [hnE, hzb]; omega
  have hiz : i.size ≤ 900 := by rw [hiE, hzb]; omega
  have HN := Lib.hid (fun W => refName_any n W (by omega))
  rw [show Word.name n.data.toList = Word.name p.1 from by rw [hnE, bb_list], hn] at HN
  clear hkl hyl hzb hk hn
  clear hnE hiE hnz hiz
  generalize aggN x.data.toList = A at *
  have hq : (A == 0) = false := by simp [ha]
  go_enter Tryz.func26, Tryz.ntmps26
  go_wp2_with fail
  refine (HF.out _).mono ?_
  rintro e w1 ⟨⟨v1, rfl, r1⟩, n1⟩
  obtain ⟨a1, c1, rfl, hc1, hat⟩ := r1
  obtain ⟨bw, o, rfl, hbw, hL⟩ := hat (by simp)
  have vx : w1.cell? ⟨bw, o, none⟩ = some (.string x) := hL 0 x rfl
  have vy := hL 1 y rfl
  have B := (QB.new w w.heap.size rfl 0 ⟨#[]⟩ (.slice none 0 0) (.slice none 0 0)).on n1
  have d := belowA n1
  have zw := B.lt
  clear n1 hat
  obtain ⟨⟨x0, x1, x2, x3⟩, ⟨f0, f1, f2, f3⟩, _⟩ := id B
  have hlen : [x, y].length = 2 := rfl
  rw [hlen] at hc1 ⊢
  clear hlen
  go_wp2_with fail
  refine (HA.out _).mono ?_
  rintro e w2 ⟨rfl, n2⟩
  clear x0 x1 x2 x3 f0 f1 f2 f3
  have zs := n2.size
  have B := B.on n2
  have vx := keepC n2 vx (by omega)
  have vy := keepC n2 vy (by omega)
  have d := d.trans (n2.mono d.size)
  clear n2
  have nq := aBelow w2 (.cells #[.int .i64 A, .string ⟨#[]⟩, .slice none 0 0, .slice none 0 0] 39)
  have Q := QB.new w2 w2.heap.size rfl A ⟨#[]⟩ (.slice none 0 0) (.slice none 0 0)
  have zq := Q.lt
  have B := B.on nq
  have vx := keepC nq vx (by omega)
  have vy := keepC nq vy (by omega)
  have d := d.trans (nq.mono d.size)
  have hqr : w2.heap.size ≠ w.heap.size := by omega
  have hqb : bw < w2.heap.size := by omega
  clear nq
  obtain ⟨⟨x0, x1, x2, x3⟩, ⟨f0, f1, f2, f3⟩, _⟩ := id B
  obtain ⟨⟨q0, q1, q2, q3⟩, ⟨e0, e1, e2, e3⟩, _⟩ := id Q
  go_wp2_with fail
  refine (HC.out _).mono ?_
  rintro e w3 ⟨rfl, n3⟩
  clear x0 x1 x2 x3 f0 f1 f2 f3
  clear q0 q1 q2 q3 e0 e1 e2 e3
  have zs := n3.size
  have B := B.on n3
  have Q := Q.on n3
  have vx := keepC n3 vx (by omega)
  have vy := keepC n3 vy (by omega)
  have d := d.trans (n3.mono d.size)
  clear n3
  obtain ⟨⟨x0, x1, x2, x3⟩, ⟨f0, f1, f2, f3⟩, _⟩ := id B
  obtain ⟨⟨q0, q1, q2, q3⟩, ⟨e0, e1, e2, e3⟩, _⟩ := id Q
  go_wp2_with fail
  refine (HN.out _).mono ?_
  rintro e w4 ⟨rfl, hw⟩
  have hw := hw.symm
  subst hw
  have dd := Lib.hid ((((d.setCell (p := ⟨w.heap.size, 0, none⟩) (Nat.le_refl _) (.int .i64 0)).setCell (p := ⟨w.heap.size, 1, none⟩) (Nat.le_refl _) (.string ⟨#[]⟩)).setCell (p := ⟨w.heap.size, 2, none⟩) (Nat.le_refl _) (.slice none 0 0)).setCell (p := ⟨w.heap.size, 3, none⟩) (Nat.le_refl _) (.slice none 0 0))
  go_wp2_with fail
  exact bodyPost_ret (v := .tuple #[.agg #[.int .i64 0, .string ⟨#[]⟩, .slice none 0 0, .slice none 0 0], .int .i64 (2)]) (by simp [results, Tryz.results26, go_sem, x0, x1, x2, x3]) rfl ⟨⟨_, rfl, qnone_row _⟩, dd.out⟩
set_option maxRecDepth 100000 in
set_option maxHeartbeats 2000000 in
theorem refQparse_mat2 (s x y : ByteArray) (w : World) (hs : s.size ≤ 900) (hf : fieldsB s = [x, y]) (hy : y.size ≤ 900) (ha : ¬ aggN x.data.toList = 0) (p : List UInt8 × List UInt8) (hk : kcut y.data.toList = some p) (hn : Word.name p.1 = true) (hc : ¬ (pparse p.2).2 = 0) :
    Calls Tryz.prog 26 #[.string s] w fun e w' => (∃ qv, e = .returned (.tuple #[qv, .int .i64 (pparse p.2).2]) ∧ QRow w' qv qnone) ∧ Below w.heap.size w w' := by
  have HF := Lib.hid (fun W => refFields_any s W (by omega))
  rw [hf] at HF
  have HA := Lib.hid (fun W => refAgg_any x W)
  have HC := Lib.hid (fun W => refCut_any y W (by omega))
  rw [kcutB_some hk] at HC
  obtain ⟨n, hnE⟩ : ∃ n, n = bb p.1 := ⟨_, rfl⟩
  obtain ⟨i, hiE⟩ : ∃ i, i = bb p.2 := ⟨_, rfl⟩
  rw [← hnE, ← hiE] at HC
  have hzb : ∀ l : List UInt8, (bb l).size = l.length := fun l => by rw [← size_l, bb_list]
  have hkl := kcut_len hk
  have hyl := size_l y
  have hnz : n.size ≤ 900 := by rw [hnE, hzb]; omega
  have hiz : i.size ≤ 900 := by rw [hiE, hzb]; omega
  have HN := Lib.hid (fun W => refName_any n W (by omega))
  rw [show Word.name n.data.toList = Word.name p.1 from by rw [hnE, bb_list], hn] at HN
  have HP := Lib.hid (fun W => refParseM_any i W hiz)
  rw [show pparse i.data.toList = pparse p.2 from by rw [hiE, bb_list]] at HP
  clear hkl hyl hzb hk hn
  clear hnE hiE hnz hiz
  generalize aggN x.data.toList = A at *
  generalize pparse p.2 = C at *
  have hq : (A == 0) = false := by simp [ha]
  have hcq : (C.2 == 0) = false := by simp [hc]
  go_enter Tryz.func26, Tryz.ntmps26
  go_wp2_with fail
  refine (HF.out _).mono ?_
  rintro e w1 ⟨⟨v1, rfl, r1⟩, n1⟩
  obtain ⟨a1, c1, rfl, hc1, hat⟩ := r1
  obtain ⟨bw, o, rfl, hbw, hL⟩ := hat (by simp)
  have vx : w1.cell? ⟨bw, o, none⟩ = some (.string x) := hL 0 x rfl
  have vy := hL 1 y rfl
  have B := (QB.new w w.heap.size rfl 0 ⟨#[]⟩ (.slice none 0 0) (.slice none 0 0)).on n1
  have d := belowA n1
  have zw := B.lt
  clear n1 hat
  obtain ⟨⟨x0, x1, x2, x3⟩, ⟨f0, f1, f2, f3⟩, _⟩ := id B
  have hlen : [x, y].length = 2 := rfl
  rw [hlen] at hc1 ⊢
  clear hlen
  go_wp2_with fail
  refine (HA.out _).mono ?_
  rintro e w2 ⟨rfl, n2⟩
  clear x0 x1 x2 x3 f0 f1 f2 f3
  have zs := n2.size
  have B := B.on n2
  have vx := keepC n2 vx (by omega)
  have vy := keepC n2 vy (by omega)
  have d := d.trans (n2.mono d.size)
  clear n2
  have nq := aBelow w2 (.cells #[.int .i64 A, .string ⟨#[]⟩, .slice none 0 0, .slice none 0 0] 39)
  have Q := QB.new w2 w2.heap.size rfl A ⟨#[]⟩ (.slice none 0 0) (.slice none 0 0)
  have zq := Q.lt
  have B := B.on nq
  have vx := keepC nq vx (by omega)
  have vy := keepC nq vy (by omega)
  have d := d.trans (nq.mono d.size)
  have hqr : w2.heap.size ≠ w.heap.size := by omega
  have hqb : bw < w2.heap.size := by omega
  clear nq
  obtain ⟨⟨x0, x1, x2, x3⟩, ⟨f0, f1, f2, f3⟩, _⟩ := id B
  obtain ⟨⟨q0, q1, q2, q3⟩, ⟨e0, e1, e2, e3⟩, _⟩ := id Q
  go_wp2_with fail
  refine (HC.out _).mono ?_
  rintro e w3 ⟨rfl, n3⟩
  clear x0 x1 x2 x3 f0 f1 f2 f3
  clear q0 q1 q2 q3 e0 e1 e2 e3
  have zs := n3.size
  have B := B.on n3
  have Q := Q.on n3
  have vx := keepC n3 vx (by omega)
  have vy := keepC n3 vy (by omega)
  have d := d.trans (n3.mono d.size)
  clear n3
  obtain ⟨⟨x0, x1, x2, x3⟩, ⟨f0, f1, f2, f3⟩, _⟩ := id B
  obtain ⟨⟨q0, q1, q2, q3⟩, ⟨e0, e1, e2, e3⟩, _⟩ := id Q
  go_wp2_with fail
  refine (HN.out _).mono ?_
  rintro e w4 ⟨rfl, hw⟩
  have hw := hw.symm
  subst hw
  go_wp2_with fail
  refine (HP.out _).mono ?_
  rintro e w5 ⟨⟨v5, rfl, M⟩, n5⟩
  clear x0 x1 x2 x3 f0 f1 f2 f3
  clear q0 q1 q2 q3 e0 e1 e2 e3
  have zs := n5.size
  have B := B.on n5
  have Q := Q.on n5
  have vx := keepC n5 vx (by omega)
  have vy := keepC n5 vy (by omega)
  have d := d.trans (n5.mono d.size)
  obtain ⟨am, cm, rfl, hcm, hat⟩ := M
  have M : MRow w5 (.slice am C.1.length cm) C.1 := ⟨am, cm, rfl, hcm, hat⟩
  clear n5 hat hcm
  obtain ⟨⟨x0, x1, x2, x3⟩, ⟨f0, f1, f2, f3⟩, _⟩ := id B
  obtain ⟨⟨q0, q1, q2, q3⟩, ⟨e0, e1, e2, e3⟩, _⟩ := id Q
  have dd := Lib.hid ((((d.setCell (p := ⟨w.heap.size, 0, none⟩) (Nat.le_refl _) (.int .i64 0)).setCell (p := ⟨w.heap.size, 1, none⟩) (Nat.le_refl _) (.string ⟨#[]⟩)).setCell (p := ⟨w.heap.size, 2, none⟩) (Nat.le_refl _) (.slice none 0 0)).setCell (p := ⟨w.heap.size, 3, none⟩) (Nat.le_refl _) (.slice none 0 0))
  go_wp2_with fail
  exact bodyPost_ret (v := .tuple #[.agg #[.int .i64 0, .string ⟨#[]⟩, .slice none 0 0, .slice none 0 0], .int .i64 (C.2)]) (by simp [results, Tryz.results26, go_sem, x0, x1, x2, x3]) rfl ⟨⟨_, rfl, qnone_row _⟩, dd.out⟩
set_option maxRecDepth 100000 in
set_option maxHeartbeats 2000000 in
theorem refQparse_ok2 (s x y : ByteArray) (w : World) (hs : s.size ≤ 900) (hf : fieldsB s = [x, y]) (hy : y.size ≤ 900) (ha : ¬ aggN x.data.toList = 0) (p : List UInt8 × List UInt8) (hk : kcut y.data.toList = some p) (hn : Word.name p.1 = true) (hc : (pparse p.2).2 = 0) :
    Calls Tryz.prog 26 #[.string s] w fun e w' => (∃ qv, e = .returned (.tuple #[qv, .int .i64 0]) ∧ QRow w' qv (aggN x.data.toList, bb p.1, (pparse p.2).1, [])) ∧ Below w.heap.size w w' := by
  have HF := Lib.hid (fun W => refFields_any s W (by omega))
  rw [hf] at HF
  have HA := Lib.hid (fun W => refAgg_any x W)
  have HC := Lib.hid (fun W => refCut_any y W (by omega))
  rw [kcutB_some hk] at HC
  obtain ⟨n, hnE⟩ : ∃ n, n = bb p.1 := ⟨_, rfl⟩
  obtain ⟨i, hiE⟩ : ∃ i, i = bb p.2 := ⟨_, rfl⟩
  rw [← hnE, ← hiE] at HC
  have hzb : ∀ l : List UInt8, (bb l).size = l.length := fun l => by rw [← size_l, bb_list]
  have hkl := kcut_len hk
  have hyl := size_l y
  have hnz : n.size ≤ 900 := by rw [hnE, hzb]; omega
  have hiz : i.size ≤ 900 := by rw [hiE, hzb]; omega
  have HN := Lib.hid (fun W => refName_any n W (by omega))
  rw [show Word.name n.data.toList = Word.name p.1 from by rw [hnE, bb_list], hn] at HN
  have HP := Lib.hid (fun W => refParseM_any i W hiz)
  rw [show pparse i.data.toList = pparse p.2 from by rw [hiE, bb_list]] at HP
  clear hkl hyl hzb hk hn
  rw [← hnE]
  clear hiE hnE hnz hiz
  generalize aggN x.data.toList = A at *
  generalize pparse p.2 = C at *
  obtain ⟨CM, CE⟩ := C
  dsimp only at hc
  subst hc
  obtain ⟨C, hCE⟩ : ∃ C : List Match × Int, C = (CM, 0) := ⟨_, rfl⟩
  have hC1 : CM = C.1 := by rw [hCE]
  have hC2 : (0 : Int) = C.2 := by rw [hCE]
  dsimp only at HP ⊢
  rw [hC1] at HP ⊢
  clear hCE hC1 hC2
  have hq : (A == 0) = false := by simp [ha]
  go_enter Tryz.func26, Tryz.ntmps26
  go_wp2_with fail
  refine (HF.out _).mono ?_
  rintro e w1 ⟨⟨v1, rfl, r1⟩, n1⟩
  obtain ⟨a1, c1, rfl, hc1, hat⟩ := r1
  obtain ⟨bw, o, rfl, hbw, hL⟩ := hat (by simp)
  have vx : w1.cell? ⟨bw, o, none⟩ = some (.string x) := hL 0 x rfl
  have vy := hL 1 y rfl
  have B := (QB.new w w.heap.size rfl 0 ⟨#[]⟩ (.slice none 0 0) (.slice none 0 0)).on n1
  have d := belowA n1
  have zw := B.lt
  clear n1 hat
  obtain ⟨⟨x0, x1, x2, x3⟩, ⟨f0, f1, f2, f3⟩, _⟩ := id B
  have hlen : [x, y].length = 2 := rfl
  rw [hlen] at hc1 ⊢
  clear hlen
  go_wp2_with fail
  refine (HA.out _).mono ?_
  rintro e w2 ⟨rfl, n2⟩
  clear x0 x1 x2 x3 f0 f1 f2 f3
  have zs := n2.size
  have B := B.on n2
  have vx := keepC n2 vx (by omega)
  have vy := keepC n2 vy (by omega)
  have d := d.trans (n2.mono d.size)
  clear n2
  have nq := aBelow w2 (.cells #[.int .i64 A, .string ⟨#[]⟩, .slice none 0 0, .slice none 0 0] 39)
  have Q := QB.new w2 w2.heap.size rfl A ⟨#[]⟩ (.slice none 0 0) (.slice none 0 0)
  have zq := Q.lt
  have B := B.on nq
  have vx := keepC nq vx (by omega)
  have vy := keepC nq vy (by omega)
  have d := d.trans (nq.mono d.size)
  have hqr : w2.heap.size ≠ w.heap.size := by omega
  have hqb : bw < w2.heap.size := by omega
  clear nq
  obtain ⟨⟨x0, x1, x2, x3⟩, ⟨f0, f1, f2, f3⟩, _⟩ := id B
  obtain ⟨⟨q0, q1, q2, q3⟩, ⟨e0, e1, e2, e3⟩, _⟩ := id Q
  go_wp2_with fail
  refine (HC.out _).mono ?_
  rintro e w3 ⟨rfl, n3⟩
  clear x0 x1 x2 x3 f0 f1 f2 f3
  clear q0 q1 q2 q3 e0 e1 e2 e3
  have zs := n3.size
  have B := B.on n3
  have Q := Q.on n3
  have vx := keepC n3 vx (by omega)
  have vy := keepC n3 vy (by omega)
  have d := d.trans (n3.mono d.size)
  clear n3
  obtain ⟨⟨x0, x1, x2, x3⟩, ⟨f0, f1, f2, f3⟩, _⟩ := id B
  obtain ⟨⟨q0, q1, q2, q3⟩, ⟨e0, e1, e2, e3⟩, _⟩ := id Q
  go_wp2_with fail
  refine (HN.out _).mono ?_
  rintro e w4 ⟨rfl, hw⟩
  have hw := hw.symm
  subst hw
  go_wp2_with fail
  refine (HP.out _).mono ?_
  rintro e w5 ⟨⟨v5, rfl, M⟩, n5⟩
  clear x0 x1 x2 x3 f0 f1 f2 f3
  clear q0 q1 q2 q3 e0 e1 e2 e3
  have zs := n5.size
  have B := B.on n5
  have Q := Q.on n5
  have vx := keepC n5 vx (by omega)
  have vy := keepC n5 vy (by omega)
  have d := d.trans (n5.mono d.size)
  obtain ⟨am, cm, rfl, hcm, hat⟩ := M
  have M : MRow w5 (.slice am C.1.length cm) C.1 := ⟨am, cm, rfl, hcm, hat⟩
  clear n5 hat hcm
  obtain ⟨⟨x0, x1, x2, x3⟩, ⟨f0, f1, f2, f3⟩, _⟩ := id B
  obtain ⟨⟨q0, q1, q2, q3⟩, ⟨e0, e1, e2, e3⟩, _⟩ := id Q
  have G := Lib.grownBy_setB (Lib.grownBy_setCell w5 w2.heap.size 1 (.string n)) 2 (.slice am C.1.length cm)
  have M2 := mrow_far4 Q M G
  have Q2 := Q.set12 n (.slice am C.1.length cm)
  have B2 := B.far (Ne.symm hqr) G
  have d2 := (d.setCell (p := ⟨w2.heap.size, 1, none⟩) (by show w.heap.size ≤ w2.heap.size; omega) (.string n)).setCell (p := ⟨w2.heap.size, 2, none⟩) (by show w.heap.size ≤ w2.heap.size; omega) (.slice am C.1.length cm)
  have zs2 : w5.heap.size ≤ ((w5.setCell ⟨w2.heap.size, 1, none⟩ (.string n)).setCell ⟨w2.heap.size, 2, none⟩ (.slice am C.1.length cm)).heap.size := G.size
  have HS := Lib.hid (And.intro M2 (And.intro Q2 (And.intro B2 d2)))
  clear M2 Q2 B2 d2 M B d G vx vy
  go_wp2_with fail
  clear x0 x1 x2 x3 f0 f1 f2 f3
  clear q0 q1 q2 q3 e0 e1 e2 e3
  clear Q
  obtain ⟨M, Q, B, d⟩ := HS.out
  clear HS
  generalize ((w5.setCell ⟨w2.heap.size, 1, none⟩ (.string n)).setCell ⟨w2.heap.size, 2, none⟩ (.slice am C.1.length cm)) = w6 at *
  have HNm := Lib.hid (refNames_any (.slice none 0 0) [] w6 (Row.nil w6) (by simp) (by simp))
  rw [byE_nil] at HNm
  refine (HNm.out).mono ?_
  rintro e w7 ⟨rfl, n7⟩
  have M := M.on n7
  have Q := Q.on n7
  have B := B.on n7
  have d := d.trans (n7.mono d.size)
  clear n7 HNm
  have r := Row.nil w7
  have hnm : ([] : List ByteArray).all nmB = true := rfl
  have G := Lib.grownBy_setB (Lib.grownBy_setB (Lib.grownBy_setB (Lib.grownBy_setB (World.grownBy.refl w7 (some w.heap.size)) 0 (.int .i64 A)) 1 (.string n)) 2 (.slice am C.1.length cm)) 3 (.slice none 0 0)
  have QR := Lib.hid (told_far (q := (A, n, C.1, [])) B.all G hnm M r)
  have dd := Lib.hid ((((d.setCell (p := ⟨w.heap.size, 0, none⟩) (Nat.le_refl _) (.int .i64 A)).setCell (p := ⟨w.heap.size, 1, none⟩) (Nat.le_refl _) (.string n)).setCell (p := ⟨w.heap.size, 2, none⟩) (Nat.le_refl _) (.slice am C.1.length cm)).setCell (p := ⟨w.heap.size, 3, none⟩) (Nat.le_refl _) (.slice none 0 0))
  obtain ⟨⟨x0, x1, x2, x3⟩, ⟨f0, f1, f2, f3⟩, _⟩ := id B
  obtain ⟨⟨q0, q1, q2, q3⟩, ⟨e0, e1, e2, e3⟩, _⟩ := id Q
  clear M r B Q G
  go_wp2_with fail
  exact bodyPost_ret (v := .tuple #[.agg #[.int .i64 A, .string n, .slice am C.1.length cm, (.slice none 0 0)], .int .i64 0]) (by simp [results, Tryz.results26, go_sem, x0, x1, x2, x3]) rfl ⟨⟨_, rfl, QR.out⟩, dd.out⟩
set_option maxRecDepth 100000 in
set_option maxHeartbeats 2000000 in
theorem refQparse_agg4 (s x y z u : ByteArray) (w : World) (hs : s.size ≤ 900) (hf : fieldsB s = [x, y, z, u]) (hz : eqB z ⟨#[98, 121]⟩ = true) (ha : aggN x.data.toList = 0) :
    Calls Tryz.prog 26 #[.string s] w fun e w' => (∃ qv, e = .returned (.tuple #[qv, .int .i64 2]) ∧ QRow w' qv qnone) ∧ Below w.heap.size w w' := by
  have HF := Lib.hid (fun W => refFields_any s W (by omega))
  rw [hf] at HF
  have hzq := (beq_ba z ⟨#[98, 121]⟩).trans hz
  have hzl : (⟨#[98, 121]⟩ : ByteArray).toList = [98, 121] := by rw [ByteArray.toList_eq]
  rw [hzl] at hzq
  clear hz hzl
  have HA := Lib.hid (fun W => refAgg_any x W)
  rw [ha] at HA
  obtain ⟨A, hA⟩ : ∃ A : Int, A = 0 := ⟨0, rfl⟩
  rw [← hA] at HA
  go_enter Tryz.func26, Tryz.ntmps26
  go_wp2_with fail
  refine (HF.out _).mono ?_
  rintro e w1 ⟨⟨v1, rfl, r1⟩, n1⟩
  obtain ⟨a1, c1, rfl, hc1, hat⟩ := r1
  obtain ⟨bw, o, rfl, hbw, hL⟩ := hat (by simp)
  have vx : w1.cell? ⟨bw, o, none⟩ = some (.string x) := hL 0 x rfl
  have vy := hL 1 y rfl
  have vz := hL 2 z rfl
  have vu := hL 3 u rfl
  have B := (QB.new w w.heap.size rfl 0 ⟨#[]⟩ (.slice none 0 0) (.slice none 0 0)).on n1
  have d := belowA n1
  have zw := B.lt
  clear n1 hat
  obtain ⟨⟨x0, x1, x2, x3⟩, ⟨f0, f1, f2, f3⟩, _⟩ := id B
  have hlen : [x, y, z, u].length = 4 := rfl
  rw [hlen] at hc1 ⊢
  clear hlen
  go_wp2_with fail
  refine (HA.out _).mono ?_
  rintro e w2 ⟨rfl, n2⟩
  clear x0 x1 x2 x3 f0 f1 f2 f3
  have zs := n2.size
  have B := B.on n2
  have vx := keepC n2 vx (by omega)
  have vy := keepC n2 vy (by omega)
  have vu := keepC n2 vu (by omega)
  have d := d.trans (n2.mono d.size)
  clear n2
  have nq := aBelow w2 (.cells #[.int .i64 A, .string ⟨#[]⟩, .slice none 0 0, .slice none 0 0] 39)
  have Q := QB.new w2 w2.heap.size rfl A ⟨#[]⟩ (.slice none 0 0) (.slice none 0 0)
  have zq := Q.lt
  have B := B.on nq
  have vx := keepC nq vx (by omega)
  have vy := keepC nq vy (by omega)
  have vu := keepC nq vu (by omega)
  have d := d.trans (nq.mono d.size)
  have hqr : w2.heap.size ≠ w.heap.size := by omega
  have hqb : bw < w2.heap.size := by omega
  clear nq
  subst hA
  obtain ⟨⟨x0, x1, x2, x3⟩, ⟨f0, f1, f2, f3⟩, _⟩ := id B
  obtain ⟨⟨q0, q1, q2, q3⟩, ⟨e0, e1, e2, e3⟩, _⟩ := id Q
  have dd := Lib.hid ((((d.setCell (p := ⟨w.heap.size, 0, none⟩) (Nat.le_refl _) (.int .i64 0)).setCell (p := ⟨w.heap.size, 1, none⟩) (Nat.le_refl _) (.string ⟨#[]⟩)).setCell (p := ⟨w.heap.size, 2, none⟩) (Nat.le_refl _) (.slice none 0 0)).setCell (p := ⟨w.heap.size, 3, none⟩) (Nat.le_refl _) (.slice none 0 0))
  go_wp2_with fail
  exact bodyPost_ret (v := .tuple #[.agg #[.int .i64 0, .string ⟨#[]⟩, .slice none 0 0, .slice none 0 0], .int .i64 (2)]) (by simp [results, Tryz.results26, go_sem, x0, x1, x2, x3]) rfl ⟨⟨_, rfl, qnone_row _⟩, dd.out⟩
set_option maxRecDepth 100000 in
set_option maxHeartbeats 2000000 in
theorem refQparse_cut4 (s x y z u : ByteArray) (w : World) (hs : s.size ≤ 900) (hf : fieldsB s = [x, y, z, u]) (hz : eqB z ⟨#[98, 121]⟩ = true) (hy : y.size ≤ 900) (ha : ¬ aggN x.data.toList = 0) (hk : kcut y.data.toList = none) :
    Calls Tryz.prog 26 #[.string s] w fun e w' => (∃ qv, e = .returned (.tuple #[qv, .int .i64 2]) ∧ QRow w' qv qnone) ∧ Below w.heap.size w w' := by
  have HF := Lib.hid (fun W => refFields_any s W (by omega))
  rw [hf] at HF
  have hzq := (beq_ba z ⟨#[98, 121]⟩).trans hz
  have hzl : (⟨#[98, 121]⟩ : ByteArray).toList = [98, 121] := by rw [ByteArray.toList_eq]
  rw [hzl] at hzq
  clear hz hzl
  have HA := Lib.hid (fun W => refAgg_any x W)
  have HC := Lib.hid (fun W => refCut_any y W (by omega))
  rw [kcutB_none hk] at HC
  generalize aggN x.data.toList = A at *
  have hq : (A == 0) = false := by simp [ha]
  go_enter Tryz.func26, Tryz.ntmps26
  go_wp2_with fail
  refine (HF.out _).mono ?_
  rintro e w1 ⟨⟨v1, rfl, r1⟩, n1⟩
  obtain ⟨a1, c1, rfl, hc1, hat⟩ := r1
  obtain ⟨bw, o, rfl, hbw, hL⟩ := hat (by simp)
  have vx : w1.cell? ⟨bw, o, none⟩ = some (.string x) := hL 0 x rfl
  have vy := hL 1 y rfl
  have vz := hL 2 z rfl
  have vu := hL 3 u rfl
  have B := (QB.new w w.heap.size rfl 0 ⟨#[]⟩ (.slice none 0 0) (.slice none 0 0)).on n1
  have d := belowA n1
  have zw := B.lt
  clear n1 hat
  obtain ⟨⟨x0, x1, x2, x3⟩, ⟨f0, f1, f2, f3⟩, _⟩ := id B
  have hlen : [x, y, z, u].length = 4 := rfl
  rw [hlen] at hc1 ⊢
  clear hlen
  go_wp2_with fail
  refine (HA.out _).mono ?_
  rintro e w2 ⟨rfl, n2⟩
  clear x0 x1 x2 x3 f0 f1 f2 f3
  have zs := n2.size
  have B := B.on n2
  have vx := keepC n2 vx (by omega)
  have vy := keepC n2 vy (by omega)
  have vu := keepC n2 vu (by omega)
  have d := d.trans (n2.mono d.size)
  clear n2
  have nq := aBelow w2 (.cells #[.int .i64 A, .string ⟨#[]⟩, .slice none 0 0, .slice none 0 0] 39)
  have Q := QB.new w2 w2.heap.size rfl A ⟨#[]⟩ (.slice none 0 0) (.slice none 0 0)
  have zq := Q.lt
  have B := B.on nq
  have vx := keepC nq vx (by omega)
  have vy := keepC nq vy (by omega)
  have vu := keepC nq vu (by omega)
  have d := d.trans (nq.mono d.size)
  have hqr : w2.heap.size ≠ w.heap.size := by omega
  have hqb : bw < w2.heap.size := by omega
  clear nq
  obtain ⟨⟨x0, x1, x2, x3⟩, ⟨f0, f1, f2, f3⟩, _⟩ := id B
  obtain ⟨⟨q0, q1, q2, q3⟩, ⟨e0, e1, e2, e3⟩, _⟩ := id Q
  go_wp2_with fail
  refine (HC.out _).mono ?_
  rintro e w3 ⟨rfl, n3⟩
  clear x0 x1 x2 x3 f0 f1 f2 f3
  clear q0 q1 q2 q3 e0 e1 e2 e3
  have zs := n3.size
  have B := B.on n3
  have Q := Q.on n3
  have vx := keepC n3 vx (by omega)
  have vy := keepC n3 vy (by omega)
  have vu := keepC n3 vu (by omega)
  have d := d.trans (n3.mono d.size)
  clear n3
  obtain ⟨⟨x0, x1, x2, x3⟩, ⟨f0, f1, f2, f3⟩, _⟩ := id B
  obtain ⟨⟨q0, q1, q2, q3⟩, ⟨e0, e1, e2, e3⟩, _⟩ := id Q
  have dd := Lib.hid ((((d.setCell (p := ⟨w.heap.size, 0, none⟩) (Nat.le_refl _) (.int .i64 0)).setCell (p := ⟨w.heap.size, 1, none⟩) (Nat.le_refl _) (.string ⟨#[]⟩)).setCell (p := ⟨w.heap.size, 2, none⟩) (Nat.le_refl _) (.slice none 0 0)).setCell (p := ⟨w.heap.size, 3, none⟩) (Nat.le_refl _) (.slice none 0 0))
  go_wp2_with fail
  exact bodyPost_ret (v := .tuple #[.agg #[.int .i64 0, .string ⟨#[]⟩, .slice none 0 0, .slice none 0 0], .int .i64 (2)]) (by simp [results, Tryz.results26, go_sem, x0, x1, x2, x3]) rfl ⟨⟨_, rfl, qnone_row _⟩, dd.out⟩
set_option maxRecDepth 100000 in
set_option maxHeartbeats 2000000 in
theorem refQparse_name4 (s x y z u : ByteArray) (w : World) (hs : s.size ≤ 900) (hf : fieldsB s = [x, y, z, u]) (hz : eqB z ⟨#[98, 121]⟩ = true) (hy : y.size ≤ 900) (ha : ¬ aggN x.data.toList = 0) (p : List UInt8 × List UInt8) (hk : kcut y.data.toList = some p) (hn : Word.name p.1 = false) :
    Calls Tryz.prog 26 #[.string s] w fun e w' => (∃ qv, e = .returned (.tuple #[qv, .int .i64 2]) ∧ QRow w' qv qnone) ∧ Below w.heap.size w w' := by
  have HF := Lib.hid (fun W => refFields_any s W (by omega))
  rw [hf] at HF
  have hzq := (beq_ba z ⟨#[98, 121]⟩).trans hz
  have hzl : (⟨#[98, 121]⟩ : ByteArray).toList = [98, 121] := by rw [ByteArray.toList_eq]
  rw [hzl] at hzq
  clear hz hzl
  have HA := Lib.hid (fun W => refAgg_any x W)
  have HC := Lib.hid (fun W => refCut_any y W (by omega))
  rw [kcutB_some hk] at HC
  obtain ⟨n, hnE⟩ : ∃ n, n = bb p.1 := ⟨_, rfl⟩
  obtain ⟨i, hiE⟩ : ∃ i, i = bb p.2 := ⟨_, rfl⟩
  rw [← hnE, ← hiE] at HC
  have hzb : ∀ l : List UInt8, (bb l).size = l.length := fun l => by rw [← size_l, bb_list]
  have hkl := kcut_len hk
  have hyl := size_l y
  have hnz : n.size ≤ 900 := by rw [hnE, hzb]; omega
  have hiz : i.size ≤ 900 := by rw [hiE, hzb]; omega
  have HN := Lib.hid (fun W => refName_any n W (by omega))
  rw [show Word.name n.data.toList = Word.name p.1 from by rw [hnE, bb_list], hn] at HN
  clear hkl hyl hzb hk hn
  clear hnE hiE hnz hiz
  generalize aggN x.data.toList = A at *
  have hq : (A == 0) = false := by simp [ha]
  go_enter Tryz.func26, Tryz.ntmps26
  go_wp2_with fail
  refine (HF.out _).mono ?_
  rintro e w1 ⟨⟨v1, rfl, r1⟩, n1⟩
  obtain ⟨a1, c1, rfl, hc1, hat⟩ := r1
  obtain ⟨bw, o, rfl, hbw, hL⟩ := hat (by simp)
  have vx : w1.cell? ⟨bw, o, none⟩ = some (.string x) := hL 0 x rfl
  have vy := hL 1 y rfl
  have vz := hL 2 z rfl
  have vu := hL 3 u rfl
  have B := (QB.new w w.heap.size rfl 0 ⟨#[]⟩ (.slice none 0 0) (.slice none 0 0)).on n1
  have d := belowA n1
  have zw := B.lt
  clear n1 hat
  obtain ⟨⟨x0, x1, x2, x3⟩, ⟨f0, f1, f2, f3⟩, _⟩ := id B
  have hlen : [x, y, z, u].length = 4 := rfl
  rw [hlen] at hc1 ⊢
  clear hlen
  go_wp2_with fail
  refine (HA.out _).mono ?_
  rintro e w2 ⟨rfl, n2⟩
  clear x0 x1 x2 x3 f0 f1 f2 f3
  have zs := n2.size
  have B := B.on n2
  have vx := keepC n2 vx (by omega)
  have vy := keepC n2 vy (by omega)
  have vu := keepC n2 vu (by omega)
  have d := d.trans (n2.mono d.size)
  clear n2
  have nq := aBelow w2 (.cells #[.int .i64 A, .string ⟨#[]⟩, .slice none 0 0, .slice none 0 0] 39)
  have Q := QB.new w2 w2.heap.size rfl A ⟨#[]⟩ (.slice none 0 0) (.slice none 0 0)
  have zq := Q.lt
  have B := B.on nq
  have vx := keepC nq vx (by omega)
  have vy := keepC nq vy (by omega)
  have vu := keepC nq vu (by omega)
  have d := d.trans (nq.mono d.size)
  have hqr : w2.heap.size ≠ w.heap.size := by omega
  have hqb : bw < w2.heap.size := by omega
  clear nq
  obtain ⟨⟨x0, x1, x2, x3⟩, ⟨f0, f1, f2, f3⟩, _⟩ := id B
  obtain ⟨⟨q0, q1, q2, q3⟩, ⟨e0, e1, e2, e3⟩, _⟩ := id Q
  go_wp2_with fail
  refine (HC.out _).mono ?_
  rintro e w3 ⟨rfl, n3⟩
  clear x0 x1 x2 x3 f0 f1 f2 f3
  clear q0 q1 q2 q3 e0 e1 e2 e3
  have zs := n3.size
  have B := B.on n3
  have Q := Q.on n3
  have vx := keepC n3 vx (by omega)
  have vy := keepC n3 vy (by omega)
  have vu := keepC n3 vu (by omega)
  have d := d.trans (n3.mono d.size)
  clear n3
  obtain ⟨⟨x0, x1, x2, x3⟩, ⟨f0, f1, f2, f3⟩, _⟩ := id B
  obtain ⟨⟨q0, q1, q2, q3⟩, ⟨e0, e1, e2, e3⟩, _⟩ := id Q
  go_wp2_with fail
  refine (HN.out _).mono ?_
  rintro e w4 ⟨rfl, hw⟩
  have hw := hw.symm
  subst hw
  have dd := Lib.hid ((((d.setCell (p := ⟨w.heap.size, 0, none⟩) (Nat.le_refl _) (.int .i64 0)).setCell (p := ⟨w.heap.size, 1, none⟩) (Nat.le_refl _) (.string ⟨#[]⟩)).setCell (p := ⟨w.heap.size, 2, none⟩) (Nat.le_refl _) (.slice none 0 0)).setCell (p := ⟨w.heap.size, 3, none⟩) (Nat.le_refl _) (.slice none 0 0))
  go_wp2_with fail
  exact bodyPost_ret (v := .tuple #[.agg #[.int .i64 0, .string ⟨#[]⟩, .slice none 0 0, .slice none 0 0], .int .i64 (2)]) (by simp [results, Tryz.results26, go_sem, x0, x1, x2, x3]) rfl ⟨⟨_, rfl, qnone_row _⟩, dd.out⟩
set_option maxRecDepth 100000 in
set_option maxHeartbeats 2000000 in
theorem refQparse_mat4 (s x y z u : ByteArray) (w : World) (hs : s.size ≤ 900) (hf : fieldsB s = [x, y, z, u]) (hz : eqB z ⟨#[98, 121]⟩ = true) (hy : y.size ≤ 900) (ha : ¬ aggN x.data.toList = 0) (p : List UInt8 × List UInt8) (hk : kcut y.data.toList = some p) (hn : Word.name p.1 = true) (hc : ¬ (pparse p.2).2 = 0) :
    Calls Tryz.prog 26 #[.string s] w fun e w' => (∃ qv, e = .returned (.tuple #[qv, .int .i64 (pparse p.2).2]) ∧ QRow w' qv qnone) ∧ Below w.heap.size w w' := by
  have HF := Lib.hid (fun W => refFields_any s W (by omega))
  rw [hf] at HF
  have hzq := (beq_ba z ⟨#[98, 121]⟩).trans hz
  have hzl : (⟨#[98, 121]⟩ : ByteArray).toList = [98, 121] := by rw [ByteArray.toList_eq]
  rw [hzl] at hzq
  clear hz hzl
  have HA := Lib.hid (fun W => refAgg_any x W)
  have HC := Lib.hid (fun W => refCut_any y W (by omega))
  rw [kcutB_some hk] at HC
  obtain ⟨n, hnE⟩ : ∃ n, n = bb p.1 := ⟨_, rfl⟩
  obtain ⟨i, hiE⟩ : ∃ i, i = bb p.2 := ⟨_, rfl⟩
  rw [← hnE, ← hiE] at HC
  have hzb : ∀ l : List UInt8, (bb l).size = l.length := fun l => by rw [← size_l, bb_list]
  have hkl := kcut_len hk
  have hyl := size_l y
  have hnz : n.size ≤ 900 := by rw [hnE, hzb]; omega
  have hiz : i.size ≤ 900 := by rw [hiE, hzb]; omega
  have HN := Lib.hid (fun W => refName_any n W (by omega))
  rw [show Word.name n.data.toList = Word.name p.1 from by rw [hnE, bb_list], hn] at HN
  have HP := Lib.hid (fun W => refParseM_any i W hiz)
  rw [show pparse i.data.toList = pparse p.2 from by rw [hiE, bb_list]] at HP
  clear hkl hyl hzb hk hn
  clear hnE hiE hnz hiz
  generalize aggN x.data.toList = A at *
  generalize pparse p.2 = C at *
  have hq : (A == 0) = false := by simp [ha]
  have hcq : (C.2 == 0) = false := by simp [hc]
  go_enter Tryz.func26, Tryz.ntmps26
  go_wp2_with fail
  refine (HF.out _).mono ?_
  rintro e w1 ⟨⟨v1, rfl, r1⟩, n1⟩
  obtain ⟨a1, c1, rfl, hc1, hat⟩ := r1
  obtain ⟨bw, o, rfl, hbw, hL⟩ := hat (by simp)
  have vx : w1.cell? ⟨bw, o, none⟩ = some (.string x) := hL 0 x rfl
  have vy := hL 1 y rfl
  have vz := hL 2 z rfl
  have vu := hL 3 u rfl
  have B := (QB.new w w.heap.size rfl 0 ⟨#[]⟩ (.slice none 0 0) (.slice none 0 0)).on n1
  have d := belowA n1
  have zw := B.lt
  clear n1 hat
  obtain ⟨⟨x0, x1, x2, x3⟩, ⟨f0, f1, f2, f3⟩, _⟩ := id B
  have hlen : [x, y, z, u].length = 4 := rfl
  rw [hlen] at hc1 ⊢
  clear hlen
  go_wp2_with fail
  refine (HA.out _).mono ?_
  rintro e w2 ⟨rfl, n2⟩
  clear x0 x1 x2 x3 f0 f1 f2 f3
  have zs := n2.size
  have B := B.on n2
  have vx := keepC n2 vx (by omega)
  have vy := keepC n2 vy (by omega)
  have vu := keepC n2 vu (by omega)
  have d := d.trans (n2.mono d.size)
  clear n2
  have nq := aBelow w2 (.cells #[.int .i64 A, .string ⟨#[]⟩, .slice none 0 0, .slice none 0 0] 39)
  have Q := QB.new w2 w2.heap.size rfl A ⟨#[]⟩ (.slice none 0 0) (.slice none 0 0)
  have zq := Q.lt
  have B := B.on nq
  have vx := keepC nq vx (by omega)
  have vy := keepC nq vy (by omega)
  have vu := keepC nq vu (by omega)
  have d := d.trans (nq.mono d.size)
  have hqr : w2.heap.size ≠ w.heap.size := by omega
  have hqb : bw < w2.heap.size := by omega
  clear nq
  obtain ⟨⟨x0, x1, x2, x3⟩, ⟨f0, f1, f2, f3⟩, _⟩ := id B
  obtain ⟨⟨q0, q1, q2, q3⟩, ⟨e0, e1, e2, e3⟩, _⟩ := id Q
  go_wp2_with fail
  refine (HC.out _).mono ?_
  rintro e w3 ⟨rfl, n3⟩
  clear x0 x1 x2 x3 f0 f1 f2 f3
  clear q0 q1 q2 q3 e0 e1 e2 e3
  have zs := n3.size
  have B := B.on n3
  have Q := Q.on n3
  have vx := keepC n3 vx (by omega)
  have vy := keepC n3 vy (by omega)
  have vu := keepC n3 vu (by omega)
  have d := d.trans (n3.mono d.size)
  clear n3
  obtain ⟨⟨x0, x1, x2, x3⟩, ⟨f0, f1, f2, f3⟩, _⟩ := id B
  obtain ⟨⟨q0, q1, q2, q3⟩, ⟨e0, e1, e2, e3⟩, _⟩ := id Q
  go_wp2_with fail
  refine (HN.out _).mono ?_
  rintro e w4 ⟨rfl, hw⟩
  have hw := hw.symm
  subst hw
  go_wp2_with fail
  refine (HP.out _).mono ?_
  rintro e w5 ⟨⟨v5, rfl, M⟩, n5⟩
  clear x0 x1 x2 x3 f0 f1 f2 f3
  clear q0 q1 q2 q3 e0 e1 e2 e3
  have zs := n5.size
  have B := B.on n5
  have Q := Q.on n5
  have vx := keepC n5 vx (by omega)
  have vy := keepC n5 vy (by omega)
  have vu := keepC n5 vu (by omega)
  have d := d.trans (n5.mono d.size)
  obtain ⟨am, cm, rfl, hcm, hat⟩ := M
  have M : MRow w5 (.slice am C.1.length cm) C.1 := ⟨am, cm, rfl, hcm, hat⟩
  clear n5 hat hcm
  obtain ⟨⟨x0, x1, x2, x3⟩, ⟨f0, f1, f2, f3⟩, _⟩ := id B
  obtain ⟨⟨q0, q1, q2, q3⟩, ⟨e0, e1, e2, e3⟩, _⟩ := id Q
  have dd := Lib.hid ((((d.setCell (p := ⟨w.heap.size, 0, none⟩) (Nat.le_refl _) (.int .i64 0)).setCell (p := ⟨w.heap.size, 1, none⟩) (Nat.le_refl _) (.string ⟨#[]⟩)).setCell (p := ⟨w.heap.size, 2, none⟩) (Nat.le_refl _) (.slice none 0 0)).setCell (p := ⟨w.heap.size, 3, none⟩) (Nat.le_refl _) (.slice none 0 0))
  go_wp2_with fail
  exact bodyPost_ret (v := .tuple #[.agg #[.int .i64 0, .string ⟨#[]⟩, .slice none 0 0, .slice none 0 0], .int .i64 (C.2)]) (by simp [results, Tryz.results26, go_sem, x0, x1, x2, x3]) rfl ⟨⟨_, rfl, qnone_row _⟩, dd.out⟩
set_option maxRecDepth 100000 in
set_option maxHeartbeats 2000000 in
theorem refQparse_by (s x y z u : ByteArray) (w : World) (hs : s.size ≤ 900) (hf : fieldsB s = [x, y, z, u]) (hz : eqB z ⟨#[98, 121]⟩ = true) (hy : y.size ≤ 900) (hu : u.size ≤ 900) (ha : ¬ aggN x.data.toList = 0) (p : List UInt8 × List UInt8) (hk : kcut y.data.toList = some p) (hn : Word.name p.1 = true) (hc : (pparse p.2).2 = 0) (he : ¬ byE (partsQ u.data.toList) = 0) :
    Calls Tryz.prog 26 #[.string s] w fun e w' => (∃ qv, e = .returned (.tuple #[qv, .int .i64 (byE (partsQ u.data.toList))]) ∧ QRow w' qv qnone) ∧ Below w.heap.size w w' := by
  have HF := Lib.hid (fun W => refFields_any s W (by omega))
  rw [hf] at HF
  have hzq := (beq_ba z ⟨#[98, 121]⟩).trans hz
  have hzl : (⟨#[98, 121]⟩ : ByteArray).toList = [98, 121] := by rw [ByteArray.toList_eq]
  rw [hzl] at hzq
  clear hz hzl
  have HA := Lib.hid (fun W => refAgg_any x W)
  have HC := Lib.hid (fun W => refCut_any y W (by omega))
  rw [kcutB_some hk] at HC
  obtain ⟨n, hnE⟩ : ∃ n, n = bb p.1 := ⟨_, rfl⟩
  obtain ⟨i, hiE⟩ : ∃ i, i = bb p.2 := ⟨_, rfl⟩
  rw [← hnE, ← hiE] at HC
  have hzb : ∀ l : List UInt8, (bb l).size = l.length := fun l => by rw [← size_l, bb_list]
  have hkl := kcut_len hk
  have hyl := size_l y
  have hnz : n.size ≤ 900 := by rw [hnE, hzb]; omega
  have hiz : i.size ≤ 900 := by rw [hiE, hzb]; omega
  have HN := Lib.hid (fun W => refName_any n W (by omega))
  rw [show Word.name n.data.toList = Word.name p.1 from by rw [hnE, bb_list], hn] at HN
  have HP := Lib.hid (fun W => refParseM_any i W hiz)
  rw [show pparse i.data.toList = pparse p.2 from by rw [hiE, bb_list]] at HP
  clear hkl hyl hzb hk hn
  have HSp : Hid (∀ W, Calls Tryz.prog 42 #[.string u, .int .u8 44] W fun e w' => (∃ v, e = .returned v ∧ Own w' W.heap.size v (partsQ u.data.toList)) ∧ Below W.heap.size W w') := fun W => refSplit_own u 44 W (by omega)
  obtain ⟨t1, t2⟩ := partsQ_small u hu
  have t0 : partsQ u.data.toList ≠ [] := by
    unfold partsQ
    intro e
    have h5 := congrArg List.length e
    rw [List.length_map] at h5
    exact Word.parts_ne 44 _ (List.length_eq_zero_iff.1 h5)
  have HNm := Lib.hid (fun v W (h : Row W v (partsQ u.data.toList)) => refNames_any v _ W h (by omega) (fun x hx => by have := t2 x hx; omega))
  have HBy := Lib.hid (fun (h : byE (partsQ u.data.toList) = 0) => (byE_ok h).1)
  clear t1 t2
  generalize partsQ u.data.toList = P at *
  clear hiE hnE hnz hiz
  generalize aggN x.data.toList = A at *
  generalize pparse p.2 = C at *
  obtain ⟨CM, CE⟩ := C
  dsimp only at hc
  subst hc
  obtain ⟨C, hCE⟩ : ∃ C : List Match × Int, C = (CM, 0) := ⟨_, rfl⟩
  have hC1 : CM = C.1 := by rw [hCE]
  have hC2 : (0 : Int) = C.2 := by rw [hCE]
  dsimp only at HP
  rw [hC1] at HP
  clear hCE hC1 hC2
  have hq : (A == 0) = false := by simp [ha]
  go_enter Tryz.func26, Tryz.ntmps26
  go_wp2_with fail
  refine (HF.out _).mono ?_
  rintro e w1 ⟨⟨v1, rfl, r1⟩, n1⟩
  obtain ⟨a1, c1, rfl, hc1, hat⟩ := r1
  obtain ⟨bw, o, rfl, hbw, hL⟩ := hat (by simp)
  have vx : w1.cell? ⟨bw, o, none⟩ = some (.string x) := hL 0 x rfl
  have vy := hL 1 y rfl
  have vz := hL 2 z rfl
  have vu := hL 3 u rfl
  have B := (QB.new w w.heap.size rfl 0 ⟨#[]⟩ (.slice none 0 0) (.slice none 0 0)).on n1
  have d := belowA n1
  have zw := B.lt
  clear n1 hat
  obtain ⟨⟨x0, x1, x2, x3⟩, ⟨f0, f1, f2, f3⟩, _⟩ := id B
  have hlen : [x, y, z, u].length = 4 := rfl
  rw [hlen] at hc1 ⊢
  clear hlen
  go_wp2_with fail
  refine (HA.out _).mono ?_
  rintro e w2 ⟨rfl, n2⟩
  clear x0 x1 x2 x3 f0 f1 f2 f3
  have zs := n2.size
  have B := B.on n2
  have vx := keepC n2 vx (by omega)
  have vy := keepC n2 vy (by omega)
  have vu := keepC n2 vu (by omega)
  have d := d.trans (n2.mono d.size)
  clear n2
  have nq := aBelow w2 (.cells #[.int .i64 A, .string ⟨#[]⟩, .slice none 0 0, .slice none 0 0] 39)
  have Q := QB.new w2 w2.heap.size rfl A ⟨#[]⟩ (.slice none 0 0) (.slice none 0 0)
  have zq := Q.lt
  have B := B.on nq
  have vx := keepC nq vx (by omega)
  have vy := keepC nq vy (by omega)
  have vu := keepC nq vu (by omega)
  have d := d.trans (nq.mono d.size)
  have hqr : w2.heap.size ≠ w.heap.size := by omega
  have hqb : bw < w2.heap.size := by omega
  clear nq
  obtain ⟨⟨x0, x1, x2, x3⟩, ⟨f0, f1, f2, f3⟩, _⟩ := id B
  obtain ⟨⟨q0, q1, q2, q3⟩, ⟨e0, e1, e2, e3⟩, _⟩ := id Q
  go_wp2_with fail
  refine (HC.out _).mono ?_
  rintro e w3 ⟨rfl, n3⟩
  clear x0 x1 x2 x3 f0 f1 f2 f3
  clear q0 q1 q2 q3 e0 e1 e2 e3
  have zs := n3.size
  have B := B.on n3
  have Q := Q.on n3
  have vx := keepC n3 vx (by omega)
  have vy := keepC n3 vy (by omega)
  have vu := keepC n3 vu (by omega)
  have d := d.trans (n3.mono d.size)
  clear n3
  obtain ⟨⟨x0, x1, x2, x3⟩, ⟨f0, f1, f2, f3⟩, _⟩ := id B
  obtain ⟨⟨q0, q1, q2, q3⟩, ⟨e0, e1, e2, e3⟩, _⟩ := id Q
  go_wp2_with fail
  refine (HN.out _).mono ?_
  rintro e w4 ⟨rfl, hw⟩
  have hw := hw.symm
  subst hw
  go_wp2_with fail
  refine (HP.out _).mono ?_
  rintro e w5 ⟨⟨v5, rfl, M⟩, n5⟩
  clear x0 x1 x2 x3 f0 f1 f2 f3
  clear q0 q1 q2 q3 e0 e1 e2 e3
  have zs := n5.size
  have B := B.on n5
  have Q := Q.on n5
  have vx := keepC n5 vx (by omega)
  have vy := keepC n5 vy (by omega)
  have vu := keepC n5 vu (by omega)
  have d := d.trans (n5.mono d.size)
  obtain ⟨am, cm, rfl, hcm, hat⟩ := M
  have M : MRow w5 (.slice am C.1.length cm) C.1 := ⟨am, cm, rfl, hcm, hat⟩
  clear n5 hat hcm
  obtain ⟨⟨x0, x1, x2, x3⟩, ⟨f0, f1, f2, f3⟩, _⟩ := id B
  obtain ⟨⟨q0, q1, q2, q3⟩, ⟨e0, e1, e2, e3⟩, _⟩ := id Q
  have G := Lib.grownBy_setB (Lib.grownBy_setCell w5 w2.heap.size 1 (.string n)) 2 (.slice am C.1.length cm)
  have M2 := mrow_far4 Q M G
  have Q2 := Q.set12 n (.slice am C.1.length cm)
  have B2 := B.far (Ne.symm hqr) G
  have vu2 : ((w5.setCell ⟨w2.heap.size, 1, none⟩ (.string n)).setCell ⟨w2.heap.size, 2, none⟩ (.slice am C.1.length cm)).cell? ⟨bw, o + 3, none⟩ = some (.string u) := (G.cell_far ⟨bw, o + 3, none⟩ (by show bw < w5.heap.size; omega) (fun e => by have : bw = w2.heap.size := Option.some.inj e; omega)).trans vu
  have d2 := (d.setCell (p := ⟨w2.heap.size, 1, none⟩) (by show w.heap.size ≤ w2.heap.size; omega) (.string n)).setCell (p := ⟨w2.heap.size, 2, none⟩) (by show w.heap.size ≤ w2.heap.size; omega) (.slice am C.1.length cm)
  have zs2 : w5.heap.size ≤ ((w5.setCell ⟨w2.heap.size, 1, none⟩ (.string n)).setCell ⟨w2.heap.size, 2, none⟩ (.slice am C.1.length cm)).heap.size := G.size
  have HS := Lib.hid (And.intro M2 (And.intro Q2 (And.intro B2 d2)))
  clear M2 Q2 B2 d2 M B d G vx vy
  go_wp2_with fail
  clear x0 x1 x2 x3 f0 f1 f2 f3
  clear q0 q1 q2 q3 e0 e1 e2 e3
  clear Q
  obtain ⟨M, Q, B, d⟩ := HS.out
  clear HS
  generalize ((w5.setCell ⟨w2.heap.size, 1, none⟩ (.string n)).setCell ⟨w2.heap.size, 2, none⟩ (.slice am C.1.length cm)) = w6 at *
  refine (HSp.out _).mono ?_
  rintro e w7 ⟨⟨v7, rfl, O7⟩, n7⟩
  obtain ⟨b7, c7, rfl, hc7, hb7, hl7, L7⟩ := own_text O7 t0
  have M := M.on n7
  have Q := Q.on n7
  have B := B.on n7
  have d := d.trans (n7.mono d.size)
  have zs7 := n7.size
  have zq7 := Q.lt
  have hne7 : b7 ≠ w2.heap.size := by omega
  clear n7 O7 vu2
  have G := Lib.grownBy_setCell w7 w2.heap.size 3 (.slice (some ⟨b7, 0, none⟩) P.length c7)
  have M2 := mrow_far4 Q M G
  have Q2 := Q.set3 (.slice (some ⟨b7, 0, none⟩) P.length c7)
  have B2 := B.far (Ne.symm hqr) G
  have r2 := Row.far L7 hc7 hl7 hne7 G
  have d2 := d.setCell (p := ⟨w2.heap.size, 3, none⟩) (by show w.heap.size ≤ w2.heap.size; omega) (.slice (some ⟨b7, 0, none⟩) P.length c7)
  have HS := Lib.hid (And.intro M2 (And.intro Q2 (And.intro B2 (And.intro r2 d2))))
  obtain ⟨⟨q0, q1, q2, q3⟩, ⟨e0, e1, e2, e3⟩, _⟩ := id Q
  obtain ⟨⟨y0, y1, y2, y3⟩, _, _⟩ := id Q2
  clear M2 Q2 B2 r2 d2 M B d G L7 Q
  go_wp2_with fail
  clear q0 q1 q2 q3 e0 e1 e2 e3 y0 y1 y2 y3
  obtain ⟨M, Q, B, r, d⟩ := HS.out
  clear HS
  generalize w7.setCell ⟨w2.heap.size, 3, none⟩ (.slice (some ⟨b7, 0, none⟩) P.length c7) = w8 at *
  refine (HNm.out _ _ r).mono ?_
  rintro e w9 ⟨rfl, n9⟩
  have M := M.on n9
  have Q := Q.on n9
  have B := B.on n9
  have r := r.on n9
  have d := d.trans (n9.mono d.size)
  clear n9 HNm
  have heq : (byE P == 0) = false := by simp [he]
  obtain ⟨⟨x0, x1, x2, x3⟩, ⟨f0, f1, f2, f3⟩, _⟩ := id B
  clear M Q B r
  have dd := Lib.hid ((((d.setCell (p := ⟨w.heap.size, 0, none⟩) (Nat.le_refl _) (.int .i64 0)).setCell (p := ⟨w.heap.size, 1, none⟩) (Nat.le_refl _) (.string ⟨#[]⟩)).setCell (p := ⟨w.heap.size, 2, none⟩) (Nat.le_refl _) (.slice none 0 0)).setCell (p := ⟨w.heap.size, 3, none⟩) (Nat.le_refl _) (.slice none 0 0))
  go_wp2_with fail
  exact bodyPost_ret (v := .tuple #[.agg #[.int .i64 0, .string ⟨#[]⟩, .slice none 0 0, .slice none 0 0], .int .i64 (byE P)]) (by simp [results, Tryz.results26, go_sem, x0, x1, x2, x3]) rfl ⟨⟨_, rfl, qnone_row _⟩, dd.out⟩
set_option maxRecDepth 100000 in
set_option maxHeartbeats 2000000 in
theorem refQparse_ok4 (s x y z u : ByteArray) (w : World) (hs : s.size ≤ 900) (hf : fieldsB s = [x, y, z, u]) (hz : eqB z ⟨#[98, 121]⟩ = true) (hy : y.size ≤ 900) (hu : u.size ≤ 900) (ha : ¬ aggN x.data.toList = 0) (p : List UInt8 × List UInt8) (hk : kcut y.data.toList = some p) (hn : Word.name p.1 = true) (hc : (pparse p.2).2 = 0) (he : byE (partsQ u.data.toList) = 0) :
    Calls Tryz.prog 26 #[.string s] w fun e w' => (∃ qv, e = .returned (.tuple #[qv, .int .i64 0]) ∧ QRow w' qv (aggN x.data.toList, bb p.1, (pparse p.2).1, partsQ u.data.toList)) ∧ Below w.heap.size w w' := by
  have HF := Lib.hid (fun W => refFields_any s W (by omega))
  rw [hf] at HF
  have hzq := (beq_ba z ⟨#[98, 121]⟩).trans hz
  have hzl : (⟨#[98, 121]⟩ : ByteArray).toList = [98, 121] := by rw [ByteArray.toList_eq]
  rw [hzl] at hzq
  clear hz hzl
  have HA := Lib.hid (fun W => refAgg_any x W)
  have HC := Lib.hid (fun W => refCut_any y W (by omega))
  rw [kcutB_some hk] at HC
  obtain ⟨n, hnE⟩ : ∃ n, n = bb p.1 := ⟨_, rfl⟩
  obtain ⟨i, hiE⟩ : ∃ i, i = bb p.2 := ⟨_, rfl⟩
  rw [← hnE, ← hiE] at HC
  have hzb : ∀ l : List UInt8, (bb l).size = l.length := fun l => by rw [← size_l, bb_list]
  have hkl := kcut_len hk
  have hyl := size_l y
  have hnz : n.size ≤ 900 := by rw [hnE, hzb]; omega
  have hiz : i.size ≤ 900 := by rw [hiE, hzb]; omega
  have HN := Lib.hid (fun W => refName_any n W (by omega))
  rw [show Word.name n.data.toList = Word.name p.1 from by rw [hnE, bb_list], hn] at HN
  have HP := Lib.hid (fun W => refParseM_any i W hiz)
  rw [show pparse i.data.toList = pparse p.2 from by rw [hiE, bb_list]] at HP
  clear hkl hyl hzb hk hn
  have HSp : Hid (∀ W, Calls Tryz.prog 42 #[.string u, .int .u8 44] W fun e w' => (∃ v, e = .returned v ∧ Own w' W.heap.size v (partsQ u.data.toList)) ∧ Below W.heap.size W w') := fun W => refSplit_own u 44 W (by omega)
  obtain ⟨t1, t2⟩ := partsQ_small u hu
  have t0 : partsQ u.data.toList ≠ [] := by
    unfold partsQ
    intro e
    have h5 := congrArg List.length e
    rw [List.length_map] at h5
    exact Word.parts_ne 44 _ (List.length_eq_zero_iff.1 h5)
  have HNm := Lib.hid (fun v W (h : Row W v (partsQ u.data.toList)) => refNames_any v _ W h (by omega) (fun x hx => by have := t2 x hx; omega))
  have HBy := Lib.hid (fun (h : byE (partsQ u.data.toList) = 0) => (byE_ok h).1)
  clear t1 t2
  generalize partsQ u.data.toList = P at *
  rw [← hnE]
  clear hiE hnE hnz hiz
  generalize aggN x.data.toList = A at *
  generalize pparse p.2 = C at *
  obtain ⟨CM, CE⟩ := C
  dsimp only at hc
  subst hc
  obtain ⟨C, hCE⟩ : ∃ C : List Match × Int, C = (CM, 0) := ⟨_, rfl⟩
  have hC1 : CM = C.1 := by rw [hCE]
  have hC2 : (0 : Int) = C.2 := by rw [hCE]
  dsimp only at HP ⊢
  rw [hC1] at HP ⊢
  clear hCE hC1 hC2
  have hq : (A == 0) = false := by simp [ha]
  go_enter Tryz.func26, Tryz.ntmps26
  go_wp2_with fail
  refine (HF.out _).mono ?_
  rintro e w1 ⟨⟨v1, rfl, r1⟩, n1⟩
  obtain ⟨a1, c1, rfl, hc1, hat⟩ := r1
  obtain ⟨bw, o, rfl, hbw, hL⟩ := hat (by simp)
  have vx : w1.cell? ⟨bw, o, none⟩ = some (.string x) := hL 0 x rfl
  have vy := hL 1 y rfl
  have vz := hL 2 z rfl
  have vu := hL 3 u rfl
  have B := (QB.new w w.heap.size rfl 0 ⟨#[]⟩ (.slice none 0 0) (.slice none 0 0)).on n1
  have d := belowA n1
  have zw := B.lt
  clear n1 hat
  obtain ⟨⟨x0, x1, x2, x3⟩, ⟨f0, f1, f2, f3⟩, _⟩ := id B
  have hlen : [x, y, z, u].length = 4 := rfl
  rw [hlen] at hc1 ⊢
  clear hlen
  go_wp2_with fail
  refine (HA.out _).mono ?_
  rintro e w2 ⟨rfl, n2⟩
  clear x0 x1 x2 x3 f0 f1 f2 f3
  have zs := n2.size
  have B := B.on n2
  have vx := keepC n2 vx (by omega)
  have vy := keepC n2 vy (by omega)
  have vu := keepC n2 vu (by omega)
  have d := d.trans (n2.mono d.size)
  clear n2
  have nq := aBelow w2 (.cells #[.int .i64 A, .string ⟨#[]⟩, .slice none 0 0, .slice none 0 0] 39)
  have Q := QB.new w2 w2.heap.size rfl A ⟨#[]⟩ (.slice none 0 0) (.slice none 0 0)
  have zq := Q.lt
  have B := B.on nq
  have vx := keepC nq vx (by omega)
  have vy := keepC nq vy (by omega)
  have vu := keepC nq vu (by omega)
  have d := d.trans (nq.mono d.size)
  have hqr : w2.heap.size ≠ w.heap.size := by omega
  have hqb : bw < w2.heap.size := by omega
  clear nq
  obtain ⟨⟨x0, x1, x2, x3⟩, ⟨f0, f1, f2, f3⟩, _⟩ := id B
  obtain ⟨⟨q0, q1, q2, q3⟩, ⟨e0, e1, e2, e3⟩, _⟩ := id Q
  go_wp2_with fail
  refine (HC.out _).mono ?_
  rintro e w3 ⟨rfl, n3⟩
  clear x0 x1 x2 x3 f0 f1 f2 f3
  clear q0 q1 q2 q3 e0 e1 e2 e3
  have zs := n3.size
  have B := B.on n3
  have Q := Q.on n3
  have vx := keepC n3 vx (by omega)
  have vy := keepC n3 vy (by omega)
  have vu := keepC n3 vu (by omega)
  have d := d.trans (n3.mono d.size)
  clear n3
  obtain ⟨⟨x0, x1, x2, x3⟩, ⟨f0, f1, f2, f3⟩, _⟩ := id B
  obtain ⟨⟨q0, q1, q2, q3⟩, ⟨e0, e1, e2, e3⟩, _⟩ := id Q
  go_wp2_with fail
  refine (HN.out _).mono ?_
  rintro e w4 ⟨rfl, hw⟩
  have hw := hw.symm
  subst hw
  go_wp2_with fail
  refine (HP.out _).mono ?_
  rintro e w5 ⟨⟨v5, rfl, M⟩, n5⟩
  clear x0 x1 x2 x3 f0 f1 f2 f3
  clear q0 q1 q2 q3 e0 e1 e2 e3
  have zs := n5.size
  have B := B.on n5
  have Q := Q.on n5
  have vx := keepC n5 vx (by omega)
  have vy := keepC n5 vy (by omega)
  have vu := keepC n5 vu (by omega)
  have d := d.trans (n5.mono d.size)
  obtain ⟨am, cm, rfl, hcm, hat⟩ := M
  have M : MRow w5 (.slice am C.1.length cm) C.1 := ⟨am, cm, rfl, hcm, hat⟩
  clear n5 hat hcm
  obtain ⟨⟨x0, x1, x2, x3⟩, ⟨f0, f1, f2, f3⟩, _⟩ := id B
  obtain ⟨⟨q0, q1, q2, q3⟩, ⟨e0, e1, e2, e3⟩, _⟩ := id Q
  have G := Lib.grownBy_setB (Lib.grownBy_setCell w5 w2.heap.size 1 (.string n)) 2 (.slice am C.1.length cm)
  have M2 := mrow_far4 Q M G
  have Q2 := Q.set12 n (.slice am C.1.length cm)
  have B2 := B.far (Ne.symm hqr) G
  have vu2 : ((w5.setCell ⟨w2.heap.size, 1, none⟩ (.string n)).setCell ⟨w2.heap.size, 2, none⟩ (.slice am C.1.length cm)).cell? ⟨bw, o + 3, none⟩ = some (.string u) := (G.cell_far ⟨bw, o + 3, none⟩ (by show bw < w5.heap.size; omega) (fun e => by have : bw = w2.heap.size := Option.some.inj e; omega)).trans vu
  have d2 := (d.setCell (p := ⟨w2.heap.size, 1, none⟩) (by show w.heap.size ≤ w2.heap.size; omega) (.string n)).setCell (p := ⟨w2.heap.size, 2, none⟩) (by show w.heap.size ≤ w2.heap.size; omega) (.slice am C.1.length cm)
  have zs2 : w5.heap.size ≤ ((w5.setCell ⟨w2.heap.size, 1, none⟩ (.string n)).setCell ⟨w2.heap.size, 2, none⟩ (.slice am C.1.length cm)).heap.size := G.size
  have HS := Lib.hid (And.intro M2 (And.intro Q2 (And.intro B2 d2)))
  clear M2 Q2 B2 d2 M B d G vx vy
  go_wp2_with fail
  clear x0 x1 x2 x3 f0 f1 f2 f3
  clear q0 q1 q2 q3 e0 e1 e2 e3
  clear Q
  obtain ⟨M, Q, B, d⟩ := HS.out
  clear HS
  generalize ((w5.setCell ⟨w2.heap.size, 1, none⟩ (.string n)).setCell ⟨w2.heap.size, 2, none⟩ (.slice am C.1.length cm)) = w6 at *
  refine (HSp.out _).mono ?_
  rintro e w7 ⟨⟨v7, rfl, O7⟩, n7⟩
  obtain ⟨b7, c7, rfl, hc7, hb7, hl7, L7⟩ := own_text O7 t0
  have M := M.on n7
  have Q := Q.on n7
  have B := B.on n7
  have d := d.trans (n7.mono d.size)
  have zs7 := n7.size
  have zq7 := Q.lt
  have hne7 : b7 ≠ w2.heap.size := by omega
  clear n7 O7 vu2
  have G := Lib.grownBy_setCell w7 w2.heap.size 3 (.slice (some ⟨b7, 0, none⟩) P.length c7)
  have M2 := mrow_far4 Q M G
  have Q2 := Q.set3 (.slice (some ⟨b7, 0, none⟩) P.length c7)
  have B2 := B.far (Ne.symm hqr) G
  have r2 := Row.far L7 hc7 hl7 hne7 G
  have d2 := d.setCell (p := ⟨w2.heap.size, 3, none⟩) (by show w.heap.size ≤ w2.heap.size; omega) (.slice (some ⟨b7, 0, none⟩) P.length c7)
  have HS := Lib.hid (And.intro M2 (And.intro Q2 (And.intro B2 (And.intro r2 d2))))
  obtain ⟨⟨q0, q1, q2, q3⟩, ⟨e0, e1, e2, e3⟩, _⟩ := id Q
  obtain ⟨⟨y0, y1, y2, y3⟩, _, _⟩ := id Q2
  clear M2 Q2 B2 r2 d2 M B d G L7 Q
  go_wp2_with fail
  clear q0 q1 q2 q3 e0 e1 e2 e3 y0 y1 y2 y3
  obtain ⟨M, Q, B, r, d⟩ := HS.out
  clear HS
  generalize w7.setCell ⟨w2.heap.size, 3, none⟩ (.slice (some ⟨b7, 0, none⟩) P.length c7) = w8 at *
  refine (HNm.out _ _ r).mono ?_
  rintro e w9 ⟨rfl, n9⟩
  have M := M.on n9
  have Q := Q.on n9
  have B := B.on n9
  have r := r.on n9
  have d := d.trans (n9.mono d.size)
  clear n9 HNm
  have hnm := HBy.out he
  rw [he]
  have G := Lib.grownBy_setB (Lib.grownBy_setB (Lib.grownBy_setB (Lib.grownBy_setB (World.grownBy.refl w9 (some w.heap.size)) 0 (.int .i64 A)) 1 (.string n)) 2 (.slice am C.1.length cm)) 3 (.slice (some ⟨b7, 0, none⟩) P.length c7)
  have QR := Lib.hid (told_far (q := (A, n, C.1, P)) B.all G hnm M r)
  have dd := Lib.hid ((((d.setCell (p := ⟨w.heap.size, 0, none⟩) (Nat.le_refl _) (.int .i64 A)).setCell (p := ⟨w.heap.size, 1, none⟩) (Nat.le_refl _) (.string n)).setCell (p := ⟨w.heap.size, 2, none⟩) (Nat.le_refl _) (.slice am C.1.length cm)).setCell (p := ⟨w.heap.size, 3, none⟩) (Nat.le_refl _) (.slice (some ⟨b7, 0, none⟩) P.length c7))
  obtain ⟨⟨x0, x1, x2, x3⟩, ⟨f0, f1, f2, f3⟩, _⟩ := id B
  obtain ⟨⟨q0, q1, q2, q3⟩, ⟨e0, e1, e2, e3⟩, _⟩ := id Q
  clear M r B Q G
  go_wp2_with fail
  exact bodyPost_ret (v := .tuple #[.agg #[.int .i64 A, .string n, .slice am C.1.length cm, (.slice (some ⟨b7, 0, none⟩) P.length c7)], .int .i64 0]) (by simp [results, Tryz.results26, go_sem, x0, x1, x2, x3]) rfl ⟨⟨_, rfl, QR.out⟩, dd.out⟩
theorem refQparse_any (s : ByteArray) (w : World) (hs : s.size ≤ 900) :
    Calls Tryz.prog 26 #[.string s] w fun e w' => (∃ qv, e = .returned (.tuple #[qv, .int .i64 (qparse s.data.toList).2]) ∧ QRow w' qv (qparse s.data.toList).1) ∧ Below w.heap.size w w' := by
  have hsm := fieldsB_small s hs
  rw [← QP_fields s]
  by_cases h2 : (fieldsB s).length = 2
  · match hf : fieldsB s, h2 with
    | [x, y], _ =>
      have hy : y.size ≤ 900 := hsm y (by rw [hf]; simp)
      rw [QP_two]
      by_cases ha : aggN x.data.toList = 0
      · rw [qread_agg ha]
        exact refQparse_agg2 s x y w hs hf ha
      · cases hk : kcut y.data.toList with
        | none =>
          have hse : serE y.data.toList = 2 := serE_none hk
          rw [qread_series ha (by rw [hse]; decide), hse]
          exact refQparse_cut2 s x y w hs hf hy ha hk
        | some p =>
          cases hn : Word.name p.1
          · have hse : serE y.data.toList = 2 := serE_form hk hn
            rw [qread_series ha (by rw [hse]; decide), hse]
            exact refQparse_name2 s x y w hs hf hy ha p hk hn
          · have hse : serE y.data.toList = (pparse p.2).2 := serE_some hk hn
            by_cases hc : (pparse p.2).2 = 0
            · obtain ⟨p', k1, _, _, k4⟩ := qread_by (x := x.data.toList) (B := []) ha (hse.trans hc)
              rw [hk] at k1
              cases k1
              rw [k4, if_pos byE_nil]
              exact refQparse_ok2 s x y w hs hf hy ha p hk hn hc
            · rw [qread_series ha (by rw [hse]; exact hc), hse]
              exact refQparse_mat2 s x y w hs hf hy ha p hk hn hc
  · by_cases h4 : (fieldsB s).length = 4
    · match hf : fieldsB s, h4 with
      | [x, y, z, u], _ =>
        have hy : y.size ≤ 900 := hsm y (by rw [hf]; simp)
        have hu : u.size ≤ 900 := hsm u (by rw [hf]; simp)
        rw [QP_four]
        cases hz : eqB z ⟨#[98, 121]⟩
        · rw [if_neg (by simp)]
          exact refQparse_third s x y z u w hs hf hz
        · rw [if_pos rfl]
          by_cases ha : aggN x.data.toList = 0
          · rw [qread_agg ha]
            exact refQparse_agg4 s x y z u w hs hf hz ha
          · cases hk : kcut y.data.toList with
            | none =>
              have hse : serE y.data.toList = 2 := serE_none hk
              rw [qread_series ha (by rw [hse]; decide), hse]
              exact refQparse_cut4 s x y z u w hs hf hz hy ha hk
            | some p =>
              cases hn : Word.name p.1
              · have hse : serE y.data.toList = 2 := serE_form hk hn
                rw [qread_series ha (by rw [hse]; decide), hse]
                exact refQparse_name4 s x y z u w hs hf hz hy ha p hk hn
              · have hse : serE y.data.toList = (pparse p.2).2 := serE_some hk hn
                by_cases hc : (pparse p.2).2 = 0
                · obtain ⟨p', k1, _, _, k4⟩ := qread_by (x := x.data.toList) (B := partsQ u.data.toList) ha (hse.trans hc)
                  rw [hk] at k1
                  cases k1
                  rw [k4]
                  by_cases he : byE (partsQ u.data.toList) = 0
                  · rw [if_pos he]
                    exact refQparse_ok4 s x y z u w hs hf hz hy hu ha p hk hn hc he
                  · rw [if_neg he]
                    exact refQparse_by s x y z u w hs hf hz hy hu ha p hk hn hc he
                · rw [qread_series ha (by rw [hse]; exact hc), hse]
                  exact refQparse_mat4 s x y z u w hs hf hz hy ha p hk hn hc
    · rw [QP_else h2 h4]
      exact refQparse_else s (fieldsB s) w hs rfl h2 h4
end Go.Proofs.YtidkpalckafgkaaGreatDoor
