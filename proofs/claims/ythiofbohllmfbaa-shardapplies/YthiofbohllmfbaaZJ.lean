/- A write: a walk of the program's own; the program's own answers are those of the plain functions. -/
import Derived.Test.YthiofbohllmfbaaZD
import Derived.Test.YthiofbohllmfbaaZE
import Derived.Test.YthiofbohllmfbaaZH
import Derived.Test.YthiofbohllmfbaaZI
namespace Go.Proofs.Ythiofbohllmfbaa.Sh
open Go Go.RowKit Go.Sort Go.Lib Cl Ce Ch

/-- The entries once there is one of the place. -/
def midS (wi : Int) (key : ByteArray) (l : List Ent) : List Ent :=
  if thereS wi key l = true then l else l.take (aheadN wi key l) ++ (⟨wi, key, []⟩ :: l.drop (aheadN wi key l))
theorem midS_at (wi : Int) (key : ByteArray) (l : List Ent) : ∃ h : aheadN wi key l < (midS wi key l).length, (midS wi key l)[aheadN wi key l] = ⟨wi, key, oldV wi key (l.drop (aheadN wi key l))⟩ ∧
    ∀ F, (midS wi key l).set (aheadN wi key l) ⟨wi, key, F⟩ = l.take (aheadN wi key l) ++ [⟨wi, key, F⟩] ++ l.drop (aheadN wi key l + oldN wi key (l.drop (aheadN wi key l))) := by
  have hle := aheadN_le wi key l
  unfold midS thereS
  generalize aheadN wi key l = a at *
  cases hd : l.drop a with
  | nil =>
    have hla : l.length ≤ a := by
      have := congrArg List.length hd
      rw [List.length_drop] at this
      simp at this; omega
    have hea : a = l.length := by omega
    subst hea
    simp [oldV, oldN, List.take_of_length_le]
  | cons e r =>
    have hlt : a < l.length := by
      rcases Nat.lt_or_ge a l.length with q | q
      · exact q
      · rw [List.drop_of_length_le q] at hd; cases hd
    have hd2 := List.drop_eq_getElem_cons hlt
    rw [hd] at hd2
    injection hd2 with h1 h2
    simp only [oldV, oldN]
    by_cases hh : hitE wi key e = true
    rotate_left
    · have hh2 : hitE wi key e = false := by simpa using hh
      simp only [hh2, Bool.false_eq_true, if_false]
      have hl2 : a < (l.take a ++ (⟨wi, key, []⟩ :: e :: r)).length := by simp [List.length_take]; omega
      refine ⟨hl2, ?_, fun F => ?_⟩
      · rw [List.getElem_append_right (by simp [List.length_take]; omega)]
        simp [List.length_take, Nat.min_eq_left (Nat.le_of_lt hlt)]
      · rw [List.set_append_right _ _ (by simp [List.length_take]; omega)]
        simp [List.length_take, Nat.min_eq_left (Nat.le_of_lt hlt), hd]
    · simp only [hh, if_true]
      obtain ⟨k1, k2⟩ := hitE_true.1 hh
      refine ⟨hlt, ?_, fun F => ?_⟩
      · rw [← h1, ← k1, ← k2]
      · rw [List.set_eq_take_append_cons_drop, if_pos hlt]; simp
theorem okV_mem {wi : Int} {key : ByteArray} {l : List Ent} {p : Ver → Prop} {n : Nat} (h : ∀ e ∈ l, e.vs.length ≤ n ∧ ∀ y ∈ e.vs, p y) : (oldV wi key l).length ≤ n ∧ ∀ y ∈ oldV wi key l, p y := by
  cases l with
  | nil => exact ⟨Nat.zero_le _, fun y hy => by simp [oldV] at hy⟩
  | cons e r =>
    by_cases hh : hitE wi key e = true
    · rw [oldV, if_pos hh]; exact h e (by simp)
    · rw [oldV, if_neg hh]; exact ⟨Nat.zero_le _, fun y hy => by simp at hy⟩
theorem apBad {l : List Ent} {x : Wri} (h : sright l = false) : applyS l x = ([], 9) := by unfold applyS; rw [h]; rfl
theorem apErr {l : List Ent} {x : Wri} (h : sright l = true) (h2 : (foldV (oldV x.win x.key (l.drop (aheadN x.win x.key l))) x.st x.val).2 ≠ 0) : applyS l x = ([], (foldV (oldV x.win x.key (l.drop (aheadN x.win x.key l))) x.st x.val).2) := by
  unfold applyS; rw [if_pos h, if_neg h2]
theorem apOk {l : List Ent} {x : Wri} (h : sright l = true) (h2 : (foldV (oldV x.win x.key (l.drop (aheadN x.win x.key l))) x.st x.val).2 = 0) : applyS l x = ((midS x.win x.key l).set (aheadN x.win x.key l) ⟨x.win, x.key, (foldV (oldV x.win x.key (l.drop (aheadN x.win x.key l))) x.st x.val).1⟩, 0) := by
  unfold applyS; rw [if_pos h, if_pos h2]
  obtain ⟨_, _, h3⟩ := midS_at x.win x.key l
  rw [h3]
theorem midS_there {wi : Int} {key : ByteArray} {l : List Ent} (h : thereS wi key l = true) : midS wi key l = l := if_pos h
theorem midS_new {wi : Int} {key : ByteArray} {l : List Ent} (h : thereS wi key l = false) : midS wi key l = l.take (aheadN wi key l) ++ (⟨wi, key, []⟩ :: l.drop (aheadN wi key l)) := by unfold midS; rw [h]; rfl

/-- What a write walks through: a shard's box, a write's box, the box of the answer. -/
def WB (xb wb rb : Nat) (v : Value) (x : Wri) (w : World) : Prop :=
  One1 w xb 24 v ∧ w.heap[wb]? = some (.cells #[.int .i64 x.st, .int .i64 x.win, .string x.key, .int .i64 x.val] 26 (0, 0)) ∧ One1 w rb 24 (.slice none 0 0)
theorem WB.on {xb wb rb B : Nat} {v : Value} {x : Wri} {w w1 : World} (h : WB xb wb rb v x w) (n : Below B w w1) (h1 : xb < B) (h2 : wb < B) (h3 : rb < B) : WB xb wb rb v x w1 :=
  ⟨h.1.on n h1, by rw [n.block wb h2]; exact h.2.1, h.2.2.on n h3⟩
theorem WB.cells {xb wb rb : Nat} {v : Value} {x : Wri} {w : World} (h : WB xb wb rb v x w) : w.cell? ⟨xb, 0, none⟩ = some v ∧ w.cell? ⟨wb, 0, none⟩ = some (.int .i64 x.st) ∧ w.cell? ⟨wb, 1, none⟩ = some (.int .i64 x.win) ∧ w.cell? ⟨wb, 2, none⟩ = some (.string x.key) ∧ w.cell? ⟨wb, 3, none⟩ = some (.int .i64 x.val) ∧ w.cell? ⟨rb, 0, none⟩ = some (.slice none 0 0) ∧ w.frozen? ⟨rb, 0, none⟩ = false := by
  obtain ⟨h1, h2, h3⟩ := h
  refine ⟨h1.cell, ?_, ?_, ?_, ?_, h3.cell, h3.free⟩
  · rw [cell_of_row w wb 0 _ 26 (0, 0) h2]; rfl
  · rw [cell_of_row w wb 1 _ 26 (0, 0) h2]; rfl
  · rw [cell_of_row w wb 2 _ 26 (0, 0) h2]; rfl
  · rw [cell_of_row w wb 3 _ 26 (0, 0) h2]; rfl
theorem WB.new (w : World) (v : Value) (x : Wri) : WB w.heap.size (w.heap.size + 1) (w.heap.size + 1 + 1) v x (((w.alloc (.cells #[v] 24)).alloc (.cells #[.int .i64 x.st, .int .i64 x.win, .string x.key, .int .i64 x.val] 26)).alloc (.cells #[.slice none 0 0] 24)) := by
  have z1 : (w.alloc (.cells #[v] 24)).heap.size = w.heap.size + 1 := by simp
  have z2 : ((w.alloc (.cells #[v] 24)).alloc (.cells #[.int .i64 x.st, .int .i64 x.win, .string x.key, .int .i64 x.val] 26)).heap.size = w.heap.size + 1 + 1 := by simp
  have h1 : One1 (w.alloc (.cells #[v] 24)) w.heap.size 24 v := heap_alloc_new w _
  have h2 := heap_alloc_new (w.alloc (.cells #[v] 24)) (.cells #[.int .i64 x.st, .int .i64 x.win, .string x.key, .int .i64 x.val] 26)
  have h3 := heap_alloc_new ((w.alloc (.cells #[v] 24)).alloc (.cells #[.int .i64 x.st, .int .i64 x.win, .string x.key, .int .i64 x.val] 26)) (.cells #[.slice none 0 0] 24)
  rw [z1] at h2
  rw [z2] at h3
  refine ⟨(h1.on (aBelow _ _) (by rw [z1]; omega)).on (aBelow _ _) (by rw [z2]; omega), ?_, h3⟩
  rw [(aBelow ((w.alloc (.cells #[v] 24)).alloc (.cells #[.int .i64 x.st, .int .i64 x.win, .string x.key, .int .i64 x.val] 26)) (.cells #[.slice none 0 0] 24)).block (w.heap.size + 1) (by rw [z2]; omega)]
  exact h2
theorem aw_on {p1 p2 p3 : Addr} {v1 v2 v3 : Value} {w0 w1 w2 : World} (h : (w1.cell? p1 = some v1 ∧ w1.cell? p2 = some v2 ∧ w1.cell? p3 = some v3) ∧ Below w0.heap.size w0 w1) (n : Below w1.heap.size w1 w2) :
    (w2.cell? p1 = some v1 ∧ w2.cell? p2 = some v2 ∧ w2.cell? p3 = some v3) ∧ Below w0.heap.size w0 w2 := by
  obtain ⟨⟨h1, h2, h3⟩, h4⟩ := h
  refine ⟨⟨?_, ?_, ?_⟩, h4.trans (n.mono h4.size)⟩
  · rw [n.cell (World.block_lt_of_cell? _ _ h1)]; exact h1
  · rw [n.cell (World.block_lt_of_cell? _ _ h2)]; exact h2
  · rw [n.cell (World.block_lt_of_cell? _ _ h3)]; exact h3
set_option maxRecDepth 100000 in
set_option maxHeartbeats 8000000 in
theorem apply_anyS (v : Value) (l : List Ent) (x : Wri) (w : World) (h : SRow w v l) (ho : okS l) (hx : okW x) :
    Calls Try.prog 11 #[.agg #[v], wriV x] w fun e w' => (∃ v', e = .returned (.tuple #[.agg #[v'], .int .i64 (applyS l x).2]) ∧ SRow w' v' (applyS l x).1) ∧ Below w.heap.size w w' := by
  obtain ⟨hl0, hE⟩ := ho
  have HRC := Lib.hid (fun W (d : Below w.heap.size w W) => right_anyS v l W (h.on d) (by omega) (fun e he => by have := (hE e he).1; omega))
  have HCP := Lib.hid (fun W (d : Below w.heap.size w W) => copied_any w.heap.size w v l W h rfl d (by omega) (fun e he => by have := (hE e he).1; omega))
  have d0 := Lib.hid (St.below3 (w := w) (.cells #[v] 24) (.cells #[.int .i64 x.st, .int .i64 x.win, .string x.key, .int .i64 x.val] 26) (.cells #[.slice none 0 0] 24))
  have HW0 := Lib.hid (WB.new w v x)
  have hz0 : (((w.alloc (.cells #[v] 24)).alloc (.cells #[.int .i64 x.st, .int .i64 x.win, .string x.key, .int .i64 x.val] 26)).alloc (.cells #[.slice none 0 0] 24)).heap.size = w.heap.size + 1 + 1 + 1 := by simp
  obtain ⟨a, c, rfl, hc, -⟩ := h.at
  cases hr : sright l
  · rw [apBad hr]
    rw [hr] at HRC
    clear h hE HCP
    unfold wriV
    go_enter Try.func11, Try.ntmps11
    go_wp2_with fail
    generalize ((w.alloc (.cells #[.slice a l.length c] 24)).alloc (.cells #[.int .i64 x.st, .int .i64 x.win, .string x.key, .int .i64 x.val] 26)).alloc (.cells #[.slice none 0 0] 24) = w0 at *
    generalize hrb : w.heap.size + 1 + 1 = rb at *
    generalize hwb : w.heap.size + 1 = wb at *
    generalize hxb : w.heap.size = xb at *
    have HXB := Lib.hid (And.intro hxb (And.intro hwb hrb))
    have hrx : xb ≤ rb := by omega
    have k1 : xb < w0.heap.size := by omega
    have k2 : wb < w0.heap.size := by omega
    have k3 : rb < w0.heap.size := by omega
    clear hxb hwb hrb hz0
    refine (HRC.out _ d0.out).mono ?_
    rintro e w1 ⟨rfl, n1⟩
    have HW1 := HW0.out.on n1 k1 k2 k3
    obtain ⟨-, -, -, -, -, c6, f6⟩ := HW1.cells
    have DD := Lib.hid ((d0.out.trans (n1.mono (Nat.le_of_lt k1))).setCell (p := ⟨rb, 0, none⟩) hrx (.slice none 0 0))
    clear HW1 HW0 n1 d0 HRC
    go_wp2_with fail
    obtain ⟨e1, e2, e3⟩ := HXB.out
    subst e1
    exact bodyPost_ret (v := .tuple #[.agg #[.slice none 0 0], .int .i64 9]) (by simp [results, Try.results11, go_sem, c6]) rfl ⟨⟨_, rfl, SRow.nil _⟩, DD.out⟩
  · have HAE := Lib.hid (fun h2 => apErr (x := x) hr h2)
    have HAK := Lib.hid (fun h2 => apOk (x := x) hr h2)
    have hpw := (sright_true.1 hr).2
    obtain ⟨hal, hmid, -⟩ := midS_at x.win x.key l
    have HMT := Lib.hid (fun (h : thereS x.win x.key l = true) => midS_there h)
    have HMN := Lib.hid (fun (h : thereS x.win x.key l = false) => midS_new h)
    have hale := aheadN_le x.win x.key l
    have HOV := Lib.hid (okV_mem (wi := x.win) (key := x.key) (l := l.drop (aheadN x.win x.key l)) (p := okV) (n := 500) (fun e he => ⟨(hE e (List.mem_of_mem_drop he)).1, (hE e (List.mem_of_mem_drop he)).2.2.2⟩))
    have HFN := Lib.hid (fun (v2 : Value) (W : World) (h2 : SRow W v2 l) => find_any v2 l x.win x.key W h2 (by omega) hpw)
    have HFD := Lib.hid (fun (v2 : Value) (W : World) (h2 : VRow W v2 (oldV x.win x.key (l.drop (aheadN x.win x.key l)))) => foldV_any v2 _ x.st x.val W h2 (by have := HOV.out.1; omega) HOV.out.2 hx.2.2.1)
    have HIN := Lib.hid (fun (b1 base : Nat) (v2 : Value) (vb : Nat) (W : World) (hO : OwnS b1 base W v2 l) => insert_any b1 base v2 l (aheadN x.win x.key l) x.win x.key vb W hale (by omega) hO)
    rw [hr] at HRC
    obtain ⟨R, HR⟩ : ∃ R, Hid (applyS l x = R) := ⟨_, rfl⟩
    rw [HR.out]
    rw [HR.out] at HAE HAK
    clear h hE hr hpw hx HOV
    generalize midS x.win x.key l = L2 at *
    generalize thereS x.win x.key l = TH at *
    generalize aheadN x.win x.key l = A at *
    generalize oldV x.win x.key (l.drop A) = OV at *
    generalize (foldV OV x.st x.val) = FV at *
    obtain ⟨F1, F2⟩ := FV
    simp only at HAE HAK HFD
    unfold wriV
    go_enter Try.func11, Try.ntmps11
    go_wp2_with fail
    generalize ((w.alloc (.cells #[.slice a l.length c] 24)).alloc (.cells #[.int .i64 x.st, .int .i64 x.win, .string x.key, .int .i64 x.val] 26)).alloc (.cells #[.slice none 0 0] 24) = w0 at *
    generalize hrb : w.heap.size + 1 + 1 = rb at *
    generalize hwb : w.heap.size + 1 = wb at *
    generalize hxb : w.heap.size = xb at *
    have HXB := Lib.hid (And.intro hxb (And.intro hwb hrb))
    have hrx : xb ≤ rb := by omega
    have k1 : xb < w0.heap.size := by omega
    have k2 : wb < w0.heap.size := by omega
    have k3 : rb < w0.heap.size := by omega
    clear hxb hwb hrb hz0
    refine (HRC.out _ d0.out).mono ?_
    rintro e w1 ⟨rfl, n1⟩
    have HW1 := Lib.hid (HW0.out.on n1 k1 k2 k3)
    have d1 := Lib.hid (d0.out.trans (n1.mono (Nat.le_of_lt k1)))
    have z1 := n1.size
    obtain ⟨c0, c1, c2, c3, c4, c5, f5⟩ := HW1.out.cells
    clear n1 d0 HRC HW0
    go_wp2_with fail
    refine (HCP.out _ d1.out).mono ?_
    rintro e w2 ⟨⟨v2, rfl, hO2⟩, n2⟩
    clear c0 c1 c2 c3 c4 c5 f5 HCP
    have HW2 := Lib.hid (HW1.out.on n2 (by omega) (by omega) (by omega))
    have d2 := Lib.hid (d1.out.trans (n2.mono (Nat.le_of_lt (Nat.lt_of_lt_of_le k1 z1))))
    have z2 := n2.size
    have HO2 := Lib.hid hO2
    obtain ⟨c0, c1, c2, c3, c4, c5, f5⟩ := HW2.out.cells
    clear n2 d1 HW1 hO2
    go_wp2_with fail
    refine (HFN.out _ _ HO2.out.row).mono ?_
    rintro e w3 ⟨rfl, n3⟩
    clear c0 c1 c2 c3 c4 c5 f5 HFN
    have HW3 := Lib.hid (HW2.out.on n3 (by omega) (by omega) (by omega))
    have d3 := Lib.hid (d2.out.trans (n3.mono (Nat.le_of_lt (Nat.lt_of_lt_of_le k1 (Nat.le_trans z1 z2)))))
    have z3 := n3.size
    have HO3 := Lib.hid (HO2.out.on n3)
    obtain ⟨c0, c1, c2, c3, c4, c5, f5⟩ := HW3.out.cells
    clear n3 d2 HW2 HO2
    cases TH
    · have hL2 := HMN.out rfl
      have dn := aBelow w3 (.cells #[.int .i64 x.win, .string x.key, .slice none 0 0] 59)
      have hne : v2.ownBlock ≠ some w3.heap.size := by
        intro e
        obtain ⟨rs, ho, -, -⟩ := HO3.out
        have := (ho.lt _ e).2
        omega
      have HINS := Lib.hid (HIN.out xb w1.heap.size v2 w3.heap.size (w3.alloc (.cells #[.int .i64 x.win, .string x.key, .slice none 0 0] 59)) (HO3.out.on dn) (by omega) (by simp; omega) (heap_alloc_new _ _) hne)
      rw [← hL2] at HINS
      have HW4 := Lib.hid (HW3.out.on dn (by omega) (by omega) (by omega))
      have d4 := Lib.hid (d3.out.trans (dn.mono (by omega)))
      have z4 := dn.size
      clear hne dn HIN HMN HMT hL2
      go_wp2_with fail
      refine HINS.out.mono ?_
      rintro e w5 ⟨v5, rfl, hO5, n5⟩
      have HO5 := Lib.hid hO5
      have HW5 := Lib.hid (HW4.out.on n5 (by omega) (by omega) (by omega))
      have hxB : xb ≤ w1.heap.size := by omega
      have d5 := Lib.hid (d4.out.trans (n5.mono hxB))
      have z5 := n5.size
      have hxw5 : xb ≤ w5.heap.size := by omega
      clear c0 c1 c2 c3 c4 c5 f5 HO3 HW3 d3 HR hO5 n5 HINS HW4 d4
      obtain ⟨c0, c1, c2, c3, c4, c5, f5⟩ := HW5.out.cells
      go_wp2_with fail
      obtain ⟨rs, ho, hm, hs⟩ := HO5.out
      have hrl : rs.length = L2.length := by rw [← hm, List.length_map]
      have hAr : A < rs.length := by omega
      obtain ⟨a5, cc5, hv5, hcc⟩ := own_slice ho
      rw [hrl] at hv5
      subst hv5
      obtain ⟨g, hga⟩ := own_form ho hrl.symm (by omega)
      subst hga
      have e2 := own_sl ho hrl.symm A hAr
      have f2 := ho2_free ho hrl.symm (A * 3 + 2)
      have hab : abs rs[A] = ⟨x.win, x.key, OV⟩ := by rw [← hmid]; subst hm; exact (List.getElem_map abs).symm
      have hsk := hs _ (List.getElem_mem hAr)
      have hglt : g < w5.heap.size := World.block_lt_of_cell? _ _ e2
      have hBg : w1.heap.size ≤ g := by
        rcases ho.2 with ⟨h', _⟩ | ⟨g', cap', cur, h', hb, _⟩
        · simp at h'
        · injection h' with h1 _ _; injection h1 with h1; injection h1 with h1 _ _; rw [h1]; exact hb
      have hK := Lib.hid (fun (w2' : World) (v6 : Value) (n2 : Below w5.heap.size w5 w2') (h5 : VOwn w5.heap.size w2' v6 F1) => own_setV (n := L2.length) (cap := cc5) (k := A) (v5 := v6) hxB (own_on ho n2) hrl.symm hm (fun r hr => (hs r hr).on n2) hAr (vsafe_own h5))
      obtain ⟨y, hy⟩ : ∃ y, rs[A] = y := ⟨_, rfl⟩
      rw [hy] at e2 hab hsk hK
      obtain ⟨y0, y1, y2, y3⟩ := y
      unfold abs at hab
      injection hab with q0 q1 q3
      simp only at q0 q1 q3 e2 hsk hK
      subst q0 q1 q3
      have HFA := Lib.hid (fun (W : World) (d : Below w5.heap.size w5 W) => HFD.out y2 W (hsk.1.on d))
      have hy1 := vrow_one hsk.1
      have hiA : (A : Int) < (L2.length : Int) := by omega
      have hiB : (0 : Int) ≤ (A : Int) := by omega
      have hgw : g ≠ rb := by omega
      have hgw2 : rb ≠ g := fun e => hgw e.symm
      clear ho hm hs hsk hy HFD hmid HO5
      have hS : (w5.drew.cell? ⟨g, A * 3 + 2, none⟩ = some y2 ∧ w5.drew.cell? ⟨wb, 0, none⟩ = some (.int .i64 x.st) ∧ w5.drew.cell? ⟨wb, 3, none⟩ = some (.int .i64 x.val)) ∧ Below w5.heap.size w5 w5.drew := ⟨⟨e2, c1, c4⟩, (Below.refl _ _).drew⟩
      have HON := Lib.hid (fun (W W' : World) (h : (W.cell? ⟨g, A * 3 + 2, none⟩ = some y2 ∧ W.cell? ⟨wb, 0, none⟩ = some (.int .i64 x.st) ∧ W.cell? ⟨wb, 3, none⟩ = some (.int .i64 x.val)) ∧ Below w5.heap.size w5 W) (n : Below W.heap.size W W') => aw_on h n)
      clear e2 c0 c1 c2 c3 c4
      go_region_held3 (fun w' => (w'.cell? ⟨g, A * 3 + 2, none⟩ = some y2 ∧ w'.cell? ⟨wb, 0, none⟩ = some (.int .i64 x.st) ∧ w'.cell? ⟨wb, 3, none⟩ = some (.int .i64 x.val)) ∧ Below w5.heap.size w5 w') (first | exact hS | exact hS2) (first
        | (go_at_call 28; refine (HFA.out _ hS.2).mono ?_; rintro e w6 ⟨⟨v6, rfl, h6⟩, n6⟩; have hS2 := HON.out _ _ hS n6)
        | fail)
      have d6 := Lib.hid hS2.2
      have HV6 := Lib.hid (show VOwn w5.heap.size w6 v6 F1 from h6.base (by have := hS.2.size; exact this))
      have HW6 := Lib.hid (HW5.out.on d6.out (by omega) (by omega) (by omega))
      have D6 := Lib.hid (d5.out.trans (d6.out.mono hxw5))
      have g6 := hS2.1.1
      have f6 : w6.frozen? ⟨g, A * 3 + 2, none⟩ = false := by rw [d6.out.frozen (p := ⟨g, A * 3 + 2, none⟩) hglt]; exact f2
      rename_i hHeld
      clear hS hS2 hHeld HON h6 n6 c5 f5 f2
      obtain ⟨-, -, -, -, -, c5, f5⟩ := HW6.out.cells
      obtain ⟨a6, cc6, hv6, -, -⟩ := HV6.out.row
      subst hv6
      by_cases hF : F2 = 0
      · have hRR := HAK.out hF
        subst hF
        subst hRR
        obtain ⟨HO7, -⟩ := hK.out w6 _ d6.out HV6.out
        have HO7 := Lib.hid HO7
        have o7 := HW6.out.2.2.far (a := ⟨g, A * 3 + 2, none⟩) hgw2 (.slice a6 F1.length cc6)
        have HO8 := Lib.hid (HO7.out.put hrx (by omega) o7 (.slice (some ⟨g, 0, none⟩) L2.length cc5)).row
        have c7 := o7.cell
        have f7 := o7.free
        have DD := Lib.hid ((D6.out.setCell (p := ⟨g, A * 3 + 2, none⟩) (Nat.le_trans hxB hBg) (.slice a6 F1.length cc6)).setCell (p := ⟨rb, 0, none⟩) hrx (.slice (some ⟨g, 0, none⟩) L2.length cc5))
        clear o7 hK HO7 HV6 HFA HAE HAK
        go_wp2_with fail
        obtain ⟨e1, e2, e3⟩ := HXB.out
        subst e1
        exact bodyPost_ret (v := .tuple #[.agg #[.slice (some ⟨g, 0, none⟩) L2.length cc5], .int .i64 0]) (by simp [results, Try.results11, go_sem, c7]) rfl ⟨⟨_, rfl, HO8.out⟩, DD.out⟩
      · have hRR := HAE.out hF
        subst hRR
        have q9 : (F2 == 0) = false := by simp [hF]
        have DD := Lib.hid (D6.out.setCell (p := ⟨rb, 0, none⟩) hrx (.slice none 0 0))
        clear hK HV6 HFA HAE HAK g6 f6
        go_wp2_with fail
        obtain ⟨e1, e2, e3⟩ := HXB.out
        subst e1
        exact bodyPost_ret (v := .tuple #[.agg #[.slice none 0 0], .int .i64 F2]) (by simp [results, Try.results11, go_sem, c5]) rfl ⟨⟨_, rfl, SRow.nil _⟩, DD.out⟩
    · have hL2 := HMT.out rfl
      subst hL2
      obtain ⟨v5, hv⟩ : ∃ v5, v5 = v2 := ⟨_, rfl⟩
      obtain ⟨w5, hw5⟩ : ∃ w5, w5 = w3 := ⟨_, rfl⟩
      subst hv
      subst hw5
      have HO5 := HO3
      have HW5 := HW3
      have d5 := d3
      have hxB : xb ≤ w1.heap.size := by omega
      have hxw5 : xb ≤ w5.heap.size := by omega
      clear HO3 HW3 d3 HMN HMT HIN HR
      go_wp2_with fail
      obtain ⟨rs, ho, hm, hs⟩ := HO5.out
      have hrl : rs.length = L2.length := by rw [← hm, List.length_map]
      have hAr : A < rs.length := by omega
      obtain ⟨a5, cc5, hv5, hcc⟩ := own_slice ho
      rw [hrl] at hv5
      subst hv5
      obtain ⟨g, hga⟩ := own_form ho hrl.symm (by omega)
      subst hga
      have e2 := own_sl ho hrl.symm A hAr
      have f2 := ho2_free ho hrl.symm (A * 3 + 2)
      have hab : abs rs[A] = ⟨x.win, x.key, OV⟩ := by rw [← hmid]; subst hm; exact (List.getElem_map abs).symm
      have hsk := hs _ (List.getElem_mem hAr)
      have hglt : g < w5.heap.size := World.block_lt_of_cell? _ _ e2
      have hBg : w1.heap.size ≤ g := by
        rcases ho.2 with ⟨h', _⟩ | ⟨g', cap', cur, h', hb, _⟩
        · simp at h'
        · injection h' with h1 _ _; injection h1 with h1; injection h1 with h1 _ _; rw [h1]; exact hb
      have hK := Lib.hid (fun (w2' : World) (v6 : Value) (n2 : Below w5.heap.size w5 w2') (h5 : VOwn w5.heap.size w2' v6 F1) => own_setV (n := L2.length) (cap := cc5) (k := A) (v5 := v6) hxB (own_on ho n2) hrl.symm hm (fun r hr => (hs r hr).on n2) hAr (vsafe_own h5))
      obtain ⟨y, hy⟩ : ∃ y, rs[A] = y := ⟨_, rfl⟩
      rw [hy] at e2 hab hsk hK
      obtain ⟨y0, y1, y2, y3⟩ := y
      unfold abs at hab
      injection hab with q0 q1 q3
      simp only at q0 q1 q3 e2 hsk hK
      subst q0 q1 q3
      have HFA := Lib.hid (fun (W : World) (d : Below w5.heap.size w5 W) => HFD.out y2 W (hsk.1.on d))
      have hy1 := vrow_one hsk.1
      have hiA : (A : Int) < (L2.length : Int) := by omega
      have hiB : (0 : Int) ≤ (A : Int) := by omega
      have hgw : g ≠ rb := by omega
      have hgw2 : rb ≠ g := fun e => hgw e.symm
      clear ho hm hs hsk hy HFD hmid HO5
      have hS : (w5.drew.cell? ⟨g, A * 3 + 2, none⟩ = some y2 ∧ w5.drew.cell? ⟨wb, 0, none⟩ = some (.int .i64 x.st) ∧ w5.drew.cell? ⟨wb, 3, none⟩ = some (.int .i64 x.val)) ∧ Below w5.heap.size w5 w5.drew := ⟨⟨e2, c1, c4⟩, (Below.refl _ _).drew⟩
      have HON := Lib.hid (fun (W W' : World) (h : (W.cell? ⟨g, A * 3 + 2, none⟩ = some y2 ∧ W.cell? ⟨wb, 0, none⟩ = some (.int .i64 x.st) ∧ W.cell? ⟨wb, 3, none⟩ = some (.int .i64 x.val)) ∧ Below w5.heap.size w5 W) (n : Below W.heap.size W W') => aw_on h n)
      clear e2 c0 c1 c2 c3 c4
      go_region_held3 (fun w' => (w'.cell? ⟨g, A * 3 + 2, none⟩ = some y2 ∧ w'.cell? ⟨wb, 0, none⟩ = some (.int .i64 x.st) ∧ w'.cell? ⟨wb, 3, none⟩ = some (.int .i64 x.val)) ∧ Below w5.heap.size w5 w') (first | exact hS | exact hS2) (first
        | (go_at_call 28; refine (HFA.out _ hS.2).mono ?_; rintro e w6 ⟨⟨v6, rfl, h6⟩, n6⟩; have hS2 := HON.out _ _ hS n6)
        | fail)
      have d6 := Lib.hid hS2.2
      have HV6 := Lib.hid (show VOwn w5.heap.size w6 v6 F1 from h6.base (by have := hS.2.size; exact this))
      have HW6 := Lib.hid (HW5.out.on d6.out (by omega) (by omega) (by omega))
      have D6 := Lib.hid (d5.out.trans (d6.out.mono hxw5))
      have g6 := hS2.1.1
      have f6 : w6.frozen? ⟨g, A * 3 + 2, none⟩ = false := by rw [d6.out.frozen (p := ⟨g, A * 3 + 2, none⟩) hglt]; exact f2
      rename_i hHeld
      clear hS hS2 hHeld HON h6 n6 c5 f5 f2
      obtain ⟨-, -, -, -, -, c5, f5⟩ := HW6.out.cells
      obtain ⟨a6, cc6, hv6, -, -⟩ := HV6.out.row
      subst hv6
      by_cases hF : F2 = 0
      · have hRR := HAK.out hF
        subst hF
        subst hRR
        obtain ⟨HO7, -⟩ := hK.out w6 _ d6.out HV6.out
        have HO7 := Lib.hid HO7
        have o7 := HW6.out.2.2.far (a := ⟨g, A * 3 + 2, none⟩) hgw2 (.slice a6 F1.length cc6)
        have HO8 := Lib.hid (HO7.out.put hrx (by omega) o7 (.slice (some ⟨g, 0, none⟩) L2.length cc5)).row
        have c7 := o7.cell
        have f7 := o7.free
        have DD := Lib.hid ((D6.out.setCell (p := ⟨g, A * 3 + 2, none⟩) (Nat.le_trans hxB hBg) (.slice a6 F1.length cc6)).setCell (p := ⟨rb, 0, none⟩) hrx (.slice (some ⟨g, 0, none⟩) L2.length cc5))
        clear o7 hK HO7 HV6 HFA HAE HAK
        go_wp2_with fail
        obtain ⟨e1, e2, e3⟩ := HXB.out
        subst e1
        exact bodyPost_ret (v := .tuple #[.agg #[.slice (some ⟨g, 0, none⟩) L2.length cc5], .int .i64 0]) (by simp [results, Try.results11, go_sem, c7]) rfl ⟨⟨_, rfl, HO8.out⟩, DD.out⟩
      · have hRR := HAE.out hF
        subst hRR
        have q9 : (F2 == 0) = false := by simp [hF]
        have DD := Lib.hid (D6.out.setCell (p := ⟨rb, 0, none⟩) hrx (.slice none 0 0))
        clear hK HV6 HFA HAE HAK g6 f6
        go_wp2_with fail
        obtain ⟨e1, e2, e3⟩ := HXB.out
        subst e1
        exact bodyPost_ret (v := .tuple #[.agg #[.slice none 0 0], .int .i64 F2]) (by simp [results, Try.results11, go_sem, c5]) rfl ⟨⟨_, rfl, SRow.nil _⟩, DD.out⟩

/-- The program's own answers are those of the plain functions. -/
theorem own11 : Own11 where
  apply v l x w h ho hx := apply_anyS v l x w h ho hx
  right v l w h ho := right_anyS v l w h (by have := ho.1; omega) (fun e he => by have := (ho.2 e he).1; omega)
  read v vd l s ds w h hd ho hn := read_anyS v vd l s ds w h hd (by have := ho.1; omega) (by omega) (fun e he => by have := (ho.2 e he).1; omega)
  size v l w h ho := size_any v l w h (by have := ho.1; omega) (fun e he => by have := (ho.2 e he).1; omega)
  prune v vd l f ds w h hd ho hn := prune_anyS v vd l f ds w h hd (by have := ho.1; omega) (by omega) (fun e he => by have := (ho.2 e he).1; omega)
  same v1 v2 l m w h1 h2 ho1 ho2 := same_anyS v1 v2 l m w h1 h2 (by have := ho1.1; omega) (fun e he => by have := (ho1.2 e he).1; omega)
end Go.Proofs.Ythiofbohllmfbaa.Sh
