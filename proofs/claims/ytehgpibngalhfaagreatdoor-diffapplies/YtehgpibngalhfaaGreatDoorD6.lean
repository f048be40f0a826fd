/- Rows' text: walks of both. -/
import Derived.Test.YtehgpibngalhfaaGreatDoorD5
namespace Go.Proofs.YtehgpibngalhfaaGreatDoor.Rw
open Go Go.RowKit Go.Sort Go.Lib Tg Pk Ky Qy

def rtxtB (r : Row) : ByteArray := bb (Lib.itoa r.win) ++ ⟨#[124]⟩ ++ r.grp ++ ⟨#[124]⟩ ++ bb (Sat.textL r.n r.ov)
theorem rtxtB_list (r : Row) : (rtxtB r).data.toList = rtxt r := by
  unfold rtxtB rtxt gl
  simp [ByteArray.data_append, bb]
def rtextB (l : List Row) : ByteArray := if l = [] then ⟨#[45]⟩ else joinB ⟨#[59]⟩ (l.map rtxtB)
theorem rtextB_list (l : List Row) : (rtextB l).data.toList = rtext l := by
  unfold rtextB rtext
  by_cases h : l = []
  · rw [if_pos h, if_pos h]
  · rw [if_neg h, if_neg h]
    unfold joinB
    rw [ba_list, List.map_map]
    congr 1
    exact List.map_congr_left (fun r _ => rtxtB_list r)
theorem rtxtB_size (r : Row) (h : okR r) : (rtxtB r).size ≤ r.grp.size + 50 := by
  have h1 := Lib.itoa_length_le r.win h.1.1 h.1.2
  have h2 := Sat.textL_len r.n r.ov h.2.1 h.2.2
  have e : (rtxtB r).size = (rtxt r).length := by rw [← rtxtB_list]; exact (Array.length_toList).symm
  rw [e]
  unfold rtxt gl
  have e2 : r.grp.data.toList.length = r.grp.size := by rw [Array.length_toList]; rfl
  simp only [List.length_append, List.length_cons]
  rw [e2]; omega

/-- A row's box, and what lay ahead. -/
def RB (b : Nat) (x1 : Int) (x2 : ByteArray) (x3 : Int) (x4 : Bool) (base : Nat) (w w' : World) : Prop := w'.cell? ⟨b, 0, none⟩ = some (.int .i64 x1) ∧ w'.cell? ⟨b, 1, none⟩ = some (.string x2) ∧ w'.cell? ⟨b, 2, none⟩ = some (.int .i64 x3) ∧ w'.cell? ⟨b, 3, none⟩ = some (.bool x4) ∧ Below base w w'
theorem RB.on {b : Nat} {x1 : Int} {x2 : ByteArray} {x3 : Int} {x4 : Bool} {base : Nat} {w w1 w2 : World} (h : RB b x1 x2 x3 x4 base w w1) (hb : base ≤ w1.heap.size) (n : Below w1.heap.size w1 w2) : RB b x1 x2 x3 x4 base w w2 := by
  obtain ⟨h0, h1, h2, h3, h4⟩ := h
  have hlt : b < w1.heap.size := World.block_lt_of_cell? _ _ h0
  exact ⟨keepC n h0 hlt, keepC n h1 hlt, keepC n h2 hlt, keepC n h3 hlt, h4.trans (n.mono hb)⟩
theorem RB.set {b : Nat} {x1 : Int} {x2 : ByteArray} {x3 : Int} {x4 : Bool} {base : Nat} {w w1 : World} (h : RB b x1 x2 x3 x4 base w w1) {g j : Nat} (hg : base ≤ g) (hne : b ≠ g) (u : Value) : RB b x1 x2 x3 x4 base w (w1.setCell ⟨g, j, none⟩ u) := by
  obtain ⟨h0, h1, h2, h3, h4⟩ := h
  have k : ∀ i v, w1.cell? ⟨b, i, none⟩ = some v → (w1.setCell ⟨g, j, none⟩ u).cell? ⟨b, i, none⟩ = some v := fun i v hv => by
    rw [World.cell?_setCell_other _ _ _ _ (fun e => hne (by cases e; rfl))]; exact hv
  exact ⟨k _ _ h0, k _ _ h1, k _ _ h2, k _ _ h3, h4.setCell (p := ⟨g, j, none⟩) hg u⟩
theorem rowR_of_own {wr : World} {base g : Nat} {l : List Row} {xs : List Value} {k : Nat} (ho : wr.ownsRow base 9 1 (.slice (some ⟨g, 0, none⟩) l.length l.length) l.length xs) (ht : xs.take k = (l.take k).map fun t => .string (rtxtB t)) (hk : ¬ k < l.length) : Own wr base (.slice (some ⟨g, 0, none⟩) l.length l.length) (l.map rtxtB) := by
  have hx : xs.length = l.length * 1 := ho.1
  rw [List.take_of_length_le (by omega), List.take_of_length_le (by omega)] at ht
  show wr.ownsRow base 9 1 _ (l.map rtxtB).length ((l.map rtxtB).map Value.string)
  rw [List.length_map, List.map_map]
  rw [ht] at ho
  exact ho

set_option maxRecDepth 100000 in
set_option maxHeartbeats 1000000 in
theorem rtext_any (B : Nat) (v : Value) (l : List Row) (w : World) (h : RRow w v l) (hE : St.Env B w) (ho : ∀ x ∈ l, okR x) (hn : l.length ≤ 1000) (hs : ∀ x ∈ l, x.grp.size ≤ 100000) (hj : (rtextB l).size ≤ 140737488355328) :
    Calls Tryz.prog 49 #[v] w fun e w' => e = .returned (.string (rtextB l)) ∧ Below w.heap.size w w' := by
  obtain ⟨a, c, rfl, hc, hl⟩ := h
  by_cases h0 : l = []
  · subst h0
    clear hl
    go_enter Tryz.func49, Tryz.ntmps49
    go_wp2
    go_ret
    exact ⟨rfl, Below.refl _ _⟩
  · have hpos : 0 < l.length := List.length_pos_iff.2 h0
    have hlz : ((l.length : Int) == 0) = false := by simp; omega
    have hlz2 : ¬ (l.length : Int) = 0 := by omega
    obtain ⟨i0, hi, hz0, hz1, hz2⟩ := info9
    have HI := Lib.hid (And.intro hi (And.intro hz0 (And.intro hz1 hz2)))
    clear hi hz0 hz1 hz2
    have HL := Lib.hid hl
    have HS := Lib.hid hs
    have HOK := Lib.hid ho
    have HE := Lib.hid hE
    have H0 := Lib.hid h0
    have HV : rtextB l = joinB ⟨#[59]⟩ (l.map rtxtB) := by unfold rtextB; rw [if_neg h0]
    rw [HV] at hj ⊢
    have HJ0 := Lib.hid hj
    obtain ⟨J, HJ⟩ : ∃ J, Hid (joinB ⟨#[59]⟩ (l.map rtxtB) = J) := ⟨_, rfl⟩
    rw [HJ.out]
    clear hl hs ho hE h0 HV hj
    go_enter Tryz.func49, Tryz.ntmps49
    go_wp2_with (first | (at_make; refine wpList_make_full _ rfl _ _ 51 rfl w.heap.size 9 i0 (.string ⟨#[]⟩) 1 Tryz.underlying51 HI.out.1 HI.out.2.1 HI.out.2.2.1 .i64 .i64 _ _ l.length rfl rfl rfl rfl (by rw [HI.out.2.2.2]; omega) (by unfold maxLen; omega) (Nat.le_refl _) ?_; intro w0 hown0 hgrow0))
    have d0 : Below w.heap.size w w0 := (Below.refl _ _).grown hgrow0 (Nat.le_refl _) (fun k hk => by cases hk)
    have HO0 := Lib.hid hown0
    clear hown0 hgrow0
    go_loopw [14] (fun i wr => ∃ (k : Nat) (xs : List Value), k ≤ l.length ∧ i = .int .i64 k ∧ Hid (wr.ownsRow w.heap.size 9 1 (.slice (some ⟨w.heap.size, 0, none⟩) l.length l.length) l.length xs) ∧ Hid (xs.take k = (l.take k).map fun t => .string (rtxtB t)) ∧ Hid (Below w.heap.size w wr)) (fun i _ => l.length - (intOf i).toNat)
    case atStart => exact ⟨0, _, Nat.zero_le _, rfl, HO0, rfl, d0⟩
    case round =>
      obtain ⟨k, xs, hk, rfl, HO, HT, HB⟩ := hrel
      clear HO0 d0
      by_cases hlt : k < l.length
      · obtain ⟨b, o, rfl, hb, hL⟩ := HL.out (ne_of_lt hlt)
        obtain ⟨e1, e2, e3, e4⟩ := r_at (hL.on hb HB.out) k hlt
        have i1 : (k : Int) < (l.length : Int) := by omega
        have i2 : (0 : Int) ≤ (k : Int) := by omega
        have z1 := HS.out _ (List.getElem_mem hlt)
        have z2 := HOK.out _ (List.getElem_mem hlt)
        have z3 := Lib.itoa_length_le (l[k]).win z2.1.1 z2.1.2
        have z4 := Sat.textL_len (l[k]).n (l[k]).ov z2.2.1 z2.2.2
        have hxl : xs.length = l.length * 1 := HO.out.1
        have hx : k < xs.length := by omega
        have HN : Hid ((xs.set k (.string (rtxtB l[k]))).take (k + 1) = (l.take (k + 1)).map fun t => .string (rtxtB t)) := by
          show _ = _
          rw [set_take _ _ _ hx, HT.out, List.take_succ_eq_append_getElem hlt, List.map_append]
          rfl
        rw [show rtxtB l[k] = bb (Lib.itoa (l[k]).win) ++ ⟨#[124]⟩ ++ (l[k]).grp ++ ⟨#[124]⟩ ++ bb (Sat.textL (l[k]).n (l[k]).ov) from rfl] at HN
        have H1 := fun W (hW : St.Env B W) => St.number_any B (l[k]).win W hW z2.1.1 z2.1.2
        have H2 := fun W (hW : St.Env B W) => St.text_any B (l[k]).n (l[k]).ov W hW z2.2.1 z2.2.2
        generalize l[k] = x at *
        obtain ⟨x1, x2, x3, x4⟩ := x
        simp only at e1 e2 e3 e4 z1 z3 z4 HN H1 H2
        have y1 : (bb (Lib.itoa x1)).size = (Lib.itoa x1).length := by show (Lib.itoa x1).toArray.size = _; simp
        have y2 : (bb (Sat.textL x3 x4)).size = (Sat.textL x3 x4).length := by show (Sat.textL x3 x4).toArray.size = _; simp
        have H1 : Hid (∀ W, St.Env B W → Calls Tryz.prog 50 #[.int .i64 x1] W fun e w' => e = .returned (.string (bb (Lib.itoa x1))) ∧ Below W.heap.size W w') := H1
        have H2 : Hid (∀ W, St.Env B W → Calls Tryz.prog 65 #[.agg #[.int .i64 x3, .bool x4]] W fun e w' => e = .returned (.string (bb (Sat.textL x3 x4))) ∧ Below W.heap.size W w') := H2
        generalize bb (Lib.itoa x1) = X1 at *
        generalize bb (Sat.textL x3 x4) = X2 at *
        have q1 : (⟨#[124]⟩ : ByteArray).size = 1 := rfl
        have a1 : ∀ w', Sem.run Tryz.prog (Op.stringOp .add X1 ⟨#[124]⟩) w' = .ok (.string (X1 ++ ⟨#[124]⟩)) w' := fun w' => run_string_add_sum w' _ _ (by rw [q1]; omega)
        have a2 : ∀ w', Sem.run Tryz.prog (Op.stringOp .add (X1 ++ ⟨#[124]⟩) x2) w' = .ok (.string (X1 ++ ⟨#[124]⟩ ++ x2)) w' := fun w' => run_string_add_sum w' _ _ (by rw [ba_size, q1]; omega)
        have a3 : ∀ w', Sem.run Tryz.prog (Op.stringOp .add (X1 ++ ⟨#[124]⟩ ++ x2) ⟨#[124]⟩) w' = .ok (.string (X1 ++ ⟨#[124]⟩ ++ x2 ++ ⟨#[124]⟩)) w' := fun w' => run_string_add_sum w' _ _ (by rw [ba_size, ba_size, q1]; omega)
        have a4 : ∀ w', Sem.run Tryz.prog (Op.stringOp .add (X1 ++ ⟨#[124]⟩ ++ x2 ++ ⟨#[124]⟩) X2) w' = .ok (.string (X1 ++ ⟨#[124]⟩ ++ x2 ++ ⟨#[124]⟩ ++ X2)) w' := fun w' => run_string_add_sum w' _ _ (by rw [ba_size, ba_size, ba_size, q1]; omega)
        generalize X1 ++ ⟨#[124]⟩ ++ x2 ++ ⟨#[124]⟩ ++ X2 = Y4 at *
        generalize X1 ++ ⟨#[124]⟩ ++ x2 ++ ⟨#[124]⟩ = Y3 at *
        generalize X1 ++ ⟨#[124]⟩ ++ x2 = Y2 at *
        generalize X1 ++ ⟨#[124]⟩ = Y1 at *
        clear hL hb HT HL z1 z2 z3 z4 y1 y2 q1
        go_wp2_with fail
        have ab := aBelow wr (.cells #[.int .i64 x1, .string x2, .int .i64 x3, .bool x4] 45)
        have hgw : w.heap.size < wr.heap.size := by
          have := (HO.out).cellAt k (by omega)
          rw [List.getElem?_eq_getElem hx] at this
          exact World.block_lt_of_cell? _ _ this
        have HR0 : Hid (RB wr.heap.size x1 x2 x3 x4 w.heap.size w (wr.alloc (.cells #[.int .i64 x1, .string x2, .int .i64 x3, .bool x4] 45)).drew) := ⟨by simp, by simp, by simp, by simp, (HB.out).trans (ab.drew.mono (HB.out).size)⟩
        have HO1 : Hid ((wr.alloc (.cells #[.int .i64 x1, .string x2, .int .i64 x3, .bool x4] 45)).drew.ownsRow w.heap.size 9 1 (.slice (some ⟨w.heap.size, 0, none⟩) l.length l.length) l.length xs) := own_on HO.out ab.drew
        have HE1 : Hid (St.Env B (wr.alloc (.cells #[.int .i64 x1, .string x2, .int .i64 x3, .bool x4] 45)).drew) := (HE.out.go (HB.out)).go ab.drew
        have zz : w.heap.size ≤ (wr.alloc (.cells #[.int .i64 x1, .string x2, .int .i64 x3, .bool x4] 45)).drew.heap.size := by show _ ≤ (wr.alloc _).heap.size; simp; omega
        have hne : wr.heap.size ≠ w.heap.size := by omega
        clear ab hgw HO HB HE e1 e2 e3 e4
        generalize (wr.alloc (.cells #[.int .i64 x1, .string x2, .int .i64 x3, .bool x4] 45)) = wa at *
        generalize hrb : wr.heap.size = rb at *
        generalize hgb : w.heap.size = gb at *
        have hS := HR0.out
        unfold RB at hS
        go_region_held3 (fun w' => w'.cell? ⟨rb, 0, none⟩ = some (.int .i64 x1) ∧ w'.cell? ⟨rb, 1, none⟩ = some (.string x2) ∧ w'.cell? ⟨rb, 2, none⟩ = some (.int .i64 x3) ∧ w'.cell? ⟨rb, 3, none⟩ = some (.bool x4) ∧ Below gb w w') (first | exact hS | exact hS1 | exact hS2 | exact hS3) (first
          | (go_at_call 50; refine (H1.out _ HE1.out).mono ?_; rintro e w3 ⟨rfl, n3⟩; have HR1 := Lib.hid (RB.on HR0.out zz n3); have hS1 := HR1.out; unfold RB at hS1; have HO2 := Lib.hid (own_on HO1.out n3); have HE2 := Lib.hid (HE1.out.go n3); have zz2 := Nat.le_trans zz n3.size)
          | (go_at_call 65; refine (H2.out _ HE2.out).mono ?_; rintro e w4 ⟨rfl, n4⟩; have HR2 := Lib.hid (RB.on HR1.out zz2 n4); have hS2 := HR2.out; unfold RB at hS2; have HO3 := Lib.hid (own_on HO2.out n4); have c0 := ((HO3.out).cellAt k (by omega)).trans (List.getElem?_eq_getElem hx); have c1 := (HO3.out).frozenAt k; have HR3 := Lib.hid (RB.set (j := k) HR2.out (Nat.le_refl gb) hne (.string Y4)); have hS3 := HR3.out; unfold RB at hS3)
          | fail)
        have HST := Lib.hid (((HO3.out).stored k (.string Y4)).1)
        have HD := Lib.hid hS3.2.2.2.2
        clear hS hS1 hS2 hS3 HR0 HR1 HR2 HR3 HO1 HO2 HO3 n3 n4 HE1 HE2 c0 c1 H1 H2 a1 a2 a3 a4
        subst hgb
        subst hrb
        go_wp2
        exact ⟨⟨k + 1, _, by omega, by go_num, HST, HN, HD⟩, by simp [intOf]; omega⟩
      · have i1 : ¬ (k : Int) < (l.length : Int) := by omega
        have hr := rowR_of_own HO.out HT.out hlt
        have hne : l.map rtxtB ≠ [] := by
          have := H0.out
          intro e; exact this (List.map_eq_nil_iff.1 e)
        obtain ⟨a1, c1, hv1, hc1, hl1⟩ := own_row hr
        injection hv1 with q1 q2 q3
        subst q1
        subst q3
        obtain ⟨b1, o1, ha1, hb1, hL1⟩ := hl1 hne
        injection ha1 with ha1
        injection ha1 with r1 r2 _
        subst r1
        subst r2
        have HC := Tryz.strings_Join w.heap.size 0 l.length (l.map rtxtB) ⟨#[59]⟩ wr hL1 hb1 (by rw [List.length_map]; omega) hc1 (by rw [← joinB_size]; exact HJ0.out)
        have HC2 : Hid (Calls Tryz.prog 31 #[.slice (some ⟨w.heap.size, 0, none⟩) l.length l.length, .string ⟨#[59]⟩] wr fun e w' => e = .returned (.string J) ∧ Below wr.heap.size wr w') := by rw [List.length_map] at HC; rw [← HJ.out]; exact HC
        clear HC hL1 hr HT HO HL hne q2
        go_wp2_with (first | (go_at_call 31; refine (HC2.out).mono ?_; rintro e w2 ⟨rfl, n2⟩))
        go_ret
        exact ⟨rfl, (HB.out).trans (n2.mono (HB.out).size)⟩

/-- A row of a slice, and what lay ahead. -/
theorem RL_of {b p : Nat} {x : Row} {base : Nat} {w w' : World} (hb : b < base) (h : w.cell? ⟨b, p, none⟩ = some (.int .i64 x.win) ∧ w.cell? ⟨b, p + 1, none⟩ = some (.string x.grp) ∧ w.cell? ⟨b, p + 2, none⟩ = some (.int .i64 x.n) ∧ w.cell? ⟨b, p + 3, none⟩ = some (.bool x.ov)) (n : Below base w w') :
    w'.cell? ⟨b, p, none⟩ = some (.int .i64 x.win) ∧ w'.cell? ⟨b, p + 1, none⟩ = some (.string x.grp) ∧ w'.cell? ⟨b, p + 2, none⟩ = some (.int .i64 x.n) ∧ w'.cell? ⟨b, p + 3, none⟩ = some (.bool x.ov) ∧ Below base w w' := by
  obtain ⟨h0, h1, h2, h3⟩ := h
  exact ⟨by rw [n.cell (p := ⟨b, p, none⟩) hb]; exact h0, by rw [n.cell (p := ⟨b, p + 1, none⟩) hb]; exact h1, by rw [n.cell (p := ⟨b, p + 2, none⟩) hb]; exact h2, by rw [n.cell (p := ⟨b, p + 3, none⟩) hb]; exact h3, n⟩

set_option maxRecDepth 100000 in
set_option maxHeartbeats 2000000 in
theorem refRtext_any (v : Value) (l : List Row) (w : World) (h : RRow w v l) (ho : ∀ x ∈ l, okR x) (hn : l.length ≤ 1000) (hs : ∀ x ∈ l, x.grp.size ≤ 100000) (hj : (rtextB l).size ≤ 140737488355328) :
    Calls Tryz.prog 32 #[v] w fun e w' => e = .returned (.string (rtextB l)) ∧ Below w.heap.size w w' := by
  obtain ⟨a, c, rfl, hc, hl⟩ := h
  by_cases h0 : l = []
  · subst h0
    clear hl
    go_enter Tryz.func32, Tryz.ntmps32
    go_wp2
    go_ret
    exact ⟨rfl, Below.refl _ _⟩
  · have hpos : 0 < l.length := List.length_pos_iff.2 h0
    have hlz : ((l.length : Int) == 0) = false := by simp; omega
    have hlz2 : ¬ (l.length : Int) = 0 := by omega
    obtain ⟨i0, hi, hz0, hz1, hz2⟩ := info9
    have HI := Lib.hid (And.intro hi (And.intro hz0 (And.intro hz1 hz2)))
    clear hi hz0 hz1 hz2
    have HL := Lib.hid hl
    have HS := Lib.hid hs
    have HOK := Lib.hid ho
    have H0 := Lib.hid h0
    have HV : rtextB l = joinB ⟨#[59]⟩ (l.map rtxtB) := by unfold rtextB; rw [if_neg h0]
    rw [HV] at hj ⊢
    have HJ0 := Lib.hid hj
    obtain ⟨J, HJ⟩ : ∃ J, Hid (joinB ⟨#[59]⟩ (l.map rtxtB) = J) := ⟨_, rfl⟩
    rw [HJ.out]
    clear hl hs ho h0 HV hj
    go_enter Tryz.func32, Tryz.ntmps32
    go_wp2_with fail
    go_loopw [3, 4] (fun out i wr => ∃ (k : Nat), k ≤ l.length ∧ i = .int .i64 k ∧ Hid (Own wr w.heap.size out ((l.take k).map rtxtB)) ∧ Hid (Below w.heap.size w wr)) (fun _ i _ => l.length - (intOf i).toNat)
    case atStart => exact ⟨0, Nat.zero_le _, rfl, World.ownsRow_nil _ _ _ _, Below.refl _ _⟩
    case round =>
      obtain ⟨k, hk, rfl, HO, HB⟩ := hrel
      by_cases hlt : k < l.length
      · obtain ⟨b, o, rfl, hb, hL⟩ := HL.out (ne_of_lt hlt)
        have hcell := r_at hL k hlt
        have i1 : (k : Int) < (l.length : Int) := by omega
        have i2 : (0 : Int) ≤ (k : Int) := by omega
        have z1 := HS.out _ (List.getElem_mem hlt)
        have z2 := HOK.out _ (List.getElem_mem hlt)
        have z3 := Lib.itoa_length_le (l[k]).win z2.1.1 z2.1.2
        have z4 := Sat.textL_len (l[k]).n (l[k]).ov z2.2.1 z2.2.2
        have HK : Hid ((l.take (k + 1)).map rtxtB = (l.take k).map rtxtB ++ [bb (Lib.itoa (l[k]).win) ++ ⟨#[124]⟩ ++ (l[k]).grp ++ ⟨#[124]⟩ ++ bb (Sat.textL (l[k]).n (l[k]).ov)]) := by
          show _ = _
          rw [List.take_succ_eq_append_getElem hlt, List.map_append]
          rfl
        have hkl : ((l.take k).map rtxtB).length ≤ 1000 := by rw [List.length_map, List.length_take]; omega
        have H1 := fun W => St.refNumber_any (l[k]).win W z2.1.1 z2.1.2
        have H2 := fun W => St.refText_any (l[k]).n (l[k]).ov W z2.2.1 z2.2.2
        generalize (l.take k).map rtxtB = L at *
        generalize l[k] = x at *
        obtain ⟨x1, x2, x3, x4⟩ := x
        have SB := fun w' (n : Below w.heap.size w w') => RL_of hb hcell n
        simp only at SB z1 z3 z4 HK H1 H2
        have y1 : (bb (Lib.itoa x1)).size = (Lib.itoa x1).length := by show (Lib.itoa x1).toArray.size = _; simp
        have y2 : (bb (Sat.textL x3 x4)).size = (Sat.textL x3 x4).length := by show (Sat.textL x3 x4).toArray.size = _; simp
        have H3 : Hid (∀ W, Calls Tryz.prog 33 #[.int .i64 x1] W fun e w' => e = .returned (.string (bb (Lib.itoa x1))) ∧ Below W.heap.size W w') := H1
        have H4 : Hid (∀ W, Calls Tryz.prog 54 #[.agg #[.int .i64 x3, .bool x4]] W fun e w' => e = .returned (.string (bb (Sat.textL x3 x4))) ∧ Below W.heap.size W w') := H2
        clear H1 H2
        generalize bb (Lib.itoa x1) = X1 at *
        generalize bb (Sat.textL x3 x4) = X2 at *
        have q1 : (⟨#[124]⟩ : ByteArray).size = 1 := rfl
        have a1 : ∀ w', Sem.run Tryz.prog (Op.stringOp .add X1 ⟨#[124]⟩) w' = .ok (.string (X1 ++ ⟨#[124]⟩)) w' := fun w' => run_string_add_sum w' _ _ (by rw [q1]; omega)
        have a2 : ∀ w', Sem.run Tryz.prog (Op.stringOp .add (X1 ++ ⟨#[124]⟩) x2) w' = .ok (.string (X1 ++ ⟨#[124]⟩ ++ x2)) w' := fun w' => run_string_add_sum w' _ _ (by rw [ba_size, q1]; omega)
        have a3 : ∀ w', Sem.run Tryz.prog (Op.stringOp .add (X1 ++ ⟨#[124]⟩ ++ x2) ⟨#[124]⟩) w' = .ok (.string (X1 ++ ⟨#[124]⟩ ++ x2 ++ ⟨#[124]⟩)) w' := fun w' => run_string_add_sum w' _ _ (by rw [ba_size, ba_size, q1]; omega)
        have a4 : ∀ w', Sem.run Tryz.prog (Op.stringOp .add (X1 ++ ⟨#[124]⟩ ++ x2 ++ ⟨#[124]⟩) X2) w' = .ok (.string (X1 ++ ⟨#[124]⟩ ++ x2 ++ ⟨#[124]⟩ ++ X2)) w' := fun w' => run_string_add_sum w' _ _ (by rw [ba_size, ba_size, ba_size, q1]; omega)
        generalize X1 ++ ⟨#[124]⟩ ++ x2 ++ ⟨#[124]⟩ ++ X2 = Y4 at *
        generalize X1 ++ ⟨#[124]⟩ ++ x2 ++ ⟨#[124]⟩ = Y3 at *
        generalize X1 ++ ⟨#[124]⟩ ++ x2 = Y2 at *
        generalize X1 ++ ⟨#[124]⟩ = Y1 at *
        clear hL HL z1 z2 z3 z4 y1 y2 q1 hcell
        go_wp2_with fail
        have HB0 := Lib.hid (HB.out).drew
        have HO1 : Hid (Own wr.drew w.heap.size u3 L) := (HO.out).drew
        have zz : w.heap.size ≤ wr.drew.heap.size := (HB.out).size
        have hS := SB _ HB0.out
        clear HO HB
        generalize hgb : w.heap.size = gb at *
        go_region_held3 (fun w' => w'.cell? ⟨b, o + k * 4, none⟩ = some (.int .i64 x1) ∧ w'.cell? ⟨b, o + k * 4 + 1, none⟩ = some (.string x2) ∧ w'.cell? ⟨b, o + k * 4 + 2, none⟩ = some (.int .i64 x3) ∧ w'.cell? ⟨b, o + k * 4 + 3, none⟩ = some (.bool x4) ∧ Below gb w w') (first | exact hS | exact hS1 | exact hS2 | exact hS3 _ | exact hS4) (first
          | (go_at_call 33; refine (H3.out _).mono ?_; rintro e w3 ⟨rfl, n3⟩; have HB1 := Lib.hid ((HB0.out).trans (n3.mono zz)); have hS1 := SB _ HB1.out; have HO2 := Lib.hid (own_on HO1.out n3); have zz2 := Nat.le_trans zz n3.size)
          | (go_at_call 54; refine (H4.out _).mono ?_; rintro e w4 ⟨rfl, n4⟩; have HB2 := Lib.hid ((HB1.out).trans (n4.mono zz2)); have hS2 := SB _ HB2.out; have HO3 := Lib.hid (own_on HO2.out n4); have zz3 := Nat.le_trans zz2 n4.size; have hS3 := fun oo => SB _ ((HB2.out).alloc zz3 oo))
          | (refine step_append_lies _ (by rfl) _ _ _ (by rfl) gb 9 i0 _ 1 16 Tryz.underlying51 HI.out.1 HI.out.2.1 HI.out.2.2.1 HI.out.2.2.2 rfl (by omega) _ L.length (L.map Value.string) (by rfl) (HO3.out.alloc _) ⟨w4.heap.size, 0, none⟩ 1 1 [.string Y4] (by rfl) (by rfl) (World.news_of_block (cs := #[.string Y4]) (t := 9) (fr := (0, 0)) (heap_alloc_new w4 _)) (one1 _) (by omega) (by unfold maxLen; omega) (by omega) (by simp; omega) (w4.heap.size + 1) (by simp) ?_; intro gg cap w5 hown5 hgrow hat hgl; have HB3 := Lib.hid (((HB2.out).alloc zz3 _).grown hgrow (by simp; omega) (fun k hk => (HO3.out.lt k hk).1)); have hS4 := SB _ HB3.out)
          | fail)
        have HO4 := Lib.hid (own_next hown5)
        clear hown5 hgrow hS hS1 hS2 hS3 hS4 HO1 HO2 HO3 n3 n4 HB0 HB1 HB2 H3 H4 a1 a2 a3 a4 SB
        subst hgb
        go_wp2
        exact ⟨⟨k + 1, by omega, by go_num, by rw [HK.out]; exact HO4, HB3⟩, by simp [intOf]; omega⟩
      · have i1 : ¬ (k : Int) < (l.length : Int) := by omega
        have hr := own_row HO.out
        rw [List.take_of_length_le (by omega)] at hr
        have HC := Lib.hid (refJoin_any _ (l.map rtxtB) ⟨#[59]⟩ _ hr (by rw [List.length_map]; omega) HJ0.out)
        rw [HJ.out] at HC
        clear HO HL HS HI hr
        go_wp2_with (first | (go_at_call 34; refine (HC.out).mono ?_; rintro e w2 ⟨rfl, rfl⟩))
        go_ret
        exact ⟨rfl, HB.out⟩

end Go.Proofs.YtehgpibngalhfaaGreatDoor.Rw
