/- The program's own text of changes: walks. -/
import Derived.Test.YtehgpibngalhfaaGreatDoorN5
import Derived.Test.YtehgpibngalhfaaGreatDoorD6
namespace Go.Proofs.YtehgpibngalhfaaGreatDoor.Rw
open Go Go.RowKit Go.Sort Go.Lib Tg Pk Ky Qy Df

/-- A change's box and the world as it has grown. -/
def BX (b : Nat) (x1 : Int) (x2 : ByteArray) (x3 : Int) (x4 x5 : Bool) (base : Nat) (w w' : World) : Prop := w'.cell? ⟨b, 0, none⟩ = some (.int .i64 x1) ∧ w'.cell? ⟨b, 1, none⟩ = some (.string x2) ∧ w'.cell? ⟨b, 2, none⟩ = some (.int .i64 x3) ∧ w'.cell? ⟨b, 3, none⟩ = some (.bool x4) ∧ w'.cell? ⟨b, 4, none⟩ = some (.bool x5) ∧ Below base w w'
theorem BX.on {b base : Nat} {x1 : Int} {x2 : ByteArray} {x3 : Int} {x4 x5 : Bool} {w w1 w2 : World} (h : BX b x1 x2 x3 x4 x5 base w w1) (hz : base ≤ w1.heap.size) (n : Below w1.heap.size w1 w2) : BX b x1 x2 x3 x4 x5 base w w2 := by
  obtain ⟨h0, h1, h2, h3, h4, h5⟩ := h
  have z : b < w1.heap.size := World.block_lt_of_cell? _ _ h0
  exact ⟨keepC n h0 z, keepC n h1 z, keepC n h2 z, keepC n h3 z, keepC n h4 z, h5.trans (n.mono hz)⟩

set_option maxRecDepth 100000 in
set_option maxHeartbeats 2000000 in
theorem textOf_come (B : Nat) (x1 : Int) (x2 : ByteArray) (x3 : Int) (x4 : Bool) (w : World) (hE : St.Env B w) (hok : okR ⟨x1, x2, x3, x4⟩) (hs : x2.size ≤ 100000) :
    Calls Tryz.prog 30 #[.agg #[.int .i64 x1, .string x2, .int .i64 x3, .bool x4, .bool false]] w fun e w' => e = .returned (.string (rtxtB ⟨x1, x2, x3, x4⟩)) ∧ Below w.heap.size w w' := by
  have z5 := rtxtB_size ⟨x1, x2, x3, x4⟩ hok
  have HT := Lib.hid (fun W v (n : Below w.heap.size w W) (h : RRow W v [⟨x1, x2, x3, x4⟩]) => rtext_any B v [⟨x1, x2, x3, x4⟩] W h (hE.go n) (fun x hx => by simp at hx; subst hx; exact hok) (by simp) (fun x hx => by simp at hx; subst hx; exact hs) (by rw [rtextB_one]; simp only at z5; omega))
  rw [rtextB_one] at HT
  generalize rtxtB ⟨x1, x2, x3, x4⟩ = X at *
  clear z5 hE hok hs
  go_enter Tryz.func30, Tryz.ntmps30
  go_wp2_with fail
  have na := aBelow w (.cells #[.int .i64 x1, .string x2, .int .i64 x3, .bool x4, .bool false] 47)
  have nb := aBelow (w.alloc (.cells #[.int .i64 x1, .string x2, .int .i64 x3, .bool x4, .bool false] 47)) (.cells #[.int .i64 x1, .string x2, .int .i64 x3, .bool x4] 45)
  have nc := na.trans (nb.mono na.size)
  have hz1 : (w.alloc (.cells #[.int .i64 x1, .string x2, .int .i64 x3, .bool x4, .bool false] 47)).heap.size = w.heap.size + 1 := by simp
  have hrow := one_row (w.alloc (.cells #[.int .i64 x1, .string x2, .int .i64 x3, .bool x4, .bool false] 47)) ⟨x1, x2, x3, x4⟩
  rw [hz1] at hrow
  refine (HT.out _ _ nc hrow).mono ?_
  rintro e w2 ⟨rfl, n2⟩
  go_wp2_with fail
  go_ret
  exact ⟨rfl, nc.trans (n2.mono nc.size)⟩

set_option maxRecDepth 100000 in
set_option maxHeartbeats 2000000 in
theorem textOf_gone (B : Nat) (x1 : Int) (x2 : ByteArray) (x3 : Int) (x4 : Bool) (w : World) (hE : St.Env B w) (hok : okR ⟨x1, x2, x3, x4⟩) (hs : x2.size ≤ 100000) :
    Calls Tryz.prog 30 #[.agg #[.int .i64 x1, .string x2, .int .i64 x3, .bool x4, .bool true]] w fun e w' => e = .returned (.string (ctxtB ⟨⟨x1, x2, x3, x4⟩, true⟩)) ∧ Below w.heap.size w w' := by
  have z3 := Lib.itoa_length_le x1 hok.1.1 hok.1.2
  have y1 : (bb (Lib.itoa x1)).size = (Lib.itoa x1).length := by show (Lib.itoa x1).toArray.size = _; simp
  have H3 : Hid (∀ W, Below w.heap.size w W → Calls Tryz.prog 50 #[.int .i64 x1] W fun e w' => e = .returned (.string (bb (Lib.itoa x1))) ∧ Below W.heap.size W w') := fun W n => St.number_any B x1 W (hE.go n) hok.1.1 hok.1.2
  rw [ctxtB_gone (c := ⟨⟨x1, x2, x3, x4⟩, true⟩) rfl]
  dsimp only
  generalize bb (Lib.itoa x1) = X1 at *
  have q1 : (⟨#[124]⟩ : ByteArray).size = 1 := rfl
  have q2 : (⟨#[33]⟩ : ByteArray).size = 1 := rfl
  have a1 : ∀ w', Sem.run Tryz.prog (Op.stringOp .add ⟨#[33]⟩ X1) w' = .ok (.string (⟨#[33]⟩ ++ X1)) w' := fun w' => run_string_add_sum w' _ _ (by rw [q2]; omega)
  have a2 : ∀ w', Sem.run Tryz.prog (Op.stringOp .add (⟨#[33]⟩ ++ X1) ⟨#[124]⟩) w' = .ok (.string (⟨#[33]⟩ ++ X1 ++ ⟨#[124]⟩)) w' := fun w' => run_string_add_sum w' _ _ (by rw [ba_size, q1, q2]; omega)
  have a3 : ∀ w', Sem.run Tryz.prog (Op.stringOp .add (⟨#[33]⟩ ++ X1 ++ ⟨#[124]⟩) x2) w' = .ok (.string (⟨#[33]⟩ ++ X1 ++ ⟨#[124]⟩ ++ x2)) w' := fun w' => run_string_add_sum w' _ _ (by rw [ba_size, ba_size, q1, q2]; omega)
  generalize ⟨#[33]⟩ ++ X1 ++ ⟨#[124]⟩ ++ x2 = Y3 at *
  generalize ⟨#[33]⟩ ++ X1 ++ ⟨#[124]⟩ = Y2 at *
  generalize ⟨#[33]⟩ ++ X1 = Y1 at *
  clear z3 y1 q1 q2 hok hs hE
  go_enter Tryz.func30, Tryz.ntmps30
  go_wp2_with fail
  have na := aBelow w (.cells #[.int .i64 x1, .string x2, .int .i64 x3, .bool x4, .bool true] 47)
  have HX : Hid (BX w.heap.size x1 x2 x3 x4 true w.heap.size w (w.alloc (.cells #[.int .i64 x1, .string x2, .int .i64 x3, .bool x4, .bool true] 47)).drew) := ⟨by simp, by simp, by simp, by simp, by simp, na.drew⟩
  have hz : w.heap.size ≤ (w.alloc (.cells #[.int .i64 x1, .string x2, .int .i64 x3, .bool x4, .bool true] 47)).drew.heap.size := na.size
  clear na
  generalize (w.alloc (.cells #[.int .i64 x1, .string x2, .int .i64 x3, .bool x4, .bool true] 47)) = wa at *
  generalize hrb : w.heap.size = rb at *
  have hS := HX.out
  unfold BX at hS
  go_region_held3 (fun w' => w'.cell? ⟨rb, 0, none⟩ = some (.int .i64 x1) ∧ w'.cell? ⟨rb, 1, none⟩ = some (.string x2) ∧ w'.cell? ⟨rb, 2, none⟩ = some (.int .i64 x3) ∧ w'.cell? ⟨rb, 3, none⟩ = some (.bool x4) ∧ w'.cell? ⟨rb, 4, none⟩ = some (.bool true) ∧ Below rb w w') (first | exact hS | exact hS3) (first
    | (go_at_call 50; refine (H3.out _ hS.2.2.2.2.2).mono ?_; rintro e w3 ⟨rfl, n3⟩; have hS3 := BX.on HX.out hz n3; unfold BX at hS3)
    | fail)
  have HD := Lib.hid hS3.2.2.2.2.2
  clear hS hS3 n3 H3 HX
  subst hrb
  go_wp2
  go_ret
  exact ⟨rfl, HD.out⟩
/-- One change's text. -/
theorem textOf_any (B : Nat) (c : Chg) (w : World) (hE : St.Env B w) (hok : okR c.r) (hs : c.r.grp.size ≤ 100000) :
    Calls Tryz.prog 30 #[.agg #[.int .i64 c.r.win, .string c.r.grp, .int .i64 c.r.n, .bool c.r.ov, .bool c.gone]] w fun e w' => e = .returned (.string (ctxtB c)) ∧ Below w.heap.size w w' := by
  obtain ⟨⟨x1, x2, x3, x4⟩, x5⟩ := c
  cases x5
  · rw [ctxtB_come (c := ⟨⟨x1, x2, x3, x4⟩, false⟩) rfl]
    exact textOf_come B x1 x2 x3 x4 w hE hok hs
  · exact textOf_gone B x1 x2 x3 x4 w hE hok hs

theorem rowC_of_own {wr : World} {base g : Nat} {l : List Chg} {xs : List Value} {k : Nat} (ho : wr.ownsRow base 9 1 (.slice (some ⟨g, 0, none⟩) l.length l.length) l.length xs) (ht : xs.take k = (l.take k).map fun t => .string (ctxtB t)) (hk : ¬ k < l.length) : Own wr base (.slice (some ⟨g, 0, none⟩) l.length l.length) (l.map ctxtB) := by
  have hx : xs.length = l.length * 1 := ho.1
  rw [List.take_of_length_le (by omega), List.take_of_length_le (by omega)] at ht
  show wr.ownsRow base 9 1 _ (l.map ctxtB).length ((l.map ctxtB).map Value.string)
  rw [List.length_map, List.map_map]
  rw [ht] at ho
  exact ho

set_option maxRecDepth 100000 in
set_option maxHeartbeats 2000000 in
theorem ctext_any (B : Nat) (v : Value) (l : List Chg) (w : World) (hE : St.Env B w) (h : CRow w v l) (ho : ∀ x ∈ l, okR x.r) (hn : l.length ≤ 1000) (hs : ∀ x ∈ l, x.r.grp.size ≤ 100000) (hj : (ctextB l).size ≤ 140737488355328) :
    Calls Tryz.prog 14 #[v] w fun e w' => e = .returned (.string (ctextB l)) ∧ Below w.heap.size w w' := by
  obtain ⟨a, c, rfl, hc, hl⟩ := h
  by_cases h0 : l = []
  · subst h0
    clear hl
    go_enter Tryz.func14, Tryz.ntmps14
    go_wp2
    go_ret
    exact ⟨rfl, Below.refl _ _⟩
  · have hpos : 0 < l.length := List.length_pos_iff.2 h0
    have hlz : ((l.length : Int) == 0) = false := by simp; omega
    have hlz2 : ¬ (l.length : Int) = 0 := by omega
    obtain ⟨i0, hi, hz0, hz1, hz2⟩ := info9
    have HI := Lib.hid (And.intro hi (And.intro hz0 (And.intro hz1 hz2)))
    clear hi hz0 hz1 hz2
    have HL := Lib.hid hl
    have HS := Lib.hid hs
    have HOK := Lib.hid ho
    have HE := Lib.hid hE
    have H0 := Lib.hid h0
    have HV : ctextB l = joinB ⟨#[59]⟩ (l.map ctxtB) := by unfold ctextB; rw [if_neg h0]
    rw [HV] at hj ⊢
    have HJ0 := Lib.hid hj
    obtain ⟨J, HJ⟩ : ∃ J, Hid (joinB ⟨#[59]⟩ (l.map ctxtB) = J) := ⟨_, rfl⟩
    rw [HJ.out]
    clear hl hs ho hE h0 HV hj
    go_enter Tryz.func14, Tryz.ntmps14
    go_wp2_with (first | (at_make; refine wpList_make_full _ rfl _ _ 51 rfl w.heap.size 9 i0 (.string ⟨#[]⟩) 1 Tryz.underlying51 HI.out.1 HI.out.2.1 HI.out.2.2.1 .i64 .i64 _ _ l.length rfl rfl rfl rfl (by rw [HI.out.2.2.2]; omega) (by unfold maxLen; omega) (Nat.le_refl _) ?_; intro w0 hown0 hgrow0))
    have d0 : Below w.heap.size w w0 := (Below.refl _ _).grown hgrow0 (Nat.le_refl _) (fun k hk => by cases hk)
    have HO0 := Lib.hid hown0
    clear hown0 hgrow0
    go_loopw [14] (fun i wr => ∃ (k : Nat) (xs : List Value), k ≤ l.length ∧ i = .int .i64 k ∧ Hid (wr.ownsRow w.heap.size 9 1 (.slice (some ⟨w.heap.size, 0, none⟩) l.length l.length) l.length xs) ∧ Hid (xs.take k = (l.take k).map fun t => .string (ctxtB t)) ∧ Hid (Below w.heap.size w wr)) (fun i _ => l.length - (intOf i).toNat)
    case atStart => exact ⟨0, _, Nat.zero_le _, rfl, HO0, rfl, d0⟩
    case round =>
      obtain ⟨k, xs, hk, rfl, HO, HT, HB⟩ := hrel
      clear HO0 d0
      by_cases hlt : k < l.length
      · obtain ⟨b, o, rfl, hb, hL⟩ := HL.out (ne_of_lt hlt)
        obtain ⟨e1, e2, e3, e4, e5⟩ := c_at (hL.on hb HB.out) k hlt
        have i1 : (k : Int) < (l.length : Int) := by omega
        have i2 : (0 : Int) ≤ (k : Int) := by omega
        have z1 := HS.out _ (List.getElem_mem hlt)
        have z2 := HOK.out _ (List.getElem_mem hlt)
        have hxl : xs.length = l.length * 1 := HO.out.1
        have hx : k < xs.length := by omega
        have HN : Hid ((xs.set k (.string (ctxtB l[k]))).take (k + 1) = (l.take (k + 1)).map fun t => .string (ctxtB t)) := by
          show _ = _
          rw [set_take _ _ _ hx, HT.out, List.take_succ_eq_append_getElem hlt, List.map_append]
          rfl
        have H1 := fun W (hW : St.Env B W) => textOf_any B l[k] W hW z2 z1
        generalize ctxtB l[k] = Y4 at *
        generalize l[k] = x at *
        obtain ⟨⟨x1, x2, x3, x4⟩, x5⟩ := x
        simp only at e1 e2 e3 e4 e5 H1
        have H1 := Lib.hid H1
        clear hL hb HT HL z1 z2
        go_wp2_with fail
        have na := aBelow wr (.cells #[.int .i64 x1, .string x2, .int .i64 x3, .bool x4, .bool x5] 47)
        have da := (HB.out).trans (na.mono (HB.out).size)
        have HO := Lib.hid (own_on HO.out na)
        refine (H1.out _ (HE.out.go da)).mono ?_
        rintro e w3 ⟨rfl, n3⟩
        have d3 := da.trans (n3.mono da.size)
        have HO := Lib.hid (own_on HO.out n3)
        have c0 := ((HO.out).cellAt k (by omega)).trans (List.getElem?_eq_getElem hx)
        have c1 := (HO.out).frozenAt k
        have HST := Lib.hid (((HO.out).stored k (.string Y4)).1)
        have HD := Lib.hid (d3.setCell (p := ⟨w.heap.size, k, none⟩) (Nat.le_refl _) (.string Y4))
        clear HO na da n3 d3 H1 HE HB e1 e2 e3 e4 e5
        go_wp2_with fail
        exact ⟨⟨k + 1, _, by omega, by go_num, HST, HN, HD⟩, by simp [intOf]; omega⟩
      · have i1 : ¬ (k : Int) < (l.length : Int) := by omega
        have hr := rowC_of_own HO.out HT.out hlt
        have hne : l.map ctxtB ≠ [] := by
          have := H0.out
          intro e; exact this (List.map_eq_nil_iff.1 e)
        obtain ⟨a1, c1, hv1, hc1, hl1⟩ := own_row hr
        injection hv1 with q1 q2 q3
        subst q1
        subst q3
        obtain ⟨b1, o1, ha1, hb1, hL1⟩ := hl1 hne
        injection ha1 with ha1
        injection ha1 with r1 r2 _
        subst r1
        subst r2
        have HC := Tryz.strings_Join w.heap.size 0 l.length (l.map ctxtB) ⟨#[59]⟩ wr hL1 hb1 (by rw [List.length_map]; omega) hc1 (by rw [← joinB_size]; exact HJ0.out)
        have HC2 : Hid (Calls Tryz.prog 31 #[.slice (some ⟨w.heap.size, 0, none⟩) l.length l.length, .string ⟨#[59]⟩] wr fun e w' => e = .returned (.string J) ∧ Below wr.heap.size wr w') := by rw [List.length_map] at HC; rw [← HJ.out]; exact HC
        clear HC hL1 hr HT HO HL hne q2
        go_wp2_with (first | (go_at_call 31; refine (HC2.out).mono ?_; rintro e w2 ⟨rfl, n2⟩))
        go_ret
        exact ⟨rfl, (HB.out).trans (n2.mono (HB.out).size)⟩
end Go.Proofs.YtehgpibngalhfaaGreatDoor.Rw
