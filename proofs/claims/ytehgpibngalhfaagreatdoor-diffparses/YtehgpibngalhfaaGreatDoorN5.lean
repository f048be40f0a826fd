/- Changes' text: a walk of the document's. -/
import Derived.Test.YtehgpibngalhfaaGreatDoorN4
namespace Go.Proofs.YtehgpibngalhfaaGreatDoor.Rw
open Go Go.RowKit Go.Sort Go.Lib Tg Pk Ky Qy Df

def ctxtB (c : Chg) : ByteArray := if c.gone then ⟨#[33]⟩ ++ bb (Lib.itoa c.r.win) ++ ⟨#[124]⟩ ++ c.r.grp else rtxtB c.r
theorem ctxtB_gone {c : Chg} (h : c.gone = true) : ctxtB c = ⟨#[33]⟩ ++ bb (Lib.itoa c.r.win) ++ ⟨#[124]⟩ ++ c.r.grp := by unfold ctxtB; rw [if_pos h]
theorem ctxtB_come {c : Chg} (h : c.gone = false) : ctxtB c = rtxtB c.r := by unfold ctxtB; rw [if_neg (by simp [h])]
theorem ctxtB_list (c : Chg) : (ctxtB c).data.toList = ctxt c := by
  cases h : c.gone
  · rw [ctxtB_come h, ctxt_come h, rtxtB_list]
  · rw [ctxtB_gone h, ctxt_gone h]
    unfold gl
    simp [ByteArray.data_append, bb]
def ctextB (l : List Chg) : ByteArray := if l = [] then ⟨#[45]⟩ else joinB ⟨#[59]⟩ (l.map ctxtB)
theorem ctextB_list (l : List Chg) : (ctextB l).data.toList = ctext l := by
  unfold ctextB ctext
  by_cases h : l = []
  · rw [if_pos h, if_pos h]
  · rw [if_neg h, if_neg h]
    unfold joinB
    rw [ba_list, List.map_map]
    congr 1
    exact List.map_congr_left (fun r _ => ctxtB_list r)
theorem ctxtB_size (c : Chg) (h : okR c.r) : (ctxtB c).size ≤ c.r.grp.size + 50 := by
  cases hg : c.gone
  · rw [ctxtB_come hg]; exact rtxtB_size _ h
  · have e : (ctxtB c).size = (ctxt c).length := by rw [← ctxtB_list]; exact (Array.length_toList).symm
    have h1 := Lib.itoa_length_le c.r.win h.1.1 h.1.2
    have e2 : c.r.grp.data.toList.length = c.r.grp.size := by rw [Array.length_toList]; rfl
    rw [e, ctxt_gone hg]
    unfold gl
    simp only [List.length_append, List.length_cons]
    rw [e2]; omega
theorem rtextB_one (r : Row) : rtextB [r] = rtxtB r := by
  apply bb_inj
  rw [rtextB_list, rtxtB_list, rtext_one]
/-- A row alone in a block. -/
theorem one_row (w : World) (x : Row) : RRow (w.alloc (.cells #[.int .i64 x.win, .string x.grp, .int .i64 x.n, .bool x.ov] 45)) (.slice (some ⟨w.heap.size, 0, none⟩) 1 1) [x] := by
  refine ⟨_, 1, rfl, Nat.le_refl _, fun _ => ⟨w.heap.size, 0, rfl, by simp, ?_⟩⟩
  intro i hi j u hu
  have : i = 0 := by simpa using hi
  subst this
  have := new1R w x j u hu
  rw [addr_add] at this
  simpa using this

/-- A change of a slice, and what lay ahead. -/
theorem C5_of {b p : Nat} {x : Chg} {base : Nat} {w w' : World} (hb : b < base) (h : w.cell? ⟨b, p, none⟩ = some (.int .i64 x.r.win) ∧ w.cell? ⟨b, p + 1, none⟩ = some (.string x.r.grp) ∧ w.cell? ⟨b, p + 2, none⟩ = some (.int .i64 x.r.n) ∧ w.cell? ⟨b, p + 3, none⟩ = some (.bool x.r.ov) ∧ w.cell? ⟨b, p + 4, none⟩ = some (.bool x.gone)) (n : Below base w w') :
    w'.cell? ⟨b, p, none⟩ = some (.int .i64 x.r.win) ∧ w'.cell? ⟨b, p + 1, none⟩ = some (.string x.r.grp) ∧ w'.cell? ⟨b, p + 2, none⟩ = some (.int .i64 x.r.n) ∧ w'.cell? ⟨b, p + 3, none⟩ = some (.bool x.r.ov) ∧ w'.cell? ⟨b, p + 4, none⟩ = some (.bool x.gone) ∧ Below base w w' := by
  obtain ⟨h0, h1, h2, h3, h4⟩ := h
  exact ⟨by rw [n.cell (p := ⟨b, p, none⟩) hb]; exact h0, by rw [n.cell (p := ⟨b, p + 1, none⟩) hb]; exact h1, by rw [n.cell (p := ⟨b, p + 2, none⟩) hb]; exact h2, by rw [n.cell (p := ⟨b, p + 3, none⟩) hb]; exact h3, by rw [n.cell (p := ⟨b, p + 4, none⟩) hb]; exact h4, n⟩

set_option maxRecDepth 100000 in
set_option maxHeartbeats 4000000 in
theorem refCtext_any (v : Value) (l : List Chg) (w : World) (h : CRow w v l) (ho : ∀ x ∈ l, okR x.r) (hn : l.length ≤ 1000) (hs : ∀ x ∈ l, x.r.grp.size ≤ 100000) (hj : (ctextB l).size ≤ 140737488355328) :
    Calls Tryz.prog 15 #[v] w fun e w' => e = .returned (.string (ctextB l)) ∧ Below w.heap.size w w' := by
  obtain ⟨a, c, rfl, hc, hl⟩ := h
  by_cases h0 : l = []
  · subst h0
    clear hl
    go_enter Tryz.func15, Tryz.ntmps15
    go_wp2
    go_ret
    exact ⟨rfl, Below.refl _ _⟩
  · have hpos : 0 < l.length := List.length_pos_iff.2 h0
    have hlz : ((l.length : Int) == 0) = false := by simp; omega
    have hlz2 : ¬ (l.length : Int) = 0 := by omega
    obtain ⟨i0, hi, hz0, hz1, hz2⟩ := info9
    have HI := Lib.hid (And.intro hi (And.intro hz0 (And.intro hz1 hz2)))
    clear hi hz0 hz1 hz2
    have HL := Lib.hid hl
    have HS := Lib.hid hs
    have HOK := Lib.hid ho
    have HV : ctextB l = joinB ⟨#[59]⟩ (l.map ctxtB) := by unfold ctextB; rw [if_neg h0]
    rw [HV] at hj ⊢
    have HJ0 := Lib.hid hj
    obtain ⟨J, HJ⟩ : ∃ J, Hid (joinB ⟨#[59]⟩ (l.map ctxtB) = J) := ⟨_, rfl⟩
    rw [HJ.out]
    clear hl hs ho h0 HV hj
    go_enter Tryz.func15, Tryz.ntmps15
    go_wp2_with fail
    go_loopw [3, 4] (fun out i wr => ∃ (k : Nat), k ≤ l.length ∧ i = .int .i64 k ∧ Hid (Own wr w.heap.size out ((l.take k).map ctxtB)) ∧ Hid (Below w.heap.size w wr)) (fun _ i _ => l.length - (intOf i).toNat)
    case atStart => exact ⟨0, Nat.zero_le _, rfl, World.ownsRow_nil _ _ _ _, Below.refl _ _⟩
    case round =>
      obtain ⟨k, hk, rfl, HO, HB⟩ := hrel
      by_cases hlt : k < l.length
      · obtain ⟨b, o, rfl, hb, hL⟩ := HL.out (ne_of_lt hlt)
        have HC := c_at hL k hlt
        obtain ⟨e1, e2, e3, e4, e5⟩ := c_at (hL.on hb HB.out) k hlt
        have i1 : (k : Int) < (l.length : Int) := by omega
        have i2 : (0 : Int) ≤ (k : Int) := by omega
        have z1 := HS.out _ (List.getElem_mem hlt)
        have z2 := HOK.out _ (List.getElem_mem hlt)
        have z3 := Lib.itoa_length_le (l[k]).r.win z2.1.1 z2.1.2
        have z5 := rtxtB_size (l[k]).r z2
        have hz := (HB.out).size
        have HK : Hid ((l.take (k + 1)).map ctxtB = (l.take k).map ctxtB ++ [ctxtB l[k]]) := by
          show _ = _
          rw [List.take_succ_eq_append_getElem hlt, List.map_append]
          rfl
        have hkl : ((l.take k).map ctxtB).length ≤ 1000 := by rw [List.length_map, List.length_take]; omega
        have HT := refRtext_any _ [(l[k]).r] _ (one_row wr (l[k]).r) (fun x hx => by simp at hx; subst hx; exact z2) (by simp) (fun x hx => by simp at hx; subst hx; exact z1) (by rw [rtextB_one]; omega)
        rw [rtextB_one] at HT
        have H1 := fun W => St.refNumber_any (l[k]).r.win W z2.1.1 z2.1.2
        have HG := Lib.hid (fun (h : (l[k]).gone = true) => ctxtB_gone h)
        have HG0 := Lib.hid (fun (h : (l[k]).gone = false) => ctxtB_come h)
        generalize (l.take k).map ctxtB = L at *
        generalize ctxtB l[k] = X at *
        generalize l[k] = x at *
        obtain ⟨⟨x1, x2, x3, x4⟩, x5⟩ := x
        simp only at e1 e2 e3 e4 e5 z1 z3 z5 HT H1 HG HG0 HC
        generalize rtxtB ⟨x1, x2, x3, x4⟩ = X0 at *
        have HT := Lib.hid HT
        clear hL HL HS HOK
        have SC := fun w' (n : Below w.heap.size w w') => C5_of (w' := w') (x := ⟨⟨x1, x2, x3, x4⟩, x5⟩) hb HC n
        simp only at SC
        clear HC
        cases x5
        · have HX := Lib.hid (HG0.out rfl)
          clear HG HG0 H1
          go_wp2_with fail
          refine (HT.out).mono ?_
          rintro e w2 ⟨rfl, n2⟩
          have na := (HB.out).alloc hz (.cells #[.int .i64 x1, .string x2, .int .i64 x3, .bool x4] 45)
          have HO2 := Lib.hid (own_on (HO.out.alloc (.cells #[.int .i64 x1, .string x2, .int .i64 x3, .bool x4] 45)) n2)
          have hza : w.heap.size ≤ (wr.alloc (.cells #[.int .i64 x1, .string x2, .int .i64 x3, .bool x4] 45)).heap.size := by simp; omega
          have d2 := na.trans (n2.mono hza)
          have hz2 := d2.size
          clear na n2 HT HO HB e1 e2 e3 e4 e5 hza
          obtain ⟨e1, e2, e3, e4, e5, _⟩ := SC _ d2
          clear SC
          go_wp2_with (first | (at_builtin; refine wpList_append_own _ rfl _ _ 51 rfl w.heap.size 9 i0 (.string ⟨#[]⟩) 1 16 Tryz.underlying51 HI.out.1 HI.out.2.1 HI.out.2.2.1 HI.out.2.2.2 rfl (by decide) _ _ _ rfl (HO2.out.alloc _) ⟨w2.heap.size, 0, none⟩ 1 1 [Value.string X0] rfl rfl (new1 w2 _) (one1 _) (by unfold maxLen; omega) (by omega) (by simp; omega) ?_; intro v' w5 hown hgrow hnil))
          have HO3 := Lib.hid (own_next hown)
          have HB3 := Lib.hid (own_below d2 hz2 HO2.out hgrow)
          clear hown hgrow
          exact ⟨⟨k + 1, by omega, by go_num, by rw [HK.out, HX.out]; exact HO3, HB3⟩, by simp [intOf]; omega⟩
        · have HX := Lib.hid (HG.out rfl)
          clear HG HG0
          have y1 : (bb (Lib.itoa x1)).size = (Lib.itoa x1).length := by show (Lib.itoa x1).toArray.size = _; simp
          have H3 : Hid (∀ W, Calls Tryz.prog 33 #[.int .i64 x1] W fun e w' => e = .returned (.string (bb (Lib.itoa x1))) ∧ Below W.heap.size W w') := H1
          clear H1
          generalize bb (Lib.itoa x1) = X1 at *
          have q1 : (⟨#[124]⟩ : ByteArray).size = 1 := rfl
          have q2 : (⟨#[33]⟩ : ByteArray).size = 1 := rfl
          have a1 : ∀ w', Sem.run Tryz.prog (Op.stringOp .add ⟨#[33]⟩ X1) w' = .ok (.string (⟨#[33]⟩ ++ X1)) w' := fun w' => run_string_add_sum w' _ _ (by rw [q2]; omega)
          have a2 : ∀ w', Sem.run Tryz.prog (Op.stringOp .add (⟨#[33]⟩ ++ X1) ⟨#[124]⟩) w' = .ok (.string (⟨#[33]⟩ ++ X1 ++ ⟨#[124]⟩)) w' := fun w' => run_string_add_sum w' _ _ (by rw [ba_size, q1, q2]; omega)
          have a3 : ∀ w', Sem.run Tryz.prog (Op.stringOp .add (⟨#[33]⟩ ++ X1 ++ ⟨#[124]⟩) x2) w' = .ok (.string (⟨#[33]⟩ ++ X1 ++ ⟨#[124]⟩ ++ x2)) w' := fun w' => run_string_add_sum w' _ _ (by rw [ba_size, ba_size, q1, q2]; omega)
          generalize ⟨#[33]⟩ ++ X1 ++ ⟨#[124]⟩ ++ x2 = Y3 at *
          generalize ⟨#[33]⟩ ++ X1 ++ ⟨#[124]⟩ = Y2 at *
          generalize ⟨#[33]⟩ ++ X1 = Y1 at *
          clear z1 z2 z3 z5 y1 q1 q2
          go_wp2_with fail
          refine (HT.out).mono ?_
          rintro e w2 ⟨rfl, n2⟩
          have na := (HB.out).alloc hz (.cells #[.int .i64 x1, .string x2, .int .i64 x3, .bool x4] 45)
          have HO2 := Lib.hid (own_on (HO.out.alloc (.cells #[.int .i64 x1, .string x2, .int .i64 x3, .bool x4] 45)) n2)
          have hza : w.heap.size ≤ (wr.alloc (.cells #[.int .i64 x1, .string x2, .int .i64 x3, .bool x4] 45)).heap.size := by simp; omega
          have d2 := na.trans (n2.mono hza)
          have hz2 := d2.size
          clear na n2 HT HO HB e1 e2 e3 e4 e5 hza
          have hS := SC _ d2.drew
          obtain ⟨e1, e2, e3, e4, e5, _⟩ := SC _ d2
          have H4 := Lib.hid (H3.out w2.drew)
          have HO2 := Lib.hid (HO2.out.drew)
          clear H3
          go_wp2_with fail
          go_region_held3 (fun w' => w'.cell? ⟨b, o + k * 5, none⟩ = some (.int .i64 x1) ∧ w'.cell? ⟨b, o + k * 5 + 1, none⟩ = some (.string x2) ∧ w'.cell? ⟨b, o + k * 5 + 2, none⟩ = some (.int .i64 x3) ∧ w'.cell? ⟨b, o + k * 5 + 3, none⟩ = some (.bool x4) ∧ w'.cell? ⟨b, o + k * 5 + 4, none⟩ = some (.bool true) ∧ Below w.heap.size w w') (first | exact hS | exact hS3) (first
            | (go_at_call 33; refine (H4.out).mono ?_; rintro e w3 ⟨rfl, n3⟩; have d3 := d2.drew.trans (n3.mono hz2); have hS3 := SC _ d3; have HO3 := Lib.hid (own_on HO2.out n3))
            | fail)
          have HO2 := HO3
          have hz3 := d3.size
          clear hS hS3 HO3 n3 H4 SC e1 e2 e3 e4 e5
          go_wp2_with (first | (at_builtin; refine wpList_append_own _ rfl _ _ 51 rfl w.heap.size 9 i0 (.string ⟨#[]⟩) 1 16 Tryz.underlying51 HI.out.1 HI.out.2.1 HI.out.2.2.1 HI.out.2.2.2 rfl (by decide) _ _ _ rfl (HO2.out.alloc _) ⟨w3.heap.size, 0, none⟩ 1 1 [Value.string Y3] rfl rfl (new1 w3 _) (one1 _) (by unfold maxLen; omega) (by omega) (by simp; omega) ?_; intro v' w5 hown hgrow hnil))
          have HO3 := Lib.hid (own_next hown)
          have HB3 := Lib.hid (own_below d3 hz3 HO2.out hgrow)
          clear hown hgrow
          exact ⟨⟨k + 1, by omega, by go_num, by rw [HK.out, HX.out]; exact HO3, HB3⟩, by simp [intOf]; omega⟩
      · have i1 : ¬ (k : Int) < (l.length : Int) := by omega
        have hr := own_row HO.out
        rw [List.take_of_length_le (by omega)] at hr
        have HC := Lib.hid (refJoin_any _ (l.map ctxtB) ⟨#[59]⟩ _ hr (by rw [List.length_map]; omega) HJ0.out)
        rw [HJ.out] at HC
        clear HO HL HS HI hr
        go_wp2_with (first | (go_at_call 34; refine (HC.out).mono ?_; rintro e w2 ⟨rfl, rfl⟩))
        go_ret
        exact ⟨rfl, HB.out⟩

end Go.Proofs.YtehgpibngalhfaaGreatDoor.Rw
