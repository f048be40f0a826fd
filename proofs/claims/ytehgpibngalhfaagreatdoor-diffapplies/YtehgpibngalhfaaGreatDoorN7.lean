/- What a text tells, change by change: a walk of the document's. -/
import Derived.Test.YtehgpibngalhfaaGreatDoorN6
namespace Go.Proofs.YtehgpibngalhfaaGreatDoor.Rw
open Go Go.RowKit Go.Sort Go.Lib Tg Pk Ky Qy Df

theorem new2C (w : World) (o : Obj) (x : Chg) : ∀ j u, (chC x)[j]? = some u → ((w.alloc o).alloc (.cells #[.int .i64 x.r.win, .string x.r.grp, .int .i64 x.r.n, .bool x.r.ov, .bool x.gone] 47)).cell? ((⟨w.heap.size + 1, 0, none⟩ : Addr).add j) = some u := by
  have hz : (w.alloc o).heap.size = w.heap.size + 1 := by simp
  have := new1C (w.alloc o) x
  rw [hz] at this
  exact this
theorem grpSmall {s : ByteArray} (h : grpE s = 0) : s.size ≤ 200 := by
  obtain ⟨h1, h2⟩ := grpE_zero h
  obtain ⟨a, b⟩ := right_small (parse_ok h1)
  have h3 := text_size (parse s.data.toList).1 25 (fun t ht => by have := b t ht; omega)
  have e : (textB (parse s.data.toList).1).size = s.size := by
    rw [size_list, size_list, textB_list, h2]
  have h4 : (parse s.data.toList).1.length * (25 + 1) ≤ 4 * (25 + 1) := Nat.mul_le_mul_right _ a
  omega
/-- The changes of the first k parts. -/
def chgsTo (P : List ByteArray) (k : Nat) : List Chg := (P.take k).map fun x => (cread x.data.toList).1
def fineC (P : List ByteArray) (k : Nat) : Prop := ∀ j (hj : j < P.length), j < k → (cread (P[j]).data.toList).2 = 0
theorem chgsTo_next {P : List ByteArray} {k : Nat} (hk : k < P.length) : chgsTo P (k + 1) = chgsTo P k ++ [(cread (P[k]).data.toList).1] := by
  unfold chgsTo; rw [List.take_succ_eq_append_getElem hk, List.map_append]; rfl
theorem chgsTo_len (P : List ByteArray) (k : Nat) : (chgsTo P k).length ≤ P.length := by
  unfold chgsTo; rw [List.length_map, List.length_take]; omega
theorem fineC_next {P : List ByteArray} {k : Nat} (hk : k < P.length) (h : fineC P k) (h2 : (cread (P[k]).data.toList).2 = 0) : fineC P (k + 1) := by
  intro j hj hjk
  by_cases q : j < k
  · exact h j hj q
  · have : j = k := by omega
    subst this; exact h2
theorem part_small {s : ByteArray} : ∀ x ∈ partsB 59 s, (cread x.data.toList).2 = 0 → (cread x.data.toList).1.r.grp.size ≤ 900 := by
  intro x hx h
  have hm : x.data.toList ∈ Word.parts 59 s.data.toList := by
    unfold partsB at hx
    obtain ⟨y, hy, rfl⟩ := List.mem_map.1 hx
    rw [ba_list]; exact hy
  have := grpSmall (cread_back (parts_clean 59 _ _ hm) h).2.1
  omega
theorem chgsTo_small {P : List ByteArray} {k : Nat} (hp : ∀ x ∈ P, (cread x.data.toList).2 = 0 → (cread x.data.toList).1.r.grp.size ≤ 900) (hk : ¬ k < P.length) (h : fineC P k) : ∀ x ∈ chgsTo P k, x.r.grp.size ≤ 900 := by
  intro x hx
  unfold chgsTo at hx
  rw [List.take_of_length_le (by omega)] at hx
  obtain ⟨y, hy, rfl⟩ := List.mem_map.1 hx
  obtain ⟨i, hi, rfl⟩ := List.mem_iff_getElem.1 hy
  exact hp _ hy (h i hi (by omega))
theorem cparse_none' {s : ByteArray} (h : s.data.toList = [45]) : cparse s.data.toList = ([], 0) := by rw [h]; rfl
theorem call_bad' {P : List ByteArray} {k : Nat} (hk : k < P.length) (h1 : fineC P k) (h2 : ¬ (cread (P[k]).data.toList).2 = 0) : call (P.map fun x => x.data.toList) = ([], (cread (P[k]).data.toList).2) := by
  have hk' : k < (P.map fun x => x.data.toList).length := by rw [List.length_map]; exact hk
  have e : (P.map fun x => x.data.toList)[k] = (P[k]).data.toList := by rw [List.getElem_map]
  have := call_bad (ps := P.map fun x => x.data.toList) (k := k) hk' (fun j hj hjk => by rw [List.getElem_map]; exact h1 j (by rw [List.length_map] at hj; exact hj) hjk) (by rw [e]; exact h2)
  rw [this, e]
theorem call_ok' {P : List ByteArray} {k : Nat} (hk : ¬ k < P.length) (h1 : fineC P k) : call (P.map fun x => x.data.toList) = (chgsTo P k, 0) := by
  rw [call_ok (fun j hj => by rw [List.getElem_map]; exact h1 j (by rw [List.length_map] at hj; exact hj) (by rw [List.length_map] at hj; omega)), List.map_map]
  unfold chgsTo
  rw [List.take_of_length_le (by omega)]
  rfl
theorem cparse_bad' {s : ByteArray} (h0 : ¬ s.data.toList = [45]) {k : Nat} (hk : k < (partsB 59 s).length) (h1 : fineC (partsB 59 s) k) (h2 : ¬ (cread ((partsB 59 s)[k]).data.toList).2 = 0) : cparse s.data.toList = ([], (cread ((partsB 59 s)[k]).data.toList).2) := by
  have e := call_bad' hk h1 h2
  rw [← parts_of] at e
  rw [cparse_bad h0 (by rw [e]; exact h2), e]
theorem cparse_fine' {s : ByteArray} (h0 : ¬ s.data.toList = [45]) {k : Nat} (hk : ¬ k < (partsB 59 s).length) (h1 : fineC (partsB 59 s) k) : cparse s.data.toList = if cright (chgsTo (partsB 59 s) k) then (chgsTo (partsB 59 s) k, 0) else ([], 9) := by
  have e := call_ok' hk h1
  rw [← parts_of] at e
  cases h : cright (chgsTo (partsB 59 s) k)
  · rw [cparse_order h0 (by rw [e]) (by rw [e]; exact h), if_neg (by simp)]
  · rw [cparse_ok h0 (by rw [e]) (by rw [e]; exact h), e, if_pos rfl]

set_option maxRecDepth 100000 in
set_option maxHeartbeats 2000000 in
theorem refCparse_any (s : ByteArray) (w : World) (hs : s.size ≤ 900000) (hp : ∀ x ∈ partsB 59 s, x.size ≤ 900) :
    Calls Tryz.prog 21 #[.string s] w fun e w' => (∃ v', e = .returned (.tuple #[v', .int .i64 (cparse s.data.toList).2]) ∧ CRow w' v' (cparse s.data.toList).1) ∧ Below w.heap.size w w' := by
  by_cases h0 : s.data.toList = [45]
  · rw [cparse_none' h0]
    have hq : (s.toList == ([45] : List UInt8)) = true := by rw [ByteArray.toList_eq, h0]; rfl
    have e : s = ⟨#[45]⟩ := bb_inj (by rw [h0])
    subst e
    go_enter Tryz.func21, Tryz.ntmps21
    go_wp2
    go_ret2
    exact ⟨⟨_, rfl, GRow.nil _⟩, Below.refl _ _⟩
  · have hq : (s.toList == (⟨#[45]⟩ : ByteArray).toList) = false := by
      rw [beq_ba]
      cases hc : eqB s ⟨#[45]⟩
      · rfl
      · exfalso; have := (eqB_true _ _).1 hc; subst this; exact h0 rfl
    have e45 : (⟨#[45]⟩ : ByteArray).toList = [45] := by rw [ByteArray.toList_eq]
    have hq1 : (s.toList == ([45] : List UInt8)) = false := by rw [← e45]; exact hq
    clear hq e45
    have hq2 : (([45] : List UInt8) == s.toList) = false := by
      cases hc : (([45] : List UInt8) == s.toList)
      · rfl
      · have := eq_of_beq hc; rw [← this] at hq1; simp at hq1
    have hq3 : ¬ s.toList = ([45] : List UInt8) := fun e => by rw [e] at hq1; simp at hq1
    have HSP := Lib.hid (refSplit_any s 59 w (by omega))
    have HP := Lib.hid hp
    have HP2 := Lib.hid (part_small (s := s))
    have HB1 := fun k (hk : k < (partsB 59 s).length) h1 h2 => Lib.hid (cparse_bad' h0 hk h1 h2)
    have HB2 := fun k (hk : ¬ k < (partsB 59 s).length) h1 => Lib.hid (cparse_fine' h0 hk h1)
    have hlen : (partsB 59 s).length ≤ 900001 := by have := parts_le 59 s; omega
    obtain ⟨i0, hi, hz0, hz1, hz2⟩ := info48
    have HI := Lib.hid (And.intro hi (And.intro hz0 (And.intro hz1 hz2)))
    obtain ⟨C, HC⟩ : ∃ C, Hid (cparse s.data.toList = C) := ⟨_, rfl⟩
    rw [HC.out]
    have HB3 := fun k (hk : k < (partsB 59 s).length) h1 h2 => Lib.hid ((HC.out).symm.trans (HB1 k hk h1 h2).out)
    have HB4 := fun k (hk : ¬ k < (partsB 59 s).length) h1 => Lib.hid ((HC.out).symm.trans (HB2 k hk h1).out)
    clear HB1 HB2 HC
    generalize partsB 59 s = P at *
    clear hp h0 hi hz0 hz1 hz2
    go_enter Tryz.func21, Tryz.ntmps21
    go_wp2_with fail
    refine (HSP.out).mono ?_
    rintro e w1 ⟨⟨v, rfl, hv⟩, n1⟩
    have HV := Lib.hid hv
    obtain ⟨a, c, rfl, hc, hl⟩ := hv
    have HL := Lib.hid hl
    clear hl HSP
    go_wp2_with fail
    go_loopw [4, 6] (fun lv i wr => ∃ (k : Nat), k ≤ P.length ∧ i = .int .i64 k ∧ Hid (wr.ownsRow w1.heap.size 47 5 lv (chgsTo P k).length (flatG chC (chgsTo P k))) ∧ Hid (fineC P k) ∧ Hid (Below w1.heap.size w1 wr)) (fun _ i _ => P.length - (intOf i).toNat)
    case atStart => exact ⟨0, Nat.zero_le _, rfl, ownG_nil _ _ _, fun j _ hj => absurd hj (Nat.not_lt_zero j), Below.refl _ _⟩
    case round =>
      obtain ⟨k, hk, rfl, HO, HT, HD⟩ := hrel
      by_cases hlt : k < P.length
      · obtain ⟨b, o, rfl, hb, hL⟩ := HL.out (ne_of_lt hlt)
        have hcell : wr.cell? ⟨b, o + k, none⟩ = some (.string P[k]) := by rw [(HD.out).cell (p := ⟨b, o + k, none⟩) hb]; exact hL.at k hlt
        have i1 : (k : Int) < (P.length : Int) := by omega
        have i2 : (0 : Int) ≤ (k : Int) := by omega
        have hz := (HD.out).size
        have hbw : Below w.heap.size w wr := n1.trans ((HD.out).mono n1.size)
        have hx9 := HP.out _ (List.getElem_mem hlt)
        have HR := refOneC_any P[k] wr hx9
        have HN := Lib.hid (chgsTo_next hlt)
        have HX : Hid (¬ (cread (P[k]).data.toList).2 = 0 → C = ([], (cread (P[k]).data.toList).2)) := fun h => (HB3 k hlt HT.out h).out
        have HY : Hid ((cread (P[k]).data.toList).2 = 0 → fineC P (k + 1)) := fun h => fineC_next hlt HT.out h
        have hrl := chgsTo_len P k
        generalize cread (P[k]).data.toList = R at *
        generalize P[k] = x at *
        generalize chgsTo P k = L at *
        obtain ⟨⟨⟨r1, r2, r3, r4⟩, r5⟩, E⟩ := R
        simp only at HX HY HN
        have HR2 : Hid (Calls Tryz.prog 43 #[.string x] wr fun e w' => e = .returned (.tuple #[.agg #[.int .i64 r1, .string r2, .int .i64 r3, .bool r4, .bool r5], .int .i64 E]) ∧ Below wr.heap.size wr w') := HR
        clear HR hL hb HL HT HV hbw hx9
        by_cases hE0 : E = 0
        · have HM := Lib.hid (HY.out hE0)
          subst hE0
          clear HX HY
          go_wp2_with fail
          refine (HR2.out).mono ?_
          rintro e w2 ⟨rfl, n2⟩
          have HO2 := Lib.hid (own_on HO.out n2)
          have HD2 := Lib.hid ((HD.out).trans (n2.mono hz))
          have hz2 : w1.heap.size ≤ w2.heap.size := Nat.le_trans hz n2.size
          clear n2 HO HD HR2 hcell
          go_wp2_with (first | (at_builtin; refine wpList_append_own _ rfl _ _ 25 rfl w1.heap.size 47 i0 (.agg #[.int .i64 0, .string ⟨#[]⟩, .int .i64 0, .bool false, .bool false]) 5 48 Tryz.underlying25 HI.out.1 HI.out.2.1 HI.out.2.2.1 HI.out.2.2.2 rfl (by decide) _ _ _ rfl ((HO2.out.alloc _).alloc _) ⟨w2.heap.size + 1, 0, none⟩ 1 1 (chC ⟨⟨r1, r2, r3, r4⟩, r5⟩) rfl rfl (new2C w2 _ ⟨⟨r1, r2, r3, r4⟩, r5⟩) (chC_one _) (by unfold maxLen; omega) (by omega) (by simp; omega) ?_; intro v' w3 hown hgrow hnil))
          have HO3 := Lib.hid (ownG_next hown)
          have hb3 := Lib.hid (ownG_below ((HD2.out).alloc hz2 _) (by simp; omega) (HO2.out.alloc _) hgrow)
          clear hown hgrow
          exact ⟨⟨k + 1, by omega, by go_num, by rw [HN.out]; exact HO3, HM, hb3⟩, by simp [intOf]; omega⟩
        · have HM := Lib.hid (HX.out hE0)
          have z1 : (E != 0) = true := by simp [hE0]
          have z2 : (E == 0) = false := by simp [hE0]
          clear HX HY
          go_wp2_with fail
          refine (HR2.out).mono ?_
          rintro e w2 ⟨rfl, n2⟩
          have HD2 := Lib.hid ((HD.out).trans (n2.mono hz))
          have hz2 : w1.heap.size ≤ w2.heap.size := Nat.le_trans hz n2.size
          clear n2 HO HD HR2 hcell
          go_wp2_with fail
          go_ret2
          refine ⟨⟨.slice none 0 0, ?_, ?_⟩, n1.trans (((HD2.out).alloc hz2 _).mono n1.size)⟩
          · rw [HM.out]; rfl
          · rw [HM.out]; exact GRow.nil _
      · have i1 : ¬ (k : Int) < (P.length : Int) := by omega
        have HM := HB4 k hlt HT.out
        have hr := ownG_row chC_len HO.out
        have hrl := chgsTo_len P k
        have hgs := chgsTo_small HP2.out hlt HT.out
        generalize chgsTo P k = L at *
        have HK := Lib.hid (refCright_any _ L wr hr (by omega) hgs)
        have HRR := Lib.hid hr
        obtain ⟨a2, c2, rfl, _, _⟩ := hr
        clear HO HL HV HB3 HB4
        cases hri : cright L
        · rw [hri, if_neg (by simp)] at HM
          rw [hri] at HK
          go_wp2_with (first | (go_at_call 22; refine (HK.out).mono ?_; rintro e w3 ⟨rfl, g3⟩))
          go_ret2
          refine ⟨⟨.slice none 0 0, ?_, ?_⟩, n1.trans ((((HD.out).trans (g3.mono (HD.out).size))).mono n1.size)⟩
          · rw [HM.out]; rfl
          · rw [HM.out]; exact GRow.nil _
        · rw [hri, if_pos rfl] at HM
          rw [hri] at HK
          go_wp2_with (first | (go_at_call 22; refine (HK.out).mono ?_; rintro e w3 ⟨rfl, g3⟩))
          go_ret2
          refine ⟨⟨.slice a2 L.length c2, ?_, ?_⟩, n1.trans ((((HD.out).trans (g3.mono (HD.out).size))).mono n1.size)⟩
          · rw [HM.out]; rfl
          · rw [HM.out]; exact HRR.out.on g3

end Go.Proofs.YtehgpibngalhfaaGreatDoor.Rw
