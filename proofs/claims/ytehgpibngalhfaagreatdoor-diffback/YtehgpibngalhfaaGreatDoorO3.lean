/- Whether changes are in order, the program's own way: a walk. -/
import Derived.Test.YtehgpibngalhfaaGreatDoorO1
import Derived.Test.YtehgpibngalhfaaGreatDoorN8
import Derived.Test.YtehgpibngalhfaaGreatDoorD5
namespace Go.Proofs.YtehgpibngalhfaaGreatDoor.Rw
open Go Go.RowKit Go.Sort Go.Lib Tg Pk Ky Qy Df

theorem made_rows (n : Nat) : (madeCells (Value.agg #[.int .i64 0, .string ⟨#[]⟩, .int .i64 0, .bool false]).cells (n * 4)).toList = flatG rowC (List.replicate n zrow) := by
  show (madeCells #[.int .i64 0, .string ⟨#[]⟩, .int .i64 0, .bool false] (n * 4)).toList = _
  apply List.ext_getElem?
  intro i
  by_cases h : i < n * 4
  · have h1 : i / 4 < (List.replicate n zrow).length := by rw [List.length_replicate]; omega
    have h2 := flatG_at rowC_len (List.replicate n zrow) (i / 4) h1 (i % 4) (Nat.mod_lt _ (by decide))
    have e : i / 4 * 4 + i % 4 = i := by omega
    rw [e] at h2
    rw [h2, List.getElem_replicate]
    have h3 : i % 4 = 0 ∨ i % 4 = 1 ∨ i % 4 = 2 ∨ i % 4 = 3 := by omega
    rcases h3 with h3 | h3 | h3 | h3 <;> simp [madeCells, h, h3, rowC, zrow]
  · rw [List.getElem?_eq_none (by rw [Array.length_toList, size_madeCells]; omega), List.getElem?_eq_none (by rw [flatG_len rowC_len, List.length_replicate]; omega)]
theorem gone_go {x1 : Int} {x2 : ByteArray} {x3 : Int} {x4 : Bool} : zeroV ⟨⟨x1, x2, x3, x4⟩, true⟩ = (decide (x3 = 0) && !x4) := rfl
/-- A change's box and the world as it has grown. -/
def GX (b : Nat) (x1 : Int) (x2 : ByteArray) (x3 : Int) (x4 x5 : Bool) (w w' : World) : Prop := w'.cell? ⟨b, 0, none⟩ = some (.int .i64 x1) ∧ w'.cell? ⟨b, 1, none⟩ = some (.string x2) ∧ w'.cell? ⟨b, 2, none⟩ = some (.int .i64 x3) ∧ w'.cell? ⟨b, 3, none⟩ = some (.bool x4) ∧ w'.cell? ⟨b, 4, none⟩ = some (.bool x5) ∧ Gw w w'
theorem GX.on {b : Nat} {x1 : Int} {x2 : ByteArray} {x3 : Int} {x4 x5 : Bool} {w w1 w2 : World} (h : GX b x1 x2 x3 x4 x5 w w1) (g : Gw w1 w2) : GX b x1 x2 x3 x4 x5 w w2 := by
  obtain ⟨h0, h1, h2, h3, h4, h5⟩ := h
  have z : b < w1.heap.size := World.block_lt_of_cell? _ _ h0
  have n := g.below
  exact ⟨keepC n h0 z, keepC n h1 z, keepC n h2 z, keepC n h3 z, keepC n h4 z, h5.trans g⟩

set_option maxRecDepth 100000 in
set_option maxHeartbeats 4000000 in
theorem ordered_any (v : Value) (l : List Chg) (w : World) (hE : Env w) (h : CRow w v l) (hn : l.length ≤ 1000000) (hs : ∀ x ∈ l, x.r.grp.size ≤ 900) :
    Calls Tryz.prog 35 #[v] w fun e w' => e = .returned (.bool (cright l)) ∧ Below w.heap.size w w' := by
  obtain ⟨a, c, rfl, hc, hl⟩ := h
  obtain ⟨i0, hi, hz0, hz1, hz2⟩ := info29
  have HI := Lib.hid (And.intro hi (And.intro hz0 (And.intro hz1 hz2)))
  have HL := Lib.hid hl
  have HS := Lib.hid hs
  have HE := Lib.hid hE
  obtain ⟨F, HF⟩ : ∃ F, Hid (cright l = F) := ⟨_, rfl⟩
  rw [HF.out]
  clear hl hs hi hz0 hz1 hz2 hE
  go_enter Tryz.func35, Tryz.ntmps35
  go_wp2_with (first | (at_make; refine wpList_make_full _ rfl _ _ 22 rfl w.heap.size 45 i0 (.agg #[.int .i64 0, .string ⟨#[]⟩, .int .i64 0, .bool false]) 4 Tryz.underlying22 HI.out.1 HI.out.2.1 HI.out.2.2.1 .i64 .i64 _ _ l.length rfl rfl rfl rfl (by rw [HI.out.2.2.2]; omega) (by unfold maxLen; omega) (Nat.le_refl _) ?_; intro w0 hown0 hgrow0))
  have d0 : Below w.heap.size w w0 := (Below.refl _ _).grown hgrow0 (Nat.le_refl _) (fun k hk => by cases hk)
  have HO0 : Hid (w0.ownsRow w.heap.size 45 4 (.slice (some ⟨w.heap.size, 0, none⟩) l.length l.length) l.length (flatG rowC (List.replicate l.length zrow))) := by rw [← made_rows]; exact hown0
  clear hown0 hgrow0
  go_loopw [11] (fun i wr => ∃ (k : Nat) (S : List Row), k ≤ l.length ∧ i = .int .i64 k ∧ Hid (S.length = l.length) ∧ Hid (wr.ownsRow w.heap.size 45 4 (.slice (some ⟨w.heap.size, 0, none⟩) l.length l.length) l.length (flatG rowC S)) ∧ Hid (S.take k = rowsOf l k) ∧ Hid (∀ j (hj : j < l.length), j < k → zeroV l[j] = true) ∧ Hid (Below w.heap.size w wr)) (fun i _ => l.length - (intOf i).toNat)
  case atStart => exact ⟨0, List.replicate l.length zrow, Nat.zero_le _, rfl, List.length_replicate, HO0, rfl, fun j _ hj => absurd hj (Nat.not_lt_zero j), d0⟩
  case round =>
    obtain ⟨k, S, hk, rfl, HZ, HO, HR, HT, HD⟩ := hrel
    clear HO0 d0
    by_cases hlt : k < l.length
    · obtain ⟨b, o, rfl, hb, hL⟩ := HL.out (ne_of_lt hlt)
      obtain ⟨e1, e2, e3, e4, e5⟩ := c_at (hL.on hb HD.out) k hlt
      have i1 : (k : Int) < (l.length : Int) := by omega
      have i2 : (0 : Int) ≤ (k : Int) := by omega
      have HX : Hid (zeroV l[k] = false → F = false) := fun h => (HF.out).symm.trans (cright_not hlt h)
      have HN : Hid (zeroV l[k] = true → ∀ j (hj : j < l.length), j < k + 1 → zeroV l[j] = true) := fun h j hj hjk => by
        by_cases q : j < k
        · exact HT.out j hj q
        · have : j = k := by omega
          subst this; exact h
      have HR2 : Hid ((S.set k l[k].r).take (k + 1) = rowsOf l (k + 1)) := by
        show _ = _
        rw [set_take _ _ _ (by have := HZ.out; omega), HR.out, rowsOf_next hlt]
      have hkS : Hid (k < S.length) := by show _ < _; have := HZ.out; omega
      have HZ2 : Hid ((S.set k l[k].r).length = l.length) := by show _ = _; rw [List.length_set]; exact HZ.out
      have HOR : Hid (∀ W, W.ownsRow w.heap.size 45 4 (.slice (some ⟨w.heap.size, 0, none⟩) l.length l.length) l.length (flatG rowC S) → w.heap.size < W.heap.size → OwnR W w.heap.size w.heap.size l.length S) := fun W h hw => ⟨by rw [HZ.out]; exact h, Nat.le_refl _, hw, by rw [HZ.out]; exact Nat.le_refl _⟩
      have HQ : Hid (∀ (W : World), OwnR W w.heap.size w.heap.size l.length S → ((((W.setCell ⟨w.heap.size, k * 4, none⟩ (.int .i64 (l[k]).r.win)).setCell ⟨w.heap.size, k * 4 + 1, none⟩ (.string (l[k]).r.grp)).setCell ⟨w.heap.size, k * 4 + 2, none⟩ (.int .i64 (l[k]).r.n)).setCell ⟨w.heap.size, k * 4 + 3, none⟩ (.bool (l[k]).r.ov)).ownsRow w.heap.size 45 4 (.slice (some ⟨w.heap.size, 0, none⟩) l.length l.length) l.length (flatG rowC (S.set k l[k].r))) := fun W O => by
        have q := (OwnR.set O hkS.out l[k].r).1
        have e : (S.set k l[k].r).length = l.length := HZ2.out
        rw [e] at q
        exact q
      have hw0 : w.heap.size < wr.heap.size := by
        obtain ⟨g, cap, hv, _, hg, _⟩ := ownG_block HO.out (by omega : 0 < l.length)
        injection hv with q1
        injection q1 with q1
        injection q1 with q1
        omega
      generalize S.set k l[k].r = S2 at *
      generalize l[k] = x at *
      obtain ⟨⟨x1, x2, x3, x4⟩, x5⟩ := x
      simp only at e1 e2 e3 e4 e5 HQ
      clear hL hb HT HS HL HR HE
      go_wp2_with fail
      have HC : Hid (GX wr.heap.size x1 x2 x3 x4 x5 wr (wr.alloc (.cells #[.int .i64 x1, .string x2, .int .i64 x3, .bool x4, .bool x5] 47))) := ⟨by simp, by simp, by simp, by simp, by simp, (Gw.refl wr).alloc _⟩
      have hwa : w.heap.size < (wr.alloc (.cells #[.int .i64 x1, .string x2, .int .i64 x3, .bool x4, .bool x5] 47)).heap.size := by simp; omega
      have hne : wr.heap.size ≠ w.heap.size := by omega
      clear e1 e2 e3 e4 e5 hw0
      generalize wr.alloc (.cells #[.int .i64 x1, .string x2, .int .i64 x3, .bool x4, .bool x5] 47) = wa at *
      generalize hxb : wr.heap.size = xb at *
      cases x5
      · have HM := Lib.hid (HN.out rfl)
        clear HN HX
        obtain ⟨c0, c1, c2, c3, c4, gC⟩ := HC.out
        go_wp2_with fail
        go_quiet (fail)
        have HC := Lib.hid (GX.on HC.out ((Gw.refl wa).drewN nq))
        have hwd : w.heap.size < (wa.drewN nq).heap.size := hwa
        clear c0 c1 c2 c3 c4 gC hwa
        generalize wa.drewN nq = wb at *
        have HW := HC.out
        unfold GX at HW
        obtain ⟨c0, c1, c2, c3, c4, gW⟩ := HW
        have nb := gW.below
        have HO := Lib.hid (own_on HO.out nb)
        have hwW : w.heap.size < wb.heap.size := hwd
        have OR := HOR.out wb HO.out hwW
        obtain ⟨f0, f1, f2, f3⟩ := r_at OR.lies k hkS.out
        rw [Nat.zero_add] at f0 f1 f2 f3
        have z0 := OR.1.frozenAt (k * 4)
        have z1 := OR.1.frozenAt (k * 4 + 1)
        have z2 := OR.1.frozenAt (k * 4 + 2)
        have z3 := OR.1.frozenAt (k * 4 + 3)
        have Q := Lib.hid (HQ.out wb OR)
        have hd := (HD.out).trans (nb.mono (by have := (HD.out).size; omega))
        have D := Lib.hid ((((hd.setCell (p := ⟨w.heap.size, k * 4, none⟩) (Nat.le_refl _) (.int .i64 x1)).setCell (p := ⟨w.heap.size, k * 4 + 1, none⟩) (Nat.le_refl _) (.string x2)).setCell (p := ⟨w.heap.size, k * 4 + 2, none⟩) (Nat.le_refl _) (.int .i64 x3)).setCell (p := ⟨w.heap.size, k * 4 + 3, none⟩) (Nat.le_refl _) (.bool x4))
        clear HO OR hd gW nb HC HD HOR HQ HI
        go_wp2_with fail
        exact ⟨⟨k + 1, S2, by omega, by go_num, HZ2, Q, HR2, HM, D⟩, by simp [intOf]; omega⟩
      · obtain ⟨c0, c1, c2, c3, c4, gC⟩ := HC.out
        have HG := Lib.hid (fun W => gone_any x1 x2 x3 x4 W)
        have w1 : (x1 == x1) = true := by simp
        have w2 : (x2.toList == x2.toList) = true := by simp
        have HC := Lib.hid (GX.on HC.out ((Gw.refl wa).drew))
        have hS := HC.out
        unfold GX at hS
        clear c0 c1 c2 c3 c4 gC
        by_cases h3 : x3 = 0
        · subst h3
          have w3 : ((0 : Int) == 0) = true := rfl
          cases x4
          · go_wp2_with fail
            go_region_held3 (fun w' => w'.cell? ⟨xb, 0, none⟩ = some (.int .i64 x1) ∧ w'.cell? ⟨xb, 1, none⟩ = some (.string x2) ∧ w'.cell? ⟨xb, 2, none⟩ = some (.int .i64 0) ∧ w'.cell? ⟨xb, 3, none⟩ = some (.bool false) ∧ w'.cell? ⟨xb, 4, none⟩ = some (.bool true) ∧ Gw wr w') (first | exact hS | exact hS3) (first
              | (go_at_call 26; refine (HG.out _).mono ?_; rintro e w3 ⟨rfl, g3⟩; have HC3 := Lib.hid (GX.on HC.out g3); have hS3 := HC3.out; unfold GX at hS3)
              | fail)
            have hwd : w.heap.size < w3.heap.size := Nat.lt_of_lt_of_le hwa g3.below.size
            have HC := HC3
            clear hS hS3 HC3 g3 HG hwa
            have HM := Lib.hid (HN.out rfl)
            clear HN HX
            have HW := HC.out
            unfold GX at HW
            obtain ⟨c0, c1, c2, c3, c4, gW⟩ := HW
            have nb := gW.below
            have HO := Lib.hid (own_on HO.out nb)
            have hwW : w.heap.size < w3.heap.size := hwd
            have OR := HOR.out w3 HO.out hwW
            obtain ⟨f0, f1, f2, f3⟩ := r_at OR.lies k hkS.out
            rw [Nat.zero_add] at f0 f1 f2 f3
            have z0 := OR.1.frozenAt (k * 4)
            have z1 := OR.1.frozenAt (k * 4 + 1)
            have z2 := OR.1.frozenAt (k * 4 + 2)
            have z3 := OR.1.frozenAt (k * 4 + 3)
            have Q := Lib.hid (HQ.out w3 OR)
            have hd := (HD.out).trans (nb.mono (by have := (HD.out).size; omega))
            have D := Lib.hid ((((hd.setCell (p := ⟨w.heap.size, k * 4, none⟩) (Nat.le_refl _) (.int .i64 x1)).setCell (p := ⟨w.heap.size, k * 4 + 1, none⟩) (Nat.le_refl _) (.string x2)).setCell (p := ⟨w.heap.size, k * 4 + 2, none⟩) (Nat.le_refl _) (.int .i64 0)).setCell (p := ⟨w.heap.size, k * 4 + 3, none⟩) (Nat.le_refl _) (.bool false))
            clear HO OR hd gW nb HC HD HOR HQ HI
            go_wp2_with fail
            exact ⟨⟨k + 1, S2, by omega, by go_num, HZ2, Q, HR2, HM, D⟩, by simp [intOf]; omega⟩
          · go_wp2_with fail
            go_region_held3 (fun w' => w'.cell? ⟨xb, 0, none⟩ = some (.int .i64 x1) ∧ w'.cell? ⟨xb, 1, none⟩ = some (.string x2) ∧ w'.cell? ⟨xb, 2, none⟩ = some (.int .i64 0) ∧ w'.cell? ⟨xb, 3, none⟩ = some (.bool true) ∧ w'.cell? ⟨xb, 4, none⟩ = some (.bool true) ∧ Gw wr w') (first | exact hS | exact hS3) (first
              | (go_at_call 26; refine (HG.out _).mono ?_; rintro e w3 ⟨rfl, g3⟩; have HC3 := Lib.hid (GX.on HC.out g3); have hS3 := HC3.out; unfold GX at hS3)
              | fail)
            have hwd : w.heap.size < w3.heap.size := Nat.lt_of_lt_of_le hwa g3.below.size
            have HC := HC3
            clear hS hS3 HC3 g3 HG hwa
            have HM := Lib.hid (HX.out (rfl))
            have D := Lib.hid ((HD.out).trans ((HC.out.2.2.2.2.2).below.mono (by have := (HD.out).size; omega)))
            clear HX HN HC
            go_wp2
            go_ret
            exact ⟨by first | (rw [HM.out]; done) | (rw [HM.out]; rfl), D.out⟩
        · have q3 : (x3 == 0) = false := by simp [h3]
          have q4 : ((0 : Int) == x3) = false := by simp; exact fun e => h3 e.symm
          go_wp2_with fail
          go_region_held3 (fun w' => w'.cell? ⟨xb, 0, none⟩ = some (.int .i64 x1) ∧ w'.cell? ⟨xb, 1, none⟩ = some (.string x2) ∧ w'.cell? ⟨xb, 2, none⟩ = some (.int .i64 x3) ∧ w'.cell? ⟨xb, 3, none⟩ = some (.bool x4) ∧ w'.cell? ⟨xb, 4, none⟩ = some (.bool true) ∧ Gw wr w') (first | exact hS | exact hS3) (first
            | (go_at_call 26; refine (HG.out _).mono ?_; rintro e w3 ⟨rfl, g3⟩; have HC3 := Lib.hid (GX.on HC.out g3); have hS3 := HC3.out; unfold GX at hS3)
            | fail)
          have hwd : w.heap.size < w3.heap.size := Nat.lt_of_lt_of_le hwa g3.below.size
          have HC := HC3
          clear hS hS3 HC3 g3 HG hwa
          have HM := Lib.hid (HX.out (by rw [gone_go, decide_eq_false h3]; rfl))
          have D := Lib.hid ((HD.out).trans ((HC.out.2.2.2.2.2).below.mono (by have := (HD.out).size; omega)))
          clear HX HN HC
          go_wp2
          go_ret
          exact ⟨by first | (rw [HM.out]; done) | (rw [HM.out]; rfl), D.out⟩
    · have i1 : ¬ (k : Int) < (l.length : Int) := by omega
      have hr := ownG_row rowC_len (l := S) (by rw [HZ.out]; exact HO.out)
      have hS : S = l.map fun c => c.r := by
        have h1 := HR.out
        rw [List.take_of_length_le (by have := HZ.out; omega), rowsOf_all hlt] at h1
        exact h1
      have hM := (HF.out).symm.trans (cright_rows fun j hj => HT.out j hj (by omega))
      rw [hS] at hr
      have HK := Lib.hid (rright_any _ _ wr hr (HE.out.go HD.out) (by rw [List.length_map]; omega) (fun x hx => by obtain ⟨y, hy, rfl⟩ := List.mem_map.1 hx; exact HS.out y hy))
      rw [← hM] at HK
      clear hr hS hM HO HL HI
      go_wp2_with (first | (go_at_call 24; refine (HK.out).mono ?_; rintro e w2 ⟨rfl, g2⟩))
      go_ret
      exact ⟨rfl, (HD.out).trans (g2.mono (HD.out).size)⟩

end Go.Proofs.YtehgpibngalhfaaGreatDoor.Rw
