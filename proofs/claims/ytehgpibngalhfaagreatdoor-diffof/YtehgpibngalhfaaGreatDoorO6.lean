/- Changes applied to rows, the program's own way: a walk. -/
import Derived.Test.YtehgpibngalhfaaGreatDoorO2
import Derived.Test.YtehgpibngalhfaaGreatDoorO3
import Derived.Test.YtehgpibngalhfaaGreatDoorO4
namespace Go.Proofs.YtehgpibngalhfaaGreatDoor.Rw
open Go Go.RowKit Go.Sort Go.Lib Tg Pk Ky Qy Df

theorem at_news {w : World} {a : Option Addr} {L : List Row} (h : RAt w a L) : ∀ p, a = some p → ∀ j u, (flatG rowC L)[j]? = some u → w.cell? (p.add j) = some u := by
  rintro p rfl j u hu
  have hne : L ≠ [] := fun e => by subst e; simp [flatG] at hu
  obtain ⟨b, o, e, hb, hL⟩ := h hne
  injection e with e
  subst e
  rw [addr_add]
  exact hL.flat rowC_len (by decide) j u hu
theorem at_none {w : World} {a : Option Addr} {L : List Row} (h : RAt w a L) : a = none → L.length = 0 := by
  rintro rfl
  cases L with
  | nil => rfl
  | cons x s => obtain ⟨b, o, e, _⟩ := h (by simp); cases e
theorem at_first {w : World} {a : Option Addr} {D t : List Row} {y : Row} (h : RAt w a D) (e : D = y :: t) : ∃ b o, a = some ⟨b, o, none⟩ ∧ b < w.heap.size ∧ w.cell? ⟨b, o, none⟩ = some (.int .i64 y.win) ∧ w.cell? ⟨b, o + 1, none⟩ = some (.string y.grp) ∧ w.cell? ⟨b, o + 2, none⟩ = some (.int .i64 y.n) ∧ w.cell? ⟨b, o + 3, none⟩ = some (.bool y.ov) := by
  subst e
  exact row_at (⟨a, _, rfl, Nat.le_refl _, h⟩ : RRow w (.slice a (y :: t).length (y :: t).length) (y :: t)) rfl
theorem GX.far {b base : Nat} {x1 : Int} {x2 : ByteArray} {x3 : Int} {x4 x5 : Bool} {w w0 w1 w2 : World} {row : Option Nat} (h : GX b x1 x2 x3 x4 x5 w w1) (hg : w1.grownBy w2 row) (hne : some b ≠ row) (d : Below base w0 w2) : BX b x1 x2 x3 x4 x5 base w0 w2 := by
  obtain ⟨h0, h1, h2, h3, h4, _⟩ := h
  have z : b < w1.heap.size := World.block_lt_of_cell? _ _ h0
  exact ⟨(hg.cell_far _ z hne).trans h0, (hg.cell_far _ z hne).trans h1, (hg.cell_far _ z hne).trans h2, (hg.cell_far _ z hne).trans h3, (hg.cell_far _ z hne).trans h4, d⟩
theorem own_more {w : World} {base : Nat} {v : Value} {R A : List Row} {n : Nat} (hn : A.length = n) (h : w.ownsRow base 45 4 v (R.length + n) (flatG rowC R ++ flatG rowC A)) : w.ownsRow base 45 4 v (R ++ A).length (flatG rowC (R ++ A)) := by
  subst hn; rw [List.length_append, flatG_append]; exact h
theorem own_grew {w W w' : World} {base : Nat} {v : Value} {n : Nat} {xs : List Value} (hd : Below base w W) (hb : base ≤ W.heap.size) (h : W.ownsRow base 45 4 v n xs) (hg : W.grownBy w' v.ownBlock) : Below base w w' := hd.grown hg hb (fun k hk => (h.lt k hk).1)

set_option maxRecDepth 100000 in
set_option maxHeartbeats 4000000 in
theorem apply_left (v1 v2 : Value) (l : List Row) (w : World) (hE : Env w) (h1 : RRow w v1 l) (hn1 : l.length ≤ 1000) (hs1 : ∀ x ∈ l, x.grp.size ≤ 900) (hr : rright l = false) :
    Calls Tryz.prog 17 #[v1, v2] w fun e w' => e = .returned (.tuple #[.slice none 0 0, .int .i64 9]) ∧ Below w.heap.size w w' := by
  have HK := Lib.hid (rright_any v1 l w h1 hE (by omega) hs1)
  rw [hr] at HK
  clear h1 hs1 hE
  go_enter Tryz.func17, Tryz.ntmps17
  go_wp2_with fail
  refine (HK.out).mono ?_
  rintro e w2 ⟨rfl, n2⟩
  go_wp2_with fail
  go_ret2
  exact ⟨rfl, n2⟩
set_option maxRecDepth 100000 in
set_option maxHeartbeats 4000000 in
theorem apply_right (v1 v2 : Value) (l : List Row) (cs : List Chg) (w : World) (hE : Env w) (h1 : RRow w v1 l) (h2 : CRow w v2 cs) (hn1 : l.length ≤ 1000) (hn2 : cs.length ≤ 1000) (hs1 : ∀ x ∈ l, x.grp.size ≤ 900) (hs2 : ∀ x ∈ cs, x.r.grp.size ≤ 900) (hr : rright l = true) (hr2 : cright cs = false) :
    Calls Tryz.prog 17 #[v1, v2] w fun e w' => e = .returned (.tuple #[.slice none 0 0, .int .i64 9]) ∧ Below w.heap.size w w' := by
  have HK := Lib.hid (rright_any v1 l w h1 hE (by omega) hs1)
  have HK2 := Lib.hid (fun W (n : Below w.heap.size w W) => ordered_any v2 cs W (hE.go n) (h2.on n) (by omega) hs2)
  rw [hr] at HK
  rw [hr2] at HK2
  clear h1 hs1 h2 hs2 hE
  go_enter Tryz.func17, Tryz.ntmps17
  go_wp2_with fail
  refine (HK.out).mono ?_
  rintro e w2 ⟨rfl, n2⟩
  go_wp2_with fail
  refine (HK2.out _ n2).mono ?_
  rintro e w3 ⟨rfl, n3⟩
  go_wp2_with fail
  go_ret2
  exact ⟨rfl, n2.trans (n3.mono n2.size)⟩

set_option maxRecDepth 100000 in
set_option maxHeartbeats 8000000 in
theorem apply_ok (v1 v2 : Value) (l : List Row) (cs : List Chg) (w : World) (hE : Env w) (h1 : RRow w v1 l) (h2 : CRow w v2 cs) (hn1 : l.length ≤ 400) (hn2 : cs.length ≤ 400) (hs1 : ∀ x ∈ l, x.grp.size ≤ 900) (hs2 : ∀ x ∈ cs, x.r.grp.size ≤ 900) (hr : rright l = true) (hr2 : cright cs = true) :
    Calls Tryz.prog 17 #[v1, v2] w fun e w' => ((∃ m v', applyD l cs = some m ∧ e = .returned (.tuple #[v', .int .i64 0]) ∧ RRow w' v' m) ∨ (applyD l cs = none ∧ e = .returned (.tuple #[.slice none 0 0, .int .i64 6]))) ∧ Below w.heap.size w w' := by
  have HK := Lib.hid (rright_any v1 l w h1 hE (by omega) hs1)
  have HK2 := Lib.hid (fun W (n : Below w.heap.size w W) => ordered_any v2 cs W (hE.go n) (h2.on n) (by omega) hs2)
  have HU := Lib.hid (cright_true.1 hr2).2.2
  have HUL := Lib.hid (up_rise.1 (rright_true.1 hr).2)
  rw [hr] at HK
  rw [hr2] at HK2
  obtain ⟨j0, hi, hz0, hz1, hz2⟩ := info29
  have HI := Lib.hid (And.intro hi (And.intro hz0 (And.intro hz1 hz2)))
  obtain ⟨a1, c1, rfl, hc1, hl1⟩ := h1
  obtain ⟨a2, c2, rfl, hc2, hl2⟩ := h2
  have HA0 := Lib.hid (fun W (d : Below w.heap.size w W) => hl1.on d)
  have HL2 := Lib.hid hl2
  clear hs1 hs2 hE hi hz0 hz1 hz2 hl1 hl2 hr hr2
  go_enter Tryz.func17, Tryz.ntmps17
  go_wp2_with fail
  refine (HK.out).mono ?_
  rintro e w2 ⟨rfl, n2⟩
  go_wp2_with fail
  refine (HK2.out _ n2).mono ?_
  rintro e w3 ⟨rfl, n3⟩
  have d3 := n2.trans (n3.mono n2.size)
  clear n2 n3 HK HK2
  go_wp2_with fail
  go_loopw [0, 6, 21] (fun lv rv i wr => ∃ (k : Nat) (R L : List Row) (a1 : Option Addr) (c1 : Nat), k ≤ cs.length ∧ i = .int .i64 k ∧ lv = .slice a1 L.length c1 ∧ L.length ≤ c1 ∧ Hid (∀ W, Below w.heap.size w W → RAt W a1 L) ∧ Hid (wr.ownsRow w.heap.size 45 4 rv R.length (flatG rowC R)) ∧ Hid (Df.Way l cs k R L) ∧ Hid (Below w.heap.size w wr)) (fun _ _ i _ => cs.length - (intOf i).toNat)
  case atStart => exact ⟨0, [], l, a1, c1, Nat.zero_le _, rfl, rfl, hc1, HA0, ownG_nil _ _ _, way_zero cs HUL.out, d3⟩
  case round =>
    obtain ⟨k, R, L, a1, c1, hk, rfl, rfl, hc, HA, HO, HW, HD⟩ := hrel
    have hwl := way_len HW.out
    have hz := (HD.out).size
    clear HA0 hc1
    by_cases hlt : k < cs.length
    · obtain ⟨b, o, rfl, hb, hL⟩ := HL2.out (ne_of_lt hlt)
      obtain ⟨e1, e2, e3, e4, e5⟩ := c_at (hL.on hb HD.out) k hlt
      have i1 : (k : Int) < (cs.length : Int) := by omega
      have i2 : (0 : Int) ≤ (k : Int) := by omega
      obtain ⟨f1, f2, f3⟩ := aheadN_facts L cs[k].r
      have HW2 : Df.Way l cs k R (L.take (aheadN L cs[k].r) ++ L.drop (aheadN L cs[k].r)) := by rw [List.take_append_drop]; exact HW.out
      have HP := Lib.hid (fun (h1 : ∀ x ∈ L.drop (aheadN L cs[k].r), rlt cs[k].r x = true) (h2 : cs[k].gone = false) => way_put HW2 HU.out hlt f2 h1 h2)
      have HNn := Lib.hid (fun (h1 : ∀ x ∈ L.drop (aheadN L cs[k].r), rlt cs[k].r x = true) (h2 : cs[k].gone = true) => way_none HW2 hlt f2 h1 h2)
      have HSt : Hid (∀ y t, L.drop (aheadN L cs[k].r) = y :: t → rlt cs[k].r y = false → cs[k].gone = false → Df.Way l cs (k + 1) (R ++ L.take (aheadN L cs[k].r) ++ [cs[k].r]) t) := fun y t e h1 h2 => way_set (y := y) (by rw [e] at HW2; exact HW2) HU.out hlt f2 (rlt_neither (f3 y t e) h1) h2
      have HDl : Hid (∀ y t, L.drop (aheadN L cs[k].r) = y :: t → rlt cs[k].r y = false → cs[k].gone = true → Df.Way l cs (k + 1) (R ++ L.take (aheadN L cs[k].r)) t) := fun y t e h1 h2 => way_del (y := y) (by rw [e] at HW2; exact HW2) HU.out hlt f2 (rlt_neither (f3 y t e) h1) h2
      have HOv : Hid (∀ y t, L.drop (aheadN L cs[k].r) = y :: t → rlt cs[k].r y = true → ∀ x ∈ L.drop (aheadN L cs[k].r), rlt cs[k].r x = true) := fun y t e h1 => way_over (t := t) (A := L.take (aheadN L cs[k].r)) (by rw [e] at HW2; exact HW2) h1 e
      have HCA := Lib.hid (fun W (d : Below w.heap.size w W) => countAhead_any (.slice a1 L.length c1) L cs[k].r W ⟨a1, c1, rfl, hc, HA.out W d⟩ (by omega))
      have hq1 := cutR_head a1 c1 L.length (aheadN L cs[k].r) f1 hc
      have hq2 := cutR_tail a1 c1 L.length (aheadN L cs[k].r) f1
      have HA1 := Lib.hid (fun W (d : Below w.heap.size w W) => gat_head (HA.out W d) (aheadN L cs[k].r))
      have HA2 := Lib.hid (fun W (d : Below w.heap.size w W) => gat_tail (HA.out W d) hc (aheadN L cs[k].r))
      have hz1' : (L.take (aheadN L cs[k].r)).length = aheadN L cs[k].r := by rw [List.length_take]; omega
      have hz2 : (L.drop (aheadN L cs[k].r)).length = L.length - aheadN L cs[k].r := List.length_drop
      have hz3 : L.length - aheadN L cs[k].r ≤ c1 - aheadN L cs[k].r := by omega
      have HNo := Lib.hid (fun (h : a1 = none) => at_none (HA.out _ HD.out) h)
      rw [← hz2] at hq2 hz3
      have hD8 : (L.drop (aheadN L cs[k].r)).length ≤ 800 := by omega
      have hz1 := Lib.hid hz1'
      clear hz1' hz2
      generalize (if c1 = aheadN L cs[k].r then a1 else a1.map (·.add (aheadN L cs[k].r * 4))) = a2 at *
      generalize c1 - aheadN L cs[k].r = c2 at *
      generalize L.take (aheadN L cs[k].r) = A at *
      generalize L.drop (aheadN L cs[k].r) = D at *
      generalize aheadN L cs[k].r = N at *
      generalize cs[k] = c at *
      obtain ⟨⟨x1, x2, x3, x4⟩, x5⟩ := c
      simp only at e1 e2 e3 e4 e5 HCA HP HNn HSt HDl HOv
      have hN : N ≤ 800 := by omega
      have j1 : (0 : Int) ≤ (N : Int) := by omega
      clear hL hb f2 f3 HW2 HW HA HL2
      go_wp2_with fail
      have HC : Hid (GX wr.heap.size x1 x2 x3 x4 x5 wr (wr.alloc (.cells #[.int .i64 x1, .string x2, .int .i64 x3, .bool x4, .bool x5] 47))) := ⟨by simp, by simp, by simp, by simp, by simp, (Gw.refl wr).alloc _⟩
      have da := (HD.out).trans (HC.out.2.2.2.2.2.below.mono hz)
      have HBl := Lib.hid (fun g hg => Nat.ne_of_gt (HO.out.lt g hg).2)
      have HO := Lib.hid (own_on HO.out HC.out.2.2.2.2.2.below)
      have hza := da.size
      clear e1 e2 e3 e4 e5
      generalize wr.alloc (.cells #[.int .i64 x1, .string x2, .int .i64 x3, .bool x4, .bool x5] 47) = wa at *
      generalize hxb : wr.heap.size = xb at *
      obtain ⟨b0, b1, b2, b3, b4, gC⟩ := HC.out
      go_wp2_with fail
      refine (HCA.out _ da).mono ?_
      rintro e w5 ⟨rfl, g5⟩
      have HC := Lib.hid (GX.on HC.out g5)
      have d5 := da.trans (g5.below.mono hza)
      have HO := Lib.hid (own_on HO.out g5.below)
      have hz5 := d5.size
      have HA1 := Lib.hid (HA1.out _ d5)
      clear b0 b1 b2 b3 b4 gC g5 HCA da hza
      go_wp2_with (first | (at_builtin; refine wpList_append_any rfl _ _ 22 rfl w.heap.size 45 j0 (.agg #[.int .i64 0, .string ⟨#[]⟩, .int .i64 0, .bool false]) 4 40 Tryz.underlying22 HI.out.1 HI.out.2.1 HI.out.2.2.1 HI.out.2.2.2 rfl (by decide) _ _ _ rfl HO.out a1 N c1 (flatG rowC A) rfl (by rw [flatG_len rowC_len, hz1.out]) (fun h => by have := HNo.out h; omega) (at_news HA1.out) (flatG_cells1 rowC_one A) (by unfold maxLen; omega) (by omega) (by omega) ?_; intro v6 w6 hown6 hgrow6 hnil6))
      have d6 := own_grew d5 hz5 HO.out hgrow6
      have HB6 : Hid (BX xb x1 x2 x3 x4 x5 w.heap.size w w6) := GX.far HC.out hgrow6 (fun e => (HBl.out _ e.symm) rfl) d6
      have HO6 := Lib.hid (own_more hz1.out hown6)
      have hz6 := d6.size
      have hRA : (R ++ A).length ≤ 800 := by rw [List.length_append, hz1.out]; omega
      clear hown6 hgrow6 hnil6 HC HO HBl HA1 HNo d5 hz5
      generalize hRAe : R ++ A = RA at *
      go_wp2_with fail
      by_cases hD0 : D.length = 0
      · have eD : ∀ x ∈ D, rlt ⟨x1, x2, x3, x4⟩ x = true := fun x hx => by rw [List.length_eq_zero_iff.1 hD0] at hx; simp at hx
        have eN : D = [] := List.length_eq_zero_iff.1 hD0
        clear HSt HDl HOv
        subst eN
        try simp only [List.length_nil]
        clear hD0
        obtain ⟨b0, b1, b2, b3, b4, _⟩ := HB6.out
        cases x5
        · have HM := Lib.hid (HP.out eD rfl)
          clear HP HNn eD
          go_quiet (fail)
          clear b0 b1 b2 b3 b4
          have HB6 := Lib.hid (BX.on HB6.out hz6 (below_drewN (Below.refl w6.heap.size w6) nq))
          have HO6 := Lib.hid (own_drewN HO6.out nq)
          have d6 := below_drewN d6 nq
          have hz6 := d6.size
          generalize w6.drewN nq = w8 at *
          obtain ⟨b0, b1, b2, b3, b4, _⟩ := HB6.out
          go_wp2_with (first | (at_builtin; refine wpList_append_own _ rfl _ _ 22 rfl w.heap.size 45 j0 (.agg #[.int .i64 0, .string ⟨#[]⟩, .int .i64 0, .bool false]) 4 40 Tryz.underlying22 HI.out.1 HI.out.2.1 HI.out.2.2.1 HI.out.2.2.2 rfl (by decide) _ _ _ rfl (HO6.out.alloc _) ⟨w8.heap.size, 0, none⟩ 1 1 (rowC ⟨x1, x2, x3, x4⟩) rfl rfl (new1R w8 ⟨x1, x2, x3, x4⟩) (rowC_one _) (by unfold maxLen; omega) (by omega) (by simp; omega) ?_; intro v' w7 hown hgrow hnil))
          have HO7 := Lib.hid (ownG_next hown)
          have d7 := Lib.hid (ownG_below d6 hz6 HO6.out hgrow)
          clear hown hgrow hnil HO6 d6
          go_wp2_with fail
          exact ⟨⟨k + 1, RA ++ [⟨x1, x2, x3, x4⟩], [], a2, c2, by omega, by go_num, rfl, Nat.zero_le _, HA2, HO7, HM, d7⟩, by simp [intOf]; omega⟩
        · have HM := Lib.hid (HNn.out eD rfl)
          clear HP HNn eD
          go_quiet (fail)
          clear b0 b1 b2 b3 b4
          have HB6 := Lib.hid (BX.on HB6.out hz6 (below_drewN (Below.refl w6.heap.size w6) nq))
          have HO6 := Lib.hid (own_drewN HO6.out nq)
          have d6 := below_drewN d6 nq
          have hz6 := d6.size
          generalize w6.drewN nq = w8 at *
          obtain ⟨b0, b1, b2, b3, b4, _⟩ := HB6.out
          go_wp2_with fail
          go_ret2
          exact ⟨Or.inr ⟨HM.out, rfl⟩, d6⟩
      · obtain ⟨y, t, eD⟩ : ∃ y t, D = y :: t := by cases D with | nil => exact absurd rfl hD0 | cons y t => exact ⟨y, t, rfl⟩
        obtain ⟨by', oy, hay, -, -, -, -, -⟩ := at_first (HA2.out _ d6) eD
        subst hay
        have HAY := Lib.hid (fun W (d : Below w.heap.size w W) => at_first (HA2.out W d) eD)
        have q1 : decide ((0 : Int) < (D.length : Int)) = true := decide_eq_true (by omega)
        have q2 : decide (0 < D.length) = true := decide_eq_true (by omega)
        have q3 : (0 : Int) < (D.length : Int) := by omega
        have q4 : 0 < D.length := by omega
        have hcy := cutR_one (some ⟨by', oy, none⟩) c2 (l := D) q4
        have HRy := Lib.hid (fun W (d : Below w.heap.size w W) => gat_tail (HA2.out W d) hz3 1)
        have hlt' := Lib.hid (show D.length = t.length + 1 by rw [eD]; rfl)
        have hdy : D.drop 1 = t := by rw [eD]; rfl
        rw [hdy] at hcy HRy
        generalize (if c2 = 1 then some (⟨by', oy, none⟩ : Addr) else Option.map (fun x : Addr => x.add 4) (some (⟨by', oy, none⟩ : Addr))) = ay at *
        have hcz : Hid (t.length ≤ c2 - 1) := by show _ ≤ _; have := hlt'.out; omega
        generalize c2 - 1 = cy at *
        have HSt := Lib.hid (HSt.out y t eD)
        have HDl := Lib.hid (HDl.out y t eD)
        have HOv := Lib.hid (HOv.out y t eD)
        have HBF := fun W => before_any ⟨x1, x2, x3, x4⟩ y W
        generalize rlt ⟨x1, x2, x3, x4⟩ y = Q at *
        obtain ⟨bb', oo', hay', -, y1', y2', y3', y4'⟩ := HAY.out _ d6
        injection hay' with hay'
        injection hay' with u1 u2
        subst u1
        subst u2
        obtain ⟨y1, y2, y3, y4⟩ := y
        simp only at y1' y2' y3' y4'
        have HBF : Hid (∀ W, Calls Tryz.prog 37 #[.agg #[.int .i64 x1, .string x2, .int .i64 x3, .bool x4], .agg #[.int .i64 y1, .string y2, .int .i64 y3, .bool y4]] W fun e w' => e = .returned (.bool Q) ∧ Gw W w') := HBF
        clear HAY hdy eD hD0
        obtain ⟨b0, b1, b2, b3, b4, _⟩ := HB6.out
        have HT : Hid (TwoB xb 0 by' oy x1 x2 x3 x4 y1 y2 y3 y4 w6 w6.drew) := ⟨b0, b1, b2, b3, y1', y2', y3', y4', (Gw.refl _).drew⟩
        have hS := HT.out
        unfold TwoB at hS
        clear b0 b1 b2 b3 b4 y1' y2' y3' y4'
        go_region_held3 (fun w' => w'.cell? ⟨xb, 0, none⟩ = some (.int .i64 x1) ∧ w'.cell? ⟨xb, 0 + 1, none⟩ = some (.string x2) ∧ w'.cell? ⟨xb, 0 + 2, none⟩ = some (.int .i64 x3) ∧ w'.cell? ⟨xb, 0 + 3, none⟩ = some (.bool x4) ∧ w'.cell? ⟨by', oy, none⟩ = some (.int .i64 y1) ∧ w'.cell? ⟨by', oy + 1, none⟩ = some (.string y2) ∧ w'.cell? ⟨by', oy + 2, none⟩ = some (.int .i64 y3) ∧ w'.cell? ⟨by', oy + 3, none⟩ = some (.bool y4) ∧ Gw w6 w') (first | exact hS | exact hS3) (first
          | (go_at_call 37; refine (HBF.out _).mono ?_; rintro e w8 ⟨rfl, g8⟩; have hS3 := TwoB.on HT.out g8; unfold TwoB at hS3)
          | fail)
        have G := hS3.2.2.2.2.2.2.2.2
        have HB6 := Lib.hid (BX.on HB6.out hz6 G.below)
        have HO6 := Lib.hid (own_on HO6.out G.below)
        have d6 := d6.trans (G.below.mono hz6)
        have hz6 := d6.size
        clear hS hS3 HT HBF G g8
        obtain ⟨b0, b1, b2, b3, b4, _⟩ := HB6.out
        cases Q
        · have HP := HSt
          cases x5
          · have HM := Lib.hid (HSt.out rfl rfl)
            clear HP HNn HDl HOv HSt
            go_wp2_with (first | (at_builtin; refine wpList_append_own _ rfl _ _ 22 rfl w.heap.size 45 j0 (.agg #[.int .i64 0, .string ⟨#[]⟩, .int .i64 0, .bool false]) 4 40 Tryz.underlying22 HI.out.1 HI.out.2.1 HI.out.2.2.1 HI.out.2.2.2 rfl (by decide) _ _ _ rfl (HO6.out.alloc _) ⟨w8.heap.size, 0, none⟩ 1 1 (rowC ⟨x1, x2, x3, x4⟩) rfl rfl (new1R w8 ⟨x1, x2, x3, x4⟩) (rowC_one _) (by unfold maxLen; omega) (by omega) (by simp; omega) ?_; intro v' w7 hown hgrow hnil))
            have HO7 := Lib.hid (ownG_next hown)
            have d7 := Lib.hid (ownG_below d6 hz6 HO6.out hgrow)
            clear hown hgrow hnil HO6 d6
            go_wp2_with fail
            exact ⟨⟨k + 1, RA ++ [⟨x1, x2, x3, x4⟩], t, ay, cy, by omega, by go_num, rfl, hcz.out, HRy, HO7, HM, d7⟩, by simp [intOf]; omega⟩
          · have HM := Lib.hid (HDl.out rfl rfl)
            clear HP HNn HDl HOv HSt
            go_wp2_with fail
            exact ⟨⟨k + 1, RA, t, ay, cy, by omega, by go_num, rfl, hcz.out, HRy, HO6, HM, Lib.hid d6⟩, by simp [intOf]; omega⟩
        · have eA := HOv.out rfl
          cases x5
          · have HM := Lib.hid (HP.out eA rfl)
            clear HP HNn HDl HOv HSt eA
            go_wp2_with (first | (at_builtin; refine wpList_append_own _ rfl _ _ 22 rfl w.heap.size 45 j0 (.agg #[.int .i64 0, .string ⟨#[]⟩, .int .i64 0, .bool false]) 4 40 Tryz.underlying22 HI.out.1 HI.out.2.1 HI.out.2.2.1 HI.out.2.2.2 rfl (by decide) _ _ _ rfl (HO6.out.alloc _) ⟨w8.heap.size, 0, none⟩ 1 1 (rowC ⟨x1, x2, x3, x4⟩) rfl rfl (new1R w8 ⟨x1, x2, x3, x4⟩) (rowC_one _) (by unfold maxLen; omega) (by omega) (by simp; omega) ?_; intro v' w7 hown hgrow hnil))
            have HO7 := Lib.hid (ownG_next hown)
            have d7 := Lib.hid (ownG_below d6 hz6 HO6.out hgrow)
            clear hown hgrow hnil HO6 d6
            go_wp2_with fail
            exact ⟨⟨k + 1, RA ++ [⟨x1, x2, x3, x4⟩], D, _, c2, by omega, by go_num, rfl, hz3, HA2, HO7, HM, d7⟩, by simp [intOf]; omega⟩
          · have HM := Lib.hid (HNn.out eA rfl)
            clear HP HNn HDl HOv HSt eA
            go_wp2_with fail
            go_ret2
            exact ⟨Or.inr ⟨HM.out, rfl⟩, d6⟩
    · have i1 : ¬ (k : Int) < (cs.length : Int) := by omega
      have HM := Lib.hid (way_end HW.out hlt)
      have HA1 := Lib.hid (HA.out _ HD.out)
      clear HA HW
      go_wp2_with (first | (at_builtin; refine wpList_append_any rfl _ _ 22 rfl w.heap.size 45 j0 (.agg #[.int .i64 0, .string ⟨#[]⟩, .int .i64 0, .bool false]) 4 40 Tryz.underlying22 HI.out.1 HI.out.2.1 HI.out.2.2.1 HI.out.2.2.2 rfl (by decide) _ _ _ rfl HO.out a1 L.length c1 (flatG rowC L) rfl (by rw [flatG_len rowC_len]) (fun h => at_none HA1.out h) (at_news HA1.out) (flatG_cells1 rowC_one L) (by unfold maxLen; omega) (by omega) (by omega) ?_; intro v6 w6 hown6 hgrow6 hnil6))
      have d6 := own_grew HD.out hz HO.out hgrow6
      have hr := ownG_row rowC_len (own_more rfl hown6)
      have HRR := Lib.hid hr
      clear hown6 hgrow6 hnil6 hr HO HA1
      go_wp2_with fail
      go_ret2
      exact ⟨Or.inl ⟨_, HM.out, _, rfl, HRR.out⟩, d6⟩

end Go.Proofs.YtehgpibngalhfaaGreatDoor.Rw
