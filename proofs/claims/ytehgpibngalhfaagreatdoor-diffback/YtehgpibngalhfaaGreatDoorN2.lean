/- Changes in order; one into others: walks of the document's. -/
import Derived.Test.YtehgpibngalhfaaGreatDoorN1
import Derived.Test.YtehgpibngalhfaaGreatDoorF0
import Derived.Deep.RegionLaw
namespace Go.Proofs.YtehgpibngalhfaaGreatDoor.Rw
open Go Go.RowKit Go.Sort Go.Lib Tg Pk Ky Qy Df

set_option maxRecDepth 100000 in
theorem info48 : ∃ i, Tryz.prog.info? 47 = some i ∧ i.zero = some (.agg #[.int .i64 0, .string ⟨#[]⟩, .int .i64 0, .bool false, .bool false]) ∧ i.size = 5 ∧ i.bytes = 48 := ⟨_, rfl, rfl, rfl, rfl⟩
theorem new1C (w : World) (x : Chg) : ∀ j u, (chC x)[j]? = some u → (w.alloc (.cells #[.int .i64 x.r.win, .string x.r.grp, .int .i64 x.r.n, .bool x.r.ov, .bool x.gone] 47)).cell? ((⟨w.heap.size, 0, none⟩ : Addr).add j) = some u := by
  intro j u hu
  rw [addr_add, Nat.zero_add, cell_of_row _ w.heap.size j #[.int .i64 x.r.win, .string x.r.grp, .int .i64 x.r.n, .bool x.r.ov, .bool x.gone] 47 (0, 0) (heap_alloc_new _ _)]
  simpa [chC] using hu
theorem new1Cd (w : World) (x : Chg) : ∀ j u, (chC x)[j]? = some u → (w.alloc (.cells #[.int .i64 x.r.win, .string x.r.grp, .int .i64 x.r.n, .bool x.r.ov, .bool x.gone] 47)).drew.cell? ((⟨w.heap.size, 0, none⟩ : Addr).add j) = some u := new1C w x
/-- A change's box. -/
def CX (b : Nat) (x : Chg) (w : World) : Prop := w.cell? ⟨b, 0, none⟩ = some (.int .i64 x.r.win) ∧ w.cell? ⟨b, 1, none⟩ = some (.string x.r.grp) ∧ w.cell? ⟨b, 2, none⟩ = some (.int .i64 x.r.n) ∧ w.cell? ⟨b, 3, none⟩ = some (.bool x.r.ov) ∧ w.cell? ⟨b, 4, none⟩ = some (.bool x.gone)
theorem CX.on {b : Nat} {x : Chg} {w w1 : World} (h : CX b x w) (n : Below w.heap.size w w1) : CX b x w1 := by
  obtain ⟨h0, h1, h2, h3, h4⟩ := h
  have z : b < w.heap.size := World.block_lt_of_cell? _ _ h0
  exact ⟨keepC n h0 z, keepC n h1 z, keepC n h2 z, keepC n h3 z, keepC n h4 z⟩
theorem CX.new (w : World) (x : Chg) : CX w.heap.size x (w.alloc (.cells #[.int .i64 x.r.win, .string x.r.grp, .int .i64 x.r.n, .bool x.r.ov, .bool x.gone] 47)) := by
  refine ⟨?_, ?_, ?_, ?_, ?_⟩ <;> simp
/-- Two rows, each in its block, and the world as it has grown. -/
def TwoB (b p c q : Nat) (x1 : Int) (x2 : ByteArray) (x3 : Int) (x4 : Bool) (y1 : Int) (y2 : ByteArray) (y3 : Int) (y4 : Bool) (w w' : World) : Prop := w'.cell? ⟨b, p, none⟩ = some (.int .i64 x1) ∧ w'.cell? ⟨b, p + 1, none⟩ = some (.string x2) ∧ w'.cell? ⟨b, p + 2, none⟩ = some (.int .i64 x3) ∧ w'.cell? ⟨b, p + 3, none⟩ = some (.bool x4) ∧ w'.cell? ⟨c, q, none⟩ = some (.int .i64 y1) ∧ w'.cell? ⟨c, q + 1, none⟩ = some (.string y2) ∧ w'.cell? ⟨c, q + 2, none⟩ = some (.int .i64 y3) ∧ w'.cell? ⟨c, q + 3, none⟩ = some (.bool y4) ∧ Gw w w'
theorem TwoB.on {b p c q : Nat} {x1 : Int} {x2 : ByteArray} {x3 : Int} {x4 : Bool} {y1 : Int} {y2 : ByteArray} {y3 : Int} {y4 : Bool} {w w1 w2 : World} (h : TwoB b p c q x1 x2 x3 x4 y1 y2 y3 y4 w w1) (g : Gw w1 w2) : TwoB b p c q x1 x2 x3 x4 y1 y2 y3 y4 w w2 := by
  obtain ⟨h0, h1, h2, h3, h4, h5, h6, h7, h8⟩ := h
  have n := g.below
  have zb : b < w1.heap.size := World.block_lt_of_cell? _ _ h0
  have zc : c < w1.heap.size := World.block_lt_of_cell? _ _ h4
  exact ⟨keepC n h0 zb, keepC n h1 zb, keepC n h2 zb, keepC n h3 zb, keepC n h4 zc, keepC n h5 zc, keepC n h6 zc, keepC n h7 zc, h8.trans g⟩

/-- The rows of the first k changes. -/
def rowsOf (l : List Chg) (k : Nat) : List Row := (l.take k).map fun c => c.r
theorem rowsOf_next {l : List Chg} {k : Nat} (hk : k < l.length) : rowsOf l (k + 1) = rowsOf l k ++ [l[k].r] := by
  unfold rowsOf; rw [List.take_succ_eq_append_getElem hk, List.map_append]; rfl
theorem rowsOf_len (l : List Chg) (k : Nat) : (rowsOf l k).length ≤ l.length := by
  unfold rowsOf; rw [List.length_map, List.length_take]; omega
theorem rowsOf_all {l : List Chg} {k : Nat} (hk : ¬ k < l.length) : rowsOf l k = l.map fun c => c.r := by
  unfold rowsOf; rw [List.take_of_length_le (by omega)]

set_option maxRecDepth 100000 in
set_option maxHeartbeats 4000000 in
theorem refInto_some (base g cap : Nat) (S : List Chg) (x : Chg) (w0 w : World) (hb : base ≤ w.heap.size) (hd0 : Below base w0 w) (hO : w.ownsRow base 47 5 (.slice (some ⟨g, 0, none⟩) S.length cap) S.length (flatG chC S)) (hg1 : base ≤ g) (hg0 : g < w.heap.size) (hcap : S.length ≤ cap) (hn : S.length ≤ 1000) :
    Calls Tryz.prog 29 #[.slice (some ⟨g, 0, none⟩) S.length cap, .agg #[.int .i64 x.r.win, .string x.r.grp, .int .i64 x.r.n, .bool x.r.ov, .bool x.gone]] w fun e w' => (∃ v', e = .returned v' ∧ w'.ownsRow base 47 5 v' (putC S x).length (flatG chC (putC S x))) ∧ Below base w0 w' := by
  obtain ⟨i0, hi, hz0, hz1, hz2⟩ := info48
  have HI := Lib.hid (And.intro hi (And.intro hz0 (And.intro hz1 hz2)))
  clear hi hz0 hz1 hz2
  go_enter Tryz.func29, Tryz.ntmps29
  go_wp2_with fail
  have nX := aBelow w (.cells #[.int .i64 x.r.win, .string x.r.grp, .int .i64 x.r.n, .bool x.r.ov, .bool x.gone] 47)
  have HO := Lib.hid (hO.alloc (.cells #[.int .i64 x.r.win, .string x.r.grp, .int .i64 x.r.n, .bool x.r.ov, .bool x.gone] 47))
  have hzz : (w.alloc (.cells #[.int .i64 x.r.win, .string x.r.grp, .int .i64 x.r.n, .bool x.r.ov, .bool x.gone] 47)).heap.size = w.heap.size + 1 := by simp
  have X := Lib.hid (CX.new w x)
  have hd := hd0.trans (nX.mono hb)
  clear hO nX hd0
  generalize w.alloc (.cells #[.int .i64 x.r.win, .string x.r.grp, .int .i64 x.r.n, .bool x.r.ov, .bool x.gone] 47) = wq at *
  have hz : base ≤ wq.heap.size := by omega
  have hg2 : g < wq.heap.size := by omega
  have hgx : ¬ g = w.heap.size := by omega
  generalize w.heap.size = xb at *
  clear hzz
  go_loopw [5] (fun at' wr2 => ∃ (j : Nat), j ≤ S.length ∧ at' = .int .i64 j ∧ Hid (∀ i (h : i < S.length), i < j → rlt S[i].r x.r = true) ∧ Hid (Gw wq wr2)) (fun i _ => S.length - (intOf i).toNat)
  case atStart => exact ⟨0, Nat.zero_le _, rfl, fun _ _ h => absurd h (Nat.not_lt_zero _), Gw.refl _⟩
  case round =>
    obtain ⟨j, hj, rfl, HJ, HG⟩ := hrel
    have HO := Lib.hid (own_on HO.out HG.out.below)
    have X := Lib.hid (X.out.on HG.out.below)
    have hd := hd.trans (HG.out.below.mono hz)
    have hz := Nat.le_trans hz HG.out.below.size
    have hg2 := Nat.lt_of_lt_of_le hg2 HG.out.below.size
    have j2 : (0 : Int) ≤ (j : Int) := by omega
    have j4 : (j : Int) ≤ (cap : Int) := by omega
    have j5 : (j : Int) ≤ (S.length : Int) := by omega
    by_cases hjl : j < S.length
    · obtain ⟨f0, f1, f2, f3, f4⟩ := c_at (ownG_cells chC_len rfl HO.out).1 j hjl
      rw [Nat.zero_add] at f0 f1 f2 f3 f4
      obtain ⟨x0, x1, x2, x3, x4⟩ := X.out
      have j1 : (j : Int) < (S.length : Int) := by omega
      have HB := fun W => refBefore_any S[j].r x.r W
      have HR1 : Hid (rlt S[j].r x.r = true → ∀ i (h : i < S.length), i < j + 1 → rlt S[i].r x.r = true) := by
        intro hq i h hi
        rcases Nat.lt_or_ge i j with g1 | g1
        · exact HJ.out i h g1
        · have : i = j := by omega
          subst this
          exact hq
      have HR2 : Hid (rlt S[j].r x.r = false → putC S x = S.take j ++ x :: S.drop j) := fun h => putC_at S x j hj HJ.out (fun _ => h)
      have HJl := Lib.hid hjl
      have hcj : ¬ cap = j := by omega
      have HS : Hid (TwoB g (j * 5) xb 0 S[j].r.win S[j].r.grp S[j].r.n S[j].r.ov x.r.win x.r.grp x.r.n x.r.ov wr wr.drew) := ⟨f0, f1, f2, f3, x0, x1, x2, x3, (Gw.refl _).drew⟩
      generalize rlt S[j].r x.r = R at *
      generalize S[j].r = y at *
      have HB2 : Hid (∀ W, Calls Tryz.prog 38 #[.agg #[.int .i64 y.win, .string y.grp, .int .i64 y.n, .bool y.ov], .agg #[.int .i64 x.r.win, .string x.r.grp, .int .i64 x.r.n, .bool x.r.ov]] W fun e w' => e = .returned (.bool R) ∧ Gw W w') := HB
      clear HB HJ hjl f4 x4
      go_wp2_with fail
      have hS := HS.out
      unfold TwoB at hS
      clear f0 f1 f2 f3 x0 x1 x2 x3
      go_region_held3 (fun w' => w'.cell? ⟨g, j * 5, none⟩ = some (.int .i64 y.win) ∧ w'.cell? ⟨g, j * 5 + 1, none⟩ = some (.string y.grp) ∧ w'.cell? ⟨g, j * 5 + 2, none⟩ = some (.int .i64 y.n) ∧ w'.cell? ⟨g, j * 5 + 3, none⟩ = some (.bool y.ov) ∧ w'.cell? ⟨xb, 0, none⟩ = some (.int .i64 x.r.win) ∧ w'.cell? ⟨xb, 0 + 1, none⟩ = some (.string x.r.grp) ∧ w'.cell? ⟨xb, 0 + 2, none⟩ = some (.int .i64 x.r.n) ∧ w'.cell? ⟨xb, 0 + 3, none⟩ = some (.bool x.r.ov) ∧ Gw wr w') (first | exact hS | exact hS3) (first
        | (go_at_call 38; refine (HB2.out _).mono ?_; rintro e w3 ⟨rfl, g3⟩; have hS3 := TwoB.on HS.out g3; unfold TwoB at hS3)
        | fail)
      have G := Lib.hid hS3.2.2.2.2.2.2.2.2
      clear hS3 hS HS g3 HB2
      cases R
      · have HP := Lib.hid (HR2.out rfl)
        have HO := Lib.hid (own_on HO.out G.out.below)
        have X := Lib.hid (X.out.on G.out.below)
        have hd := hd.trans (G.out.below.mono hz)
        have hz := Nat.le_trans hz G.out.below.size
        have hg2 := Nat.lt_of_lt_of_le hg2 G.out.below.size
        have HLS := Lib.hid (ownG_cells chC_len rfl HO.out).1
        clear HR1 HR2 HG G
        go_wp2_with (first | (at_builtin; refine wpList_append_own _ rfl _ _ 25 rfl w3.heap.size 47 i0 (.agg #[.int .i64 0, .string ⟨#[]⟩, .int .i64 0, .bool false, .bool false]) 5 48 Tryz.underlying25 HI.out.1 HI.out.2.1 HI.out.2.2.1 HI.out.2.2.2 rfl (by decide) _ _ _ rfl (World.ownsRow_made w3 #[] 0 (Nat.le_refl _) (Nat.zero_le _) (by simp)) ⟨g, j * 5, none⟩ (S.length - j) _ (flatG chC (S.drop j)) rfl (by rw [flatG_len chC_len, List.length_drop]) (dropG_news (q := 0) chC_len (by decide) HLS.out hg2 j _) (flatG_cells1 chC_one _) (by unfold maxLen; omega) (by omega) (by simp) ?_; intro v8 w8 hown8 hgrow8 hnil8))
        obtain ⟨h8, cap8, rfl, hh1, hh2, hL8, HO8, n8⟩ := after17G (q := 0) chC_len HO.out hg2 hown8 hgrow8 (fun e => by have := (hnil8.1 e).1; cases this)
        have hS8 := X.out.on n8
        have HO8 := Lib.hid HO8
        have HL8 := Lib.hid hL8
        have d8 := hd.trans (n8.mono hz)
        have hd8 := n8.size
        clear hown8 hgrow8 hnil8 hL8 n8 HLS HO X
        go_wp2_with fail
        obtain ⟨s0, s1, s2, s3, s4⟩ := hS8
        go_region_law (first
          | (rename_i Kx hKx; have hq := H1; refine step_append_own _ (by rfl) _ _ _ (by rfl) base 47 i0 _ 5 48 Tryz.underlying25 HI.out.1 HI.out.2.1 HI.out.2.2.1 HI.out.2.2.2 rfl (by omega) v1 (j + 1) (flatG chC (S.take j) ++ chC x) (by rfl) H1.out.1 ⟨h8, 0, none⟩ (S.length - j) cap8 (flatG chC (S.drop j)) (by rfl) (by rw [flatG_len chC_len, List.length_drop]) (newsG_far chC_len (by decide) HL8.out hh2 H1.out.2 (by simp [Value.ownBlock]; omega)) (flatG_cells1 chC_one _) (by unfold maxLen; omega) (by omega) (by have := H1.out.2.size; simp at this ⊢; omega) ?_; intro v2 w2 hown2 hgrow2 hnil2; have H2 := Lib.hid (And.intro hown2 hgrow2); clear hown2 hgrow2 hnil2 hq; refine hKx _ _ ?_; clear hKx Kx)
          | (rename_i Kx hKx; refine step_append_own _ (by rfl) _ _ _ (by rfl) base 47 i0 _ 5 48 Tryz.underlying25 HI.out.1 HI.out.2.1 HI.out.2.2.1 HI.out.2.2.2 rfl (by omega) (.slice (some ⟨g, 0, none⟩) j cap) j (flatG chC (S.take j)) (by rfl) (((ownG_cut chC_len HO8.out j hj).alloc _).drew) ⟨w8.heap.size, 0, none⟩ 1 1 (chC x) (by rfl) (by rfl) (new1Cd w8 x) (chC_one x) (by unfold maxLen; omega) (by omega) (by simp; omega) ?_; intro v1 w1 hown1 hgrow1 hnil1; have H1 := Lib.hid (And.intro hown1 hgrow1); clear hown1 hgrow1 hnil1; refine hKx _ _ ?_; clear hKx Kx)
          | fail)
        clear s0 s1 s2 s3 s4
        obtain ⟨HO2, d2⟩ := after18G hj (by omega) d8 (v0 := .slice (some ⟨g, 0, none⟩) j cap) (fun k hk => by cases hk; exact hg1) H1.out.1 H1.out.2 H2.out.1 H2.out.2 rfl rfl rfl rfl
        rw [← HP.out] at HO2
        have HO2 := Lib.hid HO2
        clear H1 H2 HO8
        go_wp2_with fail
        go_ret
        exact ⟨⟨_, rfl, HO2.out⟩, d2⟩
      · have HJ2 := Lib.hid (HR1.out rfl)
        have G2 := Lib.hid (HG.out.trans G.out)
        clear HR1 HR2 HO X
        go_wp2_with fail
        exact ⟨⟨j + 1, by have := HJl.out; omega, by go_num, HJ2, G2⟩, by have := HJl.out; simp [intOf]; omega⟩
    · have j1 : decide ((j : Int) < (S.length : Int)) = false := decide_eq_false (by omega)
      have j3 : decide (j < S.length) = false := decide_eq_false (by omega)
      have HDr := Lib.hid (show S.drop j = [] from List.drop_of_length_le (by omega))
      have HP : Hid (putC S x = S.take j ++ x :: S.drop j) := putC_at S x j hj HJ.out (fun h => absurd h hjl)
      have HLS := Lib.hid (ownG_cells chC_len rfl HO.out).1
      clear HJ HG
      go_wp2_with fail
      go_quiet (fail)
      have G : Hid (Gw wr (wr.drewN nq)) := (Gw.refl wr).drewN nq
      generalize wr.drewN nq = w3 at *
      have HO := Lib.hid (own_on HO.out G.out.below)
      have X := Lib.hid (X.out.on G.out.below)
      have hd := hd.trans (G.out.below.mono hz)
      have hz := Nat.le_trans hz G.out.below.size
      have hg2 := Nat.lt_of_lt_of_le hg2 G.out.below.size
      have HLS := Lib.hid (ownG_cells chC_len rfl HO.out).1
      clear G
      by_cases hcj : cap = j
      · have hcj2 : j = cap := hcj.symm
        clear hcj
        subst hcj2
        go_wp2_with fail
        have n8 := aBelow w3 (Obj.cells #[] 47)
        have HO8 := HO.out.alloc (Obj.cells #[] 47)
        have hw8 : w3.heap.size < (w3.alloc (Obj.cells #[] 47)).heap.size := by simp
        have hS8 := X.out.on n8
        have d8 := hd.trans (n8.mono hz)
        have hd8 := n8.size
        clear HLS HO X n8
        generalize w3.alloc (Obj.cells #[] 47) = w8 at *
        have HO8 := Lib.hid HO8
        obtain ⟨s0, s1, s2, s3, s4⟩ := hS8
        go_region_law (first
          | (rename_i Kx hKx; have hq := H1; refine step_append_own _ (by rfl) _ _ _ (by rfl) base 47 i0 _ 5 48 Tryz.underlying25 HI.out.1 HI.out.2.1 HI.out.2.2.1 HI.out.2.2.2 rfl (by omega) v1 (j + 1) (flatG chC (S.take j) ++ chC x) (by rfl) H1.out.1 ⟨w3.heap.size, 0, none⟩ 0 0 [] (by rfl) (by rfl) (fun i u hu => by simp at hu) (fun u hu => by cases hu) (by unfold maxLen; omega) (by omega) (by have := H1.out.2.size; simp at this ⊢; omega) ?_; intro v2 w2 hown2 hgrow2 hnil2; have H2 := Lib.hid (And.intro hown2 hgrow2); clear hown2 hgrow2 hnil2 hq; refine hKx _ _ ?_; clear hKx Kx)
          | (rename_i Kx hKx; refine step_append_own _ (by rfl) _ _ _ (by rfl) base 47 i0 _ 5 48 Tryz.underlying25 HI.out.1 HI.out.2.1 HI.out.2.2.1 HI.out.2.2.2 rfl (by omega) (.slice (some ⟨g, 0, none⟩) j j) j (flatG chC (S.take j)) (by rfl) (((ownG_cut chC_len HO8.out j hj).alloc _).drew) ⟨w8.heap.size, 0, none⟩ 1 1 (chC x) (by rfl) (by rfl) (new1Cd w8 x) (chC_one x) (by unfold maxLen; omega) (by omega) (by simp; omega) ?_; intro v1 w1 hown1 hgrow1 hnil1; have H1 := Lib.hid (And.intro hown1 hgrow1); clear hown1 hgrow1 hnil1; refine hKx _ _ ?_; clear hKx Kx)
          | fail)
        clear s0 s1 s2 s3 s4
        have hSj : S.length - j = 0 := by omega
        obtain ⟨HO2, d2⟩ := after18G hj (by omega) d8 (v0 := .slice (some ⟨g, 0, none⟩) j j) (fun k hk => by cases hk; exact hg1) H1.out.1 H1.out.2 (by rw [hSj, HDr.out]; exact H2.out.1) H2.out.2 rfl rfl rfl rfl
        rw [← HP.out] at HO2
        have HO2 := Lib.hid HO2
        clear H1 H2 HO8
        go_wp2_with fail
        go_ret
        exact ⟨⟨_, rfl, HO2.out⟩, d2⟩
      · clear HDr
        go_wp2_with (first | (at_builtin; refine wpList_append_own _ rfl _ _ 25 rfl w3.heap.size 47 i0 (.agg #[.int .i64 0, .string ⟨#[]⟩, .int .i64 0, .bool false, .bool false]) 5 48 Tryz.underlying25 HI.out.1 HI.out.2.1 HI.out.2.2.1 HI.out.2.2.2 rfl (by decide) _ _ _ rfl (World.ownsRow_made w3 #[] 0 (Nat.le_refl _) (Nat.zero_le _) (by simp)) ⟨g, j * 5, none⟩ (S.length - j) _ (flatG chC (S.drop j)) rfl (by rw [flatG_len chC_len, List.length_drop]) (dropG_news (q := 0) chC_len (by decide) HLS.out hg2 j _) (flatG_cells1 chC_one _) (by unfold maxLen; omega) (by omega) (by simp) ?_; intro v8 w8 hown8 hgrow8 hnil8))
        obtain ⟨h8, cap8, rfl, hh1, hh2, hL8, HO8, n8⟩ := after17G (q := 0) chC_len HO.out hg2 hown8 hgrow8 (fun e => by have := (hnil8.1 e).1; cases this)
        have hS8 := X.out.on n8
        have HO8 := Lib.hid HO8
        have HL8 := Lib.hid hL8
        have d8 := hd.trans (n8.mono hz)
        have hd8 := n8.size
        clear hown8 hgrow8 hnil8 hL8 n8 HLS HO X
        go_wp2_with fail
        obtain ⟨s0, s1, s2, s3, s4⟩ := hS8
        go_region_law (first
          | (rename_i Kx hKx; have hq := H1; refine step_append_own _ (by rfl) _ _ _ (by rfl) base 47 i0 _ 5 48 Tryz.underlying25 HI.out.1 HI.out.2.1 HI.out.2.2.1 HI.out.2.2.2 rfl (by omega) v1 (j + 1) (flatG chC (S.take j) ++ chC x) (by rfl) H1.out.1 ⟨h8, 0, none⟩ (S.length - j) cap8 (flatG chC (S.drop j)) (by rfl) (by rw [flatG_len chC_len, List.length_drop]) (newsG_far chC_len (by decide) HL8.out hh2 H1.out.2 (by simp [Value.ownBlock]; omega)) (flatG_cells1 chC_one _) (by unfold maxLen; omega) (by omega) (by have := H1.out.2.size; simp at this ⊢; omega) ?_; intro v2 w2 hown2 hgrow2 hnil2; have H2 := Lib.hid (And.intro hown2 hgrow2); clear hown2 hgrow2 hnil2 hq; refine hKx _ _ ?_; clear hKx Kx)
          | (rename_i Kx hKx; refine step_append_own _ (by rfl) _ _ _ (by rfl) base 47 i0 _ 5 48 Tryz.underlying25 HI.out.1 HI.out.2.1 HI.out.2.2.1 HI.out.2.2.2 rfl (by omega) (.slice (some ⟨g, 0, none⟩) j cap) j (flatG chC (S.take j)) (by rfl) (((ownG_cut chC_len HO8.out j hj).alloc _).drew) ⟨w8.heap.size, 0, none⟩ 1 1 (chC x) (by rfl) (by rfl) (new1Cd w8 x) (chC_one x) (by unfold maxLen; omega) (by omega) (by simp; omega) ?_; intro v1 w1 hown1 hgrow1 hnil1; have H1 := Lib.hid (And.intro hown1 hgrow1); clear hown1 hgrow1 hnil1; refine hKx _ _ ?_; clear hKx Kx)
          | fail)
        clear s0 s1 s2 s3 s4
        obtain ⟨HO2, d2⟩ := after18G hj (by omega) d8 (v0 := .slice (some ⟨g, 0, none⟩) j cap) (fun k hk => by cases hk; exact hg1) H1.out.1 H1.out.2 H2.out.1 H2.out.2 rfl rfl rfl rfl
        rw [← HP.out] at HO2
        have HO2 := Lib.hid HO2
        clear H1 H2 HO8
        go_wp2_with fail
        go_ret
        exact ⟨⟨_, rfl, HO2.out⟩, d2⟩

set_option maxRecDepth 100000 in
set_option maxHeartbeats 4000000 in
theorem refInto_none (base : Nat) (x : Chg) (w0 w : World) (hb : base ≤ w.heap.size) (hd0 : Below base w0 w) :
    Calls Tryz.prog 29 #[.slice none 0 0, .agg #[.int .i64 x.r.win, .string x.r.grp, .int .i64 x.r.n, .bool x.r.ov, .bool x.gone]] w fun e w' => (∃ v', e = .returned v' ∧ w'.ownsRow base 47 5 v' (putC [] x).length (flatG chC (putC [] x))) ∧ Below base w0 w' := by
  obtain ⟨i0, hi, hz0, hz1, hz2⟩ := info48
  have HI := Lib.hid (And.intro hi (And.intro hz0 (And.intro hz1 hz2)))
  clear hi hz0 hz1 hz2
  have HP : Hid (putC [] x = ([] : List Chg).take 0 ++ x :: ([] : List Chg).drop 0) := putC_nil x
  go_enter Tryz.func29, Tryz.ntmps29
  go_wp2_with fail
  have nX := aBelow w (.cells #[.int .i64 x.r.win, .string x.r.grp, .int .i64 x.r.n, .bool x.r.ov, .bool x.gone] 47)
  have X := Lib.hid (CX.new w x)
  have hd := hd0.trans (nX.mono hb)
  have hz : base ≤ (w.alloc (.cells #[.int .i64 x.r.win, .string x.r.grp, .int .i64 x.r.n, .bool x.r.ov, .bool x.gone] 47)).heap.size := by simp; omega
  clear nX hd0
  generalize w.alloc (.cells #[.int .i64 x.r.win, .string x.r.grp, .int .i64 x.r.n, .bool x.r.ov, .bool x.gone] 47) = wr at *
  refine wp_loop_rounds 1 ?_
  rw [rounds_succ]
  go_wp2_with fail
  go_quiet (fail)
  go_wp2_with fail
  have nA : Below wr.heap.size wr ((wr.drewN nq).alloc (Obj.cells #[] 47)) := (below_drewN (Below.refl _ _) nq).alloc (Nat.le_refl _) _
  have hS8 := X.out.on nA
  have d8 := hd.trans (nA.mono hz)
  have hw8 : wr.heap.size < ((wr.drewN nq).alloc (Obj.cells #[] 47)).heap.size := by simp
  clear nA X
  generalize (wr.drewN nq).alloc (Obj.cells #[] 47) = w8 at *
  have hd8 := d8.size
  obtain ⟨s0, s1, s2, s3, s4⟩ := hS8
  go_region_law (first
    | (rename_i Kx hKx; have hq := H1; refine step_append_own _ (by rfl) _ _ _ (by rfl) base 47 i0 _ 5 48 Tryz.underlying25 HI.out.1 HI.out.2.1 HI.out.2.2.1 HI.out.2.2.2 rfl (by omega) v1 (0 + 1) (flatG chC ([]) ++ chC x) (by rfl) H1.out.1 ⟨wr.heap.size, 0, none⟩ 0 0 [] (by rfl) (by rfl) (fun i u hu => by simp at hu) (fun u hu => by cases hu) (by unfold maxLen; omega) (by omega) (by have := H1.out.2.size; simp at this ⊢; omega) ?_; intro v2 w2 hown2 hgrow2 hnil2; have H2 := Lib.hid (And.intro hown2 hgrow2); clear hown2 hgrow2 hnil2 hq; refine hKx _ _ ?_; clear hKx Kx)
    | (rename_i Kx hKx; refine step_append_own _ (by rfl) _ _ _ (by rfl) base 47 i0 _ 5 48 Tryz.underlying25 HI.out.1 HI.out.2.1 HI.out.2.2.1 HI.out.2.2.2 rfl (by omega) (.slice none 0 0) 0 [] (by rfl) (World.ownsRow_nil _ _ _ _) ⟨w8.heap.size, 0, none⟩ 1 1 (chC x) (by rfl) (by rfl) (new1Cd w8 x) (chC_one x) (by unfold maxLen; omega) (by omega) (by simp; omega) ?_; intro v1 w1 hown1 hgrow1 hnil1; have H1 := Lib.hid (And.intro hown1 hgrow1); clear hown1 hgrow1 hnil1; refine hKx _ _ ?_; clear hKx Kx)
    | fail)
  clear s0 s1 s2 s3 s4
  obtain ⟨HO2, d2⟩ := after18G (S := []) (j := 0) (x := x) (Nat.le_refl _) (by omega) d8 (v0 := .slice none 0 0) (fun k hk => by cases hk) H1.out.1 H1.out.2 H2.out.1 H2.out.2 rfl rfl rfl rfl
  rw [← HP.out] at HO2
  have HO2 := Lib.hid HO2
  clear H1 H2
  go_wp2_with fail
  go_ret
  exact ⟨⟨_, rfl, HO2.out⟩, d2⟩
/-- A change into others that the call made. -/
theorem refInto_any (base : Nat) (v : Value) (S : List Chg) (x : Chg) (w0 w : World) (hb : base ≤ w.heap.size) (hd : Below base w0 w) (hO : w.ownsRow base 47 5 v S.length (flatG chC S)) (hv : S = [] → v = .slice none 0 0) (hn : S.length ≤ 1000) :
    Calls Tryz.prog 29 #[v, .agg #[.int .i64 x.r.win, .string x.r.grp, .int .i64 x.r.n, .bool x.r.ov, .bool x.gone]] w fun e w' => (∃ v', e = .returned v' ∧ w'.ownsRow base 47 5 v' (putC S x).length (flatG chC (putC S x))) ∧ Below base w0 w' := by
  rcases Nat.eq_zero_or_pos S.length with hs0 | hs0
  · have e : S = [] := List.length_eq_zero_iff.1 hs0
    subst e
    rw [hv rfl]
    exact refInto_none base x w0 w hb hd
  · obtain ⟨g, cap, hv, hg1, hg2, hcap⟩ := ownG_block hO hs0
    subst hv
    exact refInto_some base g cap S x w0 w hb hd hO hg1 hg2 hcap hn

end Go.Proofs.YtehgpibngalhfaaGreatDoor.Rw
