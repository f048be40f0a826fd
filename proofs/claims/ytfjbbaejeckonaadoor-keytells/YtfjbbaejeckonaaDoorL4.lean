/- Walks: the law KeyTells. -/
import Derived.Test.YtfjbbaejeckonaaDoorL3
namespace Go.Proofs.YtfjbbaejeckonaaDoor
open Go Go.RowKit Tg Ky

theorem flat_news {w : World} {ad : Addr} {c : Nat} {l : List Tag} (h : TRow w (.slice (some ad) l.length c) l) : ∀ j u, (flat l)[j]? = some u → (w.alloc (Obj.cells #[] 40)).cell? (ad.add j) = some u := by
  intro j u hu
  obtain ⟨a, c', he, _, hl⟩ := h
  cases he
  have hne : l ≠ [] := fun e => by subst e; simp [flat] at hu
  obtain ⟨b, o, ha, hb, hL⟩ := hl hne
  cases ha
  rw [addr_add, World.cell?_alloc_lt _ _ _ (show (⟨b, o + j, none⟩ : Addr).block < w.heap.size from hb)]
  exact flat_cells hL j u hu
/-- Four boxes of two cells, and that nothing older has turned. -/
theorem held8_on {pb qb xb yb : Nat} {v0 v1 v2 v3 v4 v5 v6 v7 : Value} {w W w3 : World}
    (h : W.cell? ⟨pb, 0, none⟩ = some v0 ∧ W.cell? ⟨pb, 1, none⟩ = some v1 ∧ W.cell? ⟨qb, 0, none⟩ = some v2 ∧ W.cell? ⟨qb, 1, none⟩ = some v3 ∧ W.cell? ⟨xb, 0, none⟩ = some v4 ∧ W.cell? ⟨xb, 1, none⟩ = some v5 ∧ W.cell? ⟨yb, 0, none⟩ = some v6 ∧ W.cell? ⟨yb, 1, none⟩ = some v7 ∧ Below yb w W) (n : Below W.heap.size W w3) :
    w3.cell? ⟨pb, 0, none⟩ = some v0 ∧ w3.cell? ⟨pb, 1, none⟩ = some v1 ∧ w3.cell? ⟨qb, 0, none⟩ = some v2 ∧ w3.cell? ⟨qb, 1, none⟩ = some v3 ∧ w3.cell? ⟨xb, 0, none⟩ = some v4 ∧ w3.cell? ⟨xb, 1, none⟩ = some v5 ∧ w3.cell? ⟨yb, 0, none⟩ = some v6 ∧ w3.cell? ⟨yb, 1, none⟩ = some v7 ∧ Below yb w w3 := by
  obtain ⟨h0, h1, h2, h3, h4, h5, h6, h7, h8⟩ := h
  have z0 := World.block_lt_of_cell? _ _ h0
  have z2 := World.block_lt_of_cell? _ _ h2
  have z4 := World.block_lt_of_cell? _ _ h4
  have z6 := World.block_lt_of_cell? _ _ h6
  exact ⟨keepC n h0 z0, keepC n h1 z0, keepC n h2 z2, keepC n h3 z2, keepC n h4 z4, keepC n h5 z4, keepC n h6 z6, keepC n h7 z6, h8.trans (n.mono (Nat.le_of_lt z6))⟩
theorem held8_b {pb qb xb yb : Nat} {v0 v1 v2 v3 v4 v5 v6 v7 : Value} {w W : World}
    (h : W.cell? ⟨pb, 0, none⟩ = some v0 ∧ W.cell? ⟨pb, 1, none⟩ = some v1 ∧ W.cell? ⟨qb, 0, none⟩ = some v2 ∧ W.cell? ⟨qb, 1, none⟩ = some v3 ∧ W.cell? ⟨xb, 0, none⟩ = some v4 ∧ W.cell? ⟨xb, 1, none⟩ = some v5 ∧ W.cell? ⟨yb, 0, none⟩ = some v6 ∧ W.cell? ⟨yb, 1, none⟩ = some v7 ∧ Below yb w W) : Below yb w W := h.2.2.2.2.2.2.2.2

set_option maxRecDepth 100000 in
set_option maxHeartbeats 2000000 in
theorem tells_some (ad : Addr) (b : Option Addr) (c f : Nat) (k m : Key) (w : World) (hE : Env w) (h : TRow w (.slice (some ad) k.2.length c) k.2) (h' : TRow w (.slice b m.2.length f) m.2)
    (hz : ¬ 200 < k.1.size) (hz' : ¬ 200 < m.1.size) (hg : greatT k.2 = false) (hg' : greatT m.2 = false) :
    Calls Tryd.prog 3 #[.agg #[.string k.1, .slice (some ad) k.2.length c], .agg #[.string m.1, .slice b m.2.length f]] w fun e w' => e = .returned (.bool true) ∧ Below w.heap.size w w' := by
  obtain ⟨g1, g2⟩ := great_not hg
  obtain ⟨g3, g4⟩ := small_of g2 (by omega)
  obtain ⟨p1, p2⟩ := great_not hg'
  obtain ⟨p3, _⟩ := small_of p2 (by omega)
  have gt := great_text hg
  obtain ⟨i0, hi, hz0, hz1, hz2⟩ := info41
  have HI := Lib.hid (And.intro hi (And.intro hz0 (And.intro hz1 hz2)))
  clear hi hz0 hz1 hz2
  clear g2 p2
  go_enter Tryd.func3, Tryd.ntmps3
  go_wp2_with fail
  refine (alive_any _ ((hE.alloc _).alloc _)).mono ?_
  rintro e w1 ⟨rfl, n1⟩
  have a0 := newC (i := 0) (belowA n1)
  have a1 := newC (i := 1) (belowA n1)
  have b0 := newC (i := 0) n1
  have b1 := newC (i := 1) n1
  simp at a0 a1 b0 b1
  have d1 := belowA2 n1
  have z1 : w.heap.size + 1 < w1.heap.size := by have := n1.size; simp at this; omega
  have hv1 := h.on d1
  have hm1 := h'.on d1
  clear n1 hE h h'
  go_wp2_with fail
  refine (great_any _ k.2 w1 hv1 g3).mono ?_
  rintro e w2 ⟨rfl, hw⟩
  have hw := hw.symm
  subst hw
  rw [hg]
  go_wp2_with fail
  refine (great_any _ m.2 w1 hm1 p3).mono ?_
  rintro e w2 ⟨rfl, hw⟩
  have hw := hw.symm
  subst hw
  rw [hg']
  have kk0 := fun o => keepC (aBelow w1 o) a0 (by omega)
  have kk1 := fun o => keepC (aBelow w1 o) a1 (by omega)
  have HV := Lib.hid (flat_news hv1)
  go_wp2_with (first | (at_builtin; refine wpList_append_own _ rfl _ _ 22 rfl w1.heap.size 40 i0 (.agg #[.string ⟨#[]⟩, .string ⟨#[]⟩]) 2 32 Tryd.underlying22 HI.out.1 HI.out.2.1 HI.out.2.2.1 HI.out.2.2.2 rfl (by decide) _ _ _ rfl (World.ownsRow_made w1 #[] 0 (Nat.le_refl _) (Nat.zero_le _) (by simp)) ad k.2.length c (flat k.2) rfl (flat_len k.2) HV.out (flat_one k.2) (by unfold maxLen; omega) (by omega) (by simp) ?_; intro v2 w2 hown hgrow hnil; have n2 : Below w1.heap.size w1 w2 := ((Below.refl _ _).alloc (Nat.le_refl _) _).grown hgrow (by simp) (fun k hk => by cases hk; exact Nat.le_refl _); have a0 := keepC n2 a0 (by omega); have a1 := keepC n2 a1 (by omega); have b0 := keepC n2 b0 (by omega); have b1 := keepC n2 b1 (by omega)))
  have hO : OwnT w2 w1.heap.size v2 k.2 := by simpa using hown
  have ho2 := ownT_row hO
  clear hown hgrow hnil hO HV HI
  have hv2 := hv1.on n2
  have hm2 := hm1.on n2
  have d2 := d1.trans (n2.mono d1.size)
  have z2 := Nat.lt_of_lt_of_le z1 n2.size
  clear n2 d1 hv1 hm1 z1 kk0 kk1
  refine (kmake_any k.1 _ k.2 w2 ho2 (by omega) g3 (by omega)).mono ?_
  rintro e w3 ⟨⟨_, rfl, hk3⟩, n3⟩
  obtain ⟨ad3, cp3, rfl, r3⟩ := hk3.open
  have a0 := keepC n3 a0 (by omega)
  have a1 := keepC n3 a1 (by omega)
  have b0 := keepC n3 b0 (by omega)
  have b1 := keepC n3 b1 (by omega)
  have hv3 := hv2.on n3
  have hm3 := hm2.on n3
  have ho3 := ho2.on n3
  have d3 := d2.trans (n3.mono d2.size)
  have z3 := Nat.lt_of_lt_of_le z2 n3.size
  clear n3 d2 hv2 hm2 ho2 z2 hk3
  have hcl := kmake_le k.1 k.2
  generalize hC : kmake k.1 k.2 = C at *
  have HC := Lib.hid hC
  clear hC
  have k0 := fun o => keepC (aBelow w3 o) a0 (by omega)
  have k1 := fun o => keepC (aBelow w3 o) a1 (by omega)
  go_wp2_with fail
  refine (refKmake_any k.1 _ k.2 _ (hv3.on (aBelow _ _)) (by omega) g3 (by omega)).mono ?_
  rw [HC.out]
  rintro e w4 ⟨⟨_, rfl, hk4⟩, n4⟩
  obtain ⟨ad4, cp4, rfl, r4⟩ := hk4.open
  have x0 := newC (i := 0) n4
  have x1 := newC (i := 1) n4
  simp at x0 x1
  have n4 := belowA n4
  have a0 := keepC n4 a0 (by omega)
  have a1 := keepC n4 a1 (by omega)
  have b0 := keepC n4 b0 (by omega)
  have b1 := keepC n4 b1 (by omega)
  have hv4 := hv3.on n4
  have hm4 := hm3.on n4
  have ho4 := ho3.on n4
  have r3 := r3.on n4
  have d4 := d3.trans (n4.mono d3.size)
  clear n4 d3 hv3 hm3 ho3 hk4 k0 k1 HC
  have H1 := Lib.hid fun W (n : Below w4.heap.size w4 W) => refKsame_any _ _ C.1 C.1 W (KRow.shut (r3.on n)) (KRow.shut (r4.on n)) (by omega)
  have H2 := Lib.hid fun W (n : Below w4.heap.size w4 W) => kright_any _ k W (KRow.shut (hv4.on n)) (by omega) g3 (by omega)
  have H3 := Lib.hid fun W (n : Below w4.heap.size w4 W) => refKright_any _ k W (KRow.shut (hv4.on n)) (by omega) g3 (by omega)
  have H4 := Lib.hid fun W (n : Below w4.heap.size w4 W) => ktext_any _ k W (KRow.shut (hv4.on n)) (by omega) g4 (by omega) (by omega)
  have H5 := Lib.hid fun W (n : Below w4.heap.size w4 W) => refKtext_any _ k W (KRow.shut (hv4.on n)) (by omega) g4 (by omega) (by omega)
  have H6 := Lib.hid fun W (n : Below w4.heap.size w4 W) => ksame_any _ _ k m W (KRow.shut (hv4.on n)) (KRow.shut (hm4.on n)) (by omega)
  have H7 := Lib.hid fun W (n : Below w4.heap.size w4 W) => refKsame_any _ _ k m W (KRow.shut (hv4.on n)) (KRow.shut (hm4.on n)) (by omega)
  have H8 := Lib.hid fun W (n : Below w4.heap.size w4 W) => ksame_any _ _ k k W (KRow.shut (hv4.on n)) (KRow.shut (hv4.on n)) (by omega)
  have H9 := Lib.hid fun W (n : Below w4.heap.size w4 W) => same_any _ _ k.2 W (ho4.on n) (hv4.on n) (by omega)
  rw [eqK_self] at H1 H8
  have qR : (kright k == kright k) = true := by simp
  have qE : (eqK k m == eqK k m) = true := by simp
  have qT := beq_self_ba (ktextB k)
  have qC : (C.2 == C.2) = true := by simp
  generalize kright k = R at *
  generalize eqK k m = E at *
  generalize ktextB k = T at *
  go_wp2_with fail
  have y0 : ((w4.alloc (.cells #[.string C.1.1, .slice ad4 C.1.2.length cp4] 24)).drew).cell? ⟨w4.heap.size, 0, none⟩ = some (.string C.1.1) := by simp [go_sem]
  have y1 : ((w4.alloc (.cells #[.string C.1.1, .slice ad4 C.1.2.length cp4] 24)).drew).cell? ⟨w4.heap.size, 1, none⟩ = some (.slice ad4 C.1.2.length cp4) := by simp [go_sem]
  have e5 : Below w4.heap.size w4 ((w4.alloc (.cells #[.string C.1.1, .slice ad4 C.1.2.length cp4] 24)).drew) := (aBelow _ _).drew
  have x0' := keepC e5 x0 (World.block_lt_of_cell? _ _ x0)
  have x1' := keepC e5 x1 (World.block_lt_of_cell? _ _ x0)
  have a0' := keepC e5 a0 (World.block_lt_of_cell? _ _ a0)
  have a1' := keepC e5 a1 (World.block_lt_of_cell? _ _ a0)
  have b0' := keepC e5 b0 (World.block_lt_of_cell? _ _ b0)
  have b1' := keepC e5 b1 (World.block_lt_of_cell? _ _ b0)
  have hS := And.intro a0' (And.intro a1' (And.intro b0' (And.intro b1' (And.intro x0' (And.intro x1' (And.intro y0 (And.intro y1 e5)))))))
  have D4 := Lib.hid d4
  clear a0 a1 b0 b1 x0 x1 a0' a1' b0' b1' x0' x1' y0 y1 e5 d4 hv4 hm4 ho4 r3 r4 hcl g1 g3 g4 p1 p3 gt hz hz' z3
  generalize (w4.alloc (.cells #[.string C.1.1, .slice ad4 C.1.2.length cp4] 24)) = W5 at *
  generalize C.1.2.length = lc at *
  generalize C.1.1 = nc at *
  generalize C.2 = ec at *
  generalize m.2.length = lm at *
  generalize m.1 = nm at *
  generalize w.heap.size + 1 = qb at *
  generalize w3.heap.size = xb at *
  generalize hyb : w4.heap.size = yb at *
  have HY := Lib.hid hyb
  clear hyb
  go_region_held3 (fun w' => w'.cell? ⟨w.heap.size, 0, none⟩ = some (.string k.1) ∧ w'.cell? ⟨w.heap.size, 1, none⟩ = some (.slice (some ad) k.2.length c) ∧ w'.cell? ⟨qb, 0, none⟩ = some (.string nm) ∧ w'.cell? ⟨qb, 1, none⟩ = some (.slice b lm f) ∧ w'.cell? ⟨xb, 0, none⟩ = some (.string nc) ∧ w'.cell? ⟨xb, 1, none⟩ = some (.slice ad3 lc cp3) ∧ w'.cell? ⟨yb, 0, none⟩ = some (.string nc) ∧ w'.cell? ⟨yb, 1, none⟩ = some (.slice ad4 lc cp4) ∧ Below yb w4 w') (first | assumption)
    (first
      | (go_at_call_of 12 (Value.slice ad3 lc cp3); refine (H1.out _ (held8_b (by assumption))).mono ?_; rintro e w6 ⟨rfl, n6⟩; have hS6 := held8_on (by assumption) n6; clear n6)
      | (go_at_call 13; refine (H2.out _ (held8_b (by assumption))).mono ?_; rintro e w6 ⟨rfl, n6⟩; have hS6 := held8_on (by assumption) n6; clear n6)
      | (go_at_call 14; refine (H3.out _ (held8_b (by assumption))).mono ?_; rintro e w6 ⟨rfl, n6⟩; have hS6 := held8_on (by assumption) n6; clear n6)
      | (go_at_call 15; refine (H4.out _ (held8_b (by assumption))).mono ?_; rintro e w6 ⟨rfl, n6⟩; have hS6 := held8_on (by assumption) n6; clear n6)
      | (go_at_call 16; refine (H5.out _ (held8_b (by assumption))).mono ?_; rintro e w6 ⟨rfl, n6⟩; have hS6 := held8_on (by assumption) n6; clear n6)
      | (go_at_call_of 17 (Value.slice b lm f); refine (H6.out _ (held8_b (by assumption))).mono ?_; rintro e w6 ⟨rfl, n6⟩; have hS6 := held8_on (by assumption) n6; clear n6)
      | (go_at_call_of 12 (Value.slice b lm f); refine (H7.out _ (held8_b (by assumption))).mono ?_; rintro e w6 ⟨rfl, n6⟩; have hS6 := held8_on (by assumption) n6; clear n6)
      | (go_at_call 17; refine (H8.out _ (held8_b (by assumption))).mono ?_; rintro e w6 ⟨rfl, n6⟩; have hS6 := held8_on (by assumption) n6; clear n6)
      | (go_at_call 18; refine (H9.out _ (held8_b (by assumption))).mono ?_; rintro e w6 ⟨rfl, n6⟩; have hS6 := held8_on (by assumption) n6; clear n6)
      | fail)
  all_goals
    have d6 : Below w.heap.size w w6 := D4.out.trans ((HY.out ▸ held8_b hS6).mono D4.out.size)
    clear hS6 hS
    go_wp2
    go_ret
    exact ⟨rfl, d6⟩

set_option maxRecDepth 100000 in
set_option maxHeartbeats 2000000 in
theorem tells_none (b : Option Addr) (c f : Nat) (k m : Key) (w : World) (hE : Env w) (h : TRow w (.slice none 0 c) k.2) (h' : TRow w (.slice b m.2.length f) m.2) (hl0 : k.2 = [])
    (hz : ¬ 200 < k.1.size) (hz' : ¬ 200 < m.1.size) (hg : greatT k.2 = false) (hg' : greatT m.2 = false) :
    Calls Tryd.prog 3 #[.agg #[.string k.1, .slice none 0 c], .agg #[.string m.1, .slice b m.2.length f]] w fun e w' => e = .returned (.bool true) ∧ Below w.heap.size w w' := by
  obtain ⟨g1, g2⟩ := great_not hg
  obtain ⟨g3, g4⟩ := small_of g2 (by omega)
  obtain ⟨p1, p2⟩ := great_not hg'
  obtain ⟨p3, _⟩ := small_of p2 (by omega)
  have gt := great_text hg
  have HO0 : Hid (∀ W : World, TRow (W.alloc (Obj.cells #[] 40)) (.slice (some ⟨W.heap.size, 0, none⟩) 0 0) k.2) := fun W => by rw [hl0]; exact ⟨_, 0, rfl, Nat.le_refl _, fun hne => absurd rfl hne⟩
  have KZ : ∀ {W : World}, TRow W (.slice none 0 c) k.2 → KRow W (.agg #[.string k.1, .slice none 0 c]) k := fun h => ⟨_, rfl, h⟩
  clear hl0
  clear g2 p2
  go_enter Tryd.func3, Tryd.ntmps3
  go_wp2_with fail
  refine (alive_any _ ((hE.alloc _).alloc _)).mono ?_
  rintro e w1 ⟨rfl, n1⟩
  have a0 := newC (i := 0) (belowA n1)
  have a1 := newC (i := 1) (belowA n1)
  have b0 := newC (i := 0) n1
  have b1 := newC (i := 1) n1
  simp at a0 a1 b0 b1
  have d1 := belowA2 n1
  have z1 : w.heap.size + 1 < w1.heap.size := by have := n1.size; simp at this; omega
  have hv1 := h.on d1
  have hm1 := h'.on d1
  clear n1 hE h h'
  go_wp2_with fail
  refine (great_any _ k.2 w1 hv1 g3).mono ?_
  rintro e w2 ⟨rfl, hw⟩
  have hw := hw.symm
  subst hw
  rw [hg]
  go_wp2_with fail
  refine (great_any _ m.2 w1 hm1 p3).mono ?_
  rintro e w2 ⟨rfl, hw⟩
  have hw := hw.symm
  subst hw
  rw [hg']
  have kk0 := fun o => keepC (aBelow w1 o) a0 (by omega)
  have kk1 := fun o => keepC (aBelow w1 o) a1 (by omega)
  have ho2 := HO0.out w1
  have n2 : Below w1.heap.size w1 (w1.alloc (Obj.cells #[] 40)) := aBelow _ _
  go_wp2_with fail
  generalize hW2 : w1.alloc (Obj.cells #[] 40) = w2 at *
  clear hW2 HO0
  have a0 := keepC n2 a0 (by omega)
  have a1 := keepC n2 a1 (by omega)
  have b0 := keepC n2 b0 (by omega)
  have b1 := keepC n2 b1 (by omega)
  have hv2 := hv1.on n2
  have hm2 := hm1.on n2
  have d2 := d1.trans (n2.mono d1.size)
  have z2 := Nat.lt_of_lt_of_le z1 n2.size
  clear n2 d1 hv1 hm1 z1 kk0 kk1
  refine (kmake_any k.1 _ k.2 w2 ho2 (by omega) g3 (by omega)).mono ?_
  rintro e w3 ⟨⟨_, rfl, hk3⟩, n3⟩
  obtain ⟨ad3, cp3, rfl, r3⟩ := hk3.open
  have a0 := keepC n3 a0 (by omega)
  have a1 := keepC n3 a1 (by omega)
  have b0 := keepC n3 b0 (by omega)
  have b1 := keepC n3 b1 (by omega)
  have hv3 := hv2.on n3
  have hm3 := hm2.on n3
  have ho3 := ho2.on n3
  have d3 := d2.trans (n3.mono d2.size)
  have z3 := Nat.lt_of_lt_of_le z2 n3.size
  clear n3 d2 hv2 hm2 ho2 z2 hk3
  have hcl := kmake_le k.1 k.2
  generalize hC : kmake k.1 k.2 = C at *
  have HC := Lib.hid hC
  clear hC
  have k0 := fun o => keepC (aBelow w3 o) a0 (by omega)
  have k1 := fun o => keepC (aBelow w3 o) a1 (by omega)
  go_wp2_with fail
  refine (refKmake_any k.1 _ k.2 _ (hv3.on (aBelow _ _)) (by omega) g3 (by omega)).mono ?_
  rw [HC.out]
  rintro e w4 ⟨⟨_, rfl, hk4⟩, n4⟩
  obtain ⟨ad4, cp4, rfl, r4⟩ := hk4.open
  have x0 := newC (i := 0) n4
  have x1 := newC (i := 1) n4
  simp at x0 x1
  have n4 := belowA n4
  have a0 := keepC n4 a0 (by omega)
  have a1 := keepC n4 a1 (by omega)
  have b0 := keepC n4 b0 (by omega)
  have b1 := keepC n4 b1 (by omega)
  have hv4 := hv3.on n4
  have hm4 := hm3.on n4
  have ho4 := ho3.on n4
  have r3 := r3.on n4
  have d4 := d3.trans (n4.mono d3.size)
  clear n4 d3 hv3 hm3 ho3 hk4 k0 k1 HC
  have H1 := Lib.hid fun W (n : Below w4.heap.size w4 W) => refKsame_any _ _ C.1 C.1 W (KRow.shut (r3.on n)) (KRow.shut (r4.on n)) (by omega)
  have H2 := Lib.hid fun W (n : Below w4.heap.size w4 W) => kright_any _ k W (KZ (hv4.on n)) (by omega) g3 (by omega)
  have H3 := Lib.hid fun W (n : Below w4.heap.size w4 W) => refKright_any _ k W (KZ (hv4.on n)) (by omega) g3 (by omega)
  have H4 := Lib.hid fun W (n : Below w4.heap.size w4 W) => ktext_any _ k W (KZ (hv4.on n)) (by omega) g4 (by omega) (by omega)
  have H5 := Lib.hid fun W (n : Below w4.heap.size w4 W) => refKtext_any _ k W (KZ (hv4.on n)) (by omega) g4 (by omega) (by omega)
  have H6 := Lib.hid fun W (n : Below w4.heap.size w4 W) => ksame_any _ _ k m W (KZ (hv4.on n)) (KRow.shut (hm4.on n)) (by omega)
  have H7 := Lib.hid fun W (n : Below w4.heap.size w4 W) => refKsame_any _ _ k m W (KZ (hv4.on n)) (KRow.shut (hm4.on n)) (by omega)
  have H8 := Lib.hid fun W (n : Below w4.heap.size w4 W) => ksame_any _ _ k k W (KZ (hv4.on n)) (KZ (hv4.on n)) (by omega)
  have H9 := Lib.hid fun W (n : Below w4.heap.size w4 W) => same_any _ _ k.2 W (ho4.on n) (hv4.on n) (by omega)
  rw [eqK_self] at H1 H8
  have qR : (kright k == kright k) = true := by simp
  have qE : (eqK k m == eqK k m) = true := by simp
  have qT := beq_self_ba (ktextB k)
  have qC : (C.2 == C.2) = true := by simp
  generalize kright k = R at *
  generalize eqK k m = E at *
  generalize ktextB k = T at *
  go_wp2_with fail
  have y0 : ((w4.alloc (.cells #[.string C.1.1, .slice ad4 C.1.2.length cp4] 24)).drew).cell? ⟨w4.heap.size, 0, none⟩ = some (.string C.1.1) := by simp [go_sem]
  have y1 : ((w4.alloc (.cells #[.string C.1.1, .slice ad4 C.1.2.length cp4] 24)).drew).cell? ⟨w4.heap.size, 1, none⟩ = some (.slice ad4 C.1.2.length cp4) := by simp [go_sem]
  have e5 : Below w4.heap.size w4 ((w4.alloc (.cells #[.string C.1.1, .slice ad4 C.1.2.length cp4] 24)).drew) := (aBelow _ _).drew
  have x0' := keepC e5 x0 (World.block_lt_of_cell? _ _ x0)
  have x1' := keepC e5 x1 (World.block_lt_of_cell? _ _ x0)
  have a0' := keepC e5 a0 (World.block_lt_of_cell? _ _ a0)
  have a1' := keepC e5 a1 (World.block_lt_of_cell? _ _ a0)
  have b0' := keepC e5 b0 (World.block_lt_of_cell? _ _ b0)
  have b1' := keepC e5 b1 (World.block_lt_of_cell? _ _ b0)
  have hS := And.intro a0' (And.intro a1' (And.intro b0' (And.intro b1' (And.intro x0' (And.intro x1' (And.intro y0 (And.intro y1 e5)))))))
  have D4 := Lib.hid d4
  clear a0 a1 b0 b1 x0 x1 a0' a1' b0' b1' x0' x1' y0 y1 e5 d4 hv4 hm4 ho4 r3 r4 hcl g1 g3 g4 p1 p3 gt hz hz' z3
  generalize (w4.alloc (.cells #[.string C.1.1, .slice ad4 C.1.2.length cp4] 24)) = W5 at *
  generalize C.1.2.length = lc at *
  generalize C.1.1 = nc at *
  generalize C.2 = ec at *
  generalize m.2.length = lm at *
  generalize m.1 = nm at *
  generalize w.heap.size + 1 = qb at *
  generalize w3.heap.size = xb at *
  generalize hyb : w4.heap.size = yb at *
  have HY := Lib.hid hyb
  clear hyb
  go_region_held3 (fun w' => w'.cell? ⟨w.heap.size, 0, none⟩ = some (.string k.1) ∧ w'.cell? ⟨w.heap.size, 1, none⟩ = some (.slice none 0 c) ∧ w'.cell? ⟨qb, 0, none⟩ = some (.string nm) ∧ w'.cell? ⟨qb, 1, none⟩ = some (.slice b lm f) ∧ w'.cell? ⟨xb, 0, none⟩ = some (.string nc) ∧ w'.cell? ⟨xb, 1, none⟩ = some (.slice ad3 lc cp3) ∧ w'.cell? ⟨yb, 0, none⟩ = some (.string nc) ∧ w'.cell? ⟨yb, 1, none⟩ = some (.slice ad4 lc cp4) ∧ Below yb w4 w') (first | assumption)
    (first
      | (go_at_call_of 12 (Value.slice ad3 lc cp3); refine (H1.out _ (held8_b (by assumption))).mono ?_; rintro e w6 ⟨rfl, n6⟩; have hS6 := held8_on (by assumption) n6; clear n6)
      | (go_at_call 13; refine (H2.out _ (held8_b (by assumption))).mono ?_; rintro e w6 ⟨rfl, n6⟩; have hS6 := held8_on (by assumption) n6; clear n6)
      | (go_at_call 14; refine (H3.out _ (held8_b (by assumption))).mono ?_; rintro e w6 ⟨rfl, n6⟩; have hS6 := held8_on (by assumption) n6; clear n6)
      | (go_at_call 15; refine (H4.out _ (held8_b (by assumption))).mono ?_; rintro e w6 ⟨rfl, n6⟩; have hS6 := held8_on (by assumption) n6; clear n6)
      | (go_at_call 16; refine (H5.out _ (held8_b (by assumption))).mono ?_; rintro e w6 ⟨rfl, n6⟩; have hS6 := held8_on (by assumption) n6; clear n6)
      | (go_at_call_of 17 (Value.slice b lm f); refine (H6.out _ (held8_b (by assumption))).mono ?_; rintro e w6 ⟨rfl, n6⟩; have hS6 := held8_on (by assumption) n6; clear n6)
      | (go_at_call_of 12 (Value.slice b lm f); refine (H7.out _ (held8_b (by assumption))).mono ?_; rintro e w6 ⟨rfl, n6⟩; have hS6 := held8_on (by assumption) n6; clear n6)
      | (go_at_call 17; refine (H8.out _ (held8_b (by assumption))).mono ?_; rintro e w6 ⟨rfl, n6⟩; have hS6 := held8_on (by assumption) n6; clear n6)
      | (go_at_call 18; refine (H9.out _ (held8_b (by assumption))).mono ?_; rintro e w6 ⟨rfl, n6⟩; have hS6 := held8_on (by assumption) n6; clear n6)
      | fail)
  all_goals
    have d6 : Below w.heap.size w w6 := D4.out.trans ((HY.out ▸ held8_b hS6).mono D4.out.size)
    clear hS6 hS
    go_wp2
    go_ret
    exact ⟨rfl, d6⟩


set_option maxHeartbeats 1000000 in
theorem tells_skip (a b : Option Addr) (c f : Nat) (k m : Key) (w : World) (hE : Env w) (h : TRow w (.slice a k.2.length c) k.2) (h' : TRow w (.slice b m.2.length f) m.2)
    (hl : ∀ x ∈ k.2, x.1.size ≤ 281474976710656 ∧ x.2.size ≤ 281474976710656) (hl' : ∀ x ∈ m.2, x.1.size ≤ 281474976710656 ∧ x.2.size ≤ 281474976710656)
    (hz : k.1.size ≤ 281474976710656) (hz' : m.1.size ≤ 281474976710656)
    (hg : greatT k.2 = true ∨ (greatT k.2 = false ∧ greatT m.2 = true) ∨ (greatT k.2 = false ∧ greatT m.2 = false ∧ 200 < k.1.size) ∨ (greatT k.2 = false ∧ greatT m.2 = false ∧ ¬ 200 < k.1.size ∧ 200 < m.1.size)) :
    Calls Tryd.prog 3 #[.agg #[.string k.1, .slice a k.2.length c], .agg #[.string m.1, .slice b m.2.length f]] w fun e w' => e = .returned (.bool true) ∧ Below w.heap.size w w' := by
  rcases hg with hg | ⟨hg, hg2⟩ | ⟨hg, hg2, h3⟩ | ⟨hg, hg2, h3, h4⟩
  · go_enter Tryd.func3, Tryd.ntmps3
    go_wp2_with fail
    refine (alive_any _ ((hE.alloc _).alloc _)).mono ?_
    rintro e w1 ⟨rfl, n1⟩
    have a0 := newC (i := 0) (belowA n1)
    have a1 := newC (i := 1) (belowA n1)
    simp at a0 a1
    have d1 := belowA2 n1
    clear n1
    go_wp2_with fail
    refine (great_any _ k.2 w1 (h.on d1) hl).mono ?_
    rintro e w2 ⟨rfl, hw⟩
    have hw := hw.symm
    subst hw
    rw [hg]
    go_wp2_with fail
    go_ret
    exact ⟨rfl, d1⟩
  all_goals
    go_enter Tryd.func3, Tryd.ntmps3
    go_wp2_with fail
    refine (alive_any _ ((hE.alloc _).alloc _)).mono ?_
    rintro e w1 ⟨rfl, n1⟩
    have a0 := newC (i := 0) (belowA n1)
    have a1 := newC (i := 1) (belowA n1)
    have b0 := newC (i := 0) n1
    have b1 := newC (i := 1) n1
    simp at a0 a1 b0 b1
    have d1 := belowA2 n1
    clear n1
    go_wp2_with fail
    refine (great_any _ k.2 w1 (h.on d1) hl).mono ?_
    rintro e w2 ⟨rfl, hw⟩
    have hw := hw.symm
    subst hw
    rw [hg]
    go_wp2_with fail
    refine (great_any _ m.2 w1 (h'.on d1) hl').mono ?_
    rintro e w2 ⟨rfl, hw⟩
    have hw := hw.symm
    subst hw
    rw [hg2]
    go_wp2_with fail
    go_ret
    exact ⟨rfl, d1⟩

theorem tells_walk (a b : Option Addr) (c f : Nat) (k m : Key) (w : World) (hE : Env w) (h : TRow w (.slice a k.2.length c) k.2) (h' : TRow w (.slice b m.2.length f) m.2)
    (hl : ∀ x ∈ k.2, x.1.size ≤ 281474976710656 ∧ x.2.size ≤ 281474976710656) (hl' : ∀ x ∈ m.2, x.1.size ≤ 281474976710656 ∧ x.2.size ≤ 281474976710656)
    (hz : k.1.size ≤ 281474976710656) (hz' : m.1.size ≤ 281474976710656) :
    Calls Tryd.prog 3 #[.agg #[.string k.1, .slice a k.2.length c], .agg #[.string m.1, .slice b m.2.length f]] w fun e w' => e = .returned (.bool true) ∧ Below w.heap.size w w' := by
  cases hg : greatT k.2
  · cases hg' : greatT m.2
    · by_cases h3 : 200 < k.1.size
      · exact tells_skip a b c f k m w hE h h' hl hl' hz hz' (Or.inr (Or.inr (Or.inl ⟨hg, hg', h3⟩)))
      · by_cases h4 : 200 < m.1.size
        · exact tells_skip a b c f k m w hE h h' hl hl' hz hz' (Or.inr (Or.inr (Or.inr ⟨hg, hg', h3, h4⟩)))
        · cases a with
          | some ad => exact tells_some ad b c f k m w hE h h' h3 h4 hg hg'
          | none =>
            have h0 : k.2 = [] := by
              obtain ⟨a2, c2, hv, _, hat⟩ := h
              cases hv
              by_cases hne : k.2 = []
              · exact hne
              · obtain ⟨_, _, he, _⟩ := hat hne
                cases he
            have hlen : k.2.length = 0 := by rw [h0]; rfl
            rw [hlen] at h ⊢
            exact tells_none b c f k m w hE h h' h0 h3 h4 hg hg'
    · exact tells_skip a b c f k m w hE h h' hl hl' hz hz' (Or.inr (Or.inl ⟨hg, hg'⟩))
  · exact tells_skip a b c f k m w hE h h' hl hl' hz hz' (Or.inl hg)
end Go.Proofs.YtfjbbaejeckonaaDoor
