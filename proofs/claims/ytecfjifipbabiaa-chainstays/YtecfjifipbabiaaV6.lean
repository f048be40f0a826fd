/- The fixed fact with which each law begins. -/
import Derived.Test.YtecfjifipbabiaaV5
namespace Go.Proofs.Ytecfjifipbabiaa.Ch
open Go Go.RowKit Go.Sort Go.Lib Cl Ce

def AS (b3 o3 b4 o4 : Nat) (w w' : World) : Prop := w'.cell? ⟨b3, o3, none⟩ = some (.int .i64 5) ∧ w'.cell? ⟨b3, o3 + 6, none⟩ = some (.int .i64 9) ∧ w'.cell? ⟨b4, o4 + 7, none⟩ = some (.int .i64 2) ∧ w'.cell? ⟨b4, o4 + 8, none⟩ = some (.int .i64 10) ∧ w'.cell? ⟨b4, o4 + 9, none⟩ = some (.bool false) ∧ w'.cell? ⟨b4, o4 + 10, none⟩ = some (.int .i64 3) ∧ w'.cell? ⟨b4, o4 + 11, none⟩ = some (.int .i64 7) ∧ Below w.heap.size w w'
theorem AS.on {b3 o3 b4 o4 : Nat} {w w1 w2 : World} (h : AS b3 o3 b4 o4 w w1) (n : Below w1.heap.size w1 w2) : AS b3 o3 b4 o4 w w2 := by
  obtain ⟨h0, h1, h2, h3, h4, h5, h6, h7⟩ := h
  have z3 : b3 < w1.heap.size := World.block_lt_of_cell? _ _ h0
  have z4 : b4 < w1.heap.size := World.block_lt_of_cell? _ _ h2
  exact ⟨keepC n h0 z3, keepC n h1 z3, keepC n h2 z4, keepC n h3 z4, keepC n h4 z4, keepC n h5 z4, keepC n h6 z4, h7.trans (n.mono h7.size)⟩
theorem AS.b {b3 o3 b4 o4 : Nat} {w w1 : World} (h : AS b3 o3 b4 o4 w w1) : Below w.heap.size w w1 := h.2.2.2.2.2.2.2

set_option maxRecDepth 100000 in
set_option maxHeartbeats 4000000 in
theorem alive_any (O : Own10) (w : World) :
    Calls Try.prog 8 #[] w fun e w' => e = .returned (.bool true) ∧ Below w.heap.size w w' := by
  have P1 := Lib.hid (fun W (h : IAt W (some ⟨w.heap.size, 0, none⟩) [7]) => refOfs_any (some ⟨w.heap.size, 0, none⟩) 1 [7] W h (fun x hx => by simp at hx; subst hx; exact ⟨by decide, by decide⟩) (by decide))
  rw [g1] at P1
  have P2 := Lib.hid (fun W u1 u2 (h1 : VRow W u1 []) (h2 : VRow W u2 exV) => O.put u1 u2 [] exV W h1 h2 (by decide) (by decide))
  rw [g3] at P2
  have P3 := Lib.hid (fun W u (h : VRow W u exV) => O.prune u exV 6 W h (by decide))
  rw [g4] at P3
  have P4 := Lib.hid (fun W u (h : VRow W u [⟨5, c7⟩]) => O.fold u [⟨5, c7⟩] 6 3 W h (by decide) (fun y hy => by simp at hy; subst hy; exact ⟨⟨by decide, by decide⟩, ok_c7⟩) ⟨by decide, by decide⟩)
  rw [g5] at P4
  have P5 := Lib.hid (fun W u1 u2 (h1 : VRow W u1 exV) (h2 : VRow W u2 [⟨9, zero⟩]) => O.put u1 u2 exV [⟨9, zero⟩] W h1 h2 (by decide) (by decide))
  rw [g6] at P5
  dsimp only at P2 P4 P5
  go_enter Try.func8, Try.ntmps8
  go_wp2_with fail
  refine (P1.out _ (iat_new w [7])).mono ?_
  rintro e w1 ⟨rfl, n1⟩
  have d1 := (aBelow w (.cells #[.int .i64 7] 2)).trans (n1.mono (by simp))
  clear P1 n1
  go_wp2_with fail
  have na := aBelow w1 (.cells #[.int .i64 2, .int .i64 0, .int .i64 0, .bool false, .int .i64 0, .int .i64 0, .int .i64 5, .int .i64 c7.cnt, .int .i64 c7.sn, .bool c7.so, .int .i64 c7.mn, .int .i64 c7.mx, .int .i64 9, .int .i64 0, .int .i64 0, .bool false, .int .i64 0, .int .i64 0] 40)
  refine (P2.out _ _ _ (GRow.nil _) (vrow_new w1 _ 40 exV rfl)).mono ?_
  rintro e w2 ⟨⟨_, rfl, r2⟩, n2⟩
  have R2 := Lib.hid r2
  have d2 := d1.trans ((na.trans (n2.mono na.size)).mono d1.size)
  obtain ⟨a2, c2, rfl, -, -⟩ := r2
  have yV : exV.length = 3 := rfl
  rw [yV]
  rw [yV] at R2
  clear P2 n2 d1 na
  go_wp2_with fail
  refine (P3.out _ _ R2.out).mono ?_
  rintro e w3 ⟨⟨_, rfl, r3⟩, n3⟩
  have R2 := Lib.hid (R2.out.on n3)
  have R3 := Lib.hid r3
  have d3 := d2.trans (n3.mono d2.size)
  obtain ⟨a3, c3, rfl, hc3, -⟩ := r3
  have yP : exP.length = 2 := rfl
  rw [yP] at R3 hc3
  rw [yP]
  have hc31 : (1 : Int) ≤ (c3 : Int) := by omega
  have hc32 : 1 ≤ c3 := by omega
  clear P3 n3 d2 yP
  go_wp2_with fail
  have hmn : (min (2 : Int) 1).toNat = 1 := rfl
  have hmi : (min (2 : Int) 1) = 1 := rfl
  rw [hmn, hmi]
  refine (P4.out _ _ (vrow_take R3.out 1 (by decide))).mono ?_
  rintro e w4 ⟨⟨_, rfl, r4⟩, n4⟩
  have R2 := Lib.hid (R2.out.on n4)
  have R3 := Lib.hid (R3.out.on n4)
  have R4 := Lib.hid r4
  have d4 := d3.trans (n4.mono d3.size)
  obtain ⟨a4, c4, rfl, -, -⟩ := r4
  have yM : exM.length = 2 := rfl
  rw [yM] at R4
  rw [yM]
  clear P4 n4 d3 yM
  go_wp2_with fail
  have nb := aBelow w4 (.cells #[.int .i64 9, .int .i64 0, .int .i64 0, .bool false, .int .i64 0, .int .i64 0] 40)
  refine (P5.out _ _ _ (R2.out.on nb) (vrow_new w4 _ 40 [⟨9, zero⟩] rfl)).mono ?_
  rintro e w5 ⟨⟨_, rfl, r5⟩, n5⟩
  have n5 := nb.trans (n5.mono nb.size)
  have R2 := Lib.hid (R2.out.on n5)
  have R3 := Lib.hid (R3.out.on n5)
  have R4 := Lib.hid (R4.out.on n5)
  have d5 := d4.trans (n5.mono d4.size)
  obtain ⟨a5, c5, rfl, -, -⟩ := r5
  clear P5 n5 d4 nb
  have HQ1 := Lib.hid (fun W (h : Below w5.heap.size w5 W) => O.at' _ exV 8 W (R2.out.on h) (by decide))
  have HQ2 := Lib.hid (fun W (h : Below w5.heap.size w5 W) => O.at' _ exV 1 W (R2.out.on h) (by decide))
  have HQ3 := Lib.hid (fun W (h : Below w5.heap.size w5 W) => O.last _ exV W (R2.out.on h) (by decide))
  have HQ4 := Lib.hid (fun W (h : Below w5.heap.size w5 W) => O.right _ exV W (R2.out.on h) (by decide))
  have HQ5 := Lib.hid (fun W (h : Below w5.heap.size w5 W) => O.same _ _ exV exV W (R2.out.on h) (R2.out.on h) (by decide))
  have HQ6 := Lib.hid (fun W (h : Below w5.heap.size w5 W) => O.same _ _ exV exP W (R2.out.on h) (R3.out.on h) (by decide))
  have HQ0 := Lib.hid (fun W (b : Nat) (h : IAt W (some ⟨b, 0, none⟩) [7, 3]) => refOfs_any (some ⟨b, 0, none⟩) 2 [7, 3] W h (fun x hx => by simp at hx; rcases hx with rfl | rfl <;> exact ⟨by decide, by decide⟩) (by decide))
  rw [g2] at HQ0
  rw [g7] at HQ1
  rw [g8] at HQ2
  rw [g9] at HQ3
  rw [ga] at HQ4
  rw [gb] at HQ5
  rw [gc] at HQ6
  have e2 : ([7, 3] : List Int).length = 2 := rfl
  rw [e2] at HQ0
  unfold celV c7 at HQ1
  unfold celV zero at HQ2
  unfold c73 at HQ0
  simp only at HQ0 HQ1 HQ2
  obtain ⟨b3, o3, cc3, hv3, _, _, hL3⟩ := R3.out.open (by decide)
  cases hv3
  obtain ⟨b4, o4, cc4, hv4, _, _, hL4⟩ := R4.out.open (by decide)
  cases hv4
  have hS0 : Hid (AS b3 o3 b4 o4 w5 w5.drew) := ⟨(v_at hL3 0 (by decide)).1, (v_at hL3 1 (by decide)).1, (v_at hL4 1 (by decide)).2.1, (v_at hL4 1 (by decide)).2.2.1, (v_at hL4 1 (by decide)).2.2.2.1, (v_at hL4 1 (by decide)).2.2.2.2.1, (v_at hL4 1 (by decide)).2.2.2.2.2, (Below.refl _ _).drew⟩
  have hA0 : Hid (AS b3 o3 b4 o4 w5 (w5.drew.alloc (.cells #[.int .i64 7, .int .i64 3] 2))) := hS0.out.on (aBelow _ _)
  have hS := hS0.out
  have hSA := hA0.out
  unfold AS at hS hSA
  clear hL3 hL4 R2 R3 R4
  have hfd : ∀ W : World, Sem.run Try.prog (Instr.field 28 (.agg #[.int .i64 1, .int .i64 7, .bool false, .int .i64 7, .int .i64 7]) 0) W = .ok (.int .i64 1) W := fun _ => by kernel_rfl
  go_wp2_with fail
  go_region_held3 (fun w' => w'.cell? ⟨b3, o3, none⟩ = some (.int .i64 5) ∧ w'.cell? ⟨b3, o3 + 6, none⟩ = some (.int .i64 9) ∧ w'.cell? ⟨b4, o4 + 7, none⟩ = some (.int .i64 2) ∧ w'.cell? ⟨b4, o4 + 8, none⟩ = some (.int .i64 10) ∧ w'.cell? ⟨b4, o4 + 9, none⟩ = some (.bool false) ∧ w'.cell? ⟨b4, o4 + 10, none⟩ = some (.int .i64 3) ∧ w'.cell? ⟨b4, o4 + 11, none⟩ = some (.int .i64 7) ∧ Below w5.heap.size w5 w') (first | exact hS | exact hSA | assumption) (first
    | (go_at_call 23; refine (HQ0.out _ _ (iat_new w5.drew [7, 3])).mono ?_; rintro e wa ⟨rfl, na⟩; have hsa := AS.on (b3 := b3) (o3 := o3) (b4 := b4) (o4 := o4) (w := w5) hA0.out na; unfold AS at hsa; clear na)
    | (go_at_call_of 11 (Value.int .i64 8); refine (HQ1.out _ (AS.b (b3 := b3) (o3 := o3) (b4 := b4) (o4 := o4) (by assumption))).mono ?_; rintro e wb ⟨rfl, nb⟩; have hsb := AS.on (b3 := b3) (o3 := o3) (b4 := b4) (o4 := o4) (w := w5) (by assumption) nb; unfold AS at hsb; clear nb)
    | (go_at_call_of 11 (Value.int .i64 1); refine (HQ2.out _ (AS.b (b3 := b3) (o3 := o3) (b4 := b4) (o4 := o4) (by assumption))).mono ?_; rintro e wc ⟨rfl, nc⟩; have hsc := AS.on (b3 := b3) (o3 := o3) (b4 := b4) (o4 := o4) (w := w5) (by assumption) nc; unfold AS at hsc; clear nc)
    | (go_at_call 13; refine (HQ3.out _ (AS.b (b3 := b3) (o3 := o3) (b4 := b4) (o4 := o4) (by assumption))).mono ?_; rintro e wd ⟨rfl, nd⟩; have hsd := AS.on (b3 := b3) (o3 := o3) (b4 := b4) (o4 := o4) (w := w5) (by assumption) nd; unfold AS at hsd; clear nd)
    | (go_at_call 9; refine (HQ4.out _ (AS.b (b3 := b3) (o3 := o3) (b4 := b4) (o4 := o4) (by assumption))).mono ?_; rintro e we ⟨rfl, ne⟩; have hse := AS.on (b3 := b3) (o3 := o3) (b4 := b4) (o4 := o4) (w := w5) (by assumption) ne; unfold AS at hse; clear ne)
    | (go_at_call_of 18 (Value.slice (some ⟨b3, o3, none⟩) 2 c3); refine (HQ6.out _ (AS.b (b3 := b3) (o3 := o3) (b4 := b4) (o4 := o4) (by assumption))).mono ?_; rintro e wg ⟨rfl, ng⟩; have hsg := AS.on (b3 := b3) (o3 := o3) (b4 := b4) (o4 := o4) (w := w5) (by assumption) ng; unfold AS at hsg; clear ng)
    | (go_at_call 18; refine (HQ5.out _ (AS.b (b3 := b3) (o3 := o3) (b4 := b4) (o4 := o4) (by assumption))).mono ?_; rintro e wf ⟨rfl, nf⟩; have hsf := AS.on (b3 := b3) (o3 := o3) (b4 := b4) (o4 := o4) (w := w5) (by assumption) nf; unfold AS at hsf; clear nf)
    | fail)
  have dF := Lib.hid (d5.trans (hsg.2.2.2.2.2.2.2.mono d5.size))
  clear hS hSA hsa hsb hsc hsd hse hsf hsg hS0 hA0
  go_wp2_with fail
  go_ret
  exact ⟨rfl, dF.out⟩

end Go.Proofs.Ytecfjifipbabiaa.Ch
