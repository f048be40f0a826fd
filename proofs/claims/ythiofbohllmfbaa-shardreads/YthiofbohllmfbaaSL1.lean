/- The law ShardApplies: a walk. -/
import Derived.Test.YthiofbohllmfbaaSG
import Derived.Test.YthiofbohllmfbaaM11
namespace Go.Proofs.Ythiofbohllmfbaa.Sh
open Go Go.RowKit Go.Sort Go.Lib Cl Ce Ch

theorem okS_of {l : List Ent} (h : greatS l = false) (h2 : ∀ e ∈ l, ok64 e.win ∧ ∀ y ∈ e.vs, okV y) : okS l := by
  obtain ⟨h3, h4⟩ := greatS_not h
  exact ⟨by omega, fun e he => ⟨by have := (h4 e he).1; omega, by have := (h4 e he).2; omega, (h2 e he).1, (h2 e he).2⟩⟩
/-- Four boxes of shards as they lie. -/
def B4 (b1 b2 b3 b4 : Nat) (v1 v2 v3 v4 : Value) (w w' : World) : Prop := w'.cell? ⟨b1, 0, none⟩ = some v1 ∧ w'.cell? ⟨b2, 0, none⟩ = some v2 ∧ w'.cell? ⟨b3, 0, none⟩ = some v3 ∧ w'.cell? ⟨b4, 0, none⟩ = some v4 ∧ Below w.heap.size w w'
theorem B4.on {b1 b2 b3 b4 : Nat} {v1 v2 v3 v4 : Value} {w w1 w2 : World} (h : B4 b1 b2 b3 b4 v1 v2 v3 v4 w w1) (n : Below w1.heap.size w1 w2) : B4 b1 b2 b3 b4 v1 v2 v3 v4 w w2 := by
  obtain ⟨h0, h1, h2, h3, h4⟩ := h
  exact ⟨keepC n h0 (World.block_lt_of_cell? _ _ h0), keepC n h1 (World.block_lt_of_cell? _ _ h1), keepC n h2 (World.block_lt_of_cell? _ _ h2), keepC n h3 (World.block_lt_of_cell? _ _ h3), h4.trans (n.mono h4.size)⟩

set_option maxRecDepth 100000 in
set_option maxHeartbeats 8000000 in
theorem applies_walk (O : Own11) (v : Value) (l : List Ent) (x0 x1 : Int) (x2 : ByteArray) (x3 : Int) (w : World) (h : SRow w v l) (hl : ∀ e ∈ l, ok64 e.win ∧ ∀ y ∈ e.vs, okV y) (h0 : ok64 x0) (h1 : ok64 x1) (h3 : ok64 x3) :
    Calls Try.prog 3 #[.agg #[v], .agg #[.int .i64 x0, .int .i64 x1, .string x2, .int .i64 x3]] w fun e w' => e = .returned (.bool true) ∧ Below w.heap.size w w' := by
  have HAl := Lib.hid (fun W => alive_any O W)
  have HS0 := Lib.hid h
  obtain ⟨a, c, rfl, hc, -⟩ := h.at
  have na := aBelow2 w (.cells #[.slice a l.length c] 24) (.cells #[.int .i64 x0, .int .i64 x1, .string x2, .int .i64 x3] 26)
  have hsa := HS0.out.on na
  have hab : AB w.heap.size (w.heap.size + 1) (.slice a l.length c) x0 x1 x2 x3 ((w.alloc (.cells #[.slice a l.length c] 24)).alloc (.cells #[.int .i64 x0, .int .i64 x1, .string x2, .int .i64 x3] 26)) := ⟨cell_kept (by simp) _, by simp, by simp, by simp, by simp⟩
  clear h hc
  go_enter Try.func3, Try.ntmps3
  go_wp2_with fail
  generalize (w.alloc (.cells #[.slice a l.length c] 24)).alloc (.cells #[.int .i64 x0, .int .i64 x1, .string x2, .int .i64 x3] 26) = wa at *
  refine (HAl.out _).mono ?_
  rintro e w1 ⟨rfl, n1⟩
  have A1 := Lib.hid (hab.on n1)
  have S1 := Lib.hid (hsa.on n1)
  have d1 := na.trans (n1.mono na.size)
  obtain ⟨b0, y0, y1, y2, y3⟩ := A1.out
  clear HAl hab hsa na n1 HS0
  go_wp2_with fail
  refine (great_any _ l _ S1.out).mono ?_
  rintro e w2 ⟨rfl, n2⟩
  have A2 := Lib.hid (A1.out.on n2)
  have S2 := Lib.hid (S1.out.on n2)
  have d2 := Lib.hid (d1.trans (n2.mono d1.size))
  obtain ⟨b0, y0, y1, y2, y3⟩ := A2.out
  clear n2 d1 A1 S1
  cases hg : greatS l
  · have hok := okS_of hg hl
    by_cases hk : 300 < x2.size
    · have q1 : decide ((300 : Int) < (x2.size : Int)) = true := decide_eq_true (by omega)
      have q2 : (300 : Int) < (x2.size : Int) := by omega
      go_wp2_with fail
      go_ret
      exact ⟨rfl, d2.out⟩
    · have q1 : decide ((300 : Int) < (x2.size : Int)) = false := decide_eq_false (by omega)
      have q2 : ¬ (300 : Int) < (x2.size : Int) := by omega
      have HOK := Lib.hid hok
      have HX : Hid (okW ⟨x0, x1, x2, x3⟩) := ⟨h0, h1, h3, by show x2.size ≤ 1000; omega⟩
      have HK1 := fun W u (g : SRow W u l) => O.apply u l ⟨x0, x1, x2, x3⟩ W g HOK.out HX.out
      have HK2 := fun W u (g : SRow W u l) => refApplyS_any u l x0 x1 x2 x3 W g (by have := (greatS_not hg).1; omega) (fun e he => by have := ((greatS_not hg).2 e he).1; omega) (fun e he => (hl e he).2) h3
      have hlen := applyS_len l ⟨x0, x1, x2, x3⟩ 500 (fun e he => (HOK.out.2 e he).1)
      obtain ⟨R, hR⟩ : ∃ R, applyS l ⟨x0, x1, x2, x3⟩ = R := ⟨_, rfl⟩
      rw [hR] at HK1 HK2 hlen
      obtain ⟨R, C⟩ := R
      dsimp only at HK1 HK2 hlen
      unfold wriV at HK1
      have HK1 := Lib.hid HK1
      have HK2 := Lib.hid HK2
      have HLEN := Lib.hid hlen
      have hll := (greatS_not hg).1
      have HLV := Lib.hid ((greatS_not hg).2)
      clear hk hok hg hl hR hlen h0 h1 h3 HX
      go_wp2_with fail
      refine (refCopy_any _ l _ S2.out (by omega) (fun e he => by have := (HLV.out e he).1; omega)).mono ?_
      rintro e w3 ⟨⟨v3, rfl, r3⟩, n3⟩
      have A3 := Lib.hid (A2.out.on n3)
      have S3 := Lib.hid (S2.out.on n3)
      have R3 := Lib.hid r3
      have d3 := Lib.hid (d2.out.trans (n3.mono d2.out.size))
      obtain ⟨a3, c3, rfl, -, -⟩ := r3.at
      clear n3 r3 A2 S2 d2 b0 y0 y1 y2 y3
      have nb := aBelow w3 (.cells #[.slice a3 l.length c3] 24)
      obtain ⟨b0, y0, y1, y2, y3⟩ := A3.out.on nb
      go_wp2_with fail
      have nbz := nb.size
      refine (HK1.out _ _ (R3.out.on nb)).mono ?_
      rintro e w4 ⟨⟨v4, rfl, r4⟩, n4⟩
      have n4 := nb.trans (n4.mono nb.size)
      have X5 : w4.cell? ⟨w3.heap.size, 0, none⟩ = some (.slice a3 l.length c3) := by
        rename_i n4'
        exact keepC n4' (show (w3.alloc (.cells #[.slice a3 l.length c3] 24)).cell? ⟨w3.heap.size, 0, none⟩ = some (.slice a3 l.length c3) by simp) (by simp)
      have A4 := Lib.hid (A3.out.on n4)
      have S4 := Lib.hid (S3.out.on n4)
      have R3 := Lib.hid (R3.out.on n4)
      have R4 := Lib.hid r4
      have d4 := Lib.hid (d3.out.trans (n4.mono d3.out.size))
      obtain ⟨a4, c4, rfl, -, -⟩ := r4.at
      clear n4 nb nbz r4 A3 S3 d3 b0 y0 y1 y2 y3 HK1
      have nb := aBelow w4 (.cells #[.slice a4 R.length c4] 24)
      obtain ⟨b0, y0, y1, y2, y3⟩ := A4.out.on nb
      go_wp2_with fail
      refine (HK2.out _ _ (S4.out.on nb)).mono ?_
      rintro e w5 ⟨⟨v5, rfl, r5⟩, n5⟩
      have X6 : w5.cell? ⟨w4.heap.size, 0, none⟩ = some (.slice a4 R.length c4) := keepC n5 (show (w4.alloc (.cells #[.slice a4 R.length c4] 24)).cell? ⟨w4.heap.size, 0, none⟩ = some (.slice a4 R.length c4) by simp) (by simp)
      have n5 := nb.trans (n5.mono nb.size)
      have X5 := keepC n5 X5 (World.block_lt_of_cell? _ _ X5)
      have A5 := Lib.hid (A4.out.on n5)
      have S5 := Lib.hid (S4.out.on n5)
      have R3 := Lib.hid (R3.out.on n5)
      have R4 := Lib.hid (R4.out.on n5)
      have R5 := Lib.hid r5
      have d5 := Lib.hid (d4.out.trans (n5.mono d4.out.size))
      obtain ⟨a5, c5, rfl, -, -⟩ := r5.at
      clear n5 nb r5 A4 S4 d4 b0 y0 y1 y2 y3 HK2
      have nb := aBelow w5 (.cells #[.slice a5 R.length c5] 24)
      have X5 := keepC nb X5 (World.block_lt_of_cell? _ _ X5)
      have X6 := keepC nb X6 (World.block_lt_of_cell? _ _ X6)
      have X8 : (w5.alloc (.cells #[.slice a5 R.length c5] 24)).cell? ⟨w5.heap.size, 0, none⟩ = some (.slice a5 R.length c5) := by simp
      have X2 := (A5.out.on nb).1
      have S6 := Lib.hid (S5.out.on nb)
      have R3 := Lib.hid (R3.out.on nb)
      have R4 := Lib.hid (R4.out.on nb)
      have R5 := Lib.hid (R5.out.on nb)
      have d6 := Lib.hid (d5.out.trans (nb.mono d5.out.size))
      clear nb A5 S5 d5
      go_wp2_with fail
      generalize w5.alloc (.cells #[.slice a5 R.length c5] 24) = w6 at *
      obtain ⟨B1, HB1⟩ : ∃ B, Hid (sright l = B) := ⟨_, rfl⟩
      have K1 := Lib.hid (fun W (n : Below w6.heap.size w6 W) => refSameS_any _ _ R R W (R4.out.on n) (R5.out.on n) (by have := HLEN.out.1; omega) (fun e he => by have := HLEN.out.2 e he; omega))
      have K2 := Lib.hid (fun W (n : Below w6.heap.size w6 W) => refSameS_any _ _ l l W (R3.out.on n) (S6.out.on n) (by omega) (fun e he => by have := (HLV.out e he).1; omega))
      have K3 := Lib.hid (fun W (n : Below w6.heap.size w6 W) => O.right _ l W (S6.out.on n) HOK.out)
      have K4 := Lib.hid (fun W (n : Below w6.heap.size w6 W) => refRightS_any _ l W (S6.out.on n) (by omega) (fun e he => by have := (HLV.out e he).1; omega))
      rw [(sameS_true R R).2 rfl] at K1
      rw [(sameS_true l l).2 rfl] at K2
      rw [HB1.out] at K3 K4
      have q3 : (C == C) = true := by simp
      have q4 : (B1 == B1) = true := by simp
      have HZ6 := Lib.hid d6.out.size
      generalize w4.heap.size = b6 at *
      generalize w5.heap.size = b8 at *
      generalize w3.heap.size = b5 at *
      have hS0 : Hid (B4 b6 b8 b5 w.heap.size (.slice a4 R.length c4) (.slice a5 R.length c5) (.slice a3 l.length c3) (.slice a l.length c) w6 w6.drew) := ⟨X6, X8, X5, X2, (Below.refl _ _).drew⟩
      have hS := hS0.out
      unfold B4 at hS
      clear X5 X6 X8 X2 HB1 S6 R3 R4 R5 hS0
      go_region_held3 (fun w' => w'.cell? ⟨b6, 0, none⟩ = some (.slice a4 R.length c4) ∧ w'.cell? ⟨b8, 0, none⟩ = some (.slice a5 R.length c5) ∧ w'.cell? ⟨b5, 0, none⟩ = some (.slice a3 l.length c3) ∧ w'.cell? ⟨w.heap.size, 0, none⟩ = some (.slice a l.length c) ∧ Below w6.heap.size w6 w') (first | exact hS | assumption) (first
        | (go_at_call_of 13 (Value.agg #[Value.slice a4 R.length c4]); refine (K1.out _ hS.2.2.2.2).mono ?_; rintro e wp ⟨rfl, nwp⟩; have hswp := B4.on (b1 := b6) (b2 := b8) (b3 := b5) (b4 := w.heap.size) (v1 := .slice a4 R.length c4) (v2 := .slice a5 R.length c5) (v3 := .slice a3 l.length c3) (v4 := .slice a l.length c) (w := w6) hS nwp; unfold B4 at hswp; clear nwp)
        | (go_at_call 13; refine (K2.out _ hswp.2.2.2.2).mono ?_; rintro e wq ⟨rfl, nwq⟩; have hswq := B4.on (b1 := b6) (b2 := b8) (b3 := b5) (b4 := w.heap.size) (v1 := .slice a4 R.length c4) (v2 := .slice a5 R.length c5) (v3 := .slice a3 l.length c3) (v4 := .slice a l.length c) (w := w6) hswp nwq; unfold B4 at hswq; clear nwq)
        | (go_at_call 14; first | (refine (K3.out _ hswr.2.2.2.2).mono ?_; rintro e wt ⟨rfl, nwt⟩; have hswt := B4.on (b1 := b6) (b2 := b8) (b3 := b5) (b4 := w.heap.size) (v1 := .slice a4 R.length c4) (v2 := .slice a5 R.length c5) (v3 := .slice a3 l.length c3) (v4 := .slice a l.length c) (w := w6) hswr nwt; unfold B4 at hswt; clear nwt) | (refine (K3.out _ hswq.2.2.2.2).mono ?_; rintro e wr ⟨rfl, nwr⟩; have hswr := B4.on (b1 := b6) (b2 := b8) (b3 := b5) (b4 := w.heap.size) (v1 := .slice a4 R.length c4) (v2 := .slice a5 R.length c5) (v3 := .slice a3 l.length c3) (v4 := .slice a l.length c) (w := w6) hswq nwr; unfold B4 at hswr; clear nwr))
        | (go_at_call 15; first | (refine (K4.out _ hswr.2.2.2.2).mono ?_; rintro e wt ⟨rfl, nwt⟩; have hswt := B4.on (b1 := b6) (b2 := b8) (b3 := b5) (b4 := w.heap.size) (v1 := .slice a4 R.length c4) (v2 := .slice a5 R.length c5) (v3 := .slice a3 l.length c3) (v4 := .slice a l.length c) (w := w6) hswr nwt; unfold B4 at hswt; clear nwt) | (refine (K4.out _ hswq.2.2.2.2).mono ?_; rintro e wr ⟨rfl, nwr⟩; have hswr := B4.on (b1 := b6) (b2 := b8) (b3 := b5) (b4 := w.heap.size) (v1 := .slice a4 R.length c4) (v2 := .slice a5 R.length c5) (v3 := .slice a3 l.length c3) (v4 := .slice a l.length c) (w := w6) hswq nwr; unfold B4 at hswr; clear nwr))
        | fail)
      all_goals (have dF := Lib.hid (d6.out.trans (hswt.2.2.2.2.mono HZ6.out)))
      all_goals (clear hS hswp hswq hswr hswt)
      all_goals (go_wp2_with fail)
      all_goals (go_ret)
      all_goals (exact ⟨rfl, dF.out⟩)
  · go_wp2_with fail
    go_ret
    exact ⟨rfl, d2.out⟩
end Go.Proofs.Ythiofbohllmfbaa.Sh
