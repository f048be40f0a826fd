/- The law ShardPrunes: a walk. -/
import Derived.Test.YthiofbohllmfbaaSL2
namespace Go.Proofs.Ythiofbohllmfbaa.Sh
open Go Go.RowKit Go.Sort Go.Lib Cl Ce Ch

theorem drops_new (w : World) (f : Int) : DRow (w.alloc (.cells #[.int .i64 1, .int .i64 f, .int .i64 2, .int .i64 5] 39)) (.slice (some ⟨w.heap.size, 0, none⟩) 2 2) [⟨1, f⟩, ⟨2, 5⟩] := by
  refine ⟨_, 2, rfl, Nat.le_refl _, fun _ => ⟨w.heap.size, 0, rfl, by simp, lies_of_flat drpC_len (fun j u hu => ?_)⟩⟩
  rw [Nat.zero_add, cell_of_row _ w.heap.size j #[.int .i64 1, .int .i64 f, .int .i64 2, .int .i64 5] 39 (0, 0) (heap_alloc_new _ _)]
  simpa [flatG, drpC] using hu
theorem pruneS_vs {l : List Ent} {n : Nat} (h : ∀ e ∈ l, e.vs.length ≤ n) (f : Int) (ds : List Drp) : ∀ e ∈ pruneS l f ds, e.vs.length ≤ n := by
  intro e he
  unfold pruneS at he
  obtain ⟨e', he', rfl⟩ := List.mem_map.1 he
  have h1 := h e' (List.mem_filter.1 he').1
  have h2 := prune_len e'.vs f
  show (prune e'.vs f).length ≤ n
  omega

set_option maxRecDepth 100000 in
set_option maxHeartbeats 8000000 in
theorem prunes_walk (O : Own11) (v u : Value) (l m : List Ent) (f : Int) (w : World) (h : SRow w v l) (hm : SRow w u m) (hl : ∀ e ∈ l, ok64 e.win ∧ ∀ y ∈ e.vs, okV y) (hml : ∀ e ∈ m, ok64 e.win ∧ ∀ y ∈ e.vs, okV y) :
    Calls Try.prog 5 #[.agg #[v], .agg #[u], .int .i64 f] w fun e w' => e = .returned (.bool true) ∧ Below w.heap.size w w' := by
  have HAl := Lib.hid (fun W => alive_any O W)
  have HS0 := Lib.hid h
  have HT0 := Lib.hid hm
  obtain ⟨a, c, rfl, hc, -⟩ := h.at
  obtain ⟨ab, cb, rfl, hcb, -⟩ := hm.at
  have na := aBelow2 w (.cells #[.slice a l.length c] 24) (.cells #[.slice ab m.length cb] 24)
  have hsa := HS0.out.on na
  have hta := HT0.out.on na
  have X2 : ((w.alloc (.cells #[.slice a l.length c] 24)).alloc (.cells #[.slice ab m.length cb] 24)).cell? ⟨w.heap.size, 0, none⟩ = some (.slice a l.length c) := cell_kept (by simp) _
  have X3 : ((w.alloc (.cells #[.slice a l.length c] 24)).alloc (.cells #[.slice ab m.length cb] 24)).cell? ⟨w.heap.size + 1, 0, none⟩ = some (.slice ab m.length cb) := by simp
  clear h hm hc hcb HS0 HT0
  go_enter Try.func5, Try.ntmps5
  go_wp2_with fail
  generalize (w.alloc (.cells #[.slice a l.length c] 24)).alloc (.cells #[.slice ab m.length cb] 24) = wa at *
  refine (HAl.out _).mono ?_
  rintro e w1 ⟨rfl, n1⟩
  have X2 := keepC n1 X2 (World.block_lt_of_cell? _ _ X2)
  have X3 := keepC n1 X3 (World.block_lt_of_cell? _ _ X3)
  have S1 := Lib.hid (hsa.on n1)
  have T1 := Lib.hid (hta.on n1)
  have d1 := na.trans (n1.mono na.size)
  clear HAl hsa hta na n1
  go_wp2_with fail
  refine (great_any _ l _ S1.out).mono ?_
  rintro e w2 ⟨rfl, n2⟩
  have X2 := keepC n2 X2 (World.block_lt_of_cell? _ _ X2)
  have X3 := keepC n2 X3 (World.block_lt_of_cell? _ _ X3)
  have S2 := Lib.hid (S1.out.on n2)
  have T2 := Lib.hid (T1.out.on n2)
  have d2 := Lib.hid (d1.trans (n2.mono d1.size))
  clear n2 d1 S1 T1
  cases hg : greatS l
  · go_wp2_with fail
    refine (great_any _ m _ T2.out).mono ?_
    rintro e w2b ⟨rfl, n2⟩
    have X2 := keepC n2 X2 (World.block_lt_of_cell? _ _ X2)
    have X3 := keepC n2 X3 (World.block_lt_of_cell? _ _ X3)
    have S2 := Lib.hid (S2.out.on n2)
    have T2 := Lib.hid (T2.out.on n2)
    have d2 := Lib.hid (d2.out.trans (n2.mono d2.out.size))
    clear n2
    cases hgm : greatS m
    · have HOK := Lib.hid (okS_of hg hl)
      have HOM := Lib.hid (okS_of hgm hml)
      have hll := (greatS_not hg).1
      have HLV := Lib.hid ((greatS_not hg).2)
      obtain ⟨PS, HPS⟩ : ∃ PS, Hid (pruneS l f [⟨1, f⟩, ⟨2, 5⟩] = PS) := ⟨_, rfl⟩
      have hpl : PS.length ≤ 100 := by rw [← HPS.out]; exact Nat.le_trans (pruneS_len _ _ _) hll
      have HPV : Hid (∀ e ∈ PS, e.vs.length ≤ 100) := by rw [← HPS.out]; exact pruneS_vs (fun e he => (HLV.out e he).1) _ _
      clear hg hgm hl hml
      have nd := aBelow w2b (.cells #[.int .i64 1, .int .i64 f, .int .i64 2, .int .i64 5] 39)
      have DR := Lib.hid (drops_new w2b f)
      have X2 := keepC nd X2 (World.block_lt_of_cell? _ _ X2)
      have X3 := keepC nd X3 (World.block_lt_of_cell? _ _ X3)
      have S2 := Lib.hid (S2.out.on nd)
      have T2 := Lib.hid (T2.out.on nd)
      have d2 := Lib.hid (d2.out.trans (nd.mono d2.out.size))
      clear nd
      go_wp2_with fail
      generalize w2b.alloc (.cells #[.int .i64 1, .int .i64 f, .int .i64 2, .int .i64 5] 39) = w2c at *
      refine (refCopy_any _ l _ S2.out (by omega) (fun e he => by have := (HLV.out e he).1; omega)).mono ?_
      rintro e w3 ⟨⟨v3, rfl, r3⟩, n3⟩
      have X2 := keepC n3 X2 (World.block_lt_of_cell? _ _ X2)
      have X3 := keepC n3 X3 (World.block_lt_of_cell? _ _ X3)
      have S3 := Lib.hid (S2.out.on n3)
      have T3 := Lib.hid (T2.out.on n3)
      have DR := Lib.hid (DR.out.on n3)
      have d3 := Lib.hid (d2.out.trans (n3.mono d2.out.size))
      have R3 := Lib.hid r3
      obtain ⟨a3, c3, rfl, -, -⟩ := r3.at
      clear n3 r3 S2 T2 d2
      have nb := aBelow w3 (.cells #[.slice a3 l.length c3] 24)
      have X8 : (w3.alloc (.cells #[.slice a3 l.length c3] 24)).cell? ⟨w3.heap.size, 0, none⟩ = some (.slice a3 l.length c3) := by simp
      have X2 := keepC nb X2 (World.block_lt_of_cell? _ _ X2)
      have X3 := keepC nb X3 (World.block_lt_of_cell? _ _ X3)
      have S4 := Lib.hid (S3.out.on nb)
      have T4 := Lib.hid (T3.out.on nb)
      have R4 := Lib.hid (R3.out.on nb)
      have DR := Lib.hid (DR.out.on nb)
      have d4 := Lib.hid (d3.out.trans (nb.mono d3.out.size))
      clear nb S3 T3 R3 d3
      go_wp2_with fail
      generalize w3.alloc (.cells #[.slice a3 l.length c3] 24) = w4 at *
      generalize w3.heap.size = b8 at *
      generalize w2b.heap.size = bd at *
      obtain ⟨B, HB⟩ : ∃ B, Hid (sameS l m = B) := ⟨_, rfl⟩
      have K1 := fun W (n : Below w4.heap.size w4 W) => O.prune _ _ l f [⟨1, f⟩, ⟨2, 5⟩] W (R4.out.on n) (DR.out.on n) HOK.out (show 2 ≤ 1000 by decide)
      have K2 := fun W (n : Below w4.heap.size w4 W) => refPruneS_any _ _ l f [⟨1, f⟩, ⟨2, 5⟩] W (S4.out.on n) (DR.out.on n) (by omega) (show 2 ≤ 1000000 by decide) (fun e he => by have := (HLV.out e he).1; omega)
      have K3 := Lib.hid (fun W u1 u2 (g1 : SRow W u1 PS) (g2 : SRow W u2 PS) => refSameS_any u1 u2 PS PS W g1 g2 (by omega) (fun e he => by have := HPV.out e he; omega))
      have K4 := Lib.hid (fun W (n : Below w4.heap.size w4 W) => refSameS_any _ _ l l W (R4.out.on n) (S4.out.on n) (by omega) (fun e he => by have := (HLV.out e he).1; omega))
      have K5 := Lib.hid (fun W (n : Below w4.heap.size w4 W) => O.same _ _ l m W (S4.out.on n) (T4.out.on n) HOK.out HOM.out)
      have K6 := Lib.hid (fun W (n : Below w4.heap.size w4 W) => refSameS_any _ _ l m W (S4.out.on n) (T4.out.on n) (by omega) (fun e he => by have := (HLV.out e he).1; omega))
      rw [HPS.out] at K1 K2
      rw [(sameS_true PS PS).2 rfl] at K3
      rw [(sameS_true l l).2 rfl] at K4
      rw [HB.out] at K5 K6
      have K1 := Lib.hid K1
      have K2 := Lib.hid K2
      have q4 : (B == B) = true := by simp
      have HZ := Lib.hid d4.out.size
      have hS0 : Hid (B4 b8 w.heap.size (w.heap.size + 1) (w.heap.size + 1) (.slice a3 l.length c3) (.slice a l.length c) (.slice ab m.length cb) (.slice ab m.length cb) w4 w4.drew) := ⟨X8, X2, X3, X3, (Below.refl _ _).drew⟩
      have hS := hS0.out
      unfold B4 at hS
      clear X8 X2 X3 HB S4 T4 R4 hS0 DR HPS
      go_region_held3 (fun w' => w'.cell? ⟨b8, 0, none⟩ = some (.slice a3 l.length c3) ∧ w'.cell? ⟨w.heap.size, 0, none⟩ = some (.slice a l.length c) ∧ w'.cell? ⟨w.heap.size + 1, 0, none⟩ = some (.slice ab m.length cb) ∧ w'.cell? ⟨w.heap.size + 1, 0, none⟩ = some (.slice ab m.length cb) ∧ Below w4.heap.size w4 w') (first | exact hS | assumption) (first
        | (go_at_call 21; first | (refine (K1.out _ hs1.2.2.2.2).mono ?_; rintro e wp ⟨⟨vp, rfl, rp⟩, np⟩; have hs2 := B4.on (b1 := b8) (b2 := w.heap.size) (b3 := w.heap.size + 1) (b4 := w.heap.size + 1) (v1 := .slice a3 l.length c3) (v2 := .slice a l.length c) (v3 := .slice ab m.length cb) (v4 := .slice ab m.length cb) (w := w4) hs1 np; unfold B4 at hs2; have RA := Lib.hid rp; have RB := Lib.hid (RB.out.on np); obtain ⟨ap, cp, rfl, -, -⟩ := rp.at; clear np rp) | (refine (K1.out _ hS.2.2.2.2).mono ?_; rintro e wp ⟨⟨vp, rfl, rp⟩, np⟩; have hs1 := B4.on (b1 := b8) (b2 := w.heap.size) (b3 := w.heap.size + 1) (b4 := w.heap.size + 1) (v1 := .slice a3 l.length c3) (v2 := .slice a l.length c) (v3 := .slice ab m.length cb) (v4 := .slice ab m.length cb) (w := w4) hS np; unfold B4 at hs1; have RA := Lib.hid rp; obtain ⟨ap, cp, rfl, -, -⟩ := rp.at; clear np rp))
        | (go_at_call 22; first | (refine (K2.out _ hs1.2.2.2.2).mono ?_; rintro e wp ⟨⟨vp, rfl, rp⟩, np⟩; have hs2 := B4.on (b1 := b8) (b2 := w.heap.size) (b3 := w.heap.size + 1) (b4 := w.heap.size + 1) (v1 := .slice a3 l.length c3) (v2 := .slice a l.length c) (v3 := .slice ab m.length cb) (v4 := .slice ab m.length cb) (w := w4) hs1 np; unfold B4 at hs2; have RB := Lib.hid rp; have RA := Lib.hid (RA.out.on np); obtain ⟨aq, cq, rfl, -, -⟩ := rp.at; clear np rp) | (refine (K2.out _ hS.2.2.2.2).mono ?_; rintro e wp ⟨⟨vp, rfl, rp⟩, np⟩; have hs1 := B4.on (b1 := b8) (b2 := w.heap.size) (b3 := w.heap.size + 1) (b4 := w.heap.size + 1) (v1 := .slice a3 l.length c3) (v2 := .slice a l.length c) (v3 := .slice ab m.length cb) (v4 := .slice ab m.length cb) (w := w4) hS np; unfold B4 at hs1; have RB := Lib.hid rp; obtain ⟨aq, cq, rfl, -, -⟩ := rp.at; clear np rp))
        | (go_at_call_of 13 (Value.agg #[Value.slice ap PS.length cp]); refine (K3.out _ _ _ RA.out RB.out).mono ?_; rintro e wq ⟨rfl, np⟩; have hs3 := B4.on (b1 := b8) (b2 := w.heap.size) (b3 := w.heap.size + 1) (b4 := w.heap.size + 1) (v1 := .slice a3 l.length c3) (v2 := .slice a l.length c) (v3 := .slice ab m.length cb) (v4 := .slice ab m.length cb) (w := w4) hs2 np; unfold B4 at hs3; clear np)
        | (go_at_call_of 13 (Value.agg #[Value.slice a3 l.length c3]); refine (K4.out _ hs3.2.2.2.2).mono ?_; rintro e wq ⟨rfl, np⟩; have hs4 := B4.on (b1 := b8) (b2 := w.heap.size) (b3 := w.heap.size + 1) (b4 := w.heap.size + 1) (v1 := .slice a3 l.length c3) (v2 := .slice a l.length c) (v3 := .slice ab m.length cb) (v4 := .slice ab m.length cb) (w := w4) hs3 np; unfold B4 at hs4; clear np)
        | (go_at_call 23; first | (refine (K5.out _ hs5.2.2.2.2).mono ?_; rintro e wr ⟨rfl, np⟩; have hs6 := B4.on (b1 := b8) (b2 := w.heap.size) (b3 := w.heap.size + 1) (b4 := w.heap.size + 1) (v1 := .slice a3 l.length c3) (v2 := .slice a l.length c) (v3 := .slice ab m.length cb) (v4 := .slice ab m.length cb) (w := w4) hs5 np; unfold B4 at hs6; clear np) | (refine (K5.out _ hs4.2.2.2.2).mono ?_; rintro e wr ⟨rfl, np⟩; have hs5 := B4.on (b1 := b8) (b2 := w.heap.size) (b3 := w.heap.size + 1) (b4 := w.heap.size + 1) (v1 := .slice a3 l.length c3) (v2 := .slice a l.length c) (v3 := .slice ab m.length cb) (v4 := .slice ab m.length cb) (w := w4) hs4 np; unfold B4 at hs5; clear np))
        | (go_at_call 13; first | (refine (K6.out _ hs5.2.2.2.2).mono ?_; rintro e wr ⟨rfl, np⟩; have hs6 := B4.on (b1 := b8) (b2 := w.heap.size) (b3 := w.heap.size + 1) (b4 := w.heap.size + 1) (v1 := .slice a3 l.length c3) (v2 := .slice a l.length c) (v3 := .slice ab m.length cb) (v4 := .slice ab m.length cb) (w := w4) hs5 np; unfold B4 at hs6; clear np) | (refine (K6.out _ hs4.2.2.2.2).mono ?_; rintro e wr ⟨rfl, np⟩; have hs5 := B4.on (b1 := b8) (b2 := w.heap.size) (b3 := w.heap.size + 1) (b4 := w.heap.size + 1) (v1 := .slice a3 l.length c3) (v2 := .slice a l.length c) (v3 := .slice ab m.length cb) (v4 := .slice ab m.length cb) (w := w4) hs4 np; unfold B4 at hs5; clear np))
        | fail)
      all_goals (have dF := Lib.hid (d4.out.trans (hs6.2.2.2.2.mono HZ.out)))
      all_goals (clear hS hs1 hs2 hs3 hs4 hs5 hs6)
      all_goals (go_wp2_with fail)
      all_goals (go_ret)
      all_goals (exact ⟨rfl, dF.out⟩)
    · go_wp2_with fail
      go_ret
      exact ⟨rfl, d2.out⟩
  · go_wp2_with fail
    go_ret
    exact ⟨rfl, d2.out⟩
end Go.Proofs.Ythiofbohllmfbaa.Sh
