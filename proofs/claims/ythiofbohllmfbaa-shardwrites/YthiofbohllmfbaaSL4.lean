/- The law ShardStays: a walk. -/
import Derived.Test.YthiofbohllmfbaaSL3
import Derived.Lib.MinMax
namespace Go.Proofs.Ythiofbohllmfbaa.Sh
open Go Go.RowKit Go.Sort Go.Lib Cl Ce Ch

theorem okS_pruned {l : List Ent} (h : okS l) (f : Int) (ds : List Drp) : okS (pruneS l f ds) := by
  refine ⟨Nat.le_trans (pruneS_len l f ds) h.1, fun e he => ?_⟩
  unfold pruneS at he
  obtain ⟨e', he', rfl⟩ := List.mem_map.1 he
  obtain ⟨h1, h2, h3, h4⟩ := h.2 e' (List.mem_filter.1 he').1
  have h5 := prune_len e'.vs f
  exact ⟨by show (prune e'.vs f).length ≤ 500; omega, h2, h3, fun y hy => h4 y ((prune_sub e'.vs f).subset hy)⟩

set_option maxRecDepth 100000 in
set_option maxHeartbeats 8000000 in
theorem stays_walk (O : Own11) (v vd : Value) (l : List Ent) (f0 f1 : Int) (ds : List Drp) (w : World) (h : SRow w v l) (hd : DRow w vd ds) (hl : ∀ e ∈ l, ok64 e.win ∧ ∀ y ∈ e.vs, okV y) :
    Calls Try.prog 6 #[.agg #[v], .agg #[.int .i64 f0, .int .i64 f1], vd] w fun e w' => e = .returned (.bool true) ∧ Below w.heap.size w w' := by
  have HAl := Lib.hid (fun W => alive_any O W)
  have HS0 := Lib.hid h
  have HD0 := Lib.hid hd
  obtain ⟨a, c, rfl, hc, -⟩ := h.at
  obtain ⟨ad, cd, rfl, -, -⟩ := hd
  have na := aBelow2 w (.cells #[.slice a l.length c] 24) (.cells #[.int .i64 f0, .int .i64 f1] 47)
  have hsa := HS0.out.on na
  have hda := HD0.out.on na
  have X2 : ((w.alloc (.cells #[.slice a l.length c] 24)).alloc (.cells #[.int .i64 f0, .int .i64 f1] 47)).cell? ⟨w.heap.size, 0, none⟩ = some (.slice a l.length c) := cell_kept (by simp) _
  have Y0 : ((w.alloc (.cells #[.slice a l.length c] 24)).alloc (.cells #[.int .i64 f0, .int .i64 f1] 47)).cell? ⟨w.heap.size + 1, 0, none⟩ = some (.int .i64 f0) := by simp
  have Y1 : ((w.alloc (.cells #[.slice a l.length c] 24)).alloc (.cells #[.int .i64 f0, .int .i64 f1] 47)).cell? ⟨w.heap.size + 1, 1, none⟩ = some (.int .i64 f1) := by simp
  clear h hc HS0 HD0
  go_enter Try.func6, Try.ntmps6
  go_wp2_with fail
  generalize (w.alloc (.cells #[.slice a l.length c] 24)).alloc (.cells #[.int .i64 f0, .int .i64 f1] 47) = wa at *
  refine (HAl.out _).mono ?_
  rintro e w1 ⟨rfl, n1⟩
  have X2 := keepC n1 X2 (World.block_lt_of_cell? _ _ X2)
  have Y0 := keepC n1 Y0 (World.block_lt_of_cell? _ _ Y0)
  have Y1 := keepC n1 Y1 (World.block_lt_of_cell? _ _ Y1)
  have S1 := Lib.hid (hsa.on n1)
  have D1 := Lib.hid (hda.on n1)
  have d1 := na.trans (n1.mono na.size)
  clear HAl hsa hda na n1
  go_wp2_with fail
  refine (great_any _ l _ S1.out).mono ?_
  rintro e w2 ⟨rfl, n2⟩
  have X2 := keepC n2 X2 (World.block_lt_of_cell? _ _ X2)
  have Y0 := keepC n2 Y0 (World.block_lt_of_cell? _ _ Y0)
  have Y1 := keepC n2 Y1 (World.block_lt_of_cell? _ _ Y1)
  have S2 := Lib.hid (S1.out.on n2)
  have D2 := Lib.hid (D1.out.on n2)
  have d2 := Lib.hid (d1.trans (n2.mono d1.size))
  clear n2 d1 S1 D1
  cases hg : greatS l
  · have hok := okS_of hg hl
    by_cases hk : 50 < ds.length
    · have q1 : decide ((50 : Int) < (ds.length : Int)) = true := decide_eq_true (by omega)
      have q2 : (50 : Int) < (ds.length : Int) := by omega
      go_wp2_with fail
      go_ret
      exact ⟨rfl, d2.out⟩
    · have q1 : decide ((50 : Int) < (ds.length : Int)) = false := decide_eq_false (by omega)
      have q2 : ¬ (50 : Int) < (ds.length : Int) := by omega
      have HOK := Lib.hid hok
      have hll := (greatS_not hg).1
      have HLV := Lib.hid ((greatS_not hg).2)
      have hdl : ds.length ≤ 50 := by omega
      clear hok hg hl hk
      go_wp2_with fail
      refine (refRightS_any _ l _ S2.out (by omega) (fun e he => by have := (HLV.out e he).1; omega)).mono ?_
      rintro e w3 ⟨rfl, n3⟩
      have X2 := keepC n3 X2 (World.block_lt_of_cell? _ _ X2)
      have Y0 := keepC n3 Y0 (World.block_lt_of_cell? _ _ Y0)
      have Y1 := keepC n3 Y1 (World.block_lt_of_cell? _ _ Y1)
      have S3 := Lib.hid (S2.out.on n3)
      have D3 := Lib.hid (D2.out.on n3)
      have d3 := Lib.hid (d2.out.trans (n3.mono d2.out.size))
      clear n3 S2 D2 d2
      cases hsr : sright l
      · go_wp2_with fail
        go_ret
        exact ⟨rfl, d3.out⟩
      · obtain ⟨lo, hlo⟩ : ∃ lo, min f0 f1 = lo := ⟨_, rfl⟩
        obtain ⟨hi, hhi⟩ : ∃ hi, max f0 f1 = hi := ⟨_, rfl⟩
        have hlh : lo ≤ hi := by omega
        obtain ⟨PL, HPL⟩ : ∃ PL, Hid (pruneS l lo ds = PL) := ⟨_, rfl⟩
        obtain ⟨PH, HPH⟩ : ∃ PH, Hid (pruneS l hi ds = PH) := ⟨_, rfl⟩
        obtain ⟨IH, HIH⟩ : ∃ IH, Hid (readS l hi ds = IH) := ⟨_, rfl⟩
        obtain ⟨IL, HIL⟩ : ∃ IL, Hid (readS l lo ds = IL) := ⟨_, rfl⟩
        have HOP : Hid (okS PL) := by rw [← HPL.out]; exact okS_pruned HOK.out lo ds
        have e1 : pruneS PL hi ds = PH := by rw [← HPL.out, ← HPH.out]; exact pruneS_two hsr hlh ds
        have e2 : readS PL hi ds = IH := by rw [← HPL.out, ← HIH.out]; exact readS_pruned hsr hlh ds
        have e3 : readS PL lo ds = IL := by rw [← HPL.out, ← HIL.out]; exact readS_pruned hsr (Int.le_refl lo) ds
        have e4 : sright PL = true := by rw [← HPL.out]; exact pruneS_right hsr lo ds
        have hli : IH.length ≤ 100 := by rw [← HIH.out]; exact Nat.le_trans (readS_len _ _ _) hll
        have hll2 : IL.length ≤ 100 := by rw [← HIL.out]; exact Nat.le_trans (readS_len _ _ _) hll
        have hlp : PH.length ≤ 100 := by rw [← HPH.out]; exact Nat.le_trans (pruneS_len _ _ _) hll
        have HPV : Hid (∀ e ∈ PH, e.vs.length ≤ 100) := by rw [← HPH.out]; exact pruneS_vs (fun e he => (HLV.out e he).1) _ _
        have HE := Lib.hid (And.intro e1 (And.intro e2 (And.intro e3 e4)))
        have HM := Lib.hid (And.intro hlo hhi)
        clear e1 e2 e3 e4 hsr hlh hlo hhi
        go_wp2_with fail
        go_quiet (fail)
        have nQ := below_drewN (Below.refl w3.heap.size w3) nq
        have S4 := Lib.hid (S3.out.on nQ)
        have D4 := Lib.hid (D3.out.on nQ)
        have d4 := Lib.hid (d3.out.trans (nQ.mono d3.out.size))
        have X3 := keepC nQ X2 (World.block_lt_of_cell? _ _ X2)
        go_wp2_with fail
        rw [HM.out.1, HM.out.2]
        clear nQ X2 Y0 Y1 S3 D3 d3 HM
        generalize w3.drewN nq = w4 at *
        have K0 := O.prune _ _ l lo ds w4 S4.out D4.out HOK.out (by omega)
        rw [HPL.out] at K0
        refine K0.mono ?_
        rintro e w5 ⟨⟨v5, rfl, r5⟩, n5⟩
        have X3 := keepC n5 X3 (World.block_lt_of_cell? _ _ X3)
        have S5 := Lib.hid (S4.out.on n5)
        have D5 := Lib.hid (D4.out.on n5)
        have d5 := Lib.hid (d4.out.trans (n5.mono d4.out.size))
        have R5 := Lib.hid r5
        obtain ⟨ap, cp, rfl, -, -⟩ := r5.at
        clear n5 r5 S4 D4 d4 K0
        have nb := aBelow w5 (.cells #[.slice ap PL.length cp] 24)
        have X9 : (w5.alloc (.cells #[.slice ap PL.length cp] 24)).cell? ⟨w5.heap.size, 0, none⟩ = some (.slice ap PL.length cp) := by simp
        have X3 := keepC nb X3 (World.block_lt_of_cell? _ _ X3)
        have S5 := Lib.hid (S5.out.on nb)
        have D5 := Lib.hid (D5.out.on nb)
        have R5 := Lib.hid (R5.out.on nb)
        have d5 := Lib.hid (d5.out.trans (nb.mono d5.out.size))
        clear nb
        go_wp2_with fail
        generalize w5.alloc (.cells #[.slice ap PL.length cp] 24) = w5b at *
        generalize w5.heap.size = b9 at *
        have K0 := O.prune _ _ PL hi ds w5b R5.out D5.out HOP.out (by omega)
        rw [HE.out.1] at K0
        refine K0.mono ?_
        rintro e w6 ⟨⟨v6, rfl, r6⟩, n6⟩
        have X3 := keepC n6 X3 (World.block_lt_of_cell? _ _ X3)
        have X9 := keepC n6 X9 (World.block_lt_of_cell? _ _ X9)
        have S6 := Lib.hid (S5.out.on n6)
        have D6 := Lib.hid (D5.out.on n6)
        have R6 := Lib.hid (R5.out.on n6)
        have d6 := Lib.hid (d5.out.trans (n6.mono d5.out.size))
        have Q6 := Lib.hid r6
        obtain ⟨aq, cq, rfl, -, -⟩ := r6.at
        clear n6 r6 S5 D5 R5 d5 K0
        have nb := aBelow w6 (.cells #[.slice aq PH.length cq] 24)
        have Xq : (w6.alloc (.cells #[.slice aq PH.length cq] 24)).cell? ⟨w6.heap.size, 0, none⟩ = some (.slice aq PH.length cq) := by simp
        have X3 := keepC nb X3 (World.block_lt_of_cell? _ _ X3)
        have X9 := keepC nb X9 (World.block_lt_of_cell? _ _ X9)
        have S7 := Lib.hid (S6.out.on nb)
        have D7 := Lib.hid (D6.out.on nb)
        have R7 := Lib.hid (R6.out.on nb)
        have Q7 := Lib.hid (Q6.out.on nb)
        have d7 := Lib.hid (d6.out.trans (nb.mono d6.out.size))
        clear nb S6 D6 R6 Q6 d6
        go_wp2_with fail
        generalize w6.alloc (.cells #[.slice aq PH.length cq] 24) = w7 at *
        generalize w6.heap.size = bq at *
        have K1 := fun W (n : Below w7.heap.size w7 W) => refRightS_any _ PL W (R7.out.on n) (by have := HOP.out.1; omega) (fun e he => by have := (HOP.out.2 e he).1; omega)
        have K2 := fun W (n : Below w7.heap.size w7 W) => O.read _ _ PL hi ds W (R7.out.on n) (D7.out.on n) HOP.out (by omega)
        have K3 := fun W (n : Below w7.heap.size w7 W) => O.read _ _ l hi ds W (S7.out.on n) (D7.out.on n) HOK.out (by omega)
        have K4 := fun W u1 u2 (g1 : IRow W u1 IH) (g2 : IRow W u2 IH) => refItems_any u1 u2 IH IH W g1 g2 (by omega)
        have K5 := fun W (n : Below w7.heap.size w7 W) => O.read _ _ PL lo ds W (R7.out.on n) (D7.out.on n) HOP.out (by omega)
        have K6 := fun W (n : Below w7.heap.size w7 W) => O.read _ _ l lo ds W (S7.out.on n) (D7.out.on n) HOK.out (by omega)
        have K7 := fun W u1 u2 (g1 : IRow W u1 IL) (g2 : IRow W u2 IL) => refItems_any u1 u2 IL IL W g1 g2 (by omega)
        have K8 := fun W (n : Below w7.heap.size w7 W) => O.prune _ _ l hi ds W (S7.out.on n) (D7.out.on n) HOK.out (by omega)
        have K9 := fun W u1 u2 (g1 : SRow W u1 PH) (g2 : SRow W u2 PH) => refSameS_any u1 u2 PH PH W g1 g2 (by omega) (fun e he => by have := HPV.out e he; omega)
        rw [HE.out.2.2.2] at K1
        rw [HE.out.2.1] at K2
        rw [HIH.out] at K3
        rw [(sameI_true IH IH).2 rfl] at K4
        rw [HE.out.2.2.1] at K5
        rw [HIL.out] at K6
        rw [(sameI_true IL IL).2 rfl] at K7
        rw [HPH.out] at K8
        rw [(sameS_true PH PH).2 rfl] at K9
        have K1 := Lib.hid K1
        have K2 := Lib.hid K2
        have K3 := Lib.hid K3
        have K4 := Lib.hid K4
        have K5 := Lib.hid K5
        have K6 := Lib.hid K6
        have K7 := Lib.hid K7
        have K8 := Lib.hid K8
        have K9 := Lib.hid K9
        have HZ := Lib.hid d7.out.size
        have HQ := Lib.hid (fun W (n : Below w7.heap.size w7 W) => Q7.out.on n)
        have hS0 : Hid (B4 b9 bq w.heap.size w.heap.size (.slice ap PL.length cp) (.slice aq PH.length cq) (.slice a l.length c) (.slice a l.length c) w7 w7.drew) := ⟨X9, Xq, X3, X3, (Below.refl _ _).drew⟩
        have hS := hS0.out
        unfold B4 at hS
        clear X9 Xq X3 S7 D7 R7 Q7 hS0 HPL HPH HIH HIL HE
        go_region_held3 (fun w' => w'.cell? ⟨b9, 0, none⟩ = some (.slice ap PL.length cp) ∧ w'.cell? ⟨bq, 0, none⟩ = some (.slice aq PH.length cq) ∧ w'.cell? ⟨w.heap.size, 0, none⟩ = some (.slice a l.length c) ∧ w'.cell? ⟨w.heap.size, 0, none⟩ = some (.slice a l.length c) ∧ Below w7.heap.size w7 w') (first | exact hS | assumption) (first
          | (go_at_call 15; refine (K1.out _ hS.2.2.2.2).mono ?_; rintro e wq ⟨rfl, np⟩; have h1 := B4.on (b1 := b9) (b2 := bq) (b3 := w.heap.size) (b4 := w.heap.size) (v1 := .slice ap PL.length cp) (v2 := .slice aq PH.length cq) (v3 := .slice a l.length c) (v4 := .slice a l.length c) (w := w7) hS np; unfold B4 at h1; clear np)
          | (go_at_call_of 16 (Value.int .i64 hi); go_at_call_of 16 (Value.agg #[Value.slice ap PL.length cp]); first | (refine (K2.out _ h2.2.2.2.2).mono ?_; rintro e wp ⟨⟨vp, rfl, rp⟩, np⟩; have h3 := B4.on (b1 := b9) (b2 := bq) (b3 := w.heap.size) (b4 := w.heap.size) (v1 := .slice ap PL.length cp) (v2 := .slice aq PH.length cq) (v3 := .slice a l.length c) (v4 := .slice a l.length c) (w := w7) h2 np; unfold B4 at h3; have RA := Lib.hid rp; have RB := Lib.hid (RB.out.on np); obtain ⟨ax, cx, rfl, -, -⟩ := rp; clear np) | (refine (K2.out _ h1.2.2.2.2).mono ?_; rintro e wp ⟨⟨vp, rfl, rp⟩, np⟩; have h2 := B4.on (b1 := b9) (b2 := bq) (b3 := w.heap.size) (b4 := w.heap.size) (v1 := .slice ap PL.length cp) (v2 := .slice aq PH.length cq) (v3 := .slice a l.length c) (v4 := .slice a l.length c) (w := w7) h1 np; unfold B4 at h2; have RA := Lib.hid rp; obtain ⟨ax, cx, rfl, -, -⟩ := rp; clear np))
          | (go_at_call_of 16 (Value.int .i64 hi); go_at_call_of 16 (Value.agg #[Value.slice a l.length c]); first | (refine (K3.out _ h2.2.2.2.2).mono ?_; rintro e wp ⟨⟨vp, rfl, rp⟩, np⟩; have h3 := B4.on (b1 := b9) (b2 := bq) (b3 := w.heap.size) (b4 := w.heap.size) (v1 := .slice ap PL.length cp) (v2 := .slice aq PH.length cq) (v3 := .slice a l.length c) (v4 := .slice a l.length c) (w := w7) h2 np; unfold B4 at h3; have RB := Lib.hid rp; have RA := Lib.hid (RA.out.on np); obtain ⟨ay, cy, rfl, -, -⟩ := rp; clear np) | (refine (K3.out _ h1.2.2.2.2).mono ?_; rintro e wp ⟨⟨vp, rfl, rp⟩, np⟩; have h2 := B4.on (b1 := b9) (b2 := bq) (b3 := w.heap.size) (b4 := w.heap.size) (v1 := .slice ap PL.length cp) (v2 := .slice aq PH.length cq) (v3 := .slice a l.length c) (v4 := .slice a l.length c) (w := w7) h1 np; unfold B4 at h2; have RB := Lib.hid rp; obtain ⟨ay, cy, rfl, -, -⟩ := rp; clear np))
          | (go_at_call_of 17 (Value.slice ax IH.length cx); refine (K4.out _ _ _ RA.out RB.out).mono ?_; rintro e wq ⟨rfl, np⟩; have h4 := B4.on (b1 := b9) (b2 := bq) (b3 := w.heap.size) (b4 := w.heap.size) (v1 := .slice ap PL.length cp) (v2 := .slice aq PH.length cq) (v3 := .slice a l.length c) (v4 := .slice a l.length c) (w := w7) h3 np; unfold B4 at h4; clear np)
          | (go_at_call_of 16 (Value.int .i64 lo); go_at_call_of 16 (Value.agg #[Value.slice ap PL.length cp]); first | (refine (K5.out _ h5.2.2.2.2).mono ?_; rintro e wp ⟨⟨vp, rfl, rp⟩, np⟩; have h6 := B4.on (b1 := b9) (b2 := bq) (b3 := w.heap.size) (b4 := w.heap.size) (v1 := .slice ap PL.length cp) (v2 := .slice aq PH.length cq) (v3 := .slice a l.length c) (v4 := .slice a l.length c) (w := w7) h5 np; unfold B4 at h6; have RC := Lib.hid rp; have RD := Lib.hid (RD.out.on np); obtain ⟨az, cz, rfl, -, -⟩ := rp; clear np) | (refine (K5.out _ h4.2.2.2.2).mono ?_; rintro e wp ⟨⟨vp, rfl, rp⟩, np⟩; have h5 := B4.on (b1 := b9) (b2 := bq) (b3 := w.heap.size) (b4 := w.heap.size) (v1 := .slice ap PL.length cp) (v2 := .slice aq PH.length cq) (v3 := .slice a l.length c) (v4 := .slice a l.length c) (w := w7) h4 np; unfold B4 at h5; have RC := Lib.hid rp; obtain ⟨az, cz, rfl, -, -⟩ := rp; clear np))
          | (go_at_call_of 16 (Value.int .i64 lo); go_at_call_of 16 (Value.agg #[Value.slice a l.length c]); first | (refine (K6.out _ h5.2.2.2.2).mono ?_; rintro e wp ⟨⟨vp, rfl, rp⟩, np⟩; have h6 := B4.on (b1 := b9) (b2 := bq) (b3 := w.heap.size) (b4 := w.heap.size) (v1 := .slice ap PL.length cp) (v2 := .slice aq PH.length cq) (v3 := .slice a l.length c) (v4 := .slice a l.length c) (w := w7) h5 np; unfold B4 at h6; have RD := Lib.hid rp; have RC := Lib.hid (RC.out.on np); obtain ⟨ak, ck, rfl, -, -⟩ := rp; clear np) | (refine (K6.out _ h4.2.2.2.2).mono ?_; rintro e wp ⟨⟨vp, rfl, rp⟩, np⟩; have h5 := B4.on (b1 := b9) (b2 := bq) (b3 := w.heap.size) (b4 := w.heap.size) (v1 := .slice ap PL.length cp) (v2 := .slice aq PH.length cq) (v3 := .slice a l.length c) (v4 := .slice a l.length c) (w := w7) h4 np; unfold B4 at h5; have RD := Lib.hid rp; obtain ⟨ak, ck, rfl, -, -⟩ := rp; clear np))
          | (go_at_call_of 17 (Value.slice az IL.length cz); refine (K7.out _ _ _ RC.out RD.out).mono ?_; rintro e wq ⟨rfl, np⟩; have h7 := B4.on (b1 := b9) (b2 := bq) (b3 := w.heap.size) (b4 := w.heap.size) (v1 := .slice ap PL.length cp) (v2 := .slice aq PH.length cq) (v3 := .slice a l.length c) (v4 := .slice a l.length c) (w := w7) h6 np; unfold B4 at h7; clear np)
          | (go_at_call 21; refine (K8.out _ h7.2.2.2.2).mono ?_; rintro e wp ⟨⟨vp, rfl, rp⟩, np⟩; have h8 := B4.on (b1 := b9) (b2 := bq) (b3 := w.heap.size) (b4 := w.heap.size) (v1 := .slice ap PL.length cp) (v2 := .slice aq PH.length cq) (v3 := .slice a l.length c) (v4 := .slice a l.length c) (w := w7) h7 np; unfold B4 at h8; have RE := Lib.hid rp; have RQ := Lib.hid (HQ.out _ h8.2.2.2.2); obtain ⟨au, cu, rfl, -, -⟩ := rp.at; clear np rp)
          | (go_at_call 13; refine (K9.out _ _ _ RQ.out RE.out).mono ?_; rintro e wq ⟨rfl, np⟩; have h9 := B4.on (b1 := b9) (b2 := bq) (b3 := w.heap.size) (b4 := w.heap.size) (v1 := .slice ap PL.length cp) (v2 := .slice aq PH.length cq) (v3 := .slice a l.length c) (v4 := .slice a l.length c) (w := w7) h8 np; unfold B4 at h9; clear np)
          | fail)
        all_goals (have dF := Lib.hid (d7.out.trans (h9.2.2.2.2.mono HZ.out)))
        all_goals (clear hS h1 h2 h3 h4 h5 h6 h7 h8 h9)
        all_goals (go_wp2_with fail)
        all_goals (go_ret)
        all_goals (exact ⟨rfl, dF.out⟩)
  · go_wp2_with fail
    go_ret
    exact ⟨rfl, d2.out⟩
end Go.Proofs.Ythiofbohllmfbaa.Sh
