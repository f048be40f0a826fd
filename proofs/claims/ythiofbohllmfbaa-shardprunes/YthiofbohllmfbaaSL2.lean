/- The law ShardReads: a walk. -/
import Derived.Test.YthiofbohllmfbaaSL1
namespace Go.Proofs.Ythiofbohllmfbaa.Sh
open Go Go.RowKit Go.Sort Go.Lib Cl Ce Ch

/-- A shard's box as it lies. -/
def B1 (b1 : Nat) (v1 : Value) (w w' : World) : Prop := w'.cell? ⟨b1, 0, none⟩ = some v1 ∧ Below w.heap.size w w'
theorem B1.on {b1 : Nat} {v1 : Value} {w w1 w2 : World} (h : B1 b1 v1 w w1) (n : Below w1.heap.size w1 w2) : B1 b1 v1 w w2 := ⟨keepC n h.1 (World.block_lt_of_cell? _ _ h.1), h.2.trans (n.mono h.2.size)⟩
set_option maxRecDepth 100000 in
theorem info39 : ∃ i, Try.prog.info? 39 = some i ∧ i.zero = some (.agg #[.int .i64 0, .int .i64 0]) ∧ i.size = 2 ∧ i.bytes = 16 := ⟨_, rfl, rfl, rfl, rfl⟩

set_option maxRecDepth 100000 in
set_option maxHeartbeats 8000000 in
theorem reads_walk (O : Own11) (v vd : Value) (l : List Ent) (s : Int) (ds : List Drp) (w : World) (h : SRow w v l) (hd : DRow w vd ds) (hl : ∀ e ∈ l, ok64 e.win ∧ ∀ y ∈ e.vs, okV y) :
    Calls Try.prog 4 #[.agg #[v], .int .i64 s, vd] w fun e w' => e = .returned (.bool true) ∧ Below w.heap.size w w' := by
  have HAl := Lib.hid (fun W => alive_any O W)
  obtain ⟨j0, hi, hz0, hz1, hz2⟩ := info39
  have HI := Lib.hid (And.intro hi (And.intro hz0 (And.intro hz1 hz2)))
  clear hi hz0 hz1 hz2
  have HS0 := Lib.hid h
  have HD0 := Lib.hid hd
  obtain ⟨a, c, rfl, hc, -⟩ := h.at
  obtain ⟨ad, cd, rfl, -, -⟩ := hd
  have na := aBelow w (.cells #[.slice a l.length c] 24)
  have hsa := HS0.out.on na
  have hda := HD0.out.on na
  have X2 : (w.alloc (.cells #[.slice a l.length c] 24)).cell? ⟨w.heap.size, 0, none⟩ = some (.slice a l.length c) := by simp
  clear h hc HS0 HD0
  go_enter Try.func4, Try.ntmps4
  go_wp2_with fail
  generalize w.alloc (.cells #[.slice a l.length c] 24) = wa at *
  refine (HAl.out _).mono ?_
  rintro e w1 ⟨rfl, n1⟩
  have X2 := keepC n1 X2 (World.block_lt_of_cell? _ _ X2)
  have S1 := Lib.hid (hsa.on n1)
  have D1 := Lib.hid (hda.on n1)
  have d1 := na.trans (n1.mono na.size)
  clear HAl hsa hda na n1
  go_wp2_with fail
  refine (great_any _ l _ S1.out).mono ?_
  rintro e w2 ⟨rfl, n2⟩
  have X2 := keepC n2 X2 (World.block_lt_of_cell? _ _ X2)
  have S2 := Lib.hid (S1.out.on n2)
  have D2 := Lib.hid (D1.out.on n2)
  have d2 := Lib.hid (d1.trans (n2.mono d1.size))
  clear n2 d1 S1 D1
  cases hg : greatS l
  · have hok := okS_of hg hl
    by_cases hk : 50 < ds.length
    · have q1 : decide ((50 : Int) < (ds.length : Int)) = true := decide_eq_true (by omega)
      have q2 : (50 : Int) < (ds.length : Int) := by omega
      go_wp2_with fail
      go_ret
      exact ⟨rfl, d2.out⟩
    · have q1 : decide ((50 : Int) < (ds.length : Int)) = false := decide_eq_false (by omega)
      have q2 : ¬ (50 : Int) < (ds.length : Int) := by omega
      have HOK := Lib.hid hok
      have hll := (greatS_not hg).1
      have HLV := Lib.hid ((greatS_not hg).2)
      obtain ⟨PI, HPI⟩ : ∃ PI, Hid (readS l s ds = PI) := ⟨_, rfl⟩
      have hpl : PI.length ≤ 100 := by rw [← HPI.out]; exact Nat.le_trans (readS_len _ _ _) hll
      obtain ⟨Z, HZ⟩ : ∃ Z, Hid (sizeS l = Z) := ⟨_, rfl⟩
      have hdl : ds.length ≤ 50 := by omega
      clear hok hg hl
      have nd := aBelow w2 (.cells #[] 39)
      have HDA := Lib.hid (D2.out.on nd)
      have hdn := gat_news drpC_len (by decide) (show DAt (w2.alloc (.cells #[] 39)) ad ds by obtain ⟨q1, q2, q3, _, q4⟩ := HDA.out; injection q3 with z1 z2 z3; subst z1; exact q4)
      have hd0 : ad = none → ds.length = 0 := fun h => gat_none (show DAt (w2.alloc (.cells #[] 39)) ad ds by obtain ⟨q1, q2, q3, _, q4⟩ := HDA.out; injection q3 with z1 z2 z3; subst z1; exact q4) h
      have HDN := Lib.hid (And.intro hdn hd0)
      clear hdn hd0 nd
      go_wp2_with (first | (at_builtin; refine wpList_append_any rfl _ _ 35 rfl w2.heap.size 39 j0 (.agg #[.int .i64 0, .int .i64 0]) 2 16 Try.underlying35 HI.out.1 HI.out.2.1 HI.out.2.2.1 HI.out.2.2.2 rfl (by decide) _ _ _ rfl (World.ownsRow_made w2 #[] 0 (Nat.le_refl _) (Nat.zero_le _) (by simp)) ad ds.length cd (flatG drpC ds) rfl (flatG_len drpC_len ds) HDN.out.2 HDN.out.1 (flatG_cells1 drpC_one ds) (by unfold maxLen; omega) (by omega) (by simp) ?_; intro vo w3 hown hgrow hnil; have n3 : Below w2.heap.size w2 w3 := ((Below.refl _ _).alloc (Nat.le_refl _) _).grown hgrow (by simp) (fun k hk => by cases hk; exact Nat.le_refl _); have ro : DRow w3 vo ds := ownG_row drpC_len (by simpa using hown); have X2 := keepC n3 X2 (World.block_lt_of_cell? _ _ X2); have RO := Lib.hid ro; have S3 := Lib.hid (S2.out.on n3); have D3 := Lib.hid (D2.out.on n3); have d3 := Lib.hid (d2.out.trans (n3.mono d2.out.size)); obtain ⟨ao, co, rfl, -, -⟩ := ro; clear hown hgrow hnil n3))
      have K1 := O.read _ _ l s ds w3 S3.out RO.out HOK.out (by omega)
      rw [HPI.out] at K1
      have K1 := Lib.hid K1
      refine (K1.out).mono ?_
      rintro e w4 ⟨⟨v4, rfl, r4⟩, n4⟩
      have X2 := keepC n4 X2 (World.block_lt_of_cell? _ _ X2)
      have RO := Lib.hid (RO.out.on n4)
      have R4 := Lib.hid r4
      have S4 := Lib.hid (S3.out.on n4)
      have D4 := Lib.hid (D3.out.on n4)
      have d4 := Lib.hid (d3.out.trans (n4.mono d3.out.size))
      obtain ⟨a4, c4, rfl, -, -⟩ := r4
      have HO4 := Lib.hid (show DAt w4 ao ds by obtain ⟨q1, q2, q3, _, q4⟩ := RO.out; injection q3 with z1 z2 z3; subst z1; exact q4)
      have HD4 := Lib.hid (show DAt w4 ad ds by obtain ⟨q1, q2, q3, _, q4⟩ := D4.out; injection q3 with z1 z2 z3; subst z1; exact q4)
      clear n4 K1 S2 D2 d2 S3 D3 d3 HDN HDA
      go_wp2_with fail
      go_loopw [9] (fun i wr => ∃ k nq : Nat, k ≤ ds.length ∧ i = .int .i64 k ∧ wr = w4.drewN nq) (fun i _ => ds.length - (intOf i).toNat)
      case atStart => exact ⟨0, 0, Nat.zero_le _, rfl, rfl⟩
      case round =>
        obtain ⟨k, nq, hk2, rfl, rfl⟩ := hrel
        by_cases hlt : k < ds.length
        · obtain ⟨b1, o1, rfl, _, L1⟩ := HO4.out (ne_of_lt hlt)
          obtain ⟨b2, o2, rfl, _, L2⟩ := HD4.out (ne_of_lt hlt)
          obtain ⟨e1, e2⟩ := d_at L1 k hlt
          obtain ⟨f1, f2⟩ := d_at L2 k hlt
          have i1 : (k : Int) < (ds.length : Int) := by omega
          have i2 : (0 : Int) ≤ (k : Int) := by omega
          generalize ds[k] = x at *
          obtain ⟨x0, x1⟩ := x
          simp only at e1 e2 f1 f2
          have q3 : (x0 == x0) = true := by simp
          have q4 : (x1 == x1) = true := by simp
          clear L1 L2 HO4 HD4
          go_wp2_with fail
          go_quiet (fail)
          go_wp2_with fail
          exact ⟨⟨k + 1, _, by omega, by go_num, rfl⟩, by simp [intOf]; omega⟩
        · have i1 : ¬ (k : Int) < (ds.length : Int) := by omega
          have nQ := below_drewN (Below.refl w4.heap.size w4) nq
          have S5 := Lib.hid (S4.out.on nQ)
          have D5 := Lib.hid (D4.out.on nQ)
          have R5 := Lib.hid (R4.out.on nQ)
          have d5 := Lib.hid (d4.out.trans (nQ.mono d4.out.size))
          have X2 := keepC nQ X2 (World.block_lt_of_cell? _ _ X2)
          go_wp2_with fail
          clear nQ S4 D4 R4 d4 HO4 HD4 RO
          generalize w4.drewN nq = w5 at *
          have K1 := fun W (n : Below w5.heap.size w5 W) => refReadS_any _ _ l s ds W (S5.out.on n) (D5.out.on n) (by omega) (by omega) (fun e he => by have := (HLV.out e he).1; omega)
          have K2 := fun W (u : Value) (n : Below w5.heap.size w5 W) (g : IRow W u PI) => refItems_any _ u PI PI W (R5.out.on n) g (by omega)
          have K3 := fun W (n : Below w5.heap.size w5 W) => O.size _ l W (S5.out.on n) HOK.out
          have K4 := fun W (n : Below w5.heap.size w5 W) => refSize_any _ l W (S5.out.on n) (by omega) (fun e he => by have := (HLV.out e he).1; omega)
          rw [HPI.out] at K1
          rw [(sameI_true PI PI).2 rfl] at K2
          rw [HZ.out] at K3 K4
          have K1 := Lib.hid K1
          have K2 := Lib.hid K2
          have K3 := Lib.hid K3
          have K4 := Lib.hid K4
          have q3 : ((Z : Int) == (Z : Int)) = true := by simp
          have hS0 : Hid (B1 w.heap.size (.slice a l.length c) w5 w5.drew) := ⟨X2, (Below.refl _ _).drew⟩
          have hS := hS0.out
          unfold B1 at hS
          clear X2 hS0
          go_region_held3 (fun w' => w'.cell? ⟨w.heap.size, 0, none⟩ = some (.slice a l.length c) ∧ Below w5.heap.size w5 w') (first | exact hS | assumption) (first
            | (go_at_call 18; refine (K1.out _ hS.2).mono ?_; rintro e wp ⟨⟨vp, rfl, rp⟩, np⟩; have hsp := B1.on (b1 := w.heap.size) (v1 := .slice a l.length c) (w := w5) hS np; unfold B1 at hsp; have RP := Lib.hid rp; obtain ⟨ap, cp, rfl, -, -⟩ := rp; clear np)
            | (go_at_call 17; refine (K2.out _ _ hsp.2 RP.out).mono ?_; rintro e wq ⟨rfl, np⟩; have hsq := B1.on (b1 := w.heap.size) (v1 := .slice a l.length c) (w := w5) hsp np; unfold B1 at hsq; clear np)
            | (go_at_call 19; first | (refine (K3.out _ hst.2).mono ?_; rintro e wu ⟨rfl, np⟩; have hsu := B1.on (b1 := w.heap.size) (v1 := .slice a l.length c) (w := w5) hst np; unfold B1 at hsu; clear np) | (refine (K3.out _ hsq.2).mono ?_; rintro e wt ⟨rfl, np⟩; have hst := B1.on (b1 := w.heap.size) (v1 := .slice a l.length c) (w := w5) hsq np; unfold B1 at hst; clear np))
            | (go_at_call 20; first | (refine (K4.out _ hst.2).mono ?_; rintro e wu ⟨rfl, np⟩; have hsu := B1.on (b1 := w.heap.size) (v1 := .slice a l.length c) (w := w5) hst np; unfold B1 at hsu; clear np) | (refine (K4.out _ hsq.2).mono ?_; rintro e wt ⟨rfl, np⟩; have hst := B1.on (b1 := w.heap.size) (v1 := .slice a l.length c) (w := w5) hsq np; unfold B1 at hst; clear np))
            | fail)
          all_goals (have dF := Lib.hid (d5.out.trans (hsu.2.mono d5.out.size)))
          all_goals (clear hS hsp hsq hst hsu)
          all_goals (go_wp2_with fail)
          all_goals (go_ret)
          all_goals (exact ⟨rfl, dF.out⟩)
  · go_wp2_with fail
    go_ret
    exact ⟨rfl, d2.out⟩
end Go.Proofs.Ythiofbohllmfbaa.Sh
