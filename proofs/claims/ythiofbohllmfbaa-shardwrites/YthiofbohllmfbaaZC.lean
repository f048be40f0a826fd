/- Shards in order, how many versions, the same: walks of the program's own. -/
import Derived.Test.YthiofbohllmfbaaZB
import Derived.Test.YthiofbohllmfbaaSF
import Derived.Test.YthiofbohllmfbaaXO
namespace Go.Proofs.Ythiofbohllmfbaa.Sh
open Go Go.RowKit Go.Sort Go.Lib Cl Ce Ch

set_option maxRecDepth 100000 in
set_option maxHeartbeats 2000000 in
theorem size_any (v : Value) (l : List Ent) (w : World) (h : SRow w v l) (hn : l.length ≤ 1000) (hv : ∀ e ∈ l, e.vs.length ≤ 1000000) :
    Calls Try.prog 19 #[.agg #[v]] w fun e w' => e = .returned (.int .i64 (sizeS l)) ∧ Below w.heap.size w w' := by
  obtain ⟨a, c, rfl, hc, hl⟩ := h.at
  have d0 := Lib.hid (aBelow w (.cells #[.slice a l.length c] 24))
  have HL := Lib.hid (hl.on d0.out)
  have HV := Lib.hid (fun k (hk : k < l.length) => hv _ (List.getElem_mem hk))
  have HZ := Lib.hid (fun k (hk : k ≤ l.length) => Nat.le_trans (sizeS_le (l := l.take k) (n := 1000000) (fun e he => hv e (List.mem_of_mem_take he))) (Nat.mul_le_mul_right _ (show (l.take k).length ≤ 1000 by rw [List.length_take]; omega)))
  clear h hl hv
  go_enter Try.func19, Try.ntmps19
  go_wp2_with fail
  have hb0 : w.heap.size < (w.alloc (.cells #[.slice a l.length c] 24)).heap.size := by simp
  generalize w.alloc (.cells #[.slice a l.length c] 24) = w0 at *
  generalize hxb : w.heap.size = xb at *
  have HXB := Lib.hid hxb
  clear hxb
  go_loopw [3, 9] (fun m i wr => ∃ k : Nat, k ≤ l.length ∧ i = .int .i64 k ∧ m = .int .i64 (sizeS (l.take k)) ∧ Hid (Below w0.heap.size w0 wr)) (fun _ i _ => l.length - (intOf i).toNat)
  case atStart => exact ⟨0, Nat.zero_le _, rfl, rfl, Below.refl _ _⟩
  case round =>
    obtain ⟨k, hk, rfl, rfl, HD⟩ := hrel
    by_cases hlt : k < l.length
    · obtain ⟨b, o, rfl, hb, hL⟩ := HL.out (ne_of_lt hlt)
      obtain ⟨sl, e1, e2, e3, hr⟩ := (hL.on hb HD.out) k hlt
      have HN := Lib.hid (sizeS_next hlt)
      have hz := HZ.out k hk
      have hz2 := HV.out k hlt
      have i1 : (k : Int) < (l.length : Int) := by omega
      have i2 : (0 : Int) ≤ (k : Int) := by omega
      obtain ⟨a2, c2, rfl, -, -⟩ := hr
      generalize l[k] = x at *
      obtain ⟨p0, p1, p2⟩ := x
      simp only at e1 e2 e3 hz2 HN
      generalize sizeS (l.take k) = S at *
      generalize p2.length = D at *
      have i3 : IntKind.i64.wrap ((S : Int) + (D : Int)) = (S : Int) + (D : Int) := by rw [IntKind.wrap_i64]; omega
      have HD1 := Lib.hid (HD.out.alloc HD.out.size (.cells #[.int .i64 p0, .string p1, .slice a2 D c2] 59))
      clear hL HL hb hz hz2
      go_wp2_with fail
      exact ⟨⟨k + 1, by omega, by go_num, by rw [HN.out, Int.natCast_add], HD1⟩, by simp [intOf]; omega⟩
    · have i1 : ¬ (k : Int) < (l.length : Int) := by omega
      have hka : k = l.length := by omega
      have HT : Hid (l.take k = l) := List.take_of_length_le (by omega)
      generalize hS : sizeS (l.take k) = S at *
      have HS : Hid (sizeS l = S) := by rw [HT.out] at hS; exact hS
      have DD := Lib.hid ((d0.out).trans (HD.out.mono (Nat.le_of_lt hb0)))
      have e := HXB.out
      subst e
      go_wp2_with fail
      go_ret
      exact ⟨by rw [HS.out]; rfl, DD.out⟩

/-- A shard's box, an entry's box, and the entry ahead of it. -/
def RS (xb eb b o : Nat) (v s1 s2 : Value) (p0 : Int) (p1 : ByteArray) (q0 : Int) (q1 : ByteArray) (w' : World) : Prop :=
  w'.cell? ⟨xb, 0, none⟩ = some v ∧ w'.cell? ⟨eb, 0, none⟩ = some (.int .i64 p0) ∧ w'.cell? ⟨eb, 1, none⟩ = some (.string p1) ∧ w'.cell? ⟨eb, 2, none⟩ = some s1 ∧ w'.cell? ⟨b, o, none⟩ = some (.int .i64 q0) ∧ w'.cell? ⟨b, o + 1, none⟩ = some (.string q1) ∧ w'.cell? ⟨b, o + 2, none⟩ = some s2
theorem RS.on {xb eb b o : Nat} {v s1 s2 : Value} {p0 : Int} {p1 : ByteArray} {q0 : Int} {q1 : ByteArray} {w1 w2 : World} (h : RS xb eb b o v s1 s2 p0 p1 q0 q1 w1) (n : Below w1.heap.size w1 w2) : RS xb eb b o v s1 s2 p0 p1 q0 q1 w2 := by
  obtain ⟨h0, h1, h2, h3, h4, h5, h6⟩ := h
  exact ⟨keepC n h0 (World.block_lt_of_cell? _ _ h0), keepC n h1 (World.block_lt_of_cell? _ _ h1), keepC n h2 (World.block_lt_of_cell? _ _ h2), keepC n h3 (World.block_lt_of_cell? _ _ h3), keepC n h4 (World.block_lt_of_cell? _ _ h4), keepC n h5 (World.block_lt_of_cell? _ _ h5), keepC n h6 (World.block_lt_of_cell? _ _ h6)⟩
theorem rs2_on {xb eb b o : Nat} {v s1 s2 : Value} {p0 : Int} {p1 : ByteArray} {q0 : Int} {q1 : ByteArray} {w0 w1 w2 : World} (h : RS xb eb b o v s1 s2 p0 p1 q0 q1 w1 ∧ Below w0.heap.size w0 w1) (n : Below w1.heap.size w1 w2) : RS xb eb b o v s1 s2 p0 p1 q0 q1 w2 ∧ Below w0.heap.size w0 w2 :=
  ⟨h.1.on n, h.2.trans (n.mono h.2.size)⟩
set_option maxRecDepth 100000 in
set_option maxHeartbeats 4000000 in
theorem right_anyS (v : Value) (l : List Ent) (w : World) (h : SRow w v l) (hn : l.length ≤ 1000000) (hv : ∀ e ∈ l, e.vs.length ≤ 1000000) :
    Calls Try.prog 14 #[.agg #[v]] w fun e w' => e = .returned (.bool (sright l)) ∧ Below w.heap.size w w' := by
  obtain ⟨a, c, rfl, hc, hl⟩ := h.at
  have d0 := Lib.hid (aBelow w (.cells #[.slice a l.length c] 24))
  have HL := Lib.hid (hl.on d0.out)
  have HV := Lib.hid (fun k (hk : k < l.length) => hv _ (List.getElem_mem hk))
  obtain ⟨F, HF⟩ : ∃ F, Hid (sright l = F) := ⟨_, rfl⟩
  rw [HF.out]
  clear h hl hv
  go_enter Try.func14, Try.ntmps14
  go_wp2_with fail
  have B0 : (w.alloc (.cells #[.slice a l.length c] 24)).cell? ⟨w.heap.size, 0, none⟩ = some (.slice a l.length c) := by simp
  have hb0 : w.heap.size < (w.alloc (.cells #[.slice a l.length c] 24)).heap.size := by simp
  generalize w.alloc (.cells #[.slice a l.length c] 24) = w0 at *
  generalize hxb : w.heap.size = xb at *
  have HXB := Lib.hid hxb
  clear hxb
  go_loopw [8] (fun i wr => ∃ k : Nat, k ≤ l.length ∧ i = .int .i64 k ∧ Hid (Below w0.heap.size w0 wr) ∧ Hid (∀ j (hj : j < l.length), j < k → eIn l[j] = true ∧ (0 < j → ∃ h' : j - 1 < l.length, elt (l[j - 1]) l[j] = true))) (fun i _ => l.length - (intOf i).toNat)
  case atStart => exact ⟨0, Nat.zero_le _, rfl, Below.refl _ _, fun j _ hj => absurd hj (Nat.not_lt_zero j)⟩
  case round =>
    obtain ⟨k, hk, rfl, HD, HT⟩ := hrel
    have R0 := keepC HD.out B0 hb0
    by_cases hlt : k < l.length
    · obtain ⟨b, o, rfl, hbb, L0⟩ := HL.out (ne_of_lt hlt)
      have L1 := L0.on hbb HD.out
      obtain ⟨s1, e1, e2, e3, r1⟩ := L1 k hlt
      have i1 : (k : Int) < (l.length : Int) := by omega
      have i2 : (0 : Int) ≤ (k : Int) := by omega
      have HX : Hid (badE l k hlt → F = false) := fun h => (HF.out).symm.trans (sright_not hlt h)
      have HY := Lib.hid (fun h1 h2 => fineE_next HT.out hlt h1 h2)
      have hlv := HV.out k hlt
      have HR1 := Lib.hid r1
      obtain ⟨sa, sc, rfl, -, -⟩ := r1
      have hwz := HD.out.size
      by_cases c1 : (l[k]).vs.length = 0
      · have HM := Lib.hid (HX.out (Or.inl (by unfold eIn; simp [c1])))
        have q1 : (((l[k]).vs.length : Int) == 0) = true := by simp [c1]
        have q2 : ((l[k]).vs.length : Int) = 0 := by omega
        generalize l[k] = x at *
        obtain ⟨p0, p1, p2⟩ := x
        simp only at e1 e2 e3 q1 q2 hlv
        clear HX HY HR1 L0 L1 HT HL c1
        have DD := Lib.hid ((d0.out).trans ((HD.out.alloc hwz (.cells #[.int .i64 p0, .string p1, .slice sa p2.length sc] 59)).mono (Nat.le_of_lt hb0)))
        go_wp2_with fail
        have e := HXB.out
        subst e
        go_ret
        exact ⟨by first | (rw [HM.out]; done) | (rw [HM.out]; rfl), DD.out⟩
      · have q2 : ¬ ((l[k]).vs.length : Int) = 0 := by omega
        have q1 : (((l[k]).vs.length : Int) == 0) = false := by rw [beq_eq_false_iff_ne]; exact q2
        have HC := Lib.hid (fun W (d : Below wr.heap.size wr W) => right_any _ _ W (HR1.out.on d) hlv)
        cases hvr : vright (l[k]).vs
        · have HM := Lib.hid (HX.out (Or.inl (by unfold eIn; simp [hvr])))
          rw [hvr] at HC
          generalize l[k] = x at *
          obtain ⟨p0, p1, p2⟩ := x
          simp only at e1 e2 e3 q1 q2 hlv HC
          clear HR1 L0 L1 HT HL c1 hvr HX HY
          have DW := Lib.hid (HD.out.alloc hwz (.cells #[.int .i64 p0, .string p1, .slice sa p2.length sc] 59))
          have DD := Lib.hid ((d0.out).trans (DW.out.mono (Nat.le_of_lt hb0)))
          have DA := Lib.hid (aBelow wr (.cells #[.int .i64 p0, .string p1, .slice sa p2.length sc] 59))
          go_wp2_with (go_at_call 32; refine (HC.out _ DA.out).mono ?_; rintro e w5 ⟨rfl, n5⟩)
          have e := HXB.out
          subst e
          go_ret
          exact ⟨by first | (rw [HM.out]; done) | (rw [HM.out]; rfl), DD.out.trans (n5.mono DD.out.size)⟩
        · have heI : Hid (eIn l[k] = true) := by show _ = true; unfold eIn; rw [hvr, decide_eq_true (by omega)]; rfl
          rw [hvr] at HC
          have DA := Lib.hid (fun p0 p1 (p2 : List Ver) => aBelow wr (.cells #[.int .i64 p0, .string p1, .slice sa p2.length sc] 59))
          by_cases c3 : 0 < k
          rotate_left
          · have HM := Lib.hid (HY.out heI.out (fun h => absurd h c3))
            have i3 : ¬ (0 : Int) < (k : Int) := by omega
            have i4 : decide ((0 : Int) < (k : Int)) = false := decide_eq_false i3
            generalize l[k] = x at *
            obtain ⟨p0, p1, p2⟩ := x
            simp only at e1 e2 e3 q1 q2 hlv HC
            clear HR1 L0 L1 HT HL c1 hvr HX HY heI
            go_wp2_with (go_at_call 32; refine (HC.out _ (DA.out _ _ _)).mono ?_; rintro e w5 ⟨rfl, n5⟩)
            go_quiet (fail)
            go_wp2_with fail
            exact ⟨⟨k + 1, by omega, by go_num, (below_drewN (HD.out.trans (((DA.out p0 p1 p2).trans (n5.mono (DA.out p0 p1 p2).size)).mono hwz)) _), HM⟩, by simp [intOf]; omega⟩
          · obtain ⟨j, hj⟩ : ∃ j, j = k - 1 := ⟨_, rfl⟩
            have hjl : j < l.length := by omega
            obtain ⟨s2, f1, f2, f3, r2⟩ := L1 j hjl
            have h2c := vrow_one r2
            have i3 : (0 : Int) < (k : Int) := by omega
            have i4 : decide ((0 : Int) < (k : Int)) = true := decide_eq_true i3
            have i5 : (k : Int) - 1 = (j : Int) := by omega
            have i6 : IntKind.i64.wrap (j : Int) = (j : Int) := by rw [IntKind.wrap_i64]; omega
            have i7 : (j : Int) < (l.length : Int) := by omega
            have i8 : (0 : Int) ≤ (j : Int) := by omega
            have HX2 : Hid (elt l[j] l[k] = false → F = false) := fun h => HX.out (Or.inr ⟨c3, by omega, by subst hj; exact h⟩)
            have HY2 := Lib.hid (fun (h : elt l[j] l[k] = true) => HY.out heI.out (fun _ => ⟨by omega, by subst hj; exact h⟩))
            have HPC := Lib.hid (show decide (0 < pcmp (l[k]).win (l[k]).key (l[j]).win (l[j]).key) = elt l[j] l[k] from pcmp_pos _ _ _ _)
            generalize elt l[j] l[k] = T at *
            generalize l[k] = x at *
            generalize l[j] = y at *
            obtain ⟨p0, p1, p2⟩ := x
            obtain ⟨q0, q1', q2'⟩ := y
            simp only at e1 e2 e3 q1 q2 hlv HC HPC f1 f2
            have DA2 := Lib.hid (DA.out p0 p1 p2)
            have DW := Lib.hid (HD.out.alloc hwz (.cells #[.int .i64 p0, .string p1, .slice sa p2.length sc] 59))
            have HS0 : Hid (RS xb wr.heap.size b (o + j * 3) (.slice (some ⟨b, o, none⟩) l.length c) (.slice sa p2.length sc) s2 p0 p1 q0 q1' (wr.alloc (.cells #[.int .i64 p0, .string p1, .slice sa p2.length sc] 59))) := ⟨cell_kept1 R0 _, by simp, by simp, by simp, cell_kept1 f1 _, cell_kept1 f2 _, cell_kept1 f3 _⟩
            clear HR1 L0 L1 HT HL c1 hvr HX HY heI hj r2 R0 B0 f1 f2 f3 hbb
            go_wp2_with (go_at_call 32; refine (HC.out _ DA2.out).mono ?_; rintro e w5 ⟨rfl, n5⟩)
            have HS := Lib.hid (HS0.out.on n5)
            have D5 := Lib.hid (DW.out.trans (n5.mono DW.out.size))
            have hS : RS xb wr.heap.size b (o + j * 3) (.slice (some ⟨b, o, none⟩) l.length c) (.slice sa p2.length sc) s2 p0 p1 q0 q1' w5.drew := HS.out
            clear HS HS0 e1 e2 e3 HC DA DA2 DW n5
            generalize wr.heap.size = eb at *
            have HON := Lib.hid (fun W W' (h : RS xb eb b (o + j * 3) (.slice (some ⟨b, o, none⟩) l.length c) (.slice sa p2.length sc) s2 p0 p1 q0 q1' W ∧ Below w5.heap.size w5 W) (n : Below W.heap.size W W') => rs2_on h n)
            have hS2 := And.intro hS (Below.refl w5.heap.size w5).drew
            clear hS
            unfold RS at hS2 HON
            have HA := Lib.hid (fun B0 B1 W => against1_any B0 B1 p0 p1 q0 q1' s2 W)
            have HG := Lib.hid (fun W => against_any p0 p1 W)
            generalize pcmp p0 p1 q0 q1' = C at *
            cases T
            · have HM := Lib.hid (HX2.out rfl)
              have i9 : decide (C ≤ 0) = true := by have := HPC.out; rw [decide_eq_false_iff_not] at this; exact decide_eq_true (by omega)
              clear HX2 HY2 HPC
              go_region_held3 (fun w' => (w'.cell? ⟨xb, 0, none⟩ = some (.slice (some ⟨b, o, none⟩) l.length c) ∧ w'.cell? ⟨eb, 0, none⟩ = some (.int .i64 p0) ∧ w'.cell? ⟨eb, 1, none⟩ = some (.string p1) ∧ w'.cell? ⟨eb, 2, none⟩ = some (.slice sa p2.length sc) ∧ w'.cell? ⟨b, o + j * 3, none⟩ = some (.int .i64 q0) ∧ w'.cell? ⟨b, o + j * 3 + 1, none⟩ = some (.string q1') ∧ w'.cell? ⟨b, o + j * 3 + 2, none⟩ = some s2) ∧ Below w5.heap.size w5 w') (first | exact hS2 | exact hS3 | exact hS4) (first
                | (go_at_call 33; refine (HG.out _).mono ?_; rintro e w6 ⟨⟨f, rfl, B0, B1, rfl, g0, g1⟩, n6⟩; have hS3 := HON.out _ _ hS2 n6)
                | (go_at_call 56; refine (HA.out _ _ _ g0 g1).mono ?_; rintro e w7 ⟨rfl, n7⟩; have hS4 := HON.out _ _ hS3 n7)
                | fail)
              have D7 := Lib.hid (D5.out.trans (hS4.2.mono D5.out.size))
              have DD := Lib.hid (d0.out.trans (D7.out.mono (Nat.le_of_lt hb0)))
              rename_i hHeld
              clear hS2 hS3 hS4 HON HA HG hHeld
              go_wp2_with fail
              have e := HXB.out
              subst e
              go_ret
              exact ⟨by first | (rw [HM.out]; done) | (rw [HM.out]; rfl), DD.out⟩
            · have HM := Lib.hid (HY2.out rfl)
              have i9 : decide (C ≤ 0) = false := by have := HPC.out; rw [decide_eq_true_iff] at this; exact decide_eq_false (by omega)
              clear HX2 HY2 HPC
              go_region_held3 (fun w' => (w'.cell? ⟨xb, 0, none⟩ = some (.slice (some ⟨b, o, none⟩) l.length c) ∧ w'.cell? ⟨eb, 0, none⟩ = some (.int .i64 p0) ∧ w'.cell? ⟨eb, 1, none⟩ = some (.string p1) ∧ w'.cell? ⟨eb, 2, none⟩ = some (.slice sa p2.length sc) ∧ w'.cell? ⟨b, o + j * 3, none⟩ = some (.int .i64 q0) ∧ w'.cell? ⟨b, o + j * 3 + 1, none⟩ = some (.string q1') ∧ w'.cell? ⟨b, o + j * 3 + 2, none⟩ = some s2) ∧ Below w5.heap.size w5 w') (first | exact hS2 | exact hS3 | exact hS4) (first
                | (go_at_call 33; refine (HG.out _).mono ?_; rintro e w6 ⟨⟨f, rfl, B0, B1, rfl, g0, g1⟩, n6⟩; have hS3 := HON.out _ _ hS2 n6)
                | (go_at_call 56; refine (HA.out _ _ _ g0 g1).mono ?_; rintro e w7 ⟨rfl, n7⟩; have hS4 := HON.out _ _ hS3 n7)
                | fail)
              have D7 := Lib.hid (D5.out.trans (hS4.2.mono D5.out.size))
              rename_i hHeld
              clear hS2 hS3 hS4 HON HA HG hHeld
              go_wp2_with fail
              exact ⟨⟨k + 1, by omega, by go_num, D7.out, HM⟩, by simp [intOf]; omega⟩
    · have HM := Lib.hid ((HF.out).symm.trans (sright_all (fun j hj => HT.out j hj (by omega))))
      have i1 : ¬ (k : Int) < (l.length : Int) := by omega
      have DD := Lib.hid ((d0.out).trans (HD.out.mono (Nat.le_of_lt hb0)))
      go_wp2_with fail
      have e := HXB.out
      subst e
      go_ret
      exact ⟨by first | (rw [HM.out]; done) | (rw [HM.out]; rfl), DD.out⟩
end Go.Proofs.Ythiofbohllmfbaa.Sh
