/- Walk over Own14: the law SeqPushes. -/
import Derived.Test.YtmgfgfkkhcibcaaV14
namespace Go.Proofs.Ytmgfgfkkhcibcaa.Se
open Go Go.RowKit

theorem sameQ_self (l : List Wr) : sameQ l l = true := decide_eq_true rfl
theorem beq_self_ba (x : ByteArray) : (x.toList == x.toList) = true := by simp
theorem push_len (q m : List Wr) : (pushQ q m).1.length ≤ q.length + m.length := by
  unfold pushQ
  split
  · rw [List.length_append]; exact Nat.le_refl _
  · exact Nat.zero_le _
theorem pop_len (q : List Wr) : (popQ q).2.1.length ≤ q.length := by cases q <;> simp [popQ]

set_option maxRecDepth 100000 in
set_option maxHeartbeats 4000000 in
theorem pushes_walk (O : Own14) (HA0 : ∀ w : World, Calls Try.prog 7 #[] w fun e w' => e = .returned (.bool true) ∧ Below w.heap.size w w') (v1 v2 : Value) (q m : List Wr) (w : World) (h1 : WRow w v1 q) (h2 : WRow w v2 m) (k1 : ∀ x ∈ q, okW x) (k2 : ∀ x ∈ m, okW x) :
    Calls Try.prog 3 #[v1, v2] w fun e w' => e = .returned (.bool true) ∧ Below w.heap.size w w' := by
  have HAl := Lib.hid HA0
  obtain ⟨a1, c1, rfl, hc1, hl1⟩ := h1
  obtain ⟨a2, c2, rfl, hc2, hl2⟩ := h2
  by_cases hq : 100 < q.length
  · have i1 : (100 : Int) < (q.length : Int) := by omega
    clear hl1 hl2
    go_enter Try.func3, Try.ntmps3
    go_wp2_with fail
    refine (HAl.out _).mono ?_
    rintro e w1 ⟨rfl, n1⟩
    go_wp2_with fail
    go_ret
    exact ⟨rfl, n1⟩
  · have i1 : ¬ (100 : Int) < (q.length : Int) := by omega
    by_cases hm : 100 < m.length
    · have i2 : (100 : Int) < (m.length : Int) := by omega
      clear hl1 hl2
      go_enter Try.func3, Try.ntmps3
      go_wp2_with fail
      refine (HAl.out _).mono ?_
      rintro e w1 ⟨rfl, n1⟩
      go_wp2_with fail
      go_ret
      exact ⟨rfl, n1⟩
    · have i2 : ¬ (100 : Int) < (m.length : Int) := by omega
      obtain ⟨j0, hi, hz0, hz1, hz2⟩ := infoW
      have HI := Lib.hid (And.intro hi (And.intro hz0 (And.intro hz1 hz2)))
      clear hi hz0 hz1 hz2
      have H1 := Lib.hid (show WRow w (.slice a1 q.length c1) q from ⟨a1, c1, rfl, hc1, hl1⟩)
      have H2 := Lib.hid (show WRow w (.slice a2 m.length c2) m from ⟨a2, c2, rfl, hc2, hl2⟩)
      have HL1 := Lib.hid hl1
      clear hl1 hl2
      have hpl := push_len q m
      have hol := pop_len q
      have HP := Lib.hid (fun v W (hv : WRow W v q) (d : Below w.heap.size w W) => O.push v (.slice a2 m.length c2) q m W hv (H2.out.on d) (by omega) (by omega) k1 k2)
      have HR := Lib.hid (fun W (d : Below w.heap.size w W) => refPush_any (.slice a1 q.length c1) (.slice a2 m.length c2) q m W (H1.out.on d) (H2.out.on d) (by omega) (by omega))
      have HO := Lib.hid (fun v W (hv : WRow W v q) => O.pop v q W hv (by omega) k1)
      have HOR := Lib.hid (fun W (d : Below w.heap.size w W) => refPop_any (.slice a1 q.length c1) q W (H1.out.on d) (by omega))
      have HT := Lib.hid (fun W (d : Below w.heap.size w W) => O.right (.slice a1 q.length c1) q W (H1.out.on d) (by omega) k1)
      have HTR := Lib.hid (fun W (d : Below w.heap.size w W) => refRight_any (.slice a1 q.length c1) q W (H1.out.on d) (by omega))
      have HS := Lib.hid (fun W (d : Below w.heap.size w W) => O.same (.slice a1 q.length c1) (.slice a2 m.length c2) q m W (H1.out.on d) (H2.out.on d) (by omega) (by omega) k1 k2)
      have HSR := Lib.hid (fun W (d : Below w.heap.size w W) => refSame_any (.slice a1 q.length c1) (.slice a2 m.length c2) q m W (H1.out.on d) (H2.out.on d) (by omega))
      generalize pushQ q m = P at *
      generalize popQ q = R at *
      generalize rightQ q = T at *
      generalize sameQ q m = S at *
      obtain ⟨A, E⟩ := P
      obtain ⟨⟨xs, xw, xk, xv⟩, r, p⟩ := R
      simp only [wV] at HP HR HO HOR hpl hol
      have qE : (E == E) = true := by simp
      have q0 : (xs == xs) = true := by simp
      have q1 : (xw == xw) = true := by simp
      have q2 : (xk.toList == xk.toList) = true := beq_self_ba xk
      have q3 : (xv == xv) = true := by simp
      have qp : (p == p) = true := by simp
      have qT : (T == T) = true := by simp
      have qS : (S == S) = true := by simp
      clear k1 k2 O
      go_enter Try.func3, Try.ntmps3
      go_wp2_with fail
      refine (HAl.out _).mono ?_
      rintro e w1 ⟨rfl, n1⟩
      have D1 := Lib.hid n1
      have dA := Lib.hid (aBelow w1 (.cells #[] 29))
      have DA := Lib.hid (D1.out.trans (dA.out.mono D1.out.size))
      have HL := Lib.hid (HL1.out.on DA.out)
      have HN1 := Lib.hid (gat_news wC_len (by decide) HL.out)
      have HG1 := Lib.hid (gat_none HL.out)
      have HM0 := Lib.hid (World.ownsRow_made (base := w1.heap.size) (e := 29) (size := 4) w1 #[] 0 (Nat.le_refl _) (Nat.zero_le _) (by simp))
      clear n1 HL1 HL
      go_wp2_with (first
        | (at_builtin; refine wpList_append_any rfl _ _ 22 rfl w1.heap.size 29 j0 (.agg #[.int .i64 0, .int .i64 0, .string ⟨#[]⟩, .int .i64 0]) 4 40 Try.underlying22 HI.out.1 HI.out.2.1 HI.out.2.2.1 HI.out.2.2.2 rfl (by decide) _ _ _ rfl HM0.out a1 q.length c1 (flatG wC q) rfl (flatG_len wC_len q) HG1.out HN1.out (flatG_cells1 wC_one q) (by unfold maxLen; omega) (by omega) (by simp) ?_
           intro v5 w3 hown5 hgrow5 hnil5
           have D3 := Lib.hid (D1.out.trans (((dA.out).grown hgrow5 (by simp) (fun j hj => by cases hj; exact Nat.le_refl _)).mono D1.out.size))
           have HV : Hid (WRow w3 v5 q) := Lib.hid (ownG_row wC_len (by simpa using hown5))
           obtain ⟨a5, c5, rfl, -, -⟩ := HV.out
           clear hown5 hgrow5 hnil5 HN1 HG1 HM0 dA DA HI))
      refine (HP.out _ _ HV.out D3.out).mono ?_
      rintro e w4 ⟨⟨v4, rfl, h4⟩, n4⟩
      have D4 := Lib.hid (D3.out.trans (n4.mono D3.out.size))
      have HV := Lib.hid (HV.out.on n4)
      have G4 := Lib.hid h4
      obtain ⟨a4, c4, rfl, -, -⟩ := G4.out
      clear n4 h4 HP D3
      go_wp2_with fail
      refine (HR.out _ D4.out).mono ?_
      rintro e w5 ⟨⟨v5, rfl, h5⟩, n5⟩
      have D5 := Lib.hid (D4.out.trans (n5.mono D4.out.size))
      have HV := Lib.hid (HV.out.on n5)
      have G4 := Lib.hid (G4.out.on n5)
      have G5 := Lib.hid h5
      obtain ⟨a5', c5', rfl, -, -⟩ := G5.out
      clear n5 h5 HR D4
      go_wp2_with fail
      refine (HO.out _ _ HV.out).mono ?_
      rintro e w6 ⟨⟨v6, rfl, h6⟩, n6⟩
      have D6 := Lib.hid (D5.out.trans (n6.mono D5.out.size))
      have HV := Lib.hid (HV.out.on n6)
      have G4 := Lib.hid (G4.out.on n6)
      have G5 := Lib.hid (G5.out.on n6)
      have G6 := Lib.hid h6
      obtain ⟨a6, c6, rfl, -, -⟩ := G6.out
      clear n6 h6 HO D5
      have N7 := Lib.hid (aBelow w6 (.cells #[.int .i64 xs, .int .i64 xw, .string xk, .int .i64 xv] 29))
      have HOR := Lib.hid (HOR.out _ (D6.out.trans (N7.out.mono D6.out.size)))
      go_wp2_with fail
      refine HOR.out.mono ?_
      rintro e w7 ⟨⟨v7, rfl, h7⟩, n7⟩
      have D7 := Lib.hid ((D6.out.trans (N7.out.mono D6.out.size)).trans (n7.mono (D6.out.trans (N7.out.mono D6.out.size)).size))
      have M7 := Lib.hid (N7.out.trans (n7.mono N7.out.size))
      have HV := Lib.hid (HV.out.on M7.out)
      have G4 := Lib.hid (G4.out.on M7.out)
      have G5 := Lib.hid (G5.out.on M7.out)
      have G6 := Lib.hid (G6.out.on M7.out)
      have b0 : w7.cell? ⟨w6.heap.size, 0, none⟩ = some (.int .i64 xs) := newC n7 (i := 0)
      have b1 : w7.cell? ⟨w6.heap.size, 1, none⟩ = some (.int .i64 xw) := newC n7 (i := 1)
      have b2 : w7.cell? ⟨w6.heap.size, 2, none⟩ = some (.string xk) := newC n7 (i := 2)
      have b3 : w7.cell? ⟨w6.heap.size, 3, none⟩ = some (.int .i64 xv) := newC n7 (i := 3)
      have G7 := Lib.hid h7
      obtain ⟨a7, c7, rfl, -, -⟩ := G7.out
      have hb7 := World.block_lt_of_cell? _ _ b0
      generalize w6.heap.size = bx at *
      clear n7 h7 HOR N7 M7 D6
      have N8 := Lib.hid (aBelow w7 (.cells #[.int .i64 xs, .int .i64 xw, .string xk, .int .i64 xv] 29))
      have D8 := Lib.hid (D7.out.trans (N8.out.mono D7.out.size))
      have HSA := Lib.hid (refSame_any _ _ A A _ (G4.out.on N8.out) (G5.out.on N8.out) (by omega))
      rw [sameQ_self] at HSA
      go_wp2_with fail
      refine HSA.out.mono ?_
      rintro e w8' ⟨rfl, n8⟩
      have d0 : w8'.cell? ⟨w7.heap.size, 0, none⟩ = some (.int .i64 xs) := newC n8 (i := 0)
      have d1 : w8'.cell? ⟨w7.heap.size, 1, none⟩ = some (.int .i64 xw) := newC n8 (i := 1)
      have d2 : w8'.cell? ⟨w7.heap.size, 2, none⟩ = some (.string xk) := newC n8 (i := 2)
      have d3 : w8'.cell? ⟨w7.heap.size, 3, none⟩ = some (.int .i64 xv) := newC n8 (i := 3)
      have M8 := Lib.hid (N8.out.trans (n8.mono N8.out.size))
      have b0 := keepC M8.out b0 hb7
      have b1 := keepC M8.out b1 hb7
      have b2 := keepC M8.out b2 hb7
      have b3 := keepC M8.out b3 hb7
      have D8 := Lib.hid (D7.out.trans (M8.out.mono D7.out.size))
      have HSB := Lib.hid (refSame_any _ _ r r _ (G6.out.on M8.out) (G7.out.on M8.out) (by omega))
      rw [sameQ_self] at HSB
      have HV := Lib.hid (HV.out.on M8.out)
      clear n8 HSA N8 M8 D7 G4 G5 G6 G7
      go_wp2_with fail
      refine HSB.out.mono ?_
      rintro e w9 ⟨rfl, n9⟩
      have D9 := Lib.hid (D8.out.trans (n9.mono D8.out.size))
      have HV := Lib.hid (HV.out.on n9)
      clear n9 HSB D8 b0 b1 b2 b3 d0 d1 d2 d3
      go_wp2_with fail
      refine (HT.out _ D9.out).mono ?_
      rintro e w10 ⟨rfl, n10⟩
      have D10 := Lib.hid (D9.out.trans (n10.mono D9.out.size))
      have HV := Lib.hid (HV.out.on n10)
      clear n10 HT D9
      go_wp2_with fail
      refine (HTR.out _ D10.out).mono ?_
      rintro e w11 ⟨rfl, n11⟩
      have D11 := Lib.hid (D10.out.trans (n11.mono D10.out.size))
      have HV := Lib.hid (HV.out.on n11)
      clear n11 HTR D10
      go_wp2_with fail
      refine (HS.out _ D11.out).mono ?_
      rintro e w12 ⟨rfl, n12⟩
      have D12 := Lib.hid (D11.out.trans (n12.mono D11.out.size))
      have HV := Lib.hid (HV.out.on n12)
      clear n12 HS D11
      go_wp2_with fail
      refine (HSR.out _ D12.out).mono ?_
      rintro e w13 ⟨rfl, n13⟩
      have D13 := Lib.hid (D12.out.trans (n13.mono D12.out.size))
      have HV := Lib.hid (HV.out.on n13)
      have HSC := Lib.hid (refSame_any _ _ q q _ HV.out (H1.out.on D13.out) (by omega))
      rw [sameQ_self] at HSC
      clear n13 HSR D12
      go_wp2_with fail
      refine HSC.out.mono ?_
      rintro e w14 ⟨rfl, n14⟩
      have D14 := Lib.hid (D13.out.trans (n14.mono D13.out.size))
      go_wp2_with fail
      go_ret
      exact ⟨rfl, D14.out⟩
end Go.Proofs.Ytmgfgfkkhcibcaa.Se
