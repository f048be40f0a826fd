/- What is read of a shard: a walk of the program's own. -/
import Derived.Test.YthiofbohllmfbaaZC
namespace Go.Proofs.Ythiofbohllmfbaa.Sh
open Go Go.RowKit Go.Sort Go.Lib Cl Ce Ch

set_option maxRecDepth 100000 in
set_option maxHeartbeats 4000000 in
theorem read_anyS (v vd : Value) (l : List Ent) (s : Int) (ds : List Drp) (w : World) (h : SRow w v l) (hd : DRow w vd ds) (hn : l.length ≤ 1000) (hdn : ds.length ≤ 1000000) (hv : ∀ e ∈ l, e.vs.length ≤ 1000) :
    Calls Try.prog 16 #[.agg #[v], .int .i64 s, vd] w fun e w' => (∃ v', e = .returned v' ∧ IRow w' v' (readS l s ds)) ∧ Below w.heap.size w w' := by
  obtain ⟨j0, hi, hz0, hz1, hz2⟩ := info54
  have HI := Lib.hid (And.intro hi (And.intro hz0 (And.intro hz1 hz2)))
  clear hi hz0 hz1 hz2
  obtain ⟨a, c, rfl, hc, hl⟩ := h.at
  have d0 := Lib.hid (aBelow w (.cells #[.slice a l.length c] 24))
  have HL := Lib.hid (hl.on d0.out)
  have HV := Lib.hid (fun k (hk : k < l.length) => hv _ (List.getElem_mem hk))
  have HDR := Lib.hid (hd.on d0.out)
  obtain ⟨ad, cd, rfl, -, -⟩ := hd
  obtain ⟨PS, HPS⟩ : ∃ PS, Hid (readS l s ds = PS) := ⟨_, rfl⟩
  rw [HPS.out]
  clear h hl hv
  go_enter Try.func16, Try.ntmps16
  go_wp2_with fail
  have hb0 : w.heap.size < (w.alloc (.cells #[.slice a l.length c] 24)).heap.size := by simp
  generalize w.alloc (.cells #[.slice a l.length c] 24) = w0 at *
  generalize hxb : w.heap.size = xb at *
  have HXB := Lib.hid hxb
  clear hxb
  go_loopw [7, 14] (fun out i wr => ∃ k : Nat, k ≤ l.length ∧ i = .int .i64 k ∧ Hid (wr.ownsRow w0.heap.size 54 7 out (readS (l.take k) s ds).length (flatG itmC (readS (l.take k) s ds))) ∧ Hid (Below w0.heap.size w0 wr)) (fun _ i _ => l.length - (intOf i).toNat)
  case atStart => exact ⟨0, Nat.zero_le _, rfl, ownG_nil _ _ _, Below.refl _ _⟩
  case round =>
    obtain ⟨k, hk, rfl, HO, HD⟩ := hrel
    by_cases hlt : k < l.length
    · obtain ⟨b, o, rfl, hbb, L0⟩ := HL.out (ne_of_lt hlt)
      obtain ⟨s1, e1, e2, e3, r1⟩ := (L0.on hbb HD.out) k hlt
      have i1 : (k : Int) < (l.length : Int) := by omega
      have i2 : (0 : Int) ≤ (k : Int) := by omega
      have HN := Lib.hid (readS_opt hlt s ds)
      have hlv := HV.out k hlt
      have hpl : (readS (l.take k) s ds).length ≤ k := Nat.le_trans (readS_len _ _ _) (by rw [List.length_take]; omega)
      have HR1 := Lib.hid r1
      have HDC := Lib.hid (fun W (d : Below wr.heap.size wr W) (wi t : Int) => dropped_any (.slice ad ds.length cd) ds wi t W ((HDR.out.on HD.out).on d) hdn)
      obtain ⟨sa, sc, rfl, -, -⟩ := r1
      generalize l[k] = x at *
      obtain ⟨p0, p1, p2⟩ := x
      simp only at e1 e2 e3 hlv HN
      have HAC := Lib.hid (fun W (d : Below wr.heap.size wr W) => at_any (.slice sa p2.length sc) p2 s W (HR1.out.on d) (by omega))
      generalize readS (l.take k) s ds = S at *
      have hwz := HD.out.size
      have dA := Lib.hid (aBelow wr (.cells #[.int .i64 p0, .string p1, .slice sa p2.length sc] 59))
      have HE := Lib.hid (EBox.new wr p0 p1 (.slice sa p2.length sc))
      clear L0 HL hbb
      unfold celV at HAC
      generalize atS p2 s = C at *
      obtain ⟨z0, z1, z2, z3, z4⟩ := C
      simp only at HAC HN
      go_wp2_with fail
      refine (HAC.out _ dA.out).mono ?_
      rintro e w2 ⟨rfl, n2⟩
      have d2 := Lib.hid ((dA.out).trans (n2.mono dA.out.size))
      have hbx := HE.out.on n2
      clear HE dA n2 HAC
      have HBX := Lib.hid ((hbx.on (aBelow w2 (.cells #[.int .i64 z0, .int .i64 z1, .bool z2, .int .i64 z3, .int .i64 z4] 52))).on (aBelow _ (.cells #[.int .i64 z0, .int .i64 z1, .bool z2, .int .i64 z3, .int .i64 z4] 52)))
      have HCB := Lib.hid ((Box.new w2 w2.heap.size ⟨z0, z1, z2, z3, z4⟩ rfl).on (aBelow _ (.cells #[.int .i64 z0, .int .i64 z1, .bool z2, .int .i64 z3, .int .i64 z4] 52)))
      have d3 := Lib.hid ((d2.out).trans ((aBelow2 w2 (.cells #[.int .i64 z0, .int .i64 z1, .bool z2, .int .i64 z3, .int .i64 z4] 52) (.cells #[.int .i64 z0, .int .i64 z1, .bool z2, .int .i64 z3, .int .i64 z4] 52)).mono d2.out.size))
      by_cases hc1 : 1 ≤ z0
      · have q1 : decide (1 ≤ z0) = true := decide_eq_true hc1
        have HEM := Lib.hid (fun W => empty_f ⟨z0, z1, z2, z3, z4⟩ W hc1)
        simp only at HEM HCB
        clear hbx
        go_wp2_with fail
        refine (HEM.out _).mono ?_
        rintro e w3 ⟨rfl, rfl⟩
        obtain ⟨⟨x0, x1, x2⟩, x3⟩ := HBX.out
        generalize hw3 : (w2.alloc (.cells #[.int .i64 z0, .int .i64 z1, .bool z2, .int .i64 z3, .int .i64 z4] 52)).alloc (.cells #[.int .i64 z0, .int .i64 z1, .bool z2, .int .i64 z3, .int .i64 z4] 52) = w3 at *
        go_wp2_with fail
        refine (HDC.out _ d3.out _ _).mono ?_
        rintro e w4 ⟨rfl, n4⟩
        have d4 := Lib.hid (d3.out.trans (n4.mono d3.out.size))
        clear x0 x1 x2 x3 hw3
        obtain ⟨⟨x0, x1, x2⟩, x3⟩ := HBX.out.on n4
        obtain ⟨y0, y1, y2, y3, y4⟩ := HCB.out.on n4
        simp only at y0 y1 y2 y3 y4
        clear HBX HCB n4 d2
        cases T : dropped ds p0 s
        · have HT := Lib.hid (HN.out.trans (by rw [q1, T]; rfl : _ = S ++ [⟨p0, p1, ⟨z0, z1, z2, z3, z4⟩⟩]))
          clear HN T
          have HB := Lib.hid (newI w4 p0 p1 ⟨z0, z1, z2, z3, z4⟩)
          have d5 := Lib.hid ((d4.out).alloc d4.out.size (.cells #[.int .i64 p0, .string p1, .int .i64 z0, .int .i64 z1, .bool z2, .int .i64 z3, .int .i64 z4] 54))
          have HOB := Lib.hid (own_on HO.out d5.out)
          have HZ := Lib.hid (Nat.le_trans hwz d5.out.size)
          go_wp2_with (first | (at_builtin; refine wpList_append_own _ rfl _ _ 36 rfl w0.heap.size 54 j0 (.agg #[.int .i64 0, .string ⟨#[]⟩, .int .i64 0, .int .i64 0, .bool false, .int .i64 0, .int .i64 0]) 7 64 Try.underlying36 HI.out.1 HI.out.2.1 HI.out.2.2.1 HI.out.2.2.2 rfl (by decide) _ _ _ rfl HOB.out ⟨w4.heap.size, 0, none⟩ 1 1 (itmC ⟨p0, p1, ⟨z0, z1, z2, z3, z4⟩⟩) rfl rfl HB.out (itmC_one _) (by unfold maxLen; omega) (by omega) HZ.out ?_; intro v' w6 hown hgrow hnil))
          have HQ := Lib.hid (ownG_next hown)
          have HQ2 := Lib.hid ((HD.out.trans (d5.out.mono hwz)).grown hgrow HZ.out (fun j hj => (HOB.out.lt j hj).1))
          clear hown hgrow hnil
          exact ⟨⟨k + 1, by omega, by go_num, by rw [HT.out]; exact HQ.out, HQ2.out⟩, by simp [intOf]; omega⟩
        · have HT := Lib.hid (HN.out.trans (by rw [q1, T]; exact List.append_nil S : _ = S))
          clear HN T
          have HO1 := Lib.hid (own_on HO.out d4.out)
          have HD1 := Lib.hid (HD.out.trans (d4.out.mono hwz))
          go_wp2_with fail
          exact ⟨⟨k + 1, by omega, by go_num, by rw [HT.out]; exact HO1.out, HD1.out⟩, by simp [intOf]; omega⟩
      · have q1 : decide (1 ≤ z0) = false := decide_eq_false hc1
        have HT := Lib.hid (HN.out.trans (by rw [q1, Bool.false_and]; exact List.append_nil S : _ = S))
        have HEM := Lib.hid (fun W => empty_t ⟨z0, z1, z2, z3, z4⟩ W (by show z0 < 1; omega))
        simp only at HEM
        have HO1 := Lib.hid (own_on HO.out d3.out)
        have HD1 := Lib.hid (HD.out.trans (d3.out.mono hwz))
        clear HN hc1 hbx
        go_wp2_with fail
        refine (HEM.out _).mono ?_
        rintro e w3 ⟨rfl, rfl⟩
        go_wp2_with fail
        exact ⟨⟨k + 1, by omega, by go_num, by rw [HT.out]; exact HO1.out, HD1.out⟩, by simp [intOf]; omega⟩
    · have i1 : ¬ (k : Int) < (l.length : Int) := by omega
      have HT : Hid (readS (l.take k) s ds = PS) := by show _ = _; rw [List.take_of_length_le (by omega)]; exact HPS.out
      rw [HT.out] at HO
      have HR := Lib.hid (own_ir HO.out)
      have DD := Lib.hid ((d0.out).trans (HD.out.mono (Nat.le_of_lt hb0)))
      have e := HXB.out
      subst e
      go_wp2_with fail
      go_ret
      exact ⟨⟨_, rfl, HR.out⟩, DD.out⟩
end Go.Proofs.Ythiofbohllmfbaa.Sh
