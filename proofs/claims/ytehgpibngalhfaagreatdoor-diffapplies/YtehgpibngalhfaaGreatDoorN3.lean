/- Changes in order: a walk of the document's. -/
import Derived.Test.YtehgpibngalhfaaGreatDoorN2
import Derived.Test.YtehgpibngalhfaaGreatDoorD8
namespace Go.Proofs.YtehgpibngalhfaaGreatDoor.Rw
open Go Go.RowKit Go.Sort Go.Lib Tg Pk Ky Qy Df

set_option maxRecDepth 100000 in
set_option maxHeartbeats 2000000 in
theorem refCright_any (v : Value) (l : List Chg) (w : World) (h : CRow w v l) (hn : l.length ≤ 1000000) (hs : ∀ x ∈ l, x.r.grp.size ≤ 900) :
    Calls Tryz.prog 22 #[v] w fun e w' => e = .returned (.bool (cright l)) ∧ Below w.heap.size w w' := by
  obtain ⟨a, c, rfl, hc, hl⟩ := h
  obtain ⟨i0, hi, hz0, hz1, hz2⟩ := info29
  have HI := Lib.hid (And.intro hi (And.intro hz0 (And.intro hz1 hz2)))
  have HL := Lib.hid hl
  have HS := Lib.hid hs
  obtain ⟨F, HF⟩ : ∃ F, Hid (cright l = F) := ⟨_, rfl⟩
  rw [HF.out]
  clear hl hs hi hz0 hz1 hz2
  go_enter Tryz.func22, Tryz.ntmps22
  go_wp2_with fail
  go_loopw [3, 4] (fun rv i wr => ∃ (k : Nat), k ≤ l.length ∧ i = .int .i64 k ∧ Hid (wr.ownsRow w.heap.size 45 4 rv (rowsOf l k).length (flatG rowC (rowsOf l k))) ∧ Hid (∀ j (hj : j < l.length), j < k → zeroV l[j] = true) ∧ Hid (Below w.heap.size w wr)) (fun _ i _ => l.length - (intOf i).toNat)
  case atStart => exact ⟨0, Nat.zero_le _, rfl, ownG_nil _ _ _, fun j _ hj => absurd hj (Nat.not_lt_zero j), Below.refl _ _⟩
  case round =>
    obtain ⟨k, hk, rfl, HO, HT, HD⟩ := hrel
    by_cases hlt : k < l.length
    · obtain ⟨b, o, rfl, hb, hL⟩ := HL.out (ne_of_lt hlt)
      obtain ⟨e1, e2, e3, e4, e5⟩ := c_at (hL.on hb HD.out) k hlt
      have i1 : (k : Int) < (l.length : Int) := by omega
      have i2 : (0 : Int) ≤ (k : Int) := by omega
      have hz := (HD.out).size
      have HX : Hid (zeroV l[k] = false → F = false) := fun h => (HF.out).symm.trans (cright_not hlt h)
      have HN : Hid (zeroV l[k] = true → ∀ j (hj : j < l.length), j < k + 1 → zeroV l[j] = true) := fun h j hj hjk => by
        by_cases q : j < k
        · exact HT.out j hj q
        · have : j = k := by omega
          subst this; exact h
      have HR := Lib.hid (rowsOf_next hlt)
      have hrl := rowsOf_len l k
      generalize l[k] = x at *
      generalize rowsOf l k = L at *
      obtain ⟨⟨x1, x2, x3, x4⟩, x5⟩ := x
      simp only at e1 e2 e3 e4 e5 HR
      clear hL hb HL HT HS
      cases x5
      · have HM := Lib.hid (HN.out rfl)
        clear HN HX
        go_wp2_with (first | (at_builtin; refine wpList_append_own _ rfl _ _ 22 rfl w.heap.size 45 i0 (.agg #[.int .i64 0, .string ⟨#[]⟩, .int .i64 0, .bool false]) 4 40 Tryz.underlying22 HI.out.1 HI.out.2.1 HI.out.2.2.1 HI.out.2.2.2 rfl (by decide) _ _ _ rfl (HO.out.alloc _) ⟨wr.heap.size, 0, none⟩ 1 1 (rowC ⟨x1, x2, x3, x4⟩) rfl rfl (new1R wr ⟨x1, x2, x3, x4⟩) (rowC_one _) (by unfold maxLen; omega) (by omega) (by simp; omega) ?_; intro v' w3 hown hgrow hnil))
        have HO3 := Lib.hid (ownG_next hown)
        have hb3 := Lib.hid (ownG_below HD.out hz HO.out hgrow)
        clear hown hgrow
        exact ⟨⟨k + 1, by omega, by go_num, by rw [HR.out]; exact HO3, HM, hb3⟩, by simp [intOf]; omega⟩
      · by_cases h3 : x3 = 0
        · subst h3
          cases x4
          · have HM := Lib.hid (HN.out rfl)
            clear HN HX
            go_wp2_with (first | (at_builtin; refine wpList_append_own _ rfl _ _ 22 rfl w.heap.size 45 i0 (.agg #[.int .i64 0, .string ⟨#[]⟩, .int .i64 0, .bool false]) 4 40 Tryz.underlying22 HI.out.1 HI.out.2.1 HI.out.2.2.1 HI.out.2.2.2 rfl (by decide) _ _ _ rfl (HO.out.alloc _) ⟨wr.heap.size, 0, none⟩ 1 1 (rowC ⟨x1, x2, 0, false⟩) rfl rfl (new1R wr ⟨x1, x2, 0, false⟩) (rowC_one _) (by unfold maxLen; omega) (by omega) (by simp; omega) ?_; intro v' w3 hown hgrow hnil))
            have HO3 := Lib.hid (ownG_next hown)
            have hb3 := Lib.hid (ownG_below HD.out hz HO.out hgrow)
            clear hown hgrow
            exact ⟨⟨k + 1, by omega, by go_num, by rw [HR.out]; exact HO3, HM, hb3⟩, by simp [intOf]; omega⟩
          · have HM := Lib.hid (HX.out rfl)
            clear HN HX
            go_wp2_with fail
            go_ret
            exact ⟨by first | (rw [HM.out]; done) | (rw [HM.out]; rfl), HD.out⟩
        · have HM := Lib.hid (HX.out (by unfold zeroV; simp [h3]))
          have q3 : (x3 == 0) = false := by simp [h3]
          have q4 : (x3 != 0) = true := by simp [h3]
          clear HN HX
          go_wp2_with fail
          go_ret
          exact ⟨by first | (rw [HM.out]; done) | (rw [HM.out]; rfl), HD.out⟩
    · have i1 : ¬ (k : Int) < (l.length : Int) := by omega
      have HM := Lib.hid ((HF.out).symm.trans (cright_rows fun j hj => HT.out j hj (by omega)))
      have hr := ownG_row rowC_len HO.out
      rw [rowsOf_all hlt] at hr
      have HK := Lib.hid (refRright_any _ _ wr hr (by rw [List.length_map]; omega) (fun x hx => by
        obtain ⟨c, hc, rfl⟩ := List.mem_map.1 hx
        exact HS.out c hc))
      generalize rright (l.map fun c => c.r) = R at *
      clear HO HL hr
      go_wp2_with (first | (go_at_call 27; refine (HK.out).mono ?_; rintro e w2 ⟨rfl, n2⟩))
      go_ret
      exact ⟨by first | (rw [HM.out]; done) | (rw [HM.out]; rfl), (HD.out).trans (n2.mono (HD.out).size)⟩

end Go.Proofs.YtehgpibngalhfaaGreatDoor.Rw
