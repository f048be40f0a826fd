/- Rows: what is wrong with a group; in order: walks of both. -/
import Derived.Test.YtehgpibngalhfaaGreatDoorD4
import Derived.Test.YtehgpibngalhfaaGreatDoorB2
namespace Go.Proofs.YtehgpibngalhfaaGreatDoor.Rw
open Go Go.RowKit Go.Sort Go.Lib Tg Pk Ky Qy

theorem tags_small {s : List UInt8} (h : (parse s).2 = 0) : (parse s).1.length ≤ 1000 ∧ (∀ x ∈ (parse s).1, x.1.size ≤ 100000 ∧ x.2.size ≤ 100000) ∧ (textB (parse s).1).size ≤ 140737488355328 := by
  obtain ⟨h1, h2⟩ := right_small (parse_ok h)
  have h3 := text_size (parse s).1 25 (fun t ht => by have := h2 t ht; omega)
  refine ⟨by omega, fun x hx => by have := h2 x hx; omega, ?_⟩
  have : (parse s).1.length * (25 + 1) ≤ 4 * 26 := Nat.mul_le_mul h1 (Nat.le_refl _)
  omega
theorem textB_eq (l : List Tag) (s : ByteArray) : (text l = s.data.toList) ↔ eqB (textB l) s = true := by
  unfold eqB; rw [textB_list]; simp

set_option maxRecDepth 100000 in
set_option maxHeartbeats 1000000 in
theorem checkGroup_any (s : ByteArray) (w : World) (hE : Env w) (hs : s.size ≤ 900) :
    Calls Tryz.prog 46 #[.string s] w fun e w' => e = .returned (.int .i64 (grpE s)) ∧ Below w.heap.size w w' := by
  have HP := Lib.hid (YtehgpibngalhfaaGreatDoor.parse_any s w hE hs)
  have HS := fun h => Lib.hid (tags_small (s := s.data.toList) h)
  have HT := fun l => Lib.hid (textB_eq l s)
  have HB := fun l => Lib.hid (beq_ba (textB l) s)
  have HG1 : Hid (¬ (parse s.data.toList).2 = 0 → grpE s = (parse s.data.toList).2) := fun h => grpE_err h
  have HG2 : Hid ((parse s.data.toList).2 = 0 → text (parse s.data.toList).1 = s.data.toList → grpE s = 0) := fun h h2 => grpE_ok h h2
  have HG3 : Hid ((parse s.data.toList).2 = 0 → ¬ text (parse s.data.toList).1 = s.data.toList → grpE s = 2) := fun h h2 => grpE_form h h2
  generalize grpE s = G at *
  generalize parse s.data.toList = C at *
  obtain ⟨L, E⟩ := C
  simp only at HP HS HG1 HG2 HG3
  by_cases hE0 : E = 0
  · subst hE0
    obtain ⟨q1, q2, q3⟩ := (HS rfl).out
    clear HS
    cases hb : eqB (textB L) s
    · have HM := Lib.hid (HG3.out rfl (fun h => by rw [(HT L).out.1 h] at hb; cases hb))
      have hbb := ((HB L).out).trans hb
      have HX := fun v w (h : TRow w v L) => Lib.hid (YtehgpibngalhfaaGreatDoor.text_any v L w h q1 q2 q3)
      clear HT HB HG1 HG2 HG3 q1 q2 q3 hb
      generalize textB L = X at *
      go_enter Tryz.func46, Tryz.ntmps46
      go_wp2_with fail
      refine (HP.out).mono ?_
      rintro e w1 ⟨⟨v', rfl, hv⟩, n1⟩
      have HX2 := HX _ _ hv
      obtain ⟨a, c, rfl, _, _⟩ := hv
      clear HP HX
      go_wp2_with fail
      refine (HX2.out).mono ?_
      rintro e w2 ⟨rfl, n2⟩
      go_wp2
      go_ret
      exact ⟨by first | (rw [HM.out]; done) | (rw [HM.out]; rfl), n1.trans (n2.mono n1.size)⟩
    · have HM := Lib.hid (HG2.out rfl ((HT L).out.2 hb))
      have hbb := ((HB L).out).trans hb
      have HX := fun v w (h : TRow w v L) => Lib.hid (YtehgpibngalhfaaGreatDoor.text_any v L w h q1 q2 q3)
      clear HT HB HG1 HG2 HG3 q1 q2 q3 hb
      generalize textB L = X at *
      go_enter Tryz.func46, Tryz.ntmps46
      go_wp2_with fail
      refine (HP.out).mono ?_
      rintro e w1 ⟨⟨v', rfl, hv⟩, n1⟩
      have HX2 := HX _ _ hv
      obtain ⟨a, c, rfl, _, _⟩ := hv
      clear HP HX
      go_wp2_with fail
      refine (HX2.out).mono ?_
      rintro e w2 ⟨rfl, n2⟩
      go_wp2
      go_ret
      exact ⟨by first | (rw [HM.out]; done) | (rw [HM.out]; rfl), n1.trans (n2.mono n1.size)⟩
  · have HM := Lib.hid (HG1.out hE0)
    have hz : (E != 0) = true := by simp [hE0]
    have hz2 : (E == 0) = false := by simp [hE0]
    clear HS HT HB HG1 HG2 HG3
    go_enter Tryz.func46, Tryz.ntmps46
    go_wp2_with fail
    refine (HP.out).mono ?_
    rintro e w1 ⟨⟨v', rfl, hv⟩, n1⟩
    obtain ⟨a, c, rfl, _, _⟩ := hv
    clear HP
    go_wp2
    go_ret
    exact ⟨by first | (rw [HM.out]; done) | (rw [HM.out]; rfl), n1⟩

set_option maxRecDepth 100000 in
set_option maxHeartbeats 1000000 in
theorem refGroup_any (s : ByteArray) (w : World) (hs : s.size ≤ 900) :
    Calls Tryz.prog 48 #[.string s] w fun e w' => e = .returned (.int .i64 (grpE s)) ∧ Below w.heap.size w w' := by
  have HP := Lib.hid (YtehgpibngalhfaaGreatDoor.refParse_any s w hs)
  have HS := fun h => Lib.hid (tags_small (s := s.data.toList) h)
  have HT := fun l => Lib.hid (textB_eq l s)
  have HB := fun l => Lib.hid (beq_ba (textB l) s)
  have HG1 : Hid (¬ (parse s.data.toList).2 = 0 → grpE s = (parse s.data.toList).2) := fun h => grpE_err h
  have HG2 : Hid ((parse s.data.toList).2 = 0 → text (parse s.data.toList).1 = s.data.toList → grpE s = 0) := fun h h2 => grpE_ok h h2
  have HG3 : Hid ((parse s.data.toList).2 = 0 → ¬ text (parse s.data.toList).1 = s.data.toList → grpE s = 2) := fun h h2 => grpE_form h h2
  generalize grpE s = G at *
  generalize parse s.data.toList = C at *
  obtain ⟨L, E⟩ := C
  simp only at HP HS HG1 HG2 HG3
  by_cases hE0 : E = 0
  · subst hE0
    obtain ⟨q1, q2, q3⟩ := (HS rfl).out
    clear HS
    cases hb : eqB (textB L) s
    · have HM := Lib.hid (HG3.out rfl (fun h => by rw [(HT L).out.1 h] at hb; cases hb))
      have hbb := ((HB L).out).trans hb
      have HX := fun v w (h : TRow w v L) => Lib.hid (YtehgpibngalhfaaGreatDoor.refText_any v L w h q1 q2 q3)
      clear HT HB HG1 HG2 HG3 q1 q2 q3 hb
      generalize textB L = X at *
      go_enter Tryz.func48, Tryz.ntmps48
      go_wp2_with fail
      refine (HP.out).mono ?_
      rintro e w1 ⟨⟨v', rfl, hv⟩, n1⟩
      have HX2 := HX _ _ hv
      obtain ⟨a, c, rfl, _, _⟩ := hv
      clear HP HX
      go_wp2_with fail
      refine (HX2.out).mono ?_
      rintro e w2 ⟨rfl, n2⟩
      go_wp2
      go_ret
      exact ⟨by first | (rw [HM.out]; done) | (rw [HM.out]; rfl), n1.trans (n2.mono n1.size)⟩
    · have HM := Lib.hid (HG2.out rfl ((HT L).out.2 hb))
      have hbb := ((HB L).out).trans hb
      have HX := fun v w (h : TRow w v L) => Lib.hid (YtehgpibngalhfaaGreatDoor.refText_any v L w h q1 q2 q3)
      clear HT HB HG1 HG2 HG3 q1 q2 q3 hb
      generalize textB L = X at *
      go_enter Tryz.func48, Tryz.ntmps48
      go_wp2_with fail
      refine (HP.out).mono ?_
      rintro e w1 ⟨⟨v', rfl, hv⟩, n1⟩
      have HX2 := HX _ _ hv
      obtain ⟨a, c, rfl, _, _⟩ := hv
      clear HP HX
      go_wp2_with fail
      refine (HX2.out).mono ?_
      rintro e w2 ⟨rfl, n2⟩
      go_wp2
      go_ret
      exact ⟨by first | (rw [HM.out]; done) | (rw [HM.out]; rfl), n1.trans (n2.mono n1.size)⟩
  · have HM := Lib.hid (HG1.out hE0)
    have hz : (E != 0) = true := by simp [hE0]
    have hz2 : (E == 0) = false := by simp [hE0]
    clear HS HT HB HG1 HG2 HG3
    go_enter Tryz.func48, Tryz.ntmps48
    go_wp2_with fail
    refine (HP.out).mono ?_
    rintro e w1 ⟨⟨v', rfl, hv⟩, n1⟩
    obtain ⟨a, c, rfl, _, _⟩ := hv
    clear HP
    go_wp2
    go_ret
    exact ⟨by first | (rw [HM.out]; done) | (rw [HM.out]; rfl), n1⟩


theorem Gw.env {W w' : World} (h : Gw W w') (hE : Env W) : Env w' := hE.go h.below
set_option maxRecDepth 100000 in
set_option maxHeartbeats 1000000 in
theorem rright_any (v : Value) (l : List Row) (w : World) (h : RRow w v l) (hE : Env w) (hn : l.length ≤ 1000000) (hs : ∀ x ∈ l, x.grp.size ≤ 900) :
    Calls Tryz.prog 24 #[v] w fun e w' => e = .returned (.bool (rright l)) ∧ Below w.heap.size w w' := by
  have HR := Lib.hid h
  have HE := Lib.hid hE
  have HS := Lib.hid hs
  obtain ⟨a, c, rfl, hc, hl⟩ := h
  have HL := Lib.hid hl
  obtain ⟨F, HF⟩ : ∃ F, Hid (rright l = F) := ⟨_, rfl⟩
  rw [HF.out]
  clear hl hs hE
  go_enter Tryz.func24, Tryz.ntmps24
  go_wp2
  go_loopw [7] (fun i wr => ∃ (k : Nat), k ≤ l.length ∧ i = .int .i64 k ∧ Hid (∀ j (hj : j < l.length), j < k → grpE (l[j]).grp = 0) ∧ Hid (Below w.heap.size w wr)) (fun i _ => l.length - (intOf i).toNat)
  case atStart => exact ⟨0, Nat.zero_le _, rfl, fun j _ hj => absurd hj (Nat.not_lt_zero j), Below.refl _ _⟩
  case round =>
    obtain ⟨k, hk, rfl, HT, HD⟩ := hrel
    by_cases hlt : k < l.length
    · obtain ⟨b, o, rfl, hb, hL⟩ := HL.out (ne_of_lt hlt)
      have i1 : (k : Int) < (l.length : Int) := by omega
      have i2 : (0 : Int) ≤ (k : Int) := by omega
      obtain ⟨e1, e2, e3, e4⟩ := r_at (hL.on hb HD.out) k hlt
      have HX : Hid (¬ grpE (l[k]).grp = 0 → F = false) := fun h => (HF.out).symm.trans (rright_not hlt h)
      have HN : Hid (grpE (l[k]).grp = 0 → ∀ j (hj : j < l.length), j < k + 1 → grpE (l[j]).grp = 0) := fun h j hj hjk => by
        by_cases q : j < k
        · exact HT.out j hj q
        · have : j = k := by omega
          subst this; exact h
      have HC := fun W (hW : Env W) => Lib.hid (checkGroup_any (l[k]).grp W hW (HS.out _ (List.getElem_mem hlt)))
      generalize l[k] = x at *
      obtain ⟨x1, x2, x3, x4⟩ := x
      simp only at e1 e2 e3 e4 HX HN HC
      generalize grpE x2 = G at *
      clear hL hb HT HS HL
      go_wp2_with fail
      have nb : Below w.heap.size w (wr.alloc (.cells #[.int .i64 x1, .string x2, .int .i64 x3, .bool x4] 45)) := (HD.out).alloc (HD.out).size _
      refine (HC _ (HE.out.go nb)).out.mono ?_
      rintro e w2 ⟨rfl, n2⟩
      have ND := Lib.hid (nb.trans (n2.mono nb.size))
      clear nb n2 HC HD
      by_cases hG : G = 0
      · have HM := Lib.hid (HN.out hG)
        subst hG
        clear HX HN
        go_wp2
        exact ⟨⟨k + 1, by omega, by go_num, HM, ND⟩, by simp [intOf]; omega⟩
      · have HM := Lib.hid (HX.out hG)
        have z1 : (G != 0) = true := by simp [hG]
        have z2 : (G == 0) = false := by simp [hG]
        clear HX HN
        go_wp2
        go_ret
        exact ⟨by first | (rw [HM.out]; done) | (rw [HM.out]; rfl), ND.out⟩
    · have HM := Lib.hid ((HF.out).symm.trans (rright_rise fun j hj => HT.out j hj (by omega)))
      have i1 : ¬ (k : Int) < (l.length : Int) := by omega
      have HK := Lib.hid (rising_any _ l wr (HR.out.on HD.out) hn)
      go_wp2_with (first | (go_at_call 47; refine (HK.out).mono ?_; rintro e w2 ⟨rfl, g2⟩))
      go_ret
      exact ⟨by first | (rw [HM.out]; done) | (rw [HM.out]; rfl), (HD.out).trans (g2.below.mono (HD.out).size)⟩

set_option maxRecDepth 100000 in
set_option maxHeartbeats 1000000 in
theorem refRright_any (v : Value) (l : List Row) (w : World) (h : RRow w v l) (hn : l.length ≤ 1000000) (hs : ∀ x ∈ l, x.grp.size ≤ 900) :
    Calls Tryz.prog 27 #[v] w fun e w' => e = .returned (.bool (rright l)) ∧ Below w.heap.size w w' := by
  have HR := Lib.hid h
  have HS := Lib.hid hs
  obtain ⟨a, c, rfl, hc, hl⟩ := h
  have HL := Lib.hid hl
  obtain ⟨F, HF⟩ : ∃ F, Hid (rright l = F) := ⟨_, rfl⟩
  rw [HF.out]
  clear hl hs
  go_enter Tryz.func27, Tryz.ntmps27
  go_wp2
  go_loopw [3] (fun i wr => ∃ (k : Nat), k ≤ l.length ∧ i = .int .i64 k ∧ Hid (∀ j (hj : j < l.length), j < k → grpE (l[j]).grp = 0) ∧ Hid (Below w.heap.size w wr)) (fun i _ => l.length - (intOf i).toNat)
  case atStart => exact ⟨0, Nat.zero_le _, rfl, fun j _ hj => absurd hj (Nat.not_lt_zero j), Below.refl _ _⟩
  case round =>
    obtain ⟨k, hk, rfl, HT, HD⟩ := hrel
    by_cases hlt : k < l.length
    · obtain ⟨b, o, rfl, hb, hL⟩ := HL.out (ne_of_lt hlt)
      have i1 : (k : Int) < (l.length : Int) := by omega
      have i2 : (0 : Int) ≤ (k : Int) := by omega
      obtain ⟨e1, e2, e3, e4⟩ := r_at (hL.on hb HD.out) k hlt
      have HX : Hid (¬ grpE (l[k]).grp = 0 → F = false) := fun h => (HF.out).symm.trans (rright_not hlt h)
      have HN : Hid (grpE (l[k]).grp = 0 → ∀ j (hj : j < l.length), j < k + 1 → grpE (l[j]).grp = 0) := fun h j hj hjk => by
        by_cases q : j < k
        · exact HT.out j hj q
        · have : j = k := by omega
          subst this; exact h
      have HC := fun W => Lib.hid (refGroup_any (l[k]).grp W (HS.out _ (List.getElem_mem hlt)))
      generalize l[k] = x at *
      obtain ⟨x1, x2, x3, x4⟩ := x
      simp only at e1 e2 e3 e4 HX HN HC
      generalize grpE x2 = G at *
      clear hL hb HT HS HL
      go_wp2_with fail
      have nb := HD.out
      refine (HC _).out.mono ?_
      rintro e w2 ⟨rfl, n2⟩
      have ND := Lib.hid (nb.trans (n2.mono nb.size))
      clear nb n2 HC HD
      by_cases hG : G = 0
      · have HM := Lib.hid (HN.out hG)
        subst hG
        clear HX HN
        go_wp2
        exact ⟨⟨k + 1, by omega, by go_num, HM, ND⟩, by simp [intOf]; omega⟩
      · have HM := Lib.hid (HX.out hG)
        have z1 : (G != 0) = true := by simp [hG]
        have z2 : (G == 0) = false := by simp [hG]
        clear HX HN
        go_wp2
        go_ret
        exact ⟨by first | (rw [HM.out]; done) | (rw [HM.out]; rfl), ND.out⟩
    · have HM := Lib.hid ((HF.out).symm.trans (rright_rise fun j hj => HT.out j hj (by omega)))
      have i1 : ¬ (k : Int) < (l.length : Int) := by omega
      have HK := Lib.hid (refRise_any _ l wr (HR.out.on HD.out) hn)
      go_wp2_with (first | (go_at_call 45; refine (HK.out).mono ?_; rintro e w2 ⟨rfl, g2⟩))
      go_ret
      exact ⟨by first | (rw [HM.out]; done) | (rw [HM.out]; rfl), (HD.out).trans (g2.below.mono (HD.out).size)⟩

end Go.Proofs.YtehgpibngalhfaaGreatDoor.Rw
