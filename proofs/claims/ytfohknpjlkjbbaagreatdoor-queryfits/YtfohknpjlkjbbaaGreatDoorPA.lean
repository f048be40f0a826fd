/- Walks: the document's Parse. -/
import Derived.Test.YtfohknpjlkjbbaaGreatDoorP8
import Derived.Test.YtfohknpjlkjbbaaGreatDoorP9
namespace Go.Proofs.YtfohknpjlkjbbaaGreatDoor
open Go Go.RowKit Tg Pk

theorem may_not {P : List (List UInt8)} {k : Nat} (hk : k < P.length) (h : pmay (pread P[k]) = false) : (P.map pread).all pmay = false := by
  cases ha : (P.map pread).all pmay
  · rfl
  · rw [List.all_eq_true.1 ha _ (List.mem_map.2 ⟨_, List.getElem_mem hk, rfl⟩)] at h
    cases h
theorem may_next {P : List (List UInt8)} {k : Nat} (hk : k < P.length) (h : pmay (pread P[k]) = true) (ha : (readk P k).all pmay = true) : (readk P (k + 1)).all pmay = true := by
  rw [readk_next hk, List.all_append, ha]
  simp [h]

set_option maxRecDepth 100000 in
set_option maxHeartbeats 1000000 in
theorem refParseM_any (s : ByteArray) (w : World) (hs : s.size ≤ 900) :
    Calls Tryz.prog 45 #[.string s] w fun e w' => (∃ v', e = .returned (.tuple #[v', .int .i64 (pparse s.data.toList).2]) ∧ MRow w' v' (pparse s.data.toList).1) ∧ Below w.heap.size w w' := by
  obtain ⟨C, HC⟩ : ∃ C, Hid (pparse s.data.toList = C) := ⟨_, rfl⟩
  rw [HC.out]
  by_cases he : s.data.toList = []
  · obtain ⟨hq, hq2, hq3⟩ := empty_in s (by rw [he]; rfl)
    have HD : Hid (C = ([], 0)) := (HC.out).symm.trans (pparse_nil he)
    clear HC he
    go_enter Tryz.func45, Tryz.ntmps45
    go_wp2_with fail
    go_ret2
    rw [HD.out]
    exact ⟨⟨_, rfl, MRow.nil _⟩, Below.refl _ _⟩
  · obtain ⟨hq, hq2⟩ := empty_not s (by cases hx : s.data.toList with | nil => exact absurd hx he | cons a r => rfl)
    have HD1 : Hid (((Word.parts 44 s.data.toList).map pread).all pmay = false → C = ([], 2)) := fun h => (HC.out).symm.trans (pparse_form he h)
    have HD2 : Hid (((Word.parts 44 s.data.toList).map pread).all pmay = true → ¬ (Word.parts 44 s.data.toList).length ≤ 4 → C = ([], 4)) := fun h h2 => (HC.out).symm.trans (pparse_many he h h2)
    have HD3 : Hid (((Word.parts 44 s.data.toList).map pread).all pmay = true → (Word.parts 44 s.data.toList).length ≤ 4 → C = ((Word.parts 44 s.data.toList).map pread, 0)) := fun h h2 => (HC.out).symm.trans (pparse_is he h h2)
    clear HC he
    obtain ⟨i0, hi, hz0, hz1, hz2⟩ := info39
    have HI := Lib.hid (And.intro hi (And.intro hz0 (And.intro hz1 hz2)))
    clear hi hz0 hz1 hz2
    have HSp := Lib.hid (refSplit_any s 44 w (by omega))
    have HPs : Hid (∀ p ∈ Word.parts 44 s.data.toList, p.length ≤ 900) := fun p hp => by
      have := parts_small 44 _ p hp
      rw [← size_list] at this
      omega
    have hPm := parts_many 44 s.data.toList
    rw [← size_list] at hPm
    have HG : Hid (∀ k (h1 : k < (partsB 44 s).length) (h2 : k < (Word.parts 44 s.data.toList).length), (partsB 44 s)[k] = ba (Word.parts 44 s.data.toList)[k]) := fun k h1 h2 => parts_get h1 h2
    have HPl := Lib.hid (partsB_len 44 s)
    have hQ0 := partsB_pos 44 s
    generalize Word.parts 44 s.data.toList = P at *
    generalize partsB 44 s = Q at *
    go_enter Tryz.func45, Tryz.ntmps45
    go_wp2_with (first | (go_at_call 46; refine (HSp.out).mono ?_; rintro e w1 ⟨⟨v1, rfl, hr1⟩, d1⟩))
    obtain ⟨a1, c1, rfl, hc1, hl1⟩ := hr1
    obtain ⟨b1, o1, rfl, hb1, hL1⟩ := hl1 (ne_of_lt hQ0)
    have HL := Lib.hid hL1
    clear hl1 hL1 hQ0
    go_wp2_with fail
    go_loopw [4, 6] (fun out i wr => ∃ (k : Nat), k ≤ Q.length ∧ i = .int .i64 k ∧ Hid ((readk P k).all pmay = true) ∧ Hid (OwnM wr w1.heap.size out (readk P k)) ∧ Below w1.heap.size w1 wr) (fun _ i _ => Q.length - (intOf i).toNat)
    case atStart => exact ⟨0, Nat.zero_le _, rfl, rfl, ownM_nil _ _, Below.refl _ _⟩
    case round =>
      obtain ⟨k, hk, rfl, HT, HO, hbl⟩ := hrel
      have hql : Q.length ≤ 901 := by rw [HPl.out]; omega
      by_cases hlt : k < Q.length
      · have hlp : k < P.length := by rw [← HPl.out]; exact hlt
        have e1 := ((HL.out.on hb1 hbl).at k hlt)
        rw [HG.out k hlt hlp] at e1
        have i1 : (k : Int) < (Q.length : Int) := by omega
        have i2 : (0 : Int) ≤ (k : Int) := by omega
        have hbz := hbl.size
        have hpl := HPs.out _ (List.getElem_mem hlp)
        have hsz : (ba P[k]).size ≤ 100000 := by
          rw [size_list, ba_list]
          omega
        have HR := Lib.hid (refPart_any (ba P[k]) wr hsz)
        rw [ba_list] at HR
        have HK := Lib.hid (readk_next hlp)
        have hkl := readk_len P k
        rw [← HPl.out] at hkl
        have HX1 : Hid (pmay (pread P[k]) = false → C = ([], 2)) := fun h => HD1.out (may_not hlp h)
        have HX2 : Hid (pmay (pread P[k]) = true → (readk P (k + 1)).all pmay = true) := fun h => may_next hlp h HT.out
        obtain ⟨y1, y2⟩ := pread_small P[k]
        have HM := Lib.hid (fun W => mayM_any (pread P[k]) W (by omega) (by omega))
        generalize P[k] = p at *
        generalize pread p = x at *
        obtain ⟨kd, n, v⟩ := x
        unfold matV at HR
        dsimp only at HR HM
        clear HL HG HPs hsz HD1 HD2 HD3 y1 y2 hpl HT
        generalize pmay (kd, n, v) = pm at *
        cases pm
        · have HX := Lib.hid (HX1.out rfl)
          clear HX1 HX2 HO HK
          go_wp2_with fail
          refine (HR.out).mono ?_
          rintro e w2 ⟨rfl, n2⟩
          have hb2 := hbl.trans (n2.mono hbl.size)
          have hbz2 : w1.heap.size ≤ w2.heap.size := hb2.size
          clear n2 HR e1 hbl
          go_wp2_with fail
          refine (HM.out _).mono ?_
          rintro e w3 ⟨rfl, n3⟩
          have hb3 := (hb2.alloc hbz2 _).trans (n3.mono (by simp; omega))
          go_wp2_with fail
          go_ret2
          rw [HX.out]
          exact ⟨⟨_, rfl, MRow.nil _⟩, d1.trans (hb3.mono d1.size)⟩
        · have HT2 := Lib.hid (HX2.out rfl)
          clear HX1 HX2
          go_wp2_with fail
          refine (HR.out).mono ?_
          rintro e w2 ⟨rfl, n2⟩
          have hb2 := hbl.trans (n2.mono hbl.size)
          have HO2 := Lib.hid (own_on HO.out n2)
          have hbz2 : w1.heap.size ≤ w2.heap.size := hb2.size
          clear n2 HR e1 HO hbl
          go_wp2_with fail
          refine (HM.out _).mono ?_
          rintro e w3 ⟨rfl, n3⟩
          have hb3 := (hb2.alloc hbz2 _).trans (n3.mono (by simp; omega))
          have HO3 := Lib.hid (own_on (HO2.out.alloc _) n3)
          have hbz3 : w1.heap.size ≤ w3.heap.size := hb3.size
          have f0 := newC (i := 0) n3
          have f1 := newC (i := 1) n3
          have f2 := newC (i := 2) n3
          simp at f0 f1 f2
          have hlt3 : w2.heap.size < w3.heap.size := by have := n3.size; simp at this; omega
          clear n3 HM HO2 hb2
          go_wp2_with (first
            | (at_builtin; refine wpList_append_own _ rfl _ _ 22 rfl w1.heap.size 72 i0 (.agg #[.int .i64 0, .string ⟨#[]⟩, .string ⟨#[]⟩]) 3 40 Tryz.underlying22 HI.out.1 HI.out.2.1 HI.out.2.2.1 HI.out.2.2.2 rfl (by decide) _ _ _ rfl (World.ownsRow.alloc (w := w3) HO3.out _) ⟨w3.heap.size, 0, none⟩ 1 1 [Value.int .i64 kd, Value.string n, Value.string v] rfl rfl (new1M w3 kd n v) (one1M kd n v) (by unfold maxLen; omega) (by omega) (by simp; omega) ?_; intro v' w4 hown hgrow hnil))
          have HO4 := Lib.hid (ownM_next (x := (kd, n, v)) hown)
          have hb4 := ownM_below hb3 hbz3 HO3.out hgrow
          exact ⟨⟨k + 1, by omega, by go_num, HT2, by rw [HK.out]; exact HO4, hb4⟩, by simp [intOf]; omega⟩
      · have HE := Lib.hid (readk_all (P := P) (k := k) (by rw [← HPl.out]; exact hlt))
        have hr := ownM_row HO.out
        have hlen : (readk P k).length = P.length := by rw [HE.out, List.length_map]
        rw [← HE.out] at HD2 HD3
        have HLn := Lib.hid hlen
        have HT2 := HT
        clear hlen HD1 HT
        generalize readk P k = L at *
        clear HO HL HG HPs HI HE
        obtain ⟨a, c, rfl, hc, hat⟩ := hr
        have hr : MRow wr (.slice a L.length c) L := ⟨a, c, rfl, hc, hat⟩
        by_cases h4 : L.length ≤ 4
        · have HX := Lib.hid (HD3.out HT2.out (by rw [← HLn.out]; exact h4))
          clear HD2 HD3 hat HT2
          go_wp2_with fail
          go_ret2
          rw [HX.out]
          exact ⟨⟨_, rfl, hr⟩, d1.trans (hbl.mono d1.size)⟩
        · have HX := Lib.hid (HD2.out HT2.out (by rw [← HLn.out]; exact h4))
          clear HD2 HD3 hat HT2 hr
          go_wp2_with fail
          go_ret2
          rw [HX.out]
          exact ⟨⟨_, rfl, MRow.nil _⟩, d1.trans (hbl.mono d1.size)⟩
end Go.Proofs.YtfohknpjlkjbbaaGreatDoor
