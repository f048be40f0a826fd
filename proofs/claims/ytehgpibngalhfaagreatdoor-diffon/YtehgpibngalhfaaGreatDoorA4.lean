/- Carried over from earlier layers: walks and lemmas. -/
import Derived.Test.YtehgpibngalhfaaGreatDoorA3
namespace Go.Proofs.YtehgpibngalhfaaGreatDoor
open Go Go.RowKit Go.Sort Tg
open Go Go.RowKit Go.Sort Tg
theorem cutT_small {p : List UInt8} {t : Tag} (h : cutT p = some t) : t.1.size ≤ p.length ∧ t.2.size ≤ p.length := by
  unfold cutT at h
  cases hc : cutL p with
  | none => rw [hc] at h; cases h
  | some q =>
    rw [hc] at h
    have h' : ((⟨q.1.toArray⟩, ⟨q.2.toArray⟩) : Tag) = t := Option.some.inj h
    have hl := cut_len p q hc
    subst h'
    constructor
    · show q.1.toArray.size ≤ _
      simp
      omega
    · show q.2.toArray.size ≤ _
      simp
      omega
/-- The tags of the first k parts. -/
def cutk (P : List (List UInt8)) (k : Nat) : List Tag := (P.take k).filterMap cutT
theorem cutk_next {P : List (List UInt8)} {k : Nat} (hk : k < P.length) {t : Tag} (h : cutT P[k] = some t) : cutk P (k + 1) = cutk P k ++ [t] := by
  unfold cutk
  rw [List.take_succ_eq_append_getElem hk, List.filterMap_append]
  congr 1
  simp [h]
theorem cutk_len (P : List (List UInt8)) (k : Nat) : (cutk P k).length ≤ P.length := by
  have h1 : (cutk P k).length ≤ (P.take k).length := List.length_filterMap_le _ _
  have h2 : (P.take k).length ≤ P.length := List.length_take_le' _ _
  omega
theorem cutk_small {P : List (List UInt8)} {k B : Nat} (hB : ∀ p ∈ P, p.length ≤ B) : ∀ x ∈ cutk P k, x.1.size ≤ B ∧ x.2.size ≤ B := by
  intro x hx
  obtain ⟨p, hp, he⟩ := List.mem_filterMap.1 hx
  have h1 := hB p (List.mem_of_mem_take hp)
  have h2 := cutT_small he
  omega
def cutAll (P : List (List UInt8)) (k : Nat) : Bool := (P.take k).all fun p => (cutT p).isSome
theorem cutAll_next {P : List (List UInt8)} {k : Nat} (hk : k < P.length) {t : Tag} (h : cutT P[k] = some t) (ha : cutAll P k = true) : cutAll P (k + 1) = true := by
  unfold cutAll at ha ⊢
  rw [List.take_succ_eq_append_getElem hk, List.all_append, ha]
  simp [h]
theorem cuts_not {P : List (List UInt8)} {k : Nat} (hk : k < P.length) (h : cutT P[k] = none) : cuts P = none := by
  unfold cuts
  rw [if_neg]
  intro ha
  have := List.all_eq_true.1 ha _ (List.getElem_mem hk)
  rw [h] at this
  cases this
theorem cuts_all {P : List (List UInt8)} {k : Nat} (hk : ¬ k < P.length) (ha : cutAll P k = true) : cuts P = some (cutk P k) := by
  unfold cutAll at ha
  unfold cuts cutk
  rw [List.take_of_length_le (by omega)] at ha ⊢
  rw [ha, if_pos rfl]
theorem two_none {p : List UInt8} (h : cutT p = none) : (partsB 61 (ba p)).length = 1 := by
  have h2 : cutL p = none := by
    unfold cutT at h
    cases hc : cutL p with
    | none => rfl
    | some q => rw [hc] at h; cases h
  have h3 := cut_parts p
  rw [h2] at h3
  rw [partsB_len, ba_list, h3]
  rfl
theorem two_some {p : List UInt8} {t : Tag} (h : cutT p = some t) : partsB 61 (ba p) = t.1 :: partsB 61 t.2 := by
  unfold cutT at h
  cases hc : cutL p with
  | none => rw [hc] at h; cases h
  | some q =>
    rw [hc] at h
    have h' : ((⟨q.1.toArray⟩, ⟨q.2.toArray⟩) : Tag) = t := Option.some.inj h
    have h3 := cut_parts p
    rw [hc] at h3
    have h4 : Word.parts 61 p = q.1 :: Word.parts 61 q.2 := h3
    unfold partsB
    rw [ba_list, h4, List.map_cons]
    subst h'
    simp [ba]
set_option maxRecDepth 100000 in
set_option maxHeartbeats 1000000 in
theorem refSplit_own (s : ByteArray) (c : UInt8) (w : World) (hs : s.size ≤ 1000000) :
    Calls Tryz.prog 42 #[.string s, .int .u8 (c.toNat : Int)] w fun e w' => (∃ v, e = .returned v ∧ Own w' w.heap.size v (partsB c s)) ∧ Below w.heap.size w w' := by
  obtain ⟨i0, hi, hz0, hz1, hz2⟩ := info9
  have HI := Lib.hid (And.intro hi (And.intro hz0 (And.intro hz1 hz2)))
  clear hi hz0 hz1 hz2
  go_enter Tryz.func42, Tryz.ntmps42
  go_wp2
  go_loopw [5, 6, 7] (fun out fr i wr => ∃ (k f : Nat) (done : List ByteArray), f ≤ k ∧ k ≤ s.size ∧ done.length ≤ k ∧ fr = .int .i64 f ∧ i = .int .i64 k ∧ Hid (Own wr w.heap.size out done) ∧ Hid (Split c s f k done) ∧ Below w.heap.size w wr) (fun _ _ i _ => s.size - (intOf i).toNat)
  case atStart => exact ⟨0, 0, [], Nat.le_refl _, Nat.zero_le _, Nat.le_refl _, rfl, rfl, World.ownsRow_nil _ _ _ _, split_start c s, Below.refl _ _⟩
  case round =>
    obtain ⟨k, f, done, hf, hk, hdn, rfl, rfl, HO, HS, hb⟩ := hrel
    by_cases hlt : k < s.size
    · by_cases hc : s[k] = c
      · have hq : (((s[k]).toNat : Int) == (c.toNat : Int)) = true := by rw [hc]; simp
        have HS2 := Lib.hid (split_hit HS.out hlt hc)
        have hbz := hb.size
        clear HS hc
        go_wp2_with (first | (at_builtin; refine wpList_append_own _ rfl _ _ 51 rfl w.heap.size 9 i0 (.string ⟨#[]⟩) 1 16 Tryz.underlying51 HI.out.1 HI.out.2.1 HI.out.2.2.1 HI.out.2.2.2 rfl (by decide) _ _ _ rfl (HO.out.alloc _) ⟨wr.heap.size, 0, none⟩ 1 1 [Value.string (s.extract f k)] rfl rfl (new1 wr _) (one1 _) (by unfold maxLen; omega) (by omega) (by simp; omega) ?_; intro v' w2 hown hgrow hnil))
        have HO2 := Lib.hid (own_next hown)
        have hb2 := own_below hb hbz HO.out hgrow
        clear hown hgrow hnil HO hb
        go_wp2_with fail
        exact ⟨⟨k + 1, k + 1, _, by omega, by omega, by simp; omega, by go_num, by go_num, HO2, HS2, hb2⟩, by simp [intOf]; omega⟩
      · have hq := byte_ne hc
        have HS2 := Lib.hid (split_miss HS.out hf hlt hc)
        clear HS hc
        go_wp2_with fail
        exact ⟨⟨k + 1, f, done, by omega, by omega, by omega, rfl, by go_num, HO, HS2, hb⟩, by simp [intOf]; omega⟩
    · have HE := Lib.hid (split_end HS.out (by omega))
      have hbz := hb.size
      clear HS
      go_wp2_with (first | (at_builtin; refine wpList_append_own _ rfl _ _ 51 rfl w.heap.size 9 i0 (.string ⟨#[]⟩) 1 16 Tryz.underlying51 HI.out.1 HI.out.2.1 HI.out.2.2.1 HI.out.2.2.2 rfl (by decide) _ _ _ rfl (HO.out.alloc _) ⟨wr.heap.size, 0, none⟩ 1 1 [Value.string (s.extract f s.size)] rfl rfl (new1 wr _) (one1 _) (by unfold maxLen; omega) (by omega) (by simp; omega) ?_; intro v' w2 hown hgrow hnil))
      have hr := own_next hown
      have hb2 := own_below hb hbz HO.out hgrow
      rw [HE.out] at hr
      clear hown hgrow hnil HO hb HE
      go_wp2_with fail
      go_ret
      exact ⟨⟨_, rfl, hr⟩, hb2⟩
set_option maxRecDepth 100000 in
set_option maxHeartbeats 2000000 in
theorem refParse_any (s : ByteArray) (w : World) (hs : s.size ≤ 900) :
    Calls Tryz.prog 60 #[.string s] w fun e w' => (∃ v', e = .returned (.tuple #[v', .int .i64 (parse s.data.toList).2]) ∧ TRow w' v' (parse s.data.toList).1) ∧ Below w.heap.size w w' := by
  obtain ⟨C, HC⟩ : ∃ C, Hid (parse s.data.toList = C) := ⟨_, rfl⟩
  rw [HC.out]
  by_cases he : s.data.toList = []
  · have hq : (s.toList == ([] : List UInt8)) = true := by rw [ByteArray.toList_eq, he]; rfl
    have hq2 : s.toList.isEmpty = true := by rw [ByteArray.toList_eq, he]; rfl
    have hq3 : s.toList = [] := by rw [ByteArray.toList_eq, he]
    have HD : Hid (C = ([], 0)) := by
      show C = _
      rw [← HC.out]
      unfold parse
      rw [if_pos he]
    clear HC he
    go_enter Tryz.func60, Tryz.ntmps60
    go_wp2_with fail
    go_ret2
    rw [HD.out]
    exact ⟨⟨_, rfl, TRow.nil _⟩, Below.refl _ _⟩
  · have hq2 : s.toList.isEmpty = false := by
      rw [ByteArray.toList_eq]
      cases hx : s.data.toList with
      | nil => exact absurd hx he
      | cons a r => rfl
    have hq : (s.toList == ([] : List UInt8)) = false := by
      rw [ByteArray.toList_eq]
      cases hx : s.data.toList with
      | nil => exact absurd hx he
      | cons a r => rfl
    have HD : Hid (C = match cuts (Word.parts 44 s.data.toList) with | none => ([], 2) | some l => canon l) := by
      show C = _
      rw [← HC.out]
      unfold parse
      rw [if_neg he]
      rfl
    clear HC he
    obtain ⟨i0, hi, hz0, hz1, hz2⟩ := info41
    have HI := Lib.hid (And.intro hi (And.intro hz0 (And.intro hz1 hz2)))
    clear hi hz0 hz1 hz2
    have HSp := Lib.hid (refSplit_any s 44 w (by omega))
    have HPs : Hid (∀ p ∈ Word.parts 44 s.data.toList, p.length ≤ 900) := fun p hp => by
      have := parts_small 44 _ p hp
      rw [← size_list] at this
      omega
    have hPm := parts_many 44 s.data.toList
    rw [← size_list] at hPm
    have HG : Hid (∀ k (h1 : k < (partsB 44 s).length) (h2 : k < (Word.parts 44 s.data.toList).length), (partsB 44 s)[k] = ba (Word.parts 44 s.data.toList)[k]) := fun k h1 h2 => parts_get h1 h2
    have HPl := Lib.hid (partsB_len 44 s)
    have hQ0 := partsB_pos 44 s
    generalize Word.parts 44 s.data.toList = P at *
    generalize partsB 44 s = Q at *
    go_enter Tryz.func60, Tryz.ntmps60
    go_wp2_with (first | (go_at_call 42; refine (HSp.out).mono ?_; rintro e w1 ⟨⟨v1, rfl, hr1⟩, d1⟩))
    obtain ⟨a1, c1, rfl, hc1, hl1⟩ := hr1
    obtain ⟨b1, o1, rfl, hb1, hL1⟩ := hl1 (ne_of_lt hQ0)
    have HL := Lib.hid hL1
    clear hl1 hL1 hQ0
    go_wp2_with fail
    go_loopw [4, 6] (fun out i wr => ∃ (k : Nat), k ≤ Q.length ∧ i = .int .i64 k ∧ Hid (cutAll P k = true) ∧ Hid (OwnT wr w1.heap.size out (cutk P k)) ∧ Below w1.heap.size w1 wr) (fun _ i _ => Q.length - (intOf i).toNat)
    case atStart => exact ⟨0, Nat.zero_le _, rfl, rfl, ownT_nil _ _, Below.refl _ _⟩
    case round =>
      obtain ⟨k, hk, rfl, HT, HO, hbl⟩ := hrel
      have hql : Q.length ≤ 901 := by rw [HPl.out]; omega
      by_cases hlt : k < Q.length
      · have hlp : k < P.length := by rw [← HPl.out]; exact hlt
        have e1 := ((HL.out.on hb1 hbl).at k hlt)
        rw [HG.out k hlt hlp] at e1
        have i1 : (k : Int) < (Q.length : Int) := by omega
        have i2 : (0 : Int) ≤ (k : Int) := by omega
        have hbz := hbl.size
        have hpl := HPs.out _ (List.getElem_mem hlp)
        have hsz : (ba P[k]).size ≤ 1000000 := by
          rw [size_list, ba_list]
          omega
        have HCt := Lib.hid (refSplit_own (ba P[k]) 61 wr hsz)
        have hkl := cutk_len P k
        rw [← HPl.out] at hkl
        cases hc : cutT P[k] with
        | none =>
          have HCe := Lib.hid (two_none hc)
          have HX : Hid (C = ([], 2)) := by
            show C = _
            rw [HD.out, cuts_not hlp hc]
          generalize P[k] = p at *
          clear hc HD HT HO HL HG HPs
          go_wp2_with fail
          refine (HCt.out).mono ?_
          rintro e w2 ⟨⟨v2, rfl, hr2⟩, n2⟩
          obtain ⟨a2, c2, hv2, hc2, hl2⟩ := own_row hr2
          rw [HCe.out] at hv2
          subst hv2
          clear hl2
          go_wp2_with fail
          go_ret2
          rw [HX.out]
          exact ⟨⟨_, rfl, TRow.nil _⟩, d1.trans ((hbl.trans (n2.mono hbl.size)).mono d1.size)⟩
        | some t =>
          have HTw := Lib.hid (two_some hc)
          have HT2 := Lib.hid (cutAll_next hlp hc HT.out)
          have HK := Lib.hid (cutk_next hlp hc)
          have hR := partsB_pos 61 t.2
          have HRl : Hid ((partsB 61 t.2).length ≤ 901) := by
            have h1 := parts_le 61 t.2
            have h2 := (cutT_small hc).2
            show _ ≤ _
            omega
          have HJn : Hid (joinB ⟨#[61]⟩ (partsB 61 t.2) = t.2) := joined_parts t.2 61
          have HJz : Hid (t.2.size ≤ 1000) := by
            have h2 := (cutT_small hc).2
            show _ ≤ _
            omega
          generalize P[k] = p at *
          clear hc HT HL HG HPs
          go_wp2_with fail
          refine (HCt.out).mono ?_
          rintro e w2 ⟨⟨v2, rfl, hr2⟩, n2⟩
          rw [HTw.out] at hr2
          generalize partsB 61 t.2 = R at *
          obtain ⟨b2, c2, rfl, hc2, hnew, hb2, hL2⟩ := own_text hr2 (by simp)
          have f0 : w2.cell? ⟨b2, 0, none⟩ = some (.string t.1) := hL2 0 t.1 rfl
          obtain ⟨N, hN⟩ : ∃ N, (t.1 :: R).length = N := ⟨_, rfl⟩
          have HN : Hid (N = R.length + 1) := by show _ = _; rw [← hN]; simp
          have hN2 : 2 ≤ N := by rw [HN.out]; omega
          rw [hN] at hc2
          have hrow : Row w2 (.slice (some ⟨b2, 1, none⟩) (N - 1) (c2 - 1)) R := by
            have hNe : N - 1 = R.length := by rw [HN.out]; omega
            refine ⟨some ⟨b2, 1, none⟩, c2 - 1, by rw [hNe], by omega, fun _ => ⟨b2, 1, rfl, hb2, ?_⟩⟩
            intro j x hx
            have := hL2 (j + 1) x (by simpa using hx)
            rw [show 1 + j = 0 + (j + 1) from by omega]
            exact this
          have HJ : Hid (∀ W', W'.heap = w2.heap → Calls Tryz.prog 34 #[.string ⟨#[61]⟩, .slice (some ⟨b2, 1, none⟩) (N - 1) (c2 - 1)] W' fun e w' => e = .returned (.string t.2) ∧ w' = W') := by
            intro W' hW'
            have h := refJoin_any _ R ⟨#[61]⟩ W' (row_heap hrow hW') (by have := HRl.out; omega) (by rw [HJn.out]; have := HJz.out; omega)
            rw [HJn.out] at h
            exact h
          have HO3 := Lib.hid (own_on HO.out n2)
          rw [hN]
          have hbz2 : w1.heap.size ≤ w2.heap.size := by have := n2.size; omega
          have hb3 := hbl.trans (n2.mono hbl.size)
          have i3 : (2 : Int) ≤ (N : Int) := by omega
          have i4 : (N : Int) ≤ (c2 : Int) := by omega
          have i5 : ¬ c2 = 1 := by omega
          have i6 : (0 : Int) < (N : Int) := by omega
          have i7 : (1 : Int) ≤ (N : Int) := by omega
          have i8 : 0 < N := by omega
          have hnb : some b2 ≠ u4.ownBlock := fun e => by
            have := (HO.out.lt b2 e.symm).2
            omega
          clear hL2 hrow hN HTw HCt e1
          go_wp2_with fail
          go_region_held3 (fun w' => w'.cell? ⟨b2, 0, none⟩ = some (.string t.1))
            (first
              | assumption
              | exact far1 hgrow hb2 hnb f0
              | exact far2 hgrow rfl hnb (by assumption)
              | (rw [hgrow.cell_far _ (by simp; omega) hnb]; simp; assumption)
              | go_keep)
            (first
              | (go_at_call 34; refine (HJ.out w2.drew rfl).mono ?_; rintro e w3 ⟨rfl, rfl⟩)
              | (refine step_append_own _ (by rfl) _ _ _ (by rfl) w1.heap.size 95 i0 _ 2 32 Tryz.underlying82 HI.out.1 HI.out.2.1 HI.out.2.2.1 HI.out.2.2.2 rfl (by omega) u4 (cutk P k).length (flat (cutk P k)) (by rfl) (by exact HO3.out.alloc _) ⟨w2.heap.size, 0, none⟩ 1 1 [.string t.1, .string t.2] (by rfl) (by rfl) (World.news_of_block (cs := #[.string t.1, .string t.2]) (t := 95) (fr := (0, 0)) (heap_alloc_new _ _)) (one1T t) (by unfold maxLen; omega) (by omega) (by simp; omega) ?_; intro v5 w5 hown hgrow hnil)
              | fail)
          have HO5 := Lib.hid (ownT_next hown)
          have hb5 : Below w1.heap.size w1 w5 := ((hb3.alloc hbz2 _).drew).grown hgrow (by simp; omega) (fun k hk => (HO3.out.lt k hk).1)
          clear hown hgrow hnil HO HO3
          go_wp2_with fail
          exact ⟨⟨k + 1, by omega, by go_num, HT2, by rw [HK.out]; exact HO5, hb5⟩, by simp [intOf]; omega⟩
      · have HX : Hid (C = canon (cutk P k)) := by
          show C = _
          rw [HD.out, cuts_all (by rw [← HPl.out]; exact hlt) HT.out]
        have hr := ownT_row HO.out
        have HSm : Hid (∀ x ∈ cutk P k, x.1.size ≤ 281474976710656 ∧ x.2.size ≤ 281474976710656) := fun x hx => by
          have := cutk_small HPs.out x hx
          omega
        have hkl := cutk_len P k
        rw [← HPl.out] at hkl
        generalize cutk P k = L at *
        clear HD HT HO HL HG HPs HI
        go_wp2_with (first | (go_at_call 77; refine (refCanon_any _ L _ hr (by omega) HSm.out).mono ?_; rintro e w3 ⟨⟨v3, rfl, hr3⟩, n3⟩))
        go_ret2
        rw [HX.out]
        exact ⟨⟨_, rfl, hr3⟩, d1.trans ((hbl.trans (n3.mono hbl.size)).mono d1.size)⟩
end Go.Proofs.YtehgpibngalhfaaGreatDoor
namespace Go.Proofs.YtehgpibngalhfaaGreatDoor
open Go Go.RowKit Go.Sort Tg
theorem cut_none {p : List UInt8} (h : cutT p = none) : Lib.cut p [61] = (p, [], false) := by
  have h2 : cutL p = none := by
    unfold cutT at h
    cases hc : cutL p with
    | none => rfl
    | some q => rw [hc] at h; cases h
  rw [cut_eq, h2]
theorem cut_some {p : List UInt8} {t : Tag} (h : cutT p = some t) : (⟨(Lib.cut p [61]).1.toArray⟩ : ByteArray) = t.1 ∧ (⟨(Lib.cut p [61]).2.1.toArray⟩ : ByteArray) = t.2 ∧ (Lib.cut p [61]).2.2 = true := by
  unfold cutT at h
  cases hc : cutL p with
  | none => rw [hc] at h; cases h
  | some q =>
    rw [hc] at h
    have h' : ((⟨q.1.toArray⟩, ⟨q.2.toArray⟩) : Tag) = t := Option.some.inj h
    rw [cut_eq, hc]
    subst h'
    exact ⟨rfl, rfl, rfl⟩
set_option maxRecDepth 100000 in
set_option maxHeartbeats 1000000 in
theorem parse_any (s : ByteArray) (w : World) (hE : Env w) (hs : s.size ≤ 900) :
    Calls Tryz.prog 63 #[.string s] w fun e w' => (∃ v', e = .returned (.tuple #[v', .int .i64 (parse s.data.toList).2]) ∧ TRow w' v' (parse s.data.toList).1) ∧ Below w.heap.size w w' := by
  obtain ⟨C, HC⟩ : ∃ C, Hid (parse s.data.toList = C) := ⟨_, rfl⟩
  rw [HC.out]
  by_cases he : s.data.toList = []
  · have hq : (s.toList == ([] : List UInt8)) = true := by rw [ByteArray.toList_eq, he]; rfl
    have hq2 : s.toList.isEmpty = true := by rw [ByteArray.toList_eq, he]; rfl
    have hq3 : s.toList = [] := by rw [ByteArray.toList_eq, he]
    have HD : Hid (C = ([], 0)) := by
      show C = _
      rw [← HC.out]
      unfold parse
      rw [if_pos he]
    clear HC he
    go_enter Tryz.func63, Tryz.ntmps63
    go_wp2_with fail
    go_ret2
    rw [HD.out]
    exact ⟨⟨_, rfl, TRow.nil _⟩, Below.refl _ _⟩
  · have hq2 : s.toList.isEmpty = false := by
      rw [ByteArray.toList_eq]
      cases hx : s.data.toList with
      | nil => exact absurd hx he
      | cons a r => rfl
    have hq : (s.toList == ([] : List UInt8)) = false := by
      rw [ByteArray.toList_eq]
      cases hx : s.data.toList with
      | nil => exact absurd hx he
      | cons a r => rfl
    have HD : Hid (C = match cuts (Word.parts 44 s.data.toList) with | none => ([], 2) | some l => canon l) := by
      show C = _
      rw [← HC.out]
      unfold parse
      rw [if_neg he]
      rfl
    clear HC he
    obtain ⟨i0, hi, hz0, hz1, hz2⟩ := info41
    have HI := Lib.hid (And.intro hi (And.intro hz0 (And.intro hz1 hz2)))
    clear hi hz0 hz1 hz2
    have HSp := Lib.hid (split_any s 44 w hE (by omega))
    have hL := splitW_lies 44 s w
    have d1 := splitW_below 44 s w
    have hz := splitW_size 44 s w
    have hE1 := hE.go d1
    have HPs : Hid (∀ p ∈ Word.parts 44 s.data.toList, p.length ≤ 900) := fun p hp => by
      have := parts_small 44 _ p hp
      rw [← size_list] at this
      omega
    have hPm := parts_many 44 s.data.toList
    rw [← size_list] at hPm
    have HG : Hid (∀ k (h1 : k < (partsB 44 s).length) (h2 : k < (Word.parts 44 s.data.toList).length), (partsB 44 s)[k] = ba (Word.parts 44 s.data.toList)[k]) := fun k h1 h2 => parts_get h1 h2
    have HPl := Lib.hid (partsB_len 44 s)
    generalize splitW 44 s w = w1 at *
    generalize Word.parts 44 s.data.toList = P at *
    generalize partsB 44 s = Q at *
    have HL := Lib.hid hL
    clear hL hE
    go_enter Tryz.func63, Tryz.ntmps63
    go_wp2_with (first | (go_at_call 78; refine (HSp.out).mono ?_; rintro e w' ⟨rfl, hw⟩; have hw := hw.symm; subst hw))
    go_loopw [4, 15] (fun out i wr => ∃ (k : Nat), k ≤ Q.length ∧ i = .int .i64 k ∧ Hid (cutAll P k = true) ∧ Hid (OwnT wr w1.heap.size out (cutk P k)) ∧ Below w1.heap.size w1 wr) (fun _ i _ => Q.length - (intOf i).toNat)
    case atStart => exact ⟨0, Nat.zero_le _, rfl, rfl, ownT_nil _ _, Below.refl _ _⟩
    case round =>
      obtain ⟨k, hk, rfl, HT, HO, hbl⟩ := hrel
      have hql : Q.length ≤ 901 := by rw [HPl.out]; omega
      by_cases hlt : k < Q.length
      · have hlp : k < P.length := by rw [← HPl.out]; exact hlt
        have e1 := ((HL.out.on (by omega) hbl).at k hlt)
        rw [HG.out k hlt hlp, Nat.zero_add] at e1
        have i1 : (k : Int) < (Q.length : Int) := by omega
        have i2 : (0 : Int) ≤ (k : Int) := by omega
        have hbz := hbl.size
        obtain ⟨m, hm⟩ := hE1.go hbl
        have hsz : (ba P[k]).size < 4294967281 := by
          have := HPs.out _ (List.getElem_mem hlp)
          rw [size_list, ba_list]
          omega
        have HCt := Lib.hid (Tryz.strings_Cut (ba P[k]) ⟨#[61]⟩ m wr hsz hm)
        rw [ba_list] at HCt
        have hkl := cutk_len P k
        rw [← HPl.out] at hkl
        cases hc : cutT P[k] with
        | none =>
          have HCe := Lib.hid (cut_none hc)
          have HCt := Lib.hid HCt.out
          rw [show (⟨#[61]⟩ : ByteArray).data.toList = [61] from rfl, HCe.out] at HCt
          have HX : Hid (C = ([], 2)) := by
            show C = _
            rw [HD.out, cuts_not hlp hc]
          generalize P[k] = p at *
          clear hc HD HT HO HL HG HPs hm HCe
          go_wp2_with (first | (go_at_call 79; refine (HCt.out).mono ?_; rintro e w2 ⟨rfl, q, rfl⟩))
          go_ret2
          rw [HX.out]
          exact ⟨⟨_, rfl, TRow.nil _⟩, d1.trans ((below_drewN hbl q).mono d1.size)⟩
        | some t =>
          obtain ⟨c1, c2, c3⟩ := cut_some hc
          have HCt := Lib.hid HCt.out
          rw [show (⟨#[61]⟩ : ByteArray).data.toList = [61] from rfl, c1, c2, c3] at HCt
          have HT2 := Lib.hid (cutAll_next hlp hc HT.out)
          have HK := Lib.hid (cutk_next hlp hc)
          generalize P[k] = p at *
          clear hc HT HL HG HPs hm c1 c2 c3
          go_wp2_with (first
            | (go_at_call 79; refine (HCt.out).mono ?_; rintro e w2 ⟨rfl, q, rfl⟩)
            | (at_builtin; refine wpList_append_own _ rfl _ _ 82 rfl w1.heap.size 95 i0 (.agg #[.string ⟨#[]⟩, .string ⟨#[]⟩]) 2 32 Tryz.underlying82 HI.out.1 HI.out.2.1 HI.out.2.2.1 HI.out.2.2.2 rfl (by decide) _ _ _ rfl (World.ownsRow.alloc (w := wr.drewN _) HO.out _) ⟨wr.heap.size, 0, none⟩ 1 1 [Value.string t.1, Value.string t.2] rfl rfl (new1T (wr.drewN _) t) (one1T t) (by unfold maxLen; omega) (by omega) (by simp; omega) ?_; intro v' w2 hown hgrow hnil))
          have HO2 := Lib.hid (ownT_next hown)
          have hb2 := ownT_below (below_drewN hbl _) hbz HO.out hgrow
          exact ⟨⟨k + 1, by omega, by go_num, HT2, by rw [HK.out]; exact HO2, hb2⟩, by simp [intOf]; omega⟩
      · have HX : Hid (C = canon (cutk P k)) := by
          show C = _
          rw [HD.out, cuts_all (by rw [← HPl.out]; exact hlt) HT.out]
        have hr := ownT_row HO.out
        have HSm : Hid (∀ x ∈ cutk P k, x.1.size ≤ 281474976710656 ∧ x.2.size ≤ 281474976710656) := fun x hx => by
          have := cutk_small HPs.out x hx
          omega
        have hkl := cutk_len P k
        rw [← HPl.out] at hkl
        generalize cutk P k = L at *
        clear HD HT HO HL HG HPs HI
        go_wp2_with (first | (go_at_call 80; refine (canon_any _ L _ hr (by omega) HSm.out).mono ?_; rintro e w3 ⟨⟨v3, rfl, hr3⟩, n3⟩))
        go_ret2
        rw [HX.out]
        exact ⟨⟨_, rfl, hr3⟩, d1.trans ((hbl.trans (n3.mono hbl.size)).mono d1.size)⟩
end Go.Proofs.YtehgpibngalhfaaGreatDoor
