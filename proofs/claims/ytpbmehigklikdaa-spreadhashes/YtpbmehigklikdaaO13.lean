/- The program's own parts of texts. -/
import Derived.Test.YtpbmehigklikdaaP13
import Derived.Test.YtpbmehigklikdaaO12
namespace Go.Proofs.Ytpbmehigklikdaa.Sp
open Go Go.RowKit

set_option maxRecDepth 100000 in
set_option maxHeartbeats 4000000 in
theorem parts_own (v : Value) (l : List ByteArray) (n : Int) (w : World) (h : TRow w v l) (hn : l.length ≤ 1000000) (hz : ∀ s ∈ l, s.size ≤ 1000000) (hn1 : -9223372036854775808 ≤ n) (hn2 : n ≤ 9223372036854775807) :
    Calls Try.prog 13 #[.int .i64 n, v] w fun e w' => (∃ v', e = .returned v' ∧ PRow w' v' (partsOf n l)) ∧ Below w.heap.size w w' := by
  obtain ⟨j0, hi, hz0, hz1, hz2⟩ := info9s
  have HI := Lib.hid (And.intro hi (And.intro hz0 (And.intro hz1 hz2)))
  clear hi hz0 hz1 hz2
  obtain ⟨j1, hi, hz0, hz1, hz2⟩ := info27s
  have HJ := Lib.hid (And.intro hi (And.intro hz0 (And.intro hz1 hz2)))
  clear hi hz0 hz1 hz2
  obtain ⟨a, c, rfl, hc, hl⟩ := h
  have HA := Lib.hid hl
  have HZ := Lib.hid (fun k (hk : k < l.length) => hz _ (List.getElem_mem hk))
  have HC := Lib.hid (count_own n w hn1 hn2)
  obtain ⟨m, hm⟩ : ∃ m, shardsOf n = m := ⟨_, rfl⟩
  have hm1 : 1 ≤ m := by rw [← hm]; exact shardsOf_one n
  have hm4 : m ≤ 4 := by rw [← hm]; exact shardsOf_le n
  have HSH : Hid (shardsOf n = m) := hm
  rw [hm] at HC
  obtain ⟨PS, HPS⟩ : ∃ PS, Hid (partsOf n l = PS) := ⟨_, rfl⟩
  rw [HPS.out]
  clear hl hz hm
  go_enter Try.func13, Try.ntmps13
  go_wp2_with fail
  refine (HC.out).mono ?_
  rintro e w' ⟨rfl, rfl⟩
  go_wp2_with (first | (at_make; refine wpList_make_full _ rfl _ _ 29 rfl w'.heap.size 27 j1 (.slice none 0 0) 1 Try.underlying29 HJ.out.1 HJ.out.2.1 HJ.out.2.2.1 .i64 .i64 _ _ m rfl rfl rfl rfl (by rw [HJ.out.2.2.2]; omega) (by unfold maxLen; omega) (Nat.le_refl _) ?_; intro w0 hown0 hgrow0))
  have HS0 : Hid (POwn w'.heap.size w0 w'.heap.size (List.replicate m (.slice none 0 0, []))) := POwn.start (made_row hown0)
  have HL0 : Hid ((List.replicate m ((.slice none 0 0 : Value), ([] : List ByteArray))).length = m) := by show _ = _; simp
  have HP0 : Hid ((List.replicate m ((.slice none 0 0 : Value), ([] : List ByteArray))).map (·.2) = partsOf n (l.take 0)) := by show _ = _; rw [List.take_zero, parts_nil, HSH.out]; simp
  have HB0 : Hid (Below w'.heap.size w' w0) := (Below.refl _ w').grown hgrow0 (Nat.le_refl _) (fun k hk => by cases hk)
  clear hown0 hgrow0
  go_loopw [14] (fun i wr => ∃ (k : Nat) (rs : List (Value × List ByteArray)), k ≤ l.length ∧ i = .int .i64 k ∧ Hid (POwn w'.heap.size wr w'.heap.size rs) ∧ Hid (rs.length = m) ∧ Hid (rs.map (·.2) = partsOf n (l.take k)) ∧ Hid (Below w'.heap.size w' wr)) (fun i _ => l.length - (intOf i).toNat)
  case atStart => exact ⟨0, _, Nat.zero_le _, rfl, HS0, HL0, HP0, HB0⟩
  case round =>
    obtain ⟨k, rs, hk, rfl, HPO, HRL, HRP, HD⟩ := hrel
    clear HS0 HL0 HP0 HB0
    by_cases hlt : k < l.length
    · obtain ⟨b, o, rfl, hb, hL⟩ := HA.out (ne_of_lt hlt)
      have e1 := t_at (hL.on hb HD.out) k hlt
      have i1 : (k : Int) < (l.length : Int) := by omega
      have i2 : (0 : Int) ≤ (k : Int) := by omega
      have hz := HZ.out k hlt
      have HOF := Lib.hid (fun W => of_own l[k] n W (by omega) hn1 hn2)
      have HNX := Lib.hid (parts_next n l k hlt)
      have hs1 := shardOf_lt l[k] n
      rw [HSH.out] at hs1
      generalize l[k] = s at *
      generalize shardOf s n = K at *
      have hKr : K < rs.length := by rw [HRL.out]; exact hs1
      have c1 := HPO.out.cell K hKr
      have f1 := HPO.out.free K
      have HOW := Lib.hid (HPO.out.own _ (List.getElem_mem hKr))
      have HST := Lib.hid (fun (W w' : World) (g cap : Nat) (n : Below wr.heap.size wr W) hH ho hg hat => HPO.out.step (W := W) (w' := w') (g := g) (cap := cap) (H := wr.heap.size + 1) (s := s) hKr (Nat.le_refl _) n hH ho hg hat)
      have HPK := Lib.hid (fun (W w' : World) (n : Below wr.heap.size wr W) (hg : W.grownBy w' (rs[K]).1.ownBlock) => HPO.out.kept hKr n hg)
      have HSE := Lib.hid (set_parts (n := n) (l := l.take k) (s := s) (rs := rs) hKr HRP.out)
      obtain ⟨r, hr⟩ : ∃ r, rs[K] = r := ⟨_, rfl⟩
      rw [hr] at c1 HOW HST HPK HSE
      obtain ⟨rv, rL⟩ := r
      simp only at c1 HOW HST HPK HSE
      obtain ⟨ra, rc, hrv, hrc⟩ := own_slice HOW.out
      subst hrv
      have hrl : rL.length ≤ l.length := HSE.out.1 ▸ Nat.le_trans (part_len _ _ _) (by rw [List.length_take]; omega)
      have i3 : (K : Int) < (m : Int) := by omega
      have i4 : (0 : Int) ≤ (K : Int) := by omega
      have HOW2 := Lib.hid (own_on HOW.out (aBelow wr (.cells #[.string s] 9)))
      have HN1 := Lib.hid (new_txt wr s)
      have dA := Lib.hid (aBelow wr (.cells #[.string s] 9))
      have hPz : w'.heap.size < wr.heap.size := HPO.out.lt
      clear hL hb hr HA
      go_wp2_with fail
      refine (HOF.out _).mono ?_
      rintro e w1 ⟨rfl, rfl⟩
      go_wp2_with (at_builtin; refine wpList_append_lies _ rfl _ _ 27 rfl w'.heap.size 9 j0 (.string ⟨#[]⟩) 1 16 Try.underlying27 HI.out.1 HI.out.2.1 HI.out.2.2.1 HI.out.2.2.2 rfl (by decide) (.slice ra rL.length rc) rL.length (flatG txtC rL) rfl HOW2.out ⟨w1.heap.size, 0, none⟩ 1 1 [.string s] rfl rfl HN1.out (by intro u hu; simp at hu; subst hu; rfl) (by decide) (by unfold maxLen; omega) (by omega) (by have := dA.out.size; simp; omega) (w1.heap.size + 1) (by simp) ?_; intro g cap w' hown hgrow hat hgl; have HX := Lib.hid (And.intro hown (And.intro hgrow hat)); have ck := HPK.out _ w' dA.out hgrow; have ck1 := ck.1; have ck2 := ck.2; clear hown hgrow hat hgl ck)
      all_goals (obtain ⟨s1, s2⟩ := HST.out _ _ _ _ dA.out (by simp) HX.out.1 HX.out.2.1 HX.out.2.2)
      all_goals (have S1 := Lib.hid s1)
      all_goals (have S2 := Lib.hid (HD.out.trans (s2.mono (Nat.le_refl _))))
      all_goals (clear s1 s2 HST HPK HX ck1 ck2 HOW HOW2 HN1 dA)
      all_goals (exact ⟨⟨k + 1, _, by omega, by go_num, S1, by show _ = _; rw [List.length_set]; exact HRL.out, by show _ = _; rw [HSE.out.2, HNX.out], S2⟩, by simp [intOf]; omega⟩)
    · have i1 : ¬ (k : Int) < (l.length : Int) := by omega
      have HT : Hid (rs.map (·.2) = PS) := HRP.out.trans (by rw [List.take_of_length_le (by omega)]; exact HPS.out)
      have HV := Lib.hid (HPO.out.prow (Nat.le_of_eq HRL.out))
      rw [HT.out] at HV
      rw [HRL.out] at HV
      go_wp2_with fail
      go_ret
      exact ⟨⟨_, rfl, HV.out⟩, HD.out⟩

theorem own12 : Own12 where
  hash s w h := (hash_own s w (by omega)).mono fun _ _ ⟨he, hw⟩ => ⟨he, hw ▸ Below.refl _ _⟩
  of s n w h h1 h2 := (of_own s n w (by omega) h1 h2).mono fun _ _ ⟨he, hw⟩ => ⟨he, hw ▸ Below.refl _ _⟩
  parts v l n w h hn hz h1 h2 := parts_own v l n w h (by omega) (fun s hs => by have := hz s hs; omega) h1 h2
end Go.Proofs.Ytpbmehigklikdaa.Sp
