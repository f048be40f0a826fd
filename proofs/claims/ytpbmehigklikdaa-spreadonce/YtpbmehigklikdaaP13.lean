/- The parts of texts: a walk of the document's. -/
import Derived.Test.YtpbmehigklikdaaP12
namespace Go.Proofs.Ytpbmehigklikdaa.Sp
open Go Go.RowKit

theorem shards_self (n : Int) (h1 : 1 ≤ n) (h4 : n ≤ 4) : shardsOf n = n.toNat := by unfold shardsOf; rw [if_neg (by omega)]
theorem shards_other (n : Int) (h : n < 1 ∨ 4 < n) : shardsOf n = 1 := by unfold shardsOf; rw [if_pos h]
theorem shardOf_same (s : ByteArray) (n : Int) : shardOf s (shardsOf n : Nat) = shardOf s n := by
  by_cases h : n < 1 ∨ 4 < n
  · rw [shards_other n h]
    unfold shardOf
    rw [if_pos h, if_neg (by omega)]
    exact Nat.mod_one _
  · rw [shards_self n (by omega) (by omega)]
    congr 1
    omega
theorem shards_same (n : Int) : shardsOf (shardsOf n : Nat) = shardsOf n := by
  have h1 := shardsOf_one n
  have h4 := shardsOf_le n
  rw [shards_self _ (by omega) (by omega)]; rfl
theorem parts_same (n : Int) (l : List ByteArray) : partsOf (shardsOf n : Nat) l = partsOf n l := by
  unfold partsOf
  rw [shards_same]
  congr 1
  funext k
  unfold partOf
  congr 1
  funext s
  rw [shardOf_same]
theorem part_len (n : Int) (l : List ByteArray) (k : Nat) : (partOf n l k).length ≤ l.length := List.length_filter_le _ _
theorem parts_nil (n : Int) : partsOf n [] = List.replicate (shardsOf n) [] := by
  unfold partsOf partOf
  simp only [List.filter_nil]
  exact List.map_const' .. |>.trans (by rw [List.length_range])
theorem parts_next (n : Int) (l : List ByteArray) (k : Nat) (hk : k < l.length) : partsOf n (l.take (k + 1)) = (partsOf n (l.take k)).set (shardOf l[k] n) (partOf n (l.take k) (shardOf l[k] n) ++ [l[k]]) := by
  have e : l.take (k + 1) = l.take k ++ [l[k]] := by simp
  rw [e]
  apply List.ext_getElem
  · rw [List.length_set, parts_len, parts_len]
  · intro j h1 h2
    rw [parts_at, List.getElem_set, part_snoc]
    by_cases h : shardOf l[k] n = j
    · rw [if_pos h, if_pos h, h]
    · rw [if_neg h, if_neg h, List.append_nil, parts_at]
theorem set_parts {n : Int} {l : List ByteArray} {s : ByteArray} {rs : List (Value × List ByteArray)} {K : Nat} (hK : K < rs.length) (h : rs.map (·.2) = partsOf n l) :
    (rs[K]).2 = partOf n l K ∧ ∀ v, (rs.set K (v, (rs[K]).2 ++ [s])).map (·.2) = (partsOf n l).set K (partOf n l K ++ [s]) := by
  have e : (rs[K]).2 = partOf n l K := by
    have h1 : K < (partsOf n l).length := by rw [← h, List.length_map]; exact hK
    have h2 := parts_at n l K h1
    rw [← h2]
    have : (rs.map (·.2))[K]'(by rw [List.length_map]; exact hK) = (partsOf n l)[K] := by congr 1
    rw [← this, List.getElem_map]
  refine ⟨e, fun v => ?_⟩
  rw [List.map_set, h, e]
theorem POwn.kept {base : Nat} {w W w' : World} {P : Nat} {rs : List (Value × List ByteArray)} {k : Nat} (h : POwn base w P rs) (hk : k < rs.length) (n : Below w.heap.size w W) (hg : W.grownBy w' (rs[k]).1.ownBlock) : w'.cell? ⟨P, k, none⟩ = some (rs[k]).1 ∧ w'.frozen? ⟨P, k, none⟩ = false := by
  have hP := h.lt
  have hPk : (rs[k]).1.ownBlock ≠ some P := by
    intro e
    obtain ⟨⟨cur, hc⟩, _, _⟩ := own_block (h.own _ (List.getElem_mem hk)) e
    rw [h.row] at hc
    injection hc with e1; injection e1 with _ e2; exact absurd e2 (by decide)
  have e : w'.heap[P]? = w.heap[P]? := by rw [hg.block P (Nat.lt_of_lt_of_le hP n.size) (fun e => hPk e.symm), n.block P hP]
  exact ⟨by rw [World.cell?_of_block (a := ⟨P, k, none⟩) e]; exact h.cell k hk, by rw [World.frozen?_of_block (a := ⟨P, k, none⟩) e]; exact h.free k⟩
theorem new_txt (w : World) (s : ByteArray) : ∀ j u, ([.string s] : List Value)[j]? = some u → (w.alloc (.cells #[.string s] 9)).cell? ((⟨w.heap.size, 0, none⟩ : Addr).add j) = some u := by
  intro j u hu
  rw [addr_add, Nat.zero_add, cell_of_row _ w.heap.size j #[.string s] 9 (0, 0) (heap_alloc_new _ _)]
  simpa using hu
theorem own_slice {w : World} {base T k n : Nat} {v : Value} {xs : List Value} (h : w.ownsRow base T k v n xs) : ∃ a c, v = .slice a n c ∧ n ≤ c := by
  rcases h.2 with ⟨h0, h1⟩ | ⟨g, cap, cur, hv, hb, hg, hc, _⟩
  · subst h1; exact ⟨none, 0, h0, Nat.le_refl _⟩
  · exact ⟨_, cap, hv, hc⟩
theorem made_row {w : World} {base m : Nat} {P : Nat} (h : w.ownsRow base 27 1 (.slice (some ⟨P, 0, none⟩) m m) m (madeCells (Value.slice none 0 0).cells (m * 1)).toList) : w.heap[P]? = some (.cells (Array.replicate m (.slice none 0 0)) 27 (0, 0)) := by
  rcases h.2 with ⟨h0, _⟩ | ⟨g, cap, cur, hv, hb, hg, hc, hcm, hcs, ht⟩
  · cases h0
  · injection hv with h1 _ h2
    injection h1 with h1
    injection h1 with h1 _ _
    subst h1 h2
    have e : cur.toList = List.replicate m (.slice none 0 0) := by
      have h3 : (madeCells (Value.slice none 0 0).cells (m * 1)).toList = List.replicate m (.slice none 0 0) := by
        rw [Nat.mul_one]; exact toList_madeCells_one _ _
      rw [← h3, ← ht, List.take_of_length_le (by rw [Array.length_toList, hcs]; exact Nat.le_refl _)]
    rw [hg]
    congr 2
    apply Array.toList_inj.1
    rw [e]; simp
set_option maxRecDepth 100000 in
theorem info9s : ∃ i, Try.prog.info? 9 = some i ∧ i.zero = some (.string ⟨#[]⟩) ∧ i.size = 1 ∧ i.bytes = 16 := ⟨_, rfl, rfl, rfl, rfl⟩
set_option maxRecDepth 100000 in
theorem info27s : ∃ i, Try.prog.info? 27 = some i ∧ i.zero = some (.slice none 0 0) ∧ i.size = 1 ∧ i.bytes = 24 := ⟨_, rfl, rfl, rfl, rfl⟩

set_option maxRecDepth 100000 in
set_option maxHeartbeats 4000000 in
theorem parts_low (v : Value) (l : List ByteArray) (n : Int) (m : Nat) (w : World) (h : TRow w v l) (hn : l.length ≤ 1000000) (hz : ∀ s ∈ l, s.size ≤ 1000000) (h1 : 1 ≤ n ∧ n ≤ 4) (hm : m = shardsOf n) :
    Calls Try.prog 14 #[.int .i64 n, v] w fun e w' => (∃ v', e = .returned v' ∧ PRow w' v' (partsOf n l)) ∧ Below w.heap.size w w' := by
  obtain ⟨j0, hi, hz0, hz1, hz2⟩ := info9s
  have HI := Lib.hid (And.intro hi (And.intro hz0 (And.intro hz1 hz2)))
  clear hi hz0 hz1 hz2
  obtain ⟨j1, hi, hz0, hz1, hz2⟩ := info27s
  have HJ := Lib.hid (And.intro hi (And.intro hz0 (And.intro hz1 hz2)))
  clear hi hz0 hz1 hz2
  obtain ⟨a, c, rfl, hc, hl⟩ := h
  have HA := Lib.hid hl
  have HZ := Lib.hid (fun k (hk : k < l.length) => hz _ (List.getElem_mem hk))
  have hm1 : 1 ≤ m := by rw [hm]; exact shardsOf_one n
  have hm4 : m ≤ 4 := by rw [hm]; exact shardsOf_le n
  have HSH : Hid (shardsOf (m : Int) = m) := by rw [hm]; exact shards_same n
  rw [← parts_same n l, ← hm]
  obtain ⟨PS, HPS⟩ : ∃ PS, Hid (partsOf (m : Int) l = PS) := ⟨_, rfl⟩
  rw [HPS.out]
  clear hl hz
  have hnm : n = (m : Int) := by rw [hm, shards_self n h1.1 h1.2]; omega
  subst hnm
  have q1 : ¬ (m : Int) < 1 := by omega
  have q2 : ¬ (4 : Int) < (m : Int) := by omega
  have q3 : decide ((m : Int) < 1) = false := decide_eq_false q1
  have q4 : decide ((4 : Int) < (m : Int)) = false := decide_eq_false q2
  clear h1 hm
  go_enter Try.func14, Try.ntmps14
  go_wp2_with (first | (at_make; refine wpList_make_full _ rfl _ _ 29 rfl w.heap.size 27 j1 (.slice none 0 0) 1 Try.underlying29 HJ.out.1 HJ.out.2.1 HJ.out.2.2.1 .i64 .i64 _ _ m rfl rfl (by omega) (by omega) (by rw [HJ.out.2.2.2]; omega) (by unfold maxLen; omega) (Nat.le_refl _) ?_; intro w0 hown0 hgrow0))
  have HS0 : Hid (POwn w.heap.size w0 w.heap.size (List.replicate m (.slice none 0 0, []))) := POwn.start (made_row hown0)
  have HL0 : Hid ((List.replicate m ((.slice none 0 0 : Value), ([] : List ByteArray))).length = m) := by show _ = _; simp
  have HP0 : Hid ((List.replicate m ((.slice none 0 0 : Value), ([] : List ByteArray))).map (·.2) = partsOf (m : Int) (l.take 0)) := by show _ = _; rw [List.take_zero, parts_nil, HSH.out]; simp
  have HB0 : Hid (Below w.heap.size w w0) := (Below.refl _ w).grown hgrow0 (Nat.le_refl _) (fun k hk => by cases hk)
  clear hown0 hgrow0
  go_loopw [6] (fun i wr => ∃ (k : Nat) (rs : List (Value × List ByteArray)), k ≤ l.length ∧ i = .int .i64 k ∧ Hid (POwn w.heap.size wr w.heap.size rs) ∧ Hid (rs.length = m) ∧ Hid (rs.map (·.2) = partsOf (m : Int) (l.take k)) ∧ Hid (Below w.heap.size w wr)) (fun i _ => l.length - (intOf i).toNat)
  case atStart => exact ⟨0, _, Nat.zero_le _, rfl, HS0, HL0, HP0, HB0⟩
  case round =>
    obtain ⟨k, rs, hk, rfl, HPO, HRL, HRP, HD⟩ := hrel
    clear HS0 HL0 HP0 HB0
    by_cases hlt : k < l.length
    · obtain ⟨b, o, rfl, hb, hL⟩ := HA.out (ne_of_lt hlt)
      have e1 := t_at (hL.on hb HD.out) k hlt
      have i1 : (k : Int) < (l.length : Int) := by omega
      have i2 : (0 : Int) ≤ (k : Int) := by omega
      have hz := HZ.out k hlt
      have HOF := Lib.hid (fun W => of_ref l[k] (m : Int) W (by omega))
      have HNX := Lib.hid (parts_next (m : Int) l k hlt)
      have hs1 := shardOf_lt l[k] (m : Int)
      rw [HSH.out] at hs1
      generalize l[k] = s at *
      generalize shardOf s (m : Int) = K at *
      have hKr : K < rs.length := by rw [HRL.out]; exact hs1
      have c1 := HPO.out.cell K hKr
      have f1 := HPO.out.free K
      have HOW := Lib.hid (HPO.out.own _ (List.getElem_mem hKr))
      have HST := Lib.hid (fun (W w' : World) (g cap : Nat) (n : Below wr.heap.size wr W) hH ho hg hat => HPO.out.step (W := W) (w' := w') (g := g) (cap := cap) (H := wr.heap.size + 1) (s := s) hKr (Nat.le_refl _) n hH ho hg hat)
      have HPK := Lib.hid (fun (W w' : World) (n : Below wr.heap.size wr W) (hg : W.grownBy w' (rs[K]).1.ownBlock) => HPO.out.kept hKr n hg)
      have HSE := Lib.hid (set_parts (n := (m : Int)) (l := l.take k) (s := s) (rs := rs) hKr HRP.out)
      obtain ⟨r, hr⟩ : ∃ r, rs[K] = r := ⟨_, rfl⟩
      rw [hr] at c1 HOW HST HPK HSE
      obtain ⟨rv, rL⟩ := r
      simp only at c1 HOW HST HPK HSE
      obtain ⟨ra, rc, hrv, hrc⟩ := own_slice HOW.out
      subst hrv
      have hrl : rL.length ≤ l.length := HSE.out.1 ▸ Nat.le_trans (part_len _ _ _) (by rw [List.length_take]; omega)
      have i3 : (K : Int) < (m : Int) := by omega
      have i4 : (0 : Int) ≤ (K : Int) := by omega
      have HOW2 := Lib.hid (own_on HOW.out (aBelow wr (.cells #[.string s] 9)))
      have HN1 := Lib.hid (new_txt wr s)
      have dA := Lib.hid (aBelow wr (.cells #[.string s] 9))
      have hPz : w.heap.size < wr.heap.size := HPO.out.lt
      clear hL hb hr HA
      go_wp2_with (go_at_call 11; refine (HOF.out _).mono ?_; rintro e w1 ⟨rfl, rfl⟩)
      go_region_law (rename_i Kx hKx; refine step_append_lies _ (by rfl) _ _ 27 (by rfl) w.heap.size 9 j0 (.string ⟨#[]⟩) 1 16 Try.underlying27 HI.out.1 HI.out.2.1 HI.out.2.2.1 HI.out.2.2.2 rfl (by decide) (.slice ra rL.length rc) rL.length (flatG txtC rL) (by simp [Act.eval]) HOW2.out ⟨w1.heap.size, 0, none⟩ 1 1 [.string s] (by simp [Act.eval]) rfl HN1.out (by intro u hu; simp at hu; subst hu; rfl) (by decide) (by unfold maxLen; omega) (by omega) (by have := dA.out.size; simp; omega) (w1.heap.size + 1) (by simp) ?_; intro g cap w' hown hgrow hat hgl; have HX := Lib.hid (And.intro hown (And.intro hgrow hat)); have ck := HPK.out _ w' dA.out.drew hgrow; have ck1 := ck.1; have ck2 := ck.2; clear hown hgrow hat hgl ck; refine hKx _ _ ?_; clear hKx Kx)
      all_goals (obtain ⟨s1, s2⟩ := HST.out _ _ _ _ dA.out.drew (by simp) HX.out.1 HX.out.2.1 HX.out.2.2)
      all_goals (have S1 := Lib.hid s1)
      all_goals (have S2 := Lib.hid (HD.out.trans (s2.mono (Nat.le_refl _))))
      all_goals (clear s1 s2 HST HPK HX ck1 ck2 HOW HOW2 HN1 dA)
      all_goals (go_wp2_with fail)
      all_goals (exact ⟨⟨k + 1, _, by omega, by go_num, S1, by show _ = _; rw [List.length_set]; exact HRL.out, by show _ = _; rw [HSE.out.2, HNX.out], S2⟩, by simp [intOf]; omega⟩)
    · have i1 : ¬ (k : Int) < (l.length : Int) := by omega
      have HT : Hid (rs.map (·.2) = PS) := HRP.out.trans (by rw [List.take_of_length_le (by omega)]; exact HPS.out)
      have HV := Lib.hid (HPO.out.prow (Nat.le_of_eq HRL.out))
      rw [HT.out] at HV
      rw [HRL.out] at HV
      go_wp2_with fail
      go_ret
      exact ⟨⟨_, rfl, HV.out⟩, HD.out⟩

set_option maxRecDepth 100000 in
set_option maxHeartbeats 4000000 in
theorem parts_below (v : Value) (l : List ByteArray) (n : Int) (m : Nat) (w : World) (h : TRow w v l) (hn : l.length ≤ 1000000) (hz : ∀ s ∈ l, s.size ≤ 1000000) (h1 : n < 1) (hm : m = shardsOf n) :
    Calls Try.prog 14 #[.int .i64 n, v] w fun e w' => (∃ v', e = .returned v' ∧ PRow w' v' (partsOf n l)) ∧ Below w.heap.size w w' := by
  obtain ⟨j0, hi, hz0, hz1, hz2⟩ := info9s
  have HI := Lib.hid (And.intro hi (And.intro hz0 (And.intro hz1 hz2)))
  clear hi hz0 hz1 hz2
  obtain ⟨j1, hi, hz0, hz1, hz2⟩ := info27s
  have HJ := Lib.hid (And.intro hi (And.intro hz0 (And.intro hz1 hz2)))
  clear hi hz0 hz1 hz2
  obtain ⟨a, c, rfl, hc, hl⟩ := h
  have HA := Lib.hid hl
  have HZ := Lib.hid (fun k (hk : k < l.length) => hz _ (List.getElem_mem hk))
  have hm1 : 1 ≤ m := by rw [hm]; exact shardsOf_one n
  have hm4 : m ≤ 4 := by rw [hm]; exact shardsOf_le n
  have HSH : Hid (shardsOf (m : Int) = m) := by rw [hm]; exact shards_same n
  rw [← parts_same n l, ← hm]
  obtain ⟨PS, HPS⟩ : ∃ PS, Hid (partsOf (m : Int) l = PS) := ⟨_, rfl⟩
  rw [HPS.out]
  clear hl hz
  have hme : (1 : Int) = (m : Int) := by rw [hm, shards_other n (Or.inl h1)]; rfl
  have HME := Lib.hid hme
  have q1 : decide (n < 1) = true := decide_eq_true h1
  clear hm hme
  go_enter Try.func14, Try.ntmps14
  go_wp2_with (first | (at_make; refine wpList_make_full _ rfl _ _ 29 rfl w.heap.size 27 j1 (.slice none 0 0) 1 Try.underlying29 HJ.out.1 HJ.out.2.1 HJ.out.2.2.1 .i64 .i64 _ _ m rfl rfl HME.out HME.out (by rw [HJ.out.2.2.2]; omega) (by unfold maxLen; omega) (Nat.le_refl _) ?_; intro w0 hown0 hgrow0))
  have HS0 : Hid (POwn w.heap.size w0 w.heap.size (List.replicate m (.slice none 0 0, []))) := POwn.start (made_row hown0)
  have HL0 : Hid ((List.replicate m ((.slice none 0 0 : Value), ([] : List ByteArray))).length = m) := by show _ = _; simp
  have HP0 : Hid ((List.replicate m ((.slice none 0 0 : Value), ([] : List ByteArray))).map (·.2) = partsOf (m : Int) (l.take 0)) := by show _ = _; rw [List.take_zero, parts_nil, HSH.out]; simp
  have HB0 : Hid (Below w.heap.size w w0) := (Below.refl _ w).grown hgrow0 (Nat.le_refl _) (fun k hk => by cases hk)
  clear hown0 hgrow0
  go_loopw [6] (fun i wr => ∃ (k : Nat) (rs : List (Value × List ByteArray)), k ≤ l.length ∧ i = .int .i64 k ∧ Hid (POwn w.heap.size wr w.heap.size rs) ∧ Hid (rs.length = m) ∧ Hid (rs.map (·.2) = partsOf (m : Int) (l.take k)) ∧ Hid (Below w.heap.size w wr)) (fun i _ => l.length - (intOf i).toNat)
  case atStart => exact ⟨0, _, Nat.zero_le _, rfl, HS0, HL0, HP0, HB0⟩
  case round =>
    obtain ⟨k, rs, hk, rfl, HPO, HRL, HRP, HD⟩ := hrel
    clear HS0 HL0 HP0 HB0
    by_cases hlt : k < l.length
    · obtain ⟨b, o, rfl, hb, hL⟩ := HA.out (ne_of_lt hlt)
      have e1 := t_at (hL.on hb HD.out) k hlt
      have i1 : (k : Int) < (l.length : Int) := by omega
      have i2 : (0 : Int) ≤ (k : Int) := by omega
      have hz := HZ.out k hlt
      have HOF := Lib.hid (fun W => of_ref l[k] 1 W (by omega))
      rw [show shardOf l[k] 1 = shardOf l[k] (m : Int) by rw [← HME.out]] at HOF
      have HNX := Lib.hid (parts_next (m : Int) l k hlt)
      have hs1 := shardOf_lt l[k] (m : Int)
      rw [HSH.out] at hs1
      generalize l[k] = s at *
      generalize shardOf s (m : Int) = K at *
      have hKr : K < rs.length := by rw [HRL.out]; exact hs1
      have c1 := HPO.out.cell K hKr
      have f1 := HPO.out.free K
      have HOW := Lib.hid (HPO.out.own _ (List.getElem_mem hKr))
      have HST := Lib.hid (fun (W w' : World) (g cap : Nat) (n : Below wr.heap.size wr W) hH ho hg hat => HPO.out.step (W := W) (w' := w') (g := g) (cap := cap) (H := wr.heap.size + 1) (s := s) hKr (Nat.le_refl _) n hH ho hg hat)
      have HPK := Lib.hid (fun (W w' : World) (n : Below wr.heap.size wr W) (hg : W.grownBy w' (rs[K]).1.ownBlock) => HPO.out.kept hKr n hg)
      have HSE := Lib.hid (set_parts (n := (m : Int)) (l := l.take k) (s := s) (rs := rs) hKr HRP.out)
      obtain ⟨r, hr⟩ : ∃ r, rs[K] = r := ⟨_, rfl⟩
      rw [hr] at c1 HOW HST HPK HSE
      obtain ⟨rv, rL⟩ := r
      simp only at c1 HOW HST HPK HSE
      obtain ⟨ra, rc, hrv, hrc⟩ := own_slice HOW.out
      subst hrv
      have hrl : rL.length ≤ l.length := HSE.out.1 ▸ Nat.le_trans (part_len _ _ _) (by rw [List.length_take]; omega)
      have i3 : (K : Int) < (m : Int) := by omega
      have i4 : (0 : Int) ≤ (K : Int) := by omega
      have HOW2 := Lib.hid (own_on HOW.out (aBelow wr (.cells #[.string s] 9)))
      have HN1 := Lib.hid (new_txt wr s)
      have dA := Lib.hid (aBelow wr (.cells #[.string s] 9))
      have hPz : w.heap.size < wr.heap.size := HPO.out.lt
      clear hL hb hr HA
      go_wp2_with (go_at_call 11; refine (HOF.out _).mono ?_; rintro e w1 ⟨rfl, rfl⟩)
      go_region_law (rename_i Kx hKx; refine step_append_lies _ (by rfl) _ _ 27 (by rfl) w.heap.size 9 j0 (.string ⟨#[]⟩) 1 16 Try.underlying27 HI.out.1 HI.out.2.1 HI.out.2.2.1 HI.out.2.2.2 rfl (by decide) (.slice ra rL.length rc) rL.length (flatG txtC rL) (by simp [Act.eval]) HOW2.out ⟨w1.heap.size, 0, none⟩ 1 1 [.string s] (by simp [Act.eval]) rfl HN1.out (by intro u hu; simp at hu; subst hu; rfl) (by decide) (by unfold maxLen; omega) (by omega) (by have := dA.out.size; simp; omega) (w1.heap.size + 1) (by simp) ?_; intro g cap w' hown hgrow hat hgl; have HX := Lib.hid (And.intro hown (And.intro hgrow hat)); have ck := HPK.out _ w' dA.out.drew hgrow; have ck1 := ck.1; have ck2 := ck.2; clear hown hgrow hat hgl ck; refine hKx _ _ ?_; clear hKx Kx)
      all_goals (obtain ⟨s1, s2⟩ := HST.out _ _ _ _ dA.out.drew (by simp) HX.out.1 HX.out.2.1 HX.out.2.2)
      all_goals (have S1 := Lib.hid s1)
      all_goals (have S2 := Lib.hid (HD.out.trans (s2.mono (Nat.le_refl _))))
      all_goals (clear s1 s2 HST HPK HX ck1 ck2 HOW HOW2 HN1 dA)
      all_goals (go_wp2_with fail)
      all_goals (exact ⟨⟨k + 1, _, by omega, by go_num, S1, by show _ = _; rw [List.length_set]; exact HRL.out, by show _ = _; rw [HSE.out.2, HNX.out], S2⟩, by simp [intOf]; omega⟩)
    · have i1 : ¬ (k : Int) < (l.length : Int) := by omega
      have HT : Hid (rs.map (·.2) = PS) := HRP.out.trans (by rw [List.take_of_length_le (by omega)]; exact HPS.out)
      have HV := Lib.hid (HPO.out.prow (Nat.le_of_eq HRL.out))
      rw [HT.out] at HV
      rw [HRL.out] at HV
      go_wp2_with fail
      go_ret
      exact ⟨⟨_, rfl, HV.out⟩, HD.out⟩

set_option maxRecDepth 100000 in
set_option maxHeartbeats 4000000 in
theorem parts_above (v : Value) (l : List ByteArray) (n : Int) (m : Nat) (w : World) (h : TRow w v l) (hn : l.length ≤ 1000000) (hz : ∀ s ∈ l, s.size ≤ 1000000) (h1 : 4 < n) (hm : m = shardsOf n) :
    Calls Try.prog 14 #[.int .i64 n, v] w fun e w' => (∃ v', e = .returned v' ∧ PRow w' v' (partsOf n l)) ∧ Below w.heap.size w w' := by
  obtain ⟨j0, hi, hz0, hz1, hz2⟩ := info9s
  have HI := Lib.hid (And.intro hi (And.intro hz0 (And.intro hz1 hz2)))
  clear hi hz0 hz1 hz2
  obtain ⟨j1, hi, hz0, hz1, hz2⟩ := info27s
  have HJ := Lib.hid (And.intro hi (And.intro hz0 (And.intro hz1 hz2)))
  clear hi hz0 hz1 hz2
  obtain ⟨a, c, rfl, hc, hl⟩ := h
  have HA := Lib.hid hl
  have HZ := Lib.hid (fun k (hk : k < l.length) => hz _ (List.getElem_mem hk))
  have hm1 : 1 ≤ m := by rw [hm]; exact shardsOf_one n
  have hm4 : m ≤ 4 := by rw [hm]; exact shardsOf_le n
  have HSH : Hid (shardsOf (m : Int) = m) := by rw [hm]; exact shards_same n
  rw [← parts_same n l, ← hm]
  obtain ⟨PS, HPS⟩ : ∃ PS, Hid (partsOf (m : Int) l = PS) := ⟨_, rfl⟩
  rw [HPS.out]
  clear hl hz
  have hme : (1 : Int) = (m : Int) := by rw [hm, shards_other n (Or.inr h1)]; rfl
  have HME := Lib.hid hme
  have q0 : ¬ n < 1 := by omega
  have q2 : decide (n < 1) = false := decide_eq_false q0
  have q1 : decide (4 < n) = true := decide_eq_true h1
  clear hm hme
  go_enter Try.func14, Try.ntmps14
  go_wp2_with (first | (at_make; refine wpList_make_full _ rfl _ _ 29 rfl w.heap.size 27 j1 (.slice none 0 0) 1 Try.underlying29 HJ.out.1 HJ.out.2.1 HJ.out.2.2.1 .i64 .i64 _ _ m rfl rfl HME.out HME.out (by rw [HJ.out.2.2.2]; omega) (by unfold maxLen; omega) (Nat.le_refl _) ?_; intro w0 hown0 hgrow0))
  have HS0 : Hid (POwn w.heap.size w0 w.heap.size (List.replicate m (.slice none 0 0, []))) := POwn.start (made_row hown0)
  have HL0 : Hid ((List.replicate m ((.slice none 0 0 : Value), ([] : List ByteArray))).length = m) := by show _ = _; simp
  have HP0 : Hid ((List.replicate m ((.slice none 0 0 : Value), ([] : List ByteArray))).map (·.2) = partsOf (m : Int) (l.take 0)) := by show _ = _; rw [List.take_zero, parts_nil, HSH.out]; simp
  have HB0 : Hid (Below w.heap.size w w0) := (Below.refl _ w).grown hgrow0 (Nat.le_refl _) (fun k hk => by cases hk)
  clear hown0 hgrow0
  go_loopw [6] (fun i wr => ∃ (k : Nat) (rs : List (Value × List ByteArray)), k ≤ l.length ∧ i = .int .i64 k ∧ Hid (POwn w.heap.size wr w.heap.size rs) ∧ Hid (rs.length = m) ∧ Hid (rs.map (·.2) = partsOf (m : Int) (l.take k)) ∧ Hid (Below w.heap.size w wr)) (fun i _ => l.length - (intOf i).toNat)
  case atStart => exact ⟨0, _, Nat.zero_le _, rfl, HS0, HL0, HP0, HB0⟩
  case round =>
    obtain ⟨k, rs, hk, rfl, HPO, HRL, HRP, HD⟩ := hrel
    clear HS0 HL0 HP0 HB0
    by_cases hlt : k < l.length
    · obtain ⟨b, o, rfl, hb, hL⟩ := HA.out (ne_of_lt hlt)
      have e1 := t_at (hL.on hb HD.out) k hlt
      have i1 : (k : Int) < (l.length : Int) := by omega
      have i2 : (0 : Int) ≤ (k : Int) := by omega
      have hz := HZ.out k hlt
      have HOF := Lib.hid (fun W => of_ref l[k] 1 W (by omega))
      rw [show shardOf l[k] 1 = shardOf l[k] (m : Int) by rw [← HME.out]] at HOF
      have HNX := Lib.hid (parts_next (m : Int) l k hlt)
      have hs1 := shardOf_lt l[k] (m : Int)
      rw [HSH.out] at hs1
      generalize l[k] = s at *
      generalize shardOf s (m : Int) = K at *
      have hKr : K < rs.length := by rw [HRL.out]; exact hs1
      have c1 := HPO.out.cell K hKr
      have f1 := HPO.out.free K
      have HOW := Lib.hid (HPO.out.own _ (List.getElem_mem hKr))
      have HST := Lib.hid (fun (W w' : World) (g cap : Nat) (n : Below wr.heap.size wr W) hH ho hg hat => HPO.out.step (W := W) (w' := w') (g := g) (cap := cap) (H := wr.heap.size + 1) (s := s) hKr (Nat.le_refl _) n hH ho hg hat)
      have HPK := Lib.hid (fun (W w' : World) (n : Below wr.heap.size wr W) (hg : W.grownBy w' (rs[K]).1.ownBlock) => HPO.out.kept hKr n hg)
      have HSE := Lib.hid (set_parts (n := (m : Int)) (l := l.take k) (s := s) (rs := rs) hKr HRP.out)
      obtain ⟨r, hr⟩ : ∃ r, rs[K] = r := ⟨_, rfl⟩
      rw [hr] at c1 HOW HST HPK HSE
      obtain ⟨rv, rL⟩ := r
      simp only at c1 HOW HST HPK HSE
      obtain ⟨ra, rc, hrv, hrc⟩ := own_slice HOW.out
      subst hrv
      have hrl : rL.length ≤ l.length := HSE.out.1 ▸ Nat.le_trans (part_len _ _ _) (by rw [List.length_take]; omega)
      have i3 : (K : Int) < (m : Int) := by omega
      have i4 : (0 : Int) ≤ (K : Int) := by omega
      have HOW2 := Lib.hid (own_on HOW.out (aBelow wr (.cells #[.string s] 9)))
      have HN1 := Lib.hid (new_txt wr s)
      have dA := Lib.hid (aBelow wr (.cells #[.string s] 9))
      have hPz : w.heap.size < wr.heap.size := HPO.out.lt
      clear hL hb hr HA
      go_wp2_with (go_at_call 11; refine (HOF.out _).mono ?_; rintro e w1 ⟨rfl, rfl⟩)
      go_region_law (rename_i Kx hKx; refine step_append_lies _ (by rfl) _ _ 27 (by rfl) w.heap.size 9 j0 (.string ⟨#[]⟩) 1 16 Try.underlying27 HI.out.1 HI.out.2.1 HI.out.2.2.1 HI.out.2.2.2 rfl (by decide) (.slice ra rL.length rc) rL.length (flatG txtC rL) (by simp [Act.eval]) HOW2.out ⟨w1.heap.size, 0, none⟩ 1 1 [.string s] (by simp [Act.eval]) rfl HN1.out (by intro u hu; simp at hu; subst hu; rfl) (by decide) (by unfold maxLen; omega) (by omega) (by have := dA.out.size; simp; omega) (w1.heap.size + 1) (by simp) ?_; intro g cap w' hown hgrow hat hgl; have HX := Lib.hid (And.intro hown (And.intro hgrow hat)); have ck := HPK.out _ w' dA.out.drew hgrow; have ck1 := ck.1; have ck2 := ck.2; clear hown hgrow hat hgl ck; refine hKx _ _ ?_; clear hKx Kx)
      all_goals (obtain ⟨s1, s2⟩ := HST.out _ _ _ _ dA.out.drew (by simp) HX.out.1 HX.out.2.1 HX.out.2.2)
      all_goals (have S1 := Lib.hid s1)
      all_goals (have S2 := Lib.hid (HD.out.trans (s2.mono (Nat.le_refl _))))
      all_goals (clear s1 s2 HST HPK HX ck1 ck2 HOW HOW2 HN1 dA)
      all_goals (go_wp2_with fail)
      all_goals (exact ⟨⟨k + 1, _, by omega, by go_num, S1, by show _ = _; rw [List.length_set]; exact HRL.out, by show _ = _; rw [HSE.out.2, HNX.out], S2⟩, by simp [intOf]; omega⟩)
    · have i1 : ¬ (k : Int) < (l.length : Int) := by omega
      have HT : Hid (rs.map (·.2) = PS) := HRP.out.trans (by rw [List.take_of_length_le (by omega)]; exact HPS.out)
      have HV := Lib.hid (HPO.out.prow (Nat.le_of_eq HRL.out))
      rw [HT.out] at HV
      rw [HRL.out] at HV
      go_wp2_with fail
      go_ret
      exact ⟨⟨_, rfl, HV.out⟩, HD.out⟩

theorem refParts_any (v : Value) (l : List ByteArray) (n : Int) (w : World) (h : TRow w v l) (hn : l.length ≤ 1000000) (hz : ∀ s ∈ l, s.size ≤ 1000000) :
    Calls Try.prog 14 #[.int .i64 n, v] w fun e w' => (∃ v', e = .returned v' ∧ PRow w' v' (partsOf n l)) ∧ Below w.heap.size w w' := by
  by_cases h1 : n < 1
  · exact parts_below v l n _ w h hn hz h1 rfl
  · by_cases h2 : 4 < n
    · exact parts_above v l n _ w h hn hz h2 rfl
    · exact parts_low v l n _ w h hn hz ⟨by omega, by omega⟩ rfl
end Go.Proofs.Ytpbmehigklikdaa.Sp
