/- Carried over from earlier layers: walks and lemmas of tags, series and matches. -/
import Derived.Test.YtfohknpjlkjbbaaGreatDoorG3
namespace Go.Proofs.YtfohknpjlkjbbaaGreatDoor
open Go Go.RowKit Go.Sort Tg
theorem only_take (l : List Tag) (ns : List ByteArray) (k : Nat) (hk : k < l.length) : only (l.take (k + 1)) ns = if hasB ns (l[k]).1 = true then only (l.take k) ns ++ [l[k]] else only (l.take k) ns := by
  unfold only
  rw [List.take_succ_eq_append_getElem hk, List.filter_append]
  cases h : hasB ns (l[k]).1
  · have h' : (ns.any fun n => eqB n (l[k]).1) = false := h
    simp [h']
  · have h' : (ns.any fun n => eqB n (l[k]).1) = true := h
    simp [h']
theorem only_len (l : List Tag) (ns : List ByteArray) (k : Nat) : (only (l.take k) ns).length ≤ l.length := by
  have h1 : (only (l.take k) ns).length ≤ (l.take k).length := List.length_filter_le _ _
  have h2 : (l.take k).length ≤ l.length := List.length_take_le' _ _
  omega
theorem new2T (w : World) (o : Obj) (x : Tag) : ∀ j u, [Value.string x.1, Value.string x.2][j]? = some u → ((w.alloc o).alloc (.cells #[.string x.1, .string x.2] 63)).cell? ((⟨w.heap.size + 1, 0, none⟩ : Addr).add j) = some u := by
  have h := new1T (w.alloc o) x
  have hz : (w.alloc o).heap.size = w.heap.size + 1 := by simp
  rw [hz] at h
  exact h
set_option maxHeartbeats 1000000 in
theorem only_any (v vn : Value) (l : List Tag) (ns : List ByteArray) (w : World) (h : TRow w v l) (hN : Row w vn ns) (hn : l.length ≤ 1000000) (hm : ns.length ≤ 1000000) :
    Calls Tryz.prog 50 #[v, vn] w fun e w' => (∃ v', e = .returned v' ∧ TRow w' v' (only l ns)) ∧ Below w.heap.size w w' := by
  obtain ⟨a, c, rfl, hc, hl⟩ := h
  obtain ⟨i0, hi, hz0, hz1, hz2⟩ := info41
  have HI := Lib.hid (And.intro hi (And.intro hz0 (And.intro hz1 hz2)))
  clear hi hz0 hz1 hz2
  have HL := Lib.hid hl
  have HN := Lib.hid hN
  clear hl hN
  go_enter Tryz.func50, Tryz.ntmps50
  go_wp2
  go_loopw [5, 10] (fun out i wr => ∃ (k : Nat), k ≤ l.length ∧ i = .int .i64 k ∧ Hid (OwnT wr w.heap.size out (only (l.take k) ns)) ∧ Below w.heap.size w wr) (fun _ i _ => l.length - (intOf i).toNat)
  case atStart => exact ⟨0, Nat.zero_le _, rfl, ownT_nil _ _, Below.refl _ _⟩
  case round =>
    obtain ⟨k, hk, rfl, HO, hbl⟩ := hrel
    by_cases hlt : k < l.length
    · obtain ⟨b, o, rfl, hb, hL⟩ := HL.out (ne_of_lt hlt)
      obtain ⟨e1, e2⟩ := (hL.on hb hbl) k hlt
      have i1 : (k : Int) < (l.length : Int) := by omega
      have i2 : (0 : Int) ≤ (k : Int) := by omega
      have hz := hbl.size
      have hkl := only_len l ns k
      have HK := Lib.hid (only_take l ns k hlt)
      generalize l[k] = x at *
      have HC := Lib.hid (contains_any vn ns x.1 _ ((HN.out.on hbl).on ((Below.refl _ _).alloc (Nat.le_refl _) (Obj.cells #[.string x.1, .string x.2] 63))) hm)
      clear hL hb
      cases hq : hasB ns x.1
      · have HK := Lib.hid HK.out
        rw [hq, if_neg (by simp)] at HK
        rw [hq] at HC
        clear hq
        go_wp2_with (first | (go_at_call 77; refine (HC.out).mono ?_; rintro e w' ⟨rfl, rfl⟩))
        exact ⟨⟨k + 1, by omega, by go_num, by rw [HK.out]; exact HO.out.alloc _, hbl.alloc hz _⟩, by simp [intOf]; omega⟩
      · have HK := Lib.hid HK.out
        rw [hq, if_pos rfl] at HK
        rw [hq] at HC
        clear hq
        go_wp2_with (first
          | (go_at_call 77; refine (HC.out).mono ?_; rintro e w' ⟨rfl, hw⟩; have hw := hw.symm; subst hw)
          | (at_builtin; refine wpList_append_own _ rfl _ _ 34 rfl w.heap.size 63 i0 (.agg #[.string ⟨#[]⟩, .string ⟨#[]⟩]) 2 32 Tryz.underlying34 HI.out.1 HI.out.2.1 HI.out.2.2.1 HI.out.2.2.2 rfl (by decide) _ _ _ rfl ((HO.out.alloc _).alloc _) ⟨wr.heap.size + 1, 0, none⟩ 1 1 [Value.string x.1, Value.string x.2] rfl rfl (new2T wr _ x) (one1T x) (by unfold maxLen; omega) (by omega) (by simp; omega) ?_; intro v' w2 hown hgrow hnil))
        have HO2 := Lib.hid (ownT_next hown)
        have hb2 := ownT_below (hbl.alloc hz _) (by simp; omega) (HO.out.alloc _) hgrow
        exact ⟨⟨k + 1, by omega, by go_num, by rw [HK.out]; exact HO2, hb2⟩, by simp [intOf]; omega⟩
    · have hr := ownT_row HO.out
      rw [List.take_of_length_le (by omega)] at hr
      clear HO HL HN HI
      go_wp2_with fail
      go_ret
      exact ⟨⟨_, rfl, hr⟩, hbl⟩
set_option maxHeartbeats 1000000 in
theorem refOnly_any (v vn : Value) (l : List Tag) (ns : List ByteArray) (w : World) (h : TRow w v l) (hN : Row w vn ns) (hn : l.length ≤ 1000000) (hm : ns.length ≤ 1000000) :
    Calls Tryz.prog 52 #[v, vn] w fun e w' => (∃ v', e = .returned v' ∧ TRow w' v' (only l ns)) ∧ Below w.heap.size w w' := by
  obtain ⟨a, c, rfl, hc, hl⟩ := h
  obtain ⟨i0, hi, hz0, hz1, hz2⟩ := info41
  have HI := Lib.hid (And.intro hi (And.intro hz0 (And.intro hz1 hz2)))
  clear hi hz0 hz1 hz2
  have HL := Lib.hid hl
  have HN := Lib.hid hN
  clear hl hN
  go_enter Tryz.func52, Tryz.ntmps52
  go_wp2
  go_loopw [5, 6] (fun out i wr => ∃ (k : Nat), k ≤ l.length ∧ i = .int .i64 k ∧ Hid (OwnT wr w.heap.size out (only (l.take k) ns)) ∧ Below w.heap.size w wr) (fun _ i _ => l.length - (intOf i).toNat)
  case atStart => exact ⟨0, Nat.zero_le _, rfl, ownT_nil _ _, Below.refl _ _⟩
  case round =>
    obtain ⟨k, hk, rfl, HO, hbl⟩ := hrel
    by_cases hlt : k < l.length
    · obtain ⟨b, o, rfl, hb, hL⟩ := HL.out (ne_of_lt hlt)
      obtain ⟨e1, e2⟩ := (hL.on hb hbl) k hlt
      have i1 : (k : Int) < (l.length : Int) := by omega
      have i2 : (0 : Int) ≤ (k : Int) := by omega
      have hz := hbl.size
      have hkl := only_len l ns k
      have HK := Lib.hid (only_take l ns k hlt)
      generalize l[k] = x at *
      have HC := Lib.hid (has_any vn ns x.1 _ (HN.out.on hbl) hm)
      clear hL hb
      cases hq : hasB ns x.1
      · have HK := Lib.hid HK.out
        rw [hq, if_neg (by simp)] at HK
        rw [hq] at HC
        clear hq
        go_wp2_with (first | (go_at_call 78; refine (HC.out).mono ?_; rintro e w' ⟨rfl, hw⟩; have hw := hw.symm; subst hw))
        exact ⟨⟨k + 1, by omega, by go_num, by rw [HK.out]; exact HO, hbl⟩, by simp [intOf]; omega⟩
      · have HK := Lib.hid HK.out
        rw [hq, if_pos rfl] at HK
        rw [hq] at HC
        clear hq
        go_wp2_with (first
          | (go_at_call 78; refine (HC.out).mono ?_; rintro e w' ⟨rfl, hw⟩; have hw := hw.symm; subst hw)
          | (at_builtin; refine wpList_append_own _ rfl _ _ 34 rfl w.heap.size 63 i0 (.agg #[.string ⟨#[]⟩, .string ⟨#[]⟩]) 2 32 Tryz.underlying34 HI.out.1 HI.out.2.1 HI.out.2.2.1 HI.out.2.2.2 rfl (by decide) _ _ _ rfl (HO.out.alloc _) ⟨wr.heap.size, 0, none⟩ 1 1 [Value.string x.1, Value.string x.2] rfl rfl (new1T wr x) (one1T x) (by unfold maxLen; omega) (by omega) (by simp; omega) ?_; intro v' w2 hown hgrow hnil))
        have HO2 := Lib.hid (ownT_next hown)
        have hb2 := ownT_below hbl hz HO.out hgrow
        exact ⟨⟨k + 1, by omega, by go_num, by rw [HK.out]; exact HO2, hb2⟩, by simp [intOf]; omega⟩
    · have hr := ownT_row HO.out
      rw [List.take_of_length_le (by omega)] at hr
      clear HO HL HN HI
      go_wp2_with fail
      go_ret
      exact ⟨⟨_, rfl, hr⟩, hbl⟩
end Go.Proofs.YtfohknpjlkjbbaaGreatDoor
