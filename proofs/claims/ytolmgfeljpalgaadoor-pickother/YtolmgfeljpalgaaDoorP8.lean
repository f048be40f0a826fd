/- Walks: a part's match: the document's part. -/
import Derived.Test.YtolmgfeljpalgaaDoorP7
import Derived.Deep.RegionHeld3
namespace Go.Proofs.YtolmgfeljpalgaaDoor
open Go Go.RowKit Tg Pk

theorem cut_index {sep L : List UInt8} {q : List UInt8 × List UInt8} (hs : sep ≠ []) (h : cutAt sep L = some q) : ∃ j : Nat, Lib.index L sep = (j : Int) ∧ q = (L.take j, L.drop (j + sep.length)) ∧ j + sep.length ≤ L.length := by
  have h1 := cutAt_eq sep hs L
  rw [h] at h1
  unfold Lib.cut at h1
  by_cases h0 : 0 ≤ Lib.index L sep
  · rw [if_pos h0] at h1
    have hr := Lib.index_room L sep h0
    refine ⟨(Lib.index L sep).toNat, by omega, ?_, by omega⟩
    simp only [Prod.mk.injEq, and_true] at h1
    exact Prod.ext h1.1.symm h1.2.symm
  · rw [if_neg h0] at h1
    simp at h1
theorem cut_index_no {sep L : List UInt8} (hs : sep ≠ []) (h : cutAt sep L = none) : Lib.index L sep = -1 := by
  have h1 := cutAt_eq sep hs L
  rw [h] at h1
  unfold Lib.cut at h1
  have hg := Lib.index_ge L sep
  by_cases h0 : 0 ≤ Lib.index L sep
  · rw [if_pos h0] at h1
    simp at h1
  · omega
theorem ext_head (s : ByteArray) (j : Nat) : s.extract 0 j = bb (s.data.toList.take j) := by
  apply bb_inj
  rw [ext_lst, bb_list]
  simp
theorem ext_tail (s : ByteArray) (j : Nat) : s.extract j s.size = bb (s.data.toList.drop j) := by
  apply bb_inj
  rw [ext_lst, bb_list, List.take_of_length_le]
  rw [List.length_drop, ← size_list]
  exact Nat.le_refl _
theorem suffix_snoc (t : List UInt8) (x : UInt8) : Lib.hasSuffix (t ++ [x]) [42] = decide (x = 42) := by
  unfold Lib.hasSuffix
  rw [Bool.eq_iff_iff, List.isSuffixOf_iff_suffix, decide_eq_true_eq]
  constructor
  · rintro ⟨y, hy⟩
    have := (List.append_inj' hy rfl).2
    simp at this
    exact this.symm
  · rintro rfl
    exact List.suffix_append _ _
theorem star_yes {L a v : List UInt8} (h : L = a ++ 61 :: v) (hv : Lib.hasSuffix v [42] = true) : L[L.length - 1]? = some 42 ∧ Lib.trimSuffix v [42] = (L.drop (a.length + 1)).take (L.length - 1 - (a.length + 1)) ∧ a.length + 1 ≤ L.length - 1 := by
  have hd := suffix_drop hv
  generalize Lib.trimSuffix v [42] = t at *
  subst hd
  subst h
  refine ⟨?_, ?_, ?_⟩
  · rw [show a ++ 61 :: (t ++ [42]) = (a ++ 61 :: t) ++ [42] from by simp]
    rw [List.length_append, List.length_singleton, Nat.add_sub_cancel, List.getElem?_append_right (Nat.le_refl _)]
    simp
  · rw [show a ++ 61 :: (t ++ [42]) = (a ++ [61]) ++ (t ++ [42]) from by simp, List.drop_append_of_le_length (by simp)]
    rw [List.drop_of_length_le (by simp)]
    simp
    rw [show a.length + (t.length + 1) - (a.length + 1) = t.length from by omega]
    simp
  · simp
theorem star_no {L a v : List UInt8} (h : L = a ++ 61 :: v) (hv : Lib.hasSuffix v [42] = false) : L[L.length - 1]? ≠ some 42 := by
  rcases List.eq_nil_or_concat v with h0 | ⟨t, x, h0⟩
  · subst h0
    subst h
    rw [List.length_append, List.length_singleton, Nat.add_sub_cancel, List.getElem?_append_right (Nat.le_refl _)]
    simp
  · rw [List.concat_eq_append] at h0
    subst h0
    rw [suffix_snoc] at hv
    subst h
    rw [show a ++ 61 :: (t ++ [x]) = (a ++ 61 :: t) ++ [x] from by simp]
    rw [List.length_append, List.length_singleton, Nat.add_sub_cancel, List.getElem?_append_right (Nat.le_refl _)]
    simp at hv ⊢
    exact hv
theorem byteNe {a : UInt8} {n : Nat} (hn : n < 256) (h : a ≠ UInt8.ofNat n) : ((a.toNat : Int) == (n : Int)) = false := by
  simp only [beq_eq_false_iff_ne, ne_eq]
  intro e
  apply h
  apply UInt8.toNat_inj.1
  rw [UInt8.toNat_ofNat']
  omega
theorem last_at (s : ByteArray) (h : s.size - 1 < s.size) (x : UInt8) : s.data.toList[s.data.toList.length - 1]? = some x ↔ s[s.size - 1] = x := by
  rw [← size_list]
  rw [List.getElem?_eq_getElem (by rw [← size_list]; exact h)]
  constructor
  · intro h; exact Option.some.inj h
  · intro h; exact congrArg some h

set_option maxHeartbeats 2000000 in
theorem refPart_any (s : ByteArray) (w : World) (hs : s.size ≤ 100000) :
    Calls Tryd.prog 33 #[.string s] w fun e w' => e = .returned (matV (pread s.data.toList)) ∧ Below w.heap.size w w' := by
  have H1 := Lib.hid (fun W => refFindAt_any s (bb [33, 61]) W (by omega) (by decide) (by decide))
  have H2 := Lib.hid (fun W => refFindAt_any s (bb [61]) W (by omega) (by decide) (by decide))
  rw [bb_list] at H1 H2
  have hsl := size_list s
  cases h2 : cutAt [33, 61] s.data.toList with
  | some q =>
    rw [pread_not h2]
    obtain ⟨j, hj, hq, hr⟩ := cut_index (by simp) h2
    rw [hj] at H1
    have e1 : bb q.1 = s.extract 0 j := by rw [hq, ext_head]
    have e2 : bb q.2 = s.extract (j + 2) s.size := by rw [hq, ext_tail]; rfl
    have hr2 : j + 2 ≤ s.size := by rw [hsl]; exact hr
    unfold matV
    dsimp only
    rw [e1, e2]
    clear e1 e2 hq hj h2 H2 hr hsl
    have i1 : (0 : Int) ≤ (j : Int) := by omega
    have i2 : (j : Int) ≤ (s.size : Int) := by omega
    have i3 : (j : Int) + 2 ≤ (s.size : Int) := by omega
    have i4 : ((j : Int) + 2).toNat = j + 2 := by omega
    have i5 : (0 : Int) ≤ (j : Int) + 2 := by omega
    have i6 : IntKind.i64.wrap ((j : Int) + 2) = (j : Int) + 2 := by rw [IntKind.wrap_i64]; omega
    go_enter Tryd.func33, Tryd.ntmps33
    go_wp2_with (first | (go_at_call 46; refine (H1.out _).mono ?_; rintro e w2 ⟨rfl, rfl⟩))
    go_region_with (fail)
    go_wp2_with fail
    exact bodyPost_ret (v := .agg #[.int .i64 2, .string (s.extract 0 j), .string (s.extract (j + 2) s.size)]) (by simp [results, Tryd.results33, go_sem]) rfl ⟨rfl, (aBelow _ _).drew⟩
  | none =>
    rw [cut_index_no (by simp) h2] at H1
    cases h1 : cutAt [61] s.data.toList with
    | none =>
      rw [pread_has h2 h1, bb_eq]
      rw [cut_index_no (by simp) h1] at H2
      clear h1 h2 hsl
      unfold matV
      dsimp only
      go_enter Tryd.func33, Tryd.ntmps33
      go_wp2_with fail
      refine (H1.out _).mono ?_
      rintro e w2 ⟨rfl, rfl⟩
      go_wp2_with fail
      refine (H2.out _).mono ?_
      rintro e w2 ⟨rfl, rfl⟩
      go_wp2_with fail
      exact bodyPost_ret (v := .agg #[.int .i64 4, .string s, .string ⟨#[]⟩]) (by simp [results, Tryd.results33, go_sem]) rfl ⟨rfl, aBelow _ _⟩
    | some q =>
      obtain ⟨j, hj, hq, hr⟩ := cut_index (by simp) h1
      rw [hj] at H2
      have hL := cutAt_some _ _ _ h1
      have hL : s.data.toList = q.1 ++ 61 :: q.2 := hL
      have hja : q.1.length = j := by
        rw [hq]
        show (s.data.toList.take j).length = j
        rw [List.length_take]
        simp at hr
        rw [Nat.min_eq_left]
        simp
        omega
      have e1 : bb q.1 = s.extract 0 j := by rw [hq, ext_head]
      have hr2 : j + 1 ≤ s.size := by rw [hsl]; exact hr
      have hz : s.size - 1 < s.size := by omega
      have hla := last_at s hz 42
      have j1 : ((s.size : Int) - 1) = ((s.size - 1 : Nat) : Int) := by omega
      have i1 : (0 : Int) ≤ (j : Int) := by omega
      have i2 : (j : Int) ≤ (s.size : Int) := by omega
      have i4 : ((j : Int) + 1).toNat = j + 1 := by omega
      have i5 : (0 : Int) ≤ (j : Int) + 1 := by omega
      have i6 : IntKind.i64.wrap ((j : Int) + 1) = (j : Int) + 1 := by rw [IntKind.wrap_i64]; omega
      have i7 : (j : Int) + 1 ≤ (s.size : Int) := by omega
      cases h3 : Lib.hasSuffix q.2 [42]
      · rw [pread_is h2 h1 h3]
        have e2 : bb q.2 = s.extract (j + 1) s.size := by rw [hq, ext_tail]; rfl
        have hl := star_no hL h3
        have hn : s[s.size - 1] ≠ 42 := fun e => hl (hla.2 e)
        have hb : (((s[s.size - 1]).toNat : Int) == 42) = false := byteNe (n := 42) (by omega) hn
        unfold matV
        dsimp only
        rw [e1, e2]
        clear e1 e2 hl hn h3 h1 h2 hja hL hq hj hsl hla hr
        go_enter Tryd.func33, Tryd.ntmps33
        go_wp2_with fail
        refine (H1.out _).mono ?_
        rintro e w2 ⟨rfl, rfl⟩
        go_wp2_with fail
        refine (H2.out _).mono ?_
        rintro e w2 ⟨rfl, rfl⟩
        go_wp2_with fail
        go_region_with (fail)
        go_wp2_with fail
        exact bodyPost_ret (v := .agg #[.int .i64 1, .string (s.extract 0 j), .string (s.extract (j + 1) s.size)]) (by simp [results, Tryd.results33, go_sem]) rfl ⟨rfl, (aBelow _ _).drew⟩
      · rw [pread_pre h2 h1 h3]
        obtain ⟨s1, s2, s3⟩ := star_yes hL h3
        rw [hja, ← hsl] at s2 s3
        have e2 : bb (Lib.trimSuffix q.2 [42]) = s.extract (j + 1) (s.size - 1) := by
          apply bb_inj
          rw [bb_list, ext_lst, s2]
        have hn : s[s.size - 1] = 42 := hla.1 s1
        have hb : (((s[s.size - 1]).toNat : Int) == 42) = true := by rw [hn]; rfl
        have i8 : (j : Int) + 1 ≤ (s.size : Int) - 1 := by omega
        have i9 : ((s.size : Int) - 1).toNat = s.size - 1 := by omega
        unfold matV
        dsimp only
        rw [e1, e2]
        clear e1 e2 hn h3 h1 h2 hja hL hq hj hsl hla hr s1 s2
        go_enter Tryd.func33, Tryd.ntmps33
        go_wp2_with fail
        refine (H1.out _).mono ?_
        rintro e w2 ⟨rfl, rfl⟩
        go_wp2_with fail
        refine (H2.out _).mono ?_
        rintro e w2 ⟨rfl, rfl⟩
        go_wp2_with fail
        clear j1
        have k1 : IntKind.i64.wrap ((s.size : Int) - 1) = (s.size : Int) - 1 := by rw [IntKind.wrap_i64]; omega
        have k2 : (s.size : Int) - 1 ≤ (s.size : Int) := by omega
        have k3 : (0 : Int) ≤ (s.size : Int) - 1 := by omega
        have k4 : ((s.size - 1 : Nat) : Int) = (s.size : Int) - 1 := by omega
        go_region_with (fail)
        go_wp2_with fail
        exact bodyPost_ret (v := .agg #[.int .i64 3, .string (s.extract 0 j), .string (s.extract (j + 1) (s.size - 1))]) (by simp [results, Tryd.results33, go_sem]) rfl ⟨rfl, (aBelow _ _).drew⟩
end Go.Proofs.YtolmgfeljpalgaaDoor
