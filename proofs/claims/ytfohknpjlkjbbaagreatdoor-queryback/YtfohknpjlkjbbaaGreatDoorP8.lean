/- Walks: a part's match: the program's read and the document's part. Walks: a part's match: the document's part. -/
import Derived.Test.YtfohknpjlkjbbaaGreatDoorP5
import Derived.Deep.RegionHeld3
namespace Go.Proofs.YtfohknpjlkjbbaaGreatDoor
open Go Go.RowKit Tg Pk

def matV (m : Match) : Value := .agg #[.int .i64 m.1, .string m.2.1, .string m.2.2]
theorem cutB_none (s : ByteArray) (c : UInt8) (sep : List UInt8) (hs : s.size ≤ 100000) (h : cutAt (c :: sep) s.data.toList = none) (W : World) (hE : Env W) :
    Calls Tryz.prog 88 #[.string s, .string (bb (c :: sep))] W fun e w' => e = .returned (.tuple #[.string s, .string ⟨#[]⟩, .bool false]) ∧ ∃ n, w' = W.drewN n := by
  obtain ⟨m, hm⟩ := hE
  have H := Tryz.strings_Cut s (bb (c :: sep)) m W (by omega) hm
  rw [bb_list, cutAt_eq _ (by simp), h] at H
  have e : (⟨s.data.toList.toArray⟩ : ByteArray) = s := bb_eq s
  simp only [e] at H
  exact H
theorem cutB_some (s : ByteArray) (c : UInt8) (sep : List UInt8) (q : List UInt8 × List UInt8) (hs : s.size ≤ 100000) (h : cutAt (c :: sep) s.data.toList = some q) (W : World) (hE : Env W) :
    Calls Tryz.prog 88 #[.string s, .string (bb (c :: sep))] W fun e w' => e = .returned (.tuple #[.string (bb q.1), .string (bb q.2), .bool true]) ∧ ∃ n, w' = W.drewN n := by
  obtain ⟨m, hm⟩ := hE
  have H := Tryz.strings_Cut s (bb (c :: sep)) m W (by omega) hm
  rw [bb_list, cutAt_eq _ (by simp), h] at H
  exact H
theorem pread_not {p : List UInt8} {q : List UInt8 × List UInt8} (h : cutAt [33, 61] p = some q) : pread p = (2, bb q.1, bb q.2) := by unfold pread; rw [h]
theorem pread_has {p : List UInt8} (h : cutAt [33, 61] p = none) (h2 : cutAt [61] p = none) : pread p = (4, bb p, bb []) := by unfold pread; rw [h, h2]
theorem pread_pre {p : List UInt8} {q : List UInt8 × List UInt8} (h : cutAt [33, 61] p = none) (h2 : cutAt [61] p = some q) (h3 : Lib.hasSuffix q.2 [42] = true) : pread p = (3, bb q.1, bb (Lib.trimSuffix q.2 [42])) := by unfold pread; rw [h, h2]; simp only [h3, if_true]
theorem pread_is {p : List UInt8} {q : List UInt8 × List UInt8} (h : cutAt [33, 61] p = none) (h2 : cutAt [61] p = some q) (h3 : Lib.hasSuffix q.2 [42] = false) : pread p = (1, bb q.1, bb q.2) := by unfold pread; rw [h, h2]; simp only [h3, Bool.false_eq_true, if_false]
theorem Env.drewN {w : World} (h : Env w) (n : Nat) : Env (w.drewN n) := h
theorem sized_bb (l : List UInt8) : (bb l).size = l.length := by show l.toArray.size = _; simp
theorem d3 (w : World) (o : Obj) (n : Nat) (x y z : Value) : Below w.heap.size w (((((w.alloc o).drewN n).setCell ⟨w.heap.size, 0, none⟩ x).setCell ⟨w.heap.size, 1, none⟩ y).setCell ⟨w.heap.size, 2, none⟩ z) :=
  (((below_drewN (aBelow _ _) n).setCell (p := ⟨w.heap.size, 0, none⟩) (Nat.le_refl _) _).setCell (p := ⟨w.heap.size, 1, none⟩) (Nat.le_refl _) _).setCell (p := ⟨w.heap.size, 2, none⟩) (Nat.le_refl _) _

set_option maxHeartbeats 1000000 in
theorem read_any (s : ByteArray) (w : World) (hE : Env w) (hs : s.size ≤ 100000) :
    Calls Tryz.prog 104 #[.string s] w fun e w' => e = .returned (matV (pread s.data.toList)) ∧ Below w.heap.size w w' := by
  cases h2 : cutAt [33, 61] s.data.toList with
  | some q =>
    have H1 := Lib.hid (fun W hE => cutB_some s 33 [61] q hs h2 W hE)
    rw [pread_not h2]
    have hE1 := fun o => hE.alloc o
    clear h2 hE
    unfold matV
    dsimp only
    generalize bb q.1 = n at *
    generalize bb q.2 = v at *
    go_enter Tryz.func104, Tryz.ntmps104
    go_wp2_with (first | (go_at_call 88; refine (H1.out _ (hE1 _)).mono ?_; rintro e w2 ⟨rfl, j, rfl⟩))
    exact bodyPost_ret (v := .agg #[.int .i64 2, .string n, .string v]) (by simp [results, Tryz.results104, go_sem]) rfl ⟨rfl, d3 _ _ _ _ _ _⟩
  | none =>
    have H1 := Lib.hid (fun W hE => cutB_none s 33 [61] hs h2 W hE)
    cases h1 : cutAt [61] s.data.toList with
    | none =>
      have H2 := Lib.hid (fun W hE => cutB_none s 61 [] hs h1 W hE)
      rw [pread_has h2 h1, bb_eq]
      have hE1 := fun o => hE.alloc o
      have hE2 := fun o n => (hE.alloc o).drewN n
      clear h1 h2 hE
      unfold matV
      dsimp only
      go_enter Tryz.func104, Tryz.ntmps104
      go_wp2_with fail
      refine (H1.out _ (hE1 _)).mono ?_
      rintro e w2 ⟨rfl, j, rfl⟩
      go_wp2_with fail
      refine (H2.out _ (hE2 _ _)).mono ?_
      rintro e w2 ⟨rfl, j2, rfl⟩
      go_wp2_with fail
      exact bodyPost_ret (v := .agg #[.int .i64 4, .string s, .string ⟨#[]⟩]) (by simp [results, Tryz.results104, go_sem]) rfl ⟨rfl, d3 _ _ _ _ _ _⟩
    | some q =>
      have H2 := Lib.hid (fun W hE => cutB_some s 61 [] q hs h1 W hE)
      have hq := congrArg List.length (cutAt_some _ _ _ h1)
      simp at hq
      have hsl := size_list s
      rw [Array.length_toList] at hsl
      have HX := Lib.hid (fun W => Tryz.strings_CutSuffix (bb q.2) (bb [42]) W (by rw [sized_bb]; omega))
      rw [bb_list, bb_list] at HX
      have hE1 := fun o => hE.alloc o
      have hE2 := fun o n => (hE.alloc o).drewN n
      clear hq hsl hE
      cases h3 : Lib.hasSuffix q.2 [42]
      · rw [pread_is h2 h1 h3]
        rw [h3] at HX
        clear h1 h2 h3
        unfold matV
        dsimp only
        generalize bb q.1 = n at *
        generalize bb q.2 = v at *
        generalize (⟨(Lib.trimSuffix q.2 [42]).toArray⟩ : ByteArray) = u at *
        go_enter Tryz.func104, Tryz.ntmps104
        go_wp2_with fail
        refine (H1.out _ (hE1 _)).mono ?_
        rintro e w2 ⟨rfl, j, rfl⟩
        go_wp2_with fail
        refine (H2.out _ (hE2 _ _)).mono ?_
        rintro e w2 ⟨rfl, j2, rfl⟩
        go_wp2_with fail
        refine (HX.out _).mono ?_
        rintro e w2 ⟨rfl, rfl⟩
        go_wp2_with fail
        exact bodyPost_ret (v := .agg #[.int .i64 1, .string n, .string v]) (by simp [results, Tryz.results104, go_sem]) rfl ⟨rfl, d3 _ _ _ _ _ _⟩
      · rw [pread_pre h2 h1 h3]
        rw [h3] at HX
        clear h1 h2 h3
        unfold matV
        dsimp only
        rw [show bb (Lib.trimSuffix q.2 [42]) = (⟨(Lib.trimSuffix q.2 [42]).toArray⟩ : ByteArray) from rfl]
        generalize bb q.1 = n at *
        generalize bb q.2 = v at *
        generalize (⟨(Lib.trimSuffix q.2 [42]).toArray⟩ : ByteArray) = u at *
        go_enter Tryz.func104, Tryz.ntmps104
        go_wp2_with fail
        refine (H1.out _ (hE1 _)).mono ?_
        rintro e w2 ⟨rfl, j, rfl⟩
        go_wp2_with fail
        refine (H2.out _ (hE2 _ _)).mono ?_
        rintro e w2 ⟨rfl, j2, rfl⟩
        go_wp2_with fail
        refine (HX.out _).mono ?_
        rintro e w2 ⟨rfl, rfl⟩
        go_wp2_with fail
        exact bodyPost_ret (v := .agg #[.int .i64 3, .string n, .string u]) (by simp [results, Tryz.results104, go_sem]) rfl ⟨rfl, d3 _ _ _ _ _ _⟩
end Go.Proofs.YtfohknpjlkjbbaaGreatDoor
namespace Go.Proofs.YtfohknpjlkjbbaaGreatDoor
open Go Go.RowKit Tg Pk

theorem cut_index {sep L : List UInt8} {q : List UInt8 × List UInt8} (hs : sep ≠ []) (h : cutAt sep L = some q) : ∃ j : Nat, Lib.index L sep = (j : Int) ∧ q = (L.take j, L.drop (j + sep.length)) ∧ j + sep.length ≤ L.length := by
  have h1 := cutAt_eq sep hs L
  rw [h] at h1
  unfold Lib.cut at h1
  by_cases h0 : 0 ≤ Lib.index L sep
  · rw [if_pos h0] at h1
    have hr := Lib.index_room L sep h0
    refine ⟨(Lib.index L sep).toNat, by omega, ?_, by omega⟩
    simp only [Prod.mk.injEq, and_true] at h1
    exact Prod.ext h1.1.symm h1.2.symm
  · rw [if_neg h0] at h1
    simp at h1
theorem cut_index_no {sep L : List UInt8} (hs : sep ≠ []) (h : cutAt sep L = none) : Lib.index L sep = -1 := by
  have h1 := cutAt_eq sep hs L
  rw [h] at h1
  unfold Lib.cut at h1
  have hg := Lib.index_ge L sep
  by_cases h0 : 0 ≤ Lib.index L sep
  · rw [if_pos h0] at h1
    simp at h1
  · omega
theorem ext_head (s : ByteArray) (j : Nat) : s.extract 0 j = bb (s.data.toList.take j) := by
  apply bb_inj
  rw [ext_lst, bb_list]
  simp
theorem ext_tail (s : ByteArray) (j : Nat) : s.extract j s.size = bb (s.data.toList.drop j) := by
  apply bb_inj
  rw [ext_lst, bb_list, List.take_of_length_le]
  rw [List.length_drop, ← size_list]
  exact Nat.le_refl _
theorem suffix_snoc (t : List UInt8) (x : UInt8) : Lib.hasSuffix (t ++ [x]) [42] = decide (x = 42) := by
  unfold Lib.hasSuffix
  rw [Bool.eq_iff_iff, List.isSuffixOf_iff_suffix, decide_eq_true_eq]
  constructor
  · rintro ⟨y, hy⟩
    have := (List.append_inj' hy rfl).2
    simp at this
    exact this.symm
  · rintro rfl
    exact List.suffix_append _ _
theorem star_yes {L a v : List UInt8} (h : L = a ++ 61 :: v) (hv : Lib.hasSuffix v [42] = true) : L[L.length - 1]? = some 42 ∧ Lib.trimSuffix v [42] = (L.drop (a.length + 1)).take (L.length - 1 - (a.length + 1)) ∧ a.length + 1 ≤ L.length - 1 := by
  have hd := suffix_drop hv
  generalize Lib.trimSuffix v [42] = t at *
  subst hd
  subst h
  refine ⟨?_, ?_, ?_⟩
  · rw [show a ++ 61 :: (t ++ [42]) = (a ++ 61 :: t) ++ [42] from by simp]
    rw [List.length_append, List.length_singleton, Nat.add_sub_cancel, List.getElem?_append_right (Nat.le_refl _)]
    simp
  · rw [show a ++ 61 :: (t ++ [42]) = (a ++ [61]) ++ (t ++ [42]) from by simp, List.drop_append_of_le_length (by simp)]
    rw [List.drop_of_length_le (by simp)]
    simp
    rw [show a.length + (t.length + 1) - (a.length + 1) = t.length from by omega]
    simp
  · simp
theorem star_no {L a v : List UInt8} (h : L = a ++ 61 :: v) (hv : Lib.hasSuffix v [42] = false) : L[L.length - 1]? ≠ some 42 := by
  rcases List.eq_nil_or_concat v with h0 | ⟨t, x, h0⟩
  · subst h0
    subst h
    rw [List.length_append, List.length_singleton, Nat.add_sub_cancel, List.getElem?_append_right (Nat.le_refl _)]
    simp
  · rw [List.concat_eq_append] at h0
    subst h0
    rw [suffix_snoc] at hv
    subst h
    rw [show a ++ 61 :: (t ++ [x]) = (a ++ 61 :: t) ++ [x] from by simp]
    rw [List.length_append, List.length_singleton, Nat.add_sub_cancel, List.getElem?_append_right (Nat.le_refl _)]
    simp at hv ⊢
    exact hv
theorem byteNe {a : UInt8} {n : Nat} (hn : n < 256) (h : a ≠ UInt8.ofNat n) : ((a.toNat : Int) == (n : Int)) = false := by
  simp only [beq_eq_false_iff_ne, ne_eq]
  intro e
  apply h
  apply UInt8.toNat_inj.1
  rw [UInt8.toNat_ofNat']
  omega
theorem last_at (s : ByteArray) (h : s.size - 1 < s.size) (x : UInt8) : s.data.toList[s.data.toList.length - 1]? = some x ↔ s[s.size - 1] = x := by
  rw [← size_list]
  rw [List.getElem?_eq_getElem (by rw [← size_list]; exact h)]
  constructor
  · intro h; exact Option.some.inj h
  · intro h; exact congrArg some h

set_option maxHeartbeats 2000000 in
theorem refPart_any (s : ByteArray) (w : World) (hs : s.size ≤ 100000) :
    Calls Tryz.prog 73 #[.string s] w fun e w' => e = .returned (matV (pread s.data.toList)) ∧ Below w.heap.size w w' := by
  have H1 := Lib.hid (fun W => refFindAt_any s (bb [33, 61]) W (by omega) (by decide) (by decide))
  have H2 := Lib.hid (fun W => refFindAt_any s (bb [61]) W (by omega) (by decide) (by decide))
  rw [bb_list] at H1 H2
  have hsl := size_list s
  cases h2 : cutAt [33, 61] s.data.toList with
  | some q =>
    rw [pread_not h2]
    obtain ⟨j, hj, hq, hr⟩ := cut_index (by simp) h2
    rw [hj] at H1
    have e1 : bb q.1 = s.extract 0 j := by rw [hq, ext_head]
    have e2 : bb q.2 = s.extract (j + 2) s.size := by rw [hq, ext_tail]; rfl
    have hr2 : j + 2 ≤ s.size := by rw [hsl]; exact hr
    unfold matV
    dsimp only
    rw [e1, e2]
    clear e1 e2 hq hj h2 H2 hr hsl
    have i1 : (0 : Int) ≤ (j : Int) := by omega
    have i2 : (j : Int) ≤ (s.size : Int) := by omega
    have i3 : (j : Int) + 2 ≤ (s.size : Int) := by omega
    have i4 : ((j : Int) + 2).toNat = j + 2 := by omega
    have i5 : (0 : Int) ≤ (j : Int) + 2 := by omega
    have i6 : IntKind.i64.wrap ((j : Int) + 2) = (j : Int) + 2 := by rw [IntKind.wrap_i64]; omega
    go_enter Tryz.func73, Tryz.ntmps73
    go_wp2_with (first | (go_at_call 91; refine (H1.out _).mono ?_; rintro e w2 ⟨rfl, rfl⟩))
    go_region_with (fail)
    go_wp2_with fail
    exact bodyPost_ret (v := .agg #[.int .i64 2, .string (s.extract 0 j), .string (s.extract (j + 2) s.size)]) (by simp [results, Tryz.results73, go_sem]) rfl ⟨rfl, (aBelow _ _).drew⟩
  | none =>
    rw [cut_index_no (by simp) h2] at H1
    cases h1 : cutAt [61] s.data.toList with
    | none =>
      rw [pread_has h2 h1, bb_eq]
      rw [cut_index_no (by simp) h1] at H2
      clear h1 h2 hsl
      unfold matV
      dsimp only
      go_enter Tryz.func73, Tryz.ntmps73
      go_wp2_with fail
      refine (H1.out _).mono ?_
      rintro e w2 ⟨rfl, rfl⟩
      go_wp2_with fail
      refine (H2.out _).mono ?_
      rintro e w2 ⟨rfl, rfl⟩
      go_wp2_with fail
      exact bodyPost_ret (v := .agg #[.int .i64 4, .string s, .string ⟨#[]⟩]) (by simp [results, Tryz.results73, go_sem]) rfl ⟨rfl, aBelow _ _⟩
    | some q =>
      obtain ⟨j, hj, hq, hr⟩ := cut_index (by simp) h1
      rw [hj] at H2
      have hL := cutAt_some _ _ _ h1
      have hL : s.data.toList = q.1 ++ 61 :: q.2 := hL
      have hja : q.1.length = j := by
        rw [hq]
        show (s.data.toList.take j).length = j
        rw [List.length_take]
        simp at hr
        rw [Nat.min_eq_left]
        simp
        omega
      have e1 : bb q.1 = s.extract 0 j := by rw [hq, ext_head]
      have hr2 : j + 1 ≤ s.size := by rw [hsl]; exact hr
      have hz : s.size - 1 < s.size := by omega
      have hla := last_at s hz 42
      have j1 : ((s.size : Int) - 1) = ((s.size - 1 : Nat) : Int) := by omega
      have i1 : (0 : Int) ≤ (j : Int) := by omega
      have i2 : (j : Int) ≤ (s.size : Int) := by omega
      have i4 : ((j : Int) + 1).toNat = j + 1 := by omega
      have i5 : (0 : Int) ≤ (j : Int) + 1 := by omega
      have i6 : IntKind.i64.wrap ((j : Int) + 1) = (j : Int) + 1 := by rw [IntKind.wrap_i64]; omega
      have i7 : (j : Int) + 1 ≤ (s.size : Int) := by omega
      cases h3 : Lib.hasSuffix q.2 [42]
      · rw [pread_is h2 h1 h3]
        have e2 : bb q.2 = s.extract (j + 1) s.size := by rw [hq, ext_tail]; rfl
        have hl := star_no hL h3
        have hn : s[s.size - 1] ≠ 42 := fun e => hl (hla.2 e)
        have hb : (((s[s.size - 1]).toNat : Int) == 42) = false := byteNe (n := 42) (by omega) hn
        unfold matV
        dsimp only
        rw [e1, e2]
        clear e1 e2 hl hn h3 h1 h2 hja hL hq hj hsl hla hr
        go_enter Tryz.func73, Tryz.ntmps73
        go_wp2_with fail
        refine (H1.out _).mono ?_
        rintro e w2 ⟨rfl, rfl⟩
        go_wp2_with fail
        refine (H2.out _).mono ?_
        rintro e w2 ⟨rfl, rfl⟩
        go_wp2_with fail
        go_region_with (fail)
        go_wp2_with fail
        exact bodyPost_ret (v := .agg #[.int .i64 1, .string (s.extract 0 j), .string (s.extract (j + 1) s.size)]) (by simp [results, Tryz.results73, go_sem]) rfl ⟨rfl, (aBelow _ _).drew⟩
      · rw [pread_pre h2 h1 h3]
        obtain ⟨s1, s2, s3⟩ := star_yes hL h3
        rw [hja, ← hsl] at s2 s3
        have e2 : bb (Lib.trimSuffix q.2 [42]) = s.extract (j + 1) (s.size - 1) := by
          apply bb_inj
          rw [bb_list, ext_lst, s2]
        have hn : s[s.size - 1] = 42 := hla.1 s1
        have hb : (((s[s.size - 1]).toNat : Int) == 42) = true := by rw [hn]; rfl
        have i8 : (j : Int) + 1 ≤ (s.size : Int) - 1 := by omega
        have i9 : ((s.size : Int) - 1).toNat = s.size - 1 := by omega
        unfold matV
        dsimp only
        rw [e1, e2]
        clear e1 e2 hn h3 h1 h2 hja hL hq hj hsl hla hr s1 s2
        go_enter Tryz.func73, Tryz.ntmps73
        go_wp2_with fail
        refine (H1.out _).mono ?_
        rintro e w2 ⟨rfl, rfl⟩
        go_wp2_with fail
        refine (H2.out _).mono ?_
        rintro e w2 ⟨rfl, rfl⟩
        go_wp2_with fail
        clear j1
        have k1 : IntKind.i64.wrap ((s.size : Int) - 1) = (s.size : Int) - 1 := by rw [IntKind.wrap_i64]; omega
        have k2 : (s.size : Int) - 1 ≤ (s.size : Int) := by omega
        have k3 : (0 : Int) ≤ (s.size : Int) - 1 := by omega
        have k4 : ((s.size - 1 : Nat) : Int) = (s.size : Int) - 1 := by omega
        go_region_with (fail)
        go_wp2_with fail
        exact bodyPost_ret (v := .agg #[.int .i64 3, .string (s.extract 0 j), .string (s.extract (j + 1) (s.size - 1))]) (by simp [results, Tryz.results73, go_sem]) rfl ⟨rfl, (aBelow _ _).drew⟩
end Go.Proofs.YtfohknpjlkjbbaaGreatDoor
