/- Walks: key.Parse over the library's contracts; the document's Parse. -/
import Derived.Test.YtfjbbaejeckonaaDoorK4
namespace Go.Proofs.YtfjbbaejeckonaaDoor
open Go Go.RowKit Tg Ky

theorem kparse_any (s : ByteArray) (w : World) (hE : Env w) (hs : s.size ≤ 900) :
    Calls Tryd.prog 19 #[.string s] w fun e w' => (∃ kv, e = .returned (.tuple #[kv, .int .i64 (kparse s.data.toList).2]) ∧ KRow w' kv (kparse s.data.toList).1) ∧ Below w.heap.size w w' := by
  have hsl := size_l s
  have HK : ∀ W, Env W → Calls Tryd.prog 30 #[.string s, .string ⟨#[123]⟩] W fun e w' => e = .returned (.tuple #[.string ⟨(Lib.cut s.data.toList [123]).1.toArray⟩, .string ⟨(Lib.cut s.data.toList [123]).2.1.toArray⟩, .bool (Lib.cut s.data.toList [123]).2.2]) ∧ ∃ q, w' = W.drewN q := by
    rintro W ⟨m, hm⟩
    exact Tryd.strings_Cut s ⟨#[123]⟩ m W (by omega) hm
  rw [cutC_eq] at HK
  cases hc : cutC 123 s.data.toList with
  | none =>
    rw [hc] at HK
    have hk : kcut s.data.toList = some (s.data.toList, []) := by unfold kcut; rw [hc]
    have hp : kparse s.data.toList = kmk ⟨s.data.toList.toArray⟩ (parse (⟨([] : List UInt8).toArray⟩ : ByteArray).data.toList) := by unfold kparse; rw [hk]
    rw [hp]
    refine kparse_go s ⟨s.data.toList.toArray⟩ ⟨([] : List UInt8).toArray⟩ ⟨([] : List UInt8).toArray⟩ false false w hE (by decide) (by rw [ba_of]; omega) HK ?_ (Or.inl rfl)
    intro W
    exact Tryd.strings_CutSuffix ⟨([] : List UInt8).toArray⟩ ⟨#[125]⟩ W (by decide)
  | some p =>
    rw [hc] at HK
    have hL := cutC_some 123 _ _ hc
    have hl : s.data.toList.length = p.1.length + (p.2.length + 1) := by rw [hL]; simp
    have z1 : (⟨p.1.toArray⟩ : ByteArray).size ≤ 900 := by
      rw [← size_l]; show p.1.toArray.toList.length ≤ 900; simp; omega
    have z2 : (⟨p.2.toArray⟩ : ByteArray).size ≤ 900 := by
      rw [← size_l]; show p.2.toArray.toList.length ≤ 900; simp; omega
    have ht : (Lib.trimSuffix p.2 [125]).length ≤ p.2.length := by
      unfold Lib.trimSuffix
      split
      · simp
      · exact Nat.le_refl _
    have z3 : (⟨(Lib.trimSuffix p.2 [125]).toArray⟩ : ByteArray).size ≤ 900 := by
      rw [← size_l]; show (Lib.trimSuffix p.2 [125]).toArray.toList.length ≤ 900; simp; omega
    have HF : ∀ W, Calls Tryd.prog 31 #[.string ⟨p.2.toArray⟩, .string ⟨#[125]⟩] W fun e w' => e = .returned (.tuple #[.string ⟨(Lib.trimSuffix p.2 [125]).toArray⟩, .bool (Lib.hasSuffix p.2 [125])]) ∧ w' = W := by
      intro W
      have h := Tryd.strings_CutSuffix ⟨p.2.toArray⟩ ⟨#[125]⟩ W (by omega)
      rw [show (⟨p.2.toArray⟩ : ByteArray).data.toList = p.2 by simp, show (⟨#[125]⟩ : ByteArray).data.toList = [125] from rfl] at h
      exact h
    have hbe : ∀ l : List UInt8, ((⟨l.toArray⟩ : ByteArray).toList == []) = l.isEmpty := by
      intro l
      rw [ByteArray.toList_eq]
      show (l.toArray.toList == []) = _
      rw [List.toList_toArray]
      cases l <;> rfl
    cases hs5 : Lib.hasSuffix p.2 [125]
    · have hk : kcut s.data.toList = none := by unfold kcut; rw [hc]; simp [hs5]
      have hp : kparse s.data.toList = (none0, 2) := by unfold kparse; rw [hk]
      rw [hp]
      rw [hs5] at HF
      exact kparse_no s _ _ _ false w hE HK HF (Or.inl rfl)
    · rw [hs5] at HF
      cases he : (Lib.trimSuffix p.2 [125]).isEmpty
      · have hk : kcut s.data.toList = some (p.1, Lib.trimSuffix p.2 [125]) := by unfold kcut; rw [hc]; simp only [hs5, he]; rfl
        have hp : kparse s.data.toList = kmk ⟨p.1.toArray⟩ (parse (⟨(Lib.trimSuffix p.2 [125]).toArray⟩ : ByteArray).data.toList) := by unfold kparse; rw [hk]
        rw [hp]
        exact kparse_go s _ _ _ true true w hE z3 (by omega) HK HF (Or.inr ⟨rfl, rfl, by rw [hbe, he]⟩)
      · have hk : kcut s.data.toList = none := by unfold kcut; rw [hc]; simp only [hs5, he]; rfl
        have hp : kparse s.data.toList = (none0, 2) := by unfold kparse; rw [hk]
        rw [hp]
        exact kparse_no s _ _ _ true w hE HK HF (Or.inr ⟨rfl, by rw [hbe, he]⟩)

set_option maxHeartbeats 400000 in
theorem refKparse_no (s n i : ByteArray) (w : World)
    (HK : ∀ W, Calls Tryd.prog 33 #[.string s] W fun e w' => e = .returned (.tuple #[.string n, .string i, .bool false]) ∧ Below W.heap.size W w') :
    Calls Tryd.prog 20 #[.string s] w fun e w' => (∃ kv, e = .returned (.tuple #[kv, .int .i64 2]) ∧ KRow w' kv none0) ∧ Below w.heap.size w w' := by
  have HK := Lib.hid HK
  go_enter Tryd.func20, Tryd.ntmps20
  go_wp2_with fail
  refine (HK.out _).mono ?_
  rintro e w2 ⟨rfl, n2⟩
  have c0 := newC (i := 0) n2
  have c1 := newC (i := 1) n2
  have f0 := keepF (b := w.heap.size) (off := 0) (x := false) n2 (by simp [go_sem]) (by simp)
  have f1 := keepF (b := w.heap.size) (off := 1) (x := false) n2 (by simp [go_sem]) (by simp)
  have d2 := belowA n2
  simp at c0 c1
  clear n2 HK
  go_wp2_with fail
  exact bodyPost_ret (v := .tuple #[.agg #[.string ⟨#[]⟩, .slice none 0 0], .int .i64 2]) (by simp [results, Tryd.results20, go_sem, c0, c1]) rfl ⟨⟨_, rfl, none_row _⟩, (d2.setCell (Nat.le_refl _) _).setCell (Nat.le_refl _) _⟩

set_option maxHeartbeats 400000 in
theorem refKparse_go (s n i : ByteArray) (w : World) (hi : i.size ≤ 900) (hz : n.size ≤ 281474976710656)
    (HK : ∀ W, Calls Tryd.prog 33 #[.string s] W fun e w' => e = .returned (.tuple #[.string n, .string i, .bool true]) ∧ Below W.heap.size W w') :
    Calls Tryd.prog 20 #[.string s] w fun e w' => (∃ kv, e = .returned (.tuple #[kv, .int .i64 (kmk n (parse i.data.toList)).2]) ∧ KRow w' kv (kmk n (parse i.data.toList)).1) ∧ Below w.heap.size w w' := by
  have HK := Lib.hid HK
  have H1 := fun W => refName_any n W (by omega)
  have H2 := fun w1 => refParse_any i w1 hi
  cases hp : Word.name n.data.toList
  · rw [show kmk n (parse i.data.toList) = (none0, 2) from kmk_no hp]
    rw [hp] at H1
    have H1 := Lib.hid H1
    clear H2 hz hp
    go_enter Tryd.func20, Tryd.ntmps20
    go_wp2_with fail
    refine (HK.out _).mono ?_
    rintro e w2 ⟨rfl, n2⟩
    have c0 := newC (i := 0) n2
    have c1 := newC (i := 1) n2
    have f0 := keepF (b := w.heap.size) (off := 0) (x := false) n2 (by simp [go_sem]) (by simp)
    have f1 := keepF (b := w.heap.size) (off := 1) (x := false) n2 (by simp [go_sem]) (by simp)
    have d2 := belowA n2
    simp at c0 c1
    clear n2 HK
    go_wp2_with (first
      | (go_at_call 23; refine (H1.out _).mono ?_; rintro e w' ⟨rfl, hw⟩; have hw := hw.symm; subst hw))
    exact bodyPost_ret (v := .tuple #[.agg #[.string ⟨#[]⟩, .slice none 0 0], .int .i64 2]) (by simp [results, Tryd.results20, go_sem, c0, c1]) rfl ⟨⟨_, rfl, none_row _⟩, (d2.setCell (Nat.le_refl _) _).setCell (Nat.le_refl _) _⟩
  · rw [hp] at H1
    have HM := fun (h2 : (parse i.data.toList).2 = 0) => kmk_is (n := n) (p := parse i.data.toList) hp h2
    have HE := fun (h2 : ¬ (parse i.data.toList).2 = 0) => kmk_er (n := n) (p := parse i.data.toList) hp h2
    have H1 := Lib.hid H1
    have H2 := Lib.hid H2
    clear hz hp
    generalize parse i.data.toList = C at *
    by_cases hC : C.2 = 0
    · rw [HM hC]
      have hq : (C.2 == 0) = true := by simp [hC]
      clear HM HE
      go_enter Tryd.func20, Tryd.ntmps20
      go_wp2_with fail
      refine (HK.out _).mono ?_
      rintro e w1 ⟨rfl, n1⟩
      go_wp2_with (first
        | (go_at_call 23; refine (H1.out _).mono ?_; rintro e w' ⟨rfl, hw⟩; have hw := hw.symm; subst hw))
      refine (H2.out _).mono ?_
      rintro e w2 ⟨⟨v2, rfl, hr2⟩, n2⟩
      have n2 := n1.trans (n2.mono n1.size)
      have hc := fun i => newC (i := i) n2
      have c0 := hc 0
      have c1 := hc 1
      have f0 := keepF (b := w.heap.size) (off := 0) (x := false) n2 (by simp [go_sem]) (by simp)
      have f1 := keepF (b := w.heap.size) (off := 1) (x := false) n2 (by simp [go_sem]) (by simp)
      have d2 := belowA n2
      simp at c0 c1
      obtain ⟨a2, cp2, rfl, hcp2, hat2⟩ := hr2
      have hr2 : TRow w2 (.slice a2 C.1.length cp2) C.1 := ⟨a2, cp2, rfl, hcp2, hat2⟩
      have hr3 := row_set hr2 hc (.string n) (.slice a2 C.1.length cp2)
      have HR := Lib.hid hr3
      clear hat2 hr2 hr3 n1 n2 H1 H2 hc
      go_wp2_with fail
      exact bodyPost_ret (v := .tuple #[.agg #[.string n, .slice a2 C.1.length cp2], .int .i64 0]) (by simp [results, Tryd.results20, go_sem, c0, c1]) rfl ⟨⟨_, rfl, ⟨_, rfl, HR.out⟩⟩, (d2.setCell (Nat.le_refl _) _).setCell (Nat.le_refl _) _⟩
    · rw [HE hC]
      have hq : (C.2 == 0) = false := by simp [hC]
      clear HM HE
      go_enter Tryd.func20, Tryd.ntmps20
      go_wp2_with fail
      refine (HK.out _).mono ?_
      rintro e w1 ⟨rfl, n1⟩
      go_wp2_with (first
        | (go_at_call 23; refine (H1.out _).mono ?_; rintro e w' ⟨rfl, hw⟩; have hw := hw.symm; subst hw))
      refine (H2.out _).mono ?_
      rintro e w2 ⟨⟨v2, rfl, hr2⟩, n2⟩
      have n2 := n1.trans (n2.mono n1.size)
      have c0 := newC (i := 0) n2
      have c1 := newC (i := 1) n2
      have f0 := keepF (b := w.heap.size) (off := 0) (x := false) n2 (by simp [go_sem]) (by simp)
      have f1 := keepF (b := w.heap.size) (off := 1) (x := false) n2 (by simp [go_sem]) (by simp)
      have d2 := belowA n2
      simp at c0 c1
      clear n1 n2 H1 H2 hr2
      go_wp2_with fail
      exact bodyPost_ret (v := .tuple #[.agg #[.string ⟨#[]⟩, .slice none 0 0], .int .i64 C.2]) (by simp [results, Tryd.results20, go_sem, c0, c1]) rfl ⟨⟨_, rfl, none_row _⟩, (d2.setCell (Nat.le_refl _) _).setCell (Nat.le_refl _) _⟩

theorem refKparse_any (s : ByteArray) (w : World) (hs : s.size ≤ 900) :
    Calls Tryd.prog 20 #[.string s] w fun e w' => (∃ kv, e = .returned (.tuple #[kv, .int .i64 (kparse s.data.toList).2]) ∧ KRow w' kv (kparse s.data.toList).1) ∧ Below w.heap.size w w' := by
  have hsl := size_l s
  have HK := fun W => refCut_any s W (by omega)
  cases hc : kcut s.data.toList with
  | none =>
    have hb : kcutB s = (⟨#[]⟩, ⟨#[]⟩, false) := by unfold kcutB; rw [hc]
    have hp : kparse s.data.toList = (none0, 2) := by unfold kparse; rw [hc]
    rw [hb] at HK
    rw [hp]
    exact refKparse_no s _ _ w HK
  | some p =>
    have hb : kcutB s = (bb p.1, bb p.2, true) := by unfold kcutB; rw [hc]
    obtain ⟨l1, l2⟩ := kcut_len hc
    have hp : kparse s.data.toList = kmk (bb p.1) (parse (bb p.2).data.toList) := by unfold kparse; rw [hc, bb_list]; rfl
    rw [hb] at HK
    rw [hp]
    exact refKparse_go s _ _ w (by rw [← size_l, bb_list]; omega) (by rw [← size_l, bb_list]; omega) HK
end Go.Proofs.YtfjbbaejeckonaaDoor
