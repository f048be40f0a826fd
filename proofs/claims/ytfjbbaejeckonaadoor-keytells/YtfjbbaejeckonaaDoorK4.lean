/- Walks: key.Parse, the document's too. -/
import Derived.Test.YtfjbbaejeckonaaDoorK3
import Derived.Test.YtfjbbaejeckonaaDoorTA
namespace Go.Proofs.YtfjbbaejeckonaaDoor
open Go Go.RowKit Tg Ky

theorem drewN_below (W : World) (q : Nat) : Below W.heap.size W (W.drewN q) := ⟨rfl, rfl, rfl, Nat.le_refl _, fun _ _ => rfl⟩
theorem belowQ {W w2 : World} {q : Nat} (h : Below (W.drewN q).heap.size (W.drewN q) w2) : Below W.heap.size W w2 := (drewN_below W q).trans h
theorem ne_list {i : ByteArray} (h : 0 < i.size) : (i.toList == []) = false := by
  rw [ByteArray.toList_eq]
  cases hl : i.data.toList with
  | nil => have := size_l i; rw [hl] at this; simp at this; omega
  | cons _ _ => rfl

set_option maxHeartbeats 400000 in
theorem kparse_go (s n r i : ByteArray) (op cl : Bool) (w : World) (hE : Env w) (hi : i.size ≤ 900) (hz : n.size ≤ 281474976710656)
    (HK : ∀ W, Env W → Calls Tryd.prog 30 #[.string s, .string ⟨#[123]⟩] W fun e w' => e = .returned (.tuple #[.string n, .string r, .bool op]) ∧ ∃ q, w' = W.drewN q)
    (HF : ∀ W, Calls Tryd.prog 31 #[.string r, .string ⟨#[125]⟩] W fun e w' => e = .returned (.tuple #[.string i, .bool cl]) ∧ w' = W)
    (hop : op = false ∨ (op = true ∧ cl = true ∧ (i.toList == []) = false)) :
    Calls Tryd.prog 19 #[.string s] w fun e w' => (∃ kv, e = .returned (.tuple #[kv, .int .i64 (kmk n (parse i.data.toList)).2]) ∧ KRow w' kv (kmk n (parse i.data.toList)).1) ∧ Below w.heap.size w w' := by
  have HK := Lib.hid HK
  have HF := Lib.hid HF
  have H1 := fun W => name_any n W (by omega)
  have H2 := fun w1 (n1 : Below w.heap.size w w1) => parse_any i w1 (hE.go n1) hi
  cases hp : Word.name n.data.toList
  · rw [show kmk n (parse i.data.toList) = (none0, 2) from kmk_no hp]
    rw [hp] at H1
    have H1 := Lib.hid H1
    clear H2 hz hp
    rcases hop with rfl | ⟨rfl, rfl, hne⟩
    all_goals
      go_enter Tryd.func19, Tryd.ntmps19
      go_wp2_with fail
      refine (HK.out _ (hE.alloc _)).mono ?_
      rintro e w1 ⟨rfl, q, rfl⟩
      go_wp2_with (first
        | (go_at_call 31; refine (HF.out _).mono ?_; rintro e w' ⟨rfl, hw⟩; have hw := hw.symm; subst hw)
        | (go_at_call 21; refine (H1.out _).mono ?_; rintro e w' ⟨rfl, hw⟩; have hw := hw.symm; subst hw))
      exact bodyPost_ret (v := .tuple #[.agg #[.string ⟨#[]⟩, .slice none 0 0], .int .i64 2]) (by simp [results, Tryd.results19, go_sem]) rfl ⟨⟨_, rfl, none_row _⟩, (((aBelow _ _).trans ((drewN_below _ _).mono (by simp))).setCell (Nat.le_refl _) _).setCell (Nat.le_refl _) _⟩
  · rw [hp] at H1
    have HM := fun (h2 : (parse i.data.toList).2 = 0) => kmk_is (n := n) (p := parse i.data.toList) hp h2
    have HE := fun (h2 : ¬ (parse i.data.toList).2 = 0) => kmk_er (n := n) (p := parse i.data.toList) hp h2
    have H1 := Lib.hid H1
    have H2 := Lib.hid H2
    clear hz hp
    generalize parse i.data.toList = C at *
    by_cases hC : C.2 = 0
    · rw [HM hC]
      have hq : (C.2 == 0) = true := by simp [hC]
      clear HM HE
      rcases hop with rfl | ⟨rfl, rfl, hne⟩
      all_goals
        go_enter Tryd.func19, Tryd.ntmps19
        go_wp2_with fail
        refine (HK.out _ (hE.alloc _)).mono ?_
        rintro e w1 ⟨rfl, q, rfl⟩
        go_wp2_with (first
          | (go_at_call 31; refine (HF.out _).mono ?_; rintro e w' ⟨rfl, hw⟩; have hw := hw.symm; subst hw)
          | (go_at_call 21; refine (H1.out _).mono ?_; rintro e w' ⟨rfl, hw⟩; have hw := hw.symm; subst hw))
        refine (H2.out _ ((aBelow _ _).trans ((drewN_below _ _).mono (by simp)))).mono ?_
        rintro e w2 ⟨⟨v2, rfl, hr2⟩, n2⟩
        have n2 := belowQ n2
        have hc := fun i => newC (i := i) n2
        have c0 := hc 0
        have c1 := hc 1
        have f0 := keepF (b := w.heap.size) (off := 0) (x := false) n2 (by simp [go_sem]) (by simp)
        have f1 := keepF (b := w.heap.size) (off := 1) (x := false) n2 (by simp [go_sem]) (by simp)
        have d2 := belowA n2
        have z2 : w.heap.size < w2.heap.size := by have := n2.size; simp at this; omega
        simp at c0 c1
        obtain ⟨a2, cp2, rfl, hcp2, hat2⟩ := hr2
        have hr2 : TRow w2 (.slice a2 C.1.length cp2) C.1 := ⟨a2, cp2, rfl, hcp2, hat2⟩
        have hr3 := row_set hr2 hc (.string n) (.slice a2 C.1.length cp2)
        have HR := Lib.hid hr3
        clear hat2 hr2 hr3 n2 H1 H2 hc
        go_wp2_with fail
        exact bodyPost_ret (v := .tuple #[.agg #[.string n, .slice a2 C.1.length cp2], .int .i64 0]) (by simp [results, Tryd.results19, go_sem, c0, c1]) rfl ⟨⟨_, rfl, ⟨_, rfl, HR.out⟩⟩, (d2.setCell (Nat.le_refl _) _).setCell (Nat.le_refl _) _⟩
    · rw [HE hC]
      have hq : (C.2 == 0) = false := by simp [hC]
      clear HM HE
      rcases hop with rfl | ⟨rfl, rfl, hne⟩
      all_goals
        go_enter Tryd.func19, Tryd.ntmps19
        go_wp2_with fail
        refine (HK.out _ (hE.alloc _)).mono ?_
        rintro e w1 ⟨rfl, q, rfl⟩
        go_wp2_with (first
          | (go_at_call 31; refine (HF.out _).mono ?_; rintro e w' ⟨rfl, hw⟩; have hw := hw.symm; subst hw)
          | (go_at_call 21; refine (H1.out _).mono ?_; rintro e w' ⟨rfl, hw⟩; have hw := hw.symm; subst hw))
        refine (H2.out _ ((aBelow _ _).trans ((drewN_below _ _).mono (by simp)))).mono ?_
        rintro e w2 ⟨⟨v2, rfl, hr2⟩, n2⟩
        have n2 := belowQ n2
        have c0 := newC (i := 0) n2
        have c1 := newC (i := 1) n2
        have f0 := keepF (b := w.heap.size) (off := 0) (x := false) n2 (by simp [go_sem]) (by simp)
        have f1 := keepF (b := w.heap.size) (off := 1) (x := false) n2 (by simp [go_sem]) (by simp)
        have d2 := belowA n2
        have z2 : w.heap.size < w2.heap.size := by have := n2.size; simp at this; omega
        simp at c0 c1
        clear n2 H1 H2 hr2
        go_wp2_with fail
        exact bodyPost_ret (v := .tuple #[.agg #[.string ⟨#[]⟩, .slice none 0 0], .int .i64 C.2]) (by simp [results, Tryd.results19, go_sem, c0, c1]) rfl ⟨⟨_, rfl, none_row _⟩, (d2.setCell (Nat.le_refl _) _).setCell (Nat.le_refl _) _⟩

set_option maxHeartbeats 400000 in
theorem kparse_no (s n r i : ByteArray) (cl : Bool) (w : World) (hE : Env w)
    (HK : ∀ W, Env W → Calls Tryd.prog 30 #[.string s, .string ⟨#[123]⟩] W fun e w' => e = .returned (.tuple #[.string n, .string r, .bool true]) ∧ ∃ q, w' = W.drewN q)
    (HF : ∀ W, Calls Tryd.prog 31 #[.string r, .string ⟨#[125]⟩] W fun e w' => e = .returned (.tuple #[.string i, .bool cl]) ∧ w' = W)
    (hop : cl = false ∨ (cl = true ∧ (i.toList == []) = true)) :
    Calls Tryd.prog 19 #[.string s] w fun e w' => (∃ kv, e = .returned (.tuple #[kv, .int .i64 2]) ∧ KRow w' kv none0) ∧ Below w.heap.size w w' := by
  have HK := Lib.hid HK
  have HF := Lib.hid HF
  rcases hop with rfl | ⟨rfl, hne⟩
  all_goals
    go_enter Tryd.func19, Tryd.ntmps19
    go_wp2_with fail
    refine (HK.out _ (hE.alloc _)).mono ?_
    rintro e w1 ⟨rfl, q, rfl⟩
    go_wp2_with (first
      | (go_at_call 31; refine (HF.out _).mono ?_; rintro e w' ⟨rfl, hw⟩; have hw := hw.symm; subst hw))
    exact bodyPost_ret (v := .tuple #[.agg #[.string ⟨#[]⟩, .slice none 0 0], .int .i64 2]) (by simp [results, Tryd.results19, go_sem]) rfl ⟨⟨_, rfl, none_row _⟩, (((aBelow _ _).trans ((drewN_below _ _).mono (by simp))).setCell (Nat.le_refl _) _).setCell (Nat.le_refl _) _⟩
end Go.Proofs.YtfjbbaejeckonaaDoor
