/- Carried over from earlier layers: walks and lemmas of tags, series and matches. -/
import Derived.Test.YtfohknpjlkjbbaaGreatDoorK2
import Derived.Test.YtfohknpjlkjbbaaGreatDoorG9
namespace Go.Proofs.YtfohknpjlkjbbaaGreatDoor
open Go Go.RowKit Tg Pk Ky
theorem box_far {w : World} {b0 b o : Nat} {l : List Tag} (hL : TLies w b o l) (hne : l ≠ []) (hc : ∀ i, w.cell? ⟨b0, i, none⟩ = (#[Value.string ⟨#[]⟩, Value.slice none 0 0] : Array Value)[i]?) : b0 ≠ b := by
  rintro rfl
  have h0 : 0 < l.length := List.length_pos_iff.2 hne
  obtain ⟨_, h2⟩ := hL 0 h0
  rw [hc] at h2
  have e : o + 0 * 2 + 1 = o + 1 := by omega
  rw [e] at h2
  match o, h2 with
  | 0, h2 => simp at h2
  | _ + 1, h2 => simp at h2
theorem row_set {w : World} {b0 : Nat} {v : Value} {l : List Tag} (h : TRow w v l) (hc : ∀ i, w.cell? ⟨b0, i, none⟩ = (#[Value.string ⟨#[]⟩, Value.slice none 0 0] : Array Value)[i]?) (x y : Value) : TRow ((w.setCell ⟨b0, 0, none⟩ x).setCell ⟨b0, 1, none⟩ y) v l := by
  obtain ⟨a, c, hv, hcp, hat⟩ := h
  refine ⟨a, c, hv, hcp, fun hne => ?_⟩
  obtain ⟨b, o, ha, hb, hL⟩ := hat hne
  have hf := box_far hL hne hc
  refine ⟨b, o, ha, by simpa using hb, fun i hi => ?_⟩
  rw [World.cell?_setCell_far _ _ _ _ hf, World.cell?_setCell_far _ _ _ _ hf, World.cell?_setCell_far _ _ _ _ hf, World.cell?_setCell_far _ _ _ _ hf]
  exact hL i hi
theorem none_row (w : World) : KRow w (.agg #[.string ⟨#[]⟩, .slice none 0 0]) none0 := ⟨_, rfl, TRow.nil w⟩
theorem kmk_no {n : ByteArray} {p : List Tag × Int} (h : Word.name n.data.toList = false) : kmk n p = (none0, 2) := by unfold kmk; rw [h]; rfl
theorem kmk_er {n : ByteArray} {p : List Tag × Int} (h : Word.name n.data.toList = true) (h2 : ¬ p.2 = 0) : kmk n p = (none0, p.2) := by unfold kmk; rw [if_pos h, if_neg h2]
theorem kmk_is {n : ByteArray} {p : List Tag × Int} (h : Word.name n.data.toList = true) (h2 : p.2 = 0) : kmk n p = ((n, p.1), 0) := by unfold kmk; rw [if_pos h, if_pos h2]
set_option maxHeartbeats 400000 in
theorem refKparse_no (s n i : ByteArray) (w : World)
    (HK : ∀ W, Calls Tryz.prog 44 #[.string s] W fun e w' => e = .returned (.tuple #[.string n, .string i, .bool false]) ∧ Below W.heap.size W w') :
    Calls Tryz.prog 22 #[.string s] w fun e w' => (∃ kv, e = .returned (.tuple #[kv, .int .i64 2]) ∧ KRow w' kv none0) ∧ Below w.heap.size w w' := by
  have HK := Lib.hid HK
  go_enter Tryz.func22, Tryz.ntmps22
  go_wp2_with fail
  refine (HK.out _).mono ?_
  rintro e w2 ⟨rfl, n2⟩
  have c0 := newC (i := 0) n2
  have c1 := newC (i := 1) n2
  have f0 := keepF (b := w.heap.size) (off := 0) (x := false) n2 (by simp [go_sem]) (by simp)
  have f1 := keepF (b := w.heap.size) (off := 1) (x := false) n2 (by simp [go_sem]) (by simp)
  have d2 := belowA n2
  simp at c0 c1
  clear n2 HK
  go_wp2_with fail
  exact bodyPost_ret (v := .tuple #[.agg #[.string ⟨#[]⟩, .slice none 0 0], .int .i64 2]) (by simp [results, Tryz.results22, go_sem, c0, c1]) rfl ⟨⟨_, rfl, none_row _⟩, (d2.setCell (Nat.le_refl _) _).setCell (Nat.le_refl _) _⟩
set_option maxHeartbeats 400000 in
theorem refKparse_go (s n i : ByteArray) (w : World) (hi : i.size ≤ 900) (hz : n.size ≤ 281474976710656)
    (HK : ∀ W, Calls Tryz.prog 44 #[.string s] W fun e w' => e = .returned (.tuple #[.string n, .string i, .bool true]) ∧ Below W.heap.size W w') :
    Calls Tryz.prog 22 #[.string s] w fun e w' => (∃ kv, e = .returned (.tuple #[kv, .int .i64 (kmk n (parse i.data.toList)).2]) ∧ KRow w' kv (kmk n (parse i.data.toList)).1) ∧ Below w.heap.size w w' := by
  have HK := Lib.hid HK
  have H1 := fun W => refName_any n W (by omega)
  have H2 := fun w1 => refParse_any i w1 hi
  cases hp : Word.name n.data.toList
  · rw [show kmk n (parse i.data.toList) = (none0, 2) from kmk_no hp]
    rw [hp] at H1
    have H1 := Lib.hid H1
    clear H2 hz hp
    go_enter Tryz.func22, Tryz.ntmps22
    go_wp2_with fail
    refine (HK.out _).mono ?_
    rintro e w2 ⟨rfl, n2⟩
    have c0 := newC (i := 0) n2
    have c1 := newC (i := 1) n2
    have f0 := keepF (b := w.heap.size) (off := 0) (x := false) n2 (by simp [go_sem]) (by simp)
    have f1 := keepF (b := w.heap.size) (off := 1) (x := false) n2 (by simp [go_sem]) (by simp)
    have d2 := belowA n2
    simp at c0 c1
    clear n2 HK
    go_wp2_with (first
      | (go_at_call 28; refine (H1.out _).mono ?_; rintro e w' ⟨rfl, hw⟩; have hw := hw.symm; subst hw))
    exact bodyPost_ret (v := .tuple #[.agg #[.string ⟨#[]⟩, .slice none 0 0], .int .i64 2]) (by simp [results, Tryz.results22, go_sem, c0, c1]) rfl ⟨⟨_, rfl, none_row _⟩, (d2.setCell (Nat.le_refl _) _).setCell (Nat.le_refl _) _⟩
  · rw [hp] at H1
    have HM := fun (h2 : (parse i.data.toList).2 = 0) => kmk_is (n := n) (p := parse i.data.toList) hp h2
    have HE := fun (h2 : ¬ (parse i.data.toList).2 = 0) => kmk_er (n := n) (p := parse i.data.toList) hp h2
    have H1 := Lib.hid H1
    have H2 := Lib.hid H2
    clear hz hp
    generalize parse i.data.toList = C at *
    by_cases hC : C.2 = 0
    · rw [HM hC]
      have hq : (C.2 == 0) = true := by simp [hC]
      clear HM HE
      go_enter Tryz.func22, Tryz.ntmps22
      go_wp2_with fail
      refine (HK.out _).mono ?_
      rintro e w1 ⟨rfl, n1⟩
      go_wp2_with (first
        | (go_at_call 28; refine (H1.out _).mono ?_; rintro e w' ⟨rfl, hw⟩; have hw := hw.symm; subst hw))
      refine (H2.out _).mono ?_
      rintro e w2 ⟨⟨v2, rfl, hr2⟩, n2⟩
      have n2 := n1.trans (n2.mono n1.size)
      have hc := fun i => newC (i := i) n2
      have c0 := hc 0
      have c1 := hc 1
      have f0 := keepF (b := w.heap.size) (off := 0) (x := false) n2 (by simp [go_sem]) (by simp)
      have f1 := keepF (b := w.heap.size) (off := 1) (x := false) n2 (by simp [go_sem]) (by simp)
      have d2 := belowA n2
      simp at c0 c1
      obtain ⟨a2, cp2, rfl, hcp2, hat2⟩ := hr2
      have hr2 : TRow w2 (.slice a2 C.1.length cp2) C.1 := ⟨a2, cp2, rfl, hcp2, hat2⟩
      have hr3 := row_set hr2 hc (.string n) (.slice a2 C.1.length cp2)
      have HR := Lib.hid hr3
      clear hat2 hr2 hr3 n1 n2 H1 H2 hc
      go_wp2_with fail
      exact bodyPost_ret (v := .tuple #[.agg #[.string n, .slice a2 C.1.length cp2], .int .i64 0]) (by simp [results, Tryz.results22, go_sem, c0, c1]) rfl ⟨⟨_, rfl, ⟨_, rfl, HR.out⟩⟩, (d2.setCell (Nat.le_refl _) _).setCell (Nat.le_refl _) _⟩
    · rw [HE hC]
      have hq : (C.2 == 0) = false := by simp [hC]
      clear HM HE
      go_enter Tryz.func22, Tryz.ntmps22
      go_wp2_with fail
      refine (HK.out _).mono ?_
      rintro e w1 ⟨rfl, n1⟩
      go_wp2_with (first
        | (go_at_call 28; refine (H1.out _).mono ?_; rintro e w' ⟨rfl, hw⟩; have hw := hw.symm; subst hw))
      refine (H2.out _).mono ?_
      rintro e w2 ⟨⟨v2, rfl, hr2⟩, n2⟩
      have n2 := n1.trans (n2.mono n1.size)
      have c0 := newC (i := 0) n2
      have c1 := newC (i := 1) n2
      have f0 := keepF (b := w.heap.size) (off := 0) (x := false) n2 (by simp [go_sem]) (by simp)
      have f1 := keepF (b := w.heap.size) (off := 1) (x := false) n2 (by simp [go_sem]) (by simp)
      have d2 := belowA n2
      simp at c0 c1
      clear n1 n2 H1 H2 hr2
      go_wp2_with fail
      exact bodyPost_ret (v := .tuple #[.agg #[.string ⟨#[]⟩, .slice none 0 0], .int .i64 C.2]) (by simp [results, Tryz.results22, go_sem, c0, c1]) rfl ⟨⟨_, rfl, none_row _⟩, (d2.setCell (Nat.le_refl _) _).setCell (Nat.le_refl _) _⟩
theorem refKparse_any (s : ByteArray) (w : World) (hs : s.size ≤ 900) :
    Calls Tryz.prog 22 #[.string s] w fun e w' => (∃ kv, e = .returned (.tuple #[kv, .int .i64 (kparse s.data.toList).2]) ∧ KRow w' kv (kparse s.data.toList).1) ∧ Below w.heap.size w w' := by
  have hsl := size_l s
  have HK := fun W => refCut_any s W (by omega)
  cases hc : kcut s.data.toList with
  | none =>
    have hb : kcutB s = (⟨#[]⟩, ⟨#[]⟩, false) := by unfold kcutB; rw [hc]
    have hp : kparse s.data.toList = (none0, 2) := by unfold kparse; rw [hc]
    rw [hb] at HK
    rw [hp]
    exact refKparse_no s _ _ w HK
  | some p =>
    have hb : kcutB s = (bb p.1, bb p.2, true) := by unfold kcutB; rw [hc]
    obtain ⟨l1, l2⟩ := kcut_len hc
    have hp : kparse s.data.toList = kmk (bb p.1) (parse (bb p.2).data.toList) := by unfold kparse; rw [hc, bb_list]; rfl
    rw [hb] at HK
    rw [hp]
    exact refKparse_go s _ _ w (by rw [← size_l, bb_list]; omega) (by rw [← size_l, bb_list]; omega) HK
theorem KRow.open {w : World} {v : Value} {k : Key} (h : KRow w v k) : ∃ a c, v = .agg #[.string k.1, .slice a k.2.length c] ∧ TRow w (.slice a k.2.length c) k.2 := by
  obtain ⟨t, rfl, a, c, rfl, hc, hat⟩ := h
  exact ⟨a, c, rfl, a, c, rfl, hc, hat⟩
theorem KRow.shut {w : World} {a : Option Addr} {c : Nat} {k : Key} (h : TRow w (.slice a k.2.length c) k.2) : KRow w (.agg #[.string k.1, .slice a k.2.length c]) k := ⟨_, rfl, h⟩
end Go.Proofs.YtfohknpjlkjbbaaGreatDoor
