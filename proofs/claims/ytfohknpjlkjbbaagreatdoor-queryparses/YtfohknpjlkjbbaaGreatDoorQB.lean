/- Walks: a query that is read: its name and its matches. -/
import Derived.Test.YtfohknpjlkjbbaaGreatDoorQA
import Derived.Test.YtfohknpjlkjbbaaGreatDoorPA
namespace Go.Proofs.YtfohknpjlkjbbaaGreatDoor
open Go Go.RowKit Tg Pk Ky Qy

theorem drewN_below (W : World) (q : Nat) : Below W.heap.size W (W.drewN q) := below_drewN (Below.refl _ _) q
theorem Env.far {w w1 : World} {b : Nat} (h : Env w) (hb : 0 < b) (g : w.grownBy w1 (some b)) : Env w1 := by
  obtain ⟨m, hm⟩ := h
  refine ⟨m, ?_⟩
  rw [g.cell_far ⟨0, 0, none⟩ (World.block_lt_of_cell? _ _ hm) (fun e => by have : (0 : Nat) = b := Option.some.inj e; omega)]
  exact hm
/-- Matches do not lie in a box that is read into. -/
theorem mats_else {w : World} {b : Nat} {g : Int} {n : ByteArray} {a1 a2 a3 : Option Addr} {n1 n2 n3 c1 c2 c3 : Nat} {b' o : Nat} {M : List Match} (hb : RB w b g n (.slice a1 n1 c1) (.slice a2 n2 c2) (.slice a3 n3 c3)) (hL : MLies w b' o M) (hne : M ≠ []) : b' ≠ b := by
  rintro rfl
  obtain ⟨⟨h0, h1, h2, h3, h4⟩, _, hi⟩ := hb
  obtain ⟨e0, e1, e2⟩ := hL 0 (List.length_pos_iff.2 hne)
  simp only [Nat.zero_mul, Nat.add_zero] at e0 e1 e2
  match o, e0, e1, e2 with
  | 0, _, _, e2 => rw [h2] at e2; cases e2
  | 1, e0, _, _ => rw [h1] at e0; cases e0
  | 2, e0, _, _ => rw [h2] at e0; cases e0
  | 3, e0, _, _ => rw [h3] at e0; cases e0
  | 4, e0, _, _ => rw [h4] at e0; cases e0
  | o + 5, e0, _, _ => rw [hi (o + 5) (by omega)] at e0; cases e0
theorem mrow_far {w w1 : World} {b : Nat} {g : Int} {n : ByteArray} {a1 a2 a3 : Option Addr} {n1 n2 n3 c1 c2 c3 : Nat} {v : Value} {M : List Match} (hb : RB w b g n (.slice a1 n1 c1) (.slice a2 n2 c2) (.slice a3 n3 c3)) (h : MRow w v M) (gr : w.grownBy w1 (some b)) : MRow w1 v M := by
  obtain ⟨a, c, hv, hc, hat⟩ := h
  refine ⟨a, c, hv, hc, fun hne => ?_⟩
  obtain ⟨b', o, ha, hlt, hL⟩ := hat hne
  have hbb := mats_else hb hL hne
  refine ⟨b', o, ha, Nat.lt_of_lt_of_le hlt gr.size, fun i hi => ?_⟩
  obtain ⟨e0, e1, e2⟩ := hL i hi
  have hf : ∀ k, w1.cell? ⟨b', k, none⟩ = w.cell? ⟨b', k, none⟩ := fun k => gr.cell_far ⟨b', k, none⟩ hlt (fun e => hbb (Option.some.inj e))
  exact ⟨(hf _).trans e0, (hf _).trans e1, (hf _).trans e2⟩
theorem empty_ba {i : ByteArray} (h : i.data.toList.isEmpty = false) : (i.toList == ([] : List UInt8)) = false ∧ i.toList.isEmpty = false := empty_not i h

set_option maxHeartbeats 1000000 in
theorem series_go (b : Nat) (g : Int) (n0 : ByteArray) (a2 a3 : Option Addr) (n2 n3 c2 c3 : Nat) (y n r i : ByteArray) (op cl : Bool) (w : World) (hE : Env w) (hb : 0 < b) (h : RB w b g n0 (.slice none 0 0) (.slice a2 n2 c2) (.slice a3 n3 c3)) (hi : i.size ≤ 900) (hz : n.size ≤ 281474976710656)
    (HK : ∀ W, Env W → Calls Tryz.prog 88 #[.string y, .string ⟨#[123]⟩] W fun e w' => e = .returned (.tuple #[.string n, .string r, .bool op]) ∧ ∃ q, w' = W.drewN q)
    (HF : ∀ W, Calls Tryz.prog 89 #[.string r, .string ⟨#[125]⟩] W fun e w' => e = .returned (.tuple #[.string i, .bool cl]) ∧ w' = W)
    (hop : op = false ∨ (op = true ∧ cl = true ∧ (i.toList == ([] : List UInt8)) = false ∧ i.toList.isEmpty = false)) (hp : Word.name n.data.toList = true) :
    Calls Tryz.prog 71 #[.pointer (some ⟨b, 0, none⟩), .string y] w fun e w' => e = .returned (.int .i64 (pparse i.data.toList).2) ∧ w.grownBy w' (some b) ∧ ∃ a c, RB w' b g n (.slice a (pparse i.data.toList).1.length c) (.slice a2 n2 c2) (.slice a3 n3 c3) ∧ MRow w' (.slice a (pparse i.data.toList).1.length c) (pparse i.data.toList).1 := by
  have HK := Lib.hid (HK w hE)
  have HF := Lib.hid HF
  have H1 := Lib.hid (fun W => name_any n W (by omega))
  rw [hp] at H1
  have H2 := Lib.hid (fun W (h : Env W) => parseM_any i W h hi)
  clear hz hp hi
  generalize pparse i.data.toList = C at *
  have B1 := fun q => h.on (drewN_below w q)
  have g1 : ∀ q, w.grownBy ((w.drewN q).setCell ⟨b, 1, none⟩ (.string n)) (some b) := fun q => Lib.grownBy_setB (Lib.grownBy_below (World.grownBy.refl w (some b)) (drewN_below w q)) 1 _
  rcases hop with rfl | ⟨rfl, rfl, hne, hne2⟩
  all_goals
    obtain ⟨⟨x0, x1, x2, x3, x4⟩, ⟨f0, f1, f2, f3, f4⟩, _⟩ := id h
    go_enter Tryz.func71, Tryz.ntmps71
    go_wp2_with fail
    refine (HK.out).mono ?_
    rintro e w1 ⟨rfl, q, rfl⟩
    go_wp2_with (first
      | (go_at_call 89; refine (HF.out _).mono ?_; rintro e w' ⟨rfl, hw⟩; have hw := hw.symm; subst hw)
      | (go_at_call 25; refine (H1.out _).mono ?_; rintro e w' ⟨rfl, hw⟩; have hw := hw.symm; subst hw))
    have G1 := g1 q
    have R1 := (B1 q).set1 n
    have E1 := hE.far hb G1
    clear x0 x1 x2 x3 x4 f0 f1 f2 f3 f4 g1 B1 HK HF H1
    generalize (w.drewN q).setCell ⟨b, 1, none⟩ (.string n) = wa at *
    refine (H2.out _ E1).mono ?_
    rintro e w2 ⟨⟨v2, rfl, r2⟩, d2⟩
    have R2 := R1.on d2
    have G2 := Lib.grownBy_below G1 d2
    obtain ⟨am, cm, rfl, hcm, hat⟩ := r2
    have r2 : MRow w2 (.slice am C.1.length cm) C.1 := ⟨am, cm, rfl, hcm, hat⟩
    have M3 := mrow_far R2 r2 (Lib.grownBy_setCell w2 b 2 (.slice am C.1.length cm))
    have R3 := R2.set2 (.slice am C.1.length cm)
    have G3 := Lib.grownBy_setB G2 2 (.slice am C.1.length cm)
    obtain ⟨⟨x0, x1, x2, x3, x4⟩, ⟨f0, f1, f2, f3, f4⟩, _⟩ := id R2
    have HX := Lib.hid (And.intro G3 (And.intro R3 M3))
    clear R2 R3 M3 G3 G2 G1 R1 d2 r2 hat E1 h
    go_wp2_with fail
    go_ret
    exact ⟨rfl, HX.out.1, am, cm, HX.out.2.1, HX.out.2.2⟩

set_option maxHeartbeats 1000000 in
theorem series_no (b : Nat) (y n r i : ByteArray) (cl : Bool) (w : World) (hE : Env w)
    (HK : ∀ W, Env W → Calls Tryz.prog 88 #[.string y, .string ⟨#[123]⟩] W fun e w' => e = .returned (.tuple #[.string n, .string r, .bool true]) ∧ ∃ q, w' = W.drewN q)
    (HF : ∀ W, Calls Tryz.prog 89 #[.string r, .string ⟨#[125]⟩] W fun e w' => e = .returned (.tuple #[.string i, .bool cl]) ∧ w' = W)
    (hop : cl = false ∨ (cl = true ∧ (i.toList == ([] : List UInt8)) = true ∧ i.toList.isEmpty = true)) :
    Calls Tryz.prog 71 #[.pointer (some ⟨b, 0, none⟩), .string y] w fun e w' => e = .returned (.int .i64 2) ∧ w.grownBy w' (some b) := by
  have HK := Lib.hid (HK w hE)
  have HF := Lib.hid HF
  clear hE
  rcases hop with rfl | ⟨rfl, hne, hne2⟩
  all_goals
    go_enter Tryz.func71, Tryz.ntmps71
    go_wp2_with fail
    refine (HK.out).mono ?_
    rintro e w1 ⟨rfl, q, rfl⟩
    go_wp2_with (first
      | (go_at_call 89; refine (HF.out _).mono ?_; rintro e w' ⟨rfl, hw⟩; have hw := hw.symm; subst hw))
    go_ret
    exact ⟨rfl, Lib.grownBy_below (World.grownBy.refl w (some b)) (drewN_below w q)⟩
set_option maxHeartbeats 1000000 in
theorem series_nameless (b : Nat) (y n r i : ByteArray) (op cl : Bool) (w : World) (hE : Env w) (hz : n.size ≤ 281474976710656)
    (HK : ∀ W, Env W → Calls Tryz.prog 88 #[.string y, .string ⟨#[123]⟩] W fun e w' => e = .returned (.tuple #[.string n, .string r, .bool op]) ∧ ∃ q, w' = W.drewN q)
    (HF : ∀ W, Calls Tryz.prog 89 #[.string r, .string ⟨#[125]⟩] W fun e w' => e = .returned (.tuple #[.string i, .bool cl]) ∧ w' = W)
    (hop : op = false ∨ (op = true ∧ cl = true ∧ (i.toList == ([] : List UInt8)) = false ∧ i.toList.isEmpty = false)) (hp : Word.name n.data.toList = false) :
    Calls Tryz.prog 71 #[.pointer (some ⟨b, 0, none⟩), .string y] w fun e w' => e = .returned (.int .i64 2) ∧ w.grownBy w' (some b) := by
  have HK := Lib.hid (HK w hE)
  have HF := Lib.hid HF
  have H1 := Lib.hid (fun W => name_any n W (by omega))
  rw [hp] at H1
  clear hE hz hp
  rcases hop with rfl | ⟨rfl, rfl, hne, hne2⟩
  all_goals
    go_enter Tryz.func71, Tryz.ntmps71
    go_wp2_with fail
    refine (HK.out).mono ?_
    rintro e w1 ⟨rfl, q, rfl⟩
    go_wp2_with (first
      | (go_at_call 89; refine (HF.out _).mono ?_; rintro e w' ⟨rfl, hw⟩; have hw := hw.symm; subst hw)
      | (go_at_call 25; refine (H1.out _).mono ?_; rintro e w' ⟨rfl, hw⟩; have hw := hw.symm; subst hw))
    go_ret
    exact ⟨rfl, Lib.grownBy_below (World.grownBy.refl w (some b)) (drewN_below w q)⟩

/-- What is wrong with a name and matches. -/
def serE (y : List UInt8) : Int := match kcut y with | none => 2 | some p => if Word.name p.1 then (pparse p.2).2 else 2
theorem serE_none {y : List UInt8} (h : kcut y = none) : serE y = 2 := by unfold serE; rw [h]
theorem serE_form {y : List UInt8} {p : List UInt8 × List UInt8} (h : kcut y = some p) (hn : Word.name p.1 = false) : serE y = 2 := by unfold serE; rw [h]; simp [hn]
theorem serE_some {y : List UInt8} {p : List UInt8 × List UInt8} (h : kcut y = some p) (hn : Word.name p.1 = true) : serE y = (pparse p.2).2 := by unfold serE; rw [h]; simp [hn]

theorem series_any (b : Nat) (g : Int) (n0 : ByteArray) (a2 a3 : Option Addr) (n2 n3 c2 c3 : Nat) (y : ByteArray) (w : World) (hE : Env w) (hb : 0 < b) (h : RB w b g n0 (.slice none 0 0) (.slice a2 n2 c2) (.slice a3 n3 c3)) (hs : y.size ≤ 900) :
    Calls Tryz.prog 71 #[.pointer (some ⟨b, 0, none⟩), .string y] w fun e w' => e = .returned (.int .i64 (serE y.data.toList)) ∧ w.grownBy w' (some b) ∧ ∀ p, kcut y.data.toList = some p → Word.name p.1 = true → ∃ a c, RB w' b g (bb p.1) (.slice a (pparse p.2).1.length c) (.slice a2 n2 c2) (.slice a3 n3 c3) ∧ MRow w' (.slice a (pparse p.2).1.length c) (pparse p.2).1 := by
  have hsl := size_l y
  have HK : ∀ W, Env W → Calls Tryz.prog 88 #[.string y, .string ⟨#[123]⟩] W fun e w' => e = .returned (.tuple #[.string (bb (Lib.cut y.data.toList [123]).1), .string (bb (Lib.cut y.data.toList [123]).2.1), .bool (Lib.cut y.data.toList [123]).2.2]) ∧ ∃ q, w' = W.drewN q := by
    rintro W ⟨m, hm⟩
    exact Tryz.strings_Cut y ⟨#[123]⟩ m W (by omega) hm
  rw [cutC_eq] at HK
  have hzb : ∀ l : List UInt8, (bb l).size = l.length := fun l => by rw [← size_l, bb_list]
  have HF : ∀ (r : List UInt8), r.length ≤ 900 → ∀ W, Calls Tryz.prog 89 #[.string (bb r), .string ⟨#[125]⟩] W fun e w' => e = .returned (.tuple #[.string (bb (Lib.trimSuffix r [125])), .bool (Lib.hasSuffix r [125])]) ∧ w' = W := by
    intro r hr W
    have h := Tryz.strings_CutSuffix (bb r) ⟨#[125]⟩ W (by rw [hzb]; omega)
    rw [bb_list, show (⟨#[125]⟩ : ByteArray).data.toList = [125] from rfl] at h
    exact h
  -- one way for each case of what is known ahead
  have fin : ∀ (n r i : List UInt8) (op cl : Bool), n.length ≤ 900 → i.length ≤ 900 → kcut y.data.toList = some (n, i) →
      (∀ W, Env W → Calls Tryz.prog 88 #[.string y, .string ⟨#[123]⟩] W fun e w' => e = .returned (.tuple #[.string (bb n), .string (bb r), .bool op]) ∧ ∃ q, w' = W.drewN q) →
      (∀ W, Calls Tryz.prog 89 #[.string (bb r), .string ⟨#[125]⟩] W fun e w' => e = .returned (.tuple #[.string (bb i), .bool cl]) ∧ w' = W) →
      (op = false ∨ (op = true ∧ cl = true ∧ ((bb i).toList == ([] : List UInt8)) = false ∧ (bb i).toList.isEmpty = false)) →
      Calls Tryz.prog 71 #[.pointer (some ⟨b, 0, none⟩), .string y] w fun e w' => e = .returned (.int .i64 (serE y.data.toList)) ∧ w.grownBy w' (some b) ∧ ∀ p, kcut y.data.toList = some p → Word.name p.1 = true → ∃ a c, RB w' b g (bb p.1) (.slice a (pparse p.2).1.length c) (.slice a2 n2 c2) (.slice a3 n3 c3) ∧ MRow w' (.slice a (pparse p.2).1.length c) (pparse p.2).1 := by
    intro n r i op cl hn hi hk HK HF hop
    cases hp : Word.name n
    · rw [serE_form hk hp]
      refine (series_nameless b y (bb n) (bb r) (bb i) op cl w hE (by rw [hzb]; omega) HK HF hop (by rw [bb_list]; exact hp)).mono ?_
      rintro e w' ⟨he, hg⟩
      refine ⟨he, hg, fun p hk2 hp2 => ?_⟩
      rw [hk] at hk2
      cases hk2
      rw [hp] at hp2
      cases hp2
    · rw [serE_some hk hp]
      have hgo := series_go b g n0 a2 a3 n2 n3 c2 c3 y (bb n) (bb r) (bb i) op cl w hE hb h (by rw [hzb]; exact hi) (by rw [hzb]; omega) HK HF hop (by rw [bb_list]; exact hp)
      rw [bb_list i] at hgo
      refine hgo.mono ?_
      rintro e w' ⟨he, hg, hx⟩
      refine ⟨he, hg, fun p hk2 _ => ?_⟩
      rw [hk] at hk2
      cases hk2
      exact hx
  have hbe : ∀ l : List UInt8, ((bb l).toList == ([] : List UInt8)) = l.isEmpty ∧ (bb l).toList.isEmpty = l.isEmpty := by
    intro l
    rw [ByteArray.toList_eq, bb_list]
    cases l <;> exact ⟨rfl, rfl⟩
  cases hc : cutC 123 y.data.toList with
  | none =>
    rw [hc] at HK
    have hk : kcut y.data.toList = some (y.data.toList, []) := by unfold kcut; rw [hc]
    exact fin y.data.toList [] [] false _ (by omega) (by simp) hk HK (HF [] (by simp)) (Or.inl rfl)
  | some p =>
    rw [hc] at HK
    have hL := cutC_some 123 _ _ hc
    have hl : y.data.toList.length = p.1.length + (p.2.length + 1) := by rw [hL]; simp
    have ht : (Lib.trimSuffix p.2 [125]).length ≤ p.2.length := by
      unfold Lib.trimSuffix
      split
      · simp
      · exact Nat.le_refl _
    have HF2 := HF p.2 (by omega)
    have no : kcut y.data.toList = none → ∀ (cl : Bool), (∀ W, Calls Tryz.prog 89 #[.string (bb p.2), .string ⟨#[125]⟩] W fun e w' => e = .returned (.tuple #[.string (bb (Lib.trimSuffix p.2 [125])), .bool cl]) ∧ w' = W) → (cl = false ∨ (cl = true ∧ ((bb (Lib.trimSuffix p.2 [125])).toList == ([] : List UInt8)) = true ∧ (bb (Lib.trimSuffix p.2 [125])).toList.isEmpty = true)) →
        Calls Tryz.prog 71 #[.pointer (some ⟨b, 0, none⟩), .string y] w fun e w' => e = .returned (.int .i64 (serE y.data.toList)) ∧ w.grownBy w' (some b) ∧ ∀ p, kcut y.data.toList = some p → Word.name p.1 = true → ∃ a c, RB w' b g (bb p.1) (.slice a (pparse p.2).1.length c) (.slice a2 n2 c2) (.slice a3 n3 c3) ∧ MRow w' (.slice a (pparse p.2).1.length c) (pparse p.2).1 := by
      intro hk cl HF3 hop
      rw [serE_none hk]
      refine (series_no b y (bb p.1) (bb p.2) (bb (Lib.trimSuffix p.2 [125])) cl w hE HK HF3 hop).mono ?_
      rintro e w' ⟨he, hg⟩
      refine ⟨he, hg, fun q hk2 _ => ?_⟩
      rw [hk] at hk2
      cases hk2
    cases hs5 : Lib.hasSuffix p.2 [125]
    · have hk : kcut y.data.toList = none := by unfold kcut; rw [hc]; simp [hs5]
      rw [hs5] at HF2
      exact no hk false HF2 (Or.inl rfl)
    · rw [hs5] at HF2
      cases he : (Lib.trimSuffix p.2 [125]).isEmpty
      · have hk : kcut y.data.toList = some (p.1, Lib.trimSuffix p.2 [125]) := by unfold kcut; rw [hc]; simp only [hs5, he]; rfl
        exact fin p.1 p.2 (Lib.trimSuffix p.2 [125]) true true (by omega) (by omega) hk HK HF2 (Or.inr ⟨rfl, rfl, by rw [(hbe _).1, he], by rw [(hbe _).2, he]⟩)
      · have hk : kcut y.data.toList = none := by unfold kcut; rw [hc]; simp only [hs5, he]; rfl
        exact no hk true HF2 (Or.inr ⟨rfl, by rw [(hbe _).1, he], by rw [(hbe _).2, he]⟩)
end Go.Proofs.YtfohknpjlkjbbaaGreatDoor
