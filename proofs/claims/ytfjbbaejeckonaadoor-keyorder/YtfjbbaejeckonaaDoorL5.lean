/- Walks: the law KeyOrder. -/
import Derived.Test.YtfjbbaejeckonaaDoorL3
namespace Go.Proofs.YtfjbbaejeckonaaDoor
open Go Go.RowKit Go.Sort Tg Ky

theorem kmake_small (n : ByteArray) (l : List Tag) : (kmake n l).1.1.size ≤ 12 ∧ (kmake n l).1.2.length ≤ 4 ∧ (∀ t ∈ (kmake n l).1.2, t.1.size ≤ 12 ∧ t.2.size ≤ 12) ∧ (textB (kmake n l).1.2).size ≤ 104 := by
  by_cases h : (kmake n l).2 = 0
  · obtain ⟨h1, h2, h3, h4, _⟩ := kright_small (kmake_ok h)
    exact ⟨h1, h2, h3, h4⟩
  · rw [kmake_err h]
    exact ⟨by decide, by decide, fun t ht => (by cases ht), by decide⟩

set_option maxHeartbeats 1000000 in
theorem order_skip (n : ByteArray) (a : Option Addr) (cp : Nat) (l : List Tag) (c : UInt8) (w : World) (hE : Env w) (h : TRow w (.slice a l.length cp) l) (hl : ∀ x ∈ l, x.1.size ≤ 281474976710656 ∧ x.2.size ≤ 281474976710656) (hz : n.size ≤ 281474976710656)
    (hg : greatT l = true ∨ (greatT l = false ∧ 200 < n.size)) :
    Calls Tryd.prog 7 #[.string n, .slice a l.length cp, .int .u8 (c.toNat : Int)] w fun e w' => e = .returned (.bool true) ∧ Below w.heap.size w w' := by
  rcases hg with hg | ⟨hg, h2⟩
  all_goals
    go_enter Tryd.func7, Tryd.ntmps7
    go_wp2_with fail
    refine (alive_any w hE).mono ?_
    rintro e w1 ⟨rfl, d1⟩
    go_wp2_with fail
    refine (great_any _ l w1 (h.on d1) hl).mono ?_
    rintro e w2 ⟨rfl, hw⟩
    have hw := hw.symm
    subst hw
    rw [hg]
    go_wp2_with fail
    go_ret
    exact ⟨rfl, d1⟩

set_option maxHeartbeats 1000000 in
theorem order_none' (n : ByteArray) (a : Option Addr) (cp : Nat) (c : UInt8) (w : World) (hE : Env w) (hz : ¬ 200 < n.size) :
    Calls Tryd.prog 7 #[.string n, .slice a 0 cp, .int .u8 (c.toNat : Int)] w fun e w' => e = .returned (.bool true) ∧ Below w.heap.size w w' := by
  have h : ∀ W, TRow W (.slice a 0 cp) [] := fun W => ⟨a, cp, rfl, Nat.zero_le _, fun hne => absurd rfl hne⟩
  go_enter Tryd.func7, Tryd.ntmps7
  go_wp2_with fail
  refine (alive_any w hE).mono ?_
  rintro e w1 ⟨rfl, d1⟩
  go_wp2_with fail
  refine (great_any _ [] w1 (h w1) (fun x hx => by cases hx)).mono ?_
  rintro e w2 ⟨rfl, hw⟩
  have hw := hw.symm
  subst hw
  rw [show greatT [] = false from rfl]
  go_wp2_with fail
  go_ret
  exact ⟨rfl, d1⟩

/-- The tags turned by k. -/
theorem turn_perm (l : List Tag) (k : Nat) : (l.drop k ++ l.take k).Perm l := by
  have h : (l.drop k ++ l.take k).Perm (l.take k ++ l.drop k) := List.perm_append_comm
  rwa [List.take_append_drop] at h
theorem turn1 {w1 : World} {b o : Nat} {l : List Tag} (hL : TLies w1 b o l) (hb : b < w1.heap.size) (k : Nat) (ob : Obj) : ∀ i u, (flat (l.drop k))[i]? = some u → (w1.alloc ob).drew.cell? ((⟨b, o + k * 2, none⟩ : Addr).add i) = some u := by
  intro i u hu
  rw [addr_add]
  show (w1.alloc ob).cell? _ = _
  rw [World.cell?_alloc_lt _ _ _ (show (⟨b, o + k * 2 + i, none⟩ : Addr).block < w1.heap.size from hb)]
  exact flat_cells (lies_drop hL k) i u hu
theorem lies_take {w : World} {b o : Nat} {l : List Tag} (h : TLies w b o l) (k : Nat) : TLies w b o (l.take k) := by
  intro i hi
  have hi' : i < l.length := by rw [List.length_take] at hi; omega
  rw [List.getElem_take]
  exact h i hi'
theorem turn2 {w1 w2 : World} {b o : Nat} {l : List Tag} {ob : Obj} {row : Option Nat} (hL : TLies w1 b o l) (hb : b < w1.heap.size) (hg : (w1.alloc ob).drew.grownBy w2 row) (hne : some b ≠ row) (k : Nat) : ∀ i u, (flat (l.take k))[i]? = some u → w2.cell? ((⟨b, o, none⟩ : Addr).add i) = some u := by
  intro i u hu
  rw [addr_add]
  exact far1 hg hb hne (flat_cells (lies_take hL k) i u hu)

set_option maxRecDepth 100000 in
set_option maxHeartbeats 1000000 in
theorem order_some (n : ByteArray) (b o cp : Nat) (l : List Tag) (c : UInt8) (w : World) (hE : Env w) (hb : b < w.heap.size) (hL : TLies w b o l) (hcp : l.length ≤ cp) (hne : 0 < l.length) (hg : greatT l = false) (hz : ¬ 200 < n.size) :
    Calls Tryd.prog 7 #[.string n, .slice (some ⟨b, o, none⟩) l.length cp, .int .u8 (c.toNat : Int)] w fun e w' => e = .returned (.bool true) ∧ Below w.heap.size w w' := by
  obtain ⟨g1, g2⟩ := great_not hg
  obtain ⟨g3, g4⟩ := small_of g2 (by omega)
  have hr : TRow w (.slice (some ⟨b, o, none⟩) l.length cp) l := ⟨_, cp, rfl, hcp, fun _ => ⟨b, o, rfl, hb, hL⟩⟩
  obtain ⟨k, hk⟩ : ∃ k, k = c.toNat % l.length := ⟨_, rfl⟩
  have hkl : k < l.length := by rw [hk]; exact Nat.mod_lt _ hne
  have hkm : ((c.toNat : Int) % (l.length : Int)) = (k : Int) := by rw [hk]; simp
  have hc8 : c.toNat < 256 := c.toNat_lt
  have hkt : Int.tmod (c.toNat : Int) (l.length : Int) = (k : Int) := by
    rw [Int.tmod_eq_emod_of_nonneg (by omega)]
    exact hkm
  have i1 : (0 : Int) ≤ (k : Int) := by omega
  have i2 : (k : Int) ≤ (l.length : Int) := by omega
  have i3 : (k : Int) ≤ (cp : Int) := by omega
  have i4 : ¬ cp = k := by omega
  have i5 : ¬ l.length = 0 := by omega
  have u1 : decide ((200 : Int) < (n.size : Int)) = false := decide_eq_false (by omega)
  have u2 : ((l.length : Int) == 0) = false := beq_eq_false_iff_ne.2 (by omega)
  obtain ⟨j0, hi, hz0, hz1, hz2⟩ := info41
  have HI := Lib.hid (And.intro hi (And.intro hz0 (And.intro hz1 hz2)))
  clear hi hz0 hz1 hz2 hk
  go_enter Tryd.func7, Tryd.ntmps7
  go_wp2_with fail
  refine (alive_any w hE).mono ?_
  rintro e w1 ⟨rfl, d1⟩
  have hr1 := hr.on d1
  have hL1 := hL.on hb d1
  have hb1 : b < w1.heap.size := Nat.lt_of_lt_of_le hb d1.size
  go_wp2_with fail
  refine (great_any _ l w1 hr1 g3).mono ?_
  rintro e w2 ⟨rfl, hw⟩
  have hw := hw.symm
  subst hw
  rw [hg]
  go_wp2_with fail
  clear u1 u2
  go_region_held3 (fun _ => True)
    (trivial)
    (first
      | (refine step_append_own _ (by rfl) _ _ _ (by rfl) w1.heap.size 40 j0 _ 2 32 Tryd.underlying22 HI.out.1 HI.out.2.1 HI.out.2.2.1 HI.out.2.2.2 rfl (by omega) (.slice (some ⟨w1.heap.size, 0, none⟩) 0 0) 0 [] (by rfl) (World.ownsRow_made w1 #[] 0 (Nat.le_refl _) (Nat.zero_le _) (by simp)) ⟨b, o + k * 2, none⟩ (l.length - k) (cp - k) (flat (l.drop k)) (by rfl) (by rw [flat_len, List.length_drop]) (turn1 hL1 hb1 k _) (flat_one _) (by unfold maxLen; omega) (by omega) (by simp) ?_; intro v2 w2 hown2 hgrow2 hnil2)
      | (refine step_append_own _ (by rfl) _ _ _ (by rfl) w1.heap.size 40 j0 _ 2 32 Tryd.underlying22 HI.out.1 HI.out.2.1 HI.out.2.2.1 HI.out.2.2.2 rfl (by omega) v2 (0 + (l.length - k)) ([] ++ flat (l.drop k)) (by rfl) hown2 ⟨b, o, none⟩ k cp (flat (l.take k)) (by rfl) (by rw [flat_len, List.length_take]; omega) (turn2 hL1 hb1 hgrow2 (by simp [Value.ownBlock]; omega) k) (flat_one _) (by unfold maxLen; omega) (by omega) (by have := hgrow2.size; simp at this ⊢; omega) ?_; intro v3 w3 hown3 hgrow3 hnil3)
      | fail)
  have d3 : Below w.heap.size w w3 := by
    have q1 : Below w1.heap.size w1 w2 := (((Below.refl _ _).alloc (Nat.le_refl _) _).drew).grown hgrow2 (by simp) (fun k hk => by cases hk; exact Nat.le_refl _)
    have q2 : Below w1.heap.size w1 w3 := q1.grown hgrow3 q1.size (fun k hk => (hown2.lt k hk).1)
    exact d1.trans (q2.mono d1.size)
  have hr3 := hr.on d3
  have hT : OwnT w3 w1.heap.size v3 (l.drop k ++ l.take k) := by
    show w3.ownsRow w1.heap.size 40 2 v3 (l.drop k ++ l.take k).length (flat (l.drop k ++ l.take k))
    rw [flat_append, List.length_append, List.length_drop, List.length_take, Nat.min_eq_left (by omega)]
    rw [Nat.zero_add, List.nil_append] at hown3
    exact hown3
  have ht3 := ownT_row hT
  have HP := Lib.hid (turn_perm l k)
  have hTl : (l.drop k ++ l.take k).length = l.length := HP.out.length_eq
  have hTs : ∀ x ∈ l.drop k ++ l.take k, x.1.size ≤ 281474976710656 ∧ x.2.size ≤ 281474976710656 := fun x hx => g3 x (HP.out.mem_iff.1 hx)
  have HC := Lib.hid (kmake_perm n HP.out)
  obtain ⟨s1, s2, s3, s4⟩ := kmake_small n l
  generalize l.drop k ++ l.take k = T at *
  clear hown2 hown3 hgrow2 hgrow3 hnil2 hnil3 hT hL1 hb1 hr1 d1 HP HI g2 g4
  have hT1 : T.length ≤ 1000 := by omega
  clear hTl
  go_wp2_with fail
  refine (kmake_any n _ l w3 hr3 (by omega) g3 (by omega)).mono ?_
  rintro e w4 ⟨⟨_, rfl, hk4⟩, n4⟩
  obtain ⟨ad4, cp4, rfl, r4⟩ := hk4.open
  have ht4 := ht3.on n4
  have d4 := d3.trans (n4.mono d3.size)
  clear n4 d3 ht3 hr3 hk4
  go_wp2_with fail
  refine (kmake_any n _ T _ (ht4.on (aBelow _ _)) hT1 hTs (by omega)).mono ?_
  rw [HC.out]
  rintro e w5 ⟨⟨_, rfl, hk5⟩, n5⟩
  obtain ⟨ad5, cp5, rfl, r5⟩ := hk5.open
  have x0 := newC (i := 0) n5
  have x1 := newC (i := 1) n5
  simp at x0 x1
  have n5 := belowA n5
  have r4 := r4.on n5
  have d5 := d4.trans (n5.mono d4.size)
  clear n5 d4 ht4 hk5 HC
  generalize kmake n l = C at *
  obtain ⟨_, s5⟩ := small_of s3 (by omega)
  have H1 := Lib.hid fun W (n : Below w5.heap.size w5 W) => refKsame_any _ _ C.1 C.1 W (KRow.shut (r4.on n)) (KRow.shut (r5.on n)) (by omega)
  have H2 := Lib.hid fun W (n : Below w5.heap.size w5 W) => ktext_any _ C.1 W (KRow.shut (r4.on n)) (by omega) s5 (by omega) (by omega)
  have H3 := Lib.hid fun W (n : Below w5.heap.size w5 W) => ktext_any _ C.1 W (KRow.shut (r5.on n)) (by omega) s5 (by omega) (by omega)
  rw [eqK_self] at H1
  have qT := beq_self_ba (ktextB C.1)
  have qC : (C.2 == C.2) = true := by simp
  generalize ktextB C.1 = X at *
  go_wp2_with fail
  have y0 : ((w5.alloc (.cells #[.string C.1.1, .slice ad5 C.1.2.length cp5] 24)).drew).cell? ⟨w5.heap.size, 0, none⟩ = some (.string C.1.1) := by simp [go_sem]
  have y1 : ((w5.alloc (.cells #[.string C.1.1, .slice ad5 C.1.2.length cp5] 24)).drew).cell? ⟨w5.heap.size, 1, none⟩ = some (.slice ad5 C.1.2.length cp5) := by simp [go_sem]
  have e5 : Below w5.heap.size w5 ((w5.alloc (.cells #[.string C.1.1, .slice ad5 C.1.2.length cp5] 24)).drew) := (aBelow _ _).drew
  have x0' := keepC e5 x0 (World.block_lt_of_cell? _ _ x0)
  have x1' := keepC e5 x1 (World.block_lt_of_cell? _ _ x0)
  have hS := And.intro y0 (And.intro y1 (And.intro x0' (And.intro x1' e5)))
  have D5 := Lib.hid d5
  clear x0 x1 x0' x1' y0 y1 e5 d5 r4 r5 s1 s2 s3 s4 s5 hTs hT1 g1 g3 hc8 hkl hkm hkt i1 i2 i3 i4 i5 hne hcp hr hL hb hE hz
  generalize (w5.alloc (.cells #[.string C.1.1, .slice ad5 C.1.2.length cp5] 24)) = W6 at *
  generalize C.1.2.length = lc at *
  generalize C.1.1 = nc at *
  generalize C.2 = ec at *
  generalize w4.heap.size = xb at *
  generalize hyb : w5.heap.size = yb at *
  have HY := Lib.hid hyb
  clear hyb
  go_region_held3 (fun w' => w'.cell? ⟨yb, 0, none⟩ = some (.string nc) ∧ w'.cell? ⟨yb, 1, none⟩ = some (.slice ad5 lc cp5) ∧ w'.cell? ⟨xb, 0, none⟩ = some (.string nc) ∧ w'.cell? ⟨xb, 1, none⟩ = some (.slice ad4 lc cp4) ∧ Below yb w5 w') (first | assumption)
    (first
      | (go_at_call 12; refine (H1.out _ (held4_b (by assumption))).mono ?_; rintro e w7 ⟨rfl, n7⟩; have hS7 := held4_on (by assumption) n7; clear n7)
      | (go_at_call_of 15 (Value.slice ad4 lc cp4); refine (H2.out _ (held4_b (by assumption))).mono ?_; rintro e w7 ⟨rfl, n7⟩; have hS7 := held4_on (by assumption) n7; clear n7)
      | (go_at_call_of 15 (Value.slice ad5 lc cp5); refine (H3.out _ (held4_b (by assumption))).mono ?_; rintro e w7 ⟨rfl, n7⟩; have hS7 := held4_on (by assumption) n7; clear n7)
      | fail)
  all_goals
    have d7 : Below w.heap.size w w7 := D5.out.trans ((HY.out ▸ held4_b hS7).mono D5.out.size)
    clear hS7 hS
    go_wp2
    go_ret
    exact ⟨rfl, d7⟩

theorem order_walk (n : ByteArray) (a : Option Addr) (cp : Nat) (l : List Tag) (c : UInt8) (w : World) (hE : Env w) (h : TRow w (.slice a l.length cp) l) (hl : ∀ x ∈ l, x.1.size ≤ 281474976710656 ∧ x.2.size ≤ 281474976710656) (hz : n.size ≤ 281474976710656) :
    Calls Tryd.prog 7 #[.string n, .slice a l.length cp, .int .u8 (c.toNat : Int)] w fun e w' => e = .returned (.bool true) ∧ Below w.heap.size w w' := by
  cases hg : greatT l
  · by_cases h2 : 200 < n.size
    · exact order_skip n a cp l c w hE h hl hz (Or.inr ⟨hg, h2⟩)
    · rcases Nat.eq_zero_or_pos l.length with h0 | h0
      · rw [h0]
        exact order_none' n a cp c w hE h2
      · obtain ⟨a2, c2, hv, hc, hat⟩ := h
        cases hv
        obtain ⟨b, o, ha, hb, hL⟩ := hat (ne_of_lt h0)
        subst ha
        exact order_some n b o cp l c w hE hb hL hc h0 hg h2
  · exact order_skip n a cp l c w hE h hl hz (Or.inl hg)
end Go.Proofs.YtfjbbaejeckonaaDoor
