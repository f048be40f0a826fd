/- Walks: the law TagOrder. -/
import Derived.Test.YtjeimgngnbgopaaDoorL1
namespace Go.Proofs.YtjeimgngnbgopaaDoor
open Go Go.RowKit Go.Sort Tg

set_option maxHeartbeats 1000000 in
theorem order_great (v : Value) (l : List Tag) (c : UInt8) (w : World) (hE : Env w) (h : TRow w v l) (hl : ∀ x ∈ l, x.1.size ≤ 281474976710656 ∧ x.2.size ≤ 281474976710656) (hg : greatT l = true) :
    Calls Tryd.prog 6 #[v, .int .u8 (c.toNat : Int)] w fun e w' => e = .returned (.bool true) ∧ Below w.heap.size w w' := by
  go_enter Tryd.func6, Tryd.ntmps6
  go_wp2_with fail
  refine (alive_any w hE).mono ?_
  rintro e w1 ⟨rfl, d1⟩
  go_wp2_with fail
  refine (great_any v l w1 (h.on d1) hl).mono ?_
  rintro e w2 ⟨rfl, rfl⟩
  rw [hg]
  go_wp2_with fail
  go_ret
  exact ⟨rfl, d1⟩

set_option maxHeartbeats 1000000 in
theorem order_none' (a : Option Addr) (cp : Nat) (c : UInt8) (w : World) (hE : Env w) :
    Calls Tryd.prog 6 #[.slice a 0 cp, .int .u8 (c.toNat : Int)] w fun e w' => e = .returned (.bool true) ∧ Below w.heap.size w w' := by
  have h : ∀ W, TRow W (.slice a 0 cp) [] := fun W => ⟨a, cp, rfl, Nat.zero_le _, fun hne => absurd rfl hne⟩
  go_enter Tryd.func6, Tryd.ntmps6
  go_wp2_with fail
  refine (alive_any w hE).mono ?_
  rintro e w1 ⟨rfl, d1⟩
  go_wp2_with fail
  refine (great_any _ [] w1 (h w1) (fun x hx => by cases hx)).mono ?_
  rintro e w2 ⟨rfl, rfl⟩
  rw [show greatT [] = false from rfl]
  go_wp2_with fail
  go_ret
  exact ⟨rfl, d1⟩

/-- The tags turned by k. -/
theorem turn_perm (l : List Tag) (k : Nat) : (l.drop k ++ l.take k).Perm l := by
  have h : (l.drop k ++ l.take k).Perm (l.take k ++ l.drop k) := List.perm_append_comm
  rwa [List.take_append_drop] at h

theorem turn1 {w1 : World} {b o : Nat} {l : List Tag} (hL : TLies w1 b o l) (hb : b < w1.heap.size) (k : Nat) (ob : Obj) : ∀ i u, (flat (l.drop k))[i]? = some u → (w1.alloc ob).drew.cell? ((⟨b, o + k * 2, none⟩ : Addr).add i) = some u := by
  intro i u hu
  rw [addr_add]
  show (w1.alloc ob).cell? _ = _
  rw [World.cell?_alloc_lt _ _ _ (show (⟨b, o + k * 2 + i, none⟩ : Addr).block < w1.heap.size from hb)]
  exact flat_cells (lies_drop hL k) i u hu
theorem lies_take {w : World} {b o : Nat} {l : List Tag} (h : TLies w b o l) (k : Nat) : TLies w b o (l.take k) := by
  intro i hi
  have hi' : i < l.length := by rw [List.length_take] at hi; omega
  rw [List.getElem_take]
  exact h i hi'
theorem turn2 {w1 w2 : World} {b o : Nat} {l : List Tag} {ob : Obj} {row : Option Nat} (hL : TLies w1 b o l) (hb : b < w1.heap.size) (hg : (w1.alloc ob).drew.grownBy w2 row) (hne : some b ≠ row) (k : Nat) : ∀ i u, (flat (l.take k))[i]? = some u → w2.cell? ((⟨b, o, none⟩ : Addr).add i) = some u := by
  intro i u hu
  rw [addr_add]
  exact far1 hg hb hne (flat_cells (lies_take hL k) i u hu)

set_option maxRecDepth 100000 in
set_option maxHeartbeats 1000000 in
theorem order_some (b o cp : Nat) (l : List Tag) (c : UInt8) (w : World) (hE : Env w) (hb : b < w.heap.size) (hL : TLies w b o l) (hcp : l.length ≤ cp) (hne : 0 < l.length) (hg : greatT l = false) :
    Calls Tryd.prog 6 #[.slice (some ⟨b, o, none⟩) l.length cp, .int .u8 (c.toNat : Int)] w fun e w' => e = .returned (.bool true) ∧ Below w.heap.size w w' := by
  obtain ⟨g1, g2⟩ := great_not hg
  obtain ⟨g3, g4⟩ := small_of g2 (by omega)
  have hr : TRow w (.slice (some ⟨b, o, none⟩) l.length cp) l := ⟨_, cp, rfl, hcp, fun _ => ⟨b, o, rfl, hb, hL⟩⟩
  obtain ⟨k, hk⟩ : ∃ k, k = c.toNat % l.length := ⟨_, rfl⟩
  have hkl : k < l.length := by rw [hk]; exact Nat.mod_lt _ hne
  have hkm : ((c.toNat : Int) % (l.length : Int)) = (k : Int) := by rw [hk]; simp
  have hc8 : c.toNat < 256 := c.toNat_lt
  have hkt : Int.tmod (c.toNat : Int) (l.length : Int) = (k : Int) := by
    rw [Int.tmod_eq_emod_of_nonneg (by omega)]
    exact hkm
  have i1 : (0 : Int) ≤ (k : Int) := by omega
  have i2 : (k : Int) ≤ (l.length : Int) := by omega
  have i3 : (k : Int) ≤ (cp : Int) := by omega
  have i4 : ¬ cp = k := by omega
  have i5 : ¬ l.length = 0 := by omega
  obtain ⟨j0, hi, hz0, hz1, hz2⟩ := info41
  have HI := Lib.hid (And.intro hi (And.intro hz0 (And.intro hz1 hz2)))
  clear hi hz0 hz1 hz2 hk
  go_enter Tryd.func6, Tryd.ntmps6
  go_wp2_with fail
  refine (alive_any w hE).mono ?_
  rintro e w1 ⟨rfl, d1⟩
  have hr1 := hr.on d1
  have hL1 := hL.on hb d1
  have hb1 : b < w1.heap.size := Nat.lt_of_lt_of_le hb d1.size
  go_wp2_with fail
  refine (great_any _ l w1 hr1 g3).mono ?_
  rintro e w1 ⟨rfl, rfl⟩
  rw [hg]
  go_wp2_with fail
  go_region_held3 (fun _ => True)
    (trivial)
    (first
      | (refine step_append_own _ (by rfl) _ _ _ (by rfl) w1.heap.size 41 j0 _ 2 32 Tryd.underlying22 HI.out.1 HI.out.2.1 HI.out.2.2.1 HI.out.2.2.2 rfl (by omega) (.slice (some ⟨w1.heap.size, 0, none⟩) 0 0) 0 [] (by rfl) (World.ownsRow_made w1 #[] 0 (Nat.le_refl _) (Nat.zero_le _) (by simp)) ⟨b, o + k * 2, none⟩ (l.length - k) (cp - k) (flat (l.drop k)) (by rfl) (by rw [flat_len, List.length_drop]) (turn1 hL1 hb1 k _) (flat_one _) (by unfold maxLen; omega) (by omega) (by simp) ?_; intro v2 w2 hown2 hgrow2 hnil2)
      | (refine step_append_own _ (by rfl) _ _ _ (by rfl) w1.heap.size 41 j0 _ 2 32 Tryd.underlying22 HI.out.1 HI.out.2.1 HI.out.2.2.1 HI.out.2.2.2 rfl (by omega) v2 (0 + (l.length - k)) ([] ++ flat (l.drop k)) (by rfl) hown2 ⟨b, o, none⟩ k cp (flat (l.take k)) (by rfl) (by rw [flat_len, List.length_take]; omega) (turn2 hL1 hb1 hgrow2 (by simp [Value.ownBlock]; omega) k) (flat_one _) (by unfold maxLen; omega) (by omega) (by have := hgrow2.size; simp at this ⊢; omega) ?_; intro v3 w3 hown3 hgrow3 hnil3)
      | fail)
  have d3 : Below w.heap.size w w3 := by
    have q1 : Below w1.heap.size w1 w2 := (((Below.refl _ _).alloc (Nat.le_refl _) _).drew).grown hgrow2 (by simp) (fun k hk => by cases hk; exact Nat.le_refl _)
    have q2 : Below w1.heap.size w1 w3 := q1.grown hgrow3 q1.size (fun k hk => (hown2.lt k hk).1)
    exact d1.trans (q2.mono d1.size)
  have hr3 := hr.on d3
  have hT : OwnT w3 w1.heap.size v3 (l.drop k ++ l.take k) := by
    show w3.ownsRow w1.heap.size 41 2 v3 (l.drop k ++ l.take k).length (flat (l.drop k ++ l.take k))
    rw [flat_append, List.length_append, List.length_drop, List.length_take, Nat.min_eq_left (by omega)]
    rw [Nat.zero_add, List.nil_append] at hown3
    exact hown3
  have ht3 := ownT_row hT
  have HP := Lib.hid (turn_perm l k)
  have hTl : (l.drop k ++ l.take k).length = l.length := HP.out.length_eq
  have hTs : ∀ x ∈ l.drop k ++ l.take k, x.1.size ≤ 281474976710656 ∧ x.2.size ≤ 281474976710656 := fun x hx => g3 x (HP.out.mem_iff.1 hx)
  have HC := Lib.hid (canon_perm HP.out)
  have HR := Lib.hid (right_canon (l := l))
  have HF := Lib.hid (canon_err (l := l))
  have hcl := canon_le l
  generalize l.drop k ++ l.take k = T at *
  clear hown2 hown3 hgrow2 hgrow3 hnil2 hnil3 hT hL1 hb1 hr1 d1 HP HI g2 g4
  have hT1 : T.length ≤ 1000 := by omega
  clear hTl
  go_wp2_with fail
  refine (canon_any _ l w3 hr3 (by omega) g3).mono ?_
  rintro e w4 ⟨⟨v4, rfl, hr4⟩, n4⟩
  have ht4 := ht3.on n4
  have d4 := d3.trans (n4.mono d3.size)
  clear n4 d3 ht3 hr3
  go_wp2_with fail
  refine (canon_any _ T w4 ht4 hT1 hTs).mono ?_
  rw [HC.out]
  rintro e w5 ⟨⟨v5, rfl, hr5⟩, n5⟩
  have hr4 := hr4.on n5
  have d5 := d4.trans (n5.mono d4.size)
  clear n5 d4 ht4
  generalize canon l = C at *
  by_cases hC : C.2 = 0
  · obtain ⟨hRt, hRl⟩ := HR.out hC
    obtain ⟨M, e⟩ := C
    have hC' : e = 0 := hC
    subst hC'
    obtain ⟨q1, q2⟩ := right_small hRt
    obtain ⟨q3, q4⟩ := small_of q2 (by omega)
    have hRt' : right M = true := hRt
    have hRl' : M.length = l.length := hRl
    dsimp only at hr4 hr5 q1 q2 q3 q4
    have HLn := Lib.hid hRl'
    clear HR HF HC hC hRt hRl hRl' hcl
    obtain ⟨a4, c4, hv4, hc4, ht⟩ := hr4
    subst hv4
    have hr4 : TRow w5 (.slice a4 M.length c4) M := ⟨a4, c4, rfl, hc4, ht⟩
    clear ht
    go_wp2_with fail
    refine (same_any _ _ M w5 hr4 hr5 (by omega)).mono ?_
    rintro e w6 ⟨rfl, n6⟩
    have hr4 := hr4.on n6
    have d6 := d5.trans (n6.mono d5.size)
    have hML := HLn.out
    rw [hML] at hr4 ⊢
    clear n6 d5 hr5 hML HLn
    go_wp2_with fail
    refine (right_any _ M w6 hr4 (by omega) q3).mono ?_
    rw [hRt']
    rintro e w7 ⟨rfl, n7⟩
    have d7 := d6.trans (n7.mono d6.size)
    go_wp2_with fail
    go_ret
    exact ⟨rfl, d7⟩
  · have hnil := HF.out hC
    obtain ⟨M, e⟩ := C
    have hM : M = [] := hnil
    subst hM
    have he : ¬ e = 0 := hC
    have he2 : (e == 0) = false := by simp [he]
    obtain ⟨a4, c4, hv4, _, _⟩ := hr4
    have hv4' : v4 = .slice a4 0 c4 := hv4
    subst hv4'
    obtain ⟨a5, c5, hv5, _, _⟩ := hr5
    have hv5' : v5 = .slice a5 0 c5 := hv5
    subst hv5'
    dsimp only
    clear HR HF HC hC hnil hv4 hv5
    go_wp2_with fail
    go_ret
    exact ⟨rfl, d5⟩

theorem order_walk (a : Option Addr) (cp : Nat) (l : List Tag) (c : UInt8) (w : World) (hE : Env w) (h : TRow w (.slice a l.length cp) l) (hl : ∀ x ∈ l, x.1.size ≤ 281474976710656 ∧ x.2.size ≤ 281474976710656) :
    Calls Tryd.prog 6 #[.slice a l.length cp, .int .u8 (c.toNat : Int)] w fun e w' => e = .returned (.bool true) ∧ Below w.heap.size w w' := by
  cases hg : greatT l
  · rcases Nat.eq_zero_or_pos l.length with h0 | h0
    · rw [h0]
      exact order_none' a cp c w hE
    · obtain ⟨a2, c2, hv, hc, hat⟩ := h
      cases hv
      obtain ⟨b, o, ha, hb, hL⟩ := hat (ne_of_lt h0)
      subst ha
      exact order_some b o cp l c w hE hb hL hc h0 hg
  · exact order_great _ l c w hE h hl hg
end Go.Proofs.YtjeimgngnbgopaaDoor
