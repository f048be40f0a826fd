/- Walks: the law QueryFits. -/
import Derived.Test.YtfohknpjlkjbbaaGreatDoorL2
namespace Go.Proofs.YtfohknpjlkjbbaaGreatDoor
open Go Go.RowKit Tg Pk Ky Qy

set_option maxHeartbeats 1000000 in
theorem fits_skip (a b a0 : Option Addr) (c d c0 : Nat) (q : Query) (k : Key) (w : World) (hE : Env w) (hm : MRow w (.slice a q.2.2.1.length c) q.2.2.1) (hl : Row w (.slice b q.2.2.2.length d) q.2.2.2) (ht : TRow w (.slice a0 k.2.length c0) k.2) (hz : q.2.1.size ≤ 281474976710656) (hzm : ∀ x ∈ q.2.2.1, x.2.1.size ≤ 281474976710656 ∧ x.2.2.size ≤ 281474976710656) (hzb : ∀ x ∈ q.2.2.2, x.size ≤ 281474976710656) (hzt : ∀ x ∈ k.2, x.1.size ≤ 281474976710656 ∧ x.2.size ≤ 281474976710656) (hzk : k.1.size ≤ 281474976710656)
    (hg : greatQ q = true ∨ (greatQ q = false ∧ greatT k.2 = true) ∨ (greatQ q = false ∧ greatT k.2 = false ∧ 200 < k.1.size)) :
    Calls Tryz.prog 5 #[.agg #[.int .i64 q.1, .string q.2.1, .slice a q.2.2.1.length c, .slice b q.2.2.2.length d], .agg #[.string k.1, .slice a0 k.2.length c0]] w fun e w' => e = .returned (.bool true) ∧ Below w.heap.size w w' := by
  have HG := Lib.hid (fun v W (h : QRow W v q) => qgreat_any v q W h hz hzm hzb)
  have HGT := Lib.hid (fun v W (h : TRow W v k.2) => great_any v k.2 W h hzt)
  rcases hg with hg | ⟨hg, h2⟩ | ⟨hg, h2, h3⟩
  · rw [hg] at HG
    go_enter Tryz.func5, Tryz.ntmps5
    go_wp2_with fail
    refine (alive_any _ ((hE.alloc _).alloc _)).mono ?_
    rintro e w1 ⟨rfl, n1⟩
    have Q := (QB.new w w.heap.size rfl q.1 q.2.1 (.slice a q.2.2.1.length c) (.slice b q.2.2.2.length d)).on (belowA n1)
    have k0 := newC (i := 0) n1
    have k1 := newC (i := 1) n1
    simp at k0 k1
    have zk : w.heap.size + 1 < w1.heap.size := by have := n1.size; simp at this; omega
    have dd := belowA2 n1
    have hm1 := hm.on dd
    have hl1 := hl.on dd
    have ht1 := ht.on dd
    clear n1
    obtain ⟨⟨q0, q1, q2, q3⟩, _, _⟩ := id Q
    go_wp2_with fail
    refine (HG.out _ _ (QRow.shut hm1 hl1)).mono ?_
    rintro e w2 ⟨rfl, n2⟩
    clear q0 q1 q2 q3
    have Q := Q.on n2
    have hm1 := hm1.on n2
    have hl1 := hl1.on n2
    have ht1 := ht1.on n2
    have k0 := keepC n2 k0 zk
    have k1 := keepC n2 k1 zk
    have dd := dd.trans (n2.mono dd.size)
    have zk := Nat.lt_of_lt_of_le zk n2.size
    clear n2
    obtain ⟨⟨q0, q1, q2, q3⟩, _, _⟩ := id Q
    go_wp2_with fail
    go_ret
    exact ⟨rfl, dd⟩
  · rw [hg] at HG
    rw [h2] at HGT
    go_enter Tryz.func5, Tryz.ntmps5
    go_wp2_with fail
    refine (alive_any _ ((hE.alloc _).alloc _)).mono ?_
    rintro e w1 ⟨rfl, n1⟩
    have Q := (QB.new w w.heap.size rfl q.1 q.2.1 (.slice a q.2.2.1.length c) (.slice b q.2.2.2.length d)).on (belowA n1)
    have k0 := newC (i := 0) n1
    have k1 := newC (i := 1) n1
    simp at k0 k1
    have zk : w.heap.size + 1 < w1.heap.size := by have := n1.size; simp at this; omega
    have dd := belowA2 n1
    have hm1 := hm.on dd
    have hl1 := hl.on dd
    have ht1 := ht.on dd
    clear n1
    obtain ⟨⟨q0, q1, q2, q3⟩, _, _⟩ := id Q
    go_wp2_with fail
    refine (HG.out _ _ (QRow.shut hm1 hl1)).mono ?_
    rintro e w2 ⟨rfl, n2⟩
    clear q0 q1 q2 q3
    have Q := Q.on n2
    have hm1 := hm1.on n2
    have hl1 := hl1.on n2
    have ht1 := ht1.on n2
    have k0 := keepC n2 k0 zk
    have k1 := keepC n2 k1 zk
    have dd := dd.trans (n2.mono dd.size)
    have zk := Nat.lt_of_lt_of_le zk n2.size
    clear n2
    obtain ⟨⟨q0, q1, q2, q3⟩, _, _⟩ := id Q
    go_wp2_with fail
    refine (HGT.out _ _ ht1).mono ?_
    rintro e w3 ⟨rfl, hw⟩
    have hw := hw.symm
    subst hw
    go_wp2_with fail
    go_ret
    exact ⟨rfl, dd⟩
  · rw [hg] at HG
    rw [h2] at HGT
    go_enter Tryz.func5, Tryz.ntmps5
    go_wp2_with fail
    refine (alive_any _ ((hE.alloc _).alloc _)).mono ?_
    rintro e w1 ⟨rfl, n1⟩
    have Q := (QB.new w w.heap.size rfl q.1 q.2.1 (.slice a q.2.2.1.length c) (.slice b q.2.2.2.length d)).on (belowA n1)
    have k0 := newC (i := 0) n1
    have k1 := newC (i := 1) n1
    simp at k0 k1
    have zk : w.heap.size + 1 < w1.heap.size := by have := n1.size; simp at this; omega
    have dd := belowA2 n1
    have hm1 := hm.on dd
    have hl1 := hl.on dd
    have ht1 := ht.on dd
    clear n1
    obtain ⟨⟨q0, q1, q2, q3⟩, _, _⟩ := id Q
    go_wp2_with fail
    refine (HG.out _ _ (QRow.shut hm1 hl1)).mono ?_
    rintro e w2 ⟨rfl, n2⟩
    clear q0 q1 q2 q3
    have Q := Q.on n2
    have hm1 := hm1.on n2
    have hl1 := hl1.on n2
    have ht1 := ht1.on n2
    have k0 := keepC n2 k0 zk
    have k1 := keepC n2 k1 zk
    have dd := dd.trans (n2.mono dd.size)
    have zk := Nat.lt_of_lt_of_le zk n2.size
    clear n2
    obtain ⟨⟨q0, q1, q2, q3⟩, _, _⟩ := id Q
    go_wp2_with fail
    refine (HGT.out _ _ ht1).mono ?_
    rintro e w3 ⟨rfl, hw⟩
    have hw := hw.symm
    subst hw
    go_wp2_with fail
    go_ret
    exact ⟨rfl, dd⟩

theorem box6_on {ab kb : Nat} {x0 x1 x2 x3 y0 y1 : Value} {w W w3 : World}
    (h : W.cell? ⟨ab, 0, none⟩ = some x0 ∧ W.cell? ⟨ab, 1, none⟩ = some x1 ∧ W.cell? ⟨ab, 2, none⟩ = some x2 ∧ W.cell? ⟨ab, 3, none⟩ = some x3 ∧ W.cell? ⟨kb, 0, none⟩ = some y0 ∧ W.cell? ⟨kb, 1, none⟩ = some y1 ∧ Below ab w W) (n : Below W.heap.size W w3) :
    w3.cell? ⟨ab, 0, none⟩ = some x0 ∧ w3.cell? ⟨ab, 1, none⟩ = some x1 ∧ w3.cell? ⟨ab, 2, none⟩ = some x2 ∧ w3.cell? ⟨ab, 3, none⟩ = some x3 ∧ w3.cell? ⟨kb, 0, none⟩ = some y0 ∧ w3.cell? ⟨kb, 1, none⟩ = some y1 ∧ Below ab w w3 := by
  obtain ⟨h0, h1, h2, h3, h4, h5, h6⟩ := h
  have z0 := World.block_lt_of_cell? _ _ h0
  have z1 := World.block_lt_of_cell? _ _ h4
  exact ⟨keepC n h0 z0, keepC n h1 z0, keepC n h2 z0, keepC n h3 z0, keepC n h4 z1, keepC n h5 z1, h6.trans (n.mono (Nat.le_of_lt z0))⟩
theorem box6_b {ab kb : Nat} {x0 x1 x2 x3 y0 y1 : Value} {w W : World}
    (h : W.cell? ⟨ab, 0, none⟩ = some x0 ∧ W.cell? ⟨ab, 1, none⟩ = some x1 ∧ W.cell? ⟨ab, 2, none⟩ = some x2 ∧ W.cell? ⟨ab, 3, none⟩ = some x3 ∧ W.cell? ⟨kb, 0, none⟩ = some y0 ∧ W.cell? ⟨kb, 1, none⟩ = some y1 ∧ Below ab w W) : Below ab w W := h.2.2.2.2.2.2

set_option maxRecDepth 100000 in
set_option maxHeartbeats 2000000 in
theorem fits_main (a b a0 : Option Addr) (c d c0 : Nat) (q : Query) (k : Key) (w : World) (hE : Env w) (hm : MRow w (.slice a q.2.2.1.length c) q.2.2.1) (hl : Row w (.slice b q.2.2.2.length d) q.2.2.2) (ht : TRow w (.slice a0 k.2.length c0) k.2) (hg : greatQ q = false) (hgt : greatT k.2 = false) (hk : ¬ 200 < k.1.size) :
    Calls Tryz.prog 5 #[.agg #[.int .i64 q.1, .string q.2.1, .slice a q.2.2.1.length c, .slice b q.2.2.2.length d], .agg #[.string k.1, .slice a0 k.2.length c0]] w fun e w' => e = .returned (.bool true) ∧ Below w.heap.size w w' := by
  obtain ⟨g1, g2, g3, g4, g5⟩ := greatQ_not hg
  obtain ⟨g6, g7⟩ := bigs g3 g5 (by omega)
  obtain ⟨t1, t2⟩ := great_not hgt
  obtain ⟨t3, t4⟩ := small_of t2 (by omega)
  have HG := Lib.hid (fun v W (h : QRow W v q) => qgreat_any v q W h (by omega) g6 g7)
  have HGT := Lib.hid (fun v W (h : TRow W v k.2) => great_any v k.2 W h t3)
  rw [hg] at HG
  rw [hgt] at HGT
  have HF1 := Lib.hid (fun W (n : Below w.heap.size w W) => qfits_any _ _ q k W (QRow.shut (hm.on n) (hl.on n)) (KRow.shut (ht.on n)) (by omega) (by omega))
  have HF2 := Lib.hid (fun W (n : Below w.heap.size w W) => refQfits_any _ _ q k W (QRow.shut (hm.on n) (hl.on n)) (KRow.shut (ht.on n)) (by omega) (by omega) t3 g6)
  have HR1 := Lib.hid (fun W (n : Below w.heap.size w W) => qgroup_any _ _ q k W (QRow.shut (hm.on n) (hl.on n)) (KRow.shut (ht.on n)) (by omega) (by omega) t4)
  have HR2 := Lib.hid (fun W (n : Below w.heap.size w W) => refQgroup_any _ _ q k W (QRow.shut (hm.on n) (hl.on n)) (KRow.shut (ht.on n)) (by omega) (by omega) t4)
  generalize qfits q k = fb at *
  generalize textB (only k.2 q.2.2.2) = tx at *
  have e1 : (fb == fb) = true := by simp
  have e2 := beq_self_ba tx
  clear g3 g5 g6 g7 hg t2 t3 t4 hgt
  go_enter Tryz.func5, Tryz.ntmps5
  go_wp2_with fail
  refine (alive_any _ ((hE.alloc _).alloc _)).mono ?_
  rintro e w1 ⟨rfl, n1⟩
  have Q := (QB.new w w.heap.size rfl q.1 q.2.1 (.slice a q.2.2.1.length c) (.slice b q.2.2.2.length d)).on (belowA n1)
  have k0 := newC (i := 0) n1
  have k1 := newC (i := 1) n1
  simp at k0 k1
  have zk : w.heap.size + 1 < w1.heap.size := by have := n1.size; simp at this; omega
  have dd := belowA2 n1
  have hm1 := hm.on dd
  have hl1 := hl.on dd
  have ht1 := ht.on dd
  clear n1
  obtain ⟨⟨q0, q1, q2, q3⟩, _, _⟩ := id Q
  go_wp2_with fail
  refine (HG.out _ _ (QRow.shut hm1 hl1)).mono ?_
  rintro e w2 ⟨rfl, n2⟩
  clear q0 q1 q2 q3
  have Q := Q.on n2
  have hm1 := hm1.on n2
  have hl1 := hl1.on n2
  have ht1 := ht1.on n2
  have k0 := keepC n2 k0 zk
  have k1 := keepC n2 k1 zk
  have dd := dd.trans (n2.mono dd.size)
  have zk := Nat.lt_of_lt_of_le zk n2.size
  clear n2
  obtain ⟨⟨q0, q1, q2, q3⟩, _, _⟩ := id Q
  go_wp2_with fail
  refine (HGT.out _ _ ht1).mono ?_
  rintro e w3 ⟨rfl, hw⟩
  have hw := hw.symm
  subst hw
  go_wp2_with fail
  have hS := And.intro q0 (And.intro q1 (And.intro q2 (And.intro q3 (And.intro k0 (And.intro k1 dd)))))
  clear q0 q1 q2 q3 k0 k1 dd Q hm1 hl1 ht1 HG HGT hm hl ht hE zk
  generalize hkb : w.heap.size + 1 = kb at *
  generalize hab : w.heap.size = ab at *
  have HAB := Lib.hid hab
  clear hab hkb
  have hSd :  w2.drew.cell? ⟨ab, 0, none⟩ = some (.int .i64 q.1) ∧ w2.drew.cell? ⟨ab, 1, none⟩ = some (.string q.2.1) ∧ w2.drew.cell? ⟨ab, 2, none⟩ = some (.slice a q.2.2.1.length c) ∧ w2.drew.cell? ⟨ab, 3, none⟩ = some (.slice b q.2.2.2.length d) ∧ w2.drew.cell? ⟨kb, 0, none⟩ = some (.string k.1) ∧ w2.drew.cell? ⟨kb, 1, none⟩ = some (.slice a0 k.2.length c0) ∧ Below ab w w2.drew := ⟨hS.1, hS.2.1, hS.2.2.1, hS.2.2.2.1, hS.2.2.2.2.1, hS.2.2.2.2.2.1, hS.2.2.2.2.2.2.drew⟩
  clear hS
  go_region_held3 (fun w' => w'.cell? ⟨ab, 0, none⟩ = some (.int .i64 q.1) ∧ w'.cell? ⟨ab, 1, none⟩ = some (.string q.2.1) ∧ w'.cell? ⟨ab, 2, none⟩ = some (.slice a q.2.2.1.length c) ∧ w'.cell? ⟨ab, 3, none⟩ = some (.slice b q.2.2.2.length d) ∧ w'.cell? ⟨kb, 0, none⟩ = some (.string k.1) ∧ w'.cell? ⟨kb, 1, none⟩ = some (.slice a0 k.2.length c0) ∧ Below ab w w') (first | exact hSd | exact hS3 | exact hS4 | exact hS5 | exact hS6)
    (first
      | (go_at_call 18; refine (HF1.out _ (box6_b hSd)).mono ?_; rintro e w3 ⟨rfl, n3⟩; have hS3 := box6_on hSd n3; clear n3)
      | (go_at_call 19; refine (HF2.out _ (box6_b hS3)).mono ?_; rintro e w4 ⟨rfl, n4⟩; have hS4 := box6_on hS3 n4; clear n4)
      | (go_at_call 20; refine (HR1.out _ (box6_b hS4)).mono ?_; rintro e w5 ⟨rfl, n5⟩; have hS5 := box6_on hS4 n5; clear n5)
      | (go_at_call 21; refine (HR2.out _ (box6_b hS5)).mono ?_; rintro e w6 ⟨rfl, n6⟩; have hS6 := box6_on hS5 n6; clear n6)
      | fail)
  have d6 := box6_b hS6
  rw [← HAB.out] at d6
  clear hS6 hS5 hS4 hS3 hSd
  go_wp2_with fail
  go_ret
  exact ⟨rfl, d6⟩

theorem fits_walk (a b a0 : Option Addr) (c d c0 : Nat) (q : Query) (k : Key) (w : World) (hE : Env w) (hm : MRow w (.slice a q.2.2.1.length c) q.2.2.1) (hl : Row w (.slice b q.2.2.2.length d) q.2.2.2) (ht : TRow w (.slice a0 k.2.length c0) k.2) (hz : q.2.1.size ≤ 281474976710656) (hzm : ∀ x ∈ q.2.2.1, x.2.1.size ≤ 281474976710656 ∧ x.2.2.size ≤ 281474976710656) (hzb : ∀ x ∈ q.2.2.2, x.size ≤ 281474976710656) (hzt : ∀ x ∈ k.2, x.1.size ≤ 281474976710656 ∧ x.2.size ≤ 281474976710656) (hzk : k.1.size ≤ 281474976710656) :
    Calls Tryz.prog 5 #[.agg #[.int .i64 q.1, .string q.2.1, .slice a q.2.2.1.length c, .slice b q.2.2.2.length d], .agg #[.string k.1, .slice a0 k.2.length c0]] w fun e w' => e = .returned (.bool true) ∧ Below w.heap.size w w' := by
  cases hg : greatQ q
  · cases hgt : greatT k.2
    · by_cases h3 : 200 < k.1.size
      · exact fits_skip a b a0 c d c0 q k w hE hm hl ht hz hzm hzb hzt hzk (Or.inr (Or.inr ⟨hg, hgt, h3⟩))
      · exact fits_main a b a0 c d c0 q k w hE hm hl ht hg hgt h3
    · exact fits_skip a b a0 c d c0 q k w hE hm hl ht hz hzm hzb hzt hzk (Or.inr (Or.inl ⟨hg, hgt⟩))
  · exact fits_skip a b a0 c d c0 q k w hE hm hl ht hz hzm hzb hzt hzk (Or.inl hg)
end Go.Proofs.YtfohknpjlkjbbaaGreatDoor
