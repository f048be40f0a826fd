/- Walks: the law QueryTells. -/
import Derived.Test.YtfohknpjlkjbbaaGreatDoorL2
import Derived.Test.YtfohknpjlkjbbaaGreatDoorQ8
namespace Go.Proofs.YtfohknpjlkjbbaaGreatDoor
open Go Go.RowKit Tg Pk Ky Qy

set_option maxHeartbeats 1000000 in
theorem tells_skip (a b a0 b0 : Option Addr) (c d c0 d0 : Nat) (p q : Query) (w : World) (hE : Env w) (hm : MRow w (.slice a p.2.2.1.length c) p.2.2.1) (hl : Row w (.slice b p.2.2.2.length d) p.2.2.2) (hm' : MRow w (.slice a0 q.2.2.1.length c0) q.2.2.1) (hl' : Row w (.slice b0 q.2.2.2.length d0) q.2.2.2) (hz : p.2.1.size ≤ 281474976710656) (hzm : ∀ x ∈ p.2.2.1, x.2.1.size ≤ 281474976710656 ∧ x.2.2.size ≤ 281474976710656) (hzb : ∀ x ∈ p.2.2.2, x.size ≤ 281474976710656) (hz' : q.2.1.size ≤ 281474976710656) (hzm' : ∀ x ∈ q.2.2.1, x.2.1.size ≤ 281474976710656 ∧ x.2.2.size ≤ 281474976710656) (hzb' : ∀ x ∈ q.2.2.2, x.size ≤ 281474976710656)
    (hg : greatQ p = true ∨ (greatQ p = false ∧ greatQ q = true)) :
    Calls Tryz.prog 3 #[.agg #[.int .i64 p.1, .string p.2.1, .slice a p.2.2.1.length c, .slice b p.2.2.2.length d], .agg #[.int .i64 q.1, .string q.2.1, .slice a0 q.2.2.1.length c0, .slice b0 q.2.2.2.length d0]] w fun e w' => e = .returned (.bool true) ∧ Below w.heap.size w w' := by
  have HG := Lib.hid (fun v W (h : QRow W v p) => qgreat_any v p W h hz hzm hzb)
  have HG2 := Lib.hid (fun v W (h : QRow W v q) => qgreat_any v q W h hz' hzm' hzb')
  rcases hg with hg | ⟨hg, h2⟩
  · rw [hg] at HG
    go_enter Tryz.func3, Tryz.ntmps3
    go_wp2_with fail
    refine (alive_any _ ((hE.alloc _).alloc _)).mono ?_
    rintro e w1 ⟨rfl, n1⟩
    have Q := (QB.new w w.heap.size rfl p.1 p.2.1 (.slice a p.2.2.1.length c) (.slice b p.2.2.2.length d)).on (belowA n1)
    have R := (QB.new (w.alloc (.cells #[.int .i64 p.1, .string p.2.1, .slice a p.2.2.1.length c, .slice b p.2.2.2.length d] 25)) (w.heap.size + 1) (by simp) q.1 q.2.1 (.slice a0 q.2.2.1.length c0) (.slice b0 q.2.2.2.length d0)).on n1
    have dd := belowA2 n1
    have hm1 := hm.on dd
    have hl1 := hl.on dd
    have hm2 := hm'.on dd
    have hl2 := hl'.on dd
    clear n1
    obtain ⟨⟨q0, q1, q2, q3⟩, _, _⟩ := id Q
    obtain ⟨⟨r0, r1, r2, r3⟩, _, _⟩ := id R
    go_wp2_with fail
    refine (HG.out _ _ (QRow.shut hm1 hl1)).mono ?_
    rintro e w2 ⟨rfl, n2⟩
    clear q0 q1 q2 q3 r0 r1 r2 r3
    have Q := Q.on n2
    have R := R.on n2
    have hm1 := hm1.on n2
    have hl1 := hl1.on n2
    have hm2 := hm2.on n2
    have hl2 := hl2.on n2
    have dd := dd.trans (n2.mono dd.size)
    clear n2
    obtain ⟨⟨q0, q1, q2, q3⟩, _, _⟩ := id Q
    obtain ⟨⟨r0, r1, r2, r3⟩, _, _⟩ := id R
    go_wp2_with fail
    go_ret
    exact ⟨rfl, dd⟩
  · rw [hg] at HG
    rw [h2] at HG2
    go_enter Tryz.func3, Tryz.ntmps3
    go_wp2_with fail
    refine (alive_any _ ((hE.alloc _).alloc _)).mono ?_
    rintro e w1 ⟨rfl, n1⟩
    have Q := (QB.new w w.heap.size rfl p.1 p.2.1 (.slice a p.2.2.1.length c) (.slice b p.2.2.2.length d)).on (belowA n1)
    have R := (QB.new (w.alloc (.cells #[.int .i64 p.1, .string p.2.1, .slice a p.2.2.1.length c, .slice b p.2.2.2.length d] 25)) (w.heap.size + 1) (by simp) q.1 q.2.1 (.slice a0 q.2.2.1.length c0) (.slice b0 q.2.2.2.length d0)).on n1
    have dd := belowA2 n1
    have hm1 := hm.on dd
    have hl1 := hl.on dd
    have hm2 := hm'.on dd
    have hl2 := hl'.on dd
    clear n1
    obtain ⟨⟨q0, q1, q2, q3⟩, _, _⟩ := id Q
    obtain ⟨⟨r0, r1, r2, r3⟩, _, _⟩ := id R
    go_wp2_with fail
    refine (HG.out _ _ (QRow.shut hm1 hl1)).mono ?_
    rintro e w2 ⟨rfl, n2⟩
    clear q0 q1 q2 q3 r0 r1 r2 r3
    have Q := Q.on n2
    have R := R.on n2
    have hm1 := hm1.on n2
    have hl1 := hl1.on n2
    have hm2 := hm2.on n2
    have hl2 := hl2.on n2
    have dd := dd.trans (n2.mono dd.size)
    clear n2
    obtain ⟨⟨q0, q1, q2, q3⟩, _, _⟩ := id Q
    obtain ⟨⟨r0, r1, r2, r3⟩, _, _⟩ := id R
    go_wp2_with fail
    refine (HG2.out _ _ (QRow.shut hm2 hl2)).mono ?_
    rintro e w3 ⟨rfl, n3⟩
    clear q0 q1 q2 q3 r0 r1 r2 r3
    have Q := Q.on n3
    have R := R.on n3
    have hm1 := hm1.on n3
    have hl1 := hl1.on n3
    have hm2 := hm2.on n3
    have hl2 := hl2.on n3
    have dd := dd.trans (n3.mono dd.size)
    clear n3
    obtain ⟨⟨q0, q1, q2, q3⟩, _, _⟩ := id Q
    obtain ⟨⟨r0, r1, r2, r3⟩, _, _⟩ := id R
    go_wp2_with fail
    go_ret
    exact ⟨rfl, dd⟩
theorem box8_on {ab kb : Nat} {x0 x1 x2 x3 y0 y1 y2 y3 : Value} {w W w3 : World}
    (h : W.cell? ⟨ab, 0, none⟩ = some x0 ∧ W.cell? ⟨ab, 1, none⟩ = some x1 ∧ W.cell? ⟨ab, 2, none⟩ = some x2 ∧ W.cell? ⟨ab, 3, none⟩ = some x3 ∧ W.cell? ⟨kb, 0, none⟩ = some y0 ∧ W.cell? ⟨kb, 1, none⟩ = some y1 ∧ W.cell? ⟨kb, 2, none⟩ = some y2 ∧ W.cell? ⟨kb, 3, none⟩ = some y3 ∧ Below ab w W) (n : Below W.heap.size W w3) :
    w3.cell? ⟨ab, 0, none⟩ = some x0 ∧ w3.cell? ⟨ab, 1, none⟩ = some x1 ∧ w3.cell? ⟨ab, 2, none⟩ = some x2 ∧ w3.cell? ⟨ab, 3, none⟩ = some x3 ∧ w3.cell? ⟨kb, 0, none⟩ = some y0 ∧ w3.cell? ⟨kb, 1, none⟩ = some y1 ∧ w3.cell? ⟨kb, 2, none⟩ = some y2 ∧ w3.cell? ⟨kb, 3, none⟩ = some y3 ∧ Below ab w w3 := by
  obtain ⟨h0, h1, h2, h3, g0, g1, g2, g3, h6⟩ := h
  have z0 := World.block_lt_of_cell? _ _ h0
  have z1 := World.block_lt_of_cell? _ _ g0
  exact ⟨keepC n h0 z0, keepC n h1 z0, keepC n h2 z0, keepC n h3 z0, keepC n g0 z1, keepC n g1 z1, keepC n g2 z1, keepC n g3 z1, h6.trans (n.mono (Nat.le_of_lt z0))⟩
theorem box8_b {ab kb : Nat} {x0 x1 x2 x3 y0 y1 y2 y3 : Value} {w W : World}
    (h : W.cell? ⟨ab, 0, none⟩ = some x0 ∧ W.cell? ⟨ab, 1, none⟩ = some x1 ∧ W.cell? ⟨ab, 2, none⟩ = some x2 ∧ W.cell? ⟨ab, 3, none⟩ = some x3 ∧ W.cell? ⟨kb, 0, none⟩ = some y0 ∧ W.cell? ⟨kb, 1, none⟩ = some y1 ∧ W.cell? ⟨kb, 2, none⟩ = some y2 ∧ W.cell? ⟨kb, 3, none⟩ = some y3 ∧ Below ab w W) : Below ab w W := h.2.2.2.2.2.2.2.2

set_option maxRecDepth 100000 in
set_option maxHeartbeats 2000000 in
theorem tells_main (a b a0 b0 : Option Addr) (c d c0 d0 : Nat) (p q : Query) (w : World) (hE : Env w) (hm : MRow w (.slice a p.2.2.1.length c) p.2.2.1) (hl : Row w (.slice b p.2.2.2.length d) p.2.2.2) (hm' : MRow w (.slice a0 q.2.2.1.length c0) q.2.2.1) (hl' : Row w (.slice b0 q.2.2.2.length d0) q.2.2.2) (hg : greatQ p = false) (hg' : greatQ q = false) :
    Calls Tryz.prog 3 #[.agg #[.int .i64 p.1, .string p.2.1, .slice a p.2.2.1.length c, .slice b p.2.2.2.length d], .agg #[.int .i64 q.1, .string q.2.1, .slice a0 q.2.2.1.length c0, .slice b0 q.2.2.2.length d0]] w fun e w' => e = .returned (.bool true) ∧ Below w.heap.size w w' := by
  obtain ⟨g1, g2, g3, g4, g5⟩ := greatQ_not hg
  obtain ⟨g6, g7⟩ := bigs g3 g5 (by omega)
  obtain ⟨j1, j2, j3, j4, j5⟩ := greatQ_not hg'
  obtain ⟨j6, j7⟩ := bigs j3 j5 (by omega)
  have HG := Lib.hid (fun v W (h : QRow W v p) => qgreat_any v p W h (by omega) g6 g7)
  have HG2 := Lib.hid (fun v W (h : QRow W v q) => qgreat_any v q W h (by omega) j6 j7)
  rw [hg] at HG
  rw [hg'] at HG2
  have H1 := Lib.hid (fun W (n : Below w.heap.size w W) => qright_any _ p W (QRow.shut (hm.on n) (hl.on n)) (by omega) (by omega) g6 (by omega) g7)
  have H2 := Lib.hid (fun W (n : Below w.heap.size w W) => refQright_any _ p W (QRow.shut (hm.on n) (hl.on n)) (by omega) (by omega) g6 (by omega) g7)
  have H3 := Lib.hid (fun W (n : Below w.heap.size w W) => qtext_any _ p W (QRow.shut (hm.on n) (hl.on n)) (by omega) (by omega) g6 (by omega) g7)
  have H4 := Lib.hid (fun W (n : Below w.heap.size w W) => refQtext_any _ p W (QRow.shut (hm.on n) (hl.on n)) (by omega) (by omega) g6 (by omega) g7)
  have H5 := Lib.hid (fun W (n : Below w.heap.size w W) => qsame_any _ _ p q W (QRow.shut (hm.on n) (hl.on n)) (QRow.shut (hm'.on n) (hl'.on n)) (by omega) (by omega))
  have H6 := Lib.hid (fun W (n : Below w.heap.size w W) => refQsame_any _ _ p q W (QRow.shut (hm.on n) (hl.on n)) (QRow.shut (hm'.on n) (hl'.on n)) (by omega) (by omega))
  have H7 := Lib.hid (fun W (n : Below w.heap.size w W) => qsame_any _ _ p p W (QRow.shut (hm.on n) (hl.on n)) (QRow.shut (hm.on n) (hl.on n)) (by omega) (by omega))
  rw [eqQ_self] at H7
  generalize qright p = fb at *
  generalize qtextB p = tx at *
  generalize eqQ p q = fs at *
  have e1 : (fb == fb) = true := by simp
  have e2 := beq_self_ba tx
  have e3 : (fs == fs) = true := by simp
  clear g3 g5 g6 g7 hg j3 j5 j6 j7 hg'
  go_enter Tryz.func3, Tryz.ntmps3
  go_wp2_with fail
  refine (alive_any _ ((hE.alloc _).alloc _)).mono ?_
  rintro e w1 ⟨rfl, n1⟩
  have Q := (QB.new w w.heap.size rfl p.1 p.2.1 (.slice a p.2.2.1.length c) (.slice b p.2.2.2.length d)).on (belowA n1)
  have R := (QB.new (w.alloc (.cells #[.int .i64 p.1, .string p.2.1, .slice a p.2.2.1.length c, .slice b p.2.2.2.length d] 25)) (w.heap.size + 1) (by simp) q.1 q.2.1 (.slice a0 q.2.2.1.length c0) (.slice b0 q.2.2.2.length d0)).on n1
  have dd := belowA2 n1
  have hm1 := hm.on dd
  have hl1 := hl.on dd
  have hm2 := hm'.on dd
  have hl2 := hl'.on dd
  clear n1
  obtain ⟨⟨q0, q1, q2, q3⟩, _, _⟩ := id Q
  obtain ⟨⟨r0, r1, r2, r3⟩, _, _⟩ := id R
  go_wp2_with fail
  refine (HG.out _ _ (QRow.shut hm1 hl1)).mono ?_
  rintro e w2 ⟨rfl, n2⟩
  clear q0 q1 q2 q3 r0 r1 r2 r3
  have Q := Q.on n2
  have R := R.on n2
  have hm1 := hm1.on n2
  have hl1 := hl1.on n2
  have hm2 := hm2.on n2
  have hl2 := hl2.on n2
  have dd := dd.trans (n2.mono dd.size)
  clear n2
  obtain ⟨⟨q0, q1, q2, q3⟩, _, _⟩ := id Q
  obtain ⟨⟨r0, r1, r2, r3⟩, _, _⟩ := id R
  go_wp2_with fail
  refine (HG2.out _ _ (QRow.shut hm2 hl2)).mono ?_
  rintro e w3 ⟨rfl, n3⟩
  clear q0 q1 q2 q3 r0 r1 r2 r3
  have Q := Q.on n3
  have R := R.on n3
  have hm1 := hm1.on n3
  have hl1 := hl1.on n3
  have hm2 := hm2.on n3
  have hl2 := hl2.on n3
  have dd := dd.trans (n3.mono dd.size)
  clear n3
  obtain ⟨⟨q0, q1, q2, q3⟩, _, _⟩ := id Q
  obtain ⟨⟨r0, r1, r2, r3⟩, _, _⟩ := id R
  go_wp2_with fail
  have hS := And.intro q0 (And.intro q1 (And.intro q2 (And.intro q3 (And.intro r0 (And.intro r1 (And.intro r2 (And.intro r3 dd)))))))
  clear q0 q1 q2 q3 r0 r1 r2 r3 dd Q R hm1 hl1 hm2 hl2 HG HG2 hm hl hm' hl' hE
  generalize hkb : w.heap.size + 1 = kb at *
  generalize hab : w.heap.size = ab at *
  have HAB := Lib.hid hab
  clear hab hkb
  have hSd :  w3.drew.cell? ⟨ab, 0, none⟩ = some (.int .i64 p.1) ∧ w3.drew.cell? ⟨ab, 1, none⟩ = some (.string p.2.1) ∧ w3.drew.cell? ⟨ab, 2, none⟩ = some (.slice a p.2.2.1.length c) ∧ w3.drew.cell? ⟨ab, 3, none⟩ = some (.slice b p.2.2.2.length d) ∧ w3.drew.cell? ⟨kb, 0, none⟩ = some (.int .i64 q.1) ∧ w3.drew.cell? ⟨kb, 1, none⟩ = some (.string q.2.1) ∧ w3.drew.cell? ⟨kb, 2, none⟩ = some (.slice a0 q.2.2.1.length c0) ∧ w3.drew.cell? ⟨kb, 3, none⟩ = some (.slice b0 q.2.2.2.length d0) ∧ Below ab w w3.drew := ⟨hS.1, hS.2.1, hS.2.2.1, hS.2.2.2.1, hS.2.2.2.2.1, hS.2.2.2.2.2.1, hS.2.2.2.2.2.2.1, hS.2.2.2.2.2.2.2.1, hS.2.2.2.2.2.2.2.2.drew⟩
  clear hS
  go_region_held3 (fun w' => w'.cell? ⟨ab, 0, none⟩ = some (.int .i64 p.1) ∧ w'.cell? ⟨ab, 1, none⟩ = some (.string p.2.1) ∧ w'.cell? ⟨ab, 2, none⟩ = some (.slice a p.2.2.1.length c) ∧ w'.cell? ⟨ab, 3, none⟩ = some (.slice b p.2.2.2.length d) ∧ w'.cell? ⟨kb, 0, none⟩ = some (.int .i64 q.1) ∧ w'.cell? ⟨kb, 1, none⟩ = some (.string q.2.1) ∧ w'.cell? ⟨kb, 2, none⟩ = some (.slice a0 q.2.2.1.length c0) ∧ w'.cell? ⟨kb, 3, none⟩ = some (.slice b0 q.2.2.2.length d0) ∧ Below ab w w') (first | exact hSd | exact hA1 | exact hA2 | exact hA3 | exact hA4 | exact hA5 | exact hA6 | exact hA7)
    (first
      | (go_at_call 9; refine (H1.out _ (box8_b hSd)).mono ?_; rintro e vhA1 ⟨rfl, nhA1⟩; have hA1 := box8_on hSd nhA1; clear nhA1)
      | (go_at_call 10; refine (H2.out _ (box8_b hA1)).mono ?_; rintro e vhA2 ⟨rfl, nhA2⟩; have hA2 := box8_on hA1 nhA2; clear nhA2)
      | (go_at_call 11; refine (H3.out _ (box8_b hA2)).mono ?_; rintro e vhA3 ⟨rfl, nhA3⟩; have hA3 := box8_on hA2 nhA3; clear nhA3)
      | (go_at_call 12; refine (H4.out _ (box8_b hA3)).mono ?_; rintro e vhA4 ⟨rfl, nhA4⟩; have hA4 := box8_on hA3 nhA4; clear nhA4)
      | (go_at_call 14; refine (H6.out _ (box8_b hA5)).mono ?_; rintro e vhA6 ⟨rfl, nhA6⟩; have hA6 := box8_on hA5 nhA6; clear nhA6)
      | (go_at_call 13; refine (H7.out _ (box8_b hA6)).mono ?_; rintro e vhA7 ⟨rfl, nhA7⟩; have hA7 := box8_on hA6 nhA7; clear nhA7)
      | (go_at_call 13; refine (H5.out _ (box8_b hA4)).mono ?_; rintro e vhA5 ⟨rfl, nhA5⟩; have hA5 := box8_on hA4 nhA5; clear nhA5)
      | fail)
  have d6 := box8_b hA7
  rw [← HAB.out] at d6
  clear hA1 hA2 hA3 hA4 hA5 hA6 hA7 hSd
  go_wp2_with fail
  go_ret
  exact ⟨rfl, d6⟩

theorem tells_walk (a b a0 b0 : Option Addr) (c d c0 d0 : Nat) (p q : Query) (w : World) (hE : Env w) (hm : MRow w (.slice a p.2.2.1.length c) p.2.2.1) (hl : Row w (.slice b p.2.2.2.length d) p.2.2.2) (hm' : MRow w (.slice a0 q.2.2.1.length c0) q.2.2.1) (hl' : Row w (.slice b0 q.2.2.2.length d0) q.2.2.2) (hz : p.2.1.size ≤ 281474976710656) (hzm : ∀ x ∈ p.2.2.1, x.2.1.size ≤ 281474976710656 ∧ x.2.2.size ≤ 281474976710656) (hzb : ∀ x ∈ p.2.2.2, x.size ≤ 281474976710656) (hz' : q.2.1.size ≤ 281474976710656) (hzm' : ∀ x ∈ q.2.2.1, x.2.1.size ≤ 281474976710656 ∧ x.2.2.size ≤ 281474976710656) (hzb' : ∀ x ∈ q.2.2.2, x.size ≤ 281474976710656) :
    Calls Tryz.prog 3 #[.agg #[.int .i64 p.1, .string p.2.1, .slice a p.2.2.1.length c, .slice b p.2.2.2.length d], .agg #[.int .i64 q.1, .string q.2.1, .slice a0 q.2.2.1.length c0, .slice b0 q.2.2.2.length d0]] w fun e w' => e = .returned (.bool true) ∧ Below w.heap.size w w' := by
  cases hg : greatQ p
  · cases hg' : greatQ q
    · exact tells_main a b a0 b0 c d c0 d0 p q w hE hm hl hm' hl' hg hg'
    · exact tells_skip a b a0 b0 c d c0 d0 p q w hE hm hl hm' hl' hz hzm hzb hz' hzm' hzb' (Or.inr ⟨hg, hg'⟩)
  · exact tells_skip a b a0 b0 c d c0 d0 p q w hE hm hl hm' hl' hz hzm hzb hz' hzm' hzb' (Or.inl hg)
end Go.Proofs.YtfohknpjlkjbbaaGreatDoor
