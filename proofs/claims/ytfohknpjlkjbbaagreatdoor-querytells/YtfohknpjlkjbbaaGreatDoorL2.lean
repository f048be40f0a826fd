/- Walks: the law QueryBack. -/
import Derived.Test.YtfohknpjlkjbbaaGreatDoorL1
namespace Go.Proofs.YtfohknpjlkjbbaaGreatDoor
open Go Go.RowKit Tg Pk Ky Qy

theorem greatQ_not {q : Query} (h : greatQ q = false) : q.2.1.size ≤ 200 ∧ q.2.2.1.length ≤ 20 ∧ (∀ x ∈ q.2.2.1, x.2.1.size ≤ 100 ∧ x.2.2.size ≤ 100) ∧ q.2.2.2.length ≤ 20 ∧ (∀ x ∈ q.2.2.2, x.size ≤ 100) := by
  simp only [greatQ, greatBy, Bool.or_eq_false_iff, decide_eq_false_iff_not] at h
  obtain ⟨h1, h2, h3, h4⟩ := h
  obtain ⟨g1, g2⟩ := greatM_not h2
  refine ⟨by omega, g1, g2, by omega, fun x hx => ?_⟩
  rw [List.any_eq_false] at h4
  have := h4 x hx
  simp at this
  omega
theorem qright_text {q : Query} (h : qright q = true) : (qtextB q).size ≤ 900 := by
  obtain ⟨h1, h2, h3, _, h5, h6, h7⟩ := qright_small h
  have h4 := ptext_size q.2.2.1 26 (fun t ht => by have := h3 t ht; omega)
  have h8 := aggB_size q.1
  have e1 : (⟨#[32]⟩ : ByteArray).size = 1 := rfl
  have e2 : (⟨#[123]⟩ : ByteArray).size = 1 := rfl
  have e3 : (⟨#[125]⟩ : ByteArray).size = 1 := rfl
  have e4 : (⟨#[32, 98, 121, 32]⟩ : ByteArray).size = 4 := rfl
  have t1 : (qt1 q.1 q.2.1).size ≤ 18 := by unfold qt1; rw [ba_size, ba_size]; omega
  have t2 : (qt2 (qt1 q.1 q.2.1) q.2.2.1).size ≤ 200 := by
    unfold qt2
    split
    · omega
    · rw [ba_size, ba_size, ba_size]; omega
  unfold qtextB
  rw [if_pos h]
  unfold qt3
  split
  · omega
  · rw [ba_size, ba_size]; omega
theorem qparse_textB {q : Query} (h : qright q = true) : qparse (qtextB q).data.toList = (q, 0) := by rw [qtextB_list, qtext_right h]; exact qparse_text h
theorem bigs {l : List Match} {b : List ByteArray} {B : Nat} (h : ∀ x ∈ l, x.2.1.size ≤ B ∧ x.2.2.size ≤ B) (h2 : ∀ x ∈ b, x.size ≤ B) (hB : B ≤ 100000) : (∀ x ∈ l, x.2.1.size ≤ 281474976710656 ∧ x.2.2.size ≤ 281474976710656) ∧ ∀ x ∈ b, x.size ≤ 281474976710656 :=
  ⟨fun x hx => by have := h x hx; omega, fun x hx => by have := h2 x hx; omega⟩

set_option maxHeartbeats 1000000 in
theorem back_skip (a b : Option Addr) (c d : Nat) (q : Query) (s : ByteArray) (w : World) (hE : Env w) (hm : MRow w (.slice a q.2.2.1.length c) q.2.2.1) (hl : Row w (.slice b q.2.2.2.length d) q.2.2.2) (hz : q.2.1.size ≤ 281474976710656) (hzm : ∀ x ∈ q.2.2.1, x.2.1.size ≤ 281474976710656 ∧ x.2.2.size ≤ 281474976710656) (hzb : ∀ x ∈ q.2.2.2, x.size ≤ 281474976710656)
    (hg : greatQ q = true ∨ (greatQ q = false ∧ 500 < s.size)) :
    Calls Tryz.prog 6 #[.agg #[.int .i64 q.1, .string q.2.1, .slice a q.2.2.1.length c, .slice b q.2.2.2.length d], .string s] w fun e w' => e = .returned (.bool true) ∧ Below w.heap.size w w' := by
  have HG := Lib.hid (fun v W (h : QRow W v q) => qgreat_any v q W h hz hzm hzb)
  rcases hg with hg | ⟨hg, h2⟩
  all_goals
    rw [hg] at HG
    go_enter Tryz.func6, Tryz.ntmps6
    go_wp2_with fail
    refine (alive_any _ (hE.alloc _)).mono ?_
    rintro e w1 ⟨rfl, n1⟩
    have Q := (QB.new w w.heap.size rfl q.1 q.2.1 (.slice a q.2.2.1.length c) (.slice b q.2.2.2.length d)).on n1
    have dd := belowA n1
    have hm1 := hm.on dd
    have hl1 := hl.on dd
    have hE1 := hE.go dd
    clear n1
    obtain ⟨⟨q0, q1, q2, q3⟩, _, _⟩ := id Q
    go_wp2_with fail
    refine (HG.out _ _ (QRow.shut hm1 hl1)).mono ?_
    rintro e w2 ⟨rfl, n2⟩
    clear q0 q1 q2 q3
    have Q := Q.on n2
    have hm1 := hm1.on n2
    have hl1 := hl1.on n2
    have hE1 := hE1.go n2
    have dd := dd.trans (n2.mono dd.size)
    clear n2
    obtain ⟨⟨q0, q1, q2, q3⟩, _, _⟩ := id Q
    go_wp2_with fail
    go_ret
    exact ⟨rfl, dd⟩

set_option maxRecDepth 100000 in
set_option maxHeartbeats 2000000 in
theorem back_main (a b : Option Addr) (c d : Nat) (q : Query) (s : ByteArray) (w : World) (hE : Env w) (hm : MRow w (.slice a q.2.2.1.length c) q.2.2.1) (hl : Row w (.slice b q.2.2.2.length d) q.2.2.2) (hg : greatQ q = false) (hs : ¬ 500 < s.size) :
    Calls Tryz.prog 6 #[.agg #[.int .i64 q.1, .string q.2.1, .slice a q.2.2.1.length c, .slice b q.2.2.2.length d], .string s] w fun e w' => e = .returned (.bool true) ∧ Below w.heap.size w w' := by
  obtain ⟨g1, g2, g3, g4, g5⟩ := greatQ_not hg
  obtain ⟨g6, g7⟩ := bigs g3 g5 (by omega)
  have HG := Lib.hid (fun v W (h : QRow W v q) => qgreat_any v q W h (by omega) g6 g7)
  rw [hg] at HG
  have HRt := Lib.hid (fun v W (h : QRow W v q) => refQright_any v q W h (by omega) (by omega) g6 (by omega) g7)
  have HTx := Lib.hid (fun v W (h : QRow W v q) => qtext_any v q W h (by omega) (by omega) g6 (by omega) g7)
  have HP1 : Hid (qright q = true → qparse (qtextB q).data.toList = (q, 0) ∧ (qtextB q).size ≤ 900) := fun h => ⟨qparse_textB h, qright_text h⟩
  have hsl : s.size ≤ 900 := by omega
  have H1 := Lib.hid (fun W (h : Env W) => qparse_any s W h hsl)
  have HOk := Lib.hid (qparse_ok (s := s.data.toList))
  have HEr := Lib.hid (qparse_err (s := s.data.toList))
  generalize qparse s.data.toList = C at *
  obtain ⟨p, er⟩ := C
  dsimp only at H1 HOk HEr
  clear g3 g5 g6 g7 hg
  go_enter Tryz.func6, Tryz.ntmps6
  go_wp2_with fail
  refine (alive_any _ (hE.alloc _)).mono ?_
  rintro e w1 ⟨rfl, n1⟩
  have Q := (QB.new w w.heap.size rfl q.1 q.2.1 (.slice a q.2.2.1.length c) (.slice b q.2.2.2.length d)).on n1
  have dd := belowA n1
  have hm1 := hm.on dd
  have hl1 := hl.on dd
  have hE1 := hE.go dd
  clear n1
  obtain ⟨⟨q0, q1, q2, q3⟩, _, _⟩ := id Q
  go_wp2_with fail
  refine (HG.out _ _ (QRow.shut hm1 hl1)).mono ?_
  rintro e w2 ⟨rfl, n2⟩
  clear q0 q1 q2 q3
  have Q := Q.on n2
  have hm1 := hm1.on n2
  have hl1 := hl1.on n2
  have hE1 := hE1.go n2
  have dd := dd.trans (n2.mono dd.size)
  clear n2
  obtain ⟨⟨q0, q1, q2, q3⟩, _, _⟩ := id Q
  go_wp2_with fail
  clear q0 q1 q2 q3
  refine (HRt.out _ _ (QRow.shut hm1 hl1)).mono ?_
  rintro e w3 ⟨rfl, n3⟩
  have Q := Q.on n3
  have hm1 := hm1.on n3
  have hl1 := hl1.on n3
  have hE1 := hE1.go n3
  have dd := dd.trans (n3.mono dd.size)
  clear n3 HRt HG hm hl hE
  cases hR : qright q
  · as_aux_lemma =>
      clear HP1 HTx Q hm1 hl1
      go_wp2_with fail
      refine (H1.out _ hE1).mono ?_
      rintro e wa ⟨⟨_, rfl, ra⟩, na⟩
      have Ea := hE1.go na
      have da := dd.trans (na.mono dd.size)
      clear na dd
      obtain ⟨a1, c1, b1, e1, rfl, m1, l1⟩ := ra.open
      clear ra
      by_cases hC : er = 0
      · subst hC
        have hRp := HOk.out rfl
        obtain ⟨z1, z2, z3, z4, z5, z6, z7⟩ := qright_small hRp
        obtain ⟨y1, y2⟩ := bigs z3 z6 (by omega)
        have HPt := Lib.hid (qparse_textB hRp)
        have hzt := qright_text hRp
        clear HOk HEr z3 z6 z4 z7
        have P := QB.new wa wa.heap.size rfl p.1 p.2.1 (.slice a1 p.2.2.1.length c1) (.slice b1 p.2.2.2.length e1)
        have nb := aBelow wa (.cells #[.int .i64 p.1, .string p.2.1, .slice a1 p.2.2.1.length c1, .slice b1 p.2.2.2.length e1] 25)
        have m1 := m1.on nb
        have l1 := l1.on nb
        have Ea := Ea.go nb
        have da := da.trans (nb.mono da.size)
        clear nb
        go_wp2_with fail
        generalize wa.alloc (.cells #[.int .i64 p.1, .string p.2.1, .slice a1 p.2.2.1.length c1, .slice b1 p.2.2.2.length e1] 25) = wb at *
        refine (qtext_any _ p _ (QRow.shut m1 l1) (by omega) (by omega) y1 (by omega) y2).mono ?_
        rintro e wc ⟨rfl, nc⟩
        have P := P.on nc
        have m1 := m1.on nc
        have l1 := l1.on nc
        have Ea := Ea.go nc
        have da := da.trans (nc.mono da.size)
        clear nc
        go_wp2_with fail
        refine (qparse_any _ _ Ea hzt).mono ?_
        rw [HPt.out]
        rintro e wd ⟨⟨_, rfl, rd⟩, nd⟩
        obtain ⟨a2, c2, b2, e2, rfl, m2, l2⟩ := rd.open
        clear rd
        have P := P.on nd
        have m1 := m1.on nd
        have l1 := l1.on nd
        have da := da.trans (nd.mono da.size)
        clear nd
        have R := QB.new wd wd.heap.size rfl p.1 p.2.1 (.slice a2 p.2.2.1.length c2) (.slice b2 p.2.2.2.length e2)
        have nb := aBelow wd (.cells #[.int .i64 p.1, .string p.2.1, .slice a2 p.2.2.1.length c2, .slice b2 p.2.2.2.length e2] 25)
        have P := P.on nb
        have m1 := m1.on nb
        have l1 := l1.on nb
        have m2 := m2.on nb
        have l2 := l2.on nb
        have da := da.trans (nb.mono da.size)
        clear nb
        obtain ⟨⟨p0, p1, p2, p3⟩, _, _⟩ := id P
        go_wp2_with fail
        clear p0 p1 p2 p3
        generalize wd.alloc (.cells #[.int .i64 p.1, .string p.2.1, .slice a2 p.2.2.1.length c2, .slice b2 p.2.2.2.length e2] 25) = we at *
        refine (refQright_any _ p _ (QRow.shut m1 l1) (by omega) (by omega) y1 (by omega) y2).mono ?_
        rw [hRp]
        rintro e wf ⟨rfl, nf⟩
        have P := P.on nf
        have R := R.on nf
        have m1 := m1.on nf
        have l1 := l1.on nf
        have m2 := m2.on nf
        have l2 := l2.on nf
        have da := da.trans (nf.mono da.size)
        clear nf
        obtain ⟨⟨p0, p1, p2, p3⟩, _, _⟩ := id P
        obtain ⟨⟨r0, r1, r2, r3⟩, _, _⟩ := id R
        go_wp2_with fail
        clear p0 p1 p2 p3 r0 r1 r2 r3
        refine (refQsame_any _ _ p p _ (QRow.shut m2 l2) (QRow.shut m1 l1) (by omega) (by omega)).mono ?_
        rw [eqQ_self]
        rintro e wg ⟨rfl, ng⟩
        have da := da.trans (ng.mono da.size)
        go_wp2_with fail
        go_ret
        exact ⟨rfl, da⟩
      · have hp := HEr.out hC
        subst hp
        have he2 : (er == 0) = false := by simp [hC]
        have hHe := Lib.hid hC
        clear HOk HEr hC
        have nb := aBelow wa (.cells #[.int .i64 qnone.1, .string qnone.2.1, .slice a1 qnone.2.2.1.length c1, .slice b1 qnone.2.2.2.length e1] 25)
        have m1 := m1.on nb
        have l1 := l1.on nb
        have da := da.trans (nb.mono da.size)
        clear nb
        go_wp2_with fail
        refine (refQsame_any _ _ qnone qnone _ (QRow.shut m1 l1) (qnone_row _) (by decide) (by decide)).mono ?_
        rw [eqQ_self]
        rintro e wg ⟨rfl, ng⟩
        have da := da.trans (ng.mono da.size)
        go_wp2_with fail
        go_ret
        exact ⟨rfl, da⟩
  · as_aux_lemma =>
      obtain ⟨HP4, HP5⟩ := HP1.out hR
      have HP4 := Lib.hid HP4
      clear HP1
      obtain ⟨⟨q0, q1, q2, q3⟩, _, _⟩ := id Q
      go_wp2_with fail
      clear q0 q1 q2 q3
      refine (HTx.out _ _ (QRow.shut hm1 hl1)).mono ?_
      rintro e w4 ⟨rfl, n4⟩
      have Q := Q.on n4
      have hm1 := hm1.on n4
      have hl1 := hl1.on n4
      have hE1 := hE1.go n4
      have dd := dd.trans (n4.mono dd.size)
      clear n4 HTx
      go_wp2_with fail
      refine (qparse_any _ w4 hE1 HP5).mono ?_
      rw [HP4.out]
      rintro e w5 ⟨⟨_, rfl, r5⟩, n5⟩
      obtain ⟨a2, c2, b2, e2, rfl, m2, l2⟩ := r5.open
      have Q := Q.on n5
      have hm1 := hm1.on n5
      have hl1 := hl1.on n5
      have hE1 := hE1.go n5
      have dd := dd.trans (n5.mono dd.size)
      clear n5 HP4 HP5 r5
      have nb := aBelow w5 (.cells #[.int .i64 q.1, .string q.2.1, .slice a2 q.2.2.1.length c2, .slice b2 q.2.2.2.length e2] 25)
      have Q := Q.on nb
      have hm1 := hm1.on nb
      have hl1 := hl1.on nb
      have m2 := m2.on nb
      have l2 := l2.on nb
      have hE1 := hE1.go nb
      have dd := dd.trans (nb.mono dd.size)
      clear nb
      obtain ⟨⟨q0, q1, q2, q3⟩, _, _⟩ := id Q
      go_wp2_with fail
      clear q0 q1 q2 q3 Q
      generalize w5.alloc (.cells #[.int .i64 q.1, .string q.2.1, .slice a2 q.2.2.1.length c2, .slice b2 q.2.2.2.length e2] 25) = w6 at *
      refine (refQsame_any _ _ q q _ (QRow.shut m2 l2) (QRow.shut hm1 hl1) (by omega) (by omega)).mono ?_
      rw [eqQ_self]
      rintro e w7 ⟨rfl, n7⟩
      have hE1 := hE1.go n7
      have dd := dd.trans (n7.mono dd.size)
      clear n7 m2 l2 hm1 hl1
      go_wp2_with fail
      refine (H1.out _ hE1).mono ?_
      rintro e wa ⟨⟨_, rfl, ra⟩, na⟩
      have Ea := hE1.go na
      have da := dd.trans (na.mono dd.size)
      clear na dd
      obtain ⟨a1, c1, b1, e1, rfl, m1, l1⟩ := ra.open
      clear ra
      by_cases hC : er = 0
      · subst hC
        have hRp := HOk.out rfl
        obtain ⟨z1, z2, z3, z4, z5, z6, z7⟩ := qright_small hRp
        obtain ⟨y1, y2⟩ := bigs z3 z6 (by omega)
        have HPt := Lib.hid (qparse_textB hRp)
        have hzt := qright_text hRp
        clear HOk HEr z3 z6 z4 z7
        have P := QB.new wa wa.heap.size rfl p.1 p.2.1 (.slice a1 p.2.2.1.length c1) (.slice b1 p.2.2.2.length e1)
        have nb := aBelow wa (.cells #[.int .i64 p.1, .string p.2.1, .slice a1 p.2.2.1.length c1, .slice b1 p.2.2.2.length e1] 25)
        have m1 := m1.on nb
        have l1 := l1.on nb
        have Ea := Ea.go nb
        have da := da.trans (nb.mono da.size)
        clear nb
        go_wp2_with fail
        generalize wa.alloc (.cells #[.int .i64 p.1, .string p.2.1, .slice a1 p.2.2.1.length c1, .slice b1 p.2.2.2.length e1] 25) = wb at *
        refine (qtext_any _ p _ (QRow.shut m1 l1) (by omega) (by omega) y1 (by omega) y2).mono ?_
        rintro e wc ⟨rfl, nc⟩
        have P := P.on nc
        have m1 := m1.on nc
        have l1 := l1.on nc
        have Ea := Ea.go nc
        have da := da.trans (nc.mono da.size)
        clear nc
        go_wp2_with fail
        refine (qparse_any _ _ Ea hzt).mono ?_
        rw [HPt.out]
        rintro e wd ⟨⟨_, rfl, rd⟩, nd⟩
        obtain ⟨a2, c2, b2, e2, rfl, m2, l2⟩ := rd.open
        clear rd
        have P := P.on nd
        have m1 := m1.on nd
        have l1 := l1.on nd
        have da := da.trans (nd.mono da.size)
        clear nd
        have R := QB.new wd wd.heap.size rfl p.1 p.2.1 (.slice a2 p.2.2.1.length c2) (.slice b2 p.2.2.2.length e2)
        have nb := aBelow wd (.cells #[.int .i64 p.1, .string p.2.1, .slice a2 p.2.2.1.length c2, .slice b2 p.2.2.2.length e2] 25)
        have P := P.on nb
        have m1 := m1.on nb
        have l1 := l1.on nb
        have m2 := m2.on nb
        have l2 := l2.on nb
        have da := da.trans (nb.mono da.size)
        clear nb
        obtain ⟨⟨p0, p1, p2, p3⟩, _, _⟩ := id P
        go_wp2_with fail
        clear p0 p1 p2 p3
        generalize wd.alloc (.cells #[.int .i64 p.1, .string p.2.1, .slice a2 p.2.2.1.length c2, .slice b2 p.2.2.2.length e2] 25) = we at *
        refine (refQright_any _ p _ (QRow.shut m1 l1) (by omega) (by omega) y1 (by omega) y2).mono ?_
        rw [hRp]
        rintro e wf ⟨rfl, nf⟩
        have P := P.on nf
        have R := R.on nf
        have m1 := m1.on nf
        have l1 := l1.on nf
        have m2 := m2.on nf
        have l2 := l2.on nf
        have da := da.trans (nf.mono da.size)
        clear nf
        obtain ⟨⟨p0, p1, p2, p3⟩, _, _⟩ := id P
        obtain ⟨⟨r0, r1, r2, r3⟩, _, _⟩ := id R
        go_wp2_with fail
        clear p0 p1 p2 p3 r0 r1 r2 r3
        refine (refQsame_any _ _ p p _ (QRow.shut m2 l2) (QRow.shut m1 l1) (by omega) (by omega)).mono ?_
        rw [eqQ_self]
        rintro e wg ⟨rfl, ng⟩
        have da := da.trans (ng.mono da.size)
        go_wp2_with fail
        go_ret
        exact ⟨rfl, da⟩
      · have hp := HEr.out hC
        subst hp
        have he2 : (er == 0) = false := by simp [hC]
        have hHe := Lib.hid hC
        clear HOk HEr hC
        have nb := aBelow wa (.cells #[.int .i64 qnone.1, .string qnone.2.1, .slice a1 qnone.2.2.1.length c1, .slice b1 qnone.2.2.2.length e1] 25)
        have m1 := m1.on nb
        have l1 := l1.on nb
        have da := da.trans (nb.mono da.size)
        clear nb
        go_wp2_with fail
        refine (refQsame_any _ _ qnone qnone _ (QRow.shut m1 l1) (qnone_row _) (by decide) (by decide)).mono ?_
        rw [eqQ_self]
        rintro e wg ⟨rfl, ng⟩
        have da := da.trans (ng.mono da.size)
        go_wp2_with fail
        go_ret
        exact ⟨rfl, da⟩

theorem back_walk (a b : Option Addr) (c d : Nat) (q : Query) (s : ByteArray) (w : World) (hE : Env w) (hm : MRow w (.slice a q.2.2.1.length c) q.2.2.1) (hl : Row w (.slice b q.2.2.2.length d) q.2.2.2) (hz : q.2.1.size ≤ 281474976710656) (hzm : ∀ x ∈ q.2.2.1, x.2.1.size ≤ 281474976710656 ∧ x.2.2.size ≤ 281474976710656) (hzb : ∀ x ∈ q.2.2.2, x.size ≤ 281474976710656) :
    Calls Tryz.prog 6 #[.agg #[.int .i64 q.1, .string q.2.1, .slice a q.2.2.1.length c, .slice b q.2.2.2.length d], .string s] w fun e w' => e = .returned (.bool true) ∧ Below w.heap.size w w' := by
  cases hg : greatQ q
  · by_cases h2 : 500 < s.size
    · exact back_skip a b c d q s w hE hm hl hz hzm hzb (Or.inr ⟨hg, h2⟩)
    · exact back_main a b c d q s w hE hm hl hg h2
  · exact back_skip a b c d q s w hE hm hl hz hzm hzb (Or.inl hg)
end Go.Proofs.YtfohknpjlkjbbaaGreatDoor
