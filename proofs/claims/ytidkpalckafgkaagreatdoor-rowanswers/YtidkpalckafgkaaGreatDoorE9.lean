/- The answer over items: a walk. -/
import Derived.Test.YtidkpalckafgkaaGreatDoorE8B
import Derived.Test.YtidkpalckafgkaaGreatDoorD8
namespace Go.Proofs.YtidkpalckafgkaaGreatDoor.Rw
open Go Go.RowKit Go.Sort Go.Lib Tg Pk Ky Qy

theorem part_ok (q : Query) (l : List Item) (h : ∀ i ∈ l, okI i) : ∀ p ∈ mergeP q l, okP p.win p.key := by
  intro p hp
  have h1 := (mergeP_ok q l h p hp).1.1
  have h2 : p.key.size ≤ 140737488355328 := by
    have := fold_from (P := fun p : Item => p.key.size ≤ 140737488355328) (fun y x hy _ _ _ => hy) (partsOf q l) [] (fun p hp => by simp at hp) (fun x hx => ?_) p hp
    · exact this
    · unfold partsOf at hx
      obtain ⟨i, hi, rfl⟩ := List.mem_map.1 hx
      have ha := (List.mem_filter.1 hi).2
      have hk := key_small (asked_err0 ha).1
      unfold partOf
      rw [← textB_group]
      exact (only_small (ns := q.2.2.2) hk.2.1 hk.1).2.2
  exact place_ok h1 h2

theorem own_grown {w w1 : World} {base : Nat} {e : TypeId} {size : Nat} {v : Value} {n r : Nat} {xs : List Value} (h : w.ownsRow base e size v n xs) (d : w.grownBy w1 (some r)) (hr : r < base) : w1.ownsRow base e size v n xs := by
  refine ⟨h.1, ?_⟩
  rcases h.2 with h0 | ⟨g, cap, cur, hv, hb, hg, hc, hm, hs, ht⟩
  · exact .inl h0
  · refine .inr ⟨g, cap, cur, hv, hb, ?_, hc, hm, hs, ht⟩
    rw [d.block g (Array.getElem?_eq_some_iff.1 hg).1 (fun e => by cases e; omega)]
    exact hg
theorem ranges_on {w w1 : World} {b r n : Nat} {D : DataW Unit} {left : Lit → Bool} {cnt : Nat} (h : w.ranges Tryz.prog 71 cR b r n D left cnt) (d : Below w.heap.size w w1) : w1.ranges Tryz.prog 71 cR b r n D left cnt :=
  h.kept (row := none) ⟨d.os, d.tape, d.output, d.size, fun i hi _ => d.block i hi⟩ (by simp) (by simp)
theorem QX.far {b r : Nat} {g : Int} {n : ByteArray} {m l : Value} {w w1 : World} (h : QX b g n m l w) (d : w.grownBy w1 (some r)) (hr : b ≠ r) : QX b g n m l w1 := by
  have hz := World.block_lt_of_cell? _ _ h.1
  have hb := d.block b hz (by simpa using hr)
  have hc : ∀ o, w1.cell? ⟨b, o, none⟩ = w.cell? ⟨b, o, none⟩ := fun o => by unfold World.cell?; simp only; rw [hb]
  exact ⟨(hc 0).trans h.1, (hc 1).trans h.2.1, (hc 2).trans h.2.2.1, (hc 3).trans h.2.2.2⟩
def plV (p : Int × ByteArray) : Value := .agg #[.int .i64 p.1, .string p.2]

theorem grown_cell {w w1 : World} {p : Addr} (d : w.grownBy w1 none) (h : p.block < w.heap.size) : w1.cell? p = w.cell? p := by
  have := d.block p.block h (by simp)
  unfold World.cell?
  rw [this]

theorem rs_on {q0 p0 p1 : Nat} {g x : Int} {gb : ByteArray} {c1 c2 : Int} {c3 : Bool} {c4 c5 : Int} {w w1 : World} (h : w.cell? ⟨p0, 0, none⟩ = some (.int .i64 x) ∧ w.cell? ⟨p0, 1, none⟩ = some (.string gb) ∧ w.cell? ⟨p1, 0, none⟩ = some (.int .i64 c1) ∧ w.cell? ⟨p1, 1, none⟩ = some (.int .i64 c2) ∧ w.cell? ⟨p1, 2, none⟩ = some (.bool c3) ∧ w.cell? ⟨p1, 3, none⟩ = some (.int .i64 c4) ∧ w.cell? ⟨p1, 4, none⟩ = some (.int .i64 c5) ∧ w.cell? ⟨q0, 0, none⟩ = some (.int .i64 g)) (d : Below w.heap.size w w1) :
    w1.cell? ⟨p0, 0, none⟩ = some (.int .i64 x) ∧ w1.cell? ⟨p0, 1, none⟩ = some (.string gb) ∧ w1.cell? ⟨p1, 0, none⟩ = some (.int .i64 c1) ∧ w1.cell? ⟨p1, 1, none⟩ = some (.int .i64 c2) ∧ w1.cell? ⟨p1, 2, none⟩ = some (.bool c3) ∧ w1.cell? ⟨p1, 3, none⟩ = some (.int .i64 c4) ∧ w1.cell? ⟨p1, 4, none⟩ = some (.int .i64 c5) ∧ w1.cell? ⟨q0, 0, none⟩ = some (.int .i64 g) := by
  have k := (Keeps.refl w).on d
  exact ⟨k.2 _ _ h.1, k.2 _ _ h.2.1, k.2 _ _ h.2.2.1, k.2 _ _ h.2.2.2.1, k.2 _ _ h.2.2.2.2.1, k.2 _ _ h.2.2.2.2.2.1, k.2 _ _ h.2.2.2.2.2.2.1, k.2 _ _ h.2.2.2.2.2.2.2⟩
theorem rs_far {q0 p0 p1 : Nat} {g x : Int} {gb : ByteArray} {c1 c2 : Int} {c3 : Bool} {c4 c5 : Int} {w w1 : World} {row : Option Nat} (h : w.cell? ⟨p0, 0, none⟩ = some (.int .i64 x) ∧ w.cell? ⟨p0, 1, none⟩ = some (.string gb) ∧ w.cell? ⟨p1, 0, none⟩ = some (.int .i64 c1) ∧ w.cell? ⟨p1, 1, none⟩ = some (.int .i64 c2) ∧ w.cell? ⟨p1, 2, none⟩ = some (.bool c3) ∧ w.cell? ⟨p1, 3, none⟩ = some (.int .i64 c4) ∧ w.cell? ⟨p1, 4, none⟩ = some (.int .i64 c5) ∧ w.cell? ⟨q0, 0, none⟩ = some (.int .i64 g)) (d : w.grownBy w1 row) (hp0 : some p0 ≠ row) (hp1 : some p1 ≠ row) (hq0 : some q0 ≠ row) :
    w1.cell? ⟨p0, 0, none⟩ = some (.int .i64 x) ∧ w1.cell? ⟨p0, 1, none⟩ = some (.string gb) ∧ w1.cell? ⟨p1, 0, none⟩ = some (.int .i64 c1) ∧ w1.cell? ⟨p1, 1, none⟩ = some (.int .i64 c2) ∧ w1.cell? ⟨p1, 2, none⟩ = some (.bool c3) ∧ w1.cell? ⟨p1, 3, none⟩ = some (.int .i64 c4) ∧ w1.cell? ⟨p1, 4, none⟩ = some (.int .i64 c5) ∧ w1.cell? ⟨q0, 0, none⟩ = some (.int .i64 g) := by
  have hc : ∀ b o v, some b ≠ row → w.cell? ⟨b, o, none⟩ = some v → w1.cell? ⟨b, o, none⟩ = some v := by
    intro b o v hb e
    have := d.block b (World.block_lt_of_cell? _ _ e) hb
    unfold World.cell? at e ⊢
    simp only at e ⊢
    rw [this]
    exact e
  exact ⟨hc _ _ _ hp0 h.1, hc _ _ _ hp0 h.2.1, hc _ _ _ hp1 h.2.2.1, hc _ _ _ hp1 h.2.2.2.1, hc _ _ _ hp1 h.2.2.2.2.1, hc _ _ _ hp1 h.2.2.2.2.2.1, hc _ _ _ hp1 h.2.2.2.2.2.2.1, hc _ _ _ hq0 h.2.2.2.2.2.2.2⟩

theorem QX.farO {b : Nat} {row : Option Nat} {g : Int} {n : ByteArray} {m l : Value} {w w1 : World} (h : QX b g n m l w) (d : w.grownBy w1 row) (hr : some b ≠ row) : QX b g n m l w1 := by
  have hz := World.block_lt_of_cell? _ _ h.1
  have hb := d.block b hz hr
  have hc : ∀ o, w1.cell? ⟨b, o, none⟩ = w.cell? ⟨b, o, none⟩ := fun o => by unfold World.cell?; simp only; rw [hb]
  exact ⟨(hc 0).trans h.1, (hc 1).trans h.2.1, (hc 2).trans h.2.2.1, (hc 3).trans h.2.2.2⟩

set_option maxRecDepth 100000 in
set_option maxHeartbeats 4000000 in
theorem answer_t (v1 v2 : Value) (q : Query) (l : List Item) (w : World) (hE : Env w) (h1 : QRow w v1 q) (h2 : IRow w v2 l) (hr : qright q = true)
    (HR0 : ∀ W, Below w.heap.size w W → Calls Tryz.prog 45 #[v1] W fun e w' => e = .returned (.bool true) ∧ Below W.heap.size W w')
    (hm : q.2.2.1.length ≤ 1000000) (hb : q.2.2.2.length ≤ 1000000) (hn : l.length ≤ 1000) (hs : ∀ i ∈ l, i.key.size ≤ 900) (ho : ∀ i ∈ l, okI i) :
    Calls Tryz.prog 23 #[v1, v2] w fun e w' => (∃ v', e = .returned v' ∧ RRow w' v' ((mergeP q (sortK l)).map (rowOf q.1))) ∧ Below w.heap.size w w' := by
  obtain ⟨qa, qc, qb, qd, rfl, -, -⟩ := h1.open
  have HGA := Lib.hid (fun W (d : Below w.heap.size w W) => gather_any _ v2 q l W (hE.go d) (h1.on d) (h2.on d) hm hb hn hs ho)
  have HST := Lib.hid (mergeP_strict q (sortK l))
  have HPO := Lib.hid (part_ok q (sortK l) (fun i hi => ho i ((sortK_perm l).mem_iff.1 hi)))
  have hll : (mergeP q (sortK l)).length ≤ 1000 := Nat.le_trans (mergeP_len q (sortK l)) (by rw [(sortK_perm l).length_eq]; exact hn)
  have HR1 := Lib.hid HR0
  clear HR0 hE h1 hs ho
  generalize mergeP q (sortK l) = L at *
  obtain ⟨ia, ic, rfl, _, _⟩ := h2
  obtain ⟨g, n, m, by'⟩ := q
  simp only at *
  go_enter Tryz.func23, Tryz.ntmps23
  go_wp2_with fail
  have n0 := aBelow w (.cells #[.int .i64 g, .string n, .slice qa m.length qc, .slice qb by'.length qd] 39)
  have X0 : QX w.heap.size g n (.slice qa m.length qc) (.slice qb by'.length qd) (w.alloc (.cells #[.int .i64 g, .string n, .slice qa m.length qc, .slice qb by'.length qd] 39)) := by
    refine ⟨?_, ?_, ?_, ?_⟩ <;> simp
  generalize (w.alloc (.cells #[.int .i64 g, .string n, .slice qa m.length qc, .slice qb by'.length qd] 39)) = w0 at *
  refine (HR1.out w0 n0).mono ?_
  rintro e w1 ⟨rfl, n1⟩
  have d1 := n0.trans (n1.mono n0.size)
  have X1 := X0.keep ((Keeps.refl w0).on n1)
  have XX := Lib.hid X1
  obtain ⟨z0, z1, z2, z3⟩ := X1
  clear n0 n1 X0 HR1
  go_wp2_with fail
  refine (HGA.out w1 d1).mono ?_
  rintro e w2 ⟨⟨mb, rfl, hmb, D, hown, hsay⟩, n2⟩
  have d2 := Lib.hid (d1.trans (n2.mono d1.size))
  have X2 := Lib.hid (XX.out.keep ((Keeps.refl w1).on n2))
  have HSY := Lib.hid hsay
  clear z0 z1 z2 z3 XX n2 HGA d1 hsay
  go_wp2_with (first | (at_range; refine wpList_range_own _ rfl _ 68 rfl 71 48 klaw Tryz.underlying68 _ mb l.length D rfl hown ?_; intro w3 hrg0 hg0 hs0) | go_in)
  go_frame
  have hr0 : w2.heap.size < w3.heap.size := by omega
  have hq2 : w.heap.size < w2.heap.size := World.block_lt_of_cell? _ _ X2.out.1
  have hmb2 := hown.lt
  have X3 := Lib.hid (X2.out.keep (show Keeps w2 w3 from ⟨by omega, fun p v e => by rw [grown_cell hg0 (World.block_lt_of_cell? _ _ e)]; exact e⟩))
  have d3 := Lib.hid (d2.out.grown hg0 d2.out.size (fun k e => by cases e))
  go_loopw [5] (fun lv wr => ∃ left cnt A, Hid (wr.ranges Tryz.prog 71 cR mb w2.heap.size l.length D left cnt) ∧ Hid (Ranged L A left) ∧ Hid (wr.ownsRow (w2.heap.size + 1) 29 4 lv A.length (flatG rowC (A.map (rowOf g)))) ∧ Hid (QX w.heap.size g n (.slice qa m.length qc) (.slice qb by'.length qd) wr) ∧ Hid (Below w.heap.size w wr)) (fun _ wr => wr.rangeLeft mb w2.heap.size)
  case atStart => exact ⟨_, _, [], hrg0, ranged_start HSY.out HST.out HPO.out, World.ownsRow_nil _ _ _ _, X3.out, d3.out⟩
  case round =>
    obtain ⟨left, cnt, A, HRG, HRD, HO, HX, HD⟩ := hrel
    go_wp2_with (first | (at_next; refine wpList_next_ranges _ rfl _ rfl 71 klaw cR plV cV (fun key kl hk => by obtain ⟨x, g', rfl, -, -⟩ := keyOf_place_inv hk; exact ⟨(x, g'), rfl⟩) (fun v y hv => by obtain ⟨c, rfl, -⟩ := cR_inv hv; exact ⟨c, rfl⟩) mb w2.heap.size l.length D left cnt rfl HRG.out ?_ ?_) | go_in)
    · intro hc0 hl0
      have hp := Lib.hid (ranged_end HST.out HRD.out hl0)
      have HRL := HRG.out.lt
      clear hc0 HRG HRD
      have hzz := HD.out.size
      rcases HO.out.2 with ⟨h0, h1⟩ | ⟨gg, cap, cur, hv, _, _, hcap, _, _, _⟩
      · subst h0
        have hA0 : A = [] := List.length_eq_zero_iff.1 h1
        subst hA0
        have hL0 : L = [] := List.nil_perm.1 hp.out
        subst hL0
        have HS0 := Lib.hid (fun fv => sortR0 none 0 fv wr)
        clear HO HX
        go_wp2_with (first | (go_at_call 48; refine (HS0.out _).mono ?_; rintro e w5 ⟨rfl, rfl⟩))
        go_ret
        exact ⟨⟨_, rfl, GRow.nil _⟩, HD.out⟩
      · subst hv
        have HAL := Lib.hid hp.out.length_eq
        have HC := Lib.hid hcap
        have hcap' := hcap
        have HST2 := Lib.hid HST.out
        have hzB : w.heap.size ≤ w2.heap.size + 1 := by omega
        have HO2 : wr.ownsRow (w2.heap.size + 1) 29 4 (.slice (some ⟨gg, 0, none⟩) (A.map (rowOf g)).length cap) (A.map (rowOf g)).length (flatG rowC (A.map (rowOf g))) := by
          rw [List.length_map]; exact HO.out
        have HSS := sortR_any gg cap (A.map (rowOf g)) (w2.heap.size + 1) wr wr (Below.refl _ _) HO2 (by have := HRL; omega) (by rw [List.length_map, HAL.out]; omega)
        rw [List.length_map] at HSS
        have HSR := Lib.hid HSS
        clear HO HX HO2 HSS
        clear HST HSY HPO X2 X3 d2 d3 hown hrg0 hg0 hs0 hr hmb hmb2 hq2 hr0 hm hb hn hl0 HRL hzz hcap'
        go_wp2_with fail
        refine (HSR.out).mono ?_
        rintro e w5 ⟨rfl, hq⟩
        have HQ := Lib.hid hq
        clear hq HSR
        go_wp2_with fail
        go_ret
        obtain ⟨R, q1, q2, q3, q4, q5⟩ := HQ.out
        have hRe := rows_eq HST2.out (q1.trans (hp.out.map (rowOf g))) q2
        subst hRe
        refine ⟨⟨_, rfl, ?_⟩, HD.out.trans (q5.mono hzB)⟩
        refine ⟨some ⟨gg, 0, none⟩, cap, by rw [List.length_map, HAL.out]; rfl, by rw [List.length_map, ← HAL.out]; exact HC.out, fun _ => ⟨gg, 0, rfl, q4, q3⟩⟩
    · intro x gb c kl y1 y2 wn cnt1 hkx hlx hcy hat hrg1 hlt hgn hsn hen
      obtain ⟨x', g', he, hpx, rfl⟩ := keyOf_place_inv hkx
      simp only [plV, Value.agg.injEq, Array.mk.injEq, List.cons.injEq, Value.int.injEq, Value.string.injEq, true_and, and_true] at he
      obtain ⟨rfl, rfl⟩ := he
      obtain ⟨c', hc', hy⟩ := cR_inv hcy
      simp only [Prod.mk.injEq] at hy
      obtain ⟨rfl, rfl⟩ := hy
      have := cV_inj hc'
      subst this
      have HRD1 := Lib.hid (ranged_step HSY.out HST.out HPO.out HRD.out hpx hlx hat)
      have HRG1 := Lib.hid hrg1
      have HO1 := Lib.hid (own_grown HO.out hgn (by omega))
      have HX1 := Lib.hid (HX.out.far hgn (by omega))
      have HD1 := Lib.hid (HD.out.grown hgn HD.out.size (fun k e => by cases e; omega))
      have hlen := ranged_len HST.out HRD1.out
      have hrl := HRG.out.lt
      have HLT : Hid (cnt1 < wr.rangeLeft mb w2.heap.size) := by rw [HRG.out.left_eq]; exact hlt
      obtain ⟨c1, c2, c3, c4, c5⟩ := c
      unfold plV cV at hen
      simp only at hen
      clear HRG HRD HO HX HD hkx hcy hat hc' hrg1 hlt hgn
      unfold plV cV
      go_wp2_with fail
      have nB := belowA2' wn (.cells #[.int .i64 x, .string gb] 71) (.cells #[.int .i64 c1, .int .i64 c2, .bool c3, .int .i64 c4, .int .i64 c5] 48)
      have p00 : ((wn.alloc (.cells #[.int .i64 x, .string gb] 71)).alloc (.cells #[.int .i64 c1, .int .i64 c2, .bool c3, .int .i64 c4, .int .i64 c5] 48)).cell? ⟨wn.heap.size, 0, none⟩ = some (.int .i64 x) := by simp
      have p01 : ((wn.alloc (.cells #[.int .i64 x, .string gb] 71)).alloc (.cells #[.int .i64 c1, .int .i64 c2, .bool c3, .int .i64 c4, .int .i64 c5] 48)).cell? ⟨wn.heap.size, 1, none⟩ = some (.string gb) := by simp
      have p10 : ((wn.alloc (.cells #[.int .i64 x, .string gb] 71)).alloc (.cells #[.int .i64 c1, .int .i64 c2, .bool c3, .int .i64 c4, .int .i64 c5] 48)).cell? ⟨wn.heap.size + 1, 0, none⟩ = some (.int .i64 c1) := by simp
      have p11 : ((wn.alloc (.cells #[.int .i64 x, .string gb] 71)).alloc (.cells #[.int .i64 c1, .int .i64 c2, .bool c3, .int .i64 c4, .int .i64 c5] 48)).cell? ⟨wn.heap.size + 1, 1, none⟩ = some (.int .i64 c2) := by simp
      have p12 : ((wn.alloc (.cells #[.int .i64 x, .string gb] 71)).alloc (.cells #[.int .i64 c1, .int .i64 c2, .bool c3, .int .i64 c4, .int .i64 c5] 48)).cell? ⟨wn.heap.size + 1, 2, none⟩ = some (.bool c3) := by simp
      have p13 : ((wn.alloc (.cells #[.int .i64 x, .string gb] 71)).alloc (.cells #[.int .i64 c1, .int .i64 c2, .bool c3, .int .i64 c4, .int .i64 c5] 48)).cell? ⟨wn.heap.size + 1, 3, none⟩ = some (.int .i64 c4) := by simp
      have p14 : ((wn.alloc (.cells #[.int .i64 x, .string gb] 71)).alloc (.cells #[.int .i64 c1, .int .i64 c2, .bool c3, .int .i64 c4, .int .i64 c5] 48)).cell? ⟨wn.heap.size + 1, 4, none⟩ = some (.int .i64 c5) := by simp
      have RG4 := Lib.hid (ranges_on HRG1.out nB)
      have O4 := Lib.hid (own_on HO1.out nB)
      have X4 := Lib.hid (HX1.out.keep ((Keeps.refl wn).on nB))
      have D4 := Lib.hid (HD1.out.trans (nB.mono HD1.out.size))
      have hown1 := Lib.hid (fun k (hk : u5.ownBlock = some k) => HO1.out.lt k hk)
      have hz4 : w2.heap.size + 1 ≤ ((wn.alloc (.cells #[.int .i64 x, .string gb] 71)).alloc (.cells #[.int .i64 c1, .int .i64 c2, .bool c3, .int .i64 c4, .int .i64 c5] 48)).heap.size := by simp; omega
      clear HRG1 HO1 HX1 HD1 hen nB
      generalize ((wn.alloc (.cells #[.int .i64 x, .string gb] 71)).alloc (.cells #[.int .i64 c1, .int .i64 c2, .bool c3, .int .i64 c4, .int .i64 c5] 48)) = w4 at *
      have HV := Lib.hid (fun W => Ce.value_any ⟨c1, c2, c3, c4, c5⟩ g W)
      have hS0 := And.intro p00 (And.intro p01 (And.intro p10 (And.intro p11 (And.intro p12 (And.intro p13 (And.intro p14 X4.out.1))))))
      rw [hsn] at hS0
      clear p00 p01 p10 p11 p12 p13 p14
      obtain ⟨i0, hi, hz0, hz1, hz2⟩ := info29
      have HI := Lib.hid (And.intro hi (And.intro hz0 (And.intro hz1 hz2)))
      clear hi hz0 hz1 hz2
      obtain ⟨r1, r2, hrv⟩ : ∃ r1 r2, Cl.val ⟨c1, c2, c3, c4, c5⟩ g = (r1, r2) := ⟨_, _, rfl⟩
      rw [hrv] at HV
      have hAl : A.length + 1 ≤ 1000 := by have := hlen; rw [List.length_append] at this; simp at this; omega
      have hwz : w2.heap.size + 1 ≤ w4.heap.size := by omega
      have hne0 : some wr.heap.size ≠ u5.ownBlock := fun e => by have := (hown1.out _ e.symm).2; omega
      have hne1 : some (wr.heap.size + 1) ≠ u5.ownBlock := fun e => by have := (hown1.out _ e.symm).2; omega
      have hneq : some w.heap.size ≠ u5.ownBlock := fun e => by have := (hown1.out _ e.symm).1; omega
      have HS0 := Lib.hid (rs_on hS0 (Below.refl _ _).drew)
      have hS1 := HS0.out
      clear hS0
      go_region_held3 (fun w' => w'.cell? ⟨wr.heap.size, 0, none⟩ = some (.int .i64 x) ∧ w'.cell? ⟨wr.heap.size, 1, none⟩ = some (.string gb) ∧ w'.cell? ⟨wr.heap.size + 1, 0, none⟩ = some (.int .i64 c1) ∧ w'.cell? ⟨wr.heap.size + 1, 1, none⟩ = some (.int .i64 c2) ∧ w'.cell? ⟨wr.heap.size + 1, 2, none⟩ = some (.bool c3) ∧ w'.cell? ⟨wr.heap.size + 1, 3, none⟩ = some (.int .i64 c4) ∧ w'.cell? ⟨wr.heap.size + 1, 4, none⟩ = some (.int .i64 c5) ∧ w'.cell? ⟨w.heap.size, 0, none⟩ = some (.int .i64 g)) (first | assumption | exact rs_on (by assumption) (aBelow _ _) | exact rs_far (rs_on (by assumption) (aBelow _ _)) hgrow6 hne0 hne1 hneq | exact rs_far (by assumption) hgrow6 hne0 hne1 hneq) (first
        | (go_at_call 47; refine (HV.out _).mono ?_; rintro e w5 ⟨rfl, n5⟩; have hS5 := rs_on hS1 n5; have O5 := own_on O4.out.drew n5; have hz5 : w4.heap.size ≤ w5.heap.size := n5.size)
        | (refine step_append_own _ (by rfl) _ _ _ (by rfl) (w2.heap.size + 1) 29 i0 _ 4 40 Tryz.underlying22 HI.out.1 HI.out.2.1 HI.out.2.2.1 HI.out.2.2.2 rfl (by decide) u5 A.length (flatG rowC (A.map (rowOf g))) (by rfl) (O5.alloc _) ⟨w5.heap.size, 0, none⟩ 1 1 (rowC ⟨x, gb, r1, r2⟩) (by rfl) (by rfl) (new1R w5 ⟨x, gb, r1, r2⟩) (rowC_one _) (by unfold maxLen; omega) (by omega) (by simp; omega) ?_; intro v6 w6 hown6 hgrow6 hnil6)
        | fail)
      have HO6 := Lib.hid (ownG_next (enc := rowC) (l := A.map (rowOf g)) (x := ⟨x, gb, r1, r2⟩) (by rw [List.length_map]; exact hown6))
      have hro : rowOf g ⟨x, gb, c1, c2, c3, c4, c5⟩ = ⟨x, gb, r1, r2⟩ := by unfold rowOf; simp only; rw [hrv]
      have HO7 : Hid (w6.ownsRow (w2.heap.size + 1) 29 4 v6 (A ++ [(⟨x, gb, c1, c2, c3, c4, c5⟩ : Item)]).length (flatG rowC ((A ++ [(⟨x, gb, c1, c2, c3, c4, c5⟩ : Item)]).map (rowOf g)))) := by
        have := HO6.out
        rw [List.map_append, List.map_singleton, hro]
        rw [List.length_append, List.length_map] at this
        rw [List.length_append]
        exact this
      have hm2 : some mb ≠ u5.ownBlock := fun e => by have := (hown1.out _ e.symm).1; omega
      have hr2 : some w2.heap.size ≠ u5.ownBlock := fun e => by have := (hown1.out _ e.symm).1; omega
      have RG6 := Lib.hid ((ranges_on (ranges_on (ranges_on RG4.out (Below.refl _ _).drew) n5) (aBelow _ _)).kept hgrow6 hm2 hr2)
      have X6 := Lib.hid ((X4.out.keep ((((Keeps.refl w4).on (Below.refl _ _).drew).on n5).on (aBelow _ _))).farO hgrow6 hneq)
      have D5 := (D4.out.drew).trans (n5.mono D4.out.size)
      have D6 := Lib.hid ((D5.alloc D5.size _).grown hgrow6 (by have := D5.size; simp; omega) (fun k e => by have := (hown1.out _ e).1; omega))
      have HLT2 := Lib.hid (RG6.out.left_eq)
      clear hown6 hgrow6 hnil6 HO6 O5 n5 D5 hS1 HS0 hS5
      go_wp2_with fail
      exact ⟨⟨_, cnt1, _, RG6, HRD1, HO7, X6, D6⟩, by rw [HLT2.out]; exact HLT.out⟩

set_option maxRecDepth 100000 in
set_option maxHeartbeats 1000000 in
theorem answer_any (v1 v2 : Value) (q : Query) (l : List Item) (w : World) (hE : Env w) (h1 : QRow w v1 q) (h2 : IRow w v2 l)
    (hz : q.2.1.size ≤ 281474976710656) (hm : q.2.2.1.length ≤ 1000000) (hzm : ∀ x ∈ q.2.2.1, x.2.1.size ≤ 281474976710656 ∧ x.2.2.size ≤ 281474976710656) (hb : q.2.2.2.length ≤ 1000000) (hzb : ∀ x ∈ q.2.2.2, x.size ≤ 281474976710656)
    (hn : l.length ≤ 1000) (hs : ∀ i ∈ l, i.key.size ≤ 900) (ho : ∀ i ∈ l, okI i) :
    Calls Tryz.prog 23 #[v1, v2] w fun e w' => (∃ v', e = .returned v' ∧ RRow w' v' (answer q l)) ∧ Below w.heap.size w w' := by
  have HR0 : ∀ W, Below w.heap.size w W → Calls Tryz.prog 45 #[v1] W fun e w' => e = .returned (.bool (qright q)) ∧ Below W.heap.size W w' := fun W d => qright_any v1 q W (h1.on d) hz hm hzm hb hzb
  unfold answer
  cases hr : qright q
  · rw [hr] at HR0
    have HR1 := Lib.hid HR0
    obtain ⟨qa, qc, qb, qd, rfl, -, -⟩ := h1.open
    clear HR0 hr hs ho h1 hzm hzb
    obtain ⟨ia, ic, rfl, _, _⟩ := h2
    go_enter Tryz.func23, Tryz.ntmps23
    go_wp2_with fail
    refine (HR1.out _ (aBelow _ _)).mono ?_
    rintro e w1 ⟨rfl, n1⟩
    have d1 := belowA n1
    clear n1
    go_wp2_with fail
    go_ret
    exact ⟨⟨_, rfl, GRow.nil _⟩, d1⟩
  · rw [hr] at HR0
    exact answer_t v1 v2 q l w hE h1 h2 hr HR0 hm hb hn hs ho

end Go.Proofs.YtidkpalckafgkaaGreatDoor.Rw
