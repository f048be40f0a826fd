/- Rows in memory; which of two comes first, and whether they rise: walks. -/
import Derived.Test.YtehgpibngalhfaaGreatDoorD0
import Derived.Test.YtehgpibngalhfaaGreatDoorM7
import Derived.Test.YtehgpibngalhfaaGreatDoorA2
namespace Go.Proofs.YtehgpibngalhfaaGreatDoor.Rw
open Go Go.RowKit Go.Sort Go.Lib Tg Pk Ky Qy

def rowC (r : Row) : List Value := [.int .i64 r.win, .string r.grp, .int .i64 r.n, .bool r.ov]
def itC (i : Item) : List Value := [.int .i64 i.win, .string i.key, .int .i64 i.c.cnt, .int .i64 i.c.sn, .bool i.c.so, .int .i64 i.c.mn, .int .i64 i.c.mx]
theorem rowC_len (r : Row) : (rowC r).length = 4 := rfl
theorem itC_len (i : Item) : (itC i).length = 7 := rfl
theorem rowC_one (r : Row) : ∀ v ∈ rowC r, v.oneCell' = true := by
  intro v hv
  simp [rowC] at hv
  rcases hv with rfl | rfl | rfl | rfl <;> rfl
theorem itC_one (i : Item) : ∀ v ∈ itC i, v.oneCell' = true := by
  intro v hv
  simp [itC] at hv
  rcases hv with rfl | rfl | rfl | rfl | rfl | rfl | rfl <;> rfl
abbrev RRow := GRow rowC 4
abbrev RAt := GAt rowC 4
abbrev RLies := GLies rowC 4
abbrev IRow := GRow itC 7
abbrev IAt := GAt itC 7
abbrev ILies := GLies itC 7
theorem r_at {w : World} {b o : Nat} {l : List Row} (h : RLies w b o l) (i : Nat) (hi : i < l.length) :
    w.cell? ⟨b, o + i * 4, none⟩ = some (.int .i64 (l[i]).win) ∧ w.cell? ⟨b, o + i * 4 + 1, none⟩ = some (.string (l[i]).grp) ∧ w.cell? ⟨b, o + i * 4 + 2, none⟩ = some (.int .i64 (l[i]).n) ∧ w.cell? ⟨b, o + i * 4 + 3, none⟩ = some (.bool (l[i]).ov) :=
  ⟨h i hi 0 _ rfl, h i hi 1 _ rfl, h i hi 2 _ rfl, h i hi 3 _ rfl⟩
theorem i_at {w : World} {b o : Nat} {l : List Item} (h : ILies w b o l) (i : Nat) (hi : i < l.length) :
    w.cell? ⟨b, o + i * 7, none⟩ = some (.int .i64 (l[i]).win) ∧ w.cell? ⟨b, o + i * 7 + 1, none⟩ = some (.string (l[i]).key) ∧ w.cell? ⟨b, o + i * 7 + 2, none⟩ = some (.int .i64 (l[i]).c.cnt) ∧ w.cell? ⟨b, o + i * 7 + 3, none⟩ = some (.int .i64 (l[i]).c.sn) ∧ w.cell? ⟨b, o + i * 7 + 4, none⟩ = some (.bool (l[i]).c.so) ∧ w.cell? ⟨b, o + i * 7 + 5, none⟩ = some (.int .i64 (l[i]).c.mn) ∧ w.cell? ⟨b, o + i * 7 + 6, none⟩ = some (.int .i64 (l[i]).c.mx) :=
  ⟨h i hi 0 _ rfl, h i hi 1 _ rfl, h i hi 2 _ rfl, h i hi 3 _ rfl, h i hi 4 _ rfl, h i hi 5 _ rfl, h i hi 6 _ rfl⟩
def rowV (r : Row) : Value := .agg #[.int .i64 r.win, .string r.grp, .int .i64 r.n, .bool r.ov]
def itV (i : Item) : Value := .agg #[.int .i64 i.win, .string i.key, .int .i64 i.c.cnt, .int .i64 i.c.sn, .bool i.c.so, .int .i64 i.c.mn, .int .i64 i.c.mx]

set_option maxRecDepth 100000 in
theorem isNaN_any (x : Int) (w : World) : Calls Tryz.prog 85 #[.int .i64 x] w fun e w' => e = .returned (.bool false) ∧ w' = w := by
  have h : (x != x) = false := by simp
  have h2 : (x == x) = true := by simp
  go_enter Tryz.func85, Tryz.ntmps85
  go_wp2
  go_ret
  exact ⟨by simp, rfl⟩

def cmpI (x y : Int) : Int := if x < y then -1 else if y < x then 1 else 0
set_option maxRecDepth 100000 in
set_option maxHeartbeats 1000000 in
theorem cmpI_any (x y : Int) (w : World) : Calls Tryz.prog 70 #[.int .i64 x, .int .i64 y] w fun e w' => e = .returned (.int .i64 (cmpI x y)) ∧ w' = w := by
  by_cases h : x < y
  · rw [show cmpI x y = -1 by unfold cmpI; rw [if_pos h]]
    go_enter Tryz.func70, Tryz.ntmps70
    go_wp2_with (first | (go_at_call 85; refine (isNaN_any _ _).mono ?_; rintro e w1 ⟨rfl, rfl⟩))
    go_ret
    exact ⟨rfl, rfl⟩
  · by_cases h' : y < x
    · rw [show cmpI x y = 1 by unfold cmpI; rw [if_neg h, if_pos h']]
      go_enter Tryz.func70, Tryz.ntmps70
      go_wp2_with (first | (go_at_call 85; refine (isNaN_any _ _).mono ?_; rintro e w1 ⟨rfl, rfl⟩))
      go_ret
      exact ⟨rfl, rfl⟩
    · rw [show cmpI x y = 0 by unfold cmpI; rw [if_neg h, if_neg h']]
      go_enter Tryz.func70, Tryz.ntmps70
      go_wp2_with (first | (go_at_call 85; refine (isNaN_any _ _).mono ?_; rintro e w1 ⟨rfl, rfl⟩))
      go_ret
      exact ⟨rfl, rfl⟩

def orI (x y : Int) : Int := if x = 0 then y else x
theorem orI_zero {x : Int} (y : Int) (h : x = 0) : orI x y = y := by unfold orI; rw [if_pos h]
theorem orI_not {x : Int} (y : Int) (h : ¬ x = 0) : orI x y = x := by unfold orI; rw [if_neg h]
set_option maxRecDepth 100000 in
set_option maxHeartbeats 1000000 in
theorem or_any (b : Nat) (x y : Int) (w : World) (h0 : w.cell? ⟨b, 0, none⟩ = some (.int .i64 x)) (h1 : w.cell? ⟨b, 1, none⟩ = some (.int .i64 y)) : Calls Tryz.prog 69 #[.slice (some ⟨b, 0, none⟩) 2 2] w fun e w' => e = .returned (.int .i64 (orI x y)) ∧ w' = w := by
  by_cases hx : x = 0
  · rw [orI_zero y hx]
    have q1 : (x != 0) = false := by simp [hx]
    have q2 : (x == 0) = true := by simp [hx]
    by_cases hy : y = 0
    · have q3 : (y != 0) = false := by simp [hy]
      have q4 : (y == 0) = true := by simp [hy]
      have Q := Lib.hid hy
      clear hx hy
      go_enter Tryz.func69, Tryz.ntmps69
      go_wp2
      refine wp_loop_rounds 3 ?_
      rw [rounds_succ]
      go_wp2
      rw [rounds_succ]
      go_wp2
      rw [rounds_succ]
      go_wp2
      go_ret
      exact ⟨by rw [Q.out]; rfl, rfl⟩
    · have q3 : (y != 0) = true := by simp [hy]
      have q4 : (y == 0) = false := by simp [hy]
      clear hx hy
      go_enter Tryz.func69, Tryz.ntmps69
      go_wp2
      refine wp_loop_rounds 3 ?_
      rw [rounds_succ]
      go_wp2
      rw [rounds_succ]
      go_wp2
      go_ret
      exact ⟨rfl, rfl⟩
  · rw [orI_not y hx]
    have q1 : (x != 0) = true := by simp [hx]
    have q2 : (x == 0) = false := by simp [hx]
    clear hx
    go_enter Tryz.func69, Tryz.ntmps69
    go_wp2
    refine wp_loop_rounds 3 ?_
    rw [rounds_succ]
    go_wp2
    go_ret
    exact ⟨rfl, rfl⟩

def Gw (W w' : World) : Prop := ∃ q os, w' = grow (W.drewN q) os
theorem Gw.refl (W : World) : Gw W W := ⟨0, #[], by rw [grow_empty]; rfl⟩
theorem Gw.alloc {W w' : World} (h : Gw W w') (o : Obj) : Gw W (w'.alloc o) := by
  obtain ⟨q, os, rfl⟩ := h
  exact ⟨q, os ++ #[o], by rw [alloc_eq_grow, grow_grow]⟩
theorem Gw.drew {W w' : World} (h : Gw W w') : Gw W w'.drew := by
  obtain ⟨q, os, rfl⟩ := h
  exact ⟨q + 1, os, by rw [drew_grow]; rfl⟩
theorem Gw.trans {W w1 w2 : World} (h : Gw W w1) (k : ∃ q os, w2 = grow (w1.drewN q) os) : Gw W w2 := by
  obtain ⟨q, os, rfl⟩ := h
  obtain ⟨q', os', rfl⟩ := k
  exact ⟨q + q', os ++ os', by
    show grow (grow ((W.drewN q).drewN q') os) os' = _
    rw [grow_grow, World.drewN_drewN]⟩
theorem Gw.below {W w' : World} (h : Gw W w') : Below W.heap.size W w' := by
  obtain ⟨q, os, rfl⟩ := h
  have hb : Below W.heap.size W (W.drewN q) := ⟨rfl, rfl, rfl, Nat.le_refl _, fun _ _ => rfl⟩
  exact below_growG hb (Nat.le_refl _) os
theorem heldC {ab bb : Nat} {aw bw : Int} {ag bg : ByteArray} {W w' : World} (o : Obj) (hab : ab < w'.heap.size) (hbb : bb < w'.heap.size)
    (h : w'.cell? ⟨ab, 0, none⟩ = some (.int .i64 aw) ∧ w'.cell? ⟨ab, 1, none⟩ = some (.string ag) ∧ w'.cell? ⟨bb, 0, none⟩ = some (.int .i64 bw) ∧ w'.cell? ⟨bb, 1, none⟩ = some (.string bg) ∧ Gw W w') :
    (w'.alloc o).cell? ⟨ab, 0, none⟩ = some (.int .i64 aw) ∧ (w'.alloc o).cell? ⟨ab, 1, none⟩ = some (.string ag) ∧ (w'.alloc o).cell? ⟨bb, 0, none⟩ = some (.int .i64 bw) ∧ (w'.alloc o).cell? ⟨bb, 1, none⟩ = some (.string bg) ∧ Gw W (w'.alloc o) := by
  have n : Below w'.heap.size w' (w'.alloc o) := (Below.refl _ _).alloc (Nat.le_refl _) _
  obtain ⟨h0, h1, h2, h3, h4⟩ := h
  exact ⟨by rw [n.cell (p := ⟨ab, 0, none⟩) hab]; exact h0, by rw [n.cell (p := ⟨ab, 1, none⟩) hab]; exact h1, by rw [n.cell (p := ⟨bb, 0, none⟩) hbb]; exact h2, by rw [n.cell (p := ⟨bb, 1, none⟩) hbb]; exact h3, h4.alloc o⟩
theorem rcf_or (a b : Row) : orI (cmpI a.win b.win) (Lib.compareBytes (gl a) (gl b)) = rcf a b := by
  unfold orI cmpI rcf
  by_cases h : a.win < b.win
  · rw [if_pos h, if_pos h]; rfl
  · rw [if_neg h, if_neg h]
    by_cases h' : b.win < a.win
    · rw [if_pos h', if_pos h']; rfl
    · rw [if_neg h', if_neg h']; rfl

set_option maxRecDepth 100000 in
set_option maxHeartbeats 2000000 in
theorem compare_any (a b : Row) (W : World) : Calls Tryz.prog 55 #[.agg (rowC a).toArray, .agg (rowC b).toArray] W fun e w' => e = .returned (.int .i64 (rcf a b)) ∧ ∃ q os, w' = grow (W.drewN q) os := by
  rw [← rcf_or]
  obtain ⟨aw, ag, an, ao⟩ := a
  obtain ⟨bw, bg, bn, bo⟩ := b
  show Calls Tryz.prog 55 #[.agg #[.int .i64 aw, .string ag, .int .i64 an, .bool ao], .agg #[.int .i64 bw, .string bg, .int .i64 bn, .bool bo]] W _
  go_enter Tryz.func55, Tryz.ntmps55
  go_wp2_with fail
  have g0 : Gw W ((W.alloc (.cells #[.int .i64 aw, .string ag, .int .i64 an, .bool ao] 45)).alloc (.cells #[.int .i64 bw, .string bg, .int .i64 bn, .bool bo] 45)) := ((Gw.refl W).alloc _).alloc _
  have c0 : ((W.alloc (.cells #[.int .i64 aw, .string ag, .int .i64 an, .bool ao] 45)).alloc (.cells #[.int .i64 bw, .string bg, .int .i64 bn, .bool bo] 45)).cell? ⟨W.heap.size, 0, none⟩ = some (.int .i64 aw) := by simp
  have c1 : ((W.alloc (.cells #[.int .i64 aw, .string ag, .int .i64 an, .bool ao] 45)).alloc (.cells #[.int .i64 bw, .string bg, .int .i64 bn, .bool bo] 45)).cell? ⟨W.heap.size, 1, none⟩ = some (.string ag) := by simp
  have c2 : ((W.alloc (.cells #[.int .i64 aw, .string ag, .int .i64 an, .bool ao] 45)).alloc (.cells #[.int .i64 bw, .string bg, .int .i64 bn, .bool bo] 45)).cell? ⟨W.heap.size + 1, 0, none⟩ = some (.int .i64 bw) := by simp
  have c3 : ((W.alloc (.cells #[.int .i64 aw, .string ag, .int .i64 an, .bool ao] 45)).alloc (.cells #[.int .i64 bw, .string bg, .int .i64 bn, .bool bo] 45)).cell? ⟨W.heap.size + 1, 1, none⟩ = some (.string bg) := by simp
  have hz : W.heap.size + 1 < ((W.alloc (.cells #[.int .i64 aw, .string ag, .int .i64 an, .bool ao] 45)).alloc (.cells #[.int .i64 bw, .string bg, .int .i64 bn, .bool bo] 45)).heap.size := by simp
  generalize (W.alloc (.cells #[.int .i64 aw, .string ag, .int .i64 an, .bool ao] 45)).alloc (.cells #[.int .i64 bw, .string bg, .int .i64 bn, .bool bo] 45) = w2 at *
  generalize hbb : W.heap.size + 1 = bb at *
  generalize hab : W.heap.size = ab at *
  have hzb : ab < w2.heap.size := by omega
  clear hab hbb
  have hS : w2.drew.cell? ⟨ab, 0, none⟩ = some (.int .i64 aw) ∧ w2.drew.cell? ⟨ab, 1, none⟩ = some (.string ag) ∧ w2.drew.cell? ⟨bb, 0, none⟩ = some (.int .i64 bw) ∧ w2.drew.cell? ⟨bb, 1, none⟩ = some (.string bg) ∧ Gw W w2.drew := ⟨c0, c1, c2, c3, g0.drew⟩
  clear c0 c1 c2 c3 g0
  have K : ∀ o, (w2.drew.alloc o).cell? ⟨ab, 0, none⟩ = some (.int .i64 aw) ∧ (w2.drew.alloc o).cell? ⟨ab, 1, none⟩ = some (.string ag) ∧ (w2.drew.alloc o).cell? ⟨bb, 0, none⟩ = some (.int .i64 bw) ∧ (w2.drew.alloc o).cell? ⟨bb, 1, none⟩ = some (.string bg) ∧ Gw W (w2.drew.alloc o) := fun o => heldC o hzb hz hS
  have n0 : ∀ x y, (w2.alloc (.cells #[.int .i64 x, .int .i64 y] 3)).drew.cell? ⟨w2.heap.size, 0, none⟩ = some (.int .i64 x) := fun x y => by show (w2.alloc _).cell? _ = _; simp
  have n1 : ∀ x y, (w2.alloc (.cells #[.int .i64 x, .int .i64 y] 3)).drew.cell? ⟨w2.heap.size, 1, none⟩ = some (.int .i64 y) := fun x y => by show (w2.alloc _).cell? _ = _; simp
  go_region_held3 (fun w' => w'.cell? ⟨ab, 0, none⟩ = some (.int .i64 aw) ∧ w'.cell? ⟨ab, 1, none⟩ = some (.string ag) ∧ w'.cell? ⟨bb, 0, none⟩ = some (.int .i64 bw) ∧ w'.cell? ⟨bb, 1, none⟩ = some (.string bg) ∧ Gw W w') (first | exact hS | exact K _) (first
    | (go_at_call 70; refine (cmpI_any _ _ _).mono ?_; rintro e w1 ⟨rfl, rfl⟩)
    | (go_at_call 71; refine (Tryz.strings_Compare _ _ _).mono ?_; rintro e w1 ⟨rfl, rfl⟩)
    | (go_at_call 69; refine (or_any _ _ _ _ (n0 _ _) (n1 _ _)).mono ?_; rintro e w1 ⟨rfl, rfl⟩)
    | fail)
  go_wp2
  go_ret
  exact ⟨rfl, (K _).2.2.2.2⟩

end Go.Proofs.YtehgpibngalhfaaGreatDoor.Rw
