/- Walks: the fixed fact with which each law begins. -/
import Derived.Test.YtolmgfeljpalgaaDoorP4
import Derived.Test.YtolmgfeljpalgaaDoorP6
import Derived.Test.YtolmgfeljpalgaaDoorPA
namespace Go.Proofs.YtolmgfeljpalgaaDoor
open Go Go.RowKit Tg Pk

def four : List Match := [(1, ⟨#[97]⟩, ⟨#[49]⟩), (2, ⟨#[98]⟩, ⟨#[50]⟩), (3, ⟨#[99]⟩, ⟨#[120]⟩), (4, ⟨#[100]⟩, ⟨#[]⟩)]
def tag1 : Tag := (⟨#[97]⟩, ⟨#[49]⟩)
def tag2 : Tag := (⟨#[99]⟩, ⟨#[120, 121]⟩)
def tag3 : Tag := (⟨#[100]⟩, ⟨#[48]⟩)
theorem g_p1 : pparse (⟨#[97, 61, 49, 44, 98, 33, 61, 50, 44, 99, 61, 120, 42, 44, 100]⟩ : ByteArray).data.toList = (four, 0) := by kernel_rfl
theorem g_p2 : pparse (⟨#[97, 61]⟩ : ByteArray).data.toList = ([], 2) := by kernel_rfl
theorem g_t : ptextB four = ⟨#[97, 61, 49, 44, 98, 33, 61, 50, 44, 99, 61, 120, 42, 44, 100]⟩ := by kernel_rfl
theorem g_r : pright four = true := by kernel_rfl
theorem g_f1 : pfits [tag1, tag2, tag3] four = true := by kernel_rfl
theorem g_f2 : pfits [tag2, tag3] four = false := by kernel_rfl
theorem g_f3 : pfits [] [] = true := rfl
theorem g_s1 : decide (four = four) = true := decide_eq_true rfl
theorem g_s2 : decide (four = []) = false := decide_eq_false (by intro h; cases h)
theorem MRow.open {w : World} {v : Value} {l : List Match} (h : MRow w v l) (hne : l ≠ []) : ∃ b o c, v = .slice (some ⟨b, o, none⟩) l.length c ∧ l.length ≤ c ∧ b < w.heap.size ∧ MLies w b o l := by
  obtain ⟨a, c, hv, hc, hat⟩ := h
  obtain ⟨b, o, rfl, hb, hL⟩ := hat hne
  exact ⟨b, o, c, hv, hc, hb, hL⟩
theorem MRow.shut {w : World} {b o c : Nat} {l : List Match} (hc : l.length ≤ c) (hb : b < w.heap.size) (hL : MLies w b o l) : MRow w (.slice (some ⟨b, o, none⟩) l.length c) l := ⟨_, c, rfl, hc, fun _ => ⟨b, o, rfl, hb, hL⟩⟩
theorem row_tags3 (w : World) (x y z : Tag) : TRow (w.alloc (.cells #[.string x.1, .string x.2, .string y.1, .string y.2, .string z.1, .string z.2] 37)) (.slice (some ⟨w.heap.size, 0, none⟩) 3 3) [x, y, z] := by
  refine ⟨_, 3, rfl, Nat.le_refl _, fun _ => ⟨_, 0, rfl, by simp, ?_⟩⟩
  intro i hi
  match i, hi with
  | 0, _ => constructor <;> simp
  | 1, _ => constructor <;> simp
  | 2, _ => constructor <;> simp
theorem row_tags2 (w : World) (x y z : Tag) : TRow (w.alloc (.cells #[.string x.1, .string x.2, .string y.1, .string y.2, .string z.1, .string z.2] 37)) (.slice (some ⟨w.heap.size, 2, none⟩) 2 2) [y, z] := by
  refine ⟨_, 2, rfl, Nat.le_refl _, fun _ => ⟨_, 2, rfl, by simp, ?_⟩⟩
  intro i hi
  match i, hi with
  | 0, _ => constructor <;> simp
  | 1, _ => constructor <;> simp

set_option maxRecDepth 100000 in
set_option maxHeartbeats 1000000 in
theorem alive_any (w : World) (hE : Env w) :
    Calls Tryd.prog 8 #[] w fun e w' => e = .returned (.bool true) ∧ Below w.heap.size w w' := by
  go_enter Tryd.func8, Tryd.ntmps8
  go_wp2_with fail
  refine (parseM_any _ _ hE (by decide)).mono ?_
  rw [g_p1]
  rintro e w1 ⟨⟨_, rfl, hr1⟩, d1⟩
  obtain ⟨b, o, c, rfl, hc, hb, hL⟩ := hr1.open (by decide)
  clear hr1
  go_wp2_with fail
  refine (parseM_any _ _ (hE.go d1) (by decide)).mono ?_
  rw [g_p2]
  rintro e w2 ⟨⟨_, rfl, hr2⟩, n2⟩
  have hL := hL.on hb n2
  have hb := Nat.lt_of_lt_of_le hb n2.size
  have d2 := d1.trans (n2.mono d1.size)
  obtain ⟨a2, c2, rfl, _, _⟩ := hr2
  clear n2 d1
  have t3 := row_tags3 w2 tag1 tag2 tag3
  have t2 := row_tags2 w2 tag1 tag2 tag3
  dsimp only [tag1, tag2, tag3] at t3 t2
  have d3 := d2.trans ((aBelow w2 (.cells #[.string ⟨#[97]⟩, .string ⟨#[49]⟩, .string ⟨#[99]⟩, .string ⟨#[120, 121]⟩, .string ⟨#[100]⟩, .string ⟨#[48]⟩] 37)).mono d2.size)
  have hL3 := hL.on hb (aBelow w2 (.cells #[.string ⟨#[97]⟩, .string ⟨#[49]⟩, .string ⟨#[99]⟩, .string ⟨#[120, 121]⟩, .string ⟨#[100]⟩, .string ⟨#[48]⟩] 37))
  have hb3 : b < (w2.alloc (.cells #[.string ⟨#[97]⟩, .string ⟨#[49]⟩, .string ⟨#[99]⟩, .string ⟨#[120, 121]⟩, .string ⟨#[100]⟩, .string ⟨#[48]⟩] 37)).heap.size := by simp; omega
  obtain ⟨x1, x2, x3⟩ := hL3 1 (by decide)
  obtain ⟨y1, y2, y3⟩ := hL3 2 (by decide)
  have HL3 := Lib.hid hL3
  have hl4 : four.length = 4 := rfl
  rw [hl4] at hc ⊢
  simp only [four, List.getElem_cons_succ, List.getElem_cons_zero] at x1 x2 x3 y1 y2 y3
  clear hL3 hL hl4 hE
  go_wp2_with fail
  clear x1 x2 x3 y1 y2 y3 hb
  have M := MRow.shut (l := four) hc hb3 HL3.out
  clear hb3 HL3
  generalize (w2.alloc (.cells #[.string ⟨#[97]⟩, .string ⟨#[49]⟩, .string ⟨#[99]⟩, .string ⟨#[120, 121]⟩, .string ⟨#[100]⟩, .string ⟨#[48]⟩] 37)) = w3 at *
  refine (textM_any _ four _ M (by decide) (by decide) (by decide)).mono ?_
  rw [g_t]
  rintro e w4 ⟨rfl, n4⟩
  have M := M.on n4
  have t3 := t3.on n4
  have t2 := t2.on n4
  have d4 := d3.trans (n4.mono d3.size)
  clear n4 d3
  go_wp2_with fail
  refine (rightM_any _ four _ M (by decide) (by decide)).mono ?_
  rw [g_r]
  rintro e w5 ⟨rfl, n5⟩
  have M := M.on n5
  have t3 := t3.on n5
  have t2 := t2.on n5
  have d5 := d4.trans (n5.mono d4.size)
  clear n5 d4
  go_wp2_with fail
  refine (fitsM_any _ _ [tag1, tag2, tag3] four _ t3 M (by decide) (by decide)).mono ?_
  rw [g_f1]
  rintro e w6 ⟨rfl, n6⟩
  have M := M.on n6
  have t3 := t3.on n6
  have t2 := t2.on n6
  have d6 := d5.trans (n6.mono d5.size)
  clear n6 d5
  go_wp2_with fail
  refine (fitsM_any _ _ [tag2, tag3] four _ t2 M (by decide) (by decide)).mono ?_
  rw [g_f2]
  rintro e w7 ⟨rfl, n7⟩
  have M := M.on n7
  have t3 := t3.on n7
  have t2 := t2.on n7
  have d7 := d6.trans (n7.mono d6.size)
  clear n7 d6
  go_wp2_with fail
  refine (fitsM_any _ _ [] [] _ (TRow.nil _) (MRow.nil _) (by decide) (by decide)).mono ?_
  rw [g_f3]
  rintro e w8 ⟨rfl, n8⟩
  have M := M.on n8
  have t3 := t3.on n8
  have t2 := t2.on n8
  have d8 := d7.trans (n8.mono d7.size)
  clear n8 d7
  go_wp2_with fail
  refine (same_any _ _ four four _ M M (by decide)).mono ?_
  rw [g_s1]
  rintro e w9 ⟨rfl, n9⟩
  have M := M.on n9
  have t3 := t3.on n9
  have t2 := t2.on n9
  have d9 := d8.trans (n9.mono d8.size)
  clear n9 d8
  go_wp2_with fail
  refine (same_any _ _ four [] _ M (MRow.nil _) (by decide)).mono ?_
  rw [g_s2]
  rintro e w10 ⟨rfl, n10⟩
  have M := M.on n10
  have t3 := t3.on n10
  have t2 := t2.on n10
  have d10 := d9.trans (n10.mono d9.size)
  clear n10 d9
  go_wp2_with fail
  go_ret
  exact ⟨rfl, d10⟩
end Go.Proofs.YtolmgfeljpalgaaDoor
