/- Walks: the fixed fact with which each law begins. -/
import Derived.Test.YtiaeopjfggiecaaDoorW6
import Derived.Test.YtiaeopjfggiecaaDoorW3
namespace Go.Proofs.YtiaeopjfggiecaaDoor
open Go Go.RowKit

theorem f_split : partsB 44 ⟨#[97, 44, 44, 98]⟩ = [⟨#[97]⟩, ⟨#[]⟩, ⟨#[98]⟩] := by
  have h : Word.parts 44 [97, 44, 44, 98] = [[97], [], [98]] := by decide +kernel
  show (Word.parts 44 [97, 44, 44, 98]).map ba = _
  rw [h]
  rfl
theorem f_split0 : partsB 44 ⟨#[]⟩ = [⟨#[]⟩] := rfl
theorem f_join : joinB ⟨#[45]⟩ [⟨#[120]⟩, ⟨#[121]⟩] = ⟨#[120, 45, 121]⟩ := rfl
theorem f_fields : (fieldsB ⟨#[32, 32, 97, 32, 32, 98, 32]⟩).length = 2 := by
  have h : Word.fields [32, 32, 97, 32, 32, 98, 32] = [[97], [98]] := by decide +kernel
  show ((Word.fields [32, 32, 97, 32, 32, 98, 32]).map ba).length = 2
  rw [h]
  rfl
theorem f_n1 : Word.name (⟨#[99, 112, 117, 95, 49]⟩ : ByteArray).data.toList = true := by decide +kernel
theorem f_n2 : Word.name (⟨#[49, 99, 112, 117]⟩ : ByteArray).data.toList = false := by decide +kernel
theorem f_n3 : Word.name (⟨#[]⟩ : ByteArray).data.toList = false := by decide +kernel
theorem f_v1 : Word.value (⟨#[49, 46, 97, 45, 98]⟩ : ByteArray).data.toList = true := by decide +kernel
theorem f_v2 : Word.value (⟨#[97, 32, 98]⟩ : ByteArray).data.toList = false := by decide +kernel

theorem belowAlloc {W w2 : World} {o : Obj} (hb : Below (W.alloc o).heap.size (W.alloc o) w2) : Below W.heap.size W w2 := ((Below.refl _ _).alloc (Nat.le_refl _) _).trans (hb.mono (by simp))
theorem lies_two (w : World) (x y : ByteArray) : Lies (w.alloc (.cells #[.string x, .string y] 9)) w.heap.size 0 [x, y] := by
  intro j u h
  match j, h with
  | 0, h => simp at h; subst h; simp
  | 1, h => simp at h; subst h; simp
  | j + 2, h => simp at h

set_option maxHeartbeats 1000000 in
theorem alive_any (w : World) (hE : Env w) :
    Calls Tryd.prog 7 #[] w fun e w' => e = .returned (.bool true) ∧ Below w.heap.size w w' := by
  have H1 := split_any ⟨#[97, 44, 44, 98]⟩ 44 w hE (by decide)
  have hL := splitW_lies 44 ⟨#[97, 44, 44, 98]⟩ w
  have d1 := splitW_below 44 ⟨#[97, 44, 44, 98]⟩ w
  have hz := splitW_size 44 ⟨#[97, 44, 44, 98]⟩ w
  rw [f_split] at H1 hL
  generalize splitW 44 ⟨#[97, 44, 44, 98]⟩ w = w1 at *
  have c0 := hL 0 _ rfl
  have c1 := hL 1 _ rfl
  have c2 := hL 2 _ rfl
  simp only [Nat.zero_add] at c0 c1 c2
  have hE1 := hE.go d1
  have H1 := Lib.hid H1
  clear hL
  go_enter Tryd.func7, Tryd.ntmps7
  go_wp2_with (go_at_call 14; refine (H1.out).mono ?_; rintro e w' ⟨rfl, rfl⟩)
  have hL2 := lies_two w' ⟨#[120]⟩ ⟨#[121]⟩
  rw [hz] at hL2
  refine (join_any (w.heap.size + 2) 0 2 [⟨#[120]⟩, ⟨#[121]⟩] ⟨#[45]⟩ _ hL2 (by simp; omega) (by decide) (by decide) (by rw [f_join]; decide)).mono ?_
  rintro e w2 ⟨rfl, n2⟩
  rw [f_join]
  have n2 := belowAlloc n2
  have d2 := d1.trans (n2.mono d1.size)
  have hE2 := hE1.go n2
  clear hL2 n2 d1 c0 c1 c2 hE1 hz H1
  go_wp2_with fail
  refine (fields_any _ w2 hE2 (by decide)).mono ?_
  rintro e w3 ⟨c3, rfl, _, _, _, n3⟩
  rw [f_fields]
  have d3 := d2.trans (n3.mono d2.size)
  have hE3 := hE2.go n3
  clear n3 d2 hE2
  go_wp2_with fail
  refine (split_any ⟨#[]⟩ 44 w3 hE3 (by decide)).mono ?_
  rintro e w4 ⟨rfl, rfl⟩
  rw [f_split0]
  have n4 := splitW_below 44 ⟨#[]⟩ w3
  have d4 := d3.trans (n4.mono d3.size)
  clear n4 d3 hE3
  generalize splitW 44 ⟨#[]⟩ w3 = w4 at *
  go_wp2_with fail
  refine (name_any _ w4 (by decide)).mono ?_
  rintro e w5 ⟨rfl, rfl⟩
  rw [f_n1]
  go_wp2_with fail
  refine (name_any _ _ (by decide)).mono ?_
  rintro e w5 ⟨rfl, rfl⟩
  rw [f_n2]
  go_wp2_with fail
  refine (name_any _ _ (by decide)).mono ?_
  rintro e w5 ⟨rfl, rfl⟩
  rw [f_n3]
  go_wp2_with fail
  refine (value_any _ _ (by decide)).mono ?_
  rintro e w5 ⟨rfl, rfl⟩
  rw [f_v1]
  go_wp2_with fail
  refine (value_any _ _ (by decide)).mono ?_
  rintro e w5 ⟨rfl, rfl⟩
  rw [f_v2]
  go_wp2_with fail
  go_ret
  exact ⟨rfl, d4⟩
end Go.Proofs.YtiaeopjfggiecaaDoor
