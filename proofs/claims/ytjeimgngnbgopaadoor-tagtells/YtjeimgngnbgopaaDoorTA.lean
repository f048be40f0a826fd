/- Walks: the fixed fact with which each law begins; sizes of texts. -/
import Derived.Test.YtjeimgngnbgopaaDoorT9
namespace Go.Proofs.YtjeimgngnbgopaaDoor
open Go Go.RowKit Go.Sort Tg

theorem pairB_list (t : Tag) : (pairB t).data.toList = pair t := by
  unfold pairB pair nm vl
  rw [ByteArray.data_append, ByteArray.data_append]
  simp
theorem textB_list (l : List Tag) : (textB l).data.toList = text l := by
  unfold textB joinB text
  rw [ba_list, List.map_map]
  congr 1
  apply List.map_congr_left
  intro t _
  exact pairB_list t
theorem lens_le (M : Nat) : ∀ r : List (List UInt8), (∀ x ∈ r, x.length ≤ M) → Lib.lens r ≤ r.length * M
  | [], _ => by simp [Lib.lens]
  | y :: r, h => by
    have ih := lens_le M r (fun x hx => h x (by simp [hx]))
    have h1 := h y (by simp)
    have e : Lib.lens (y :: r) = y.length + Lib.lens r := by simp [Lib.lens]
    rw [e, List.length_cons, Nat.add_mul]
    omega
theorem text_size (l : List Tag) (M : Nat) (h : ∀ t ∈ l, t.1.size + t.2.size + 1 ≤ M) : (textB l).size ≤ l.length * (M + 1) := by
  rw [size_list, textB_list]
  cases l with
  | nil => simp [text, Lib.join_nil]
  | cons t r =>
    have hp : ∀ u ∈ t :: r, (pair u).length ≤ M := by
      intro u hu
      have := h u hu
      unfold pair nm vl
      rw [List.length_append, List.length_cons, ← size_list, ← size_list]
      omega
    have hl := lens_le M (r.map pair) (by
      intro x hx
      obtain ⟨u, hu, rfl⟩ := List.mem_map.1 hx
      exact hp u (by simp [hu]))
    have h0 := hp t (by simp)
    unfold text
    rw [List.map_cons, Lib.join_cons, List.length_append, Lib.joinTail_length]
    rw [List.length_map] at hl
    have e1 : (([44] : List UInt8).length * (r.map pair).length) = r.length := by simp
    have e2 : (r.length + 1) * (M + 1) = r.length * M + r.length + M + 1 := by rw [Nat.add_mul, Nat.mul_add]; omega
    rw [e1, List.length_cons, e2]
    omega
theorem right_small {l : List Tag} (h : right l = true) : l.length ≤ 4 ∧ ∀ t ∈ l, t.1.size ≤ 12 ∧ t.2.size ≤ 12 := by
  simp only [right, Bool.and_eq_true, decide_eq_true_eq] at h
  refine ⟨h.1.2, fun t ht => ?_⟩
  have hm := List.all_eq_true.1 h.1.1 t ht
  simp only [may, Bool.and_eq_true] at hm
  have h1 := Word.name_value _ hm.1
  have h2 := hm.2
  simp only [Word.value, Word.fits, Bool.and_eq_true, decide_eq_true_eq] at h1 h2
  rw [size_list, size_list]
  exact ⟨h1.1.2, h2.1.2⟩
theorem right_text {l : List Tag} (h : right l = true) : (textB l).size ≤ 900 := by
  obtain ⟨h1, h2⟩ := right_small h
  have := text_size l 25 (fun t ht => by have := h2 t ht; omega)
  omega

def aTag : Tag := (⟨#[97]⟩, ⟨#[50]⟩)
def bTag : Tag := (⟨#[98]⟩, ⟨#[49]⟩)
theorem f_p1 : parse (⟨#[98, 61, 49, 44, 97, 61, 50]⟩ : ByteArray).data.toList = ([aTag, bTag], 0) := by kernel_rfl
theorem f_p2 : parse (⟨#[97, 61, 49, 44, 97, 61, 50]⟩ : ByteArray).data.toList = ([], 5) := by kernel_rfl
theorem f_p3 : parse (⟨#[97]⟩ : ByteArray).data.toList = ([], 2) := by kernel_rfl
theorem f_find : find [aTag, bTag] ⟨#[98]⟩ = (⟨#[49]⟩, true) := by kernel_rfl
theorem f_text : textB [aTag, bTag] = ⟨#[97, 61, 50, 44, 98, 61, 49]⟩ := by kernel_rfl
theorem f_right : right [aTag, bTag] = true := by kernel_rfl
theorem f_only : (only [aTag, bTag] [⟨#[98]⟩, ⟨#[99]⟩]).length = 1 := by kernel_rfl
theorem f_right0 : right [(⟨#[]⟩, ⟨#[]⟩)] = false := by kernel_rfl
theorem lies_two (w : World) (x y : ByteArray) : Lies (w.alloc (.cells #[.string x, .string y] 9)) w.heap.size 0 [x, y] := by
  intro j u h
  match j, h with
  | 0, h => simp at h; subst h; simp
  | 1, h => simp at h; subst h; simp
  | j + 2, h => simp at h
theorem row_two (w : World) (x y : ByteArray) : Row (w.alloc (.cells #[.string x, .string y] 9)) (.slice (some ⟨w.heap.size, 0, none⟩) 2 2) [x, y] :=
  ⟨_, 2, rfl, Nat.le_refl _, fun _ => ⟨_, 0, rfl, by simp, lies_two w x y⟩⟩
theorem row_zero (w : World) : TRow (w.alloc (.cells #[.string ⟨#[]⟩, .string ⟨#[]⟩] 41)) (.slice (some ⟨w.heap.size, 0, none⟩) 1 1) [(⟨#[]⟩, ⟨#[]⟩)] := by
  refine ⟨_, 1, rfl, Nat.le_refl _, fun _ => ⟨_, 0, rfl, by simp, ?_⟩⟩
  intro i hi
  have h0 : i = 0 := by simp at hi; exact hi
  subst h0
  constructor <;> simp
theorem belowAlloc {W w2 : World} {o : Obj} (hb : Below (W.alloc o).heap.size (W.alloc o) w2) : Below W.heap.size W w2 := ((Below.refl _ _).alloc (Nat.le_refl _) _).trans (hb.mono (by simp))
theorem alloc_below (W : World) (o : Obj) : Below W.heap.size W (W.alloc o) := (Below.refl _ _).alloc (Nat.le_refl _) _

set_option maxHeartbeats 1000000 in
theorem alive_any (w : World) (hE : Env w) :
    Calls Tryd.prog 7 #[] w fun e w' => e = .returned (.bool true) ∧ Below w.heap.size w w' := by
  go_enter Tryd.func7, Tryd.ntmps7
  go_wp2_with fail
  refine (parse_any _ _ hE (by decide)).mono ?_
  rw [f_p1]
  rintro e w1 ⟨⟨v1, rfl, hr1⟩, d1⟩
  have hE1 := hE.go d1
  go_wp2_with fail
  refine (parse_any _ _ hE1 (by decide)).mono ?_
  rw [f_p2]
  rintro e w2 ⟨⟨v2, rfl, hr2⟩, n2⟩
  have hE2 := hE1.go n2
  have d2 := d1.trans (n2.mono d1.size)
  have hr1 := hr1.on n2
  clear n2 d1 hE1 hr2
  go_wp2_with fail
  refine (parse_any _ _ hE2 (by decide)).mono ?_
  rw [f_p3]
  rintro e w3 ⟨⟨v3, rfl, hr3⟩, n3⟩
  have d3 := d2.trans (n3.mono d2.size)
  have hr1 := hr1.on n3
  clear n3 d2 hE2 hr3
  go_wp2_with fail
  refine (find_any v1 [aTag, bTag] ⟨#[98]⟩ _ hr1 (by decide)).mono ?_
  rw [f_find]
  rintro e w4 ⟨rfl, n4⟩
  have d4 := d3.trans (n4.mono d3.size)
  have hr1 := hr1.on n4
  clear n4 d3
  go_wp2_with fail
  refine (text_any v1 [aTag, bTag] _ hr1 (by decide) (by decide) (by rw [f_text]; decide)).mono ?_
  rw [f_text]
  rintro e w5 ⟨rfl, n5⟩
  have d5 := d4.trans (n5.mono d4.size)
  have hr1 := hr1.on n5
  clear n5 d4
  go_wp2_with fail
  refine (right_any v1 [aTag, bTag] _ hr1 (by decide) (by decide)).mono ?_
  rw [f_right]
  rintro e w6 ⟨rfl, n6⟩
  have d6 := d5.trans (n6.mono d5.size)
  have hr1 := hr1.on n6
  clear n6 d5
  go_wp2_with fail
  refine (only_any v1 _ [aTag, bTag] [⟨#[98]⟩, ⟨#[99]⟩] _ (hr1.on (alloc_below _ _)) (row_two w6 _ _) (by decide) (by decide)).mono ?_
  rintro e w7 ⟨⟨v7, rfl, hr7⟩, n7⟩
  have d7 := d6.trans ((belowAlloc n7).mono d6.size)
  obtain ⟨a7, c7, hv7, _, _⟩ := hr7
  rw [f_only] at hv7
  subst hv7
  clear n7 d6
  go_wp2_with fail
  refine (right_any _ [(⟨#[]⟩, ⟨#[]⟩)] _ (row_zero w7) (by decide) (by decide)).mono ?_
  rw [f_right0]
  rintro e w8 ⟨rfl, n8⟩
  have d8 := d7.trans ((belowAlloc n8).mono d7.size)
  go_wp2_with fail
  go_ret
  exact ⟨rfl, d8⟩
end Go.Proofs.YtjeimgngnbgopaaDoor
