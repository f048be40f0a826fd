/- Walks: the fixed fact with which each law begins; sizes of texts. -/
import Derived.Test.YtfjbbaejeckonaaDoorT9
namespace Go.Proofs.YtfjbbaejeckonaaDoor
open Go Go.RowKit Go.Sort Tg

theorem pairB_list (t : Tag) : (pairB t).data.toList = pair t := by
  unfold pairB pair nm vl
  rw [ByteArray.data_append, ByteArray.data_append]
  simp
theorem textB_list (l : List Tag) : (textB l).data.toList = text l := by
  unfold textB joinB text
  rw [ba_list, List.map_map]
  congr 1
  apply List.map_congr_left
  intro t _
  exact pairB_list t
theorem lens_le (M : Nat) : ∀ r : List (List UInt8), (∀ x ∈ r, x.length ≤ M) → Lib.lens r ≤ r.length * M
  | [], _ => by simp [Lib.lens]
  | y :: r, h => by
    have ih := lens_le M r (fun x hx => h x (by simp [hx]))
    have h1 := h y (by simp)
    have e : Lib.lens (y :: r) = y.length + Lib.lens r := by simp [Lib.lens]
    rw [e, List.length_cons, Nat.add_mul]
    omega
theorem text_size (l : List Tag) (M : Nat) (h : ∀ t ∈ l, t.1.size + t.2.size + 1 ≤ M) : (textB l).size ≤ l.length * (M + 1) := by
  rw [size_list, textB_list]
  cases l with
  | nil => simp [text, Lib.join_nil]
  | cons t r =>
    have hp : ∀ u ∈ t :: r, (pair u).length ≤ M := by
      intro u hu
      have := h u hu
      unfold pair nm vl
      rw [List.length_append, List.length_cons, ← size_list, ← size_list]
      omega
    have hl := lens_le M (r.map pair) (by
      intro x hx
      obtain ⟨u, hu, rfl⟩ := List.mem_map.1 hx
      exact hp u (by simp [hu]))
    have h0 := hp t (by simp)
    unfold text
    rw [List.map_cons, Lib.join_cons, List.length_append, Lib.joinTail_length]
    rw [List.length_map] at hl
    have e1 : (([44] : List UInt8).length * (r.map pair).length) = r.length := by simp
    have e2 : (r.length + 1) * (M + 1) = r.length * M + r.length + M + 1 := by rw [Nat.add_mul, Nat.mul_add]; omega
    rw [e1, List.length_cons, e2]
    omega
theorem right_small {l : List Tag} (h : right l = true) : l.length ≤ 4 ∧ ∀ t ∈ l, t.1.size ≤ 12 ∧ t.2.size ≤ 12 := by
  simp only [right, Bool.and_eq_true, decide_eq_true_eq] at h
  refine ⟨h.1.2, fun t ht => ?_⟩
  have hm := List.all_eq_true.1 h.1.1 t ht
  simp only [may, Bool.and_eq_true] at hm
  have h1 := Word.name_value _ hm.1
  have h2 := hm.2
  simp only [Word.value, Word.fits, Bool.and_eq_true, decide_eq_true_eq] at h1 h2
  rw [size_list, size_list]
  exact ⟨h1.1.2, h2.1.2⟩
theorem right_text {l : List Tag} (h : right l = true) : (textB l).size ≤ 900 := by
  obtain ⟨h1, h2⟩ := right_small h
  have := text_size l 25 (fun t ht => by have := h2 t ht; omega)
  omega

def aTag : Tag := (⟨#[97]⟩, ⟨#[50]⟩)
def bTag : Tag := (⟨#[98]⟩, ⟨#[49]⟩)
theorem f_p1 : parse (⟨#[98, 61, 49, 44, 97, 61, 50]⟩ : ByteArray).data.toList = ([aTag, bTag], 0) := by kernel_rfl
theorem f_p2 : parse (⟨#[97, 61, 49, 44, 97, 61, 50]⟩ : ByteArray).data.toList = ([], 5) := by kernel_rfl
theorem f_p3 : parse (⟨#[97]⟩ : ByteArray).data.toList = ([], 2) := by kernel_rfl
theorem f_find : find [aTag, bTag] ⟨#[98]⟩ = (⟨#[49]⟩, true) := by kernel_rfl
theorem f_text : textB [aTag, bTag] = ⟨#[97, 61, 50, 44, 98, 61, 49]⟩ := by kernel_rfl
theorem f_right : right [aTag, bTag] = true := by kernel_rfl
theorem f_only : (only [aTag, bTag] [⟨#[98]⟩, ⟨#[99]⟩]).length = 1 := by kernel_rfl
theorem f_right0 : right [(⟨#[]⟩, ⟨#[]⟩)] = false := by kernel_rfl
theorem lies_two (w : World) (x y : ByteArray) : Lies (w.alloc (.cells #[.string x, .string y] 9)) w.heap.size 0 [x, y] := by
  intro j u h
  match j, h with
  | 0, h => simp at h; subst h; simp
  | 1, h => simp at h; subst h; simp
  | j + 2, h => simp at h
theorem row_two (w : World) (x y : ByteArray) : Row (w.alloc (.cells #[.string x, .string y] 9)) (.slice (some ⟨w.heap.size, 0, none⟩) 2 2) [x, y] :=
  ⟨_, 2, rfl, Nat.le_refl _, fun _ => ⟨_, 0, rfl, by simp, lies_two w x y⟩⟩
theorem row_zero (w : World) : TRow (w.alloc (.cells #[.string ⟨#[]⟩, .string ⟨#[]⟩] 40)) (.slice (some ⟨w.heap.size, 0, none⟩) 1 1) [(⟨#[]⟩, ⟨#[]⟩)] := by
  refine ⟨_, 1, rfl, Nat.le_refl _, fun _ => ⟨_, 0, rfl, by simp, ?_⟩⟩
  intro i hi
  have h0 : i = 0 := by simp at hi; exact hi
  subst h0
  constructor <;> simp
theorem belowAlloc {W w2 : World} {o : Obj} (hb : Below (W.alloc o).heap.size (W.alloc o) w2) : Below W.heap.size W w2 := ((Below.refl _ _).alloc (Nat.le_refl _) _).trans (hb.mono (by simp))
theorem alloc_below (W : World) (o : Obj) : Below W.heap.size W (W.alloc o) := (Below.refl _ _).alloc (Nat.le_refl _) _

end Go.Proofs.YtfjbbaejeckonaaDoor
