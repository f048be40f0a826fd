/- Rows sorted: a walk. -/
import Derived.Test.YtidkpalckafgkaaGreatDoorE7
import Derived.Test.YtidkpalckafgkaaGreatDoorShelf2
namespace Go.Proofs.YtidkpalckafgkaaGreatDoor.Rw
open Go Go.RowKit Go.Sort Go.Lib Tg Pk Ky Qy

set_option maxRecDepth 100000 in
theorem enters28 : ∀ args w, (callFunc 28 args).run Tryz.prog w = .ok (.enter 28 args) w := enters_of Tryz.func28 (by kernel_rfl) rfl
set_option maxRecDepth 100000 in
theorem agg29 (w : World) : (isAgg 29).run Tryz.prog w = .ok true w := by kernel_rfl
set_option maxRecDepth 100000 in
theorem size29 (w : World) : (Go.sizeOf 29).run Tryz.prog w = .ok 4 w := by kernel_rfl
theorem rlt_ltOf (x y : Row) : ltOf rcf x y = rlt x y := rcf_lt x y
theorem sorted_rows {l : List Row} {d : Array Row} (hp : PermIn 0 l.toArray.size l.toArray d) (hs : SortedIn (ltOf rcf) 0 l.toArray.size d) : d.toList.Perm l ∧ (d.toList.Pairwise fun a b => rlt b a = false) := by
  obtain ⟨p1, _, p3⟩ := hp
  have e1 : d.extract 0 l.toArray.size = d := by rw [← p1]; simp
  have e2 : l.toArray.extract 0 l.toArray.size = l.toArray := by simp
  rw [e1, e2] at p3
  refine ⟨by simpa using p3, ?_⟩
  rw [List.pairwise_iff_getElem]
  intro i j hi hj hij
  have hi' : i < d.size := by simpa using hi
  have hj' : j < d.size := by simpa using hj
  have := hs i j (Nat.zero_le _) hij (by omega)
  rw [rlt_ltOf, getElem!_pos _ i hi', getElem!_pos _ j hj'] at this
  simpa using this
theorem sortR_any (g cap : Nat) (l : List Row) (base : Nat) (w0 w : World) (hd : Below base w0 w) (hO : w.ownsRow base 29 4 (.slice (some ⟨g, 0, none⟩) l.length cap) l.length (flatG rowC l)) (hb : base ≤ w.heap.size) (hn : l.length ≤ 1000000) :
    Calls Tryz.prog 48 #[.slice (some ⟨g, 0, none⟩) l.length cap, .func (.func 28) #[] #[]] w fun e w' => e = .returned (.tuple #[]) ∧ ∃ S, S.Perm l ∧ (S.Pairwise fun a b => rlt b a = false) ∧ RLies w' g 0 S ∧ g < w'.heap.size ∧ Below base w0 w' := by
  obtain ⟨_, hgw, hg, _⟩ := ownG_cells rowC_len rfl hO
  have hH := ownG_holds rowC_len (by decide) rfl hO
  have hcon := Tryz.slices_SortFunc_row (α := Row) 4 agg29 size29 rowC rowC_len rowC_one rcf rcf_swo 28 #[] g 0 cap l.toArray w enters28 (fun _ _ _ _ x y => compare_any x y _) hH hgw (by simp; omega)
  have hz : l.toArray.size = l.length := by simp
  refine Calls.mono (by rw [← hz]; exact hcon) ?_
  rintro e w' ⟨he, d, m, os, hp, hs, hw⟩
  obtain ⟨q1, q2⟩ := sorted_rows hp hs
  refine ⟨he, d.toList, q1, q2, ?_, ?_, ?_⟩
  · rw [hw]
    exact holds_liesG rowC_len (holdsK_sortWorldK_c rowC 4 w g 0 l.toArray d m os hH hgw hp.1)
  · rw [hw]
    exact Nat.lt_of_lt_of_le hgw (size_sortWorldK_c rowC 4 w g 0 m d os)
  · rw [hw]
    exact below_sortG hd (by omega) hg

end Go.Proofs.YtidkpalckafgkaaGreatDoor.Rw
